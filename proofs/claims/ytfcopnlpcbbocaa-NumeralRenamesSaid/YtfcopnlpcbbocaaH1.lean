/- Contracts: the system of the chapter's examples. -/
import Derived.Test.YtfcopnlpcbbocaaH0
import Derived.Deep.RegionHeld3
import Derived.Deep.RegionLaw
set_option linter.unusedSimpArgs false
set_option linter.unusedVariables false
namespace Go.Proofs.Ytfcopnlpcbbocaa
open Go.RowKit

def enW : List ByteArray := [⟨#[122, 101, 114, 111]⟩, ⟨#[111, 110, 101]⟩, ⟨#[116, 119, 111]⟩, ⟨#[116, 104, 114, 101, 101]⟩, ⟨#[102, 111, 117, 114]⟩, ⟨#[102, 105, 118, 101]⟩, ⟨#[115, 105, 120]⟩, ⟨#[115, 101, 118, 101, 110]⟩, ⟨#[101, 105, 103, 104, 116]⟩, ⟨#[110, 105, 110, 101]⟩, ⟨#[116, 101, 101, 110]⟩, ⟨#[116, 121]⟩]
def enT (t : ByteArray) : Term := ⟨0, [⟨-1, -1, -1, t⟩]⟩
def enR (i : Nat) : Rul := ⟨i, 0, [⟨1, i, 0, 0⟩]⟩
def enT2 : List Term := [⟨0, [⟨-1, -1, 1, ⟨#[104, 117, 110, 100, 114, 101, 100]⟩⟩, ⟨-1, -1, -1, ⟨#[104, 117, 110, 100, 114, 101, 100, 115]⟩⟩]⟩, ⟨0, [⟨-1, -1, -1, ⟨#[97, 110, 100]⟩⟩]⟩]
def enR1 : Rul := ⟨10, 10, [⟨3, 0, 0, 0⟩, ⟨1, 11, 0, 0⟩, ⟨4, 0, 0, 0⟩]⟩
def enR2 : Rul := ⟨100, 100, [⟨3, 0, 0, 0⟩, ⟨2, 12, 0, 0⟩, ⟨5, 13, 0, 10⟩, ⟨4, 0, 0, 0⟩]⟩
def tsK (k : Nat) : List Term := (enW.take k).map enT
def rsK (k : Nat) : List Rul := (List.range (min k 10)).map enR
def enS : Sys := ⟨999, 1, 1, 2, tsK 12 ++ enT2, [⟨1000000, 1, 1, 1⟩], [rsK 12 ++ [enR1] ++ [enR2]]⟩
theorem tsK_len {k : Nat} (h : k ≤ 12) : (tsK k).length = k := by
  have : enW.length = 12 := rfl
  unfold tsK
  rw [List.length_map, List.length_take]; omega
theorem tsK_succ {k : Nat} (h : k < enW.length) : tsK (k + 1) = tsK k ++ [enT enW[k]] := by
  unfold tsK
  rw [take_succ enW k h, List.map_append]; rfl
theorem rsK_len (k : Nat) : (rsK k).length = min k 10 := by unfold rsK; simp
theorem rsK_succ {k : Nat} (h : k < 10) : rsK (k + 1) = rsK k ++ [enR k] := by
  unfold rsK
  rw [show min (k + 1) 10 = k + 1 by omega, show min k 10 = k by omega, List.range_succ, List.map_append]; rfl
theorem rsK_same {k : Nat} (h : 10 ≤ k) : rsK (k + 1) = rsK k := by
  unfold rsK
  rw [show min (k + 1) 10 = 10 by omega, show min k 10 = 10 by omega]
theorem enW_size : ∀ t ∈ enW, t.size ≤ most := by
  have h : (enW.all fun t => decide (t.size ≤ 10)) = true := rfl
  intro t ht
  have := List.all_eq_true.1 h t ht
  have := of_decide_eq_true this
  unfold most; omega
theorem info62 : (Try.prog.info? 62).map (fun i => (i.zero, i.size, i.bytes)) = some (some (.agg #[.int .i64 0, .slice none 0 0]), 2, 32) := by kernel_rfl
theorem info54 : (Try.prog.info? 54).map (fun i => (i.zero, i.size, i.bytes)) = some (some (.agg #[.int .i64 0, .int .i64 0, .slice none 0 0]), 3, 40) := by kernel_rfl
abbrev strs (l : List ByteArray) : Array Value := (l.map Value.string).toArray
def pluBlock : Obj := .cells #[.int .i64 1000000, .int .i64 1, .int .i64 1, .int .i64 1] 101 (0, 0)
abbrev EnW (n : Nat) (w W : World) (v u : Value) (ts : List Term) (rs : List Rul) : Prop :=
  EnAt n n (n + 1 + 1 + 1) 999 2 (.slice (some ⟨n + 1 + 1, 0, none⟩) 1 1) w W v u ts rs ∧ W.heap[n + 1]? = some (.cells (strs enW) 9 (0, 0)) ∧ W.heap[n + 1 + 1]? = some pluBlock
theorem EnW.mono {n : Nat} {w W W' : World} {v u v' u' : Value} {ts ts' : List Term} {rs rs' : List Rul} (h : EnW n w W v u ts rs) (hE : EnAt n n (n + 1 + 1 + 1) 999 2 (.slice (some ⟨n + 1 + 1, 0, none⟩) 1 1) w W' v' u' ts' rs' ∧ Kp n ownEn W W') : EnW n w W' v' u' ts' rs' :=
  ⟨hE.1, hE.2.cells _ _ _ _ h.2.1 rfl, hE.2.cells _ _ _ _ h.2.2 rfl⟩

theorem two_new {w : World} {F T : Obj} : ((w.alloc F).alloc T).drew.heap[w.heap.size]? = some F ∧ ((w.alloc F).alloc T).drew.heap[w.heap.size + 1]? = some T := by
  refine ⟨heap_keep (bAlloc (Below.refl _ _) T) (World.alloc_heap_new w F), ?_⟩
  have := World.alloc_heap_new (w.alloc F) T
  rw [World.size_alloc] at this; exact this

theorem three_new {w : World} {F G T : Obj} : (((w.alloc F).alloc G).alloc T).heap[w.heap.size]? = some F ∧ (((w.alloc F).alloc G).alloc T).heap[w.heap.size + 1]? = some G ∧ (((w.alloc F).alloc G).alloc T).heap[w.heap.size + 1 + 1]? = some T := by
  refine ⟨heap_keep (bAlloc (bAlloc (Below.refl _ _) G) T) (World.alloc_heap_new w F), ?_, ?_⟩
  · have := heap_keep (bAlloc (Below.refl _ _) T) (World.alloc_heap_new (w.alloc F) G)
    rw [World.size_alloc] at this; exact this
  · have := World.alloc_heap_new ((w.alloc F).alloc G) T
    rw [World.size_alloc, World.size_alloc] at this; exact this
theorem seven_of {c : Array Value} (hc : c.size = 7) : ∃ a0 a1 a2 a3 a4 a5 a6, c = #[a0, a1, a2, a3, a4, a5, a6] := by
  refine ⟨c[0], c[1], c[2], c[3], c[4], c[5], c[6], Array.ext (by simp [hc]) fun i h1 h2 => ?_⟩
  have : i = 0 ∨ i = 1 ∨ i = 2 ∨ i = 3 ∨ i = 4 ∨ i = 5 ∨ i = 6 := by omega
  rcases this with rfl | rfl | rfl | rfl | rfl | rfl | rfl <;> rfl
theorem seven_set {W : World} {b : Nat} {c : Array Value} (x0 x1 x2 x3 x4 x5 x6 : Value) (hb : W.heap[b]? = some (.cells c 26 (0, 0))) (hc : c.size = 7) :
    (((((((W.setCell ⟨b, 0, none⟩ x0).setCell ⟨b, 1, none⟩ x1).setCell ⟨b, 2, none⟩ x2).setCell ⟨b, 3, none⟩ x3).setCell ⟨b, 4, none⟩ x4).setCell ⟨b, 5, none⟩ x5).setCell ⟨b, 6, none⟩ x6).heap[b]? = some (.cells #[x0, x1, x2, x3, x4, x5, x6] 26 (0, 0)) ∧
    (∀ (own : Nat → Bool) (n : Nat), own 26 = true → n ≤ b → Kp n own W (((((((W.setCell ⟨b, 0, none⟩ x0).setCell ⟨b, 1, none⟩ x1).setCell ⟨b, 2, none⟩ x2).setCell ⟨b, 3, none⟩ x3).setCell ⟨b, 4, none⟩ x4).setCell ⟨b, 5, none⟩ x5).setCell ⟨b, 6, none⟩ x6)) := by
  have b0 := set_block (o := 0) hb x0
  have b1 := set_block (o := 1) b0 x1
  have b2 := set_block (o := 2) b1 x2
  have b3 := set_block (o := 3) b2 x3
  have b4 := set_block (o := 4) b3 x4
  have b5 := set_block (o := 5) b4 x5
  have b6 := set_block (o := 6) b5 x6
  refine ⟨?_, fun own n ho hn => (((((((kp_set hb ho hn x0).trans (kp_set b0 ho hn x1)).trans (kp_set b1 ho hn x2)).trans (kp_set b2 ho hn x3)).trans (kp_set b3 ho hn x4)).trans (kp_set b4 ho hn x5)).trans (kp_set b5 ho hn x6))⟩
  rw [b6]
  obtain ⟨a0, a1, a2, a3, a4, a5, a6, rfl⟩ := seven_of hc
  rfl
theorem ownsRow_kp {own : Nat → Bool} {W W' : World} {n base e size k : Nat} {v : Value} {xs : List Value} (h : W.ownsRow base e size v k xs) (hk : Kp n own W W') (he : own e = false) : W'.ownsRow base e size v k xs :=
  ⟨h.1, h.2.imp id fun ⟨g, cap, cur, h1, h2, h3, h4⟩ => ⟨g, cap, cur, h1, h2, hk.cells _ _ _ _ h3 he, h4⟩⟩
theorem OwnsV.kp {α : Type} {own : Nat → Bool} {W W' : World} {base e size n : Nat} {v : Value} {R : World → List Value → α → Prop} {xs : List α} (h : OwnsV W base e size v R xs) (hR : Held own R) (hk : Kp n own W W') (he : own e = false) : OwnsV W' base e size v R xs := by
  obtain ⟨cs, h1, h2, h3, h4⟩ := h
  exact ⟨cs, h1, h2, ownsRow_kp h3 hk he, fun i hi hi' => hR n _ _ _ _ hk (h4 i hi hi')⟩
def own26 (t : Nat) : Bool := t == 26
theorem enT2_size : ∀ t ∈ enT2, ∀ f ∈ t.forms, f.txt.size ≤ most := by
  intro t ht f hf
  simp [enT2] at ht
  rcases ht with rfl | rfl
  · simp at hf
    rcases hf with rfl | rfl <;> (unfold most; decide)
  · simp at hf
    subst hf
    unfold most; decide
set_option maxRecDepth 100000 in
set_option maxHeartbeats 4000000 in
theorem english_any (w : World) : Calls Try.prog 41 #[] w fun e w' => ∃ vt vp vs, (e = .returned (sysVal enS vt vp vs) ∧ SysParts w' vt vp vs enS) ∧ Below w.heap.size w w' := by
  obtain ⟨i62, hi, hz0, hz1, hz2⟩ := info_parts info62
  obtain ⟨i54, hj, hy0, hy1, hy2⟩ := info_parts info54
  have HI := Lib.hid hi
  have HJ := Lib.hid hj
  clear hi hj
  go_enter Try.func41, Try.ntmps41
  go_wp2_with fail
  obtain ⟨n, hn⟩ : ∃ n, n = w.heap.size := ⟨_, rfl⟩
  rw [← hn]
  generalize hW4 : World.alloc _ _ = W4
  have hB4 : Below n w W4 := by rw [← hW4, hn]; exact bAlloc (bAlloc (bAlloc (bAlloc (Below.refl _ _) _) _) _) _
  have hsz : W4.heap.size = n + 4 := by rw [← hW4, hn]; simp
  have hE : EnW n w W4 (.slice none 0 0) (.slice none 0 0) (tsK 0) (rsK 0) := by
    refine ⟨⟨⟨#[.int .i64 0, .int .i64 0, .int .i64 0, .int .i64 0, .slice none 0 0, .slice none 0 0, .slice none 0 0], ?_, rfl⟩, ?_, OwnsV.nil _ _ _ _ _, OwnsV.nil _ _ _ _ _, hB4, by omega, Nat.le_refl _, by omega⟩, ?_, ?_⟩
    · rw [← hW4, hn]; exact heap_keep (bAlloc (bAlloc (bAlloc (Below.refl _ _) _) _) _) (World.alloc_heap_new w _)
    · rw [← hW4, hn]; have := World.alloc_heap_new (((w.alloc (.cells #[.int .i64 0, .int .i64 0, .int .i64 0, .int .i64 0, .slice none 0 0, .slice none 0 0, .slice none 0 0] 26)).alloc (.cells (strs enW) 9)).alloc pluBlock) (sBlock 999 2 (.slice none 0 0) (.slice (some ⟨w.heap.size + 1 + 1, 0, none⟩) 1 1) (.slice none 0 0)); rw [World.size_alloc, World.size_alloc, World.size_alloc] at this; exact this
    · rw [← hW4, hn]; have := heap_keep (bAlloc (bAlloc (Below.refl _ _) pluBlock) (sBlock 999 2 (.slice none 0 0) (.slice (some ⟨w.heap.size + 1 + 1, 0, none⟩) 1 1) (.slice none 0 0))) (World.alloc_heap_new (w.alloc (.cells #[.int .i64 0, .int .i64 0, .int .i64 0, .int .i64 0, .slice none 0 0, .slice none 0 0, .slice none 0 0] 26)) (.cells (strs enW) 9)); rw [World.size_alloc] at this; exact this
    · rw [← hW4, hn]; have := heap_keep (bAlloc (Below.refl _ _) (sBlock 999 2 (.slice none 0 0) (.slice (some ⟨w.heap.size + 1 + 1, 0, none⟩) 1 1) (.slice none 0 0))) (World.alloc_heap_new ((w.alloc (.cells #[.int .i64 0, .int .i64 0, .int .i64 0, .int .i64 0, .slice none 0 0, .slice none 0 0, .slice none 0 0] 26)).alloc (.cells (strs enW) 9)) pluBlock); rw [World.size_alloc, World.size_alloc] at this; exact this
  clear hW4
  have hn1 : n ≤ w.heap.size := by omega
  have hn2 : w.heap.size ≤ n := by omega
  have HNn := Lib.hid hn
  have HE := Lib.hid hE
  clear hn hsz hE hB4
  go_loopw [3, 4] (fun u i wr => ∃ (k : Nat) (v : Value), k ≤ 12 ∧ i = .int .i64 k ∧ Hid (EnW n w wr v u (tsK k) (rsK k))) (fun _ i _ => 12 - (intOf i).toNat)
  case atStart => exact ⟨0, _, by omega, rfl, HE⟩
  case round =>
    obtain ⟨k, v, hk, rfl, HE⟩ := hrel
    by_cases hlt : k < 12
    · have hE := HE.out
      obtain ⟨cs, hcs1, hcs2, hrow, hcs3⟩ := hE.1.terms
      have hkl : k < enW.length := by simpa [enW] using hlt
      have hlen : (tsK k).length = k := tsK_len hk
      rw [hlen] at hrow
      obtain ⟨ad, cap, rfl⟩ := ownsRow_slice hrow
      obtain ⟨es, hes1, hes2, hrow2, hes3⟩ := hE.1.rules
      obtain ⟨m, hm⟩ : ∃ m, m = min k 10 := ⟨_, rfl⟩
      rw [rsK_len, ← hm] at hrow2
      obtain ⟨ad2, cap2, rfl⟩ := ownsRow_slice hrow2
      have HMM := Lib.hid hm
      clear hm
      have HN3 := Lib.hid (apart_row hE.1.sys hrow (by decide))
      have hsz := hE.1.size
      have cw : wr.cell? ⟨n + 1, k, none⟩ = some (.string enW[k]) := by simp [World.cell?, hE.2.1, hkl]
      have c4 : wr.cell? ⟨n + 1 + 1 + 1, 4, none⟩ = some (.slice ad k cap) := by simp [World.cell?, hE.1.sys, sBlock]
      have f4 : wr.frozen? ⟨n + 1 + 1 + 1, 4, none⟩ = false := by simp [World.frozen?, hE.1.sys, sBlock]
      have HRW := Lib.hid hrow
      have HLEN := Lib.hid hlen
      have HCS := Lib.hid (And.intro hcs1 (And.intro hcs2 hcs3))
      have HT := Lib.hid (tsK_succ hkl)
      clear hE hrow hrow2 hlen hcs1 hcs2 hcs3 hes1 hes2 hes3
      have hk0 : (0 : Int) ≤ (k : Int) := by omega
      have hk1 : (k : Int) < 12 := by omega
      have hmt : enW[k].size ≤ most := enW_size _ (List.getElem_mem hkl)
      have HMT := Lib.hid hmt
      clear hmt
      generalize enW[k] = p at *
      have hl4 : n + 1 + 1 + 1 < wr.heap.size := hsz.1
      have hl5 : n + 1 + 1 + 1 < wr.heap.size + 1 := by omega
      have hl6 : n + 1 < wr.heap.size := by omega
      have hl7 : n + 1 < wr.heap.size + 1 := by omega
      clear hsz
      have HK : Hid (∀ W', Below wr.heap.size wr W' → (W'.cell? ⟨n + 1 + 1 + 1, 4, none⟩ = some (.slice ad k cap) ∧ W'.cell? ⟨n + 1, k, none⟩ = some (.string p))) := Lib.hid fun W' hB => ⟨keep hB c4, keep hB cw⟩
      have HF : Hid (∀ W', Below wr.heap.size wr W' → W'.frozen? ⟨n + 1 + 1 + 1, 4, none⟩ = false) := Lib.hid fun W' hB => (hB.frozen (p := ⟨n + 1 + 1 + 1, 4, none⟩) hl4).trans f4
      have hm1 : k + 1 ≤ maxLen := by unfold maxLen; omega
      have hm2 : (k + 1) * 32 ≤ 140737488355328 := by omega
      have HM1 := Lib.hid hm1
      have HM2 := Lib.hid hm2
      clear hm1 hm2
      go_wp2_with fail
      go_region_law ((refine step_append_lies _ (by rfl) _ _ _ (by rfl) n 62 i62 _ 2 32 Try.underlying22 HI.out hz0 hz1 hz2 rfl (by omega) (.slice ad k cap) k cs.flatten (by rfl) (((HRW.out.alloc _).alloc _).drew) ⟨wr.heap.size + 1, 0, none⟩ 1 1 [.int .i64 0, .slice (some ⟨wr.heap.size, 0, none⟩) 1 1] (by rfl) (by rfl) (World.news_of_block two_new.2) (by simp [Value.oneCell']) (by omega) HM1.out HM2.out (by simp; omega) (wr.heap.size + 1 + 1) (by simp) ?_; intro gg cap1 w1 hown1 hgrow hat hlt1; have hfz : w1.frozen? ⟨n + 1 + 1 + 1, 4, none⟩ = false := (hgrow.frozen_far ⟨n + 1 + 1 + 1, 4, none⟩ (by simp; omega) HN3.out).trans (HF.out _ (by (repeat (first | exact Below.refl _ _ | refine Below.drew ?_ | refine bAlloc ?_ _)))); have hcz : w1.cell? ⟨n + 1 + 1 + 1, 4, none⟩ = some (.slice ad k cap) := (hgrow.cell_far ⟨n + 1 + 1 + 1, 4, none⟩ (by simp; omega) HN3.out).trans (HK.out _ (by (repeat (first | exact Below.refl _ _ | refine Below.drew ?_ | refine bAlloc ?_ _)))).1))
      all_goals
        have hE1 := EnAt.moreTerms (w1 := w1) (v' := .slice (some ⟨gg, 0, none⟩) (k + 1) cap1) (ys := [enT p]) (ds := [[.int .i64 0, .slice (some ⟨wr.heap.size, 0, none⟩) 1 1]]) (HE.out.1.below (Below.drew (bAlloc (bAlloc (Below.refl _ _) (.cells #[.int .i64 (-1), .int .i64 (-1), .int .i64 (-1), .string p] 90)) (.cells #[.int .i64 0, .slice (some ⟨wr.heap.size, 0, none⟩) 1 1] 62))) (by omega))
          HCS.out.1 HCS.out.2.1 (by rw [HLEN.out]; exact (((HRW.out.alloc _).alloc _).drew)) (fun i h h' => TermC.held (own := ownEn) rfl n _ _ _ _ (Kp.of_below (Below.drew (bAlloc (bAlloc (Below.refl _ _) _) _)) (by omega)) (HCS.out.2.2 i h h')) hgrow (by rw [HLEN.out]; simpa using hown1) rfl (by simp)
          (fun i h h' => by
            obtain rfl : i = 0 := by simp at h; omega
            exact ⟨wr.heap.size, 1, rfl, two_new.1, by simp [enT], by intro f hf; simp [enT] at hf; rw [hf]; exact HMT.out⟩)
        have hE2 : EnW n w (w1.setCell ⟨n + 1 + 1 + 1, 4, none⟩ (.slice (some ⟨gg, 0, none⟩) (k + 1) cap1)) (.slice (some ⟨gg, 0, none⟩) (k + 1) cap1) (.slice ad2 m cap2) (tsK (k + 1)) (rsK k) := by
          rw [HT.out]
          exact EnW.mono (W := ((wr.alloc (.cells #[.int .i64 (-1), .int .i64 (-1), .int .i64 (-1), .string p] 90)).alloc (.cells #[.int .i64 0, .slice (some ⟨wr.heap.size, 0, none⟩) 1 1] 62)).drew) ⟨HE.out.1.below (Below.drew (bAlloc (bAlloc (Below.refl _ _) _) _)) (by omega), heap_keep (Below.drew (bAlloc (bAlloc (Below.refl _ _) _) _)) HE.out.2.1, heap_keep (Below.drew (bAlloc (bAlloc (Below.refl _ _) _) _)) HE.out.2.2⟩ hE1
        clear hE1 hfz hcz hat hlt1 hown1 hgrow
        generalize World.setCell w1 _ _ = V at *
        have HE2 := Lib.hid hE2
        clear hE2 c4 cw f4
        by_cases h10 : k < 10
        · have hk10 : (k : Int) < 10 := by omega
          obtain rfl : m = k := by have := HMM.out; omega
          obtain ⟨es, hes1, hes2, hrow2, hes3⟩ := HE2.out.1.rules
          have hrl : (rsK m).length = m := by rw [rsK_len]; omega
          rw [hrl] at hrow2
          have HR2 := Lib.hid hrow2
          have HES := Lib.hid (And.intro hes1 (And.intro hes2 (And.intro hes3 hrl)))
          have hsV := HE2.out.1.size
          have hVn : n ≤ V.heap.size := by omega
          clear hrow2 hes1 hes2 hes3 hrl hsV
          have hm1 : m + 1 ≤ maxLen := by unfold maxLen; omega
          have hm2 : (m + 1) * 40 ≤ 140737488355328 := by omega
          have HM3 := Lib.hid hm1
          have HM4 := Lib.hid hm2
          clear hm1 hm2
          go_wp2_with (at_builtin; refine wpList_append_lies _ rfl _ _ _ rfl n 54 i54 _ 3 40 Try.underlying55 HJ.out hy0 hy1 hy2 rfl (by omega) (.slice ad2 m cap2) m es.flatten (by rfl) ((HR2.out.alloc _).alloc _) ⟨V.heap.size + 1, 0, none⟩ 1 1 [.int .i64 m, .int .i64 0, .slice (some ⟨V.heap.size, 0, none⟩) 1 1] (by rfl) (by rfl) (World.news_of_block two_new.2) (by simp [Value.oneCell']) (by omega) HM3.out HM4.out (by simp; omega) (V.heap.size + 1 + 1) (by simp) ?_; intro g2 cap3 w2 hown2 hgrow2 hat2 hlt2)
          have hR := EnAt.moreRules (w1 := w2) (v' := .slice (some ⟨g2, 0, none⟩) (m + 1) cap3) (zs := [enR m]) (ds := [[.int .i64 m, .int .i64 0, .slice (some ⟨V.heap.size, 0, none⟩) 1 1]]) (HE2.out.1.below (bAlloc (bAlloc (Below.refl _ _) (.cells #[.int .i64 1, .int .i64 m, .int .i64 0, .int .i64 0] 59)) (.cells #[.int .i64 m, .int .i64 0, .slice (some ⟨V.heap.size, 0, none⟩) 1 1] 54)) hVn)
            HES.out.1 HES.out.2.1 (by rw [HES.out.2.2.2]; exact (HR2.out.alloc _).alloc _) (fun i h h' => RulC.held (own := ownEn) rfl n _ _ _ _ (Kp.of_below (bAlloc (bAlloc (Below.refl _ _) _) _) hVn) (HES.out.2.2.1 i h h')) hgrow2 (by rw [HES.out.2.2.2]; simpa using hown2) rfl (by simp)
            (fun i h h' => by
              obtain rfl : i = 0 := by simp at h; omega
              exact ⟨V.heap.size, 1, rfl, two_new.1, by simp [enR]⟩)
          refine ⟨⟨m + 1, _, by omega, by go_num, Lib.hid (by rw [rsK_succ h10]; exact EnW.mono (W := (V.alloc (.cells #[.int .i64 1, .int .i64 m, .int .i64 0, .int .i64 0] 59)).alloc (.cells #[.int .i64 m, .int .i64 0, .slice (some ⟨V.heap.size, 0, none⟩) 1 1] 54)) ⟨HE2.out.1.below (bAlloc (bAlloc (Below.refl _ _) _) _) hVn, heap_keep (bAlloc (bAlloc (Below.refl _ _) _) _) HE2.out.2.1, heap_keep (bAlloc (bAlloc (Below.refl _ _) _) _) HE2.out.2.2⟩ hR)⟩, ?_⟩
          simp [intOf]; omega
        · have hk10 : ¬ (k : Int) < 10 := by omega
          go_wp2_with fail
          go_roundw
          case rel => exact ⟨k + 1, _, by omega, by go_num, by rw [rsK_same (by omega)]; exact HE2⟩
          case measure => simp [intOf]; omega
    · obtain rfl : k = 12 := by omega
      have hE := HE.out
      obtain ⟨cs, hcs1, hcs2, hrow, hcs3⟩ := hE.1.terms
      have hlen : (tsK 12).length = 12 := rfl
      rw [hlen] at hrow
      obtain ⟨ad, cap, rfl⟩ := ownsRow_slice hrow
      obtain ⟨es, hes1, hes2, hrow2, hes3⟩ := hE.1.rules
      have hrl : (rsK 12).length = 10 := rfl
      rw [hrl] at hrow2
      obtain ⟨ad2, cap2, rfl⟩ := ownsRow_slice hrow2
      have HN3 := Lib.hid (apart_row hE.1.sys hrow (by decide))
      have hsz := hE.1.size
      have c4 : wr.cell? ⟨n + 1 + 1 + 1, 4, none⟩ = some (.slice ad 12 cap) := by simp [World.cell?, hE.1.sys, sBlock]
      have f4 : wr.frozen? ⟨n + 1 + 1 + 1, 4, none⟩ = false := by simp [World.frozen?, hE.1.sys, sBlock]
      have HRW := Lib.hid hrow
      have HCS := Lib.hid (And.intro hcs1 (And.intro hcs2 hcs3))
      clear hE hrow hrow2 hlen hrl hcs1 hcs2 hcs3 hes1 hes2 hes3
      have hl4 : n + 1 + 1 + 1 < wr.heap.size := hsz.1
      have hl5 : n + 1 + 1 + 1 < wr.heap.size + 1 := by omega
      have hl6 : n + 1 + 1 + 1 < wr.heap.size + 1 + 1 := by omega
      clear hsz
      have HK : Hid (∀ W', Below wr.heap.size wr W' → W'.cell? ⟨n + 1 + 1 + 1, 4, none⟩ = some (.slice ad 12 cap)) := Lib.hid fun W' hB => keep hB c4
      have HF : Hid (∀ W', Below wr.heap.size wr W' → W'.frozen? ⟨n + 1 + 1 + 1, 4, none⟩ = false) := Lib.hid fun W' hB => (hB.frozen (p := ⟨n + 1 + 1 + 1, 4, none⟩) hl4).trans f4
      go_upto_region 11 with (at_builtin; refine wpList_append_lies _ rfl _ _ _ rfl n 62 i62 _ 2 32 Try.underlying22 HI.out hz0 hz1 hz2 rfl (by omega) (.slice ad 12 cap) 12 cs.flatten (by rfl) (((HRW.out.alloc _).alloc _).alloc _) ⟨wr.heap.size + 1 + 1, 0, none⟩ 2 2 [.int .i64 0, .slice (some ⟨wr.heap.size, 0, none⟩) 2 2, .int .i64 0, .slice (some ⟨wr.heap.size + 1, 0, none⟩) 1 1] (by rfl) (by rfl) (World.news_of_block three_new.2.2) (by simp [Value.oneCell']) (by omega) (by unfold maxLen; omega) (by omega) (by simp; omega) (wr.heap.size + 1 + 1 + 1) (by simp) ?_; intro gg cap1 w1 hown1 hgrow hat hlt1; have hfz : w1.frozen? ⟨n + 1 + 1 + 1, 4, none⟩ = false := (hgrow.frozen_far ⟨n + 1 + 1 + 1, 4, none⟩ (by simp; omega) HN3.out).trans (HF.out _ (by (repeat (first | exact Below.refl _ _ | refine bAlloc ?_ _)))); have hcz : w1.cell? ⟨n + 1 + 1 + 1, 4, none⟩ = some (.slice ad 12 cap) := (hgrow.cell_far ⟨n + 1 + 1 + 1, 4, none⟩ (by simp; omega) HN3.out).trans (HK.out _ (by (repeat (first | exact Below.refl _ _ | refine bAlloc ?_ _)))))
      have hE3 := EnAt.moreTerms (w1 := w1) (v' := .slice (some ⟨gg, 0, none⟩) 14 cap1) (ys := enT2) (ds := [[.int .i64 0, .slice (some ⟨wr.heap.size, 0, none⟩) 2 2], [.int .i64 0, .slice (some ⟨wr.heap.size + 1, 0, none⟩) 1 1]]) (HE.out.1.below (bAlloc (bAlloc (bAlloc (Below.refl _ _) (.cells #[.int .i64 (-1), .int .i64 (-1), .int .i64 1, .string ⟨#[104, 117, 110, 100, 114, 101, 100]⟩, .int .i64 (-1), .int .i64 (-1), .int .i64 (-1), .string ⟨#[104, 117, 110, 100, 114, 101, 100, 115]⟩] 90)) (.cells #[.int .i64 (-1), .int .i64 (-1), .int .i64 (-1), .string ⟨#[97, 110, 100]⟩] 90)) (.cells #[.int .i64 0, .slice (some ⟨wr.heap.size, 0, none⟩) 2 2, .int .i64 0, .slice (some ⟨wr.heap.size + 1, 0, none⟩) 1 1] 62)) (by omega))
        HCS.out.1 HCS.out.2.1 (((HRW.out.alloc _).alloc _).alloc _) (fun i h h' => TermC.held (own := ownEn) rfl n _ _ _ _ (Kp.of_below (bAlloc (bAlloc (bAlloc (Below.refl _ _) _) _) _) (by omega)) (HCS.out.2.2 i h h')) hgrow hown1 rfl (by simp)
        (fun i h h' => by
          have hi : i = 0 ∨ i = 1 := by simp at h; omega
          rcases hi with rfl | rfl
          · exact ⟨wr.heap.size, 2, rfl, three_new.1, by simp [enT2], enT2_size _ (List.getElem_mem h')⟩
          · exact ⟨wr.heap.size + 1, 1, rfl, three_new.2.1, by simp [enT2], enT2_size _ (List.getElem_mem h')⟩)
      have HE3 := Lib.hid (EnW.mono (W := (((wr.alloc (.cells #[.int .i64 (-1), .int .i64 (-1), .int .i64 1, .string ⟨#[104, 117, 110, 100, 114, 101, 100]⟩, .int .i64 (-1), .int .i64 (-1), .int .i64 (-1), .string ⟨#[104, 117, 110, 100, 114, 101, 100, 115]⟩] 90)).alloc (.cells #[.int .i64 (-1), .int .i64 (-1), .int .i64 (-1), .string ⟨#[97, 110, 100]⟩] 90)).alloc (.cells #[.int .i64 0, .slice (some ⟨wr.heap.size, 0, none⟩) 2 2, .int .i64 0, .slice (some ⟨wr.heap.size + 1, 0, none⟩) 1 1] 62))) (v := .slice ad 12 cap) (u := .slice ad2 10 cap2) (ts := tsK 12) (rs := rsK 12) ⟨HE.out.1.below (bAlloc (bAlloc (bAlloc (Below.refl _ _) _) _) _) (by omega), heap_keep (bAlloc (bAlloc (bAlloc (Below.refl _ _) _) _) _) HE.out.2.1, heap_keep (bAlloc (bAlloc (bAlloc (Below.refl _ _) _) _) _) HE.out.2.2⟩ hE3)
      clear hE3 hfz hcz hat hlt1 hown1 hgrow c4 f4 HK HF
      generalize World.setCell w1 _ _ = V at *

      obtain ⟨es13, hes1, hes2, hrow2, hes3⟩ := HE3.out.1.rules
      have hrl : (rsK 12).length = 10 := rfl
      rw [hrl] at hrow2
      have HR2 := Lib.hid hrow2
      have HES := Lib.hid (And.intro hes1 (And.intro hes2 hes3))
      have hsV := HE3.out.1.size
      have hVn : n ≤ V.heap.size := by omega
      clear hrow2 hes1 hes2 hes3 hrl hsV
      go_upto_region 12 with (at_builtin; refine wpList_append_lies _ rfl _ _ _ rfl n 54 i54 _ 3 40 Try.underlying55 HJ.out hy0 hy1 hy2 rfl (by omega) (.slice ad2 10 cap2) 10 es13.flatten (by rfl) ((HR2.out.alloc _).alloc _) ⟨V.heap.size + 1, 0, none⟩ 1 1 [.int .i64 10, .int .i64 10, .slice (some ⟨V.heap.size, 0, none⟩) 3 3] (by rfl) (by rfl) (World.news_of_block two_new.2) (by simp [Value.oneCell']) (by omega) (by unfold maxLen; omega) (by omega) (by simp; omega) (V.heap.size + 1 + 1) (by simp) ?_; intro g13 cap13 Y1 hown2 hgrow2 hat2 hlt2)
      have hR := EnAt.moreRules (w1 := Y1) (v' := .slice (some ⟨g13, 0, none⟩) 11 cap13) (zs := [enR1]) (ds := [[.int .i64 10, .int .i64 10, .slice (some ⟨V.heap.size, 0, none⟩) 3 3]]) (HE3.out.1.below (bAlloc (bAlloc (Below.refl _ _) (.cells #[.int .i64 3, .int .i64 0, .int .i64 0, .int .i64 0, .int .i64 1, .int .i64 11, .int .i64 0, .int .i64 0, .int .i64 4, .int .i64 0, .int .i64 0, .int .i64 0] 59)) (.cells #[.int .i64 10, .int .i64 10, .slice (some ⟨V.heap.size, 0, none⟩) 3 3] 54)) hVn)
        HES.out.1 HES.out.2.1 ((HR2.out.alloc _).alloc _) (fun i h h' => RulC.held (own := ownEn) rfl n _ _ _ _ (Kp.of_below (bAlloc (bAlloc (Below.refl _ _) _) _) hVn) (HES.out.2.2 i h h')) hgrow2 hown2 rfl (by simp)
        (fun i h h' => by
          obtain rfl : i = 0 := by simp at h; omega
          exact ⟨V.heap.size, 3, rfl, two_new.1, by simp [enR1]⟩)
      have HE4 := Lib.hid (EnW.mono (W := (V.alloc (.cells #[.int .i64 3, .int .i64 0, .int .i64 0, .int .i64 0, .int .i64 1, .int .i64 11, .int .i64 0, .int .i64 0, .int .i64 4, .int .i64 0, .int .i64 0, .int .i64 0] 59)).alloc (.cells #[.int .i64 10, .int .i64 10, .slice (some ⟨V.heap.size, 0, none⟩) 3 3] 54)) (v := (.slice (some ⟨gg, 0, none⟩) 14 cap1)) (u := (.slice ad2 10 cap2)) (ts := (tsK 12 ++ enT2)) (rs := (rsK 12)) ⟨HE3.out.1.below (bAlloc (bAlloc (Below.refl _ _) _) _) hVn, heap_keep (bAlloc (bAlloc (Below.refl _ _) _) _) HE3.out.2.1, heap_keep (bAlloc (bAlloc (Below.refl _ _) _) _) HE3.out.2.2⟩ hR)
      clear hR hown2 hgrow2 hat2 hlt2 HR2 HES HE3 hVn

      obtain ⟨es14, hes1, hes2, hrow2, hes3⟩ := HE4.out.1.rules
      have hrl : (rsK 12 ++ [enR1]).length = 11 := rfl
      rw [hrl] at hrow2
      have HR2 := Lib.hid hrow2
      have HES := Lib.hid (And.intro hes1 (And.intro hes2 hes3))
      have hsV := HE4.out.1.size
      have hVn : n ≤ Y1.heap.size := by omega
      clear hrow2 hes1 hes2 hes3 hrl hsV
      go_upto_region 13 with (at_builtin; refine wpList_append_lies _ rfl _ _ _ rfl n 54 i54 _ 3 40 Try.underlying55 HJ.out hy0 hy1 hy2 rfl (by omega) (.slice (some ⟨g13, 0, none⟩) 11 cap13) 11 es14.flatten (by rfl) ((HR2.out.alloc _).alloc _) ⟨Y1.heap.size + 1, 0, none⟩ 1 1 [.int .i64 100, .int .i64 100, .slice (some ⟨Y1.heap.size, 0, none⟩) 4 4] (by rfl) (by rfl) (World.news_of_block two_new.2) (by simp [Value.oneCell']) (by omega) (by unfold maxLen; omega) (by omega) (by simp; omega) (Y1.heap.size + 1 + 1) (by simp) ?_; intro g14 cap14 Y2 hown2 hgrow2 hat2 hlt2)
      have hR := EnAt.moreRules (w1 := Y2) (v' := .slice (some ⟨g14, 0, none⟩) 12 cap14) (zs := [enR2]) (ds := [[.int .i64 100, .int .i64 100, .slice (some ⟨Y1.heap.size, 0, none⟩) 4 4]]) (HE4.out.1.below (bAlloc (bAlloc (Below.refl _ _) (.cells #[.int .i64 3, .int .i64 0, .int .i64 0, .int .i64 0, .int .i64 2, .int .i64 12, .int .i64 0, .int .i64 0, .int .i64 5, .int .i64 13, .int .i64 0, .int .i64 10, .int .i64 4, .int .i64 0, .int .i64 0, .int .i64 0] 59)) (.cells #[.int .i64 100, .int .i64 100, .slice (some ⟨Y1.heap.size, 0, none⟩) 4 4] 54)) hVn)
        HES.out.1 HES.out.2.1 ((HR2.out.alloc _).alloc _) (fun i h h' => RulC.held (own := ownEn) rfl n _ _ _ _ (Kp.of_below (bAlloc (bAlloc (Below.refl _ _) _) _) hVn) (HES.out.2.2 i h h')) hgrow2 hown2 rfl (by simp)
        (fun i h h' => by
          obtain rfl : i = 0 := by simp at h; omega
          exact ⟨Y1.heap.size, 4, rfl, two_new.1, by simp [enR2]⟩)
      have HE5 := Lib.hid (EnW.mono (W := (Y1.alloc (.cells #[.int .i64 3, .int .i64 0, .int .i64 0, .int .i64 0, .int .i64 2, .int .i64 12, .int .i64 0, .int .i64 0, .int .i64 5, .int .i64 13, .int .i64 0, .int .i64 10, .int .i64 4, .int .i64 0, .int .i64 0, .int .i64 0] 59)).alloc (.cells #[.int .i64 100, .int .i64 100, .slice (some ⟨Y1.heap.size, 0, none⟩) 4 4] 54)) (v := (.slice (some ⟨gg, 0, none⟩) 14 cap1)) (u := (.slice (some ⟨g13, 0, none⟩) 11 cap13)) (ts := (tsK 12 ++ enT2)) (rs := (rsK 12 ++ [enR1])) ⟨HE4.out.1.below (bAlloc (bAlloc (Below.refl _ _) _) _) hVn, heap_keep (bAlloc (bAlloc (Below.refl _ _) _) _) HE4.out.2.1, heap_keep (bAlloc (bAlloc (Below.refl _ _) _) _) HE4.out.2.2⟩ hR)
      clear hR hown2 hgrow2 hat2 hlt2 HR2 HES HE4 hVn

      have hE := HE5.out
      obtain ⟨rc, hrc, hrcs⟩ := hE.1.res
      have hsz := hE.1.size
      have hl0 : n + 1 + 1 + 1 < Y2.heap.size := hsz.1
      have hl1 : n < Y2.heap.size := hsz.2
      have s0 : Y2.cell? ⟨n + 1 + 1 + 1, 0, none⟩ = some (.int .i64 999) := by simp [World.cell?, hE.1.sys, sBlock]
      have s1 : Y2.cell? ⟨n + 1 + 1 + 1, 1, none⟩ = some (.int .i64 1) := by simp [World.cell?, hE.1.sys, sBlock]
      have s2 : Y2.cell? ⟨n + 1 + 1 + 1, 2, none⟩ = some (.int .i64 1) := by simp [World.cell?, hE.1.sys, sBlock]
      have s3 : Y2.cell? ⟨n + 1 + 1 + 1, 3, none⟩ = some (.int .i64 2) := by simp [World.cell?, hE.1.sys, sBlock]
      have s4 : Y2.cell? ⟨n + 1 + 1 + 1, 4, none⟩ = some (.slice (some ⟨gg, 0, none⟩) 14 cap1) := by simp [World.cell?, hE.1.sys, sBlock]
      have s5 : Y2.cell? ⟨n + 1 + 1 + 1, 5, none⟩ = some (.slice (some ⟨n + 1 + 1, 0, none⟩) 1 1) := by simp [World.cell?, hE.1.sys, sBlock]
      have s6 : Y2.cell? ⟨n + 1 + 1 + 1, 6, none⟩ = some (.slice none 0 0) := by simp [World.cell?, hE.1.sys, sBlock]
      have sf : Y2.frozen? ⟨n + 1 + 1 + 1, 6, none⟩ = false := by simp [World.frozen?, hE.1.sys, sBlock]
      have rf : ∀ j, Y2.frozen? ⟨n, j, none⟩ = false := fun j => by simp [World.frozen?, hrc]
      have rr : ∀ j (h : j < 7), Y2.cell? ⟨n, j, none⟩ = some (rc[j]'(by omega)) := fun j h => by
        have : j < rc.size := by omega
        simp [World.cell?, hrc, this]
      have r0 := rr 0 (by omega)
      have r1 := rr 1 (by omega)
      have r2 := rr 2 (by omega)
      have r3 := rr 3 (by omega)
      have r4 := rr 4 (by omega)
      have r5 := rr 5 (by omega)
      have r6 := rr 6 (by omega)
      have f0 := rf 0
      have f1 := rf 1
      have f2 := rf 2
      have f3 := rf 3
      have f4 := rf 4
      have f5 := rf 5
      have f6 := rf 6
      generalize rc[0] = x0 at *
      generalize rc[1] = x1 at *
      generalize rc[2] = x2 at *
      generalize rc[3] = x3 at *
      generalize rc[4] = x4 at *
      generalize rc[5] = x5 at *
      generalize rc[6] = x6 at *
      have HRC := Lib.hid (And.intro hrc hrcs)
      clear hE rr rf hsz hrc hrcs
      go_wp2_with fail
      have hkS : Kp n own26 Y2 (Y2.setCell ⟨n + 1 + 1 + 1, 6, none⟩ (.slice (some ⟨Y2.heap.size, 0, none⟩) 1 1)) := kp_set HE5.out.1.sys rfl (by omega) _
      have hrcs : (Y2.setCell ⟨n + 1 + 1 + 1, 6, none⟩ (.slice (some ⟨Y2.heap.size, 0, none⟩) 1 1)).heap[n]? = some (.cells rc 26 (0, 0)) := by
        rw [Below.heap_setCell _ _ _ _ HE5.out.1.ne]; exact HRC.out.1
      obtain ⟨hz, hkR⟩ := seven_set (.int .i64 999) (.int .i64 1) (.int .i64 1) (.int .i64 2) (.slice (some ⟨gg, 0, none⟩) 14 cap1) (.slice (some ⟨n + 1 + 1, 0, none⟩) 1 1) (.slice (some ⟨Y2.heap.size, 0, none⟩) 1 1) hrcs HRC.out.2
      have hkZ := (hkS.trans (hkR own26 n rfl (Nat.le_refl _)))
      have hzs := hkZ.low.size
      have hz8 : (((((((((Y2.setCell ⟨n + 1 + 1 + 1, 6, none⟩ (.slice (some ⟨Y2.heap.size, 0, none⟩) 1 1)).setCell ⟨n, 0, none⟩ (.int .i64 999)).setCell ⟨n, 1, none⟩ (.int .i64 1)).setCell ⟨n, 2, none⟩ (.int .i64 1)).setCell ⟨n, 3, none⟩ (.int .i64 2)).setCell ⟨n, 4, none⟩ (.slice (some ⟨gg, 0, none⟩) 14 cap1)).setCell ⟨n, 5, none⟩ (.slice (some ⟨n + 1 + 1, 0, none⟩) 1 1)).setCell ⟨n, 6, none⟩ (.slice (some ⟨Y2.heap.size, 0, none⟩) 1 1))).heap.size = Y2.heap.size := by simp
      clear r0 r1 r2 r3 r4 r5 r6 f0 f1 f2 f3 f4 f5 f6 s0 s1 s2 s3 s4 s5 s6 sf hkS hkR hrcs
      generalize ((((((((Y2.setCell ⟨n + 1 + 1 + 1, 6, none⟩ (.slice (some ⟨Y2.heap.size, 0, none⟩) 1 1)).setCell ⟨n, 0, none⟩ (.int .i64 999)).setCell ⟨n, 1, none⟩ (.int .i64 1)).setCell ⟨n, 2, none⟩ (.int .i64 1)).setCell ⟨n, 3, none⟩ (.int .i64 2)).setCell ⟨n, 4, none⟩ (.slice (some ⟨gg, 0, none⟩) 14 cap1)).setCell ⟨n, 5, none⟩ (.slice (some ⟨n + 1 + 1, 0, none⟩) 1 1)).setCell ⟨n, 6, none⟩ (.slice (some ⟨Y2.heap.size, 0, none⟩) 1 1)) = Z8 at *
      have hnew := World.alloc_heap_new Z8 (.cells #[.slice (some ⟨g14, 0, none⟩) 12 cap14] 55)
      rw [hz8] at hnew
      have hBZ : Below Z8.heap.size Z8 (Z8.alloc (.cells #[.slice (some ⟨g14, 0, none⟩) 12 cap14] 55)) := bAlloc (Below.refl _ _) _
      have hkF := hkZ.trans (Kp.of_below (n := n) (own := own26) hBZ (by omega))
      have hzF := heap_keep hBZ hz
      generalize Z8.alloc (.cells #[.slice (some ⟨g14, 0, none⟩) 12 cap14] 55) = Z at *
      have z0 : Z.cell? ⟨n, 0, none⟩ = some (.int .i64 999) := by simp [World.cell?, hzF]
      have z1 : Z.cell? ⟨n, 1, none⟩ = some (.int .i64 1) := by simp [World.cell?, hzF]
      have z2 : Z.cell? ⟨n, 2, none⟩ = some (.int .i64 1) := by simp [World.cell?, hzF]
      have z3 : Z.cell? ⟨n, 3, none⟩ = some (.int .i64 2) := by simp [World.cell?, hzF]
      have z4 : Z.cell? ⟨n, 4, none⟩ = some (.slice (some ⟨gg, 0, none⟩) 14 cap1) := by simp [World.cell?, hzF]
      have z5 : Z.cell? ⟨n, 5, none⟩ = some (.slice (some ⟨n + 1 + 1, 0, none⟩) 1 1) := by simp [World.cell?, hzF]
      have z6 : Z.cell? ⟨n, 6, none⟩ = some (.slice (some ⟨Y2.heap.size, 0, none⟩) 1 1) := by simp [World.cell?, hzF]
      have hT : SliceV Z (.slice (some ⟨gg, 0, none⟩) 14 cap1) 2 TermAt enS.terms := (HE5.out.1.terms.kp (own := own26) (TermC.held rfl) hkF rfl).terms (by show 14 ≤ 1000000; omega)
      have hR : SliceV Z (.slice (some ⟨g14, 0, none⟩) 12 cap14) 3 RulAt (rsK 12 ++ [enR1] ++ [enR2]) := (HE5.out.1.rules.kp (own := own26) (RulC.held rfl) hkF rfl).rules (by show 12 ≤ 1000000; omega)
      have hpl := hkF.cells _ _ _ _ HE5.out.2.2 rfl
      have hP : SliceV Z (.slice (some ⟨n + 1 + 1, 0, none⟩) 1 1) 4 PluAt enS.plurals := ⟨_, 1, rfl, by show 1 ≤ most; unfold most; omega, .inr ⟨n + 1 + 1, 0, rfl, fun i hi => by
        obtain rfl : i = 0 := by have : i < 1 := hi; omega
        refine ⟨?_, ?_, ?_, ?_⟩ <;> simp [World.cell?, hpl, enS]⟩⟩
      have hSt : SliceV Z (.slice (some ⟨Y2.heap.size, 0, none⟩) 1 1) 1 SetAt enS.sets := ⟨_, 1, rfl, by show 1 ≤ most; unfold most; omega, .inr ⟨Y2.heap.size, 0, rfl, fun i hi => by
        obtain rfl : i = 0 := by have : i < 1 := hi; omega
        exact ⟨.slice (some ⟨g14, 0, none⟩) 12 cap14, by simp [World.cell?, hnew], hR⟩⟩⟩
      refine bodyPost_ret (v := sysVal enS (.slice (some ⟨gg, 0, none⟩) 14 cap1) (.slice (some ⟨n + 1 + 1, 0, none⟩) 1 1) (.slice (some ⟨Y2.heap.size, 0, none⟩) 1 1)) (by simp [results, Try.results41, go_sem, z0, z1, z2, z3, z4, z5, z6]; rfl) rfl ⟨_, _, _, ⟨rfl, hT, hP, hSt⟩, ?_⟩
      exact (HE5.out.1.low.trans hkF.low).mono hn2
end Go.Proofs.Ytfcopnlpcbbocaa
