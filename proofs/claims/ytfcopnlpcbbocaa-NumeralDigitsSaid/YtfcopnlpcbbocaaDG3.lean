/- The law of digits. -/
import Derived.Test.YtfcopnlpcbbocaaDG2
import Derived.Test.YtfcopnlpcbbocaaH2
import Derived.Test.YtfcopnlpcbbocaaF5
import Derived.Laws.IdiomStrings
import Derived.KernelRfl
import Derived.BigRegion
import Derived.Deep.RegionHeld3
import Derived.Deep.DeepCutAuto
set_option linter.unusedSimpArgs false
set_option linter.unusedVariables false
namespace Go.Proofs.Ytfcopnlpcbbocaa
open Go.RowKit

abbrev nilV : Value := .slice none 0 0
theorem digT_succ (k : Nat) : (List.range (k + 1)).map digT = (List.range k).map digT ++ [digT k] := by rw [List.range_succ, List.map_append]; rfl
theorem digR_succ (k : Nat) : (List.range (k + 1)).map digR0 = (List.range k).map digR0 ++ [digR0 k] := by rw [List.range_succ, List.map_append]; rfl
theorem digL_succ (B j : Nat) : digL B (j + 1) = digL B j ++ [digR1 B (j + 1)] := by unfold digL; rw [List.range_succ, List.map_append, List.append_assoc]; rfl
theorem digL_at {B q : Nat} (h : 1 ≤ q) : digL B q = digL B (q - 1) ++ [digR1 B q] := by
  have := digL_succ B (q - 1)
  rwa [Nat.sub_add_cancel h] at this
theorem digT_cells {k : Nat} {p : ByteArray} (h : dch k = p) : ((digT k).forms.flatMap Form.cells).toArray = #[.int .i64 (-1), .int .i64 (-1), .int .i64 (-1), .string p] := by subst h; rfl
theorem digT_size (k : Nat) : ∀ f ∈ (digT k).forms, f.txt.size ≤ most := by
  intro f hf
  rw [show (digT k).forms = [⟨-1, -1, -1, dch k⟩] from rfl] at hf
  rw [List.mem_singleton.1 hf]
  show 1 ≤ most
  unfold most; omega
theorem wrap_in {x : Int} (h0 : -9223372036854775808 ≤ x) (h1 : x ≤ 9223372036854775807) : IntKind.i64.wrap x = x := IntWalk.i64_in x ⟨h0, h1⟩
theorem run_dch (W : World) (b c k : Nat) (hk : k < 100) (h : W.cell? ⟨b, 0, none⟩ = some (.int .u8 (97 + (k : Int)))) : (convert 91 9 (.slice (some ⟨b, 0, none⟩) 1 c)).run Try.prog W = .ok (.string (dch k)) W :=
  run_convert_bytes_back (P := Try.prog) W 91 9 5 ⟨b, 0, none⟩ c [UInt8.ofNat (97 + k)] Try.underlying91 Try.underlying5 Try.underlying9 (fun j hj => by
    obtain rfl : j = 0 := by simpa using hj
    have e : (97 + k) % 256 = 97 + k := by omega
    have e2 : ((UInt8.ofNat (97 + k)).toNat : Int) = 97 + (k : Int) := by rw [UInt8.toNat_ofNat']; simp only [Nat.reducePow, e]; omega
    show W.cell? ((⟨b, 0, none⟩ : Addr).add 0) = some (.int .u8 ((UInt8.ofNat (97 + k)).toNat : Int))
    rw [e2, ← h]; rfl)
theorem okd2 : sysOk (digS 2) = true := by kernel_rfl
theorem okd3 : sysOk (digS 3) = true := by kernel_rfl
theorem okd4 : sysOk (digS 4) = true := by kernel_rfl
theorem okd5 : sysOk (digS 5) = true := by kernel_rfl
theorem okd6 : sysOk (digS 6) = true := by kernel_rfl
theorem okd7 : sysOk (digS 7) = true := by kernel_rfl
theorem okd8 : sysOk (digS 8) = true := by kernel_rfl
theorem okd9 : sysOk (digS 9) = true := by kernel_rfl
theorem okd10 : sysOk (digS 10) = true := by kernel_rfl
theorem okd11 : sysOk (digS 11) = true := by kernel_rfl
theorem okd12 : sysOk (digS 12) = true := by kernel_rfl
theorem ok_dig {B : Nat} (hB : 2 ≤ B ∧ B ≤ 12) : sysOk (digS B) = true := by
  have h : B = 2 ∨ B = 3 ∨ B = 4 ∨ B = 5 ∨ B = 6 ∨ B = 7 ∨ B = 8 ∨ B = 9 ∨ B = 10 ∨ B = 11 ∨ B = 12 := by omega
  rcases h with rfl | rfl | rfl | rfl | rfl | rfl | rfl | rfl | rfl | rfl | rfl 
  · exact okd2
  · exact okd3
  · exact okd4
  · exact okd5
  · exact okd6
  · exact okd7
  · exact okd8
  · exact okd9
  · exact okd10
  · exact okd11
  · exact okd12
theorem ask_dig {B N : Nat} (hB : 2 ≤ B ∧ B ≤ 12) (hN : N ≤ 2000) : askOk (digS B) (digA N) = true := by
  unfold askOk
  rw [ok_dig hB, show betw (digA N).num 0 (digS B).top = true by unfold betw digA digS; simp; omega]
  rfl
theorem words_dig {B N : Nat} (hB : 2 ≤ B) : wordsOf (digS B) (digA N) = some (dig B N) := by
  obtain ⟨h1, h2⟩ := items_dig hB N (N + 1) 0 (Nat.le_refl _)
  have e : items (digS B) (digA N) 0 = itemsF (N + 1) (digS B) (digA N) 0 := rfl
  unfold wordsOf saidOf
  rw [e, if_pos h1, Option.map_some, List.map_map, ← h2]
  rfl
theorem spell_dig {B N : Nat} (hB : 2 ≤ B ∧ B ≤ 12) (hN : N ≤ 2000) {vt vp vs : Value} {W : World} (hp : SysParts W vt vp vs (digS B)) {L : List ByteArray} (hL : L = dig B N) :
    Calls Try.prog 20 #[.agg #[.int .i64 2000, .int .i64 1, .int .i64 1, .int .i64 1, vt, vp, vs], .agg #[.int .i64 N, .int .i64 0, .int .i64 0, .int .i64 0]] W fun e w' => (∃ ad cap, e = .returned (.tuple #[.slice ad L.length cap, .int .i64 0]) ∧ SliceV w' (.slice ad L.length cap) 1 StrAt L) ∧ Below W.heap.size W w' := by
  have hs := Spell_any (digS B) (digA N) vt vp vs W hp
  refine hs.mono ?_
  rintro e w' ⟨⟨h, -⟩ | ⟨-, h, -⟩ | ⟨-, xs, v, h, rfl, hs⟩, hb⟩
  · rw [ask_dig hB hN] at h; cases h
  · rw [words_dig hB.1] at h; cases h
  · rw [words_dig hB.1] at h
    obtain rfl := (Option.some.inj h).symm.trans hL.symm
    obtain ⟨ad, cap, rfl, -⟩ := id hs
    exact ⟨⟨ad, cap, rfl, hs⟩, hb⟩
theorem slice_at {α : Type} {w : World} {ad : Option Addr} {n c sz : Nat} {R : World → Nat → Nat → α → Prop} {xs : List α} (h : SliceV w (.slice ad n c) sz R xs) (hne : xs ≠ []) : ∃ b o, ad = some ⟨b, o, none⟩ ∧ ∀ i (hi : i < xs.length), R w b (o + i * sz) xs[i] := by
  obtain ⟨a, c', hv, -, hx⟩ := h
  rcases hx with hx | ⟨b, o, ha, hf⟩
  · exact absurd hx hne
  · simp at hv
    exact ⟨b, o, hv.1.trans ha, hf⟩
set_option maxRecDepth 100000 in
set_option maxHeartbeats 16000000 in
theorem digits_any (b m : Int) (w : World) : Calls Try.prog 13 #[.int .i64 b, .int .i64 m] w fun e w' => e = .returned (.bool true) ∧ Below w.heap.size w w' := by
  have H15 : Hid (∀ W, Below w.heap.size w W → Calls Try.prog 15 #[] W fun e w' => e = .returned (.bool true) ∧ Below W.heap.size W w') := Lib.hid fun W _ => known_any W
  have HB10 : Hid (Below w.heap.size w w) := Lib.hid (Below.refl _ _)
  by_cases a1 : b < 2
  · have d1 : decide (b < 2) = true := decide_eq_true a1
    have HB1 := HB10
    go_enter Try.func13, Try.ntmps13
    go_wp2_with fail
    refine (H15.out _ HB1.out).mono ?_
    rintro e w9 ⟨rfl, hb⟩
    have HB9 := Lib.hid (bThen HB1.out hb)
    clear hb
    go_wp2_with fail
    go_ret
    exact ⟨rfl, HB9.out⟩
  have d1 : decide (b < 2) = false := decide_eq_false a1
  by_cases a2 : b > 12
  · have d2 : decide (b > 12) = true := decide_eq_true a2
    have HB1 := HB10
    go_enter Try.func13, Try.ntmps13
    go_wp2_with fail
    refine (H15.out _ HB1.out).mono ?_
    rintro e w9 ⟨rfl, hb⟩
    have HB9 := Lib.hid (bThen HB1.out hb)
    clear hb
    go_wp2_with fail
    go_ret
    exact ⟨rfl, HB9.out⟩
  have d2 : decide (b > 12) = false := decide_eq_false a2
  by_cases a3 : m < 0
  · have d3 : decide (m < 0) = true := decide_eq_true a3
    have HB1 := HB10
    go_enter Try.func13, Try.ntmps13
    go_wp2_with fail
    refine (H15.out _ HB1.out).mono ?_
    rintro e w9 ⟨rfl, hb⟩
    have HB9 := Lib.hid (bThen HB1.out hb)
    clear hb
    go_wp2_with fail
    go_ret
    exact ⟨rfl, HB9.out⟩
  have d3 : decide (m < 0) = false := decide_eq_false a3
  by_cases a4 : m > 2000
  · have d4 : decide (m > 2000) = true := decide_eq_true a4
    have HB1 := HB10
    go_enter Try.func13, Try.ntmps13
    go_wp2_with fail
    refine (H15.out _ HB1.out).mono ?_
    rintro e w9 ⟨rfl, hb⟩
    have HB9 := Lib.hid (bThen HB1.out hb)
    clear hb
    go_wp2_with fail
    go_ret
    exact ⟨rfl, HB9.out⟩
  have d4 : decide (m > 2000) = false := decide_eq_false a4
  obtain ⟨B, rfl⟩ : ∃ B : Nat, b = (B : Int) := ⟨b.toNat, by omega⟩
  obtain ⟨N, rfl⟩ : ∃ N : Nat, m = (N : Int) := ⟨m.toNat, by omega⟩
  have hB : 2 ≤ B ∧ B ≤ 12 := by omega
  have hN : N ≤ 2000 := by omega
  obtain ⟨i62, hi, hz0, hz1, hz2⟩ := info_parts info62
  obtain ⟨i54, hj, hy0, hy1, hy2⟩ := info_parts info54
  have HI := Lib.hid hi
  have HJ := Lib.hid hj
  clear hi hj
  obtain ⟨n, hn⟩ : ∃ n, n = w.heap.size := ⟨_, rfl⟩
  go_enter Try.func13, Try.ntmps13
  go_wp2_with fail
  rw [← hn]
  generalize hW4 : World.alloc _ _ = W4
  have hB4 : Below n w W4 := by rw [← hW4, hn]; exact bAlloc (Below.refl _ _) _
  have hE : EnB n n 2000 1 nilV w W4 nilV nilV ((List.range 0).map digT) ((List.range 0).map digR0) := ⟨by rw [← hW4, hn]; exact World.alloc_heap_new w _, OwnsV.nil _ _ _ _ _, OwnsV.nil _ _ _ _ _, hB4, Nat.le_refl _⟩
  have HE := Lib.hid hE
  have HNN := Lib.hid hn
  clear hW4 hB4 hE hn
  go_loopw [6, 7] (fun u i wr => ∃ (k : Nat) (v : Value), k ≤ B ∧ i = .int .i64 k ∧ Hid (EnB n n 2000 1 nilV w wr v u ((List.range k).map digT) ((List.range k).map digR0))) (fun _ i _ => B - (intOf i).toNat)
  case atStart => exact ⟨0, _, by omega, rfl, HE⟩
  case round =>
    obtain ⟨k, v, hk, rfl, HE⟩ := hrel
    by_cases hlt : k < B
    · have hE := HE.out
      obtain ⟨cs, hcs1, hcs2, hrow, hcs3⟩ := hE.terms
      have hlen : ((List.range k).map digT).length = k := by simp
      rw [hlen] at hrow
      obtain ⟨ad, cap, rfl⟩ := ownsRow_slice hrow
      obtain ⟨es, hes1, hes2, hrow2, hes3⟩ := hE.rules
      have hlen2 : ((List.range k).map digR0).length = k := by simp
      rw [hlen2] at hrow2
      obtain ⟨ad2, cap2, rfl⟩ := ownsRow_slice hrow2
      have HN3 := Lib.hid (apart_row hE.sys hrow (by decide))
      have hsz := hE.size
      have c4 : wr.cell? ⟨n, 4, none⟩ = some (.slice ad k cap) := by simp [World.cell?, hE.sys, sBlock]
      have f4 : wr.frozen? ⟨n, 4, none⟩ = false := by simp [World.frozen?, hE.sys, sBlock]
      have HRW := Lib.hid hrow
      have HLEN := Lib.hid hlen
      have HCS := Lib.hid (And.intro hcs1 (And.intro hcs2 hcs3))
      have HT := Lib.hid (digT_succ k)
      have HK : Hid (∀ W', Below wr.heap.size wr W' → W'.cell? ⟨n, 4, none⟩ = some (.slice ad k cap)) := Lib.hid fun W' hB => keep hB c4
      have HF : Hid (∀ W', Below wr.heap.size wr W' → W'.frozen? ⟨n, 4, none⟩ = false) := Lib.hid fun W' hB => (hB.frozen (p := ⟨n, 4, none⟩) hsz).trans f4
      clear hE hrow hrow2 hlen hlen2 hcs1 hcs2 hcs3 hes1 hes2 hes3
      have i1 : (k : Int) < (B : Int) := by omega
      have v1 : IntKind.i64.wrap (97 + (k : Int)) = 97 + (k : Int) := wrap_in (by omega) (by omega)
      have v2 : IntKind.u8.wrap (97 + (k : Int)) = 97 + (k : Int) := wraps_u8 _ (by omega) (by omega)
      obtain ⟨p, hp⟩ : ∃ p, p = dch k := ⟨_, rfl⟩
      have hcv := run_dch (wr.alloc (.cells #[.int .u8 (97 + (k : Int))] 5)) wr.heap.size 1 k (by omega) (cell_new (V := wr) (cs := #[.int .u8 (97 + (k : Int))]) (t := 5) (j := 0) rfl)
      rw [← hp] at hcv
      have HPP := Lib.hid hp
      have hl : n < wr.heap.size := hsz
      have hm1 : k + 1 ≤ maxLen := by unfold maxLen; omega
      have hm2 : (k + 1) * 32 ≤ 140737488355328 := by omega
      have HM1 := Lib.hid hm1
      have HM2 := Lib.hid hm2
      clear hm1 hm2 hp
      go_upto_region 9 with (at_builtin; refine wpList_append_lies _ rfl _ _ _ rfl n 62 i62 _ 2 32 Try.underlying22 HI.out hz0 hz1 hz2 rfl (by omega) (.slice ad k cap) k cs.flatten (by rfl) (((HRW.out.alloc _).alloc _).alloc _) ⟨wr.heap.size + 1 + 1, 0, none⟩ 1 1 [.int .i64 0, .slice (some ⟨wr.heap.size + 1, 0, none⟩) 1 1] (by rfl) (by rfl) (World.news_of_block three_new.2.2) (by simp [Value.oneCell']) (by omega) HM1.out HM2.out (by simp; omega) (wr.heap.size + 1 + 1 + 1) (by simp) ?_; intro gg cap1 w1 hown1 hgrow hat hlt1; have hfz : w1.frozen? ⟨n, 4, none⟩ = false := (hgrow.frozen_far ⟨n, 4, none⟩ (by simp; omega) HN3.out).trans (HF.out _ (by (repeat (first | exact Below.refl _ _ | refine Below.drew ?_ | refine bAlloc ?_ _)))); have hcz : w1.cell? ⟨n, 4, none⟩ = some (.slice ad k cap) := (hgrow.cell_far ⟨n, 4, none⟩ (by simp; omega) HN3.out).trans (HK.out _ (by (repeat (first | exact Below.refl _ _ | refine Below.drew ?_ | refine bAlloc ?_ _)))))
      have hE1 := EnB.moreTerms (w1 := w1) (v' := .slice (some ⟨gg, 0, none⟩) (k + 1) cap1) (ys := [digT k]) (ds := [[.int .i64 0, .slice (some ⟨wr.heap.size + 1, 0, none⟩) 1 1]]) (HE.out.below (bAlloc (bAlloc (bAlloc (Below.refl _ _) (.cells #[.int .u8 (97 + (k : Int))] 5)) (.cells #[.int .i64 (-1), .int .i64 (-1), .int .i64 (-1), .string p] 90)) (.cells #[.int .i64 0, .slice (some ⟨wr.heap.size + 1, 0, none⟩) 1 1] 62)) (by omega))
        HCS.out.1 HCS.out.2.1 (by rw [HLEN.out]; exact (((HRW.out.alloc _).alloc _).alloc _)) (fun i h h' => TermC.held (own := ownEn) rfl n _ _ _ _ (Kp.of_below (bAlloc (bAlloc (bAlloc (Below.refl _ _) _) _) _) (by omega)) (HCS.out.2.2 i h h')) hgrow (by rw [HLEN.out]; simpa using hown1) rfl (by simp)
        (fun i h h' => by
          obtain rfl : i = 0 := by simp at h; omega
          exact ⟨wr.heap.size + 1, 1, rfl, by rw [List.getElem_cons_zero, digT_cells HPP.out.symm]; exact three_new.2.1, by show 1 ≤ 1000; omega, digT_size k⟩)
      rw [← HT.out] at hE1
      have HE2 := Lib.hid hE1.1
      clear hE1 hfz hcz hat hlt1 hown1 hgrow c4 f4 hcv
      generalize World.setCell w1 _ _ = V at *
      obtain ⟨es, hes1, hes2, hrow2, hes3⟩ := HE2.out.rules
      have hrl : ((List.range k).map digR0).length = k := by simp
      rw [hrl] at hrow2
      have HR2 := Lib.hid hrow2
      have HES := Lib.hid (And.intro hes1 (And.intro hes2 (And.intro hes3 hrl)))
      have hsV := HE2.out.size
      have hVn : n ≤ V.heap.size := by omega
      clear hrow2 hes1 hes2 hes3 hrl hsV
      have hm1 : k + 1 ≤ maxLen := by unfold maxLen; omega
      have hm2 : (k + 1) * 40 ≤ 140737488355328 := by omega
      have HM3 := Lib.hid hm1
      have HM4 := Lib.hid hm2
      have HU := Lib.hid (digR_succ k)
      clear hm1 hm2
      go_wp2_with (at_builtin; refine wpList_append_lies _ rfl _ _ _ rfl n 54 i54 _ 3 40 Try.underlying55 HJ.out hy0 hy1 hy2 rfl (by omega) (.slice ad2 k cap2) k es.flatten (by rfl) ((HR2.out.alloc _).alloc _) ⟨V.heap.size + 1, 0, none⟩ 1 1 [.int .i64 k, .int .i64 0, .slice (some ⟨V.heap.size, 0, none⟩) 1 1] (by rfl) (by rfl) (World.news_of_block two_new.2) (by simp [Value.oneCell']) (by omega) HM3.out HM4.out (by simp; omega) (V.heap.size + 1 + 1) (by simp) ?_; intro g2 cap3 w2 hown2 hgrow2 hat2 hlt2)
      have hR := EnB.moreRules (w1 := w2) (v' := .slice (some ⟨g2, 0, none⟩) (k + 1) cap3) (zs := [digR0 k]) (ds := [[.int .i64 k, .int .i64 0, .slice (some ⟨V.heap.size, 0, none⟩) 1 1]]) (HE2.out.below (bAlloc (bAlloc (Below.refl _ _) (.cells #[.int .i64 1, .int .i64 k, .int .i64 0, .int .i64 0] 59)) (.cells #[.int .i64 k, .int .i64 0, .slice (some ⟨V.heap.size, 0, none⟩) 1 1] 54)) hVn)
        HES.out.1 HES.out.2.1 (by rw [HES.out.2.2.2]; exact (HR2.out.alloc _).alloc _) (fun i h h' => RulC.held (own := ownEn) rfl n _ _ _ _ (Kp.of_below (bAlloc (bAlloc (Below.refl _ _) _) _) hVn) (HES.out.2.2.1 i h h')) hgrow2 (by rw [HES.out.2.2.2]; simpa using hown2) rfl (by simp)
        (fun i h h' => by
          obtain rfl : i = 0 := by simp at h; omega
          exact ⟨V.heap.size, 1, rfl, two_new.1, by show 1 ≤ 1000; omega⟩)
      rw [← HU.out] at hR
      refine ⟨⟨k + 1, _, by omega, by go_num, Lib.hid hR.1⟩, ?_⟩
      simp [intOf]; omega
    · obtain rfl : B = k := by omega
      have hz0 : digL B 0 = (List.range B).map digR0 := by simp [digL]
      have hEL := HE.out
      rw [← hz0] at hEL
      have HE0 := Lib.hid hEL
      clear hEL hz0 HE
      go_wp2_with fail
      go_loopw [6, 8] (fun u2 i wr2 => ∃ (q : Nat) (v2 : Value), 1 ≤ q ∧ q ≤ 15 ∧ i = .int .i64 q ∧ Hid (EnB n n 2000 1 nilV w wr2 v2 u2 ((List.range B).map digT) (digL B (q - 1)))) (fun _ i _ => 15 - (intOf i).toNat)
      case atStart => exact ⟨1, _, by omega, by omega, rfl, HE0⟩
      case round =>
        clear HE0
        obtain ⟨q, v2, hq1, hq, rfl, HE2⟩ := hrel
        obtain ⟨M, hM⟩ : ∃ M, M = B * q := ⟨_, rfl⟩
        have hM1 : M ≤ 12 * 15 := by rw [hM]; exact Nat.mul_le_mul hB.2 hq
        have m0 : (B : Int) * (q : Int) = (M : Int) := by rw [hM]; exact (Int.natCast_mul B q).symm
        have m1 : IntKind.i64.wrap ((B : Int) * (q : Int)) = (M : Int) := by rw [m0]; exact wrap_in (by omega) (by omega)
        have m2 : IntKind.i64.wrap ((M : Int) + (B : Int)) = (M : Int) + (B : Int) := wrap_in (by omega) (by omega)
        have m3 : IntKind.i64.wrap ((M : Int) + (B : Int) - 1) = (M : Int) + (B : Int) - 1 := wrap_in (by omega) (by omega)
        have m4 : (M : Int) + (B : Int) - 1 ≤ 2000 := by omega
        have HM := Lib.hid hM
        clear hM m0
        obtain ⟨cs, hcs1, hcs2, hrow, hcs3⟩ := HE2.out.terms
        have hlen : ((List.range B).map digT).length = B := by simp
        rw [hlen] at hrow
        obtain ⟨ad, cap, rfl⟩ := ownsRow_slice hrow
        obtain ⟨es, hes1, hes2, hrow2, hes3⟩ := HE2.out.rules
        have hrl : (digL B (q - 1)).length = B + (q - 1) := digL_len _ _
        obtain ⟨j, hj⟩ : ∃ j, j = B + (q - 1) := ⟨_, rfl⟩
        rw [hrl, ← hj] at hrow2
        obtain ⟨ad2, cap2, rfl⟩ := ownsRow_slice hrow2
        have HR2 := Lib.hid hrow2
        have HES := Lib.hid (And.intro hes1 (And.intro hes2 (And.intro hes3 (hrl.trans hj.symm))))
        have hjm : j ≤ 100 := by omega
        have hsV := HE2.out.size
        have hVn : n ≤ wr.heap.size := by omega
        have HJJ := Lib.hid hj
        clear hrow2 hes1 hes2 hes3 hrl hcs1 hcs2 hrow hcs3 hlen hj
        by_cases hlt : q < 15
        · have m5 : (q : Int) < 15 := by omega
          have hm1 : j + 1 ≤ maxLen := by unfold maxLen; omega
          have hm2 : (j + 1) * 40 ≤ 140737488355328 := by omega
          have HM3 := Lib.hid hm1
          have HM4 := Lib.hid hm2
          have HU := Lib.hid (digL_at (B := B) hq1)
          clear hm1 hm2 hjm
          go_wp2_with (at_builtin; refine wpList_append_lies _ rfl _ _ _ rfl n 54 i54 _ 3 40 Try.underlying55 HJ.out hy0 hy1 hy2 rfl (by omega) (.slice ad2 j cap2) j es.flatten (by rfl) ((HR2.out.alloc _).alloc _) ⟨wr.heap.size + 1, 0, none⟩ 1 1 [.int .i64 M, .int .i64 B, .slice (some ⟨wr.heap.size, 0, none⟩) 3 3] (by rfl) (by rfl) (World.news_of_block two_new.2) (by simp [Value.oneCell']) (by omega) HM3.out HM4.out (by simp; omega) (wr.heap.size + 1 + 1) (by simp) ?_; intro g2 cap3 w2 hown2 hgrow2 hat2 hlt2)
          have hR := EnB.moreRules (w1 := w2) (v' := .slice (some ⟨g2, 0, none⟩) (j + 1) cap3) (zs := [digR1 B q]) (ds := [[.int .i64 M, .int .i64 B, .slice (some ⟨wr.heap.size, 0, none⟩) 3 3]]) (HE2.out.below (bAlloc (bAlloc (Below.refl _ _) (.cells #[.int .i64 3, .int .i64 0, .int .i64 0, .int .i64 0, .int .i64 5, .int .i64 0, .int .i64 0, .int .i64 0, .int .i64 4, .int .i64 0, .int .i64 0, .int .i64 0] 59)) (.cells #[.int .i64 M, .int .i64 B, .slice (some ⟨wr.heap.size, 0, none⟩) 3 3] 54)) hVn)
            HES.out.1 HES.out.2.1 (by rw [HES.out.2.2.2]; exact (HR2.out.alloc _).alloc _) (fun i h h' => RulC.held (own := ownEn) rfl n _ _ _ _ (Kp.of_below (bAlloc (bAlloc (Below.refl _ _) _) _) hVn) (HES.out.2.2.1 i h h')) hgrow2 (by rw [HES.out.2.2.2]; simpa using hown2) rfl (by simp)
            (fun i h h' => by
              obtain rfl : i = 0 := by simp at h; omega
              exact ⟨wr.heap.size, 3, by rw [HM.out]; rfl, two_new.1, by show 3 ≤ 1000; omega⟩)
          rw [← HU.out] at hR
          refine ⟨⟨q + 1, _, by omega, by omega, by go_num, Lib.hid hR.1⟩, ?_⟩
          simp [intOf]; omega
        · have m5 : ¬ (q : Int) < 15 := by omega
          have q14 : q - 1 = 14 := by omega
          rw [q14] at HE2 HES
          clear q14
          have hz8 : (wr.setCell ⟨n, 6, none⟩ (.slice (some ⟨wr.heap.size, 0, none⟩) 1 1)).heap.size = wr.heap.size := by simp
          have hkS : Kp n own26 wr (wr.setCell ⟨n, 6, none⟩ (.slice (some ⟨wr.heap.size, 0, none⟩) 1 1)) := kp_set HE2.out.sys rfl HE2.out.sn _
          have hzS : (wr.setCell ⟨n, 6, none⟩ (.slice (some ⟨wr.heap.size, 0, none⟩) 1 1)).heap[n]? = some (sBlock 2000 1 (.slice ad B cap) nilV (.slice (some ⟨wr.heap.size, 0, none⟩) 1 1)) := by
            have := set_block (o := 6) HE2.out.sys (.slice (some ⟨wr.heap.size, 0, none⟩) 1 1)
            simpa [sBlock] using this
          have hBZ : Below (wr.setCell ⟨n, 6, none⟩ (.slice (some ⟨wr.heap.size, 0, none⟩) 1 1)).heap.size (wr.setCell ⟨n, 6, none⟩ (.slice (some ⟨wr.heap.size, 0, none⟩) 1 1)) ((wr.setCell ⟨n, 6, none⟩ (.slice (some ⟨wr.heap.size, 0, none⟩) 1 1)).alloc (.cells #[.slice ad2 j cap2] 55)) := bAlloc (Below.refl _ _) _
          have hnew := World.alloc_heap_new (wr.setCell ⟨n, 6, none⟩ (.slice (some ⟨wr.heap.size, 0, none⟩) 1 1)) (.cells #[.slice ad2 j cap2] 55)
          rw [hz8] at hnew
          have hkF := hkS.trans (Kp.of_below (n := n) (own := own26) hBZ (by omega))
          have hT : SliceV ((wr.setCell ⟨n, 6, none⟩ (.slice (some ⟨wr.heap.size, 0, none⟩) 1 1)).alloc (.cells #[.slice ad2 j cap2] 55)) (.slice ad B cap) 2 TermAt (digS B).terms := (HE2.out.terms.kp (own := own26) (TermC.held rfl) hkF rfl).terms (by simp; omega)
          have hR : SliceV ((wr.setCell ⟨n, 6, none⟩ (.slice (some ⟨wr.heap.size, 0, none⟩) 1 1)).alloc (.cells #[.slice ad2 j cap2] 55)) (.slice ad2 j cap2) 3 RulAt (digL B 14) := (HE2.out.rules.kp (own := own26) (RulC.held rfl) hkF rfl).rules (by rw [HES.out.2.2.2]; omega)
          have hP : SliceV ((wr.setCell ⟨n, 6, none⟩ (.slice (some ⟨wr.heap.size, 0, none⟩) 1 1)).alloc (.cells #[.slice ad2 j cap2] 55)) nilV 4 PluAt (digS B).plurals := ⟨_, 0, rfl, by show 0 ≤ most; omega, .inl rfl⟩
          have hSt : SliceV ((wr.setCell ⟨n, 6, none⟩ (.slice (some ⟨wr.heap.size, 0, none⟩) 1 1)).alloc (.cells #[.slice ad2 j cap2] 55)) (.slice (some ⟨wr.heap.size, 0, none⟩) 1 1) 1 SetAt (digS B).sets := ⟨_, 1, rfl, by show 1 ≤ most; unfold most; omega, .inr ⟨wr.heap.size, 0, rfl, fun i hi => by
            obtain rfl : i = 0 := by have : i < 1 := hi; omega
            exact ⟨.slice ad2 j cap2, by (unfold World.cell?; rw [hnew]; rfl), hR⟩⟩⟩
          have HBF := Lib.hid (HE2.out.low.trans hkF.low)
          obtain ⟨L, hL⟩ : ∃ L, L = dig B N := ⟨_, rfl⟩
          have H20 := Lib.hid (spell_dig hB hN ⟨hT, hP, hSt⟩ hL)
          have HL := Lib.hid hL
          have q0 : wr.cell? ⟨n, 0, none⟩ = some (.int .i64 2000) := by simp [World.cell?, HE2.out.sys, sBlock]
          have q1 : wr.cell? ⟨n, 1, none⟩ = some (.int .i64 1) := by simp [World.cell?, HE2.out.sys, sBlock]
          have q2 : wr.cell? ⟨n, 2, none⟩ = some (.int .i64 1) := by simp [World.cell?, HE2.out.sys, sBlock]
          have q3 : wr.cell? ⟨n, 3, none⟩ = some (.int .i64 1) := by simp [World.cell?, HE2.out.sys, sBlock]
          have q4 : wr.cell? ⟨n, 4, none⟩ = some (.slice ad B cap) := by simp [World.cell?, HE2.out.sys, sBlock]
          have q5 : wr.cell? ⟨n, 5, none⟩ = some nilV := by simp [World.cell?, HE2.out.sys, sBlock]
          have q6 : wr.cell? ⟨n, 6, none⟩ = some nilV := by simp [World.cell?, HE2.out.sys, sBlock]
          have qf : wr.frozen? ⟨n, 6, none⟩ = false := by simp [World.frozen?, HE2.out.sys, sBlock]
          have hnl : n < wr.heap.size := hsV
          clear hz8 hkS hzS hBZ hnew hkF hT hR hP hSt hL hsV HE2 HES HR2
          go_wp2_with (go_at_call 20; refine H20.out.mono ?_; rintro e w9 ⟨⟨adw, capw, rfl, hsl⟩, hb9⟩)
          have hne : L ≠ [] := by
            intro h0
            have h1 := dig_pos (n := N) hB.1
            rw [← HL.out, h0] at h1
            simp at h1
          have HMOST : Hid (L.length ≤ most) := Lib.hid (by obtain ⟨_, _, _, h, _⟩ := id hsl; exact h)
          obtain ⟨wb, wo, rfl, hcells⟩ := slice_at hsl hne
          have HC := Lib.hid hcells
          have HBW : Hid (Below w.heap.size w w9) := Lib.hid (by rw [← HNN.out]; exact HBF.out.trans (hb9.mono (by simp; omega)))
          have hL1 : 1 ≤ L.length := by cases L with | nil => exact absurd rfl hne | cons => simp
          obtain ⟨ln, hln⟩ : ∃ ln, ln = L.length := ⟨_, rfl⟩
          rw [← hln]
          rw [← hln] at hL1
          have HLN := Lib.hid hln
          clear hsl hcells hb9 hne hln H20 q0 q1 q2 q3 q4 q5 q6 qf
          go_loopw [11, 12] (fun a mm w3 => ∃ (m A : Nat), m ≤ 2000 ∧ a = .int .i64 A ∧ mm = .int .i64 m ∧ Hid (A = (dig B m).length ∧ ∃ T, L = dig B m ++ T) ∧ Hid (Below w9.heap.size w9 w3)) (fun _ i _ => (intOf i).toNat)
          case atStart => exact ⟨N, ln, hN, rfl, rfl, Lib.hid ⟨by rw [HLN.out, HL.out], [], by rw [HL.out, List.append_nil]⟩, Lib.hid (Below.refl _ _)⟩
          case round =>
            obtain ⟨m, A, hm, rfl, rfl, HA, HB3⟩ := hrel
            have HB1 : Hid (Below w.heap.size w wr) := Lib.hid (bThen HBW.out HB3.out)
            have HBR : Hid (∀ W', Below wr.heap.size wr W' → Below w.heap.size w W') := Lib.hid fun W' h => bThen HB1.out h
            by_cases hmB : m < B
            · obtain ⟨hA, T, hT⟩ := HA.out
              rw [dig_small hmB] at hA hT
              obtain rfl : A = 1 := hA
              obtain ⟨p, hp⟩ : ∃ p, p = dch m := ⟨_, rfl⟩
              have s0 : wr.cell? ⟨wb, wo, none⟩ = some (.string p) := by
                have := HC.out 0 (by rw [← HLN.out]; omega)
                have e : L[0]'(by rw [← HLN.out]; omega) = p := by simp [hT, hp]
                rw [e] at this
                exact keep HB3.out this
              have hwb := cell_lt s0
              have hv := run_dch (wr.alloc (.cells #[.int .u8 (97 + (m : Int))] 5)).drew wr.heap.size 1 m (by omega) (cell_new (V := wr) (cs := #[.int .u8 (97 + (m : Int))]) (t := 5) (j := 0) rfl)
              rw [← hp] at hv
              have v1 : IntKind.i64.wrap (97 + (m : Int)) = 97 + (m : Int) := wrap_in (by omega) (by omega)
              have v2 : IntKind.u8.wrap (97 + (m : Int)) = 97 + (m : Int) := wraps_u8 _ (by omega) (by omega)
              have i1 : (m : Int) < (B : Int) := by omega
              have i2 : (0 : Int) < (ln : Int) := by omega
              have i3 : 0 < ln := by omega
              have i4 : ¬ ln = 0 := by omega
              have i3 : 0 < ln := by omega
              have i4 : ¬ ln = 0 := by omega
              clear hT hp HA hmB
              go_wp2_with fail
              have HK : Hid (∀ W', Below wr.heap.size wr W' → W'.cell? ⟨wb, wo, none⟩ = some (.string p)) := Lib.hid fun W' h => keep h s0
              refine wp_region_noPanic ?_
              refine wp_region_held_drew (S := fun W' => W'.cell? ⟨wb, wo, none⟩ = some (.string p)) (by kernel_rfl) (HK.out _ (Below.drew (Below.refl _ _))) (fun hHeld => ?_)
              refine wpAnyH_take (i := 0) (oi := ⟨some 101, _, _, _, _, _⟩) (v := ?_) rfl (by kernel_rfl) (by kernel_rfl) (by kernel_rfl) (fun _ _ _ h => h) (Or.inl ⟨by rfl, ?hy⟩) (by assumption) ?_
              case hy => (intro w hSw; (try dsimp only at hSw); go_simp; try (with_reducible rfl))
              try simp only [Act.put, List.setIfInBounds_toArray, List.set_cons_zero, List.set_cons_succ]
              refine wpAnyH_take (i := 1) (oi := ⟨some 102, _, _, _, _, _⟩) (v := ?_) rfl (by kernel_rfl) (by kernel_rfl) (by kernel_rfl) (fun _ _ _ h => h) (Or.inl ⟨by rfl, ?hy⟩) (by assumption) ?_
              case hy => (intro w hSw; (try dsimp only at hSw); go_simp; try (with_reducible rfl))
              try simp only [Act.put, List.setIfInBounds_toArray, List.set_cons_zero, List.set_cons_succ]
              refine wpAnyH_take (i := 2) (oi := ⟨some 103, _, _, _, _, _⟩) (v := ?_) rfl (by kernel_rfl) (by kernel_rfl) (by kernel_rfl) (fun _ _ _ h => h) (Or.inl ⟨by rfl, ?hy⟩) (by assumption) ?_
              case hy => (intro w hSw; (try dsimp only at hSw); go_simp; try (with_reducible rfl))
              try simp only [Act.put, List.setIfInBounds_toArray, List.set_cons_zero, List.set_cons_succ]
              refine wpAnyH_take (i := 3) (oi := ⟨some 104, _, _, _, _, _⟩) (v := ?_) rfl (by kernel_rfl) (by kernel_rfl) (by kernel_rfl) (fun _ _ _ h => h) (Or.inl ⟨by rfl, ?hy⟩) (by assumption) ?_
              case hy => (intro w hSw; (try dsimp only at hSw); go_simp; try (with_reducible rfl))
              try simp only [Act.put, List.setIfInBounds_toArray, List.set_cons_zero, List.set_cons_succ]
              refine wpAnyH_take (i := 4) (oi := ⟨some 105, _, _, _, _, _⟩) (v := ?_) rfl (by kernel_rfl) (by kernel_rfl) (by kernel_rfl) (fun _ _ _ h => h) (Or.inl ⟨by rfl, ?hy⟩) (by assumption) ?_
              case hy => (intro w hSw; (try dsimp only at hSw); go_simp; try (with_reducible rfl))
              try simp only [Act.put, List.setIfInBounds_toArray, List.set_cons_zero, List.set_cons_succ]
              refine wpAnyH_take (i := 5) (oi := ⟨some 106, _, _, _, _, _⟩) (v := ?_) rfl (by kernel_rfl) (by kernel_rfl) (by kernel_rfl) (fun _ _ _ h => h) (Or.inl ⟨by rfl, ?hy⟩) (by assumption) ?_
              case hy => (intro w hSw; (try dsimp only at hSw); go_simp; try (with_reducible rfl))
              try simp only [Act.put, List.setIfInBounds_toArray, List.set_cons_zero, List.set_cons_succ]
              refine wpAnyH_take (i := 6) (oi := ⟨some 107, _, _, _, _, _⟩) (v := ?_) rfl (by kernel_rfl) (by kernel_rfl) (by kernel_rfl) (fun _ _ _ h => h) (Or.inl ⟨by rfl, ?hy⟩) (by assumption) ?_
              case hy => (intro w hSw; (try dsimp only at hSw); go_simp; try (with_reducible rfl))
              try simp only [Act.put, List.setIfInBounds_toArray, List.set_cons_zero, List.set_cons_succ]
              refine wpAnyH_take (i := 7) (oi := ⟨some 108, _, _, _, _, _⟩) (v := ?_) rfl (by kernel_rfl) (by kernel_rfl) (by kernel_rfl) (fun _ _ _ h => h) (Or.inl ⟨by rfl, ?hy⟩) (by assumption) ?_
              case hy => (intro w hSw; (try dsimp only at hSw); go_simp; try (with_reducible rfl))
              try simp only [Act.put, List.setIfInBounds_toArray, List.set_cons_zero, List.set_cons_succ]
              refine wpAnyH_take (i := 8) (oi := ⟨some 109, _, _, _, _, _⟩) (v := ?_) rfl (by kernel_rfl) (by kernel_rfl) (by kernel_rfl) (fun _ _ _ h => h) (Or.inl ⟨by rfl, ?hy⟩) (by assumption) ?_
              case hy => (intro w hSw; (try dsimp only at hSw); go_simp; try (with_reducible rfl))
              try simp only [Act.put, List.setIfInBounds_toArray, List.set_cons_zero, List.set_cons_succ]
              refine wpAnyH_ready (rs := [9]) (by kernel_rfl) (by simp) ?_
              refine AllReadyH.cons (o := ⟨some 110, _, _, _, _, _⟩) rfl (fun K hK => ?_) AllReadyH.nil
              go_simp
              refine hK.out _ _ (by (first | exact HK.out _ (by (repeat (first | exact Below.refl _ _ | refine Below.drew ?_ | refine bAlloc ?_ _ | refine bThen ?_ hb8))))) (fun hHeld => ?_)
              clear hK K
              try simp only [Act.put, List.setIfInBounds_toArray, List.set_cons_zero, List.set_cons_succ]
              refine wpAnyH_ready (rs := [10]) (by kernel_rfl) (by simp) ?_
              refine AllReadyH.cons (o := ⟨some 111, _, _, _, _, _⟩) rfl (fun K hK => ?_) AllReadyH.nil
              go_simp
              refine hK.out _ _ (by (first | exact HK.out _ (by (repeat (first | exact Below.refl _ _ | refine Below.drew ?_ | refine bAlloc ?_ _ | refine bThen ?_ hb8))))) (fun hHeld => ?_)
              clear hK K
              try simp only [Act.put, List.setIfInBounds_toArray, List.set_cons_zero, List.set_cons_succ]
              refine wpAnyH_take (i := 11) (oi := ⟨some 112, _, _, _, _, _⟩) (v := ?_) rfl (by kernel_rfl) (by kernel_rfl) (by kernel_rfl) (fun _ _ _ h => h) (Or.inl ⟨by rfl, ?hy⟩) (by assumption) ?_
              case hy => (intro w hSw; (try dsimp only at hSw); go_simp; try (with_reducible rfl))
              try simp only [Act.put, List.setIfInBounds_toArray, List.set_cons_zero, List.set_cons_succ]
              refine wpAnyH_take (i := 12) (oi := ⟨some 113, _, _, _, _, _⟩) (v := ?_) rfl (by kernel_rfl) (by kernel_rfl) (by kernel_rfl) (fun _ _ _ h => h) (Or.inl ⟨by rfl, ?hy⟩) (by assumption) ?_
              case hy => (intro w hSw; (try dsimp only at hSw); go_simp; try (with_reducible rfl))
              try simp only [Act.put, List.setIfInBounds_toArray, List.set_cons_zero, List.set_cons_succ]
              refine wpAnyH_take (i := 13) (oi := ⟨some 114, _, _, _, _, _⟩) (v := ?_) rfl (by kernel_rfl) (by kernel_rfl) (by kernel_rfl) (fun _ _ _ h => h) (Or.inl ⟨by rfl, ?hy⟩) (by assumption) ?_
              case hy => (intro w hSw; (try dsimp only at hSw); go_simp; try (with_reducible rfl))
              try simp only [Act.put, List.setIfInBounds_toArray, List.set_cons_zero, List.set_cons_succ]
              refine wpAnyH_ready (rs := [14]) (by kernel_rfl) (by simp) ?_
              refine AllReadyH.cons (o := ⟨some 115, _, _, _, _, _⟩) rfl (fun K hK => ?_) AllReadyH.nil
              (go_simp; go_at_call 15; refine (H15.out _ (HBR.out _ (by (repeat (first | exact Below.refl _ _ | refine Below.drew ?_ | refine bAlloc ?_ _))))).mono ?_; rintro e w8 ⟨rfl, hb8⟩; have HB8 := Lib.hid (bThen (HBR.out _ (by (repeat (first | exact Below.refl _ _ | refine Below.drew ?_ | refine bAlloc ?_ _)))) hb8); go_simp)
              refine hK.out _ _ (by (first | exact HK.out _ (by (repeat (first | exact Below.refl _ _ | refine Below.drew ?_ | refine bAlloc ?_ _ | refine bThen ?_ hb8))))) (fun hHeld => ?_)
              clear hK K
              try simp only [Act.put, List.setIfInBounds_toArray, List.set_cons_zero, List.set_cons_succ]
              refine wpAnyH_take (i := 15) (oi := ⟨some 116, _, _, _, _, _⟩) (v := ?_) rfl (by kernel_rfl) (by kernel_rfl) (by kernel_rfl) (fun _ _ _ h => h) (Or.inl ⟨by rfl, ?hy⟩) (by assumption) ?_
              case hy => (intro w hSw; (try dsimp only at hSw); go_simp; try (with_reducible rfl))
              try simp only [Act.put, List.setIfInBounds_toArray, List.set_cons_zero, List.set_cons_succ]
              refine wpAnyH_take (i := 16) (oi := ⟨some 4, _, _, _, _, _⟩) (v := ?_) rfl (by kernel_rfl) (by kernel_rfl) (by kernel_rfl) (fun _ _ _ h => h) (Or.inl ⟨by rfl, ?hy⟩) (by assumption) ?_
              case hy => (intro w hSw; (try dsimp only at hSw); go_simp; try (with_reducible rfl))
              try simp only [Act.put, List.setIfInBounds_toArray, List.set_cons_zero, List.set_cons_succ]
              refine wpAnyH_done (by kernel_rfl) ?_ _
              refine NoPanic.normal ?_
              go_wp2_with fail
              go_ret
              exact ⟨rfl, HB8.out⟩
            · obtain ⟨hA, T, hT⟩ := HA.out
              have hB0 : ¬ (B : Int) = 0 := by omega
              have hB1 : ((B : Int) == 0) = false := by simp; omega
              have i1 : ¬ (m : Int) < (B : Int) := by omega
              obtain ⟨r, hr⟩ : ∃ r, r = m % B := ⟨_, rfl⟩
              obtain ⟨d, hd⟩ : ∃ d, d = m / B := ⟨_, rfl⟩
              have hrB : r < B := by rw [hr]; exact Nat.mod_lt _ (by omega)
              have hdm : d < m := by rw [hd]; exact Nat.div_lt_self (by omega) (by omega)
              have e1 : (m : Int).tmod (B : Int) = (r : Int) := by rw [Int.tmod_eq_emod_of_nonneg (by omega), hr]; rfl
              have e2 : (m : Int).tdiv (B : Int) = (d : Int) := by rw [Int.tdiv_eq_ediv_of_nonneg (by omega), hd]; rfl
              have hgt := dig_great (n := m) (by omega) hB.1
              rw [← hr, ← hd] at hgt
              have e3 : IntKind.i64.wrap (r : Int) = (r : Int) := wrap_in (by omega) (by omega)
              have e4 : IntKind.i64.wrap (d : Int) = (d : Int) := wrap_in (by omega) (by omega)
              have HDM := Lib.hid hdm
              by_cases hr0 : r = 0
              · rw [if_pos hr0, List.append_nil] at hgt
                rw [hgt] at hA hT
                have e1' : (m : Int).tmod (B : Int) = 0 := by rw [e1, hr0]; rfl
                have HA2 : Hid (A = (dig B d).length ∧ ∃ T, L = dig B d ++ T) := Lib.hid ⟨hA, T, hT⟩
                clear hr0 e1 e3 hgt hr hd hA hT HA hrB hdm
                go_wp2_with fail
                go_roundw
                case rel => exact ⟨d, A, by have := HDM.out; omega, rfl, by go_num, HA2, HB3⟩
                case measure => have := HDM.out; simp [intOf]; omega
              · rw [if_neg hr0] at hgt
                have hdp := dig_pos (n := d) hB.1
                rw [hgt] at hA hT
                rw [List.length_append, List.length_cons, List.length_cons, List.length_nil] at hA
                obtain ⟨A2, hA2⟩ : ∃ A2, A2 = (dig B d).length := ⟨_, rfl⟩
                obtain ⟨A1, hA1⟩ : ∃ A1, A1 = A2 + 1 := ⟨_, rfl⟩
                rw [← hA2] at hA hdp
                have hLl : L.length = A2 + 2 + T.length := by rw [hT]; simp [← hA2]; omega
                obtain ⟨p, hp⟩ : ∃ p, p = dch r := ⟨_, rfl⟩
                have hg1 : L[A1]'(by omega) = p := by
                  have e : L[A1]? = some p := by
                    rw [hT, hp, List.append_assoc, List.getElem?_append_right (by omega), ← hA2, hA1, Nat.add_sub_cancel_left]; rfl
                  rw [List.getElem?_eq_getElem (by omega)] at e
                  exact Option.some.inj e
                have hg2 : L[A2]'(by omega) = ⟨#[97]⟩ := by
                  have e : L[A2]? = some (dch 0) := by
                    rw [hT, List.append_assoc, List.getElem?_append_right (by omega), ← hA2, Nat.sub_self]; rfl
                  rw [List.getElem?_eq_getElem (by omega)] at e
                  exact (Option.some.inj e).trans rfl
                have s1 : wr.cell? ⟨wb, wo + A1, none⟩ = some (.string p) := by
                  have := HC.out A1 (by omega)
                  rw [hg1, Nat.mul_one] at this
                  exact keep HB3.out this
                have s2 : wr.cell? ⟨wb, wo + A2, none⟩ = some (.string ⟨#[97]⟩) := by
                  have := HC.out A2 (by omega)
                  rw [hg2, Nat.mul_one] at this
                  exact keep HB3.out this
                have hwb := cell_lt s1
                have hv := run_dch (wr.alloc (.cells #[.int .u8 (97 + (r : Int))] 5)).drew wr.heap.size 1 r (by omega) (cell_new (V := wr) (cs := #[.int .u8 (97 + (r : Int))]) (t := 5) (j := 0) rfl)
                rw [← hp] at hv
                have v1 : IntKind.i64.wrap (97 + (r : Int)) = 97 + (r : Int) := wrap_in (by omega) (by omega)
                have v2 : IntKind.u8.wrap (97 + (r : Int)) = 97 + (r : Int) := wraps_u8 _ (by omega) (by omega)
                have e5 : (0 : Int) < (r : Int) := by omega
                have e6 : ¬ (A : Int) < 3 := by omega
                have e6' : decide ((A : Int) < 3) = false := decide_eq_false e6
                have hAm : A ≤ 9223372036854775807 := by have := HMOST.out; unfold most at this; omega
                have e7 : IntKind.i64.wrap ((A : Int) - 1) = (A1 : Int) := by rw [wrap_in (by omega) (by omega)]; omega
                have e8 : IntKind.i64.wrap ((A : Int) - 2) = (A2 : Int) := by rw [wrap_in (by omega) (by omega)]; omega
                have hlen := HLN.out
                have e9n : A1 < ln := by omega
                have e10n : A2 < ln := by omega
                have e9n : A1 < ln := by omega
                have e10n : A2 < ln := by omega
                have e9 : (A1 : Int) < (ln : Int) := by omega
                have e10 : (A2 : Int) < (ln : Int) := by omega
                have HA2 : Hid (A2 = (dig B d).length ∧ ∃ T, L = dig B d ++ T) := Lib.hid ⟨hA2, _, by rw [hT, List.append_assoc]⟩
                clear hr0 hgt hr hd hA hT HA hrB hdm hdp hA2 hA1 hLl hp hg1 hg2 hlen
                go_wp2_with fail
                go_cut [145] (fun b wd => b = .bool false ∧ Hid (Below wr.heap.size wr wd))
                case rest =>
                  obtain ⟨rfl, HBd⟩ := hcut
                  go_wp2_with fail
                  go_roundw
                  case rel => exact ⟨d, A2, by have := HDM.out; omega, rfl, by go_num, HA2, Lib.hid (bThen HB3.out HBd.out)⟩
                  case measure => have := HDM.out; simp [intOf]; omega
                case first =>
                  go_region
                  all_goals (
                    go_wp2_with fail
                    go_meet
                    case rel => exact ⟨rfl, Lib.hid (by (repeat (first | exact Below.refl _ _ | refine Below.drew ?_ | refine bAlloc ?_ _)))⟩)
end Go.Proofs.Ytfcopnlpcbbocaa
