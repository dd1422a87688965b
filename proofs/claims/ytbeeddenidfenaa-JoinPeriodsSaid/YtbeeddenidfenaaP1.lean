/- Contracts: the periods by the specification. -/
import Derived.Test.YtbeeddenidfenaaG6
set_option linter.unusedSimpArgs false
set_option linter.unusedVariables false
namespace Go.Proofs.Ytbeeddenidfenaa
open Go.RowKit

theorem infoS : (Try.prog.info? 22).map (fun i => (i.zero, i.size, i.bytes)) = some (some (.slice none 0 0), 1, 24) := by kernel_rfl
/-- A row of waves of one's own reads as a slice of waves. -/
theorem own_waves {W : World} {base : Nat} {v : Value} {vals : List Value} {ls : List (List Int)} (h : W.ownsRow base 22 1 v ls.length vals) (hl : ls.length ≤ 1000000)
    (hv : ∀ i (hi : i < ls.length), ∃ u, vals[i]? = some u ∧ SliceV W u 1 IntAt ls[i]) : SliceV W v 1 WaveAt ls := by
  rcases h.2 with ⟨rfl, h0⟩ | ⟨g, cap, cur, rfl, _, hb, hc, _, _, hx⟩
  · exact ⟨none, 0, by rw [h0], by rw [h0]; exact ⟨Nat.zero_le _, Nat.zero_le _⟩, .inl (List.eq_nil_of_length_eq_zero h0)⟩
  · refine ⟨_, cap, rfl, ⟨by unfold most; omega, hc⟩, .inr ⟨g, 0, rfl, fun i hi => ?_⟩⟩
    obtain ⟨u, h1, h2⟩ := hv i hi
    rw [← hx, Nat.mul_one, List.getElem?_take, if_pos hi] at h1
    refine ⟨u, ?_, h2⟩
    show W.cell? ⟨g, 0 + i * 1, none⟩ = _
    simp only [World.cell?, hb]
    simpa using h1
/-- All periods. -/
def pers (m : Mk) : List (List Int) := (List.range (pN m)).map (per m)
def pvals (m : Mk) (sb so sc k : Nat) : List Value := (List.range k).map (perV m sb so sc)
theorem pvals_succ (m : Mk) (sb so sc k : Nat) : pvals m sb so sc (k + 1) = pvals m sb so sc k ++ [perV m sb so sc k] := by unfold pvals; rw [List.range_succ, List.map_append]; rfl
theorem perV_slice {m : Mk} (hm : MkR m) {W : World} {sb so sc : Nat} (h : SliceV W (.slice (some ⟨sb, so, none⟩) m.sam.length sc) 1 IntAt m.sam) {i : Nat} (hi : i < pN m) : SliceV W (perV m sb so sc i) 1 IntAt (per m i) := by
  have h1 := hm.lt hi
  have h2 := hm.le (i := i + 1) (by have := hm.pN_in; omega)
  have h3 : m.sam.length ≤ sc := by obtain ⟨a, c, he, hl, -⟩ := h; cases he; exact hl.2
  exact h.part (mkI m i) (pL m i) (sc - mkI m i) (by unfold pL; omega) (by unfold pL; omega)

set_option maxRecDepth 10000 in
set_option maxHeartbeats 4000000 in
theorem Periods_any (m : Mk) (vs vm : Value) (w : World) (hv : MkV w vs vm m) (hm : MkR m) :
    Calls Try.prog 49 #[.agg #[vs, vm]] w fun e w' => (∃ r cr, e = .returned (.slice r (pN m) cr) ∧ SliceV w' (.slice r (pN m) cr) 1 WaveAt (pers m)) ∧ Below w.heap.size w w' := by
  have HV := Lib.hid hv
  have HM := Lib.hid hm
  have hln := hm.len
  have hmk := hm.many
  have hpn := hm.pN_in
  obtain ⟨i3, hi, hz0, hz1, hz2⟩ := info_parts infoS
  have HI := Lib.hid hi
  clear hi
  obtain ⟨⟨a, c, rfl, hl, -⟩, ⟨am, cm, rfl, hlm, -⟩⟩ := id hv
  obtain ⟨sb, so, rfl, -⟩ := hv.1.at hm.ne
  obtain ⟨mb, mo, rfl, -⟩ := hv.2.at (by intro e; have := hm.two; rw [e] at this; simp at this)
  have HVM := Lib.hid hv.2
  obtain ⟨N, hN⟩ : ∃ N, pN m = N := ⟨_, rfl⟩
  have HN := Lib.hid hN
  rw [hN] at hpn ⊢
  have h3 := hpn.2.2
  rw [h3] at hlm HVM HV hmk ⊢
  have HL := Lib.hid h3
  unfold most at hl hlm
  clear hv hm h3 hN
  have HB := Lib.hid (bAlloc (Below.refl w.heap.size w) (.cells #[.slice (some ⟨sb, so, none⟩) m.sam.length c, .slice (some ⟨mb, mo, none⟩) (N + 1) cm] 24))
  have c0 : (w.alloc (.cells #[.slice (some ⟨sb, so, none⟩) m.sam.length c, .slice (some ⟨mb, mo, none⟩) (N + 1) cm] 24)).cell? ⟨w.heap.size, 0, none⟩ = some (.slice (some ⟨sb, so, none⟩) m.sam.length c) := cell_new rfl
  have c1 : (w.alloc (.cells #[.slice (some ⟨sb, so, none⟩) m.sam.length c, .slice (some ⟨mb, mo, none⟩) (N + 1) cm] 24)).cell? ⟨w.heap.size, 1, none⟩ = some (.slice (some ⟨mb, mo, none⟩) (N + 1) cm) := cell_new rfl
  go_enter Try.func49, Try.ntmps49
  go_wp2_with fail
  generalize hW1 : World.alloc w _ = W1 at *
  have hz : w.heap.size < W1.heap.size := cell_lt c0
  clear hW1
  have C0 := Lib.hid c0
  have C1 := Lib.hid c1
  clear c0 c1
  go_loopw [3, 4] (fun o i wr => ∃ k : Nat, k ≤ N ∧ i = .int .i64 k ∧ Hid (wr.ownsRow W1.heap.size 22 1 o k (pvals m sb so c k)) ∧ Hid (Below W1.heap.size W1 wr)) (fun _ i _ => N - (intOf i).toNat)
  case atStart => exact ⟨0, Nat.zero_le _, rfl, Lib.hid (World.ownsRow_nil _ _ _ _), Lib.hid (Below.refl _ _)⟩
  case round =>
    obtain ⟨k, hk, rfl, HR, HBR⟩ := hrel
    have c0 := keep HBR.out C0.out
    have c1 := keep HBR.out C1.out
    have cl := cell_lt c0
    have e1 : IntKind.i64.wrap ((k : Int) + 1) = (k : Int) + 1 := IntWalk.i64_in _ (by omega)
    by_cases hlt : k < N
    · have M0 : W1.cell? ⟨mb, mo + k, none⟩ = some (.int .i64 (mkI m k : Int)) := by
        obtain ⟨b, o, hbo, hf⟩ := (HVM.out.keep IntAt.stable HB.out).at (by intro e; have := HL.out; rw [e] at this; simp at this)
        cases hbo
        have := hf k (by rw [HL.out]; omega)
        unfold IntAt at this
        rwa [HM.out.get (by rw [HL.out]; omega), Nat.mul_one] at this
      have M1 : W1.cell? ⟨mb, mo + (k + 1), none⟩ = some (.int .i64 (mkI m (k + 1) : Int)) := by
        obtain ⟨b, o, hbo, hf⟩ := (HVM.out.keep IntAt.stable HB.out).at (by intro e; have := HL.out; rw [e] at this; simp at this)
        cases hbo
        have := hf (k + 1) (by rw [HL.out]; omega)
        unfold IntAt at this
        rwa [HM.out.get (by rw [HL.out]; omega), Nat.mul_one] at this
      have hp1 := HM.out.lt (i := k) (by rw [HN.out]; exact hlt)
      have hp2 := HM.out.le (i := k + 1) (by rw [HL.out]; omega)
      have HPV : Hid (perV m sb so c k = .slice (some ⟨sb, so + mkI m k, none⟩) (mkI m (k + 1) - mkI m k) (c - mkI m k)) := Lib.hid rfl
      have HPS := Lib.hid (pvals_succ m sb so c k)
      obtain ⟨p, hpe⟩ : ∃ p, p = mkI m k := ⟨_, rfl⟩
      obtain ⟨q, hqe⟩ : ∃ q, q = mkI m (k + 1) := ⟨_, rfl⟩
      rw [← hpe] at M0 hp1 HPV
      rw [← hqe] at M1 hp1 hp2 HPV
      clear hpe hqe
      have m0 := keep HBR.out M0
      have m1 := keep HBR.out M1
      have ml := cell_lt m0
      have HK : Hid (∀ W', Below W1.heap.size W1 W' → (W'.cell? ⟨w.heap.size, 0, none⟩ = some (.slice (some ⟨sb, so, none⟩) m.sam.length c) ∧ W'.cell? ⟨w.heap.size, 1, none⟩ = some (.slice (some ⟨mb, mo, none⟩) (N + 1) cm) ∧ W'.cell? ⟨mb, mo + k, none⟩ = some (.int .i64 (p : Int)) ∧ W'.cell? ⟨mb, mo + (k + 1), none⟩ = some (.int .i64 (q : Int)))) := Lib.hid fun W' hB => ⟨keep hB C0.out, keep hB C1.out, keep hB M0, keep hB M1⟩
      clear M0 M1
      have i1 : (p : Int) ≤ (q : Int) := by omega
      have i2 : (q : Int) ≤ (m.sam.length : Int) := by omega
      have i3' : (0 : Int) ≤ (p : Int) := by omega
      have i4 : (q : Int) ≤ (c : Int) := by omega
      have i5 : ¬ c = p := by omega
      have i6 : (k : Int) < (N : Int) + 1 := by omega
      have i7 : (k : Int) + 1 < (N : Int) + 1 := by omega
      have i8 : ((k : Int) + 1).toNat = k + 1 := by omega
      have i9 : (0 : Int) ≤ (k : Int) + 1 := by omega
      obtain ⟨ad, cap, rfl⟩ := ownsRow_slice HR.out
      have hsz := HBR.out.size
      go_wp2_with fail
      go_region_held3 (fun W' => (W'.cell? ⟨w.heap.size, 0, none⟩ = some (.slice (some ⟨sb, so, none⟩) m.sam.length c) ∧ W'.cell? ⟨w.heap.size, 1, none⟩ = some (.slice (some ⟨mb, mo, none⟩) (N + 1) cm) ∧ W'.cell? ⟨mb, mo + k, none⟩ = some (.int .i64 (p : Int)) ∧ W'.cell? ⟨mb, mo + (k + 1), none⟩ = some (.int .i64 (q : Int)))) (((try dsimp only); exact HK.out _ (by (repeat (first | exact HBR.out | exact hb6 | refine Below.drew ?_ | refine bAlloc ?_ _))))) (first
        | (refine step_append_lies _ (by rfl) _ _ _ (by rfl) W1.heap.size 22 i3 _ 1 24 Try.underlying49 HI.out hz0 hz1 hz2 rfl (by decide) (.slice ad k cap) k _ (by rfl) ((HR.out.drew).alloc _) ⟨wr.heap.size, 0, none⟩ 1 1 [.slice (some ⟨sb, so + p, none⟩) (q - p) (c - p)] (by rfl) (by rfl) (World.news_of_block (World.alloc_heap_new wr.drew (.cells #[.slice (some ⟨sb, so + p, none⟩) (q - p) (c - p)] 22))) (by simp [Value.oneCell']) (by omega) (by unfold maxLen; omega) (by omega) (by simp; omega) (wr.heap.size + 1) (by simp) ?_; intro g6 cap6 w6 hown hgrow hat6 hlt6; have hb6 : Below W1.heap.size W1 w6 := ((bAlloc HBR.out _).drew).trans (below_grown hgrow ((HR.out.drew).alloc _) (by simp; omega))))
      have HR2 : Hid (w6.ownsRow W1.heap.size 22 1 (.slice (some ⟨g6, 0, none⟩) (k + 1) cap6) (k + 1) (pvals m sb so c (k + 1))) := Lib.hid (by rw [HPS.out, HPV.out]; exact hown)
      have HB2 : Hid (Below W1.heap.size W1 w6) := Lib.hid hb6
      go_wp2_with fail
      go_roundw
      case rel =>
        first
          | exact ⟨k + 1, by omega, by go_num, HR2, HB2⟩
          | ((repeat apply Exists.intro); refine ⟨?_, rfl⟩; exact ⟨k + 1, by omega, by go_num, HR2, HB2⟩)
          | fail
      case measure => simp [intOf]; omega
    · obtain rfl : k = N := by omega
      obtain ⟨ad, cap, rfl⟩ := ownsRow_slice HR.out
      go_wp2_with fail
      go_ret
      have hlen : (pers m).length = k := by unfold pers; rw [List.length_map, List.length_range, HN.out]
      refine ⟨⟨_, _, rfl, ?_⟩, bThen HB.out HBR.out⟩
      have h0 := HR.out
      rw [← hlen] at h0
      have h1 := own_waves (ls := pers m) h0 (by rw [hlen]; omega) (fun i hi => by
        rw [hlen] at hi
        refine ⟨perV m sb so c i, by rw [hlen]; unfold pvals; rw [List.getElem?_map, List.getElem?_range hi]; rfl, ?_⟩
        have : (pers m)[i]'(by rw [hlen]; exact hi) = per m i := by unfold pers; simp
        rw [this]
        exact perV_slice HM.out (HV.out.1.keep IntAt.stable (bThen HB.out HBR.out)) (by rw [HN.out]; exact hi))
      rw [hlen] at h1
      exact h1
end Go.Proofs.Ytbeeddenidfenaa
