/- Contracts: New. -/
import Derived.Test.YtbmbcbknoflpgaaH6
set_option linter.unusedSimpArgs false
set_option linter.unusedVariables false
namespace Go.Proofs.Ytbmbcbknoflpgaa
open Go.RowKit

def shpPlaces (s : Shp) : List Plc := placesL s.areas.length s.branch.length s.joint.toNat s.glottis s.lips s.nose
theorem shp_parts {s : Shp} (h : shpOk s = true) : 1 ≤ s.areas.length ∧ arsOk s.areas = true ∧ arsOk s.branch = true ∧ (0 ≤ s.joint ∧ s.joint ≤ s.last) ∧ (0 ≤ s.glottis ∧ s.glottis ≤ 99) ∧ (0 ≤ s.lips ∧ s.lips ≤ 99) ∧ (0 ≤ s.nose ∧ s.nose ≤ s.most) := by
  simp only [shpOk, Bool.and_eq_true, betw_iff, decide_eq_true_eq] at h
  obtain ⟨⟨⟨⟨⟨⟨h1, h2⟩, h3⟩, h4⟩, h5⟩, h6⟩, h7⟩ := h
  exact ⟨h1, h2, h3, h4, h5, h6, h7⟩
theorem ars_parts {l : List Int} (h : arsOk l = true) : l.length ≤ 24 ∧ ∀ j, j < l.length → 1 ≤ l.getD j 0 ∧ l.getD j 0 ≤ 1000 := by
  simp only [arsOk, arOk, Bool.and_eq_true, betw_iff, decide_eq_true_eq, List.all_eq_true] at h
  refine ⟨by omega, fun j hj => ?_⟩
  rw [gI hj]
  exact h.2 _ (List.getElem_mem hj)
theorem shp_most (s : Shp) : s.most ≤ 99 := by unfold Shp.most; split <;> omega
set_option maxHeartbeats 1000000 in
theorem New_bad (s : Shp) (va vb : Value) (w : World) (ha : SliceV w va 1 IntAt s.areas) (hb : SliceV w vb 1 IntAt s.branch) (hk : shpOk s = false) :
    Calls Try.prog 25 #[.agg #[va, vb, .int .i64 s.joint, .int .i64 s.glottis, .int .i64 s.lips, .int .i64 s.nose]] w fun e w' => e = .returned (.tuple #[.pointer none, .int .i64 2]) ∧ Below w.heap.size w w' := by
  have H := Lib.hid (fun W (hB : Below w.heap.size w W) => shapeRight_any s va vb W (ha.keep IntAt.stable hB) (hb.keep IntAt.stable hB))
  rw [hk] at H
  obtain ⟨al, bl, j, g, li, no⟩ := s
  simp only at H ha hb ⊢
  obtain ⟨a, c, rfl, hl, -⟩ := ha
  obtain ⟨b, d, rfl, hm, -⟩ := hb
  go_enter Try.func25, Try.ntmps25
  go_wp2_with (go_at_call 54; with_reducible refine Calls.mono (H.out _ (bAlloc (Below.refl _ _) _)) ?_; rintro e w1 ⟨rfl, hb⟩; have HB := Lib.hid hb; clear hb)
  go_ret2
  exact ⟨rfl, bThen (bAlloc (Below.refl _ _) _) HB.out⟩
set_option maxRecDepth 10000 in
set_option maxHeartbeats 2000000 in
theorem New_ok (s : Shp) (va vb : Value) (w : World) (ha : SliceV w va 1 IntAt s.areas) (hb : SliceV w vb 1 IntAt s.branch) (hk : shpOk s = true) :
    Calls Try.prog 25 #[.agg #[va, vb, .int .i64 s.joint, .int .i64 s.glottis, .int .i64 s.lips, .int .i64 s.nose]] w fun e w' => (∃ tb wb, e = .returned (.tuple #[.pointer (some ⟨tb, 0, none⟩), .int .i64 0]) ∧ TubeIs w.heap.size w' tb (s.areas ++ s.branch) s.areas.length (shpPlaces s) 0 wb (fun _ => 0)) ∧ Below w.heap.size w w' := by
  have H := Lib.hid (fun W (hB : Below w.heap.size w W) => shapeRight_any s va vb W (ha.keep IntAt.stable hB) (hb.keep IntAt.stable hB))
  obtain ⟨p1, p2, p3, p4, p5, p6, p7⟩ := shp_parts hk
  have hmo := shp_most s
  obtain ⟨q, hq⟩ : ∃ q, s.areas.length = q + 1 := ⟨s.areas.length - 1, by omega⟩
  obtain ⟨J, hJ⟩ : ∃ J : Nat, s.joint = (J : Int) := ⟨s.joint.toNat, by omega⟩
  have HN := Lib.hid (fun W (hB : Below w.heap.size w W) => newTube_any s.areas s.branch q s.branch.length J s.glottis s.lips s.nose va vb W (ha.keep IntAt.stable hB) (hb.keep IntAt.stable hB) hq rfl (by have := (ars_parts p2).1; omega) (ars_parts p3).1 p6 (by omega))
  have hpl : placesL (q + 1) s.branch.length J s.glottis s.lips s.nose = shpPlaces s := by unfold shpPlaces; rw [hq, hJ]; simp
  rw [hpl, ← hq, ← hJ] at HN
  rw [hk] at H
  generalize shpPlaces s = ps at *
  clear p1 p2 p3 p4 p5 p6 p7 hmo hq hJ hpl hk
  obtain ⟨al, bl, j, g, li, no⟩ := s
  simp only at H ha hb ⊢
  obtain ⟨a, c, rfl, hl, -⟩ := ha
  obtain ⟨b, d, rfl, hm, -⟩ := hb
  go_enter Try.func25, Try.ntmps25
  go_wp2_with (first
    | (go_at_call 54; with_reducible refine Calls.mono (H.out _ (bAlloc (Below.refl _ _) _)) ?_; rintro e w1 ⟨rfl, hb⟩; have HB := Lib.hid (bThen (bAlloc (Below.refl _ _) _) hb); have C0 : w1.cell? ⟨w.heap.size, 0, none⟩ = some (.slice a al.length c) := keep hb (cell_new rfl); have C1 : w1.cell? ⟨w.heap.size, 1, none⟩ = some (.slice b bl.length d) := keep hb (cell_new rfl); have C2 : w1.cell? ⟨w.heap.size, 2, none⟩ = some (.int .i64 j) := keep hb (cell_new rfl); have C3 : w1.cell? ⟨w.heap.size, 3, none⟩ = some (.int .i64 g) := keep hb (cell_new rfl); have C4 : w1.cell? ⟨w.heap.size, 4, none⟩ = some (.int .i64 li) := keep hb (cell_new rfl); have C5 : w1.cell? ⟨w.heap.size, 5, none⟩ = some (.int .i64 no) := keep hb (cell_new rfl); have hlt := cell_lt C0; clear hb)
    | (go_at_call 60; with_reducible refine Calls.mono (HN.out _ HB.out) ?_; rintro e w2 ⟨⟨tb, wb, rfl, ht⟩, hb2⟩; have HT := Lib.hid ht; have HB2 := Lib.hid hb2; clear ht hb2))
  go_ret2
  have h3 := HB.out.size
  refine ⟨⟨tb, wb, rfl, ?_⟩, bThen HB.out HB2.out⟩
  have h2 := HT.out
  obtain ⟨l, ⟨av, pv, xs, k, b1, b2, b3, b4⟩, b5⟩ := h2
  exact ⟨⟨by omega, by omega⟩, ⟨av, pv, xs, k, b1, b2.mono h3, b3.mono h3, ⟨b4.1, fun i x p e1 e2 => (b4.2 i x p e1 e2).mono h3⟩⟩, b5⟩
end Go.Proofs.Ytbmbcbknoflpgaa
