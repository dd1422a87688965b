/- Contracts: valid marked waves, equal marked waves, short waves. -/
import Derived.Test.YtbeeddenidfenaaA4
import Derived.Deep.RegionHeld3
set_option linter.unusedSimpArgs false
set_option linter.unusedVariables false
namespace Go.Proofs.Ytbeeddenidfenaa
open Go.RowKit

set_option maxRecDepth 10000 in
set_option maxHeartbeats 4000000 in
theorem checkMarked_any (right : Bool) (m : Mk) (vs vm : Value) (w : World) (hv : MkV w vs vm m) (hn : m.sam.length ≤ 1000000) :
    Calls Try.prog 57 #[.bool right, .agg #[vs, vm]] w fun e w' => e = .returned (.int .i64 (mkErr right m)) ∧ Below w.heap.size w w' := by
  have HM := Lib.hid hv
  obtain ⟨⟨a, c, rfl, hl, -⟩, ⟨am, cm, rfl, hlm, -⟩⟩ := hv
  unfold most at hl hlm
  unfold mkErr
  cases right
  · rw [Bool.false_and]
    go_enter Try.func57, Try.ntmps57
    go_wp2_with fail
    generalize hW1 : World.alloc w _ = W1
    have HB1 : Hid (Below w.heap.size w W1) := Lib.hid (by rw [← hW1]; exact bAlloc (Below.refl _ _) _)
    have c0 : W1.cell? ⟨w.heap.size, 0, none⟩ = some (.slice a m.sam.length c) := by rw [← hW1]; exact cell_new rfl
    have c1 : W1.cell? ⟨w.heap.size, 1, none⟩ = some (.slice am m.marks.length cm) := by rw [← hW1]; exact cell_new rfl
    have hcl := cell_lt c0
    clear hW1
    have HMA : Hid (∀ W, Below w.heap.size w W → Calls Try.prog 81 #[.slice am m.marks.length cm, .int .i64 (m.sam.length : Int)] W fun e w' => e = .returned (.bool (marksOk m.marks m.sam.length)) ∧ W = w') := Lib.hid fun W hb => marksRight_any m.marks m.sam.length _ W (HM.out.2.keep IntAt.stable hb) hn
    have HSA : Hid (∀ right, Calls Try.prog 59 #[.bool right, .slice (some ⟨W1.heap.size, 0, none⟩) 1 1] (W1.alloc (.cells #[.slice a m.sam.length c] 22)).drew fun e w' => e = .returned (.int .i64 (chk right [m.sam])) ∧ Below (W1.alloc (.cells #[.slice a m.sam.length c] 22)).drew.heap.size (W1.alloc (.cells #[.slice a m.sam.length c] 22)).drew w') := Lib.hid fun right => check_any right [m.sam] _ _ ((one_wave (HM.out.1.keep IntAt.stable HB1.out) 22).keep WaveAt.stable (Below.drew (Below.refl _ _)))
    have HK : Hid (∀ W', Below W1.heap.size W1 W' → (W'.cell? ⟨w.heap.size, 0, none⟩ = some (.slice a m.sam.length c) ∧ W'.cell? ⟨w.heap.size, 1, none⟩ = some (.slice am m.marks.length cm))) := Lib.hid fun W' hB => ⟨keep hB c0, keep hB c1⟩
    refine wp_region_noPanic ?_
    refine wp_region_held_drew (S := fun W' => (W'.cell? ⟨w.heap.size, 0, none⟩ = some (.slice a m.sam.length c) ∧ W'.cell? ⟨w.heap.size, 1, none⟩ = some (.slice am m.marks.length cm))) (by kernel_rfl) (HK.out _ (Below.drew (Below.refl _ _))) (fun hHeld => ?_)
    refine wpAnyH_take (i := 0) (oi := ⟨some 5, _, _, _, _, _⟩) (v := ?_) rfl (by kernel_rfl) (by kernel_rfl) (by kernel_rfl) (fun _ _ _ h => h) (Or.inl ⟨by rfl, ?hy⟩) (by assumption) ?_
    case hy => (intro w hSw; (try dsimp only at hSw); go_simp; try (with_reducible rfl))
    try simp only [Act.put, List.setIfInBounds_toArray, List.set_cons_zero, List.set_cons_succ]
    refine wpAnyH_take (i := 1) (oi := ⟨some 6, _, _, _, _, _⟩) (v := ?_) rfl (by kernel_rfl) (by kernel_rfl) (by kernel_rfl) (fun _ _ _ h => h) (Or.inl ⟨by rfl, ?hy⟩) (by assumption) ?_
    case hy => (intro w hSw; (try dsimp only at hSw); go_simp; try (with_reducible rfl))
    try simp only [Act.put, List.setIfInBounds_toArray, List.set_cons_zero, List.set_cons_succ]
    refine wpAnyH_take (i := 2) (oi := ⟨some 7, _, _, _, _, _⟩) (v := undef) rfl (by kernel_rfl) (by kernel_rfl) (by kernel_rfl) (fun _ _ _ h => h) (Or.inr ⟨by rfl, rfl⟩) (by assumption) ?_
    try simp only [Act.put, List.setIfInBounds_toArray, List.set_cons_zero, List.set_cons_succ]
    refine wpAnyH_take (i := 3) (oi := ⟨some 8, _, _, _, _, _⟩) (v := undef) rfl (by kernel_rfl) (by kernel_rfl) (by kernel_rfl) (fun _ _ _ h => h) (Or.inr ⟨by rfl, rfl⟩) (by assumption) ?_
    try simp only [Act.put, List.setIfInBounds_toArray, List.set_cons_zero, List.set_cons_succ]
    refine wpAnyH_take (i := 4) (oi := ⟨some 9, _, _, _, _, _⟩) (v := undef) rfl (by kernel_rfl) (by kernel_rfl) (by kernel_rfl) (fun _ _ _ h => h) (Or.inr ⟨by rfl, rfl⟩) (by assumption) ?_
    try simp only [Act.put, List.setIfInBounds_toArray, List.set_cons_zero, List.set_cons_succ]
    refine wpAnyH_take (i := 5) (oi := ⟨some 10, _, _, _, _, _⟩) (v := undef) rfl (by kernel_rfl) (by kernel_rfl) (by kernel_rfl) (fun _ _ _ h => h) (Or.inr ⟨by rfl, rfl⟩) (by assumption) ?_
    try simp only [Act.put, List.setIfInBounds_toArray, List.set_cons_zero, List.set_cons_succ]
    refine wpAnyH_take (i := 6) (oi := ⟨some 11, _, _, _, _, _⟩) (v := undef) rfl (by kernel_rfl) (by kernel_rfl) (by kernel_rfl) (fun _ _ _ h => h) (Or.inr ⟨by rfl, rfl⟩) (by assumption) ?_
    try simp only [Act.put, List.setIfInBounds_toArray, List.set_cons_zero, List.set_cons_succ]
    refine wpAnyH_take (i := 7) (oi := ⟨some 12, _, _, _, _, _⟩) (v := undef) rfl (by kernel_rfl) (by kernel_rfl) (by kernel_rfl) (fun _ _ _ h => h) (Or.inr ⟨by rfl, rfl⟩) (by assumption) ?_
    try simp only [Act.put, List.setIfInBounds_toArray, List.set_cons_zero, List.set_cons_succ]
    refine wpAnyH_take (i := 8) (oi := ⟨some 13, _, _, _, _, _⟩) (v := ?_) rfl (by kernel_rfl) (by kernel_rfl) (by kernel_rfl) (fun _ _ _ h => h) (Or.inl ⟨by rfl, ?hy⟩) (by assumption) ?_
    case hy => (intro w hSw; (try dsimp only at hSw); go_simp; try (with_reducible rfl))
    try simp only [Act.put, List.setIfInBounds_toArray, List.set_cons_zero, List.set_cons_succ]
    refine wpAnyH_take (i := 9) (oi := ⟨some 14, _, _, _, _, _⟩) (v := ?_) rfl (by kernel_rfl) (by kernel_rfl) (by kernel_rfl) (fun _ _ _ h => h) (Or.inl ⟨by rfl, ?hy⟩) (by assumption) ?_
    case hy => (intro w hSw; (try dsimp only at hSw); go_simp; try (with_reducible rfl))
    try simp only [Act.put, List.setIfInBounds_toArray, List.set_cons_zero, List.set_cons_succ]
    refine wpAnyH_take (i := 10) (oi := ⟨some 15, _, _, _, _, _⟩) (v := ?_) rfl (by kernel_rfl) (by kernel_rfl) (by kernel_rfl) (fun _ _ _ h => h) (Or.inl ⟨by rfl, ?hy⟩) (by assumption) ?_
    case hy => (intro w hSw; (try dsimp only at hSw); go_simp; try (with_reducible rfl))
    try simp only [Act.put, List.setIfInBounds_toArray, List.set_cons_zero, List.set_cons_succ]
    refine wpAnyH_ready (rs := [11]) (by kernel_rfl) (by simp) ?_
    refine AllReadyH.cons (o := ⟨some 16, _, _, _, _, _⟩) rfl (fun K hK => ?_) AllReadyH.nil
    go_simp
    refine hK.out _ _ (by exact HK.out _ (by (repeat (first | exact Below.refl _ _ | refine Below.drew ?_ | refine bAlloc ?_ _)))) (fun hHeld => ?_)
    clear hK K
    try simp only [Act.put, List.setIfInBounds_toArray, List.set_cons_zero, List.set_cons_succ]
    refine wpAnyH_ready (rs := [12]) (by kernel_rfl) (by simp) ?_
    refine AllReadyH.cons (o := ⟨some 17, _, _, _, _, _⟩) rfl (fun K hK => ?_) AllReadyH.nil
    (go_simp; go_at_call 59; refine (HSA.out _).mono ?_; rintro e w3 ⟨rfl, hb3⟩; go_simp)
    refine hK.out _ _ (by exact HK.out _ (by (repeat (first | exact Below.refl _ _ | exact bThen (Below.drew (bAlloc (Below.refl _ _) _)) hb3 | refine Below.drew ?_ | refine bAlloc ?_ _)))) (fun hHeld => ?_)
    clear hK K
    try simp only [Act.put, List.setIfInBounds_toArray, List.set_cons_zero, List.set_cons_succ]
    refine wpAnyH_take (i := 13) (oi := ⟨some 4, _, _, _, _, _⟩) (v := ?_) rfl (by kernel_rfl) (by kernel_rfl) (by kernel_rfl) (fun _ _ _ h => h) (Or.inl ⟨by rfl, ?hy⟩) (by assumption) ?_
    case hy => (intro w hSw; (try dsimp only at hSw); go_simp; try (with_reducible rfl))
    try simp only [Act.put, List.setIfInBounds_toArray, List.set_cons_zero, List.set_cons_succ]
    refine wpAnyH_done (by kernel_rfl) ?_ _
    refine NoPanic.normal ?_
    all_goals
      go_wp2_with fail
      go_ret
      exact ⟨rfl, bThen (Below.drew (bAlloc HB1.out _)) hb3⟩
  · rw [Bool.true_and]
    go_enter Try.func57, Try.ntmps57
    go_wp2_with fail
    generalize hW1 : World.alloc w _ = W1
    have HB1 : Hid (Below w.heap.size w W1) := Lib.hid (by rw [← hW1]; exact bAlloc (Below.refl _ _) _)
    have c0 : W1.cell? ⟨w.heap.size, 0, none⟩ = some (.slice a m.sam.length c) := by rw [← hW1]; exact cell_new rfl
    have c1 : W1.cell? ⟨w.heap.size, 1, none⟩ = some (.slice am m.marks.length cm) := by rw [← hW1]; exact cell_new rfl
    have hcl := cell_lt c0
    clear hW1
    have HMA : Hid (∀ W, Below w.heap.size w W → Calls Try.prog 81 #[.slice am m.marks.length cm, .int .i64 (m.sam.length : Int)] W fun e w' => e = .returned (.bool (marksOk m.marks m.sam.length)) ∧ W = w') := Lib.hid fun W hb => marksRight_any m.marks m.sam.length _ W (HM.out.2.keep IntAt.stable hb) hn
    have HSA : Hid (∀ right, Calls Try.prog 59 #[.bool right, .slice (some ⟨W1.heap.size, 0, none⟩) 1 1] (W1.alloc (.cells #[.slice a m.sam.length c] 22)).drew fun e w' => e = .returned (.int .i64 (chk right [m.sam])) ∧ Below (W1.alloc (.cells #[.slice a m.sam.length c] 22)).drew.heap.size (W1.alloc (.cells #[.slice a m.sam.length c] 22)).drew w') := Lib.hid fun right => check_any right [m.sam] _ _ ((one_wave (HM.out.1.keep IntAt.stable HB1.out) 22).keep WaveAt.stable (Below.drew (Below.refl _ _)))
    have HK : Hid (∀ W', Below W1.heap.size W1 W' → (W'.cell? ⟨w.heap.size, 0, none⟩ = some (.slice a m.sam.length c) ∧ W'.cell? ⟨w.heap.size, 1, none⟩ = some (.slice am m.marks.length cm))) := Lib.hid fun W' hB => ⟨keep hB c0, keep hB c1⟩
    go_region_held3 (fun W' => (W'.cell? ⟨w.heap.size, 0, none⟩ = some (.slice a m.sam.length c) ∧ W'.cell? ⟨w.heap.size, 1, none⟩ = some (.slice am m.marks.length cm))) (((try dsimp only); exact HK.out _ (by (repeat (first | exact Below.refl _ _ | exact bThen (Below.drew (bAlloc (Below.refl _ _) _)) hb3 | refine Below.drew ?_ | refine bAlloc ?_ _))))) (first
      | (go_at_call 81; refine (HMA.out _ (by (repeat (first | exact HB1.out | refine Below.drew ?_ | refine bAlloc ?_ _)))).mono ?_; rintro e w2 ⟨rfl, rfl⟩)
      | (go_at_call 59; refine (HSA.out _).mono ?_; rintro e w3 ⟨rfl, hb3⟩))
    all_goals
      go_wp2_with fail
      go_ret
      exact ⟨rfl, bThen (Below.drew (bAlloc HB1.out _)) hb3⟩
set_option maxHeartbeats 1000000 in
theorem Valid_any (m : Mk) (vs vm : Value) (w : World) (hv : MkV w vs vm m) (hn : m.sam.length ≤ 1000000) :
    Calls Try.prog 19 #[.agg #[vs, vm]] w fun e w' => e = .returned (.bool (decide (mkErr true m = 0))) ∧ Below w.heap.size w w' := by
  have HN := Lib.hid (bAlloc (Below.refl w.heap.size w) (.cells #[vs, vm] 24))
  have H := Lib.hid (checkMarked_any true m vs vm _ (hv.keep HN.out) hn)
  obtain ⟨⟨a, c, rfl, hl, -⟩, ⟨am, cm, rfl, hlm, -⟩⟩ := hv
  go_enter Try.func19, Try.ntmps19
  go_wp2_with (go_at_call 57; refine H.out.mono ?_; rintro e w1 ⟨rfl, hb⟩)
  go_ret
  exact ⟨ret_bool (by first | rfl | simp), bThen HN.out hb⟩
theorem Mk.eq_iff (m n : Mk) : m = n ↔ m.sam = n.sam ∧ m.marks = n.marks := by cases m; cases n; simp
instance (m n : Mk) : Decidable (m = n) := decidable_of_iff _ (Mk.eq_iff m n).symm
set_option maxHeartbeats 1000000 in
theorem SameMarked_any (m n : Mk) (vs vm us um : Value) (w : World) (hv : MkV w vs vm m) (hu : MkV w us um n) :
    Calls Try.prog 48 #[.agg #[vs, vm], .agg #[us, um]] w fun e w' => e = .returned (.bool (decide (m = n))) ∧ Below w.heap.size w w' := by
  have HN := Lib.hid (bAlloc (bAlloc (Below.refl w.heap.size w) (.cells #[vs, vm] 24)) (.cells #[us, um] 24))
  have H1 := fun W hb => Lib.hid (Same_any m.sam n.sam vs us W (hv.1.keep IntAt.stable hb) (hu.1.keep IntAt.stable hb))
  have H2 := fun W hb => Lib.hid (Same_any m.marks n.marks vm um W (hv.2.keep IntAt.stable hb) (hu.2.keep IntAt.stable hb))
  have H1' := Lib.hid H1
  have H2' := Lib.hid H2
  clear H1 H2
  have he : decide (m = n) = (decide (m.sam = n.sam) && decide (m.marks = n.marks)) := by
    rw [← Bool.decide_and]; exact decide_eq_decide.2 (Mk.eq_iff m n)
  rw [he]
  have HB := HN
  obtain ⟨⟨a, c, rfl, -⟩, ⟨am, cm, rfl, -⟩⟩ := hv
  obtain ⟨⟨b, d, rfl, -⟩, ⟨bm, dm, rfl, -⟩⟩ := hu
  cases h : decide (m.sam = n.sam)
  · go_enter Try.func48, Try.ntmps48
    go_wp2_with (go_at_call 31; with_reducible refine Calls.mono (H1'.out _ HB.out).out ?_; rintro e w1 ⟨rfl, hb⟩; rw [h]; replace HB := Lib.hid (bThen HB.out hb); clear hb)
    go_ret
    exact ⟨rfl, HB.out⟩
  · go_enter Try.func48, Try.ntmps48
    go_wp2_with fail
    generalize hW1 : World.alloc (World.alloc w _) _ = W1
    have hbn : Below w.heap.size w W1 := by rw [← hW1]; exact bAlloc (bAlloc (Below.refl _ _) _) _
    have c0 : W1.cell? ⟨w.heap.size, 0, none⟩ = some (.slice a m.sam.length c) := by rw [← hW1]; exact keep (bAlloc (Below.refl _ _) _) (cell_new rfl)
    have c1 : W1.cell? ⟨w.heap.size, 1, none⟩ = some (.slice am m.marks.length cm) := by rw [← hW1]; exact keep (bAlloc (Below.refl _ _) _) (cell_new rfl)
    have d0 : W1.cell? ⟨w.heap.size + 1, 0, none⟩ = some (.slice b n.sam.length d) := by rw [← hW1]; simp
    have d1 : W1.cell? ⟨w.heap.size + 1, 1, none⟩ = some (.slice bm n.marks.length dm) := by rw [← hW1]; simp
    have hcl := cell_lt c0
    have hdl := cell_lt d0
    replace HB := Lib.hid hbn
    clear hW1 hbn HN
    go_wp2_with (first
      | (go_at_call 31; with_reducible refine Calls.mono (H1'.out _ HB.out).out ?_; rintro e w1 ⟨rfl, hb⟩; rw [h]; replace HB := Lib.hid (bThen HB.out hb); replace c1 := keep hb c1; replace d1 := keep hb d1; replace hcl := cell_lt c1; replace hdl := cell_lt d1; clear hb)
      | (go_at_call 31; with_reducible refine Calls.mono (H2'.out _ HB.out).out ?_; rintro e w1 ⟨rfl, hb⟩; replace HB := Lib.hid (bThen HB.out hb); clear hb))
    go_ret
    exact ⟨rfl, HB.out⟩
set_option maxHeartbeats 1000000 in
theorem none_any (m : Mk) (vs vm : Value) (w : World) (hv : MkV w vs vm m) (hn : m.sam.length ≤ 1000000) (hm : m.marks.length ≤ 1000000) :
    Calls Try.prog 45 #[.agg #[vs, vm]] w fun e w' => e = .returned (.bool (decide (m.sam = [] ∧ m.marks = []))) ∧ Below w.heap.size w w' := by
  obtain ⟨⟨a, c, rfl, hl, -⟩, ⟨am, cm, rfl, hlm, -⟩⟩ := hv
  go_enter Try.func45, Try.ntmps45
  go_wp2_with fail
  go_ret
  refine ⟨ret_bool ?_, bAlloc (Below.refl _ _) _⟩
  rw [decide_eq_decide.2 (show (m.sam = [] ∧ m.marks = []) ↔ m.sam.length + m.marks.length = 0 by rw [← List.length_eq_zero_iff, ← List.length_eq_zero_iff]; omega)]
  unfold most at hl hlm
  by_cases h : m.sam.length + m.marks.length = 0
  · rw [decide_eq_true h]; simp; omega
  · rw [decide_eq_false h]; simp; omega
def shrt (n : Nat) : Bool := decide (n ≤ 400) || (decide (100000 < n) && decide (n < 110000))
set_option maxHeartbeats 1000000 in
theorem short_any (l : List Int) (v : Value) (w : World) (hv : SliceV w v 1 IntAt l) : Calls Try.prog 17 #[v] w fun e w' => e = .returned (.bool (shrt l.length)) ∧ w = w' := by
  obtain ⟨a, c, rfl, hl, -⟩ := hv
  unfold most at hl
  generalize l.length = n at *
  by_cases h1 : (n : Int) ≤ 400
  · go_enter Try.func17, Try.ntmps17
    go_wp2_with fail
    go_ret
    exact ⟨ret_bool (by unfold shrt; simp; omega), rfl⟩
  · by_cases h2 : (100000 : Int) < n
    · by_cases h3 : (n : Int) < 110000
      · go_enter Try.func17, Try.ntmps17
        go_wp2_with fail
        go_ret
        exact ⟨ret_bool (by unfold shrt; simp; omega), rfl⟩
      · go_enter Try.func17, Try.ntmps17
        go_wp2_with fail
        go_ret
        exact ⟨ret_bool (by unfold shrt; simp; omega), rfl⟩
    · go_enter Try.func17, Try.ntmps17
      go_wp2_with fail
      go_ret
      exact ⟨ret_bool (by unfold shrt; simp; omega), rfl⟩
end Go.Proofs.Ytbeeddenidfenaa
