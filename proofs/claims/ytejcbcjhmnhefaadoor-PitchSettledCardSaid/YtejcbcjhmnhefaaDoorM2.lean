/- The law of settled contours. -/
import Derived.Test.YtejcbcjhmnhefaaDoorN8
import Derived.Test.YtejcbcjhmnhefaaDoorK1
set_option linter.unusedSimpArgs false
set_option linter.unusedVariables false
namespace Go.Proofs.YtejcbcjhmnhefaaDoor
open Go.RowKit

set_option maxRecDepth 100000 in
set_option maxHeartbeats 16000000 in
theorem lawSettled_any (p : Con) (vs : List Int) (v vv : Value) (w : World) (hv : SliceV w v 3 TgtAt p.targets) (hu : SliceV w vv 1 IntAt vs) (hS : Semi w) :
    Calls Tryd.prog 8 #[p.val v, vv] w fun e w' => e = .returned (.bool true) ∧ Below w.heap.size w w' := by
  have HS := Lib.hid hS
  have HV := Lib.hid hv
  have HU := Lib.hid hu
  obtain ⟨a, c, rfl, hpl, -⟩ := hv
  obtain ⟨va, vc, rfl, hvl, -⟩ := hu
  unfold most at hvl hpl
  have H15 : Hid (∀ W, Below w.heap.size w W → Calls Tryd.prog 15 #[] W fun e w' => e = .returned (.bool true) ∧ Below W.heap.size W w') := Lib.hid fun W hB => known_any W (HS.out.keep hB)
  have H26 : Hid (∀ W, Below w.heap.size w W → _) := Lib.hid fun W hB => refProblem_any p (.slice a p.targets.length c) W (HV.out.keep TgtAt.stable hB)
  have H25 : Hid (∀ W, Below w.heap.size w W → _) := Lib.hid fun W hB => Best_any p (.slice a p.targets.length c) W (HV.out.keep TgtAt.stable hB)
  have H29 : Hid (∀ W, Below w.heap.size w W → _) := Lib.hid fun W hB => Cost_any p vs (.slice a p.targets.length c) (.slice va vs.length vc) W (HV.out.keep TgtAt.stable hB) (HU.out.keep IntAt.stable hB)
  have H30 : Hid (∀ W, Below w.heap.size w W → _) := Lib.hid fun W hB => Settled_any p vs (.slice a p.targets.length c) (.slice va vs.length vc) W (HV.out.keep TgtAt.stable hB) (HU.out.keep IntAt.stable hB)
  have H30b0 : Hid (∀ W u, Below w.heap.size w W → SliceV W u 1 IntAt (bestL p) → _) := Lib.hid fun W u hB hu => Settled_any p (bestL p) (.slice a p.targets.length c) u W (HV.out.keep TgtAt.stable hB) hu
  have H31 : Hid (∀ W, Below w.heap.size w W → conOk p = true → _) := Lib.hid fun W hB ho => refContour_any p vs (.slice a p.targets.length c) (.slice va vs.length vc) W ho (HU.out.keep IntAt.stable hB)
  have H31b0 : Hid (∀ W u, Below w.heap.size w W → conOk p = true → SliceV W u 1 IntAt (bestL p) → _) := Lib.hid fun W u hB ho hu => refContour_any p (bestL p) (.slice a p.targets.length c) u W ho hu
  have H28b0 : Hid (∀ W u, Below w.heap.size w W → conOk p = true → SliceV W u 1 IntAt (bestL p) → _) := Lib.hid fun W u hB ho hu => refCost_any p (bestL p) (.slice a p.targets.length c) u W ho (HV.out.keep TgtAt.stable hB) (by rw [bestL_len]; have := (conOk_parts ho).1; omega) (bestL_in ho) hu
  have HBX := Lib.hid (bAlloc (Below.refl w.heap.size w) (.cells #[.int .i64 p.frames, .int .i64 p.low, .int .i64 p.high, .int .i64 p.slope, .int .i64 p.smooth, .slice a p.targets.length c] 43))
  obtain ⟨b2, hb2⟩ : ∃ b2, b2 = w.heap.size := ⟨_, rfl⟩
  have hbx : BoxC (w.alloc (.cells #[.int .i64 p.frames, .int .i64 p.low, .int .i64 p.high, .int .i64 p.slope, .int .i64 p.smooth, .slice a p.targets.length c] 43)) b2 p.frames p.low p.high p.slope p.smooth (.slice a p.targets.length c) := by rw [hb2]; exact World.alloc_heap_new _ _
  obtain ⟨W1, hW1⟩ : ∃ W1, w.alloc (.cells #[.int .i64 p.frames, .int .i64 p.low, .int .i64 p.high, .int .i64 p.slope, .int .i64 p.smooth, .slice a p.targets.length c] 43) = W1 := ⟨_, rfl⟩
  rw [hW1] at hbx HBX
  have HKK : Hid (∀ W', Below W1.heap.size W1 W' → BoxC W' b2 p.frames p.low p.high p.slope p.smooth (.slice a p.targets.length c)) := Lib.hid fun W' hB => (hB.block b2 hbx.lt).trans hbx
  obtain ⟨k0, k1, k2, k3, k4, k5⟩ := hbx.cell
  have hlk := hbx.lt
  rw [hb2] at k0 k1 k2 k3 k4 k5 hlk
  have HB2 := Lib.hid hb2
  have HB10 : Hid (Below W1.heap.size W1 W1) := Lib.hid (Below.refl _ _)
  clear hbx hb2 hS
  by_cases a1 : p.frames > 40
  · have d1 : decide (p.frames > 40) = true := decide_eq_true a1
    have HB1 := HB10
    unfold Con.val at *
    go_enter Tryd.func8, Tryd.ntmps8
    go_wp2_with fail
    refine (H15.out _ (bThen HBX.out HB1.out)).mono ?_
    rintro e w9 ⟨rfl, hb⟩
    have HB9 := Lib.hid (bThen HB1.out hb)
    clear hb
    go_wp2_with fail
    go_ret
    exact ⟨rfl, bThen HBX.out HB9.out⟩
  have d1 : decide (p.frames > 40) = false := decide_eq_false a1
  by_cases a2 : (p.targets.length : Int) > 20
  · have d2 : decide ((p.targets.length : Int) > 20) = true := decide_eq_true a2
    have HB1 := HB10
    unfold Con.val at *
    go_enter Tryd.func8, Tryd.ntmps8
    go_wp2_with fail
    refine (H15.out _ (bThen HBX.out HB1.out)).mono ?_
    rintro e w9 ⟨rfl, hb⟩
    have HB9 := Lib.hid (bThen HB1.out hb)
    clear hb
    go_wp2_with fail
    go_ret
    exact ⟨rfl, bThen HBX.out HB9.out⟩
  have d2 : decide ((p.targets.length : Int) > 20) = false := decide_eq_false a2
  cases hok : conOk p
  · rw [hok] at H26
    clear hok
    unfold Con.val at *
    go_enter Tryd.func8, Tryd.ntmps8
    go_wp2_with fail
    refine (H26.out _ HBX.out).mono ?_
    rintro e w5 ⟨rfl, hb⟩
    have HB1 := Lib.hid hb
    clear hb k0 k1 k2 k3 k4 k5 hlk
    obtain ⟨k0, k1, k2, k3, k4, k5⟩ := (HKK.out _ HB1.out).cell
    have hlk := cell_lt k0
    rw [HB2.out] at k0 k1 k2 k3 k4 k5 hlk
    go_wp2_with fail
    refine (H15.out _ (bThen HBX.out HB1.out)).mono ?_
    rintro e w9 ⟨rfl, hb⟩
    have HB9 := Lib.hid (bThen HB1.out hb)
    clear hb
    go_wp2_with fail
    go_ret
    exact ⟨rfl, bThen HBX.out HB9.out⟩
  · rw [hok] at H26
    cases hct : ctrOk p vs
    · rw [hct] at H31
      have H31' := Lib.hid (fun W hB => H31.out W hB hok)
      clear hok hct
      unfold Con.val at *
      go_enter Tryd.func8, Tryd.ntmps8
      go_wp2_with fail
      refine (H26.out _ HBX.out).mono ?_
      rintro e w5 ⟨rfl, hb⟩
      have HB1 := Lib.hid hb
      clear hb k0 k1 k2 k3 k4 k5 hlk
      obtain ⟨k0, k1, k2, k3, k4, k5⟩ := (HKK.out _ HB1.out).cell
      have hlk := cell_lt k0
      rw [HB2.out] at k0 k1 k2 k3 k4 k5 hlk
      go_wp2_with fail
      refine (H31'.out _ (bThen HBX.out HB1.out)).mono ?_
      rintro e w6 ⟨rfl, hb⟩
      replace HB1 := Lib.hid (bThen HB1.out hb)
      clear hb k0 k1 k2 k3 k4 k5 hlk
      obtain ⟨k0, k1, k2, k3, k4, k5⟩ := (HKK.out _ HB1.out).cell
      have hlk := cell_lt k0
      rw [HB2.out] at k0 k1 k2 k3 k4 k5 hlk
      go_wp2_with fail
      refine (H15.out _ (bThen HBX.out HB1.out)).mono ?_
      rintro e w9 ⟨rfl, hb⟩
      have HB9 := Lib.hid (bThen HB1.out hb)
      clear hb
      go_wp2_with fail
      go_ret
      exact ⟨rfl, bThen HBX.out HB9.out⟩
    · rw [hct] at H31
      have hbc := best_ctr hok
      have H31' := Lib.hid (fun W hB => H31.out W hB hok)
      have H25' : Hid (∀ W, Below w.heap.size w W → Calls Tryd.prog 25 #[p.val (.slice a p.targets.length c)] W fun e w' => (∃ u, e = .returned (.tuple #[u, .int .i64 (costOf p (bestL p)), .int .i64 0]) ∧ SliceV w' u 1 IntAt (bestL p)) ∧ Below W.heap.size W w') := Lib.hid fun W hB => (H25.out W hB).mono fun e w' ⟨hb, hB⟩ => ⟨hb.elim (fun x => by have hn := x.1; rw [hok] at hn; cases hn) (fun x => x.2), hB⟩
      have H29' : Hid (∀ W, Below w.heap.size w W → Calls Tryd.prog 29 #[p.val (.slice a p.targets.length c), .slice va vs.length vc] W fun e w' => e = .returned (.tuple #[.int .i64 (costOf p vs), .int .i64 0]) ∧ Below W.heap.size W w') := Lib.hid fun W hB => (H29.out W hB).mono fun e w' ⟨h, hB⟩ => ⟨by rw [h, hok, hct]; rfl, hB⟩
      have H30' : Hid (∀ W, Below w.heap.size w W → Calls Tryd.prog 30 #[p.val (.slice a p.targets.length c), .slice va vs.length vc] W fun e w' => (∃ b : Bool, e = .returned (.tuple #[.bool b, .int .i64 0]) ∧ (b = true ↔ costOf p vs = costOf p (bestL p))) ∧ Below W.heap.size W w') := Lib.hid fun W hB => (H30.out W hB).mono fun e w' ⟨h, hB⟩ => ⟨h.elim (fun x => by have hn := x.1; rw [hok, hct] at hn; cases hn) (fun x => by obtain ⟨_, b, h1, h2⟩ := x; exact ⟨b, h1, h2.trans (sett_iff hok hct)⟩), hB⟩
      have H30b : Hid (∀ W u, Below w.heap.size w W → SliceV W u 1 IntAt (bestL p) → Calls Tryd.prog 30 #[p.val (.slice a p.targets.length c), u] W fun e w' => e = .returned (.tuple #[.bool true, .int .i64 0]) ∧ Below W.heap.size W w') := Lib.hid fun W u hB hu => (H30b0.out W u hB hu).mono fun e w' ⟨h, hB⟩ => ⟨h.elim (fun x => by have hn := x.1; rw [hok, hbc] at hn; cases hn) (fun x => by
        obtain ⟨_, b, h1, h2⟩ := x
        rw [h1, h2.2 ((sett_iff hok hbc).2 rfl)]), hB⟩
      have H31b := Lib.hid (fun W u hB hu => H31b0.out W u hB hok hu)
      rw [hbc] at H31b
      have H28b := Lib.hid (fun W u hB hu => H28b0.out W u hB hok hu)
      have hle := best_min hok hct
      have HBF : Hid (costOf p vs = costOf p (bestL p) → ∀ W u, Below w.heap.size w W → SliceV W u 1 IntAt (bestL p) → Calls Tryd.prog 33 #[.slice va vs.length vc, u] W fun e w' => e = .returned (.bool false) ∧ Below W.heap.size W w') := Lib.hid fun he W u hB hu => before_any vs (bestL p) (.slice va vs.length vc) u W (by rw [bestL_len]; have h1 := (ctrOk_in hct).1; have h2 := (conOk_parts hok).1; omega) (fun i hi hj => best_before hok hct he (by have h1 := (ctrOk_in hct).1; omega) hj) (HU.out.keep IntAt.stable hB) hu
      clear H25 H29 H30 H30b0 H31 H31b0 H28b0 hok hct hbc
      unfold Con.val at *
      generalize costOf p vs = cv at *
      generalize costOf p (bestL p) = cb at *
      generalize bestL p = bl at *
      by_cases heq : cv = cb
      · have HB1V : Hid (∀ b : Bool, (b = true ↔ cv = cb) → true = b) := Lib.hid fun b h => (h.2 heq).symm
        have HBF' := Lib.hid (HBF.out heq)
        clear HBF
        subst heq
        have d3 : decide (cv ≥ cv) = true := decide_eq_true (by omega)
        have d4 : decide (cv > cv) = false := decide_eq_false (by omega)
        have n4 : ¬ (cv > cv) := by omega
        go_enter Tryd.func8, Tryd.ntmps8
        go_wp2_with fail
        refine (H26.out _ HBX.out).mono ?_
        rintro e w5 ⟨rfl, hb⟩
        have HB1 := Lib.hid hb
        clear hb k0 k1 k2 k3 k4 k5 hlk
        obtain ⟨k0, k1, k2, k3, k4, k5⟩ := (HKK.out _ HB1.out).cell
        have hlk := cell_lt k0
        rw [HB2.out] at k0 k1 k2 k3 k4 k5 hlk
        go_wp2_with fail
        refine (H31'.out _ (bThen HBX.out HB1.out)).mono ?_
        rintro e w6 ⟨rfl, hb⟩
        replace HB1 := Lib.hid (bThen HB1.out hb)
        clear hb k0 k1 k2 k3 k4 k5 hlk
        obtain ⟨k0, k1, k2, k3, k4, k5⟩ := (HKK.out _ HB1.out).cell
        have hlk := cell_lt k0
        rw [HB2.out] at k0 k1 k2 k3 k4 k5 hlk
        go_wp2_with fail
        refine (H25'.out _ (bThen HBX.out HB1.out)).mono ?_
        rintro e w7 ⟨⟨ub, rfl, hub⟩, hb⟩
        have HUB := Lib.hid hub
        clear hub
        replace HB1 := Lib.hid (bThen HB1.out hb)
        clear hb k0 k1 k2 k3 k4 k5 hlk
        obtain ⟨k0, k1, k2, k3, k4, k5⟩ := (HKK.out _ HB1.out).cell
        have hlk := cell_lt k0
        rw [HB2.out] at k0 k1 k2 k3 k4 k5 hlk
        go_wp2_with fail
        refine (H29'.out _ (bThen HBX.out HB1.out)).mono ?_
        rintro e w8 ⟨rfl, hb⟩
        replace HUB := Lib.hid (HUB.out.keep IntAt.stable hb)
        replace HB1 := Lib.hid (bThen HB1.out hb)
        clear hb k0 k1 k2 k3 k4 k5 hlk
        obtain ⟨k0, k1, k2, k3, k4, k5⟩ := (HKK.out _ HB1.out).cell
        have hlk := cell_lt k0
        rw [HB2.out] at k0 k1 k2 k3 k4 k5 hlk
        go_wp2_with fail
        refine (H30'.out _ (bThen HBX.out HB1.out)).mono ?_
        rintro e w10 ⟨⟨b1, rfl, hb1⟩, hb⟩
        obtain rfl := HB1V.out b1 hb1
        clear hb1
        replace HUB := Lib.hid (HUB.out.keep IntAt.stable hb)
        replace HB1 := Lib.hid (bThen HB1.out hb)
        clear hb k0 k1 k2 k3 k4 k5 hlk
        obtain ⟨k0, k1, k2, k3, k4, k5⟩ := (HKK.out _ HB1.out).cell
        have hlk := cell_lt k0
        rw [HB2.out] at k0 k1 k2 k3 k4 k5 hlk
        go_wp2_with fail
        refine (H31b.out _ ub (bThen HBX.out HB1.out) HUB.out).mono ?_
        rintro e w11 ⟨rfl, hb⟩
        replace HUB := Lib.hid (HUB.out.keep IntAt.stable hb)
        replace HB1 := Lib.hid (bThen HB1.out hb)
        clear hb k0 k1 k2 k3 k4 k5 hlk
        obtain ⟨k0, k1, k2, k3, k4, k5⟩ := (HKK.out _ HB1.out).cell
        have hlk := cell_lt k0
        rw [HB2.out] at k0 k1 k2 k3 k4 k5 hlk
        go_wp2_with fail
        refine (H30b.out _ ub (bThen HBX.out HB1.out) HUB.out).mono ?_
        rintro e w12 ⟨rfl, hb⟩
        replace HUB := Lib.hid (HUB.out.keep IntAt.stable hb)
        replace HB1 := Lib.hid (bThen HB1.out hb)
        clear hb k0 k1 k2 k3 k4 k5 hlk
        obtain ⟨k0, k1, k2, k3, k4, k5⟩ := (HKK.out _ HB1.out).cell
        have hlk := cell_lt k0
        rw [HB2.out] at k0 k1 k2 k3 k4 k5 hlk
        go_wp2_with fail
        refine (H28b.out _ ub (bThen HBX.out HB1.out) HUB.out).mono ?_
        rintro e w13 ⟨rfl, hb⟩
        replace HUB := Lib.hid (HUB.out.keep IntAt.stable hb)
        replace HB1 := Lib.hid (bThen HB1.out hb)
        clear hb k0 k1 k2 k3 k4 k5 hlk
        obtain ⟨k0, k1, k2, k3, k4, k5⟩ := (HKK.out _ HB1.out).cell
        have hlk := cell_lt k0
        rw [HB2.out] at k0 k1 k2 k3 k4 k5 hlk
        go_wp2_with fail
        refine (HBF'.out _ ub (bThen HBX.out HB1.out) HUB.out).mono ?_
        rintro e w14 ⟨rfl, hb⟩
        replace HB1 := Lib.hid (bThen HB1.out hb)
        clear hb k0 k1 k2 k3 k4 k5 hlk
        obtain ⟨k0, k1, k2, k3, k4, k5⟩ := (HKK.out _ HB1.out).cell
        have hlk := cell_lt k0
        rw [HB2.out] at k0 k1 k2 k3 k4 k5 hlk
        go_wp2_with fail
        refine (H15.out _ (bThen HBX.out HB1.out)).mono ?_
        rintro e w9 ⟨rfl, hb⟩
        have HB9 := Lib.hid (bThen HB1.out hb)
        clear hb
        go_wp2_with fail
        go_ret
        exact ⟨rfl, bThen HBX.out HB9.out⟩
      · have HB1V : Hid (∀ b : Bool, (b = true ↔ cv = cb) → false = b) := Lib.hid fun b h => by
          cases b
          · rfl
          · exact absurd (h.1 rfl) heq
        have d3 : decide (cv ≥ cb) = true := decide_eq_true (by omega)
        have d4 : decide (cv > cb) = true := decide_eq_true (by omega)
        have d5 : (cv == cb) = false := by simp [heq]
        go_enter Tryd.func8, Tryd.ntmps8
        go_wp2_with fail
        refine (H26.out _ HBX.out).mono ?_
        rintro e w5 ⟨rfl, hb⟩
        have HB1 := Lib.hid hb
        clear hb k0 k1 k2 k3 k4 k5 hlk
        obtain ⟨k0, k1, k2, k3, k4, k5⟩ := (HKK.out _ HB1.out).cell
        have hlk := cell_lt k0
        rw [HB2.out] at k0 k1 k2 k3 k4 k5 hlk
        go_wp2_with fail
        refine (H31'.out _ (bThen HBX.out HB1.out)).mono ?_
        rintro e w6 ⟨rfl, hb⟩
        replace HB1 := Lib.hid (bThen HB1.out hb)
        clear hb k0 k1 k2 k3 k4 k5 hlk
        obtain ⟨k0, k1, k2, k3, k4, k5⟩ := (HKK.out _ HB1.out).cell
        have hlk := cell_lt k0
        rw [HB2.out] at k0 k1 k2 k3 k4 k5 hlk
        go_wp2_with fail
        refine (H25'.out _ (bThen HBX.out HB1.out)).mono ?_
        rintro e w7 ⟨⟨ub, rfl, hub⟩, hb⟩
        have HUB := Lib.hid hub
        clear hub
        replace HB1 := Lib.hid (bThen HB1.out hb)
        clear hb k0 k1 k2 k3 k4 k5 hlk
        obtain ⟨k0, k1, k2, k3, k4, k5⟩ := (HKK.out _ HB1.out).cell
        have hlk := cell_lt k0
        rw [HB2.out] at k0 k1 k2 k3 k4 k5 hlk
        go_wp2_with fail
        refine (H29'.out _ (bThen HBX.out HB1.out)).mono ?_
        rintro e w8 ⟨rfl, hb⟩
        replace HUB := Lib.hid (HUB.out.keep IntAt.stable hb)
        replace HB1 := Lib.hid (bThen HB1.out hb)
        clear hb k0 k1 k2 k3 k4 k5 hlk
        obtain ⟨k0, k1, k2, k3, k4, k5⟩ := (HKK.out _ HB1.out).cell
        have hlk := cell_lt k0
        rw [HB2.out] at k0 k1 k2 k3 k4 k5 hlk
        go_wp2_with fail
        refine (H30'.out _ (bThen HBX.out HB1.out)).mono ?_
        rintro e w10 ⟨⟨b1, rfl, hb1⟩, hb⟩
        obtain rfl := HB1V.out b1 hb1
        clear hb1
        replace HUB := Lib.hid (HUB.out.keep IntAt.stable hb)
        replace HB1 := Lib.hid (bThen HB1.out hb)
        clear hb k0 k1 k2 k3 k4 k5 hlk
        obtain ⟨k0, k1, k2, k3, k4, k5⟩ := (HKK.out _ HB1.out).cell
        have hlk := cell_lt k0
        rw [HB2.out] at k0 k1 k2 k3 k4 k5 hlk
        go_wp2_with fail
        refine (H31b.out _ ub (bThen HBX.out HB1.out) HUB.out).mono ?_
        rintro e w11 ⟨rfl, hb⟩
        replace HUB := Lib.hid (HUB.out.keep IntAt.stable hb)
        replace HB1 := Lib.hid (bThen HB1.out hb)
        clear hb k0 k1 k2 k3 k4 k5 hlk
        obtain ⟨k0, k1, k2, k3, k4, k5⟩ := (HKK.out _ HB1.out).cell
        have hlk := cell_lt k0
        rw [HB2.out] at k0 k1 k2 k3 k4 k5 hlk
        go_wp2_with fail
        refine (H30b.out _ ub (bThen HBX.out HB1.out) HUB.out).mono ?_
        rintro e w12 ⟨rfl, hb⟩
        replace HUB := Lib.hid (HUB.out.keep IntAt.stable hb)
        replace HB1 := Lib.hid (bThen HB1.out hb)
        clear hb k0 k1 k2 k3 k4 k5 hlk
        obtain ⟨k0, k1, k2, k3, k4, k5⟩ := (HKK.out _ HB1.out).cell
        have hlk := cell_lt k0
        rw [HB2.out] at k0 k1 k2 k3 k4 k5 hlk
        go_wp2_with fail
        refine (H28b.out _ ub (bThen HBX.out HB1.out) HUB.out).mono ?_
        rintro e w13 ⟨rfl, hb⟩
        replace HUB := Lib.hid (HUB.out.keep IntAt.stable hb)
        replace HB1 := Lib.hid (bThen HB1.out hb)
        clear hb k0 k1 k2 k3 k4 k5 hlk
        obtain ⟨k0, k1, k2, k3, k4, k5⟩ := (HKK.out _ HB1.out).cell
        have hlk := cell_lt k0
        rw [HB2.out] at k0 k1 k2 k3 k4 k5 hlk
        go_wp2_with fail
        refine (H15.out _ (bThen HBX.out HB1.out)).mono ?_
        rintro e w9 ⟨rfl, hb⟩
        have HB9 := Lib.hid (bThen HB1.out hb)
        clear hb
        go_wp2_with fail
        go_ret
        exact ⟨rfl, bThen HBX.out HB9.out⟩
end Go.Proofs.YtejcbcjhmnhefaaDoor
