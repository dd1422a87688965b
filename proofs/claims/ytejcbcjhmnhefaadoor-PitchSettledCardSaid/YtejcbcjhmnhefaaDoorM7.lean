/- Contracts: the cost of any contour; small problems. -/
import Derived.Test.YtejcbcjhmnhefaaDoorM6
import Derived.Test.YtejcbcjhmnhefaaDoorM3
set_option linter.unusedSimpArgs false
set_option linter.unusedVariables false
namespace Go.Proofs.YtejcbcjhmnhefaaDoor
open Go.RowKit

def CostOut (p : Con) (vs : List Int) (e : Ending) : Prop := e = .returned (if conOk p && ctrOk p vs then .tuple #[.int .i64 (costOf p vs), .int .i64 0] else .tuple #[.int .i64 0, .int .i64 2])
set_option maxRecDepth 100000 in
set_option maxHeartbeats 8000000 in
theorem Cost_any (p : Con) (vs : List Int) (v vv : Value) (w : World) (hv : SliceV w v 3 TgtAt p.targets) (hu : SliceV w vv 1 IntAt vs) :
    Calls Tryd.prog 29 #[p.val v, vv] w fun e w' => CostOut p vs e ∧ Below w.heap.size w w' := by
  have HV := Lib.hid hv
  have HU := Lib.hid hu
  obtain ⟨a, c, rfl, -, -⟩ := hv
  obtain ⟨va, vc, rfl, -, -⟩ := hu
  have H53 : Hid (∀ W, Below w.heap.size w W → _) := Lib.hid fun W hB => problemRight_any p (.slice a p.targets.length c) W (HV.out.keep TgtAt.stable hB)
  have H57 : Hid (∀ W, Below w.heap.size w W → conOk p = true → _) := Lib.hid fun W hB ho => contourRight_any p vs (.slice a p.targets.length c) (.slice va vs.length vc) W ho (HU.out.keep IntAt.stable hB)
  have H55 : Hid (∀ W, Below w.heap.size w W → conOk p = true → ctrOk p vs = true → _) := Lib.hid fun W hB ho hc => cost_any p vs (.slice a p.targets.length c) (.slice va vs.length vc) W ho (HV.out.keep TgtAt.stable hB) (ctrOk_in hc).1 (ctrOk_in hc).2 (HU.out.keep IntAt.stable hB)
  unfold CostOut
  have HBX := Lib.hid (bAlloc (Below.refl w.heap.size w) (.cells #[.int .i64 p.frames, .int .i64 p.low, .int .i64 p.high, .int .i64 p.slope, .int .i64 p.smooth, .slice a p.targets.length c] 43))
  obtain ⟨b2, hb2⟩ : ∃ b2, b2 = w.heap.size := ⟨_, rfl⟩
  have hbx : BoxC (w.alloc (.cells #[.int .i64 p.frames, .int .i64 p.low, .int .i64 p.high, .int .i64 p.slope, .int .i64 p.smooth, .slice a p.targets.length c] 43)) b2 p.frames p.low p.high p.slope p.smooth (.slice a p.targets.length c) := by rw [hb2]; exact World.alloc_heap_new _ _
  obtain ⟨W1, hW1⟩ : ∃ W1, w.alloc (.cells #[.int .i64 p.frames, .int .i64 p.low, .int .i64 p.high, .int .i64 p.slope, .int .i64 p.smooth, .slice a p.targets.length c] 43) = W1 := ⟨_, rfl⟩
  rw [hW1] at hbx HBX
  have HKK : Hid (∀ W', Below W1.heap.size W1 W' → BoxC W' b2 p.frames p.low p.high p.slope p.smooth (.slice a p.targets.length c)) := Lib.hid fun W' hB => (hB.block b2 hbx.lt).trans hbx
  obtain ⟨k0, k1, k2, k3, k4, k5⟩ := hbx.cell
  have hlk := hbx.lt
  rw [hb2] at k0 k1 k2 k3 k4 k5 hlk
  have HB2 := Lib.hid hb2
  clear hbx hb2
  cases hok : conOk p
  · rw [hok] at H53
    rw [Bool.false_and]
    clear H57 H55 hok
    unfold Con.val at H53 ⊢
    go_enter Tryd.func29, Tryd.ntmps29
    go_wp2_with (go_at_call 53; refine (H53.out _ HBX.out).mono ?_; rintro e w1 ⟨rfl, hb⟩)
    go_ret2
    exact ⟨rfl, bThen HBX.out hb⟩
  · rw [hok] at H53
    cases hct : ctrOk p vs
    · rw [hct] at H57
      have H57' := Lib.hid (fun W hB => H57.out W hB hok)
      rw [Bool.and_false]
      clear H57 H55 hok hct
      unfold Con.val at H53 H57' ⊢
      go_enter Tryd.func29, Tryd.ntmps29
      go_wp2_with (first | (go_at_call 53; refine (H53.out _ HBX.out).mono ?_; rintro e w1 ⟨rfl, hb⟩; have HB1' := Lib.hid hb; obtain ⟨k0, k1, k2, k3, k4, k5⟩ := (HKK.out w1 hb).cell; have hlk := cell_lt k0; rw [HB2.out] at k0 k1 k2 k3 k4 k5 hlk; clear hb) | (go_at_call 57; refine (H57'.out _ (bThen HBX.out HB1'.out)).mono ?_; rintro e w2 ⟨rfl, hb⟩))
      go_ret2
      exact ⟨rfl, bThen (bThen HBX.out HB1'.out) hb⟩
    · rw [hct] at H57
      have H57' := Lib.hid (fun W hB => H57.out W hB hok)
      have H55' := Lib.hid (fun W hB => H55.out W hB hok hct)
      rw [Bool.and_true]
      clear H57 H55 hok hct
      unfold Con.val at H53 H57' H55' ⊢
      go_enter Tryd.func29, Tryd.ntmps29
      go_wp2_with (first | (go_at_call 53; refine (H53.out _ HBX.out).mono ?_; rintro e w1 ⟨rfl, hb⟩; have HB1' := Lib.hid hb; obtain ⟨k0, k1, k2, k3, k4, k5⟩ := (HKK.out w1 hb).cell; have hlk := cell_lt k0; rw [HB2.out] at k0 k1 k2 k3 k4 k5 hlk; clear hb) | (go_at_call 57; refine (H57'.out _ (bThen HBX.out HB1'.out)).mono ?_; rintro e w2 ⟨rfl, hb⟩; have HB2' := Lib.hid (bThen HB1'.out hb); obtain ⟨k0, k1, k2, k3, k4, k5⟩ := (HKK.out w2 HB2'.out).cell; have hlk := cell_lt k0; rw [HB2.out] at k0 k1 k2 k3 k4 k5 hlk; clear hb))
      refine (H55'.out _ (bThen HBX.out HB2'.out)).mono ?_
      rintro e w3 ⟨rfl, hb⟩
      have HB3' := Lib.hid (bThen HB2'.out hb)
      clear hb
      go_wp2_with fail
      go_ret2
      exact ⟨rfl, bThen HBX.out HB3'.out⟩

def litB (p : Con) : Bool := (decide (p.frames ≤ 12) || decide (p.frames > 200)) && (decide (wrap64 (p.high - p.low) ≤ 40) || decide (wrap64 (p.high - p.low) > 400)) && (decide ((p.targets.length : Int) ≤ 12) || decide ((p.targets.length : Int) > 200)) && decide ((p.targets.length : Int) ≤ 300)
set_option maxRecDepth 100000 in
set_option maxHeartbeats 8000000 in
theorem little_any (fr lo hi sl sm : Int) (ts : List Tgt) (a : Option Addr) (c : Nat) (w : World) :
    Calls Tryd.prog 24 #[.agg #[.int .i64 fr, .int .i64 lo, .int .i64 hi, .int .i64 sl, .int .i64 sm, .slice a ts.length c]] w fun e w' => e = .returned (.bool (litB ⟨fr, lo, hi, sl, sm, ts⟩)) ∧ Below w.heap.size w w' := by
  have HB : Hid (∀ B : Bool, (B = true ↔ ((fr ≤ 12 ∨ fr > 200) ∧ (wrap64 (hi - lo) ≤ 40 ∨ wrap64 (hi - lo) > 400) ∧ ((ts.length : Int) ≤ 12 ∨ (ts.length : Int) > 200) ∧ (ts.length : Int) ≤ 300)) → B = litB ⟨fr, lo, hi, sl, sm, ts⟩) := Lib.hid fun B h => by
    rw [Bool.eq_iff_iff, h]
    unfold litB
    simp only [Bool.and_eq_true, Bool.or_eq_true, decide_eq_true_eq, and_assoc]
  go_enter Tryd.func24, Tryd.ntmps24
  go_wp2_with fail
  all_goals first | (go_ret; exact ⟨ret_bool (HB.out _ (by simp only [decide_eq_true_eq, Bool.false_eq_true, true_iff, false_iff]; omega)), bAlloc (Below.refl _ _) _⟩) | skip
end Go.Proofs.YtejcbcjhmnhefaaDoor
