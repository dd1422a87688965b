/- The law of the best contour. -/
import Derived.Test.YtejcbcjhmnhefaaDoorN7
import Derived.Test.YtejcbcjhmnhefaaDoorM7
import Derived.Test.YtejcbcjhmnhefaaDoorK1
set_option linter.unusedSimpArgs false
set_option linter.unusedVariables false
namespace Go.Proofs.YtejcbcjhmnhefaaDoor
open Go.RowKit

set_option maxRecDepth 100000 in
set_option maxHeartbeats 16000000 in
theorem lawBest_any (p : Con) (v : Value) (w : World) (hv : SliceV w v 3 TgtAt p.targets) (hS : Semi w) :
    Calls Tryd.prog 6 #[p.val v] w fun e w' => e = .returned (.bool true) ∧ Below w.heap.size w w' := by
  have HS := Lib.hid hS
  have HV := Lib.hid hv
  obtain ⟨a, c, rfl, -, -⟩ := hv
  have H15 : Hid (∀ W, Below w.heap.size w W → Calls Tryd.prog 15 #[] W fun e w' => e = .returned (.bool true) ∧ Below W.heap.size W w') := Lib.hid fun W hB => known_any W (HS.out.keep hB)
  have H26 : Hid (∀ W, Below w.heap.size w W → _) := Lib.hid fun W hB => refProblem_any p (.slice a p.targets.length c) W (HV.out.keep TgtAt.stable hB)
  have H25 : Hid (∀ W, Below w.heap.size w W → _) := Lib.hid fun W hB => Best_any p (.slice a p.targets.length c) W (HV.out.keep TgtAt.stable hB)
  have H27 : Hid (∀ W, Below w.heap.size w W → conOk p = true → _) := Lib.hid fun W hB ho => refBest_any p (.slice a p.targets.length c) W ho (HV.out.keep TgtAt.stable hB)
  have H28 : Hid (∀ W u, Below w.heap.size w W → conOk p = true → SliceV W u 1 IntAt (bestL p) → _) := Lib.hid fun W u hB ho hu => refCost_any p (bestL p) (.slice a p.targets.length c) u W ho (HV.out.keep TgtAt.stable hB) (by rw [bestL_len]; have := (conOk_parts ho).1; omega) (bestL_in ho) hu
  have H24 := Lib.hid (fun W => little_any p.frames p.low p.high p.slope p.smooth p.targets a c W)
  have HBX := Lib.hid (bAlloc (Below.refl w.heap.size w) (.cells #[.int .i64 p.frames, .int .i64 p.low, .int .i64 p.high, .int .i64 p.slope, .int .i64 p.smooth, .slice a p.targets.length c] 43))
  obtain ⟨b2, hb2⟩ : ∃ b2, b2 = w.heap.size := ⟨_, rfl⟩
  have hbx : BoxC (w.alloc (.cells #[.int .i64 p.frames, .int .i64 p.low, .int .i64 p.high, .int .i64 p.slope, .int .i64 p.smooth, .slice a p.targets.length c] 43)) b2 p.frames p.low p.high p.slope p.smooth (.slice a p.targets.length c) := by rw [hb2]; exact World.alloc_heap_new _ _
  obtain ⟨W1, hW1⟩ : ∃ W1, w.alloc (.cells #[.int .i64 p.frames, .int .i64 p.low, .int .i64 p.high, .int .i64 p.slope, .int .i64 p.smooth, .slice a p.targets.length c] 43) = W1 := ⟨_, rfl⟩
  rw [hW1] at hbx HBX
  have HKK : Hid (∀ W', Below W1.heap.size W1 W' → BoxC W' b2 p.frames p.low p.high p.slope p.smooth (.slice a p.targets.length c)) := Lib.hid fun W' hB => (hB.block b2 hbx.lt).trans hbx
  obtain ⟨k0, k1, k2, k3, k4, k5⟩ := hbx.cell
  have hlk := hbx.lt
  rw [hb2] at k0 k1 k2 k3 k4 k5 hlk
  have HB2 := Lib.hid hb2
  clear hbx hb2 hS
  generalize litB ⟨p.frames, p.low, p.high, p.slope, p.smooth, p.targets⟩ = lit at *
  obtain ⟨ok, hok⟩ : ∃ ok, ok = conOk p := ⟨_, rfl⟩
  rw [← hok] at H26 H27 H28
  have HOK := Lib.hid hok
  clear hok
  unfold Con.val at H26 H25 H27 H28 ⊢
  cases lit
  · go_enter Tryd.func6, Tryd.ntmps6
    go_wp2_with fail
    refine (H24.out W1).mono ?_
    rintro e w2 ⟨rfl, hb⟩
    have HB1 := Lib.hid hb
    clear hb k0 k1 k2 k3 k4 k5 hlk
    obtain ⟨k0, k1, k2, k3, k4, k5⟩ := (HKK.out _ HB1.out).cell
    have hlk := cell_lt k0
    rw [HB2.out] at k0 k1 k2 k3 k4 k5 hlk
    go_wp2_with fail
    refine (H15.out _ (bThen HBX.out HB1.out)).mono ?_
    rintro e w9 ⟨rfl, hb⟩
    have HB9 := Lib.hid (bThen HB1.out hb)
    clear hb
    go_wp2_with fail
    go_ret
    exact ⟨rfl, bThen HBX.out HB9.out⟩
  · cases ok
    · have H25' : Hid (∀ W, Below w.heap.size w W → Calls Tryd.prog 25 #[.agg #[.int .i64 p.frames, .int .i64 p.low, .int .i64 p.high, .int .i64 p.slope, .int .i64 p.smooth, .slice a p.targets.length c]] W fun e w' => e = .returned (.tuple #[.slice none 0 0, .int .i64 0, .int .i64 2]) ∧ Below W.heap.size W w') := Lib.hid fun W hB => (H25.out W hB).mono fun e w' ⟨hb, hB⟩ => by
        refine ⟨?_, hB⟩
        rcases hb with ⟨_, h⟩ | ⟨hn, _⟩
        · exact h
        · rw [← HOK.out] at hn; cases hn
      clear H25 H27 H28
      go_enter Tryd.func6, Tryd.ntmps6
      go_wp2_with fail
      refine (H24.out W1).mono ?_
      rintro e w2 ⟨rfl, hb⟩
      have HB1 := Lib.hid hb
      clear hb k0 k1 k2 k3 k4 k5 hlk
      obtain ⟨k0, k1, k2, k3, k4, k5⟩ := (HKK.out _ HB1.out).cell
      have hlk := cell_lt k0
      rw [HB2.out] at k0 k1 k2 k3 k4 k5 hlk
      go_wp2_with fail
      refine (H25'.out _ (bThen HBX.out HB1.out)).mono ?_
      rintro e w3 ⟨rfl, hb⟩
      replace HB1 := Lib.hid (bThen HB1.out hb)
      clear hb k0 k1 k2 k3 k4 k5 hlk
      obtain ⟨k0, k1, k2, k3, k4, k5⟩ := (HKK.out _ HB1.out).cell
      have hlk := cell_lt k0
      rw [HB2.out] at k0 k1 k2 k3 k4 k5 hlk
      go_wp2_with fail
      refine (H26.out _ (bThen HBX.out HB1.out)).mono ?_
      rintro e w4 ⟨rfl, hb⟩
      replace HB1 := Lib.hid (bThen HB1.out hb)
      clear hb k0 k1 k2 k3 k4 k5 hlk
      obtain ⟨k0, k1, k2, k3, k4, k5⟩ := (HKK.out _ HB1.out).cell
      have hlk := cell_lt k0
      rw [HB2.out] at k0 k1 k2 k3 k4 k5 hlk
      go_wp2_with fail
      refine (H15.out _ (bThen HBX.out HB1.out)).mono ?_
      rintro e w9 ⟨rfl, hb⟩
      have HB9 := Lib.hid (bThen HB1.out hb)
      clear hb
      go_wp2_with fail
      go_ret
      exact ⟨rfl, bThen HBX.out HB9.out⟩
    · have H25' : Hid (∀ W, Below w.heap.size w W → Calls Tryd.prog 25 #[.agg #[.int .i64 p.frames, .int .i64 p.low, .int .i64 p.high, .int .i64 p.slope, .int .i64 p.smooth, .slice a p.targets.length c]] W fun e w' => (∃ u, e = .returned (.tuple #[u, .int .i64 (costOf p (bestL p)), .int .i64 0]) ∧ SliceV w' u 1 IntAt (bestL p)) ∧ Below W.heap.size W w') := Lib.hid fun W hB => (H25.out W hB).mono fun e w' ⟨hb, hB⟩ => by
        refine ⟨?_, hB⟩
        rcases hb with ⟨hn, _⟩ | ⟨_, h⟩
        · rw [← HOK.out] at hn; cases hn
        · exact h
      have H27' := Lib.hid fun W hB => H27.out W hB rfl
      have H28' := Lib.hid fun W u hB => H28.out W u hB rfl
      have HSM := Lib.hid (Same_any (bestL p) (bestL p))
      clear H25 H27 H28
      generalize costOf p (bestL p) = cst at *
      generalize bestL p = bl at *
      go_enter Tryd.func6, Tryd.ntmps6
      go_wp2_with fail
      refine (H24.out W1).mono ?_
      rintro e w2 ⟨rfl, hb⟩
      have HB1 := Lib.hid hb
      clear hb k0 k1 k2 k3 k4 k5 hlk
      obtain ⟨k0, k1, k2, k3, k4, k5⟩ := (HKK.out _ HB1.out).cell
      have hlk := cell_lt k0
      rw [HB2.out] at k0 k1 k2 k3 k4 k5 hlk
      go_wp2_with fail
      refine (H25'.out _ (bThen HBX.out HB1.out)).mono ?_
      rintro e w3 ⟨⟨u1, rfl, hu1⟩, hb⟩
      replace HB1 := Lib.hid (bThen HB1.out hb)
      have HU1 := Lib.hid hu1
      clear hu1
      clear hb k0 k1 k2 k3 k4 k5 hlk
      obtain ⟨k0, k1, k2, k3, k4, k5⟩ := (HKK.out _ HB1.out).cell
      have hlk := cell_lt k0
      rw [HB2.out] at k0 k1 k2 k3 k4 k5 hlk
      go_wp2_with fail
      refine (H26.out _ (bThen HBX.out HB1.out)).mono ?_
      rintro e w4 ⟨rfl, hb⟩
      replace HB1 := Lib.hid (bThen HB1.out hb)
      replace HU1 := Lib.hid (HU1.out.keep IntAt.stable hb)
      clear hb k0 k1 k2 k3 k4 k5 hlk
      obtain ⟨k0, k1, k2, k3, k4, k5⟩ := (HKK.out _ HB1.out).cell
      have hlk := cell_lt k0
      rw [HB2.out] at k0 k1 k2 k3 k4 k5 hlk
      go_wp2_with fail
      refine (H27'.out _ (bThen HBX.out HB1.out)).mono ?_
      rintro e w5 ⟨⟨u2, rfl, hu2⟩, hb⟩
      replace HB1 := Lib.hid (bThen HB1.out hb)
      replace HU1 := Lib.hid (HU1.out.keep IntAt.stable hb)
      have HU2 := Lib.hid hu2
      clear hu2
      clear hb k0 k1 k2 k3 k4 k5 hlk
      obtain ⟨k0, k1, k2, k3, k4, k5⟩ := (HKK.out _ HB1.out).cell
      have hlk := cell_lt k0
      rw [HB2.out] at k0 k1 k2 k3 k4 k5 hlk
      go_wp2_with fail
      refine (HSM.out u1 u2 _ HU1.out HU2.out).mono ?_
      rintro e w6 ⟨rfl, hb⟩
      replace HB1 := Lib.hid (bThen HB1.out hb)
      replace HU2 := Lib.hid (HU2.out.keep IntAt.stable hb)
      simp only [decide_true]
      clear hb k0 k1 k2 k3 k4 k5 hlk
      obtain ⟨k0, k1, k2, k3, k4, k5⟩ := (HKK.out _ HB1.out).cell
      have hlk := cell_lt k0
      rw [HB2.out] at k0 k1 k2 k3 k4 k5 hlk
      go_wp2_with fail
      refine (H28'.out _ u2 (bThen HBX.out HB1.out) HU2.out).mono ?_
      rintro e w7 ⟨rfl, hb⟩
      replace HB1 := Lib.hid (bThen HB1.out hb)
      clear hb k0 k1 k2 k3 k4 k5 hlk
      obtain ⟨k0, k1, k2, k3, k4, k5⟩ := (HKK.out _ HB1.out).cell
      have hlk := cell_lt k0
      rw [HB2.out] at k0 k1 k2 k3 k4 k5 hlk
      go_wp2_with fail
      refine (H15.out _ (bThen HBX.out HB1.out)).mono ?_
      rintro e w9 ⟨rfl, hb⟩
      have HB9 := Lib.hid (bThen HB1.out hb)
      clear hb
      go_wp2_with fail
      go_ret
      exact ⟨rfl, bThen HBX.out HB9.out⟩
end Go.Proofs.YtejcbcjhmnhefaaDoor
