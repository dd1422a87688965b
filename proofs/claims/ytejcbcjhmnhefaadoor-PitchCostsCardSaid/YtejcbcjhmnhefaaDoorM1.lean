/- The law of costs. -/
import Derived.Test.YtejcbcjhmnhefaaDoorN8
import Derived.Test.YtejcbcjhmnhefaaDoorK1
set_option linter.unusedSimpArgs false
set_option linter.unusedVariables false
namespace Go.Proofs.YtejcbcjhmnhefaaDoor
open Go.RowKit

set_option maxRecDepth 100000 in
set_option maxHeartbeats 16000000 in
theorem lawCosts_any (p : Con) (vs : List Int) (v vv : Value) (w : World) (hv : SliceV w v 3 TgtAt p.targets) (hu : SliceV w vv 1 IntAt vs) (hS : Semi w) :
    Calls Tryd.prog 7 #[p.val v, vv] w fun e w' => e = .returned (.bool true) ∧ Below w.heap.size w w' := by
  have HS := Lib.hid hS
  have HV := Lib.hid hv
  have HU := Lib.hid hu
  obtain ⟨a, c, rfl, -, -⟩ := hv
  obtain ⟨va, vc, rfl, hvl, -⟩ := hu
  unfold most at hvl
  have H15 : Hid (∀ W, Below w.heap.size w W → Calls Tryd.prog 15 #[] W fun e w' => e = .returned (.bool true) ∧ Below W.heap.size W w') := Lib.hid fun W hB => known_any W (HS.out.keep hB)
  have H26 : Hid (∀ W, Below w.heap.size w W → _) := Lib.hid fun W hB => refProblem_any p (.slice a p.targets.length c) W (HV.out.keep TgtAt.stable hB)
  have H29 : Hid (∀ W, Below w.heap.size w W → _) := Lib.hid fun W hB => Cost_any p vs (.slice a p.targets.length c) (.slice va vs.length vc) W (HV.out.keep TgtAt.stable hB) (HU.out.keep IntAt.stable hB)
  have H30 : Hid (∀ W, Below w.heap.size w W → _) := Lib.hid fun W hB => Settled_any p vs (.slice a p.targets.length c) (.slice va vs.length vc) W (HV.out.keep TgtAt.stable hB) (HU.out.keep IntAt.stable hB)
  have H31 : Hid (∀ W, Below w.heap.size w W → conOk p = true → _) := Lib.hid fun W hB ho => refContour_any p vs (.slice a p.targets.length c) (.slice va vs.length vc) W ho (HU.out.keep IntAt.stable hB)
  have H28 : Hid (∀ W, Below w.heap.size w W → conOk p = true → ctrOk p vs = true → _) := Lib.hid fun W hB ho hc => refCost_any p vs (.slice a p.targets.length c) (.slice va vs.length vc) W ho (HV.out.keep TgtAt.stable hB) (ctrOk_in hc).1 (ctrOk_in hc).2 (HU.out.keep IntAt.stable hB)
  have H32 : Hid (∀ W, Below w.heap.size w W → conOk p = true → ctrOk p vs = true → _) := Lib.hid fun W hB ho hc => refSettled_any p vs (.slice a p.targets.length c) (.slice va vs.length vc) W ho hc (HV.out.keep TgtAt.stable hB) (HU.out.keep IntAt.stable hB)
  have H24 := Lib.hid (fun W => little_any p.frames p.low p.high p.slope p.smooth p.targets a c W)
  have HBX := Lib.hid (bAlloc (Below.refl w.heap.size w) (.cells #[.int .i64 p.frames, .int .i64 p.low, .int .i64 p.high, .int .i64 p.slope, .int .i64 p.smooth, .slice a p.targets.length c] 43))
  obtain ⟨b2, hb2⟩ : ∃ b2, b2 = w.heap.size := ⟨_, rfl⟩
  have hbx : BoxC (w.alloc (.cells #[.int .i64 p.frames, .int .i64 p.low, .int .i64 p.high, .int .i64 p.slope, .int .i64 p.smooth, .slice a p.targets.length c] 43)) b2 p.frames p.low p.high p.slope p.smooth (.slice a p.targets.length c) := by rw [hb2]; exact World.alloc_heap_new _ _
  obtain ⟨W1, hW1⟩ : ∃ W1, w.alloc (.cells #[.int .i64 p.frames, .int .i64 p.low, .int .i64 p.high, .int .i64 p.slope, .int .i64 p.smooth, .slice a p.targets.length c] 43) = W1 := ⟨_, rfl⟩
  rw [hW1] at hbx HBX
  have HKK : Hid (∀ W', Below W1.heap.size W1 W' → BoxC W' b2 p.frames p.low p.high p.slope p.smooth (.slice a p.targets.length c)) := Lib.hid fun W' hB => (hB.block b2 hbx.lt).trans hbx
  obtain ⟨k0, k1, k2, k3, k4, k5⟩ := hbx.cell
  have hlk := hbx.lt
  rw [hb2] at k0 k1 k2 k3 k4 k5 hlk
  have HB2 := Lib.hid hb2
  clear hbx hb2 hS
  generalize litB ⟨p.frames, p.low, p.high, p.slope, p.smooth, p.targets⟩ = lit at *
  unfold CostOut at H29
  cases lit
  · unfold Con.val at *
    go_enter Tryd.func7, Tryd.ntmps7
    go_wp2_with fail
    refine (H24.out W1).mono ?_
    rintro e w2 ⟨rfl, hb⟩
    have HB1 := Lib.hid hb
    clear hb k0 k1 k2 k3 k4 k5 hlk
    obtain ⟨k0, k1, k2, k3, k4, k5⟩ := (HKK.out _ HB1.out).cell
    have hlk := cell_lt k0
    rw [HB2.out] at k0 k1 k2 k3 k4 k5 hlk
    go_wp2_with fail
    refine (H15.out _ (bThen HBX.out HB1.out)).mono ?_
    rintro e w9 ⟨rfl, hb⟩
    have HB9 := Lib.hid (bThen HB1.out hb)
    clear hb
    go_wp2_with fail
    go_ret
    exact ⟨rfl, bThen HBX.out HB9.out⟩
  by_cases hl20 : (vs.length : Int) > 20
  · have d20 : decide ((vs.length : Int) > 20) = true := decide_eq_true hl20
    unfold Con.val at *
    go_enter Tryd.func7, Tryd.ntmps7
    go_wp2_with fail
    refine (H24.out W1).mono ?_
    rintro e w2 ⟨rfl, hb⟩
    have HB1 := Lib.hid hb
    clear hb k0 k1 k2 k3 k4 k5 hlk
    obtain ⟨k0, k1, k2, k3, k4, k5⟩ := (HKK.out _ HB1.out).cell
    have hlk := cell_lt k0
    rw [HB2.out] at k0 k1 k2 k3 k4 k5 hlk
    go_wp2_with fail
    refine (H15.out _ (bThen HBX.out HB1.out)).mono ?_
    rintro e w9 ⟨rfl, hb⟩
    have HB9 := Lib.hid (bThen HB1.out hb)
    clear hb
    go_wp2_with fail
    go_ret
    exact ⟨rfl, bThen HBX.out HB9.out⟩
  have d20 : decide ((vs.length : Int) > 20) = false := decide_eq_false hl20
  cases hok : conOk p
  · have H29' : Hid (∀ W, Below w.heap.size w W → Calls Tryd.prog 29 #[p.val (.slice a p.targets.length c), .slice va vs.length vc] W fun e w' => e = .returned (.tuple #[.int .i64 0, .int .i64 2]) ∧ Below W.heap.size W w') := Lib.hid fun W hB => (H29.out W hB).mono fun e w' ⟨h, hB⟩ => ⟨by rw [h, hok]; rfl, hB⟩
    have H30' : Hid (∀ W, Below w.heap.size w W → Calls Tryd.prog 30 #[p.val (.slice a p.targets.length c), .slice va vs.length vc] W fun e w' => e = .returned (.tuple #[.bool false, .int .i64 2]) ∧ Below W.heap.size W w') := Lib.hid fun W hB => (H30.out W hB).mono fun e w' ⟨h, hB⟩ => ⟨h.elim (fun x => x.2) (fun x => by have hn := x.1; rw [hok] at hn; cases hn), hB⟩
    rw [hok] at H26
    clear H29 H30 H31 H28 H32 hok
    unfold Con.val at *
    go_enter Tryd.func7, Tryd.ntmps7
    go_wp2_with fail
    refine (H24.out W1).mono ?_
    rintro e w2 ⟨rfl, hb⟩
    have HB1 := Lib.hid hb
    clear hb k0 k1 k2 k3 k4 k5 hlk
    obtain ⟨k0, k1, k2, k3, k4, k5⟩ := (HKK.out _ HB1.out).cell
    have hlk := cell_lt k0
    rw [HB2.out] at k0 k1 k2 k3 k4 k5 hlk
    go_wp2_with fail
    refine (H29'.out _ (bThen HBX.out HB1.out)).mono ?_
    rintro e w3 ⟨rfl, hb⟩
    replace HB1 := Lib.hid (bThen HB1.out hb)
    clear hb k0 k1 k2 k3 k4 k5 hlk
    obtain ⟨k0, k1, k2, k3, k4, k5⟩ := (HKK.out _ HB1.out).cell
    have hlk := cell_lt k0
    rw [HB2.out] at k0 k1 k2 k3 k4 k5 hlk
    go_wp2_with fail
    refine (H30'.out _ (bThen HBX.out HB1.out)).mono ?_
    rintro e w4 ⟨rfl, hb⟩
    replace HB1 := Lib.hid (bThen HB1.out hb)
    clear hb k0 k1 k2 k3 k4 k5 hlk
    obtain ⟨k0, k1, k2, k3, k4, k5⟩ := (HKK.out _ HB1.out).cell
    have hlk := cell_lt k0
    rw [HB2.out] at k0 k1 k2 k3 k4 k5 hlk
    go_wp2_with fail
    refine (H26.out _ (bThen HBX.out HB1.out)).mono ?_
    rintro e w5 ⟨rfl, hb⟩
    replace HB1 := Lib.hid (bThen HB1.out hb)
    clear hb k0 k1 k2 k3 k4 k5 hlk
    obtain ⟨k0, k1, k2, k3, k4, k5⟩ := (HKK.out _ HB1.out).cell
    have hlk := cell_lt k0
    rw [HB2.out] at k0 k1 k2 k3 k4 k5 hlk
    go_wp2_with fail
    refine (H15.out _ (bThen HBX.out HB1.out)).mono ?_
    rintro e w9 ⟨rfl, hb⟩
    have HB9 := Lib.hid (bThen HB1.out hb)
    clear hb
    go_wp2_with fail
    go_ret
    exact ⟨rfl, bThen HBX.out HB9.out⟩
  · rw [hok] at H26
    cases hct : ctrOk p vs
    · have H29' : Hid (∀ W, Below w.heap.size w W → Calls Tryd.prog 29 #[p.val (.slice a p.targets.length c), .slice va vs.length vc] W fun e w' => e = .returned (.tuple #[.int .i64 0, .int .i64 2]) ∧ Below W.heap.size W w') := Lib.hid fun W hB => (H29.out W hB).mono fun e w' ⟨h, hB⟩ => ⟨by rw [h, hok, hct]; rfl, hB⟩
      have H30' : Hid (∀ W, Below w.heap.size w W → Calls Tryd.prog 30 #[p.val (.slice a p.targets.length c), .slice va vs.length vc] W fun e w' => e = .returned (.tuple #[.bool false, .int .i64 2]) ∧ Below W.heap.size W w') := Lib.hid fun W hB => (H30.out W hB).mono fun e w' ⟨h, hB⟩ => ⟨h.elim (fun x => x.2) (fun x => by have hn := x.1; rw [hok, hct] at hn; cases hn), hB⟩
      rw [hct] at H31
      have H31' := Lib.hid (fun W hB => H31.out W hB hok)
      clear H29 H30 H31 H28 H32 hok hct
      unfold Con.val at *
      go_enter Tryd.func7, Tryd.ntmps7
      go_wp2_with fail
      refine (H24.out W1).mono ?_
      rintro e w2 ⟨rfl, hb⟩
      have HB1 := Lib.hid hb
      clear hb k0 k1 k2 k3 k4 k5 hlk
      obtain ⟨k0, k1, k2, k3, k4, k5⟩ := (HKK.out _ HB1.out).cell
      have hlk := cell_lt k0
      rw [HB2.out] at k0 k1 k2 k3 k4 k5 hlk
      go_wp2_with fail
      refine (H29'.out _ (bThen HBX.out HB1.out)).mono ?_
      rintro e w3 ⟨rfl, hb⟩
      replace HB1 := Lib.hid (bThen HB1.out hb)
      clear hb k0 k1 k2 k3 k4 k5 hlk
      obtain ⟨k0, k1, k2, k3, k4, k5⟩ := (HKK.out _ HB1.out).cell
      have hlk := cell_lt k0
      rw [HB2.out] at k0 k1 k2 k3 k4 k5 hlk
      go_wp2_with fail
      refine (H30'.out _ (bThen HBX.out HB1.out)).mono ?_
      rintro e w4 ⟨rfl, hb⟩
      replace HB1 := Lib.hid (bThen HB1.out hb)
      clear hb k0 k1 k2 k3 k4 k5 hlk
      obtain ⟨k0, k1, k2, k3, k4, k5⟩ := (HKK.out _ HB1.out).cell
      have hlk := cell_lt k0
      rw [HB2.out] at k0 k1 k2 k3 k4 k5 hlk
      go_wp2_with fail
      refine (H26.out _ (bThen HBX.out HB1.out)).mono ?_
      rintro e w5 ⟨rfl, hb⟩
      replace HB1 := Lib.hid (bThen HB1.out hb)
      clear hb k0 k1 k2 k3 k4 k5 hlk
      obtain ⟨k0, k1, k2, k3, k4, k5⟩ := (HKK.out _ HB1.out).cell
      have hlk := cell_lt k0
      rw [HB2.out] at k0 k1 k2 k3 k4 k5 hlk
      go_wp2_with fail
      refine (H31'.out _ (bThen HBX.out HB1.out)).mono ?_
      rintro e w6 ⟨rfl, hb⟩
      replace HB1 := Lib.hid (bThen HB1.out hb)
      clear hb k0 k1 k2 k3 k4 k5 hlk
      obtain ⟨k0, k1, k2, k3, k4, k5⟩ := (HKK.out _ HB1.out).cell
      have hlk := cell_lt k0
      rw [HB2.out] at k0 k1 k2 k3 k4 k5 hlk
      go_wp2_with fail
      refine (H15.out _ (bThen HBX.out HB1.out)).mono ?_
      rintro e w9 ⟨rfl, hb⟩
      have HB9 := Lib.hid (bThen HB1.out hb)
      clear hb
      go_wp2_with fail
      go_ret
      exact ⟨rfl, bThen HBX.out HB9.out⟩
    · have H29' : Hid (∀ W, Below w.heap.size w W → Calls Tryd.prog 29 #[p.val (.slice a p.targets.length c), .slice va vs.length vc] W fun e w' => e = .returned (.tuple #[.int .i64 (costOf p vs), .int .i64 0]) ∧ Below W.heap.size W w') := Lib.hid fun W hB => (H29.out W hB).mono fun e w' ⟨h, hB⟩ => ⟨by rw [h, hok, hct]; rfl, hB⟩
      have H30' : Hid (∀ W, Below w.heap.size w W → Calls Tryd.prog 30 #[p.val (.slice a p.targets.length c), .slice va vs.length vc] W fun e w' => (∃ b : Bool, e = .returned (.tuple #[.bool b, .int .i64 0]) ∧ (b = true ↔ Sett p vs)) ∧ Below W.heap.size W w') := Lib.hid fun W hB => (H30.out W hB).mono fun e w' ⟨h, hB⟩ => ⟨h.elim (fun x => by have hn := x.1; rw [hok, hct] at hn; cases hn) (fun x => x.2), hB⟩
      rw [hct] at H31
      have H31' := Lib.hid (fun W hB => H31.out W hB hok)
      have H28' := Lib.hid (fun W hB => H28.out W hB hok hct)
      have H32' := Lib.hid (fun W hB => H32.out W hB hok hct)
      clear H29 H30 H31 H28 H32 hok hct
      unfold Con.val at *
      generalize costOf p vs = cv at *
      obtain ⟨S, hSS⟩ : ∃ S : Prop, S = Sett p vs := ⟨_, rfl⟩
      rw [← hSS] at H30' H32'
      clear hSS
      go_enter Tryd.func7, Tryd.ntmps7
      go_wp2_with fail
      refine (H24.out W1).mono ?_
      rintro e w2 ⟨rfl, hb⟩
      have HB1 := Lib.hid hb
      clear hb k0 k1 k2 k3 k4 k5 hlk
      obtain ⟨k0, k1, k2, k3, k4, k5⟩ := (HKK.out _ HB1.out).cell
      have hlk := cell_lt k0
      rw [HB2.out] at k0 k1 k2 k3 k4 k5 hlk
      go_wp2_with fail
      refine (H29'.out _ (bThen HBX.out HB1.out)).mono ?_
      rintro e w3 ⟨rfl, hb⟩
      replace HB1 := Lib.hid (bThen HB1.out hb)
      clear hb k0 k1 k2 k3 k4 k5 hlk
      obtain ⟨k0, k1, k2, k3, k4, k5⟩ := (HKK.out _ HB1.out).cell
      have hlk := cell_lt k0
      rw [HB2.out] at k0 k1 k2 k3 k4 k5 hlk
      go_wp2_with fail
      refine (H30'.out _ (bThen HBX.out HB1.out)).mono ?_
      rintro e w4 ⟨⟨b1, rfl, hb1⟩, hb⟩
      have HP1 := Lib.hid hb1
      clear hb1
      replace HB1 := Lib.hid (bThen HB1.out hb)
      clear hb k0 k1 k2 k3 k4 k5 hlk
      obtain ⟨k0, k1, k2, k3, k4, k5⟩ := (HKK.out _ HB1.out).cell
      have hlk := cell_lt k0
      rw [HB2.out] at k0 k1 k2 k3 k4 k5 hlk
      go_wp2_with fail
      refine (H26.out _ (bThen HBX.out HB1.out)).mono ?_
      rintro e w5 ⟨rfl, hb⟩
      replace HB1 := Lib.hid (bThen HB1.out hb)
      clear hb k0 k1 k2 k3 k4 k5 hlk
      obtain ⟨k0, k1, k2, k3, k4, k5⟩ := (HKK.out _ HB1.out).cell
      have hlk := cell_lt k0
      rw [HB2.out] at k0 k1 k2 k3 k4 k5 hlk
      go_wp2_with fail
      refine (H31'.out _ (bThen HBX.out HB1.out)).mono ?_
      rintro e w6 ⟨rfl, hb⟩
      replace HB1 := Lib.hid (bThen HB1.out hb)
      clear hb k0 k1 k2 k3 k4 k5 hlk
      obtain ⟨k0, k1, k2, k3, k4, k5⟩ := (HKK.out _ HB1.out).cell
      have hlk := cell_lt k0
      rw [HB2.out] at k0 k1 k2 k3 k4 k5 hlk
      go_wp2_with fail
      refine (H28'.out _ (bThen HBX.out HB1.out)).mono ?_
      rintro e w7 ⟨rfl, hb⟩
      replace HB1 := Lib.hid (bThen HB1.out hb)
      clear hb k0 k1 k2 k3 k4 k5 hlk
      obtain ⟨k0, k1, k2, k3, k4, k5⟩ := (HKK.out _ HB1.out).cell
      have hlk := cell_lt k0
      rw [HB2.out] at k0 k1 k2 k3 k4 k5 hlk
      go_wp2_with fail
      refine (H32'.out _ (bThen HBX.out HB1.out)).mono ?_
      rintro e w8 ⟨⟨b2', rfl, hb1⟩, hb⟩
      have HEQ : Hid (b2' = b1) := Lib.hid (by rw [Bool.eq_iff_iff, hb1, HP1.out])
      rw [HEQ.out]
      clear hb1
      replace HB1 := Lib.hid (bThen HB1.out hb)
      clear hb k0 k1 k2 k3 k4 k5 hlk
      obtain ⟨k0, k1, k2, k3, k4, k5⟩ := (HKK.out _ HB1.out).cell
      have hlk := cell_lt k0
      rw [HB2.out] at k0 k1 k2 k3 k4 k5 hlk
      cases b1
      · go_wp2_with fail
        refine (H15.out _ (bThen HBX.out HB1.out)).mono ?_
        rintro e w9 ⟨rfl, hb⟩
        have HB9 := Lib.hid (bThen HB1.out hb)
        clear hb
        go_wp2_with fail
        go_ret
        exact ⟨rfl, bThen HBX.out HB9.out⟩
      · go_wp2_with fail
        refine (H15.out _ (bThen HBX.out HB1.out)).mono ?_
        rintro e w9 ⟨rfl, hb⟩
        have HB9 := Lib.hid (bThen HB1.out hb)
        clear hb
        go_wp2_with fail
        go_ret
        exact ⟨rfl, bThen HBX.out HB9.out⟩
end Go.Proofs.YtejcbcjhmnhefaaDoor
