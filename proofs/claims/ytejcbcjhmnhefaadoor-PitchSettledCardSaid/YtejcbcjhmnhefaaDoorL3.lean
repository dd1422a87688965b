/- The specification's commands and their values; the law of values. -/
import Derived.Test.YtejcbcjhmnhefaaDoorK1
import Derived.Test.YtejcbcjhmnhefaaDoorC2
set_option linter.unusedSimpArgs false
set_option linter.unusedVariables false
namespace Go.Proofs.YtejcbcjhmnhefaaDoor
open Go.RowKit

def earl (l : List Knot) (k : Nat) : Int := match k with | 0 => 0 | k + 1 => (l.getD k ⟨0, 0⟩).time + 1
set_option maxRecDepth 100000 in
set_option maxHeartbeats 8000000 in
theorem refCommand_any (x : Cmd) (v : Value) (w : World) (hv : SliceV w v 2 KnotAt x.shape) :
    Calls Tryd.prog 17 #[.agg #[.int .i64 x.at_, .int .i64 x.height, v]] w fun e w' => e = .returned (.bool (cmdOk x)) ∧ Below w.heap.size w w' := by
  obtain ⟨xa, xh, l⟩ := x
  obtain ⟨a, c, rfl, hl, hx⟩ := hv
  simp only at hl hx ⊢
  unfold most at hl
  have HX := Lib.hid hx
  clear hx
  cases g1 : betw xa (-4000) 4000
  · have hf : cmdOk ⟨xa, xh, l⟩ = false := by simp [cmdOk, g1]
    rw [hf]
    go_enter Tryd.func17, Tryd.ntmps17
    go_wp2_with (go_at_call 49; refine (in_any _ _ _ _).mono ?_; rintro e w' ⟨rfl, rfl⟩)
    go_ret
    exact ⟨rfl, bAlloc (Below.refl _ _) _⟩
  cases g2 : betw xh (-100000) 100000
  · have hf : cmdOk ⟨xa, xh, l⟩ = false := by simp [cmdOk, g1, g2]
    rw [hf]
    go_enter Tryd.func17, Tryd.ntmps17
    go_wp2_with (go_at_call 49; refine (in_any _ _ _ _).mono ?_; rintro e w' ⟨rfl, rfl⟩)
    go_ret
    exact ⟨rfl, bAlloc (Below.refl _ _) _⟩
  by_cases g3 : (l.length : Int) < 1
  · have hf : cmdOk ⟨xa, xh, l⟩ = false := by simp [cmdOk, shapeOk, betw]; omega
    rw [hf]
    go_enter Tryd.func17, Tryd.ntmps17
    go_wp2_with (go_at_call 49; refine (in_any _ _ _ _).mono ?_; rintro e w' ⟨rfl, rfl⟩)
    go_ret
    exact ⟨rfl, bAlloc (Below.refl _ _) _⟩
  have g3' : decide ((l.length : Int) < 1) = false := decide_eq_false g3
  by_cases g4 : (l.length : Int) > 20
  · have hf : cmdOk ⟨xa, xh, l⟩ = false := by simp [cmdOk, shapeOk, betw]; omega
    have g4' : decide ((l.length : Int) > 20) = true := decide_eq_true g4
    rw [hf]
    go_enter Tryd.func17, Tryd.ntmps17
    go_wp2_with (go_at_call 49; refine (in_any _ _ _ _).mono ?_; rintro e w' ⟨rfl, rfl⟩)
    go_ret
    exact ⟨rfl, bAlloc (Below.refl _ _) _⟩
  have g4' : decide ((l.length : Int) > 20) = false := decide_eq_false g4
  have hf : cmdOk ⟨xa, xh, l⟩ = knotsOk l 0 := by
    have h5 : betw l.length 1 20 = true := by simp [betw]; omega
    simp [cmdOk, shapeOk, g1, g2, h5]
  rw [hf]
  clear hf
  obtain ⟨lb, lo, rfl, hk⟩ : ∃ lb lo, a = some ⟨lb, lo, none⟩ ∧ ∀ i (h : i < l.length), KnotAt w lb (lo + i * 2) l[i] := by
    rcases HX.out with h | h
    · subst h; simp at g3
    · exact h
  have HK := Lib.hid hk
  clear hk HX
  obtain ⟨b0, hb0⟩ : ∃ b0, b0 = w.heap.size := ⟨_, rfl⟩
  go_enter Tryd.func17, Tryd.ntmps17
  go_wp2_with (go_at_call 49; refine (in_any _ _ _ _).mono ?_; rintro e w' ⟨rfl, rfl⟩)
  rw [← hb0]
  generalize hW1 : World.alloc w _ = W1
  have hB1 : Below w.heap.size w W1 := by rw [← hW1]; exact bAlloc (Below.refl _ _) _
  have hp2 : W1.cell? ⟨b0, 2, none⟩ = some (.slice (some ⟨lb, lo, none⟩) l.length c) := by rw [← hW1, hb0]; exact cell_new rfl
  have HB1 := Lib.hid hB1
  have HP2 := Lib.hid hp2
  have HB0 := Lib.hid hb0
  clear hW1 hB1 hp2 hb0
  go_loopw [3] (fun i wr => ∃ k : Nat, k ≤ l.length ∧ i = .int .i64 k ∧ Hid (knotsOk l 0 = knotsOk (l.drop k) (earl l k)) ∧ Hid (0 ≤ earl l k) ∧ Hid (Below W1.heap.size W1 wr)) (fun i _ => l.length - (intOf i).toNat)
  case atStart => exact ⟨0, Nat.zero_le _, rfl, Lib.hid rfl, Lib.hid (Int.le_refl _), Lib.hid (Below.refl _ _)⟩
  case round =>
    obtain ⟨k, hk, rfl, HE, HEP, HB⟩ := hrel
    have p2 := keep HB.out HP2.out
    have hlp := cell_lt p2
    by_cases hlt : k < l.length
    · obtain ⟨c0, c1⟩ := HK.out k hlt
      have d0 := keep (bThen HB1.out HB.out) c0
      have d1 := keep (bThen HB1.out HB.out) c1
      have hld := cell_lt d0
      have hst : knotsOk l 0 = (betw l[k].time (earl l k) 4000 && betw l[k].value (-1000) 1000 && knotsOk (l.drop (k + 1)) (earl l (k + 1))) := by
        rw [HE.out, knotsOk_drop l k hlt]
        simp [earl, List.getD, hlt]
      have HE1 : Hid (0 ≤ earl l (k + 1)) → True := fun _ => trivial
      clear HE1
      have hex : earl l (k + 1) = l[k].time + 1 := by simp [earl, List.getD, hlt]
      have hprev : ∀ j, k = j + 1 → earl l k = (l.getD j ⟨0, 0⟩).time + 1 := fun j h => by subst h; rfl
      have HKP : Hid (∀ j, k = j + 1 → wr.cell? ⟨lb, lo + j * 2, none⟩ = some (.int .i64 (l.getD j ⟨0, 0⟩).time)) := Lib.hid fun j h => by
        have h2 := (HK.out j (by omega)).1
        have h3 : l.getD j ⟨0, 0⟩ = l[j]'(by omega) := by simp [List.getD, show j < l.length by omega]
        rw [h3]
        exact keep (bThen HB1.out HB.out) h2
      have HST := Lib.hid hst
      have HEX := Lib.hid hex
      have HPR := Lib.hid hprev
      have hep := HEP.out
      clear hst hex c0 c1 hprev
      generalize l[k] = y at *
      cases g5 : betw y.time 0 4000
      · have HFALSE : Hid (knotsOk l 0 = false) := Lib.hid (by
          rw [HST.out]
          have h : betw y.time (earl l k) 4000 = false := by simp [betw] at g5 ⊢; omega
          simp [h])
        clear HEX HPR HKP
        go_wp2_with fail
        refine wp_opaque fun Q2 hQ2 => ?_
        (refine wp_region_below (by kernel_rfl) (by kernel_rfl) ?_; (repeat (first | go_big_quiet_step ((go_at_call 49; exact toS (fun w => in_any _ _ _ w) _)) | quiet_step ((go_at_call 49; exact toS (fun w => in_any _ _ _ w) _)))); (refine wpQuiet_nil ?_; intro _ hw'; obtain ⟨xq, hw''⟩ := hw'; subst hw''))
        have HBX := Lib.hid (bThen (bThen HB.out (bAlloc (Below.refl _ _) _)) xq.2)
        refine hQ2 _ _ _ ?_
        clear hQ2 Q2
        go_wp2_with fail
        go_ret
        exact ⟨ret_bool HFALSE.out.symm, bThen HB1.out HBX.out⟩
      · cases g6 : betw y.value (-1000) 1000
        · have HFALSE : Hid (knotsOk l 0 = false) := Lib.hid (by rw [HST.out]; simp [g6])
          clear HEX HPR HKP
          go_wp2_with fail
          refine wp_opaque fun Q2 hQ2 => ?_
          (refine wp_region_below (by kernel_rfl) (by kernel_rfl) ?_; (repeat (first | go_big_quiet_step ((go_at_call 49; exact toS (fun w => in_any _ _ _ w) _)) | quiet_step ((go_at_call 49; exact toS (fun w => in_any _ _ _ w) _)))); (refine wpQuiet_nil ?_; intro _ hw'; obtain ⟨xq, hw''⟩ := hw'; subst hw''))
          have HBX := Lib.hid (bThen (bThen HB.out (bAlloc (Below.refl _ _) _)) xq.2)
          refine hQ2 _ _ _ ?_
          clear hQ2 Q2
          go_wp2_with fail
          go_ret
          exact ⟨ret_bool HFALSE.out.symm, bThen HB1.out HBX.out⟩
        · by_cases hk0 : k = 0
          · have HE1 : Hid (0 ≤ earl l (k + 1)) := Lib.hid (by rw [HEX.out]; have := betw_in g5; omega)
            have HNEXT : Hid (knotsOk l 0 = knotsOk (l.drop (k + 1)) (earl l (k + 1))) := Lib.hid (by
              rw [HST.out]
              have h : betw y.time (earl l k) 4000 = true := by rw [hk0]; exact g5
              simp [h, g6])
            have hd : decide ((k : Int) > 0) = false := decide_eq_false (by omega)
            have hd3 : decide (0 < k) = false := decide_eq_false (by omega)
            have hk1 : ¬ ((k : Int) > 0) := by omega
            have HK0 := Lib.hid hk0
            clear hk0
            clear HPR HKP HEX
            go_wp2_with fail
            refine wp_opaque fun Q2 hQ2 => ?_
            (refine wp_region_below (by kernel_rfl) (by kernel_rfl) ?_; (repeat (first | go_big_quiet_step ((go_at_call 49; exact toS (fun w => in_any _ _ _ w) _)) | quiet_step ((go_at_call 49; exact toS (fun w => in_any _ _ _ w) _)))); (refine wpQuiet_nil ?_; intro _ hw'; obtain ⟨xq, hw''⟩ := hw'; subst hw''))
            have HBX := Lib.hid (bThen (bThen HB.out (bAlloc (Below.refl _ _) _)) xq.2)
            refine hQ2 _ _ _ ?_
            clear hQ2 Q2
            go_wp2_with fail
            go_roundw
            case rel =>
              first
                | exact ⟨k + 1, by omega, by go_num, HNEXT, HE1, HBX⟩
                | ((repeat apply Exists.intro); refine ⟨?_, rfl⟩; exact ⟨k + 1, by omega, by go_num, HNEXT, HE1, HBX⟩)
            case measure => simp [intOf]; omega
          · obtain ⟨j, hj⟩ : ∃ j, k = j + 1 := ⟨k - 1, by omega⟩
            have e0 := HKP.out j hj
            have hpe := HPR.out j hj
            have HJ := Lib.hid hj
            have hle0 := cell_lt e0
            have hd : decide ((k : Int) > 0) = true := decide_eq_true (by omega)
            have hd3 : decide (0 < k) = true := decide_eq_true (by omega)
            have hk3 : 0 < k := by omega
            have hk1 : (k : Int) > 0 := by omega
            have i6 : (k : Int) - 1 = (j : Int) := by omega
            have i7 : (j : Int) < (l.length : Int) := by omega
            have hbt := betw_in g5
            clear hj HKP HPR
            generalize (l.getD j ⟨0, 0⟩).time = pt at *
            have HPE := Lib.hid hpe
            clear hpe
            by_cases hc : y.time ≤ pt
            · have HFALSE : Hid (knotsOk l 0 = false) := Lib.hid (by
                rw [HST.out, HPE.out]
                have h : betw y.time (pt + 1) 4000 = false := by simp [betw]; omega
                simp [h])
              have hd2 : decide (y.time ≤ pt) = true := decide_eq_true hc
              clear HEX
              go_wp2_with fail
              refine wp_opaque fun Q2 hQ2 => ?_
              (refine wp_region_below (by kernel_rfl) (by kernel_rfl) ?_; (repeat (first | go_big_quiet_step ((go_at_call 49; exact toS (fun w => in_any _ _ _ w) _)) | quiet_step ((go_at_call 49; exact toS (fun w => in_any _ _ _ w) _)))); (refine wpQuiet_nil ?_; intro _ hw'; obtain ⟨xq, hw''⟩ := hw'; subst hw''))
              have HBX := Lib.hid (bThen (bThen HB.out (bAlloc (Below.refl _ _) _)) xq.2)
              refine hQ2 _ _ _ ?_
              clear hQ2 Q2
              go_wp2_with fail
              go_ret
              exact ⟨ret_bool HFALSE.out.symm, bThen HB1.out HBX.out⟩
            · have HE1 : Hid (0 ≤ earl l (k + 1)) := Lib.hid (by rw [HEX.out]; omega)
              have HNEXT : Hid (knotsOk l 0 = knotsOk (l.drop (k + 1)) (earl l (k + 1))) := Lib.hid (by
                rw [HST.out, HPE.out]
                have h : betw y.time (pt + 1) 4000 = true := by simp [betw]; omega
                simp [h, g6])
              have hd2 : decide (y.time ≤ pt) = false := decide_eq_false hc
              clear HEX
              go_wp2_with fail
              refine wp_opaque fun Q2 hQ2 => ?_
              (refine wp_region_below (by kernel_rfl) (by kernel_rfl) ?_; (repeat (first | go_big_quiet_step ((go_at_call 49; exact toS (fun w => in_any _ _ _ w) _)) | quiet_step ((go_at_call 49; exact toS (fun w => in_any _ _ _ w) _)))); (refine wpQuiet_nil ?_; intro _ hw'; obtain ⟨xq, hw''⟩ := hw'; subst hw''))
              have HBX := Lib.hid (bThen (bThen HB.out (bAlloc (Below.refl _ _) _)) xq.2)
              refine hQ2 _ _ _ ?_
              clear hQ2 Q2
              go_wp2_with fail
              go_roundw
              case rel =>
                first
                  | exact ⟨k + 1, by omega, by go_num, HNEXT, HE1, HBX⟩
                  | ((repeat apply Exists.intro); refine ⟨?_, rfl⟩; exact ⟨k + 1, by omega, by go_num, HNEXT, HE1, HBX⟩)
              case measure => simp [intOf]; omega
    · obtain rfl : k = l.length := by omega
      have hkk : ¬ ((l.length : Int) < (l.length : Int)) := by omega
      go_wp2_with fail
      go_ret
      exact ⟨by rw [HE.out, List.drop_length]; rfl, bThen HB1.out HB.out⟩
end Go.Proofs.YtejcbcjhmnhefaaDoor
