/- The law of curves. -/
import Derived.Test.YtejcbcjhmnhefaaDoorL4
set_option linter.unusedSimpArgs false
set_option linter.unusedVariables false
namespace Go.Proofs.YtejcbcjhmnhefaaDoor
open Go.RowKit

theorem curveOk_in {n base : Int} {l : List Cmd} (h : curveOk n base l = true) : (0 ≤ n ∧ n ≤ 4000) ∧ (-100000 ≤ base ∧ base ≤ 100000) ∧ (l.length : Int) ≤ 200 ∧ ∀ c ∈ l, cmdOk c = true := by
  simp only [curveOk, betw, cmdsOk, Bool.and_eq_true, decide_eq_true_eq] at h
  obtain ⟨⟨h1, h2⟩, h3, h4⟩ := h
  refine ⟨h1, h2, h3, fun c hc => ?_⟩
  simp only [Bool.not_eq_true', List.any_eq_false] at h4
  simpa using h4 c hc
set_option maxRecDepth 100000 in
set_option maxHeartbeats 16000000 in
theorem lawCurves_any (n base : Int) (l : List Cmd) (v : Value) (w : World) (hv : SliceV w v 3 CmdAt l) (hS : Semi w) :
    Calls Tryd.prog 4 #[.int .i64 n, .int .i64 base, v] w fun e w' => e = .returned (.bool true) ∧ Below w.heap.size w w' := by
  have HS := Lib.hid hS
  have HV := Lib.hid hv
  obtain ⟨a, c, rfl, hl, -⟩ := hv
  unfold most at hl
  have HKN : Hid (∀ _ : Unit, Calls Tryd.prog 19 #[.slice a l.length c] w fun e w' => e = .returned (.bool (knotsB l)) ∧ w = w') := Lib.hid fun _ => knots_any l _ w HV.out
  have H15 : Hid (∀ W, Below w.heap.size w W → Calls Tryd.prog 15 #[] W fun e w' => e = .returned (.bool true) ∧ Below W.heap.size W w') := Lib.hid fun W hB => known_any W (HS.out.keep hB)
  have H20 : Hid (∀ W, Below w.heap.size w W → _) := Lib.hid fun W hB => Curve_any n base l (.slice a l.length c) W (HV.out.keep CmdAt.stable hB)
  have H21 : Hid (∀ W, Below w.heap.size w W → _) := Lib.hid fun W hB => refCurved_any n base l (.slice a l.length c) W (HV.out.keep CmdAt.stable hB)
  have HB1 := Lib.hid (Below.refl w.heap.size w)
  clear hS
  by_cases a1 : n > 200
  · have d4 : decide (n > 200) = true := decide_eq_true a1
    by_cases a2 : n ≤ 4000
    · have d5 : decide (n ≤ 4000) = true := decide_eq_true a2
      go_enter Tryd.func4, Tryd.ntmps4
      go_wp2_with fail
      refine (H15.out _ HB1.out).mono ?_
      rintro e w9 ⟨rfl, hb⟩
      have HB9 := Lib.hid (bThen HB1.out hb)
      clear hb
      go_wp2_with fail
      go_ret
      exact ⟨rfl, HB9.out⟩
    · have d5 : decide (n ≤ 4000) = false := decide_eq_false a2
      by_cases b1 : (l.length : Int) > 8
      · have d1 : decide ((l.length : Int) > 8) = true := decide_eq_true b1
        by_cases b2 : (l.length : Int) ≤ 200
        · have d2 : decide ((l.length : Int) ≤ 200) = true := decide_eq_true b2
          go_enter Tryd.func4, Tryd.ntmps4
          go_wp2_with fail
          refine (H15.out _ HB1.out).mono ?_
          rintro e w9 ⟨rfl, hb⟩
          have HB9 := Lib.hid (bThen HB1.out hb)
          clear hb
          go_wp2_with fail
          go_ret
          exact ⟨rfl, HB9.out⟩
        · have d2 : decide ((l.length : Int) ≤ 200) = false := decide_eq_false b2
          by_cases c1 : (l.length : Int) > 300
          · have d3 : decide ((l.length : Int) > 300) = true := decide_eq_true c1
            go_enter Tryd.func4, Tryd.ntmps4
            go_wp2_with fail
            refine (H15.out _ HB1.out).mono ?_
            rintro e w9 ⟨rfl, hb⟩
            have HB9 := Lib.hid (bThen HB1.out hb)
            clear hb
            go_wp2_with fail
            go_ret
            exact ⟨rfl, HB9.out⟩
          · have d3 : decide ((l.length : Int) > 300) = false := decide_eq_false c1
            cases kn : knotsB l
            · go_enter Tryd.func4, Tryd.ntmps4
              go_wp2_with (go_at_call 19; refine (HKN.out ()).mono ?_; rintro e w' ⟨rfl, rfl⟩; rw [kn])
              refine (H15.out _ HB1.out).mono ?_
              rintro e w9 ⟨rfl, hb⟩
              have HB9 := Lib.hid (bThen HB1.out hb)
              clear hb
              go_wp2_with fail
              go_ret
              exact ⟨rfl, HB9.out⟩
            · cases hok : curveOk n base l
              · rw [hok] at H21
                go_enter Tryd.func4, Tryd.ntmps4
                go_wp2_with (go_at_call 19; refine (HKN.out ()).mono ?_; rintro e w' ⟨rfl, rfl⟩; rw [kn])
                refine (H20.out _ HB1.out).mono ?_
                rintro e w1 ⟨⟨-, rfl⟩ | ⟨hno, -⟩, hb⟩
                case inr => rw [hok] at hno; cases hno
                replace HB1 := Lib.hid (bThen HB1.out hb)
                clear hb
                go_wp2_with fail
                refine (H21.out _ HB1.out).mono ?_
                rintro e w2 ⟨rfl, hb⟩
                replace HB1 := Lib.hid (bThen HB1.out hb)
                clear hb
                go_wp2_with fail
                refine (H15.out _ HB1.out).mono ?_
                rintro e w9 ⟨rfl, hb⟩
                have HB9 := Lib.hid (bThen HB1.out hb)
                clear hb
                go_wp2_with fail
                go_ret
                exact ⟨rfl, HB9.out⟩
              · have hin := curveOk_in hok
                obtain ⟨m, hm⟩ : ∃ m : Nat, n = (m : Int) := ⟨n.toNat, by omega⟩
                subst hm
                have H23 : Hid (∀ W, Below w.heap.size w W → _) := Lib.hid fun W hB => refCurve_any m base l (.slice a l.length c) W (HV.out.keep CmdAt.stable hB) (by omega) hin.2.1 (by omega) hin.2.2.2
                rw [hok] at H21
                clear hin
                go_enter Tryd.func4, Tryd.ntmps4
                go_wp2_with (go_at_call 19; refine (HKN.out ()).mono ?_; rintro e w' ⟨rfl, rfl⟩; rw [kn])
                refine (H20.out _ HB1.out).mono ?_
                rintro e w1 ⟨⟨hno, -⟩ | ⟨-, ad, m2, hm2, -, rfl, hr⟩, hb⟩
                · rw [hok] at hno; cases hno
                obtain rfl : m2 = m := by omega
                have HR := Lib.hid hr
                clear hr hm2
                replace HB1 := Lib.hid (bThen HB1.out hb)
                clear hb
                go_wp2_with fail
                refine (H21.out _ HB1.out).mono ?_
                rintro e w2 ⟨rfl, hb⟩
                have HR2 := Lib.hid (HR.out.keep IntAt.stable hb)
                replace HB1 := Lib.hid (bThen HB1.out hb)
                clear hb
                go_wp2_with fail
                refine (H23.out _ HB1.out).mono ?_
                rintro e w3 ⟨⟨u, rfl, hu⟩, hb⟩
                have HR3 := Lib.hid (HR2.out.keep IntAt.stable hb)
                have HU := Lib.hid hu
                clear hu
                replace HB1 := Lib.hid (bThen HB1.out hb)
                clear hb
                go_wp2_with fail
                refine (Same_any _ _ _ _ _ HR3.out HU.out).mono ?_
                rintro e w5 ⟨rfl, hb⟩
                rw [decide_eq_true rfl]
                replace HB1 := Lib.hid (bThen HB1.out hb)
                clear hb
                go_wp2_with fail
                refine (H15.out _ HB1.out).mono ?_
                rintro e w9 ⟨rfl, hb⟩
                have HB9 := Lib.hid (bThen HB1.out hb)
                clear hb
                go_wp2_with fail
                go_ret
                exact ⟨rfl, HB9.out⟩
      · have d1 : decide ((l.length : Int) > 8) = false := decide_eq_false b1
        by_cases c1 : (l.length : Int) > 300
        · have d3 : decide ((l.length : Int) > 300) = true := decide_eq_true c1
          go_enter Tryd.func4, Tryd.ntmps4
          go_wp2_with fail
          refine (H15.out _ HB1.out).mono ?_
          rintro e w9 ⟨rfl, hb⟩
          have HB9 := Lib.hid (bThen HB1.out hb)
          clear hb
          go_wp2_with fail
          go_ret
          exact ⟨rfl, HB9.out⟩
        · have d3 : decide ((l.length : Int) > 300) = false := decide_eq_false c1
          cases kn : knotsB l
          · go_enter Tryd.func4, Tryd.ntmps4
            go_wp2_with (go_at_call 19; refine (HKN.out ()).mono ?_; rintro e w' ⟨rfl, rfl⟩; rw [kn])
            refine (H15.out _ HB1.out).mono ?_
            rintro e w9 ⟨rfl, hb⟩
            have HB9 := Lib.hid (bThen HB1.out hb)
            clear hb
            go_wp2_with fail
            go_ret
            exact ⟨rfl, HB9.out⟩
          · cases hok : curveOk n base l
            · rw [hok] at H21
              go_enter Tryd.func4, Tryd.ntmps4
              go_wp2_with (go_at_call 19; refine (HKN.out ()).mono ?_; rintro e w' ⟨rfl, rfl⟩; rw [kn])
              refine (H20.out _ HB1.out).mono ?_
              rintro e w1 ⟨⟨-, rfl⟩ | ⟨hno, -⟩, hb⟩
              case inr => rw [hok] at hno; cases hno
              replace HB1 := Lib.hid (bThen HB1.out hb)
              clear hb
              go_wp2_with fail
              refine (H21.out _ HB1.out).mono ?_
              rintro e w2 ⟨rfl, hb⟩
              replace HB1 := Lib.hid (bThen HB1.out hb)
              clear hb
              go_wp2_with fail
              refine (H15.out _ HB1.out).mono ?_
              rintro e w9 ⟨rfl, hb⟩
              have HB9 := Lib.hid (bThen HB1.out hb)
              clear hb
              go_wp2_with fail
              go_ret
              exact ⟨rfl, HB9.out⟩
            · have hin := curveOk_in hok
              obtain ⟨m, hm⟩ : ∃ m : Nat, n = (m : Int) := ⟨n.toNat, by omega⟩
              subst hm
              have H23 : Hid (∀ W, Below w.heap.size w W → _) := Lib.hid fun W hB => refCurve_any m base l (.slice a l.length c) W (HV.out.keep CmdAt.stable hB) (by omega) hin.2.1 (by omega) hin.2.2.2
              rw [hok] at H21
              clear hin
              go_enter Tryd.func4, Tryd.ntmps4
              go_wp2_with (go_at_call 19; refine (HKN.out ()).mono ?_; rintro e w' ⟨rfl, rfl⟩; rw [kn])
              refine (H20.out _ HB1.out).mono ?_
              rintro e w1 ⟨⟨hno, -⟩ | ⟨-, ad, m2, hm2, -, rfl, hr⟩, hb⟩
              · rw [hok] at hno; cases hno
              obtain rfl : m2 = m := by omega
              have HR := Lib.hid hr
              clear hr hm2
              replace HB1 := Lib.hid (bThen HB1.out hb)
              clear hb
              go_wp2_with fail
              refine (H21.out _ HB1.out).mono ?_
              rintro e w2 ⟨rfl, hb⟩
              have HR2 := Lib.hid (HR.out.keep IntAt.stable hb)
              replace HB1 := Lib.hid (bThen HB1.out hb)
              clear hb
              go_wp2_with fail
              refine (H23.out _ HB1.out).mono ?_
              rintro e w3 ⟨⟨u, rfl, hu⟩, hb⟩
              have HR3 := Lib.hid (HR2.out.keep IntAt.stable hb)
              have HU := Lib.hid hu
              clear hu
              replace HB1 := Lib.hid (bThen HB1.out hb)
              clear hb
              go_wp2_with fail
              refine (Same_any _ _ _ _ _ HR3.out HU.out).mono ?_
              rintro e w5 ⟨rfl, hb⟩
              rw [decide_eq_true rfl]
              replace HB1 := Lib.hid (bThen HB1.out hb)
              clear hb
              go_wp2_with fail
              refine (H15.out _ HB1.out).mono ?_
              rintro e w9 ⟨rfl, hb⟩
              have HB9 := Lib.hid (bThen HB1.out hb)
              clear hb
              go_wp2_with fail
              go_ret
              exact ⟨rfl, HB9.out⟩
  · have d4 : decide (n > 200) = false := decide_eq_false a1
    by_cases b1 : (l.length : Int) > 8
    · have d1 : decide ((l.length : Int) > 8) = true := decide_eq_true b1
      by_cases b2 : (l.length : Int) ≤ 200
      · have d2 : decide ((l.length : Int) ≤ 200) = true := decide_eq_true b2
        go_enter Tryd.func4, Tryd.ntmps4
        go_wp2_with fail
        refine (H15.out _ HB1.out).mono ?_
        rintro e w9 ⟨rfl, hb⟩
        have HB9 := Lib.hid (bThen HB1.out hb)
        clear hb
        go_wp2_with fail
        go_ret
        exact ⟨rfl, HB9.out⟩
      · have d2 : decide ((l.length : Int) ≤ 200) = false := decide_eq_false b2
        by_cases c1 : (l.length : Int) > 300
        · have d3 : decide ((l.length : Int) > 300) = true := decide_eq_true c1
          go_enter Tryd.func4, Tryd.ntmps4
          go_wp2_with fail
          refine (H15.out _ HB1.out).mono ?_
          rintro e w9 ⟨rfl, hb⟩
          have HB9 := Lib.hid (bThen HB1.out hb)
          clear hb
          go_wp2_with fail
          go_ret
          exact ⟨rfl, HB9.out⟩
        · have d3 : decide ((l.length : Int) > 300) = false := decide_eq_false c1
          cases kn : knotsB l
          · go_enter Tryd.func4, Tryd.ntmps4
            go_wp2_with (go_at_call 19; refine (HKN.out ()).mono ?_; rintro e w' ⟨rfl, rfl⟩; rw [kn])
            refine (H15.out _ HB1.out).mono ?_
            rintro e w9 ⟨rfl, hb⟩
            have HB9 := Lib.hid (bThen HB1.out hb)
            clear hb
            go_wp2_with fail
            go_ret
            exact ⟨rfl, HB9.out⟩
          · cases hok : curveOk n base l
            · rw [hok] at H21
              go_enter Tryd.func4, Tryd.ntmps4
              go_wp2_with (go_at_call 19; refine (HKN.out ()).mono ?_; rintro e w' ⟨rfl, rfl⟩; rw [kn])
              refine (H20.out _ HB1.out).mono ?_
              rintro e w1 ⟨⟨-, rfl⟩ | ⟨hno, -⟩, hb⟩
              case inr => rw [hok] at hno; cases hno
              replace HB1 := Lib.hid (bThen HB1.out hb)
              clear hb
              go_wp2_with fail
              refine (H21.out _ HB1.out).mono ?_
              rintro e w2 ⟨rfl, hb⟩
              replace HB1 := Lib.hid (bThen HB1.out hb)
              clear hb
              go_wp2_with fail
              refine (H15.out _ HB1.out).mono ?_
              rintro e w9 ⟨rfl, hb⟩
              have HB9 := Lib.hid (bThen HB1.out hb)
              clear hb
              go_wp2_with fail
              go_ret
              exact ⟨rfl, HB9.out⟩
            · have hin := curveOk_in hok
              obtain ⟨m, hm⟩ : ∃ m : Nat, n = (m : Int) := ⟨n.toNat, by omega⟩
              subst hm
              have H23 : Hid (∀ W, Below w.heap.size w W → _) := Lib.hid fun W hB => refCurve_any m base l (.slice a l.length c) W (HV.out.keep CmdAt.stable hB) (by omega) hin.2.1 (by omega) hin.2.2.2
              rw [hok] at H21
              clear hin
              go_enter Tryd.func4, Tryd.ntmps4
              go_wp2_with (go_at_call 19; refine (HKN.out ()).mono ?_; rintro e w' ⟨rfl, rfl⟩; rw [kn])
              refine (H20.out _ HB1.out).mono ?_
              rintro e w1 ⟨⟨hno, -⟩ | ⟨-, ad, m2, hm2, -, rfl, hr⟩, hb⟩
              · rw [hok] at hno; cases hno
              obtain rfl : m2 = m := by omega
              have HR := Lib.hid hr
              clear hr hm2
              replace HB1 := Lib.hid (bThen HB1.out hb)
              clear hb
              go_wp2_with fail
              refine (H21.out _ HB1.out).mono ?_
              rintro e w2 ⟨rfl, hb⟩
              have HR2 := Lib.hid (HR.out.keep IntAt.stable hb)
              replace HB1 := Lib.hid (bThen HB1.out hb)
              clear hb
              go_wp2_with fail
              refine (H23.out _ HB1.out).mono ?_
              rintro e w3 ⟨⟨u, rfl, hu⟩, hb⟩
              have HR3 := Lib.hid (HR2.out.keep IntAt.stable hb)
              have HU := Lib.hid hu
              clear hu
              replace HB1 := Lib.hid (bThen HB1.out hb)
              clear hb
              go_wp2_with fail
              refine (Same_any _ _ _ _ _ HR3.out HU.out).mono ?_
              rintro e w5 ⟨rfl, hb⟩
              rw [decide_eq_true rfl]
              replace HB1 := Lib.hid (bThen HB1.out hb)
              clear hb
              go_wp2_with fail
              refine (H15.out _ HB1.out).mono ?_
              rintro e w9 ⟨rfl, hb⟩
              have HB9 := Lib.hid (bThen HB1.out hb)
              clear hb
              go_wp2_with fail
              go_ret
              exact ⟨rfl, HB9.out⟩
    · have d1 : decide ((l.length : Int) > 8) = false := decide_eq_false b1
      by_cases c1 : (l.length : Int) > 300
      · have d3 : decide ((l.length : Int) > 300) = true := decide_eq_true c1
        go_enter Tryd.func4, Tryd.ntmps4
        go_wp2_with fail
        refine (H15.out _ HB1.out).mono ?_
        rintro e w9 ⟨rfl, hb⟩
        have HB9 := Lib.hid (bThen HB1.out hb)
        clear hb
        go_wp2_with fail
        go_ret
        exact ⟨rfl, HB9.out⟩
      · have d3 : decide ((l.length : Int) > 300) = false := decide_eq_false c1
        cases kn : knotsB l
        · go_enter Tryd.func4, Tryd.ntmps4
          go_wp2_with (go_at_call 19; refine (HKN.out ()).mono ?_; rintro e w' ⟨rfl, rfl⟩; rw [kn])
          refine (H15.out _ HB1.out).mono ?_
          rintro e w9 ⟨rfl, hb⟩
          have HB9 := Lib.hid (bThen HB1.out hb)
          clear hb
          go_wp2_with fail
          go_ret
          exact ⟨rfl, HB9.out⟩
        · cases hok : curveOk n base l
          · rw [hok] at H21
            go_enter Tryd.func4, Tryd.ntmps4
            go_wp2_with (go_at_call 19; refine (HKN.out ()).mono ?_; rintro e w' ⟨rfl, rfl⟩; rw [kn])
            refine (H20.out _ HB1.out).mono ?_
            rintro e w1 ⟨⟨-, rfl⟩ | ⟨hno, -⟩, hb⟩
            case inr => rw [hok] at hno; cases hno
            replace HB1 := Lib.hid (bThen HB1.out hb)
            clear hb
            go_wp2_with fail
            refine (H21.out _ HB1.out).mono ?_
            rintro e w2 ⟨rfl, hb⟩
            replace HB1 := Lib.hid (bThen HB1.out hb)
            clear hb
            go_wp2_with fail
            refine (H15.out _ HB1.out).mono ?_
            rintro e w9 ⟨rfl, hb⟩
            have HB9 := Lib.hid (bThen HB1.out hb)
            clear hb
            go_wp2_with fail
            go_ret
            exact ⟨rfl, HB9.out⟩
          · have hin := curveOk_in hok
            obtain ⟨m, hm⟩ : ∃ m : Nat, n = (m : Int) := ⟨n.toNat, by omega⟩
            subst hm
            have H23 : Hid (∀ W, Below w.heap.size w W → _) := Lib.hid fun W hB => refCurve_any m base l (.slice a l.length c) W (HV.out.keep CmdAt.stable hB) (by omega) hin.2.1 (by omega) hin.2.2.2
            rw [hok] at H21
            clear hin
            go_enter Tryd.func4, Tryd.ntmps4
            go_wp2_with (go_at_call 19; refine (HKN.out ()).mono ?_; rintro e w' ⟨rfl, rfl⟩; rw [kn])
            refine (H20.out _ HB1.out).mono ?_
            rintro e w1 ⟨⟨hno, -⟩ | ⟨-, ad, m2, hm2, -, rfl, hr⟩, hb⟩
            · rw [hok] at hno; cases hno
            obtain rfl : m2 = m := by omega
            have HR := Lib.hid hr
            clear hr hm2
            replace HB1 := Lib.hid (bThen HB1.out hb)
            clear hb
            go_wp2_with fail
            refine (H21.out _ HB1.out).mono ?_
            rintro e w2 ⟨rfl, hb⟩
            have HR2 := Lib.hid (HR.out.keep IntAt.stable hb)
            replace HB1 := Lib.hid (bThen HB1.out hb)
            clear hb
            go_wp2_with fail
            refine (H23.out _ HB1.out).mono ?_
            rintro e w3 ⟨⟨u, rfl, hu⟩, hb⟩
            have HR3 := Lib.hid (HR2.out.keep IntAt.stable hb)
            have HU := Lib.hid hu
            clear hu
            replace HB1 := Lib.hid (bThen HB1.out hb)
            clear hb
            go_wp2_with fail
            refine (Same_any _ _ _ _ _ HR3.out HU.out).mono ?_
            rintro e w5 ⟨rfl, hb⟩
            rw [decide_eq_true rfl]
            replace HB1 := Lib.hid (bThen HB1.out hb)
            clear hb
            go_wp2_with fail
            refine (H15.out _ HB1.out).mono ?_
            rintro e w9 ⟨rfl, hb⟩
            have HB9 := Lib.hid (bThen HB1.out hb)
            clear hb
            go_wp2_with fail
            go_ret
            exact ⟨rfl, HB9.out⟩
end Go.Proofs.YtejcbcjhmnhefaaDoor
