/- The law of lags, given the chapter's examples. -/
import Derived.Test.YtbeeddenidfenaaF1
import Derived.Test.YtbeeddenidfenaaC3
set_option linter.unusedSimpArgs false
set_option linter.unusedVariables false
namespace Go.Proofs.Ytbeeddenidfenaa
open Go.RowKit

set_option maxRecDepth 10000 in
set_option maxHeartbeats 4000000 in
theorem law5_any (x y : List Int) (n r : Int) (v u : Value) (w : World) (hK : Known) (hv : SliceV w v 1 IntAt x) (hu : SliceV w u 1 IntAt y) (hn : -9223372036854775808 ≤ n ∧ n ≤ 9223372036854775807) (hr : -9223372036854775808 ≤ r ∧ r ≤ 9223372036854775807) :
    Calls Try.prog 5 #[v, u, .int .i64 n, .int .i64 r] w fun e w' => e = .returned (.bool true) ∧ Below w.heap.size w w' := by
  have HK : Hid (∀ W, Calls Try.prog 18 #[] W fun e w' => e = .returned (.bool true) ∧ Below W.heap.size W w') := Lib.hid hK
  have HB := Lib.hid (Below.refl w.heap.size w)
  have HSX := Lib.hid (short_any x v w hv)
  have HSY := Lib.hid (short_any y u w hu)
  have HV := Lib.hid (fun W (hB : Below w.heap.size w W) => hv.keep IntAt.stable hB)
  have HU := Lib.hid (fun W (hB : Below w.heap.size w W) => hu.keep IntAt.stable hB)
  have HMI := Lib.hid (fun (i : Nat) (hi : (i : Int) ≤ 1000000) W (hB : Below w.heap.size w W) => Mismatch_any x y n i v u W (HV.out W hB) (HU.out W hB) hn ⟨by omega, by omega⟩)
  have HLA := Lib.hid (fun W (hB : Below w.heap.size w W) => Lag_any x y n r v u W (HV.out W hB) (HU.out W hB) hn hr)
  have HWR := Lib.hid (fun W (hB : Below w.heap.size w W) => wrong_any x y v u W (HV.out W hB) (HU.out W hB))
  obtain ⟨a, c, rfl, hl, -⟩ := id hv
  obtain ⟨b, d, rfl, hm, -⟩ := id hu
  clear hv hu hK
  cases h1 : shrt x.length
  · rw [h1] at HSX
    clear HMI HLA HWR
    go_enter Try.func5, Try.ntmps5
    go_wp2_with (first
      | (go_at_call 17; with_reducible refine Calls.mono HSX.out ?_; rintro e w1 ⟨rfl, rfl⟩)
      | (go_at_call 17; with_reducible refine Calls.mono HSY.out ?_; rintro e w1 ⟨rfl, rfl⟩)
      | (go_at_call 18; with_reducible refine Calls.mono (HK.out _) ?_; rintro e wk ⟨rfl, hb⟩; have HB2 := Lib.hid hb; clear hb))
    go_ret
    exact ⟨rfl, HB2.out⟩
  · rw [h1] at HSX
    cases h2 : shrt y.length
    · rw [h2] at HSY
      clear HMI HLA HWR
      go_enter Try.func5, Try.ntmps5
      go_wp2_with (first
        | (go_at_call 17; with_reducible refine Calls.mono HSX.out ?_; rintro e w1 ⟨rfl, rfl⟩)
        | (go_at_call 17; with_reducible refine Calls.mono HSY.out ?_; rintro e w1 ⟨rfl, rfl⟩)
        | (go_at_call 18; with_reducible refine Calls.mono (HK.out _) ?_; rintro e wk ⟨rfl, hb⟩; have HB2 := Lib.hid hb; clear hb))
      go_ret
      exact ⟨rfl, HB2.out⟩
    · rw [h2] at HSY
      have HSX2 := HSX
      by_cases k1 : (60 : Int) < n ∧ n ≤ 400
      · obtain ⟨k1, k2⟩ := k1
        clear HMI HLA HWR h1 h2
        go_enter Try.func5, Try.ntmps5
        go_wp2_with (first
          | (go_at_call 17; with_reducible refine Calls.mono HSX.out ?_; rintro e w1 ⟨rfl, rfl⟩)
          | (go_at_call 17; with_reducible refine Calls.mono HSY.out ?_; rintro e w1 ⟨rfl, rfl⟩)
          | (go_at_call 18; with_reducible refine Calls.mono (HK.out _) ?_; rintro e wk ⟨rfl, hb⟩; have HB2 := Lib.hid hb; clear hb))
        go_ret
        exact ⟨rfl, HB2.out⟩
      · by_cases hc : chk true [x, y] = 0
        · have h2c := chk2_ok hc
          have hxs := short_ok hc h1
          have hys : y.length ≤ 400 := by simp [shrt] at h2; omega
          cases hlo : lagOk n r
          · have hle : lagErr x y n r = 2 := by unfold lagErr; rw [hlo, chk_false hc]; rfl
            have hla : lagRes x y n r = .tuple #[.int .i64 0, .int .i64 0, .int .i64 2] := by unfold lagRes; rw [if_neg (by rw [hle]; decide), hle]
            rw [hla] at HLA
            rw [hc] at HWR
            have hlo2 : n < 1 ∨ r < 0 := by
              simp only [lagOk, Bool.and_eq_false_iff, decide_eq_false_iff_not] at hlo
              omega
            clear HMI h1 h2 hc h2c hxs hys hlo hle hla
            by_cases k2 : (60 : Int) < n
            · have k3 : ¬ n ≤ 400 := fun h => k1 ⟨k2, h⟩
              have k4 : ¬ n < 1 := by omega
              have k5 : r < 0 := by omega
              go_enter Try.func5, Try.ntmps5
              go_wp2_with (first
                | (go_at_call 17; with_reducible refine Calls.mono HSX.out ?_; rintro e w1 ⟨rfl, rfl⟩)
                | (go_at_call 17; with_reducible refine Calls.mono HSY.out ?_; rintro e w1 ⟨rfl, rfl⟩)
                | (go_at_call 33; with_reducible refine Calls.mono (HLA.out _ HB.out) ?_; rintro e w1 ⟨rfl, hb⟩; have HB1 := Lib.hid hb; clear hb)
                | (go_at_call 28; with_reducible refine Calls.mono (HWR.out _ HB1.out) ?_; rintro e w3 ⟨rfl, rfl⟩)
                | (go_at_call 34; with_reducible refine Calls.mono (HRL.out _ HB1.out) ?_; rintro e w4 ⟨rfl, hb⟩; have HB4 := Lib.hid (bThen HB1.out hb); clear hb)
                | (go_at_call 18; with_reducible refine Calls.mono (HK.out _) ?_; rintro e wk ⟨rfl, hb⟩; have HB3 := Lib.hid (by first | exact bThen HB4.out hb | exact bThen HB1.out hb | exact hb); clear hb))
              all_goals first
                | (exfalso; omega)
                | (go_ret; exact ⟨rfl, HB3.out⟩)
            · by_cases k4 : n < 1
              · go_enter Try.func5, Try.ntmps5
                go_wp2_with (first
                  | (go_at_call 17; with_reducible refine Calls.mono HSX.out ?_; rintro e w1 ⟨rfl, rfl⟩)
                  | (go_at_call 17; with_reducible refine Calls.mono HSY.out ?_; rintro e w1 ⟨rfl, rfl⟩)
                  | (go_at_call 33; with_reducible refine Calls.mono (HLA.out _ HB.out) ?_; rintro e w1 ⟨rfl, hb⟩; have HB1 := Lib.hid hb; clear hb)
                  | (go_at_call 28; with_reducible refine Calls.mono (HWR.out _ HB1.out) ?_; rintro e w3 ⟨rfl, rfl⟩)
                  | (go_at_call 34; with_reducible refine Calls.mono (HRL.out _ HB1.out) ?_; rintro e w4 ⟨rfl, hb⟩; have HB4 := Lib.hid (bThen HB1.out hb); clear hb)
                  | (go_at_call 18; with_reducible refine Calls.mono (HK.out _) ?_; rintro e wk ⟨rfl, hb⟩; have HB3 := Lib.hid (by first | exact bThen HB4.out hb | exact bThen HB1.out hb | exact hb); clear hb))
                all_goals first
                  | (exfalso; omega)
                  | (go_ret; exact ⟨rfl, HB3.out⟩)
              · have k5 : r < 0 := by omega
                go_enter Try.func5, Try.ntmps5
                go_wp2_with (first
                  | (go_at_call 17; with_reducible refine Calls.mono HSX.out ?_; rintro e w1 ⟨rfl, rfl⟩)
                  | (go_at_call 17; with_reducible refine Calls.mono HSY.out ?_; rintro e w1 ⟨rfl, rfl⟩)
                  | (go_at_call 33; with_reducible refine Calls.mono (HLA.out _ HB.out) ?_; rintro e w1 ⟨rfl, hb⟩; have HB1 := Lib.hid hb; clear hb)
                  | (go_at_call 28; with_reducible refine Calls.mono (HWR.out _ HB1.out) ?_; rintro e w3 ⟨rfl, rfl⟩)
                  | (go_at_call 34; with_reducible refine Calls.mono (HRL.out _ HB1.out) ?_; rintro e w4 ⟨rfl, hb⟩; have HB4 := Lib.hid (bThen HB1.out hb); clear hb)
                  | (go_at_call 18; with_reducible refine Calls.mono (HK.out _) ?_; rintro e wk ⟨rfl, hb⟩; have HB3 := Lib.hid (by first | exact bThen HB4.out hb | exact bThen HB1.out hb | exact hb); clear hb))
                all_goals first
                  | (exfalso; omega)
                  | (go_ret; exact ⟨rfl, HB3.out⟩)
          · have hct : chk true [x, y] = 0 := hc
            have hlo3 := hlo
            simp only [lagOk, Bool.and_eq_true, decide_eq_true_eq] at hlo3
            have k4 : ¬ n < 1 := by omega
            have k5 : ¬ r < 0 := by omega
            have sx := sm_of h2c.2.2.1
            have sy := sm_of h2c.2.2.2.1
            have HRL := Lib.hid (fun W (hB : Below w.heap.size w W) => refLag_any x y n r _ _ W (HV.out W hB) (HU.out W hB) sx sy ⟨hlo3.1, hn.2⟩ ⟨hlo3.2, hr.2⟩ (by omega) (by omega))
            rw [hc] at HWR
            cases hov : ovl x.length y.length n 0
            · have hle : lagErr x y n r = 5 := by unfold lagErr; rw [hlo, if_pos hc, if_neg (by rw [hov]; simp)]
              have hla : lagRes x y n r = .tuple #[.int .i64 0, .int .i64 0, .int .i64 5] := by unfold lagRes; rw [if_neg (by rw [hle]; decide), hle]
              rw [hla] at HLA
              have hrf : refLagV x y n r = -1 := by unfold refLagV; rw [if_neg (by rw [hov]; simp)]
              rw [hrf, hov] at HRL
              clear HMI h1 h2 hc hct h2c hxs hys hlo hle hla hov hrf sx sy hlo3
              by_cases k2 : (60 : Int) < n
              · have k3 : ¬ n ≤ 400 := fun h => k1 ⟨k2, h⟩
                go_enter Try.func5, Try.ntmps5
                go_wp2_with (first
                  | (go_at_call 17; with_reducible refine Calls.mono HSX.out ?_; rintro e w1 ⟨rfl, rfl⟩)
                  | (go_at_call 17; with_reducible refine Calls.mono HSY.out ?_; rintro e w1 ⟨rfl, rfl⟩)
                  | (go_at_call 33; with_reducible refine Calls.mono (HLA.out _ HB.out) ?_; rintro e w1 ⟨rfl, hb⟩; have HB1 := Lib.hid hb; clear hb)
                  | (go_at_call 28; with_reducible refine Calls.mono (HWR.out _ HB1.out) ?_; rintro e w3 ⟨rfl, rfl⟩)
                  | (go_at_call 34; with_reducible refine Calls.mono (HRL.out _ HB1.out) ?_; rintro e w4 ⟨rfl, hb⟩; have HB4 := Lib.hid (bThen HB1.out hb); clear hb)
                  | (go_at_call 18; with_reducible refine Calls.mono (HK.out _) ?_; rintro e wk ⟨rfl, hb⟩; have HB3 := Lib.hid (by first | exact bThen HB4.out hb | exact bThen HB1.out hb | exact hb); clear hb))
                all_goals first
                  | (exfalso; omega)
                  | (go_ret; exact ⟨rfl, HB3.out⟩)
              · go_enter Try.func5, Try.ntmps5
                go_wp2_with (first
                  | (go_at_call 17; with_reducible refine Calls.mono HSX.out ?_; rintro e w1 ⟨rfl, rfl⟩)
                  | (go_at_call 17; with_reducible refine Calls.mono HSY.out ?_; rintro e w1 ⟨rfl, rfl⟩)
                  | (go_at_call 33; with_reducible refine Calls.mono (HLA.out _ HB.out) ?_; rintro e w1 ⟨rfl, hb⟩; have HB1 := Lib.hid hb; clear hb)
                  | (go_at_call 28; with_reducible refine Calls.mono (HWR.out _ HB1.out) ?_; rintro e w3 ⟨rfl, rfl⟩)
                  | (go_at_call 34; with_reducible refine Calls.mono (HRL.out _ HB1.out) ?_; rintro e w4 ⟨rfl, hb⟩; have HB4 := Lib.hid (bThen HB1.out hb); clear hb)
                  | (go_at_call 18; with_reducible refine Calls.mono (HK.out _) ?_; rintro e wk ⟨rfl, hb⟩; have HB3 := Lib.hid (by first | exact bThen HB4.out hb | exact bThen HB1.out hb | exact hb); clear hb))
                all_goals first
                  | (exfalso; omega)
                  | (go_ret; exact ⟨rfl, HB3.out⟩)
            · have hle : lagErr x y n r = 0 := by unfold lagErr; rw [hlo, if_pos hc, if_pos hov]
              have hla : lagRes x y n r = .tuple #[.int .i64 (lagv x y n.toNat r : Nat), .int .i64 (misv x y n.toNat (lagv x y n.toNat r)), .int .i64 0] := by unfold lagRes; rw [if_pos hle]
              rw [hla] at HLA
              have hrf : refLagV x y n r = (lagv x y n.toNat r : Nat) := by unfold refLagV; rw [if_pos hov]
              rw [hrf, hov] at HRL
              have hog := ovl_nat hov
              obtain ⟨n, z, rfl, hz, q1, q2, q3⟩ := hog
              rw [Int.toNat_natCast] at HLA HRL
              have hlg : lagv x y n r + n ≤ y.length := by
                have := ag_le (misv x y n) (min r ((y.length : Int) - n)).toNat
                unfold lagv
                omega
              have HRM := Lib.hid (fun W (hB : Below w.heap.size w W) => refMis_any x y n (lagv x y n r) _ _ W (HV.out W hB) (HU.out W hB) sx sy q2 hlg (by omega) (by omega))
              have hall : ∀ (i : Nat), (i : Int) ≤ r → i ≤ y.length → ∃ mv ev, (∀ W, Below w.heap.size w W → Calls Try.prog 26 #[.slice a x.length c, .slice b y.length d, .int .i64 (n : Int), .int .i64 (i : Int)] W fun e w' => e = .returned (.tuple #[.int .i64 mv, .int .i64 ev]) ∧ Below W.heap.size W w') ∧ (ev = 0 → ¬ mv < misv x y n (lagv x y n r)) := fun i hi1 hi2 => by
                refine ⟨_, _, fun W hB => HMI.out i (by omega) W hB, fun he => ?_⟩
                rw [if_pos he, Int.toNat_natCast, Int.toNat_natCast]
                have hoi := (chk2_ok he).2.2.2.2
                obtain ⟨n2, i2, e1, e2, p1, p2, p3⟩ := ovl_nat hoi
                have := ag_min (misv x y n) (min r ((y.length : Int) - n)).toNat i (by omega)
                unfold lagv
                omega
              have HALL := Lib.hid hall
              obtain ⟨L, hL⟩ : ∃ L, L = lagv x y n r := ⟨_, rfl⟩
              rw [← hL] at HLA HRL HRM HALL
              obtain ⟨mi, hmi⟩ : ∃ mi, mi = misv x y n L := ⟨_, rfl⟩
              rw [← hmi] at HLA HRM HALL
              obtain ⟨M, hM⟩ : ∃ M : Nat, M = min r.toNat y.length := ⟨_, rfl⟩
              have HMM := Lib.hid hM
              have k2 : ¬ (60 : Int) < n := by omega
              clear hall hL hmi HMI h1 h2 hc hct h2c hxs hlo hle hla hov hrf sx sy hlg hz hM q1 q2 q3
              go_enter Try.func5, Try.ntmps5
              go_wp2_with (first
                | (go_at_call 17; with_reducible refine Calls.mono HSX.out ?_; rintro e w1 ⟨rfl, rfl⟩)
                | (go_at_call 17; with_reducible refine Calls.mono HSY.out ?_; rintro e w1 ⟨rfl, rfl⟩)
                | (go_at_call 33; with_reducible refine Calls.mono (HLA.out _ HB.out) ?_; rintro e w1 ⟨rfl, hb⟩; have HB1 := Lib.hid hb; clear hb)
                | (go_at_call 28; with_reducible refine Calls.mono (HWR.out _ HB1.out) ?_; rintro e w3 ⟨rfl, rfl⟩)
                | (go_at_call 34; with_reducible refine Calls.mono (HRL.out _ HB1.out) ?_; rintro e w4 ⟨rfl, hb⟩; have HB4 := Lib.hid (bThen HB1.out hb); clear hb)
                | (go_at_call 30; with_reducible refine Calls.mono (HRM.out _ HB4.out) ?_; rintro e w5 ⟨rfl, hb⟩; have HB5 := Lib.hid (bThen HB4.out hb); clear hb))
              all_goals first
                | (exfalso; omega)
                | skip
              go_loopw [16] (fun i wr => ∃ k : Nat, k ≤ M + 1 ∧ i = .int .i64 k ∧ Hid (Below w.heap.size w wr)) (fun i _ => M + 1 - (intOf i).toNat)
              case atStart => exact ⟨0, Nat.zero_le _, rfl, HB5⟩
              case round =>
                obtain ⟨k, hk, rfl, HBR⟩ := hrel
                have hMM := HMM.out
                by_cases m1 : (k : Int) ≤ r
                · by_cases m2 : k ≤ y.length
                  · obtain ⟨mv, ev, hmc, hme⟩ := HALL.out k m1 m2
                    have HMC := Lib.hid hmc
                    clear hmc
                    by_cases m3 : ev = 0
                    · subst m3
                      have m4 : ¬ mv < mi := by have := hme rfl; omega
                      clear hme hMM
                      go_wp2_with (go_at_call 26; with_reducible refine Calls.mono (HMC.out _ HBR.out) ?_; rintro e w6 ⟨rfl, hb⟩; have HB6 := Lib.hid (bThen HBR.out hb); clear hb)
                      go_roundw
                      case rel => exact ⟨k + 1, by have := HMM.out; omega, by go_num, HB6⟩
                      case measure => have := HMM.out; simp [intOf]; omega
                    · have m4 : (ev == 0) = false := beq_eq_false_iff_ne.2 m3
                      clear hme hMM m3
                      go_wp2_with (go_at_call 26; with_reducible refine Calls.mono (HMC.out _ HBR.out) ?_; rintro e w6 ⟨rfl, hb⟩; have HB6 := Lib.hid (bThen HBR.out hb); clear hb)
                      go_roundw
                      case rel => exact ⟨k + 1, by have := HMM.out; omega, by go_num, HB6⟩
                      case measure => have := HMM.out; simp [intOf]; omega
                  · have m3 : ¬ (k : Int) ≤ (y.length : Int) := by omega
                    clear hMM
                    go_wp2_with (go_at_call 18; with_reducible refine Calls.mono (HK.out _) ?_; rintro e wk ⟨rfl, hb⟩; have HB3 := Lib.hid (bThen HBR.out hb); clear hb)
                    go_ret
                    exact ⟨rfl, HB3.out⟩
                · clear hMM
                  go_wp2_with (go_at_call 18; with_reducible refine Calls.mono (HK.out _) ?_; rintro e wk ⟨rfl, hb⟩; have HB3 := Lib.hid (bThen HBR.out hb); clear hb)
                  go_ret
                  exact ⟨rfl, HB3.out⟩
        · have hca := chk_any hc (lagOk n r)
          have hle : lagErr x y n r = chk true [x, y] := by unfold lagErr; rw [hca, if_neg hc]
          have hla : lagRes x y n r = .tuple #[.int .i64 0, .int .i64 0, .int .i64 (chk true [x, y])] := by unfold lagRes; rw [if_neg (by rw [hle]; exact hc), hle]
          rw [hla] at HLA
          obtain ⟨er, her⟩ : ∃ er, er = chk true [x, y] := ⟨_, rfl⟩
          rw [← her] at HLA HWR hc
          have hb0 : (er == 0) = false := beq_eq_false_iff_ne.2 hc
          clear her hca hle hla hc h1 h2 HMI
          by_cases k2 : (60 : Int) < n
          · have k3 : ¬ n ≤ 400 := fun h => k1 ⟨k2, h⟩
            go_enter Try.func5, Try.ntmps5
            go_wp2_with (first
              | (go_at_call 17; with_reducible refine Calls.mono HSX.out ?_; rintro e w1 ⟨rfl, rfl⟩)
              | (go_at_call 17; with_reducible refine Calls.mono HSY.out ?_; rintro e w1 ⟨rfl, rfl⟩)
              | (go_at_call 33; with_reducible refine Calls.mono (HLA.out _ HB.out) ?_; rintro e w1 ⟨rfl, hb⟩; have HB1 := Lib.hid hb; clear hb)
              | (go_at_call 28; with_reducible refine Calls.mono (HWR.out _ HB1.out) ?_; rintro e w3 ⟨rfl, rfl⟩)
              | (go_at_call 34; with_reducible refine Calls.mono (HRL.out _ HB1.out) ?_; rintro e w4 ⟨rfl, hb⟩; have HB4 := Lib.hid (bThen HB1.out hb); clear hb)
              | (go_at_call 18; with_reducible refine Calls.mono (HK.out _) ?_; rintro e wk ⟨rfl, hb⟩; have HB3 := Lib.hid (by first | exact bThen HB4.out hb | exact bThen HB1.out hb | exact hb); clear hb))
            all_goals first
              | (exfalso; omega)
              | (go_ret; exact ⟨rfl, HB3.out⟩)
          · go_enter Try.func5, Try.ntmps5
            go_wp2_with (first
              | (go_at_call 17; with_reducible refine Calls.mono HSX.out ?_; rintro e w1 ⟨rfl, rfl⟩)
              | (go_at_call 17; with_reducible refine Calls.mono HSY.out ?_; rintro e w1 ⟨rfl, rfl⟩)
              | (go_at_call 33; with_reducible refine Calls.mono (HLA.out _ HB.out) ?_; rintro e w1 ⟨rfl, hb⟩; have HB1 := Lib.hid hb; clear hb)
              | (go_at_call 28; with_reducible refine Calls.mono (HWR.out _ HB1.out) ?_; rintro e w3 ⟨rfl, rfl⟩)
              | (go_at_call 34; with_reducible refine Calls.mono (HRL.out _ HB1.out) ?_; rintro e w4 ⟨rfl, hb⟩; have HB4 := Lib.hid (bThen HB1.out hb); clear hb)
              | (go_at_call 18; with_reducible refine Calls.mono (HK.out _) ?_; rintro e wk ⟨rfl, hb⟩; have HB3 := Lib.hid (by first | exact bThen HB4.out hb | exact bThen HB1.out hb | exact hb); clear hb))
            all_goals first
              | (exfalso; omega)
              | (go_ret; exact ⟨rfl, HB3.out⟩)
end Go.Proofs.Ytbeeddenidfenaa
