/- The law of frequencies. -/
import Derived.Test.YtejcbcjhmnhefaaDoorL1
set_option linter.unusedSimpArgs false
set_option linter.unusedVariables false
namespace Go.Proofs.YtejcbcjhmnhefaaDoor
open Go.RowKit

theorem notAbove_freq {c : Nat} (hc : c ≤ 12000) : notAbove (freq c) = c + 1 :=
  notAbove_eq (by omega) (fun m hm => by
    rcases Nat.lt_or_eq_of_le (show m ≤ c by omega) with h | rfl
    · exact Int.le_of_lt (freq_lt h hc)
    · exact Int.le_refl _) (fun m h1 h2 => freq_lt (by omega) h2)
theorem frequencyRes_ok {c : Nat} (hc : c ≤ 12000) : frequencyRes (c : Int) = .tuple #[.int .i64 (freq c), .int .i64 0] := by
  unfold frequencyRes
  rw [if_pos (by simp [betw]; omega), Int.toNat_natCast]
set_option maxRecDepth 100000 in
set_option maxHeartbeats 8000000 in
theorem lawFrequencies_any (c : Int) (w : World) (hS : Semi w) : Calls Tryd.prog 10 #[.int .i64 c] w fun e w' => e = .returned (.bool true) ∧ Below w.heap.size w w' := by
  have HS := Lib.hid hS
  have H15 : Hid (∀ W, Below w.heap.size w W → Calls Tryd.prog 15 #[] W fun e w' => e = .returned (.bool true) ∧ Below W.heap.size W w') := Lib.hid fun W hB => known_any W (HS.out.keep hB)
  have H34 : Hid (∀ c W, Below w.heap.size w W → Calls Tryd.prog 34 #[.int .i64 c] W fun e w' => e = .returned (frequencyRes c) ∧ Below W.heap.size W w') := Lib.hid fun c W hB => Frequency_any c W (HS.out.keep hB)
  have H36 : Hid (∀ f W, Below w.heap.size w W → Calls Tryd.prog 36 #[.int .i64 f] W fun e w' => e = .returned (centsRes f) ∧ Below W.heap.size W w') := Lib.hid fun f W hB => Cents_any f W (HS.out.keep hB)
  have H35 : Hid (∀ c : Nat, c ≤ 12000 → ∀ W, Below w.heap.size w W → Calls Tryd.prog 35 #[.int .i64 c] W fun e w' => e = .returned (.int .i64 (freq c)) ∧ Below W.heap.size W w') := Lib.hid fun c hc W hB => refFrequency_any c W hc (HS.out.keep hB)
  clear hS
  by_cases hin : 0 ≤ c ∧ c ≤ 12000
  · obtain ⟨n, rfl⟩ : ∃ n : Nat, c = (n : Int) := ⟨c.toNat, by omega⟩
    have hn : n ≤ 12000 := by omega
    have K0 := Lib.hid (frequencyRes_ok hn)
    have KC : Hid (centsRes (freq n) = .tuple #[.int .i64 (n : Int), .int .i64 0]) := Lib.hid (by
      unfold centsRes
      rw [notAbove_freq hn, if_neg (by omega), Nat.add_sub_cancel])
    have hfi := freq_in hn
    have HB0 := Lib.hid (Below.refl w.heap.size w)
    go_enter Tryd.func10, Tryd.ntmps10
    go_wp2_with fail
    refine (H34.out _ _ HB0.out).mono ?_
    rintro e w1 ⟨rfl, hb1⟩
    rw [K0.out]
    have HB1 := Lib.hid hb1
    clear hb1
    go_wp2_with fail
    refine (H35.out n hn _ HB1.out).mono ?_
    rintro e w2 ⟨rfl, hb1⟩
    have HB2 := Lib.hid (bThen HB1.out hb1)
    clear hb1
    by_cases h1 : n < 12000
    · have hs := freq_step h1
      have hd1 : decide (freq (n + 1) ≤ freq n) = false := decide_eq_false (by omega)
      have K1 := Lib.hid (frequencyRes_ok (show n + 1 ≤ 12000 by omega))
      rw [show ((n + 1 : Nat) : Int) = (n : Int) + 1 by omega] at K1
      by_cases h2 : n ≤ 10800
      · have ho := freq_octave h2
        have hf2 := freq_in (show n + 1200 ≤ 12000 by omega)
        have K2 := Lib.hid (frequencyRes_ok (show n + 1200 ≤ 12000 by omega))
        rw [show ((n + 1200 : Nat) : Int) = (n : Int) + 1200 by omega] at K2
        generalize freq (n + 1200) = f2 at *
        generalize freq (n + 1) = f1 at *
        generalize freq n = f0 at *
        have h3 : (n : Int) + 1200 ≤ 12000 := by omega
        have h4 : ¬ (f2 - 2 * f0 < -1) := by omega
        have h5 : ¬ (f2 - 2 * f0 > 1) := by omega
        go_wp2_with fail
        refine (H34.out _ _ HB2.out).mono ?_
        rintro e w3 ⟨rfl, hb1⟩
        rw [K1.out]
        have HB3 := Lib.hid (bThen HB2.out hb1)
        clear hb1
        go_wp2_with fail
        refine (H34.out _ _ HB3.out).mono ?_
        rintro e w4 ⟨rfl, hb1⟩
        rw [K2.out]
        have HB4 := Lib.hid (bThen HB3.out hb1)
        clear hb1
        go_wp2_with fail
        refine (H36.out _ _ HB4.out).mono ?_
        rintro e w5 ⟨rfl, hb1⟩
        rw [KC.out]
        have HB5 := Lib.hid (bThen HB4.out hb1)
        clear hb1
        go_wp2_with fail
        refine (H15.out _ HB5.out).mono ?_
        rintro e w6 ⟨rfl, hb1⟩
        have HB6 := Lib.hid (bThen HB5.out hb1)
        clear hb1
        go_wp2_with fail
        go_ret
        exact ⟨rfl, HB6.out⟩
      · generalize freq (n + 1) = f1 at *
        generalize freq n = f0 at *
        have h3 : ¬ ((n : Int) + 1200 ≤ 12000) := by omega
        go_wp2_with fail
        refine (H34.out _ _ HB2.out).mono ?_
        rintro e w3 ⟨rfl, hb1⟩
        rw [K1.out]
        have HB4 := Lib.hid (bThen HB2.out hb1)
        clear hb1
        go_wp2_with fail
        refine (H36.out _ _ HB4.out).mono ?_
        rintro e w5 ⟨rfl, hb1⟩
        rw [KC.out]
        have HB5 := Lib.hid (bThen HB4.out hb1)
        clear hb1
        go_wp2_with fail
        refine (H15.out _ HB5.out).mono ?_
        rintro e w6 ⟨rfl, hb1⟩
        have HB6 := Lib.hid (bThen HB5.out hb1)
        clear hb1
        go_wp2_with fail
        go_ret
        exact ⟨rfl, HB6.out⟩
    · generalize freq n = f0 at *
      have h3 : ¬ ((n : Int) + 1200 ≤ 12000) := by omega
      go_wp2_with fail
      refine (H36.out _ _ HB2.out).mono ?_
      rintro e w5 ⟨rfl, hb1⟩
      rw [KC.out]
      have HB5 := Lib.hid (bThen HB2.out hb1)
      clear hb1
      go_wp2_with fail
      refine (H15.out _ HB5.out).mono ?_
      rintro e w6 ⟨rfl, hb1⟩
      have HB6 := Lib.hid (bThen HB5.out hb1)
      clear hb1
      go_wp2_with fail
      go_ret
      exact ⟨rfl, HB6.out⟩
  · have hr : frequencyRes c = .tuple #[.int .i64 0, .int .i64 2] := by
      unfold frequencyRes
      rw [if_neg]
      simp [betw]; omega
    have K0 := Lib.hid hr
    have HB0 := Lib.hid (Below.refl w.heap.size w)
    clear hr
    by_cases hneg : c < 0
    · have hd1 : decide (c < 0) = true := decide_eq_true hneg
      go_enter Tryd.func10, Tryd.ntmps10
      go_wp2_with fail
      refine (H34.out _ _ HB0.out).mono ?_
      rintro e w1 ⟨rfl, hb1⟩
      rw [K0.out]
      have HB1 := Lib.hid hb1
      clear hb1
      go_wp2_with fail
      refine (H15.out _ HB1.out).mono ?_
      rintro e w6 ⟨rfl, hb1⟩
      have HB6 := Lib.hid (bThen HB1.out hb1)
      clear hb1
      go_wp2_with fail
      go_ret
      exact ⟨rfl, HB6.out⟩
    · have hd1 : decide (c < 0) = false := decide_eq_false hneg
      have hgt : c > 12000 := by omega
      have hd2 : decide (c > 12000) = true := decide_eq_true hgt
      go_enter Tryd.func10, Tryd.ntmps10
      go_wp2_with fail
      refine (H34.out _ _ HB0.out).mono ?_
      rintro e w1 ⟨rfl, hb1⟩
      rw [K0.out]
      have HB1 := Lib.hid hb1
      clear hb1
      go_wp2_with fail
      refine (H15.out _ HB1.out).mono ?_
      rintro e w6 ⟨rfl, hb1⟩
      have HB6 := Lib.hid (bThen HB1.out hb1)
      clear hb1
      go_wp2_with fail
      go_ret
      exact ⟨rfl, HB6.out⟩
end Go.Proofs.YtejcbcjhmnhefaaDoor
