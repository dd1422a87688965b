/- The small functions of integers. -/
import Derived.Test.YtbeeddenidfenaaProg
import Derived.Test.YtbeeddenidfenaaA0
import Derived.Test.YtbeeddenidfenaaT0
set_option linter.unusedSimpArgs false
set_option linter.unusedVariables false
namespace Go.Proofs.Ytbeeddenidfenaa
open Go.RowKit

def betw (n a b : Int) : Bool := decide (a ≤ n) && decide (n ≤ b)
/-- To divide with rounding. -/
def rnd (a b : Int) : Int := if a < 0 then -((2 * -a + b) / (2 * b)) else (2 * a + b) / (2 * b)
/-- The nearest sample. -/
def clp (n : Int) : Int := if n < -32768 then -32768 else if 32767 < n then 32767 else n
theorem clp_in (n : Int) : -32768 ≤ clp n ∧ clp n ≤ 32767 := by unfold clp; split; omega; split <;> omega

set_option maxHeartbeats 400000 in
theorem between_any (n a b : Int) (w : World) :
    Calls Try.prog 75 #[.int .i64 n, .int .i64 a, .int .i64 b] w fun e w' => e = .returned (.bool (betw n a b)) ∧ w = w' := by
  by_cases h : a ≤ n
  · go_enter Try.func75, Try.ntmps75
    go_wp2
    go_ret
    exact ⟨by simp [betw, h], rfl⟩
  · go_enter Try.func75, Try.ntmps75
    go_wp2
    go_ret
    exact ⟨by simp [betw]; omega, rfl⟩
set_option maxHeartbeats 400000 in
theorem in_any (n a b : Int) (w : World) :
    Calls Try.prog 58 #[.int .i64 n, .int .i64 a, .int .i64 b] w fun e w' => e = .returned (.bool (betw n a b)) ∧ w = w' := by
  by_cases h : a ≤ n
  · go_enter Try.func58, Try.ntmps58
    go_wp2
    go_ret
    exact ⟨by simp [betw, h], rfl⟩
  · go_enter Try.func58, Try.ntmps58
    go_wp2
    go_ret
    exact ⟨by simp [betw]; omega, rfl⟩

theorem rnd_pos {a b : Int} (h : 0 ≤ a) : rnd a b = (2 * a + b) / (2 * b) := if_neg (by omega)
theorem rnd_neg {a b : Int} (h : a < 0) : rnd a b = - rnd (-a) b := by unfold rnd; rw [if_pos h, if_neg (by omega)]
theorem rnd_in {a b : Int} (h0 : 0 ≤ a) (h2 : 0 < b) : 0 ≤ rnd a b ∧ rnd a b ≤ 2 * a + b := by
  rw [rnd_pos h0]
  exact ⟨Int.ediv_nonneg (by omega) (by omega), Int.ediv_le_self (2 * b) (show 0 ≤ 2 * a + b by omega)⟩
set_option maxHeartbeats 400000 in
theorem rounded_pos (a b : Int) (w : World) (h0 : 0 ≤ a) (h1 : a ≤ 2000000000000000000) (h2 : 0 < b) (h3 : b ≤ 2000000000000000000) :
    Calls Try.prog 88 #[.int .i64 a, .int .i64 b] w fun e w' => e = .returned (.int .i64 (rnd a b)) ∧ w = w' := by
  have h4 : ¬ a < 0 := by omega
  have h5 : ¬ 2 * b = 0 := by omega
  have h6 : (2 * b == 0) = false := by simp; omega
  rw [rnd_pos h0]
  go_enter Try.func88, Try.ntmps88
  go_wp2
  go_ret
  exact ⟨rfl, rfl⟩
set_option maxHeartbeats 400000 in
theorem rounded_any (a b : Int) (w : World) (h0 : -2000000000000000000 ≤ a) (h1 : a ≤ 2000000000000000000) (h2 : 0 < b) (h3 : b ≤ 2000000000000000000) :
    Calls Try.prog 88 #[.int .i64 a, .int .i64 b] w fun e w' => e = .returned (.int .i64 (rnd a b)) ∧ w = w' := by
  by_cases h4 : a < 0
  · have h8 := rnd_in (a := -a) (b := b) (by omega) h2
    have hc := fun w => rounded_pos (-a) b w (by omega) (by omega) h2 h3
    rw [rnd_neg h4]
    generalize rnd (-a) b = r at *
    go_enter Try.func88, Try.ntmps88
    go_wp2_with (go_at_call 88; refine (hc _).mono ?_; rintro e w' ⟨rfl, rfl⟩)
    go_ret
    exact ⟨rfl, rfl⟩
  · exact rounded_pos a b w (by omega) h1 h2 h3
set_option maxHeartbeats 400000 in
theorem Round_pos (a b : Int) (w : World) (h0 : 0 ≤ a) (h1 : a ≤ 2000000000000000000) (h2 : 0 < b) (h3 : b ≤ 2000000000000000000) :
    Calls Try.prog 67 #[.int .i64 a, .int .i64 b] w fun e w' => e = .returned (.int .i64 (rnd a b)) ∧ w = w' := by
  have h4 : ¬ a < 0 := by omega
  have h5 : ¬ 2 * b = 0 := by omega
  have h6 : (2 * b == 0) = false := by simp; omega
  rw [rnd_pos h0]
  go_enter Try.func67, Try.ntmps67
  go_wp2
  go_ret
  exact ⟨rfl, rfl⟩
set_option maxHeartbeats 400000 in
theorem Round_any (a b : Int) (w : World) (h0 : -2000000000000000000 ≤ a) (h1 : a ≤ 2000000000000000000) (h2 : 0 < b) (h3 : b ≤ 2000000000000000000) :
    Calls Try.prog 67 #[.int .i64 a, .int .i64 b] w fun e w' => e = .returned (.int .i64 (rnd a b)) ∧ w = w' := by
  by_cases h4 : a < 0
  · have h8 := rnd_in (a := -a) (b := b) (by omega) h2
    have hc := fun w => Round_pos (-a) b w (by omega) (by omega) h2 h3
    rw [rnd_neg h4]
    generalize rnd (-a) b = r at *
    go_enter Try.func67, Try.ntmps67
    go_wp2_with (go_at_call 67; refine (hc _).mono ?_; rintro e w' ⟨rfl, rfl⟩)
    go_ret
    exact ⟨rfl, rfl⟩
  · exact Round_pos a b w (by omega) h1 h2 h3
set_option maxHeartbeats 800000 in
theorem clipped_any (n : Int) (w : World) : Calls Try.prog 95 #[.int .i64 n] w fun e w' => e = .returned (.int .i64 (clp n)) ∧ w = w' := by
  by_cases h1 : n < -32768
  · have h2 : clp n = -32768 := if_pos h1
    rw [h2]
    go_enter Try.func95, Try.ntmps95
    go_wp2
    go_ret
    exact ⟨by first | rfl | (simp; done) | (simp; omega), rfl⟩
  · by_cases h3 : 32767 < n
    · have h2 : clp n = 32767 := by unfold clp; rw [if_neg h1, if_pos h3]
      rw [h2]
      go_enter Try.func95, Try.ntmps95
      go_wp2
      go_ret
      exact ⟨by first | rfl | (simp; done) | (simp; omega), rfl⟩
    · have h2 : clp n = n := by unfold clp; rw [if_neg h1, if_neg h3]
      rw [h2]
      go_enter Try.func95, Try.ntmps95
      go_wp2
      go_ret
      exact ⟨by first | rfl | (simp; done) | (simp; omega), rfl⟩
set_option maxHeartbeats 800000 in
theorem clip_any (n : Int) (w : World) : Calls Try.prog 77 #[.int .i64 n] w fun e w' => e = .returned (.int .i64 (clp n)) ∧ w = w' := by
  by_cases h1 : n < -32768
  · have h2 : clp n = -32768 := if_pos h1
    rw [h2]
    go_enter Try.func77, Try.ntmps77
    go_wp2
    go_ret
    exact ⟨by first | rfl | (simp; done) | (simp; omega), rfl⟩
  · by_cases h3 : 32767 < n
    · have h2 : clp n = 32767 := by unfold clp; rw [if_neg h1, if_pos h3]
      rw [h2]
      go_enter Try.func77, Try.ntmps77
      go_wp2
      go_ret
      exact ⟨by first | rfl | (simp; done) | (simp; omega), rfl⟩
    · have h2 : clp n = n := by unfold clp; rw [if_neg h1, if_neg h3]
      rw [h2]
      by_cases h4 : n = 32767
      · subst h4
        go_enter Try.func77, Try.ntmps77
        go_wp2
        go_ret
        exact ⟨by first | rfl | (simp; done) | (simp; omega), rfl⟩
      · by_cases h5 : n = -32768
        · subst h5
          go_enter Try.func77, Try.ntmps77
          go_wp2
          go_ret
          exact ⟨by first | rfl | (simp; done) | (simp; omega), rfl⟩
        · have h6 : n < 32767 := by omega
          have h7 : -32768 < n := by omega
          go_enter Try.func77, Try.ntmps77
          go_wp2
          go_ret
          exact ⟨by first | rfl | (simp; done) | (simp; omega), rfl⟩
/-- The nearest integer, at least 1. -/
def nr (a b : Int) : Int := max 1 (rnd a b)
set_option maxHeartbeats 800000 in
theorem near_any (a b : Int) (w : World) (h0 : 0 ≤ a) (h1 : a ≤ 2000000000000000000) (h2 : 0 < b) (h3 : b ≤ 2000000000000000000) :
    Calls Try.prog 73 #[.int .i64 a, .int .i64 b] w fun e w' => e = .returned (.int .i64 (nr a b)) ∧ w = w' := by
  have h5 : ¬ 2 * b = 0 := by omega
  have h6 : (2 * b == 0) = false := by simp; omega
  unfold nr
  rw [rnd_pos h0]
  by_cases h : 1 < (2 * a + b) / (2 * b)
  · rw [show max 1 ((2 * a + b) / (2 * b)) = (2 * a + b) / (2 * b) by omega]
    go_enter Try.func73, Try.ntmps73
    go_wp2
    go_ret
    exact ⟨by first | rfl | (simp; done) | (simp; omega), rfl⟩
  · rw [show max 1 ((2 * a + b) / (2 * b)) = 1 by omega]
    go_enter Try.func73, Try.ntmps73
    go_wp2
    go_ret
    exact ⟨by first | rfl | (simp; done) | (simp; omega), rfl⟩
end Go.Proofs.Ytbeeddenidfenaa
