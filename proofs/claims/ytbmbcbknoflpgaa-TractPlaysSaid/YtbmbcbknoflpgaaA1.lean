/- The small functions of integers. -/
import Derived.Test.YtbmbcbknoflpgaaProg
import Derived.Test.YtbmbcbknoflpgaaA0
import Derived.Test.YtbmbcbknoflpgaaT0
set_option linter.unusedSimpArgs false
set_option linter.unusedVariables false
namespace Go.Proofs.Ytbmbcbknoflpgaa
open Go.RowKit

def betw (n a b : Int) : Bool := decide (a ≤ n) && decide (n ≤ b)
theorem betw_iff {n a b : Int} : betw n a b = true ↔ a ≤ n ∧ n ≤ b := by simp [betw]
set_option maxHeartbeats 400000 in
theorem between_any (n a b : Int) (w : World) :
    Calls Try.prog 71 #[.int .i64 n, .int .i64 a, .int .i64 b] w fun e w' => e = .returned (.bool (betw n a b)) ∧ w = w' := by
  by_cases h : a ≤ n
  · go_enter Try.func71, Try.ntmps71
    go_wp2
    go_ret
    exact ⟨by simp [betw, h], rfl⟩
  · go_enter Try.func71, Try.ntmps71
    go_wp2
    go_ret
    exact ⟨by simp [betw]; omega, rfl⟩
set_option maxHeartbeats 400000 in
theorem argument_any (b : Bool) (w : World) : Calls Try.prog 53 #[.bool b] w fun e w' => e = .returned (.int .i64 (if b = true then 0 else 2)) ∧ w = w' := by
  cases b
  · go_enter Try.func53, Try.ntmps53
    go_wp2
    go_ret
    exact ⟨rfl, rfl⟩
  · go_enter Try.func53, Try.ntmps53
    go_wp2
    go_ret
    exact ⟨rfl, rfl⟩
def arOk (n : Int) : Bool := betw n 1 1000
def wvOk (n : Int) : Bool := betw n (-1073741824) 1073741824
set_option maxHeartbeats 400000 in
theorem areaWrong_any (n : Int) (w : World) : Calls Try.prog 86 #[.int .i64 n] w fun e w' => e = .returned (.bool (!arOk n)) ∧ w = w' := by
  go_enter Try.func86, Try.ntmps86
  go_wp2_with (go_at_call 71; refine (between_any _ _ _ _).mono ?_; rintro e w' ⟨rfl, rfl⟩)
  go_ret
  exact ⟨rfl, rfl⟩
set_option maxHeartbeats 400000 in
theorem meeting1_any (n : Int) (w : World) : Calls Try.prog 87 #[.int .i64 n] w fun e w' => e = .returned (.bool (!wvOk n)) ∧ w = w' := by
  go_enter Try.func87, Try.ntmps87
  go_wp2_with (go_at_call 71; refine (between_any _ _ _ _).mono ?_; rintro e w' ⟨rfl, rfl⟩)
  go_ret
  exact ⟨rfl, rfl⟩
set_option maxHeartbeats 400000 in
theorem toward_any (a b : Int) (w : World) (ha : -9000000000000000000 ≤ a ∧ a ≤ 9000000000000000000) (hb : 1 ≤ b) (hb2 : b ≤ 9000000000000000000) : Calls Try.prog 59 #[.int .i64 a, .int .i64 b] w fun e w' => e = .returned (.int .i64 (a.tdiv b)) ∧ w = w' := by
  have h1 : ¬ b = 0 := by omega
  have h2 : (b == 0) = false := by simp; omega
  have h4 : -9000000000000000000 ≤ a.tdiv b ∧ a.tdiv b ≤ 9000000000000000000 := by
    rcases Int.le_total 0 a with h | h
    · have h5 := Int.tdiv_eq_ediv_of_nonneg (b := b) h
      have h6 := Int.ediv_le_self b h
      have h7 := Int.ediv_nonneg h (show 0 ≤ b by omega)
      omega
    · have h5 : a.tdiv b = -((-a).tdiv b) := by rw [Int.neg_tdiv, Int.neg_neg]
      have h8 := Int.tdiv_eq_ediv_of_nonneg (a := -a) (b := b) (by omega)
      have h6 := Int.ediv_le_self b (show 0 ≤ -a by omega)
      have h7 := Int.ediv_nonneg (show 0 ≤ -a by omega) (show 0 ≤ b by omega)
      omega
  have h3 : IntKind.i64.wrap (a.tdiv b) = a.tdiv b := IntWalk.i64_in _ (by omega)
  go_enter Try.func59, Try.ntmps59
  go_wp2
  go_ret
  exact ⟨rfl, rfl⟩
/-- To follow a goal. -/
def flw (x g s : Int) : Int := x + (if (s * (g - x)).tdiv 1000 = 0 then (if 0 < g - x then 1 else if g - x < 0 then -1 else 0) else (s * (g - x)).tdiv 1000)
theorem tdiv_in {a b : Int} (hb : 1 ≤ b) (B : Int) (h : -B ≤ a ∧ a ≤ B) : -B ≤ a.tdiv b ∧ a.tdiv b ≤ B := by
  rcases Int.le_total 0 a with h0 | h0
  · have h5 := Int.tdiv_eq_ediv_of_nonneg (b := b) h0
    have h6 := Int.ediv_le_self b h0
    have h7 := Int.ediv_nonneg h0 (show 0 ≤ b by omega)
    omega
  · have h5 : a.tdiv b = -((-a).tdiv b) := by rw [Int.neg_tdiv, Int.neg_neg]
    have h8 := Int.tdiv_eq_ediv_of_nonneg (a := -a) (b := b) (by omega)
    have h6 := Int.ediv_le_self b (show 0 ≤ -a by omega)
    have h7 := Int.ediv_nonneg (show 0 ≤ -a by omega) (show 0 ≤ b by omega)
    omega
end Go.Proofs.Ytbmbcbknoflpgaa
