/- Contracts: the specification's division and frequencies; the search for cents. -/
import Derived.Test.YtejcbcjhmnhefaaDoorC1
set_option linter.unusedSimpArgs false
set_option linter.unusedVariables false
namespace Go.Proofs.YtejcbcjhmnhefaaDoor
open Go.RowKit

theorem rnd_pos {a b : Int} (h0 : 0 ≤ a) (hb : 0 < b) : rnd a b = a / b + if 2 * (a - a / b * b) ≥ b then 1 else 0 := by
  unfold rnd
  rw [if_neg (by omega)]
  have h1 := Int.mul_ediv_add_emod a b
  have h2 := Int.emod_nonneg a (show b ≠ 0 by omega)
  have h3 := Int.emod_lt_of_pos a hb
  generalize a / b = q at *
  generalize a % b = r at *
  have e : 2 * a + b = (2 * r + b) + (2 * b) * q := by rw [← h1]; rw [Int.mul_add, Int.mul_assoc 2 b q]; omega
  rw [e, Int.add_mul_ediv_left _ _ (by omega)]
  have e2 : a - q * b = r := by rw [← h1, Int.mul_comm b q]; omega
  rw [e2]
  split
  · have : (2 * r + b) / (2 * b) = 1 := by
      rw [show 2 * r + b = (2 * r - b) + (2 * b) * 1 by omega, Int.add_mul_ediv_left _ _ (by omega), Int.ediv_eq_zero_of_lt (by omega) (by omega)]
      rfl
    omega
  · have : (2 * r + b) / (2 * b) = 0 := Int.ediv_eq_zero_of_lt (by omega) (by omega)
    omega

set_option maxHeartbeats 1000000 in
theorem divide_pos (a b : Int) (w : World) (h0 : 0 ≤ a) (h1 : a ≤ 2000000000000000000) (h2 : 0 < b) (h3 : b ≤ 2000000000000000000) :
    Calls Tryd.prog 50 #[.int .i64 a, .int .i64 b] w fun e w' => e = .returned (.int .i64 (rnd a b)) ∧ w = w' := by
  have hr := rnd_pos h0 h2
  have k1 := Int.mul_ediv_add_emod a b
  have k2 := Int.emod_nonneg a (show b ≠ 0 by omega)
  have k3 := Int.emod_lt_of_pos a h2
  have k4 := Int.ediv_le_self b h0
  have k5 := Int.ediv_nonneg h0 (Int.le_of_lt h2)
  rw [Int.mul_comm] at k1
  have h4 : ¬ a < 0 := by omega
  have h5 : ¬ b = 0 := by omega
  have h6 : (b == 0) = false := by simp; omega
  have hd : a.tdiv b = a / b := Int.tdiv_eq_ediv_of_nonneg h0
  generalize hq : a / b = q at *
  have q1 : IntKind.i64.wrap (q * b) = q * b := IntWalk.i64_in _ (by omega)
  have q2 : IntKind.i64.wrap (a - q * b) = a - q * b := IntWalk.i64_in _ (by omega)
  have q3 : IntKind.i64.wrap (2 * (a - q * b)) = 2 * (a - q * b) := IntWalk.i64_in _ (by omega)
  by_cases hc : 2 * (a - q * b) ≥ b
  · rw [if_pos hc] at hr
    rw [hr]
    go_enter Tryd.func50, Tryd.ntmps50
    go_wp2_with fail
    go_ret
    exact ⟨rfl, rfl⟩
  · rw [if_neg hc] at hr
    rw [hr]
    go_enter Tryd.func50, Tryd.ntmps50
    go_wp2_with fail
    go_ret
    exact ⟨by simp, rfl⟩
set_option maxHeartbeats 400000 in
theorem divide_any (a b : Int) (w : World) (h0 : -2000000000000000000 ≤ a) (h1 : a ≤ 2000000000000000000) (h2 : 0 < b) (h3 : b ≤ 2000000000000000000) :
    Calls Tryd.prog 50 #[.int .i64 a, .int .i64 b] w fun e w' => e = .returned (.int .i64 (rnd a b)) ∧ w = w' := by
  by_cases h4 : a < 0
  · have h7 : rnd a b = - rnd (-a) b := by unfold rnd; rw [if_pos h4, if_neg (by omega)]
    have h8 : 0 ≤ rnd (-a) b ∧ rnd (-a) b ≤ 6000000000000000000 := by
      unfold rnd; rw [if_neg (by omega)]
      refine ⟨Int.ediv_nonneg (by omega) (by omega), ?_⟩
      have := Int.ediv_le_self (2 * b) (show 0 ≤ 2 * -a + b by omega)
      omega
    have hc := fun w => divide_pos (-a) b w (by omega) (by omega) h2 h3
    rw [h7]
    generalize rnd (-a) b = r at *
    go_enter Tryd.func50, Tryd.ntmps50
    go_wp2_with (go_at_call 50; refine (hc _).mono ?_; rintro e w' ⟨rfl, rfl⟩)
    go_ret
    exact ⟨rfl, rfl⟩
  · exact divide_pos a b w (by omega) h1 h2 h3
set_option maxHeartbeats 400000 in
theorem in_any (n a b : Int) (w : World) :
    Calls Tryd.prog 49 #[.int .i64 n, .int .i64 a, .int .i64 b] w fun e w' => e = .returned (.bool (betw n a b)) ∧ w = w' := by
  by_cases h : a ≤ n
  · go_enter Tryd.func49, Tryd.ntmps49
    go_wp2
    go_ret
    exact ⟨by simp [betw, h], rfl⟩
  · go_enter Tryd.func49, Tryd.ntmps49
    go_wp2
    go_ret
    exact ⟨by simp [betw]; omega, rfl⟩
end Go.Proofs.YtejcbcjhmnhefaaDoor
