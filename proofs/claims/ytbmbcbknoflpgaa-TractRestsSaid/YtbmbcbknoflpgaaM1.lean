/- Maths: scattering keeps the energy; rounding toward zero makes it smaller. -/
import Derived.Test.YtbmbcbknoflpgaaA4
set_option linter.unusedSimpArgs false
set_option linter.unusedVariables false
namespace Go.Proofs.Ytbmbcbknoflpgaa
open Go.RowKit

/-- A sum of the first k numbers. -/
def sm (g : Nat → Int) : Nat → Int
  | 0 => 0
  | k + 1 => sm g k + g k
theorem sm_congr {g h : Nat → Int} {n : Nat} (e : ∀ j, j < n → g j = h j) : sm g n = sm h n := by
  induction n with
  | zero => rfl
  | succ n ih => unfold sm; rw [ih (fun j hj => e j (by omega)), e n (by omega)]
theorem sm_le {g h : Nat → Int} {n : Nat} (e : ∀ j, j < n → g j ≤ h j) : sm g n ≤ sm h n := by
  induction n with
  | zero => unfold sm; omega
  | succ n ih =>
    unfold sm
    have := ih (fun j hj => e j (by omega))
    have := e n (by omega)
    omega
theorem sm_mul (c : Int) (g : Nat → Int) (n : Nat) : sm (fun j => c * g j) n = c * sm g n := by
  induction n with
  | zero => simp [sm]
  | succ n ih => simp only [sm, ih, Int.mul_add]
theorem sm_add (g h : Nat → Int) (n : Nat) : sm (fun j => g j + h j) n = sm g n + sm h n := by
  induction n with
  | zero => simp [sm]
  | succ n ih => simp only [sm, ih]; omega
theorem sm_nonneg {g : Nat → Int} {n : Nat} (e : ∀ j, j < n → 0 ≤ g j) : 0 ≤ sm g n := by
  induction n with
  | zero => unfold sm; omega
  | succ n ih =>
    unfold sm
    have := ih (fun j hj => e j (by omega))
    have := e n (by omega)
    omega
theorem sm_sq (A F : Nat → Int) (t s : Int) (k : Nat) : sm (fun j => A j * ((t - s * F j) * (t - s * F j))) k = t * t * sm A k - t * s * sm (fun j => 2 * A j * F j) k + s * s * sm (fun j => A j * (F j * F j)) k := by
  induction k with
  | zero => simp [sm]
  | succ k ih => simp only [sm, ih]; grind
theorem sm_arS (A : Nat → Int) (k : Nat) : arS A k = sm A k := by
  induction k with
  | zero => rfl
  | succ k ih => unfold arS sm; rw [ih]
theorem sq_nonneg (x : Int) : 0 ≤ x * x := by
  rcases Int.le_total 0 x with h | h
  · exact Int.mul_nonneg h h
  · exact Int.mul_nonneg_of_nonpos_of_nonpos h h
/-- A quotient toward zero, times the divisor, is not farther from zero. -/
theorem tdiv_sq (u s : Int) (hs : 1 ≤ s) : s * s * (u.tdiv s * u.tdiv s) ≤ u * u := by
  have h1 := Int.mul_tdiv_add_tmod u s
  have aux : ∀ v : Int, 0 ≤ v → s * s * (v.tdiv s * v.tdiv s) ≤ v * v := by
    intro v hv
    rw [Int.tdiv_eq_ediv_of_nonneg hv]
    have h2 : s * (v / s) ≤ v := Int.mul_ediv_self_le (by omega)
    have h3 : 0 ≤ s * (v / s) := Int.mul_nonneg (by omega) (Int.ediv_nonneg hv (by omega))
    have h4 := Int.mul_le_mul h2 h2 h3 hv
    have h5 : s * s * (v / s * (v / s)) = s * (v / s) * (s * (v / s)) := by grind
    omega
  rcases Int.le_total 0 u with h | h
  · exact aux u h
  · have := aux (-u) (by omega)
    rw [Int.neg_tdiv] at this
    have e1 : -u.tdiv s * -u.tdiv s = u.tdiv s * u.tdiv s := by grind
    have e2 : -u * -u = u * u := by grind
    rw [e1, e2] at this
    exact this
/-- The waves that leave, exactly. -/
def sctX (A F : Nat → Int) (n i : Nat) : Int := (sm (fun j => 2 * A j * F j) n - sm A n * F i).tdiv (sm A n)
theorem sctX_energy (A F : Nat → Int) (n : Nat) (hs : 1 ≤ sm A n) (hA : ∀ j, j < n → 0 ≤ A j) : sm (fun j => A j * (sctX A F n j * sctX A F n j)) n ≤ sm (fun j => A j * (F j * F j)) n := by
  obtain ⟨s, hS⟩ : ∃ s, sm A n = s := ⟨_, rfl⟩
  obtain ⟨t, hT⟩ : ∃ t, sm (fun j => 2 * A j * F j) n = t := ⟨_, rfl⟩
  have h1 : sm (fun j => s * s * (A j * (sctX A F n j * sctX A F n j))) n ≤ sm (fun j => A j * ((t - s * F j) * (t - s * F j))) n := by
    refine sm_le fun j hj => ?_
    have h2 := tdiv_sq (t - s * F j) s (by omega)
    have h3 := Int.mul_le_mul_of_nonneg_left h2 (hA j hj)
    unfold sctX
    rw [hS, hT]
    have e : s * s * (A j * ((t - s * F j).tdiv s * (t - s * F j).tdiv s)) = A j * (s * s * ((t - s * F j).tdiv s * (t - s * F j).tdiv s)) := by grind
    rw [e]; exact h3
  rw [sm_sq A F t s n, hS, hT, sm_mul] at h1
  have e2 : t * t * s - t * s * t = 0 := by grind
  rw [e2, Int.zero_add] at h1
  rw [hS] at hs
  exact Int.le_of_mul_le_mul_left h1 (Int.mul_pos (by omega) (by omega))
end Go.Proofs.Ytbmbcbknoflpgaa
