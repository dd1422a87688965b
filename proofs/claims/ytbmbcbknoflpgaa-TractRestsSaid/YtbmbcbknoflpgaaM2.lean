/- Maths: scattering of bounded waves keeps the energy. -/
import Derived.Test.YtbmbcbknoflpgaaM1
set_option linter.unusedSimpArgs false
set_option linter.unusedVariables false
namespace Go.Proofs.Ytbmbcbknoflpgaa
open Go.RowKit

theorem sm_two {A F : Nat → Int} {n : Nat} {B : Int} (hA : ∀ j, j < n → 0 ≤ A j) (hF : ∀ j, j < n → -B ≤ F j ∧ F j ≤ B) : -(2 * B * sm A n) ≤ sm (fun j => 2 * A j * F j) n ∧ sm (fun j => 2 * A j * F j) n ≤ 2 * B * sm A n := by
  constructor
  · have h := sm_le (g := fun j => -(2 * B) * A j) (h := fun j => 2 * A j * F j) (n := n) fun j hj => by
      have h1 := Int.mul_le_mul_of_nonneg_left (hF j hj).1 (show 0 ≤ 2 * A j by have := hA j hj; omega)
      have e1 : 2 * A j * -B = -(2 * B) * A j := by grind
      rw [e1] at h1
      exact h1
    rw [sm_mul, Int.neg_mul] at h
    exact h
  · have h := sm_le (g := fun j => 2 * A j * F j) (h := fun j => 2 * B * A j) (n := n) fun j hj => by
      have h1 := Int.mul_le_mul_of_nonneg_left (hF j hj).2 (show 0 ≤ 2 * A j by have := hA j hj; omega)
      have e1 : 2 * A j * B = 2 * B * A j := by grind
      rw [e1] at h1
      exact h1
    rw [sm_mul] at h
    exact h
theorem sm_area {A : Nat → Int} {n : Nat} (hA : ∀ j, j < n → 1 ≤ A j ∧ A j ≤ 1000) (k : Nat) (hk : k ≤ n) : (k : Int) ≤ sm A k ∧ sm A k ≤ 1000 * (k : Int) := by
  rw [← sm_arS]
  exact arS_in hA k hk
theorem wv_sm {A F : Nat → Int} {n : Nat} (hn : n ≤ 10) (hA : ∀ j, j < n → 1 ≤ A j ∧ A j ≤ 1000) (hF : ∀ j, j < n → -1073741824 ≤ F j ∧ F j ≤ 1073741824) (k : Nat) (hk : k ≤ n) : wvS A F k = sm (fun j => 2 * A j * F j) k := by
  induction k with
  | zero => rfl
  | succ k ih =>
    have i1 := ih (by omega)
    have h1 := sm_two (A := A) (F := F) (n := k + 1) (B := 1073741824) (fun j hj => by have := hA j (by omega); omega) (fun j hj => hF j (by omega))
    have h0 := sm_two (A := A) (F := F) (n := k) (B := 1073741824) (fun j hj => by have := hA j (by omega); omega) (fun j hj => hF j (by omega))
    have h2 := sm_area hA (k + 1) hk
    have h3 := sm_area hA k (by omega)
    have e : sm (fun j => 2 * A j * F j) (k + 1) = sm (fun j => 2 * A j * F j) k + 2 * A k * F k := rfl
    unfold wvS
    rw [i1, e]
    rw [e] at h1
    generalize sm (fun j => 2 * A j * F j) k = t at *
    generalize 2 * A k * F k = u at *
    unfold wrap64
    omega
theorem tdiv_inS {x s c : Int} (hs : 1 ≤ s) (h1 : -(c * s) ≤ x) (h2 : x ≤ c * s) : -c ≤ x.tdiv s ∧ x.tdiv s ≤ c := by
  have aux : ∀ y : Int, 0 ≤ y → y ≤ c * s → 0 ≤ y.tdiv s ∧ y.tdiv s ≤ c := by
    intro y hy hc
    rw [Int.tdiv_eq_ediv_of_nonneg hy]
    exact ⟨Int.ediv_nonneg hy (by omega), Int.ediv_le_of_le_mul (by omega) hc⟩
  rcases Int.le_total 0 x with h | h
  · have := aux x h h2
    omega
  · have := aux (-x) (by omega) (by omega)
    rw [Int.neg_tdiv] at this
    omega
theorem sct_exact {A F : Nat → Int} {n : Nat} (hn0 : 1 ≤ n) (hn : n ≤ 10) (hA : ∀ j, j < n → 1 ≤ A j ∧ A j ≤ 1000) (hF : ∀ j, j < n → -1073741824 ≤ F j ∧ F j ≤ 1073741824) (i : Nat) (hi : i < n) :
    sct A F n i = sctX A F n i ∧ -4294967296 ≤ sct A F n i ∧ sct A F n i ≤ 4294967296 := by
  have h1 := sm_two (A := A) (F := F) (n := n) (B := 1073741824) (fun j hj => by have := hA j hj; omega) hF
  have h2 := sm_area hA n (Nat.le_refl _)
  have h3 := hF i hi
  have hs : 0 ≤ sm A n := by omega
  have h4 := Int.mul_le_mul_of_nonneg_left h3.1 hs
  have h5 := Int.mul_le_mul_of_nonneg_left h3.2 hs
  have e : sct A F n i = sctX A F n i := by
    unfold sct sctX
    rw [wv_sm hn hA hF n (Nat.le_refl _), sm_arS]
    generalize sm (fun j => 2 * A j * F j) n = t at *
    generalize sm A n = s at *
    generalize s * F i = u at *
    have e1 : wrap64 u = u := by unfold wrap64; omega
    have e2 : wrap64 (t - u) = t - u := by unfold wrap64; omega
    rw [e1, e2]
  refine ⟨e, ?_⟩
  rw [e]
  unfold sctX
  generalize sm (fun j => 2 * A j * F j) n = t at *
  generalize sm A n = s at *
  generalize s * F i = u at *
  have := tdiv_inS (x := t - u) (s := s) (c := 4294967296) (by omega) (by omega) (by omega)
  exact this
/-- The energy of a junction. -/
def enS (A F : Nat → Int) (k : Nat) : Int := sm (fun j => A j * (F j * F j)) k
theorem sct_energy {A F : Nat → Int} {n : Nat} (hn0 : 1 ≤ n) (hn : n ≤ 10) (hA : ∀ j, j < n → 1 ≤ A j ∧ A j ≤ 1000) (hF : ∀ j, j < n → -1073741824 ≤ F j ∧ F j ≤ 1073741824) : enS A (sct A F n) n ≤ enS A F n := by
  have h := sctX_energy A F n (by have := sm_area hA n (Nat.le_refl _); omega) (fun j hj => by have := hA j hj; omega)
  unfold enS
  rw [sm_congr (g := fun j => A j * (sct A F n j * sct A F n j)) (h := fun j => A j * (sctX A F n j * sctX A F n j)) fun j hj => by rw [(sct_exact hn0 hn hA hF j hj).1]]
  exact h
theorem sctX_neg (A F : Nat → Int) (n i : Nat) : sctX A (fun j => -F j) n i = -sctX A F n i := by
  unfold sctX
  have e : sm (fun j => 2 * A j * -F j) n = -sm (fun j => 2 * A j * F j) n := by
    have h := sm_mul (-1) (fun j => 2 * A j * F j) n
    rw [show -sm (fun j => 2 * A j * F j) n = -1 * sm (fun j => 2 * A j * F j) n by omega, ← h]
    exact sm_congr fun j _ => by rw [Int.mul_neg]; omega
  rw [e, ← Int.neg_tdiv, Int.mul_neg]
  congr 1
  omega
theorem sct_neg {A F : Nat → Int} {n : Nat} (hn0 : 1 ≤ n) (hn : n ≤ 10) (hA : ∀ j, j < n → 1 ≤ A j ∧ A j ≤ 1000) (hF : ∀ j, j < n → -1073741824 ≤ F j ∧ F j ≤ 1073741824) (i : Nat) (hi : i < n) : sct A (fun j => -F j) n i = -sct A F n i := by
  rw [(sct_exact hn0 hn hA hF i hi).1, (sct_exact hn0 hn hA (F := fun j => -F j) (fun j hj => by have := hF j hj; omega) i hi).1, sctX_neg]
end Go.Proofs.Ytbmbcbknoflpgaa
