/- Frequencies grow, and double with an octave: by the kernel, number by number. -/
import Derived.Test.YtejcbcjhmnhefaaDoorC1
set_option linter.unusedSimpArgs false
set_option linter.unusedVariables false
namespace Go.Proofs.YtejcbcjhmnhefaaDoor
open Go.RowKit

theorem freq_grows_all : (List.range 12000).all (fun c => decide (freq c < freq (c + 1))) = true := by kernel_rfl
theorem freq_step {c : Nat} (h : c < 12000) : freq c < freq (c + 1) := by
  have := List.all_eq_true.1 freq_grows_all c (by simpa using h)
  simpa using this
theorem freq_octaves_all : (List.range 10801).all (fun c => decide (freq (c + 1200) - 2 * freq c ≤ 1) && decide (-1 ≤ freq (c + 1200) - 2 * freq c)) = true := by kernel_rfl
theorem freq_octave {c : Nat} (h : c ≤ 10800) : freq (c + 1200) - 2 * freq c ≤ 1 ∧ -1 ≤ freq (c + 1200) - 2 * freq c := by
  have := List.all_eq_true.1 freq_octaves_all c (by simp; omega)
  simpa using this
theorem freq_lt {i j : Nat} (h : i < j) (hj : j ≤ 12000) : freq i < freq j := by
  induction j with
  | zero => omega
  | succ j ih =>
    rcases Nat.lt_or_eq_of_le (Nat.le_of_lt_succ h) with h1 | rfl
    · have := ih h1 (by omega)
      have := freq_step (c := j) (by omega)
      omega
    · exact freq_step (by omega)
theorem freq_0 : freq 0 = 27500 := by kernel_rfl
theorem freq_in {c : Nat} (h : c ≤ 12000) : 27500 ≤ freq c ∧ freq c ≤ 30000000 := by
  have h0 := freq_0
  have h1 : freq 12000 ≤ 30000000 := by
    have : decide (freq 12000 ≤ 30000000) = true := by kernel_rfl
    simpa using this
  constructor
  · rcases Nat.eq_zero_or_pos c with rfl | hc
    · omega
    · have := freq_lt hc h; omega
  · rcases Nat.lt_or_eq_of_le h with hc | rfl
    · have := freq_lt hc (Nat.le_refl _); omega
    · exact h1
/-- How many cents, from 0 on, have no greater frequency. -/
def notAbove (limit : Int) : Nat := (List.range 12001).findIdx fun c => decide (limit < freq c)
theorem notAbove_eq {limit : Int} {n : Nat} (hn : n ≤ 12001) (h1 : ∀ m, m < n → freq m ≤ limit) (h2 : ∀ m, n ≤ m → m ≤ 12000 → limit < freq m) : notAbove limit = n := by
  unfold notAbove
  rcases Nat.lt_or_eq_of_le hn with h | h
  · rw [List.findIdx_eq (by simpa using h)]
    refine ⟨by simpa using h2 n (Nat.le_refl _) (by omega), fun j hj => by have := h1 j hj; simp; omega⟩
  · subst h
    have := List.findIdx_eq_length (xs := List.range 12001) (p := fun c => decide (limit < freq c))
    rw [List.length_range] at this
    rw [this]
    intro x hx
    have := h1 x (by simpa using hx); simp; omega
end Go.Proofs.YtejcbcjhmnhefaaDoor
