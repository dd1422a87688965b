/- The maths of twins and of what is read alone. -/
import Derived.Test.YtfcopnlpcbbocaaR29
set_option linter.unusedSimpArgs false
set_option linter.unusedVariables false
namespace Go.Proofs.Ytfcopnlpcbbocaa
open Go.RowKit

theorem twin_mem {S : Sys} {a : Ask} {N : Nat} {t : Nat × Nat} (h : t ∈ twinsTo S a N) : t.1 < t.2 ∧ t.2 ≤ N ∧ ∃ ws, wordsOf S (numb a t.1) = some ws ∧ wordsOf S (numb a t.2) = some ws := by
  obtain ⟨n, hn, ht⟩ := List.mem_filterMap.1 h
  have hn' : n ≤ N := by simp at hn; omega
  unfold twin at ht
  split at ht
  · cases ht
  · rename_i hw
    split at ht
    · rename_i hl
      injection ht with ht
      subst ht
      cases he : wordsOf S (numb a n) with
      | none => exact absurd he hw
      | some ws => exact ⟨hl, hn', ws, (lst_words S a n).trans he, rfl⟩
    · cases ht
/-- Without twins no words are said by two numbers. -/
theorem alone {S : Sys} {a : Ask} {N n : Nat} {ws : List ByteArray} (ht : twinsTo S a N = []) (hn : n ≤ N) (hw : wordsOf S (numb a n) = some ws) : readsTo S a N ws = [n] := by
  have hno : ∀ m, m ≤ N → wordsOf S (numb a m) = some ws → lst S a m = m := by
    intro m hm hwm
    have hle := lst_le S a m
    by_cases h : lst S a m < m
    · have : (lst S a m, m) ∈ twinsTo S a N := List.mem_filterMap.2 ⟨m, by simp; omega, by simp [twin, hwm, h]⟩
      rw [ht] at this; cases this
    · omega
  have huniq : ∀ m, m ≤ N → wordsOf S (numb a m) = some ws → m = n := by
    intro m hm hwm
    rcases Nat.lt_trichotomy m n with h | h | h
    · have h1 := lst_find S a n
      rw [hno n hn hw, hw] at h1
      have h2 := (List.find?_eq_some_iff_append.1 h1).2
      obtain ⟨us, vs, e, hall⟩ := h2
      have hmem : m ∈ us := by
        have hm' : m ∈ List.range (n + 1) := by simp; omega
        have hp : (List.range (n + 1)).Pairwise (· < ·) := List.pairwise_lt_range
        rw [e] at hm' hp
        rcases List.mem_append.1 hm' with h' | h'
        · exact h'
        · rcases List.mem_cons.1 h' with h' | h'
          · omega
          · have := (List.pairwise_cons.1 (List.pairwise_append.1 hp).2.1).1 m h'
            omega
      have := hall m hmem
      simp [hwm] at this
    · exact h
    · have h1 := lst_find S a m
      rw [hno m hm hwm, hwm] at h1
      obtain ⟨us, vs, e, hall⟩ := (List.find?_eq_some_iff_append.1 h1).2
      have hmem : n ∈ us := by
        have hm' : n ∈ List.range (m + 1) := by simp; omega
        have hp : (List.range (m + 1)).Pairwise (· < ·) := List.pairwise_lt_range
        rw [e] at hm' hp
        rcases List.mem_append.1 hm' with h' | h'
        · exact h'
        · rcases List.mem_cons.1 h' with h' | h'
          · omega
          · have := (List.pairwise_cons.1 (List.pairwise_append.1 hp).2.1).1 n h'
            omega
      have := hall n hmem
      simp [hw] at this
  unfold readsTo
  have e : (List.range (N + 1)).filter (fun m : Nat => decide (wordsOf S (numb a m) = some ws)) = (List.range (N + 1)).filter (fun m => m == n) := by
    refine List.filter_congr fun m hm => ?_
    have hm' : m ≤ N := by simp at hm; omega
    by_cases h : m = n
    · subst h; simp [hw]
    · have : ¬ wordsOf S (numb a m) = some ws := fun hwm => h (huniq m hm' hwm)
      simp [this, h]
  rw [e]
  have key : ∀ k, n < k → (List.range k).filter (fun m => m == n) = [n] := by
    intro k
    induction k with
    | zero => intro h; omega
    | succ k ih =>
      intro h
      rw [List.range_succ, List.filter_append]
      by_cases hk : k = n
      · subst hk
        have : (List.range k).filter (fun m => m == k) = [] := by
          rw [List.filter_eq_nil_iff]
          intro m hm
          simp at hm
          simp; omega
        rw [this]; simp
      · rw [ih (by omega)]
        simp [hk]
  exact key (N + 1) (by omega)
end Go.Proofs.Ytfcopnlpcbbocaa
