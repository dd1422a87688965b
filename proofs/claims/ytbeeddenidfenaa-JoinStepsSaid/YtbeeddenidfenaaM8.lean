/- Maths: a wave joined with its own part is that wave; a join at equal parts makes no greater step. -/
import Derived.Test.YtbeeddenidfenaaL6
set_option linter.unusedSimpArgs false
set_option linter.unusedVariables false
namespace Go.Proofs.Ytbeeddenidfenaa
open Go.RowKit

theorem fadeL_self (u : List Int) : fadeL u u = u := by
  apply List.ext_getElem (fadeL_len u u)
  intro i h1 h2
  rw [fadeL_get]
  have g : u.getD i 0 = u[i] := gI h2
  have := fd_mid (x := u) (y := u) (n := u.length) (k := i) (m := u[i]) (M := u[i]) h2 (by omega) (by omega) (by omega) (by omega)
  omega
theorem cut_back (x : List Int) (s n : Nat) (h : s + n ≤ x.length) : joinL (x.take (s + n)) (x.drop s) n 0 = x := by
  have h1 : endA (x.take (s + n)) n = (x.drop s).take n := by
    unfold endA
    rw [List.length_take, Nat.min_eq_left h, Nat.add_sub_cancel, List.drop_take, Nat.add_sub_cancel_left]
  have h2 : partB (x.drop s) n 0 = (x.drop s).take n := by unfold partB; rw [List.drop_zero]
  unfold joinL
  rw [h1, h2, fadeL_self, List.length_take, Nat.min_eq_left h, Nat.add_sub_cancel, List.take_take, Nat.min_eq_left (by omega), Nat.zero_add, List.append_assoc, List.take_append_drop, List.take_append_drop]
theorem sqs_zero {l : List Int} (h : sqs l = 0) : ∀ d ∈ l, d = 0 := by
  induction l with
  | nil => intro d hd; cases hd
  | cons x l ih =>
    have e : sqs (x :: l) = x * x + sqs l := by simp [sqs]
    have nn : ∀ y : Int, 0 ≤ y * y := fun y => by
      rcases Int.le_total 0 y with hy | hy
      · exact Int.mul_nonneg hy hy
      · have := Int.mul_nonneg (show 0 ≤ -y by omega) (show 0 ≤ -y by omega)
        rwa [Int.neg_mul_neg] at this
    have h0 : 0 ≤ sqs l := by
      clear ih h e
      induction l with
      | nil => exact Int.le_refl _
      | cons y l ih => rw [show sqs (y :: l) = y * y + sqs l by simp [sqs]]; have := nn y; omega
    have hx := nn x
    rw [e] at h
    intro d hd
    rcases List.mem_cons.1 hd with rfl | hd
    · rcases Int.mul_eq_zero.1 (show d * d = 0 by omega) with g | g <;> exact g
    · exact ih (by omega) d hd
theorem mis_zero {x : List Int} {n k : Nat} (h1 : n ≤ x.length) (h2 : k + n ≤ x.length) (h : misv x x n k = 0) : endA x n = partB x n k := by
  have hl : (endA x n).length = (partB x n k).length := by rw [endA_len h1, partB_len h2]
  have hz := sqs_zero (show sqs (diffs (endA x n) (partB x n k)) = 0 from h)
  apply List.ext_getElem hl
  intro i i1 i2
  have hi : i < (diffs (endA x n) (partB x n k)).length := by rw [diffs_len hl]; exact i1
  have := hz _ (List.getElem_mem hi)
  rw [diffs_get] at this
  omega
theorem join_self {x : List Int} {n k : Nat} (h1 : n ≤ x.length) (h2 : k + n ≤ x.length) (h : misv x x n k = 0) : joinL x x n k = x ++ x.drop (k + n) := by
  unfold joinL
  rw [← mis_zero h1 h2 h, fadeL_self]
  unfold endA
  rw [List.take_append_drop]
theorem gab_ge (l : List Int) : 0 ≤ gab l ∧ ∀ d ∈ l, -gab l ≤ d ∧ d ≤ gab l := by
  have key : ∀ (l : List Int) (m : Int), m ≤ l.foldl (fun m d => max (max m d) (-d)) m ∧ ∀ d ∈ l, -(l.foldl (fun m d => max (max m d) (-d)) m) ≤ d ∧ d ≤ l.foldl (fun m d => max (max m d) (-d)) m := by
    intro l
    induction l with
    | nil => intro m; exact ⟨Int.le_refl _, fun d hd => by cases hd⟩
    | cons x l ih =>
      intro m
      obtain ⟨h1, h2⟩ := ih (max (max m x) (-x))
      simp only [List.foldl_cons]
      refine ⟨by omega, fun d hd => ?_⟩
      rcases List.mem_cons.1 hd with rfl | hd
      · omega
      · exact h2 d hd
  exact key l 0
theorem nbs_mem {l : List Int} {d : Int} (h : d ∈ nbs l) : ∃ i, i + 1 < l.length ∧ d = l.getD (i + 1) 0 - l.getD i 0 := by
  obtain ⟨i, hi, rfl⟩ := List.getElem_of_mem h
  have hi2 := hi
  rw [nbs_len] at hi2
  exact ⟨i, by omega, by rw [nbs_get, gI (by omega), gI (by omega)]⟩
theorem stp_at {l : List Int} {i : Nat} (h : i + 1 < l.length) : -stp l ≤ l.getD (i + 1) 0 - l.getD i 0 ∧ l.getD (i + 1) 0 - l.getD i 0 ≤ stp l := by
  have hi : i < (nbs l).length := by rw [nbs_len]; omega
  have := (gab_ge (nbs l)).2 _ (List.getElem_mem hi)
  rw [nbs_get] at this
  rw [gI (by omega), gI (by omega)]
  exact this
theorem stp_le {l : List Int} {B : Int} (hB : 0 ≤ B) (h : ∀ i, i + 1 < l.length → -B ≤ l.getD (i + 1) 0 - l.getD i 0 ∧ l.getD (i + 1) 0 - l.getD i 0 ≤ B) : stp l ≤ B :=
  (gab_in hB fun d hd => by
    obtain ⟨i, hi, rfl⟩ := nbs_mem hd
    exact h i hi).2
theorem stp_self {x : List Int} {n k : Nat} (h0 : 1 ≤ n) (h1 : n ≤ x.length) (h2 : k + n ≤ x.length) (h : misv x x n k = 0) : stp (joinL x x n k) ≤ stp x := by
  have hz := mis_zero h1 h2 h
  have hlast : x.getD (x.length - 1) 0 = x.getD (k + n - 1) 0 := by
    have e : (endA x n).getD (n - 1) 0 = (partB x n k).getD (n - 1) 0 := by rw [hz]
    rw [gI (by rw [endA_len h1]; omega), gI (by rw [partB_len h2]; omega)] at e
    simp only [endA, partB, List.getElem_drop, List.getElem_take] at e
    rw [gI (by omega), gI (by omega)]
    have a1 : x.length - n + (n - 1) = x.length - 1 := by omega
    have a2 : k + (n - 1) = k + n - 1 := by omega
    simp only [a1, a2] at e
    exact e
  have ga : ∀ i, i < x.length → (x ++ x.drop (k + n)).getD i 0 = x.getD i 0 := fun i hi => by
    rw [gI (by rw [List.length_append]; omega), gI hi, List.getElem_append_left hi]
  have gb : ∀ j, k + n + j < x.length → (x ++ x.drop (k + n)).getD (x.length + j) 0 = x.getD (k + n + j) 0 := fun j hj => by
    rw [gI (by rw [List.length_append, List.length_drop]; omega), gI hj, List.getElem_append_right (by omega), List.getElem_drop]
    congr 1
    omega
  rw [join_self h1 h2 h]
  refine stp_le (gab_ge (nbs x)).1 fun i hi => ?_
  rw [List.length_append, List.length_drop] at hi
  by_cases c1 : i + 1 < x.length
  · rw [ga _ c1, ga _ (by omega)]
    exact stp_at c1
  · by_cases c2 : i + 1 = x.length
    · rw [show i + 1 = x.length + 0 by omega, gb 0 (by omega), ga _ (by omega), show i = x.length - 1 by omega, hlast]
      have := stp_at (l := x) (i := k + n - 1) (by omega)
      rw [show k + n - 1 + 1 = k + n + 0 by omega] at this
      exact this
    · obtain ⟨j, rfl⟩ : ∃ j, i = x.length + j := ⟨i - x.length, by omega⟩
      rw [show x.length + j + 1 = x.length + (j + 1) by omega, gb _ (by omega), gb _ (by omega)]
      have := stp_at (l := x) (i := k + n + j) (by omega)
      rwa [show k + n + j + 1 = k + n + (j + 1) by omega] at this
theorem ok_of_sm {l : List Int} (h : Sm l) : waveOk l = true := List.all_eq_true.2 fun x hx => by
  have := h x hx
  unfold samOk betw
  rw [decide_eq_true (by omega), decide_eq_true (by omega)]
  rfl
theorem sm_self {x : List Int} {n k : Nat} (hx : Sm x) (h1 : n ≤ x.length) (h2 : k + n ≤ x.length) (h : misv x x n k = 0) : Sm (joinL x x n k) := by
  rw [join_self h1 h2 h]
  intro z hz
  rcases List.mem_append.1 hz with g | g
  · exact hx z g
  · exact hx z (List.mem_of_mem_drop g)
end Go.Proofs.Ytbeeddenidfenaa
