/- Maths of chains of waves: the fold over what is joined. -/
import Derived.Test.YtbeeddenidfenaaD1
import Derived.Test.YtbeeddenidfenaaB8
set_option linter.unusedSimpArgs false
set_option linter.unusedVariables false
namespace Go.Proofs.Ytbeeddenidfenaa
open Go.RowKit

/-- One wave more: the error so far, the wave so far, its beginnings. -/
def chStep (n r : Int) (s : Int × List Int × List Int) (x : List Int) : Int × List Int × List Int :=
  if s.1 ≠ 0 then s else
  if lagErr s.2.1 x n r ≠ 0 then (lagErr s.2.1 x n r, [], []) else
  if joinErr s.2.1 x n (lagv s.2.1 x n.toNat r : Nat) ≠ 0 then (joinErr s.2.1 x n (lagv s.2.1 x n.toNat r : Nat), [], []) else
  (0, joinL s.2.1 x n.toNat (lagv s.2.1 x n.toNat r), s.2.2 ++ [(s.2.1.length : Int) - n])
def chGo (n r : Int) (x : List Int) (l : List (List Int)) : Int × List Int × List Int := l.foldl (chStep n r) (0, x, [0])
def chRight (n r : Int) (ws : List (List Int)) : Bool := decide (1 ≤ n) && decide (0 ≤ r) && decide (0 < ws.length)
def chainV (n r : Int) (ws : List (List Int)) : Int × List Int × List Int :=
  if 500 < ws.length then (4, [], []) else
  if chk (chRight n r ws) ws ≠ 0 then (chk (chRight n r ws) ws, [], []) else
  chGo n r (ws.headD []) ws.tail
theorem ch_stuck {n r : Int} {s : Int × List Int × List Int} (h : s.1 ≠ 0) (l : List (List Int)) : l.foldl (chStep n r) s = s := by
  induction l with
  | nil => rfl
  | cons x l ih => rw [List.foldl_cons, show chStep n r s x = s by unfold chStep; rw [if_pos h]]; exact ih
theorem chGo_succ {n r : Int} {x : List Int} {l : List (List Int)} {k : Nat} (h : k < l.length) : chGo n r x (l.take (k + 1)) = chStep n r (chGo n r x (l.take k)) l[k] := by
  unfold chGo
  rw [take_succ l k h, List.foldl_append]
  rfl
theorem chGo_all {n r : Int} {x : List Int} {l : List (List Int)} {k : Nat} {e : Int} (h : chGo n r x (l.take k) = (e, [], [])) (he : e ≠ 0) : chGo n r x l = (e, [], []) := by
  have h1 : l = l.take k ++ l.drop k := (List.take_append_drop k l).symm
  have h2 : chGo n r x l = (l.drop k).foldl (chStep n r) (chGo n r x (l.take k)) := by
    unfold chGo
    rw [← List.foldl_append, List.take_append_drop]
  rw [h2, h]
  exact ch_stuck (s := (e, [], [])) he _
theorem ch_bad {n r : Int} {ws : List (List Int)} (h : ¬ 500 < ws.length) (hc : chk (chRight n r ws) ws ≠ 0) : chainV n r ws = (chk (chRight n r ws) ws, [], []) := by
  unfold chainV; rw [if_neg h, if_pos hc]
theorem ch_good {n r : Int} {x : List Int} {l : List (List Int)} (h : ¬ 500 < (x :: l).length) (hc : chk (chRight n r (x :: l)) (x :: l) = 0) : chainV n r (x :: l) = chGo n r x l := by
  unfold chainV; rw [if_neg h, if_neg (by rw [hc]; simp)]; rfl
theorem ch_step_lag {n r : Int} {o b x : List Int} (h : lagErr o x n r ≠ 0) : chStep n r (0, o, b) x = (lagErr o x n r, [], []) := by
  unfold chStep; rw [if_neg (by simp), if_pos h]
theorem ch_step_join {n r : Int} {o b x : List Int} (h : lagErr o x n r = 0) (hj : joinErr o x n (lagv o x n.toNat r : Nat) ≠ 0) : chStep n r (0, o, b) x = (joinErr o x n (lagv o x n.toNat r : Nat), [], []) := by
  unfold chStep; rw [if_neg (by simp), if_neg (by rw [h]; simp), if_pos hj]
theorem ch_step_ok {n r : Int} {o b x : List Int} (h : lagErr o x n r = 0) (hj : joinErr o x n (lagv o x n.toNat r : Nat) = 0) : chStep n r (0, o, b) x = (0, joinL o x n.toNat (lagv o x n.toNat r), b ++ [(o.length : Int) - n]) := by
  unfold chStep; rw [if_neg (by simp), if_neg (by rw [h]; simp), if_neg (by rw [hj]; simp)]
theorem chk_right {r : Bool} {ws : List (List Int)} (h : chk r ws = 0) : r = true := by
  unfold chk at h
  cases r
  · split at h
    · cases h
    · simp at h
  · rfl
/-- What a lag's and a join's good ways say of the lengths. -/
theorem lag_ok {o x : List Int} {n r : Int} (h : lagErr o x n r = 0) : 1 ≤ n ∧ 0 ≤ r ∧ o.length ≤ 100000 ∧ x.length ≤ 100000 ∧ n ≤ o.length ∧ chk (lagOk n r) [o, x] = 0 := by
  unfold lagErr at h
  by_cases hc : chk (lagOk n r) [o, x] = 0
  · rw [if_pos hc] at h
    by_cases hv : ovl o.length x.length n 0 = true
    · have h2 := chk2_ok hc
      obtain ⟨n', z, rfl, hz, h1, h3, h4⟩ := ovl_nat hv
      have h5 := h2.2.2.2.2
      simp only [lagOk, Bool.and_eq_true, decide_eq_true_eq] at h5
      exact ⟨h5.1, h5.2, by omega, by omega, by omega, hc⟩
    · rw [if_neg hv] at h; cases h
  · rw [if_neg hc] at h; exact absurd h hc
end Go.Proofs.Ytbeeddenidfenaa
