/- Words of a number, piece by piece. -/
import Derived.Test.YtfcopnlpcbbocaaP2
namespace Go.Proofs.Ytfcopnlpcbbocaa

theorem piecesFrom_append (f : Pce → Nat → List Item) : ∀ (l m : List Pce) (i : Nat), piecesFrom f (l ++ m) i = piecesFrom f l i ++ piecesFrom f m (i + l.length)
  | [], m, i => by simp [piecesFrom]
  | p :: l, m, i => by
    simp only [List.cons_append, piecesFrom, List.length_cons]
    rw [piecesFrom_append f l m (i + 1), List.append_assoc, show i + 1 + l.length = i + (l.length + 1) by omega]
/-- What the first k pieces say. -/
def saidTo (f : Pce → Nat → List Item) (l : List Pce) (k : Nat) : List Item := piecesFrom f (l.take k) 0
theorem saidTo_zero (f : Pce → Nat → List Item) (l : List Pce) : saidTo f l 0 = [] := by simp [saidTo, piecesFrom]
theorem saidTo_succ (f : Pce → Nat → List Item) (l : List Pce) (k : Nat) (h : k < l.length) : saidTo f l (k + 1) = saidTo f l k ++ f l[k] k := by
  unfold saidTo
  rw [take_succ l k h, piecesFrom_append]
  simp [piecesFrom, List.length_take, Nat.min_eq_left (Nat.le_of_lt h)]
theorem saidTo_all (f : Pce → Nat → List Item) (l : List Pce) : saidTo f l l.length = piecesFrom f l 0 := by simp [saidTo]
theorem saidTo_split (f : Pce → Nat → List Item) (l : List Pce) (k : Nat) : piecesFrom f l 0 = saidTo f l k ++ piecesFrom f (l.drop k) (l.take k).length := by
  unfold saidTo
  have := piecesFrom_append f (l.take k) (l.drop k) 0
  rw [List.take_append_drop] at this
  rw [this]; simp
theorem saidTo_len (f : Pce → Nat → List Item) (l : List Pce) (k : Nat) (h : k < l.length) : (saidTo f l k).length + (f l[k] k).length ≤ (piecesFrom f l 0).length := by
  have := congrArg List.length (saidTo_split f l (k + 1))
  rw [saidTo_succ f l k h, List.length_append, List.length_append] at this
  omega
theorem itemsF_succ (k : Nat) (S : Sys) (a : Ask) (d : Int) : itemsF (k + 1) S a d = piecesFrom (pieceItems (itemsF k S) S a d) (ruleOf S a).pieces 0 := rfl
theorem says_find {n : Int} (h : n = 1 ∨ n = 2 ∨ n = 3 ∨ n = 4 ∨ n = 5) : 1 ≤ n ∧ n ≤ 5 := by omega
end Go.Proofs.Ytfcopnlpcbbocaa
