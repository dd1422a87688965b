/- The window of candidates, as a function; what a row's costs become. -/
import Derived.Test.YtejcbcjhmnhefabDoorG1
set_option linter.unusedSimpArgs false
set_option linter.unusedVariables false
namespace Go.Proofs.YtejcbcjhmnhefabDoor
open Go.RowKit

def cfI (A : Nat → Int) (sm : Int) (u v : Nat) : Int := A u + sm * ((u : Int) - v) * ((u : Int) - v)
def drops (A : Nat → Int) (s : Nat) (sm : Int) (v e f : Nat) : Bool := decide ((f : Int) < (v : Int) - s) || (decide (f + 1 < e) && decide (cfI A sm (f + 1) v < cfI A sm f v))
def dropF (A : Nat → Int) (s : Nat) (sm : Int) (v e : Nat) : Nat → Nat → Nat
  | 0, f => f
  | k + 1, f => if drops A s sm v e f = true then dropF A s sm v e k (f + 1) else f
def ent (s W v : Nat) : Nat := if v = 0 then 0 else min W (v + s)
/-- The candidate at the window's front, ahead of a value. -/
def front (A : Nat → Int) (s : Nat) (sm : Int) (W : Nat) : Nat → Nat
  | 0 => 0
  | v + 1 => dropF A s sm v (ent s W (v + 1)) (ent s W (v + 1) - front A s sm W v) (front A s sm W v)
theorem ent_ge {s W v : Nat} (h : v < W) : v + 1 ≤ ent s W (v + 1) ∧ ent s W (v + 1) ≤ W := by unfold ent; rw [if_neg (by omega)]; omega
theorem dropF_lt {A : Nat → Int} {s : Nat} {sm : Int} {v e : Nat} (he : v + 1 ≤ e) : ∀ k f, f < e → dropF A s sm v e k f < e := by
  intro k
  induction k with
  | zero => intro f h; exact h
  | succ k ih =>
    intro f h
    unfold dropF
    split
    · rename_i hd
      refine ih _ ?_
      simp only [drops, Bool.or_eq_true, Bool.and_eq_true, decide_eq_true_eq] at hd
      rcases hd with hd | hd
      · omega
      · exact hd.1
    · exact h
theorem front_lt {A : Nat → Int} {s : Nat} {sm : Int} {W : Nat} : ∀ v, v < W → front A s sm W v < ent s W (v + 1) := by
  intro v
  induction v with
  | zero => intro h; have := (ent_ge (s := s) h).1; simp only [front]; omega
  | succ v ih =>
    intro h
    have h1 := dropF_lt (A := A) (s := s) (sm := sm) (v := v) (e := ent s W (v + 1)) (ent_ge (by omega)).1 (ent s W (v + 1) - front A s sm W v) _ (ih (by omega))
    have h2 : ent s W (v + 1) ≤ ent s W (v + 1 + 1) := by unfold ent; rw [if_neg (by omega), if_neg (by omega)]; omega
    show dropF _ _ _ _ _ _ _ < _
    omega
theorem front_le {A : Nat → Int} {s : Nat} {sm : Int} {W : Nat} : ∀ v, v ≤ W → front A s sm W v ≤ ent s W v := by
  intro v
  cases v with
  | zero => intro _; simp [front, ent]
  | succ v => intro h; exact Nat.le_of_lt (dropF_lt (ent_ge (by omega)).1 _ _ (front_lt v (by omega)))
theorem front_end {A : Nat → Int} {s : Nat} {sm : Int} {W v : Nat} (h : v < W) : front A s sm W (v + 1) < ent s W (v + 1) := dropF_lt (ent_ge h).1 _ _ (front_lt v h)
def restC (A : Nat → Int) (s : Nat) (sm : Int) (W v : Nat) : Int := cfI A sm (front A s sm W (v + 1)) v
/-- The candidates from one value to another. -/
def cand (A : Nat → Int) (f e : Nat) : List (Int × Int) := (List.range' f (e - f)).map fun u : Nat => ((u : Int), A u)
theorem cand_len (A : Nat → Int) (f e : Nat) : (cand A f e).length = e - f := by simp [cand]
theorem cand_snoc (A : Nat → Int) {f e : Nat} (h : f ≤ e) : cand A f (e + 1) = cand A f e ++ [((e : Int), A e)] := by
  unfold cand
  rw [show e + 1 - f = (e - f) + 1 by omega, List.range'_concat, List.map_append]
  simp only [List.map_cons, List.map_nil, Nat.one_mul]
  rw [show f + (e - f) = e by omega]
theorem cand_cons (A : Nat → Int) {f e : Nat} (h : f < e) : cand A f e = ((f : Int), A f) :: cand A (f + 1) e := by
  unfold cand
  rw [show e - f = (e - (f + 1)) + 1 by omega, List.range'_succ]
  simp
theorem cfI_in {A : Nat → Int} {sm : Int} {u v : Nat} (hA : 0 ≤ A u ∧ A u ≤ 1000000000000000000) (hs : 0 ≤ sm ∧ sm ≤ 1000) (hu : u ≤ 1000) (hv : v ≤ 1000) : 0 ≤ cfI A sm u v ∧ cfI A sm u v ≤ A u + 1000000000 := by
  unfold cfI
  have h1 : 0 ≤ ((u : Int) - v) * ((u : Int) - v) := by
    rcases Int.le_total 0 ((u : Int) - v) with h | h
    · exact Int.mul_nonneg h h
    · have := Int.mul_nonneg (show 0 ≤ -((u : Int) - v) by omega) (show 0 ≤ -((u : Int) - v) by omega)
      rwa [Int.neg_mul_neg] at this
  have h2 := mul_in (A := 1000) (B := 1000) (show -1000 ≤ (u : Int) - v by omega) (by omega) (show -1000 ≤ (u : Int) - v by omega) (by omega)
  rw [Int.mul_assoc]
  have h3 : 0 ≤ sm * (((u : Int) - v) * ((u : Int) - v)) := Int.mul_nonneg hs.1 h1
  have h4 : sm * (((u : Int) - v) * ((u : Int) - v)) ≤ 1000 * 1000000 := Int.mul_le_mul hs.2 (by omega) h1 (by omega)
  omega

/-- What addRest leaves: two blocks may have changed, and what is new. -/
structure Kp2 (B a b : Nat) (w w' : World) : Prop where
  os : w'.os = w.os
  tape : w'.tape = w.tape
  output : w'.output = w.output
  size : w.heap.size ≤ w'.heap.size
  block : ∀ k, k < B → k ≠ a → k ≠ b → w'.heap[k]? = w.heap[k]?
theorem Kp2.refl (B a b : Nat) (w : World) : Kp2 B a b w w := ⟨rfl, rfl, rfl, Nat.le_refl _, fun _ _ _ _ => rfl⟩
theorem Kp2.trans {B a b : Nat} {w w' w'' : World} (h : Kp2 B a b w w') (k : Kp2 B a b w' w'') : Kp2 B a b w w'' :=
  ⟨k.os.trans h.os, k.tape.trans h.tape, k.output.trans h.output, Nat.le_trans h.size k.size, fun i h1 h2 h3 => (k.block i h1 h2 h3).trans (h.block i h1 h2 h3)⟩
theorem Kp2.of_below {B a b : Nat} {w w' : World} (h : Below B w w') : Kp2 B a b w w' := ⟨h.os, h.tape, h.output, h.size, fun i hi _ _ => h.block i hi⟩
theorem Kp2.setCell {B a b c o : Nat} {w : World} {v : Value} (h : c = a ∨ c = b ∨ B ≤ c) : Kp2 B a b w (w.setCell ⟨c, o, none⟩ v) :=
  ⟨rfl, rfl, rfl, by simp, fun k hk h1 h2 => heap_setCell_other w ⟨c, o, none⟩ k v (fun e => by rcases h with h | h | h <;> simp only at e <;> omega)⟩
theorem Kp2.cell {B a b c o : Nat} {w w' : World} (h : Kp2 B a b w w') (hc : c < B) (h1 : c ≠ a) (h2 : c ≠ b) : w'.cell? ⟨c, o, none⟩ = w.cell? ⟨c, o, none⟩ := World.cell?_of_block (h.block c hc h1 h2)
end Go.Proofs.YtejcbcjhmnhefabDoor
