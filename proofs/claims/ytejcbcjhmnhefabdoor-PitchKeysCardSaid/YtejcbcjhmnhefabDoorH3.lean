/- The maths of the best contour: rows of costs from the last one, the path from the first one. -/
import Derived.Test.YtejcbcjhmnhefabDoorH2
set_option linter.unusedSimpArgs false
set_option linter.unusedVariables false
namespace Go.Proofs.YtejcbcjhmnhefabDoor
open Go.RowKit

theorem cfI_congr {A A' : Nat → Int} {sm : Int} {u v : Nat} (h : A u = A' u) : cfI A sm u v = cfI A' sm u v := by unfold cfI; rw [h]
theorem drops_congr {A A' : Nat → Int} {s : Nat} {sm : Int} {v e f W : Nat} (h : ∀ u, u < W → A u = A' u) (he : e ≤ W) (hf : f < e) : drops A s sm v e f = drops A' s sm v e f := by
  unfold drops
  by_cases h1 : f + 1 < e
  · rw [cfI_congr (h (f + 1) (by omega)), cfI_congr (h f (by omega))]
  · simp [h1]
theorem dropF_congr {A A' : Nat → Int} {s : Nat} {sm : Int} {v e W : Nat} (h : ∀ u, u < W → A u = A' u) (he : e ≤ W) (hv : v + 1 ≤ e) : ∀ k f, f < e → dropF A s sm v e k f = dropF A' s sm v e k f := by
  intro k
  induction k with
  | zero => intro f _; rfl
  | succ k ih =>
    intro f hf
    unfold dropF
    rw [drops_congr h he hf]
    split
    · rename_i hd
      refine ih _ ?_
      have h3 := dropF_lt (A := A') (s := s) (sm := sm) hv 1 f hf
      unfold dropF at h3
      rw [if_pos hd] at h3
      exact h3
    · rfl
theorem front_congr {A A' : Nat → Int} {s : Nat} {sm : Int} {W : Nat} (h : ∀ u, u < W → A u = A' u) : ∀ v, v ≤ W → front A s sm W v = front A' s sm W v := by
  intro v
  induction v with
  | zero => intro _; rfl
  | succ v ih =>
    intro hv
    show dropF A s sm v _ _ _ = dropF A' s sm v _ _ _
    rw [ih (by omega)]
    exact dropF_congr h (ent_ge (by omega)).2 (ent_ge (by omega)).1 _ _ (front_lt v (by omega))
theorem restC_congr {A A' : Nat → Int} {s : Nat} {sm : Int} {W : Nat} (h : ∀ u, u < W → A u = A' u) {v : Nat} (hv : v < W) : restC A s sm W v = restC A' s sm W v := by
  unfold restC
  rw [front_congr h (v + 1) hv]
  have h1 := front_end (A := A') (s := s) (sm := sm) hv
  have h2 := (ent_ge (s := s) hv).2
  exact cfI_congr (h _ (by omega))
theorem restC_in {A : Nat → Int} {s : Nat} {sm : Int} {W v : Nat} {b : Int} (hA : ∀ u, u < W → 0 ≤ A u ∧ A u ≤ b) (hb : b ≤ 1000000000000000000) (hs : 0 ≤ sm ∧ sm ≤ 1000) (hW : W ≤ 1000) (hv : v < W) : 0 ≤ restC A s sm W v ∧ restC A s sm W v ≤ b + 1000000000 := by
  unfold restC
  have h1 := front_end (A := A) (s := s) (sm := sm) hv
  have h2 := (ent_ge (s := s) hv).2
  have h3 := hA (front A s sm W (v + 1)) (by omega)
  have h4 := cfI_in (A := A) (sm := sm) (u := front A s sm W (v + 1)) (v := v) ⟨h3.1, by omega⟩ hs (by omega) (by omega)
  omega

/-- The rows' costs, counted from the last row. -/
def rowR (T : Nat → Nat → Int) (s : Nat) (sm : Int) (W F : Nat) : Nat → Nat → Int
  | 0 => fun v => T (F - 1) v
  | d + 1 => fun v => T (F - 1 - (d + 1)) v + restC (rowR T s sm W F d) s sm W v
def rowCost (T : Nat → Nat → Int) (s : Nat) (sm : Int) (W F i : Nat) : Nat → Int := rowR T s sm W F (F - 1 - i)
def rowNext (T : Nat → Nat → Int) (s : Nat) (sm : Int) (W F i v : Nat) : Nat := if i + 1 < F then front (rowCost T s sm W F (i + 1)) s sm W (v + 1) else 0
theorem rowCost_step {T : Nat → Nat → Int} {s : Nat} {sm : Int} {W F i : Nat} (h : i + 1 < F) (v : Nat) : rowCost T s sm W F i v = T i v + restC (rowCost T s sm W F (i + 1)) s sm W v := by
  unfold rowCost
  rw [show F - 1 - i = F - 1 - (i + 1) + 1 by omega]
  show T (F - 1 - (F - 1 - (i + 1) + 1)) v + _ = _
  rw [show F - 1 - (F - 1 - (i + 1) + 1) = i by omega]
theorem rowCost_last {T : Nat → Nat → Int} {s : Nat} {sm : Int} {W F : Nat} (v : Nat) : rowCost T s sm W F (F - 1) v = T (F - 1) v := by
  unfold rowCost; rw [Nat.sub_self]; rfl
theorem rowNext_lt {T : Nat → Nat → Int} {s : Nat} {sm : Int} {W F i v : Nat} (hv : v < W) : rowNext T s sm W F i v < W := by
  unfold rowNext
  split
  · have h1 := front_end (A := rowCost T s sm W F (i + 1)) (s := s) (sm := sm) hv
    have h2 := (ent_ge (s := s) hv).2
    omega
  · omega
/-- The first of the least values. -/
def argM (f : Nat → Int) : Nat → Nat
  | 0 => 0
  | k + 1 => if f k < f (argM f k) then k else argM f k
theorem argM_le (f : Nat → Int) : ∀ k, argM f k ≤ k := by
  intro k
  induction k with
  | zero => exact Nat.le_refl _
  | succ k ih => unfold argM; split <;> omega
theorem argM_lt {f : Nat → Int} {k : Nat} (h : 0 < k) : argM f k < k := by
  cases k with
  | zero => omega
  | succ k => have := argM_le f k; unfold argM; split <;> omega
def bestP (T : Nat → Nat → Int) (s : Nat) (sm : Int) (W F : Nat) : Nat → Nat
  | 0 => argM (rowCost T s sm W F 0) W
  | i + 1 => rowNext T s sm W F i (bestP T s sm W F i)
theorem bestP_lt {T : Nat → Nat → Int} {s : Nat} {sm : Int} {W F : Nat} (hW : 0 < W) : ∀ i, bestP T s sm W F i < W := by
  intro i
  induction i with
  | zero => exact argM_lt hW
  | succ i ih => exact rowNext_lt ih

/-! Bounds -/
def cntT (l : List Tgt) (i : Nat) : Nat := (l.filter fun x => decide ((i : Int) ≤ x.time)).length
theorem cntT_le (l : List Tgt) (i : Nat) : cntT l i ≤ l.length := List.length_filter_le _ _
theorem tgtC_cnt {lo : Int} {t v : Nat} (hlo : -100000 ≤ lo ∧ lo ≤ 100000) (hv : v ≤ 400) {F : Int} (l : List Tgt) (h : ∀ x ∈ l, tgtOk F x = true) : 0 ≤ tgtC lo l t v ∧ tgtC lo l t v + 100000000000000 * (cntT l (t + 1) : Int) ≤ 100000000000000 * (cntT l t : Int) := by
  induction l with
  | nil => simp [tgtC, cntT]
  | cons x l ih =>
    have h3 := ih fun y hy => h y (List.mem_cons_of_mem _ hy)
    obtain ⟨_, hx, hw⟩ := tgtOk_in (h x List.mem_cons_self)
    have h4 := offSq_in hlo hv hx hw
    have h5 : tgtC lo (x :: l) t v = (if x.time = (t : Int) then offSq lo v x else 0) + tgtC lo l t v := by simp [tgtC]
    have h6 : ∀ i, cntT (x :: l) i = (if (i : Int) ≤ x.time then 1 else 0) + cntT l i := fun i => by
      unfold cntT
      rw [List.filter_cons]
      by_cases h : (i : Int) ≤ x.time
      · simp [h]; omega
      · simp [h]
    rw [h5, h6 t, h6 (t + 1)]
    have p1 : (((t + 1 : Nat) : Int) ≤ x.time) ↔ ((t : Int) + 1 ≤ x.time) := by omega
    by_cases e1 : x.time = (t : Int)
    · rw [if_pos e1, if_neg (show ¬ (((t + 1 : Nat) : Int) ≤ x.time) by omega), if_pos (show (t : Int) ≤ x.time by omega)]; omega
    · rw [if_neg e1]
      by_cases e2 : (t : Int) ≤ x.time
      · rw [if_pos (show ((t + 1 : Nat) : Int) ≤ x.time by omega), if_pos e2]; omega
      · rw [if_neg (show ¬ (((t + 1 : Nat) : Int) ≤ x.time) by omega), if_neg e2]; omega
theorem rowR_in {lo : Int} {l : List Tgt} {F s W : Nat} {sm : Int} (hlo : -100000 ≤ lo ∧ lo ≤ 100000) (h : ∀ x ∈ l, tgtOk F x = true) (hl : l.length ≤ 200) (hF : F ≤ 200) (hW : W ≤ 401) (hs : 0 ≤ sm ∧ sm ≤ 1000) :
    ∀ d, d < F → ∀ v, v < W → 0 ≤ rowR (tgtC lo l) s sm W F d v ∧ rowR (tgtC lo l) s sm W F d v ≤ 100000000000000 * (cntT l (F - 1 - d) : Int) + 1000000000 * (d : Int) := by
  intro d
  induction d with
  | zero =>
    intro _ v hv
    have h1 := tgtC_cnt (t := F - 1) hlo (show v ≤ 400 by omega) l h
    show 0 ≤ tgtC lo l (F - 1) v ∧ tgtC lo l (F - 1) v ≤ _
    rw [Nat.sub_zero]
    omega
  | succ d ih =>
    intro hd v hv
    have h1 := tgtC_cnt (t := F - 1 - (d + 1)) hlo (show v ≤ 400 by omega) l h
    have h0 := cntT_le l (F - 1 - d)
    have h2 := restC_in (s := s) (ih (by omega)) (by omega) hs (show W ≤ 1000 by omega) hv
    show 0 ≤ tgtC lo l (F - 1 - (d + 1)) v + _ ∧ tgtC lo l (F - 1 - (d + 1)) v + _ ≤ _
    rw [show F - 1 - (d + 1) + 1 = F - 1 - d by omega] at h1
    omega
theorem rowCost_in {lo : Int} {l : List Tgt} {F s W : Nat} {sm : Int} (hlo : -100000 ≤ lo ∧ lo ≤ 100000) (h : ∀ x ∈ l, tgtOk F x = true) (hl : l.length ≤ 200) (hF : F ≤ 200) (hW : W ≤ 401) (hs : 0 ≤ sm ∧ sm ≤ 1000) {i : Nat} (hi : i < F) {v : Nat} (hv : v < W) :
    0 ≤ rowCost (tgtC lo l) s sm W F i v ∧ rowCost (tgtC lo l) s sm W F i v ≤ 100000000000000000 := by
  have h1 := rowR_in (s := s) hlo h hl hF hW hs (F - 1 - i) (by omega) v hv
  have h0 := cntT_le l (F - 1 - (F - 1 - i))
  unfold rowCost
  omega
end Go.Proofs.YtejcbcjhmnhefabDoor
