/- Contracts: the areas at all times, as an iterator. -/
import Derived.Test.YtbmbcbknoflpgaaJ5
set_option linter.unusedSimpArgs false
set_option linter.unusedVariables false
namespace Go.Proofs.Ytbmbcbknoflpgaa
open Go.RowKit Go.Shelf
attribute [local go_sem] Oper.semAt_some

/-- Where a wall's follower and the wall are, after so many times. -/
def wlk (rest : List Int) (l : List Ges) : Nat → Nat → Int × Int
  | 0, k => (rest.getD k 0, rest.getD k 0)
  | t + 1, k => (flw (wlk rest l t k).1 (golG rest l k t).1 (golG rest l k t).2, flw (wlk rest l t k).2 (flw (wlk rest l t k).1 (golG rest l k t).1 (golG rest l k t).2) (golG rest l k t).2)
/-- The areas at a time. -/
def arL (rest : List Int) (l : List Ges) (t : Nat) : List Int := (List.range rest.length).map fun k => (wlk rest l (t + 1) k).2
theorem sco_parts {rest : List Int} {l : List Ges} (h : scoOk rest l = true) : 1 ≤ rest.length ∧ rest.length ≤ 24 ∧ (∀ j, j < rest.length → 1 ≤ rest.getD j 0 ∧ rest.getD j 0 ≤ 1000) ∧ l.length ≤ 100 ∧ l.all (gesOk rest.length) = true := by
  simp only [scoOk, Bool.and_eq_true, decide_eq_true_eq] at h
  obtain ⟨⟨⟨h1, h2⟩, h3⟩, h4⟩ := h
  exact ⟨h1, (ars_parts h2).1, (ars_parts h2).2, h3, h4⟩
theorem gol_range {rest : List Int} {l : List Ges} (h : scoOk rest l = true) (k : Nat) (t : Int) (hk : k < rest.length) : (1 ≤ (golG rest l k t).1 ∧ (golG rest l k t).1 ≤ 1000) ∧ (1 ≤ (golG rest l k t).2 ∧ (golG rest l k t).2 ≤ 1000) := by
  obtain ⟨h1, h2, h3, h4, h5⟩ := sco_parts h
  unfold golG
  cases hf : l.reverse.find? (hitG k t) with
  | none => exact ⟨h3 k hk, by simp, by simp⟩
  | some g =>
    have hm : g ∈ l := by have := List.mem_of_find?_eq_some hf; simpa using this
    have hg := List.all_eq_true.1 h5 g hm
    simp only [gesOk, arOk, Bool.and_eq_true, betw_iff] at hg
    exact ⟨hg.1.2, hg.2⟩
theorem wlk_range {rest : List Int} {l : List Ges} (h : scoOk rest l = true) (k : Nat) (hk : k < rest.length) : ∀ t, (1 ≤ (wlk rest l t k).1 ∧ (wlk rest l t k).1 ≤ 1000) ∧ (1 ≤ (wlk rest l t k).2 ∧ (wlk rest l t k).2 ≤ 1000) := by
  intro t
  induction t with
  | zero => have := (sco_parts h).2.2.1 k hk; exact ⟨this, this⟩
  | succ t ih =>
    have hg := gol_range h k t hk
    have h1 := flw_range _ _ _ ih.1 hg.1 hg.2
    exact ⟨h1, flw_range _ _ _ ih.2 h1 hg.2⟩
/-- What a round keeps. -/
structure KpM (n : Nat) (A B : World) : Prop where
  low : Below n A B
  same : ∀ (k : Nat) (cs : Array Value) (t : TypeId) (u : Nat × Nat), A.heap[k]? = some (.cells cs t u) → (t = 169 ∨ t = 106 ∨ t = 120 ∨ t = 3) → B.heap[k]? = some (.cells cs t u)
theorem KpM.trans {n : Nat} {A B C : World} (h : KpM n A B) (k : KpM n B C) : KpM n A C := ⟨h.1.trans k.1, fun i cs t u hi ht => k.2 i cs t u (h.2 i cs t u hi ht) ht⟩
/-- All that the iterator wants between two rounds. -/
structure MS (n0 B0 : Nat) (w0 W : World) (s1 s2 T g n : Nat) (va vb : Value) (X Y : Nat → Int) : Prop where
  sc : W.heap[s1]? = some (.cells #[va, vb] 120 (0, 0))
  ti : Boxed W s2 3 (.int .i64 (T : Int))
  walls : Walls W g n X Y
  base : B0 ≤ g
  low : Below n0 w0 W
theorem MS.kept {n0 B0 s1 s2 T g n : Nat} {w0 W W' : World} {va vb : Value} {X Y : Nat → Int} (h : MS n0 B0 w0 W s1 s2 T g n va vb X Y) (k : KpM n0 W W') : MS n0 B0 w0 W' s1 s2 T g n va vb X Y := by
  obtain ⟨cur, hb, hsz, hc⟩ := h.walls.row
  exact ⟨k.same _ _ _ _ h.sc (.inr (.inr (.inl rfl))), k.same _ _ _ _ h.ti (.inr (.inr (.inr rfl))), ⟨⟨cur, k.same _ _ _ _ hb (.inr (.inl rfl)), hsz, hc⟩, fun j hj => k.same _ _ _ _ (h.walls.wall j hj) (.inl rfl)⟩, h.base, h.low.trans k.low⟩
theorem MS.below {n0 B0 s1 s2 T g n : Nat} {w0 W W' : World} {va vb : Value} {X Y : Nat → Int} (h : MS n0 B0 w0 W s1 s2 T g n va vb X Y) (hB : Below W.heap.size W W') (hn : n0 ≤ W.heap.size) : MS n0 B0 w0 W' s1 s2 T g n va vb X Y :=
  ⟨heap_keep hB h.sc, heap_keep hB h.ti, ⟨rowB h.walls.row hB, fun j hj => heap_keep hB (h.walls.wall j hj)⟩, h.base, h.low.trans (hB.mono hn)⟩
/-- A cell of a row of ints is laid: nothing of the iterator's turns. -/
theorem MS.set {n0 B0 s1 s2 T g n ab : Nat} {w0 W : World} {va vb : Value} {X Y : Nat → Int} (h : MS n0 B0 w0 W s1 s2 T g n va vb X Y) (e1 : s1 ≠ ab) (e2 : s2 ≠ ab) (e3 : g ≠ ab) (e4 : ∀ j, j < n → g + 1 + j ≠ ab) (hn : n0 ≤ ab) (o : Nat) (v : Value) : MS n0 B0 w0 (W.setCell ⟨ab, o, none⟩ v) s1 s2 T g n va vb X Y :=
  ⟨(Below.heap_setCell _ _ _ _ e1).trans h.sc, (Below.heap_setCell _ _ _ _ e2).trans h.ti, ⟨h.walls.row.of_block (Below.heap_setCell _ _ _ _ e3), fun j hj => (Below.heap_setCell _ _ _ _ (e4 j hj)).trans (h.walls.wall j hj)⟩, h.base, h.low.setCell (p := ⟨ab, o, none⟩) hn _⟩
/-- A wall is moved. -/
theorem MS.moved {n0 B0 s1 s2 T g n k : Nat} {w0 W W' : World} {va vb : Value} {X Y : Nat → Int} (h : MS n0 B0 w0 W s1 s2 T g n va vb X Y) (hk : k < n) (x y : Int) (hg : W.grownBy W' (some (g + 1 + k))) (hc : W'.heap[g + 1 + k]? = some (.cells #[.int .i64 x, .int .i64 y] 169 (0, 0))) (hn : n0 ≤ B0) :
    MS n0 B0 w0 W' s1 s2 T g n va vb (upd X k x) (upd Y k y) := by
  have hw := h.walls.wall k hk
  have ne : ∀ {j : Nat} {cs : Array Value} {t : TypeId}, W.heap[j]? = some (.cells cs t (0, 0)) → t ≠ 169 → j ≠ g + 1 + k := by
    intro j cs t hj ht e
    subst e
    rw [hw] at hj
    simp only [Option.some.injEq, Obj.cells.injEq] at hj
    exact ht hj.2.1.symm
  refine ⟨gb_heap hg h.sc (ne h.sc (by decide)), gb_heap hg h.ti (ne h.ti (by decide)), ⟨h.walls.row.of_block (hg.block _ h.walls.row.lt (fun e => by simp at e; omega)), fun j hj => ?_⟩, h.base, ?_⟩
  · by_cases e : j = k
    · subst e
      simp only [upd, if_pos]
      exact hc
    · simp only [upd, if_neg e]
      exact gb_heap hg (h.walls.wall j hj) (by omega)
  · exact ⟨hg.os.trans h.low.os, hg.tape.trans h.low.tape, hg.output.trans h.low.output, Nat.le_trans h.low.size hg.size, fun i hi => (hg.block i (Nat.lt_of_lt_of_le (by have := (Array.getElem?_eq_some_iff.1 hw).1; have := h.base; omega) (Nat.le_refl _)) (fun e => by simp at e; have := h.base; omega)).trans (h.low.block i hi)⟩
end Go.Proofs.Ytbmbcbknoflpgaa
