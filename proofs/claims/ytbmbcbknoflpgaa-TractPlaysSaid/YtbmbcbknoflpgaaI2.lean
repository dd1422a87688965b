/- Contracts: a step's frame; feeds. -/
import Derived.Test.YtbmbcbknoflpgaaI1
import Derived.Test.YtbmbcbknoflpgaaD1
set_option linter.unusedSimpArgs false
set_option linter.unusedVariables false
namespace Go.Proofs.Ytbmbcbknoflpgaa
open Go.RowKit

/-- All that was there is as it was, but for two blocks. -/
structure Kept (w w' : World) (a b : Nat) : Prop where
  os : w'.os = w.os
  tape : w'.tape = w.tape
  output : w'.output = w.output
  size : w.heap.size ≤ w'.heap.size
  block : ∀ k, k < w.heap.size → k ≠ a → k ≠ b → w'.heap[k]? = w.heap[k]?
theorem Kept.below {w w' : World} {a b n : Nat} (h : Kept w w' a b) (hn : n ≤ w.heap.size) (ha : n ≤ a) (hb : n ≤ b) : Below n w w' :=
  ⟨h.os, h.tape, h.output, h.size, fun k hk => h.block k (by omega) (by omega) (by omega)⟩
theorem Kept.grown {w w' w2 : World} {a b : Nat} (h : Kept w w' a b) (k : w'.grownBy w2 (some a)) : Kept w w2 a b :=
  ⟨k.os.trans h.os, k.tape.trans h.tape, k.output.trans h.output, Nat.le_trans h.size k.size, fun i hi ha hb => (k.block i (Nat.lt_of_lt_of_le hi h.size) (fun e => ha (by cases e; rfl))).trans (h.block i hi ha hb)⟩
theorem kept_of_grown {w w' : World} {a b : Nat} (k : w.grownBy w' (some a)) : Kept w w' a b :=
  ⟨k.os, k.tape, k.output, k.size, fun i hi ha _ => k.block i hi (fun e => ha (by cases e; rfl))⟩
theorem Kept.set {w w' : World} {a b : Nat} (h : Kept w w' a b) (o : Nat) (v : Value) : Kept w (w'.setCell ⟨b, o, none⟩ v) a b :=
  ⟨h.os, h.tape, h.output, by simpa [World.setCell] using h.size, fun k hk ha hb => (Below.heap_setCell _ _ _ k hb).trans (h.block k hk ha hb)⟩
theorem Kept.setNew {w w' : World} {a b g : Nat} (h : Kept w w' a b) (o : Nat) (v : Value) (hg : w.heap.size ≤ g) : Kept w (w'.setCell ⟨g, o, none⟩ v) a b :=
  ⟨h.os, h.tape, h.output, by simpa [World.setCell] using h.size, fun k hk ha hb => (Below.heap_setCell _ _ _ k (by intro e; simp at e; omega)).trans (h.block k hk ha hb)⟩
theorem Kept.drew {w w' : World} {a b : Nat} (h : Kept w w' a b) : Kept w w'.drew a b := ⟨h.os, h.tape, h.output, h.size, h.block⟩
theorem Kept.cell {w w' : World} {a b c o : Nat} {v : Value} (h : Kept w w' a b) (hc : w.cell? ⟨c, o, none⟩ = some v) (ha : c ≠ a) (hb : c ≠ b) : w'.cell? ⟨c, o, none⟩ = some v := by
  have := h.block c (cell_lt hc) ha hb
  unfold World.cell? at hc ⊢
  simp only [this]
  exact hc
theorem frozen_heap {W : World} {b o : Nat} {t : TypeId} {cs : Array Value} (h : W.heap[b]? = some (.cells cs t (0, 0))) : W.frozen? ⟨b, o, none⟩ = false := by
  unfold World.frozen?
  simp [h]
/-- A tube's steps are counted. -/
theorem TubeIs.stepped {base tb main steps wb : Nat} {W : World} {al : List Int} {ps : List Plc} {f : Nat → Int} (h : TubeIs base W tb al main ps steps wb f) (s : Nat) : TubeIs base (W.setCell ⟨tb, 4, none⟩ (.int .i64 (s : Int))) tb al main ps s wb f := by
  have hne := h.ne
  obtain ⟨l, ⟨av, pv, xs, k, b1, b2, b3, b4⟩, b5⟩ := h
  have hg := gb_set W tb 4 (.int .i64 (s : Int))
  have own : ∀ {base e size k : Nat} {v : Value} {xs : List Value}, W.ownsRow base e size v k xs → 97 ≠ e → (W.setCell ⟨tb, 4, none⟩ (.int .i64 (s : Int))).ownsRow base e size v k xs := fun ho hn => ho.kept hg (.inr (own_ne ho b1 (fun cs e => by cases e; exact hn rfl)))
  refine ⟨l, ⟨av, pv, xs, k, ?_, own b2 (by decide), own b3 (by decide), b4.map fun x p hx => ?_⟩, b5.of_block (Below.heap_setCell _ _ _ _ (fun e => hne e.symm))⟩
  · have := heap_setCell_same W tb 4 _ _ (.int .i64 (s : Int)) b1
    simpa using this
  · cases p with
    | fin s d q => exact hx
    | jnt l => obtain ⟨u, hu, hr⟩ := hx; exact ⟨u, hu, own hr (by decide)⟩
/-- A tube is kept where nothing of it is written. -/
theorem TubeIs.kept {base tb main steps wb : Nat} {W W' : World} {al : List Int} {ps : List Plc} {f : Nat → Int} (h : TubeIs base W tb al main ps steps wb f) {g : Nat} {t : TypeId} {cs : Array Value} (hg : W.grownBy W' (some g)) (hc : W.heap[g]? = some (.cells cs t (0, 0))) (h1 : t ≠ 97) (h2 : t ≠ 3) (h3 : t ≠ 143) (h4 : t ≠ 160) (h5 : t ≠ 137) : TubeIs base W' tb al main ps steps wb f := by
  obtain ⟨l, ⟨av, pv, xs, k, b1, b2, b3, b4⟩, b5⟩ := h
  have own : ∀ {base e size k : Nat} {v : Value} {xs : List Value}, W.ownsRow base e size v k xs → t ≠ e → W'.ownsRow base e size v k xs := fun ho hn => ho.kept hg (.inr (own_ne ho hc (fun cs e => by cases e; exact hn rfl)))
  have ne : tb ≠ g := by
    intro e
    subst e
    rw [b1] at hc
    simp only [Option.some.injEq, Obj.cells.injEq] at hc
    exact h1 hc.2.1.symm
  refine ⟨l, ⟨av, pv, xs, k, gb_heap hg b1 ne, own b2 h2, own b3 h3, b4.map fun x p hx => ?_⟩, b5.of_block (hg.block _ b5.lt (fun e => box_ne hc b5 h5 (by cases e; rfl)))⟩
  cases p with
  | fin s d q => exact hx
  | jnt l => obtain ⟨u, hu, hr⟩ := hx; exact ⟨u, hu, own hr h4⟩
/-- The end of a step: its steps are counted, and what is heard is handed back. -/
theorem step_end {base tb main steps wb rb : Nat} {w wr : World} {al : List Int} {ps : List Plc} {G : Nat → Int} (ht : TubeIs base wr tb al main ps steps wb G) (hr : wr.heap[rb]? = some (.cells #[.int .i64 0, .int .i64 0] 51 (0, 0))) (hk : Kept w wr wb tb) (hrb : w.heap.size ≤ rb) (ne : tb ≠ rb) (s1 : Nat) (hv nv : Int) :
    (((wr.setCell ⟨tb, 4, none⟩ (.int .i64 (s1 : Int))).setCell ⟨rb, 0, none⟩ (.int .i64 hv)).setCell ⟨rb, 1, none⟩ (.int .i64 nv)).heap[rb]? = some (.cells #[.int .i64 hv, .int .i64 nv] 51 (0, 0)) ∧
    TubeIs base (((wr.setCell ⟨tb, 4, none⟩ (.int .i64 (s1 : Int))).setCell ⟨rb, 0, none⟩ (.int .i64 hv)).setCell ⟨rb, 1, none⟩ (.int .i64 nv)) tb al main ps s1 wb G ∧
    Kept w (((wr.setCell ⟨tb, 4, none⟩ (.int .i64 (s1 : Int))).setCell ⟨rb, 0, none⟩ (.int .i64 hv)).setCell ⟨rb, 1, none⟩ (.int .i64 nv)) wb tb := by
  have h1 := ht.stepped s1
  have e1 : (wr.setCell ⟨tb, 4, none⟩ (.int .i64 (s1 : Int))).heap[rb]? = some (.cells #[.int .i64 0, .int .i64 0] 51 (0, 0)) := (Below.heap_setCell _ _ _ _ (fun e => ne e.symm)).trans hr
  have e2 := heap_setCell_same _ rb 0 _ _ (.int .i64 hv) e1
  simp at e2
  have e3 := heap_setCell_same _ rb 1 _ _ (.int .i64 nv) e2
  simp at e3
  have h2 := h1.kept (gb_set _ rb 0 (.int .i64 hv)) e1 (by decide) (by decide) (by decide) (by decide) (by decide)
  have h3 := h2.kept (gb_set _ rb 1 (.int .i64 nv)) e2 (by decide) (by decide) (by decide) (by decide) (by decide)
  exact ⟨e3, h3, ((hk.set 4 _).setNew 0 _ hrb).setNew 1 _ hrb⟩
theorem infoHd : (Try.prog.info? 51).map (·.size) = some 2 := by kernel_rfl
/-- Feeds are added to the waves that run forward. -/
def feedA (on : Nat) (G : Nat → Int) (x : Fd) : Nat → Int := upd G (on + x.sec.toNat * 2) (wrap64 (G (on + x.sec.toNat * 2) + x.amt))
def feedsA (on : Nat) (l : List Fd) (G : Nat → Int) : Nat → Int := l.foldl (feedA on) G
theorem feedsA_snoc (on : Nat) (l : List Fd) (x : Fd) (G : Nat → Int) : feedsA on (l ++ [x]) G = feedA on (feedsA on l G) x := by unfold feedsA; rw [List.foldl_append]; rfl
end Go.Proofs.Ytbmbcbknoflpgaa
