/- Contracts: what a step keeps of a tube. -/
import Derived.Test.YtbmbcbknoflpgaaH7
import Derived.Test.YtbmbcbknoflpgaaE2
set_option linter.unusedSimpArgs false
set_option linter.unusedVariables false
namespace Go.Proofs.Ytbmbcbknoflpgaa
open Go.RowKit

theorem TubeIs.below {base tb main steps wb : Nat} {w w' : World} {al : List Int} {ps : List Plc} {f : Nat → Int} (h : TubeIs base w tb al main ps steps wb f) (hB : Below w.heap.size w w') : TubeIs base w' tb al main ps steps wb f := by
  obtain ⟨l, ⟨av, pv, xs, k, b1, b2, b3, b4⟩, b5⟩ := h
  exact ⟨l, ⟨av, pv, xs, k, heap_keep hB b1, ownsRow_below b2 hB, ownsRow_below b3 hB, b4.map fun x p hx => hx.below hB⟩, rowB b5 hB⟩
theorem TubeIs.mono {base b2 tb main steps wb : Nat} {w : World} {al : List Int} {ps : List Plc} {f : Nat → Int} (h : TubeIs base w tb al main ps steps wb f) (hb : b2 ≤ base) : TubeIs b2 w tb al main ps steps wb f := by
  obtain ⟨l, ⟨av, pv, xs, k, b1, c2, b3, b4⟩, b5⟩ := h
  exact ⟨⟨by omega, by omega⟩, ⟨av, pv, xs, k, b1, c2.mono hb, b3.mono hb, ⟨b4.1, fun i x p e1 e2 => (b4.2 i x p e1 e2).mono hb⟩⟩, b5⟩
theorem own_kept {W W' : World} {base e size k wb N : Nat} {t : TypeId} {v : Value} {xs : List Value} {f : Nat → Value} (h : W.ownsRow base e size v k xs) (hw : W.rowIs wb t N f) (hne : t ≠ e) (hg : W.grownBy W' (some wb)) : W'.ownsRow base e size v k xs := by
  refine h.kept hg ?_
  obtain ⟨cur, hb, _⟩ := hw
  exact .inr (own_ne h hb (fun cs e => by cases e; exact hne rfl))
theorem PlcV.kept {base wb N : Nat} {W W' : World} {x : Value} {p : Plc} {f : Nat → Value} (h : PlcV base W x p) (hw : W.rowIs wb 137 N f) (hg : W.grownBy W' (some wb)) : PlcV base W' x p := by
  cases p with
  | fin s d q => exact h
  | jnt l => obtain ⟨u, hu, hr⟩ := h; exact ⟨u, hu, own_kept hr hw (by decide) hg⟩
theorem box_ne {W : World} {tb wb N : Nat} {t u : TypeId} {cs : Array Value} {f : Nat → Value} (hb : W.heap[tb]? = some (.cells cs u (0, 0))) (hw : W.rowIs wb t N f) (hne : u ≠ t) : tb ≠ wb := by
  obtain ⟨cur, hc, _⟩ := hw
  intro e
  subst e
  rw [hb] at hc
  simp only [Option.some.injEq, Obj.cells.injEq] at hc
  exact hne hc.2.1
theorem TubeIs.ne {base tb main steps wb : Nat} {w : World} {al : List Int} {ps : List Plc} {f : Nat → Int} (h : TubeIs base w tb al main ps steps wb f) : tb ≠ wb := by
  obtain ⟨l, ⟨av, pv, xs, k, b1, b2, b3, b4⟩, b5⟩ := h
  exact box_ne b1 b5 (by decide)
theorem TubeIs.grown {base tb main steps wb : Nat} {w w' : World} {al : List Int} {ps : List Plc} {f g : Nat → Int} (h : TubeIs base w tb al main ps steps wb f) (hg : w.grownBy w' (some wb)) (hr : w'.rowIs wb 137 (4 * al.length) (fun j => .int .i64 (g j))) : TubeIs base w' tb al main ps steps wb g := by
  have hne := h.ne
  obtain ⟨l, ⟨av, pv, xs, k, b1, b2, b3, b4⟩, b5⟩ := h
  exact ⟨l, ⟨av, pv, xs, k, gb_heap hg b1 hne, own_kept b2 b5 (by decide) hg, own_kept b3 b5 (by decide) hg, b4.map fun x p hx => hx.kept b5 hg⟩, hr⟩
theorem TubeIs.congr {base tb main steps wb : Nat} {w : World} {al : List Int} {ps : List Plc} {f g : Nat → Int} (h : TubeIs base w tb al main ps steps wb f) (e : ∀ j, j < 4 * al.length → f j = g j) : TubeIs base w tb al main ps steps wb g :=
  ⟨h.1, h.2, h.3.congr fun j hj => by rw [e j hj]⟩
/-- The cells of a tube's box. -/
theorem TubeIs.cells {base tb main steps wb : Nat} {w : World} {al : List Int} {ps : List Plc} {f : Nat → Int} (h : TubeIs base w tb al main ps steps wb f) (hal : al.length ≤ 1000) :
    ∃ (av : Option Addr) (ac : Nat) (pa : Option Addr) (pc : Nat) (xs : List Value), TubeAt w tb av al.length ac main (.slice pa ps.length pc) wb steps ∧ SliceV w (.slice av al.length ac) 1 IntAt al ∧ w.ownsRow base 143 1 (.slice pa ps.length pc) ps.length xs ∧ PlcsV base w xs ps := by
  obtain ⟨l, ⟨av, pv, xs, k, b1, b2, b3, b4⟩, b5⟩ := h
  obtain ⟨ad, cap, rfl⟩ := ownsRow_slice b2
  obtain ⟨pa, pc, rfl⟩ := ownsRow_slice b3
  have e : k = ps.length := by have := b3.1; rw [← b4.1]; omega
  subst e
  refine ⟨ad, cap, pa, pc, xs, ⟨?_, ?_, ?_, ?_, ?_⟩, own_slice b2 (by omega), b3, b4⟩
  · have := cell_of_heap b1 (show 0 < 5 by omega); simpa using this
  · have := cell_of_heap b1 (show 1 < 5 by omega); simpa using this
  · have := cell_of_heap b1 (show 2 < 5 by omega); simpa using this
  · have := cell_of_heap b1 (show 3 < 5 by omega); simpa using this
  · have := cell_of_heap b1 (show 4 < 5 by omega); simpa using this
/-- The waves that meet at places, and leave them. -/
def meetA (A : Nat → Int) (oo on : Nat) : Plc → (Nat → Int) → (Nat → Int)
  | .fin s d p, G => upd G (on + s * 2 + (1 - d)) (thr p (G (oo + s * 2 + d)))
  | .jnt l, G => jPut (sct (jA A l) (jF (fun i => G (oo + i)) l) l.length) l on l.length G
def meetsA (A : Nat → Int) (oo on : Nat) (ps : List Plc) (f : Nat → Int) : Nat → Int := ps.foldl (fun G p => meetA A oo on p G) f
theorem meetsA_snoc (A : Nat → Int) (oo on : Nat) (ps : List Plc) (p : Plc) (f : Nat → Int) : meetsA A oo on (ps ++ [p]) f = meetA A oo on p (meetsA A oo on ps f) := by unfold meetsA; rw [List.foldl_append]; rfl
theorem sideV_get (l : List (Nat × Nat)) (i : Nat) (h : i < l.length) : (sideV l)[i * 2]? = some (.int .i64 (l[i].1 : Int)) ∧ (sideV l)[i * 2 + 1]? = some (.int .i64 (l[i].2 : Int)) := by
  induction l generalizing i with
  | nil => simp at h
  | cons x l ih =>
    cases i with
    | zero => simp [sideV]
    | succ i =>
      have h2 := ih i (by simp at h; omega)
      have e : (i + 1) * 2 = i * 2 + 1 + 1 := by omega
      rw [e]
      simpa [sideV] using h2
theorem own_sides {W : World} {base : Nat} {u : Value} {l : List (Nat × Nat)} (h : W.ownsRow base 160 2 u l.length (sideV l)) (hl : l.length ≤ 1000) : SliceV W u 2 SideAt l := by
  rcases h.2 with ⟨rfl, h0⟩ | ⟨g, cap, cur, rfl, _, hb, hc, _, _, hx⟩
  · exact ⟨none, 0, by rw [h0], by rw [h0]; exact ⟨Nat.zero_le _, Nat.zero_le _⟩, .inl (List.eq_nil_of_length_eq_zero h0)⟩
  · refine ⟨_, cap, rfl, ⟨by unfold most; omega, hc⟩, .inr ⟨g, 0, rfl, fun i hi => ?_⟩⟩
    obtain ⟨e1, e2⟩ := sideV_get l i hi
    have c1 := h.cellAt (i * 2) (by omega)
    have c2 := h.cellAt (i * 2 + 1) (by omega)
    rw [e1] at c1
    rw [e2] at c2
    refine ⟨?_, ?_⟩
    · show W.cell? ⟨g, 0 + i * 2, none⟩ = _
      rw [Nat.zero_add]; exact c1
    · show W.cell? ⟨g, 0 + i * 2 + 1, none⟩ = _
      rw [Nat.zero_add]; exact c2
theorem own_ne_row {W : World} {base e size k wb N : Nat} {t : TypeId} {v : Value} {xs : List Value} {f : Nat → Value} (h : W.ownsRow base e size v k xs) (hw : W.rowIs wb t N f) (hne : t ≠ e) : ∀ p n c, v = .slice (some p) n c → p.block ≠ wb := by
  intro p n c hv
  obtain ⟨cur, hb, _⟩ := hw
  have := own_ne h hb (fun cs e => by cases e; exact hne rfl)
  subst hv
  intro e
  exact this (by simp [Value.ownBlock, e])
/-- Sides are of so many sections. -/
def plcOk (n : Nat) : Plc → Prop
  | .fin s d _ => s < n ∧ d ≤ 1
  | .jnt l => 1 ≤ l.length ∧ l.length ≤ 3 ∧ ∀ i, i < l.length → (l.getD i (0, 0)).1 < n ∧ (l.getD i (0, 0)).2 ≤ 1
end Go.Proofs.Ytbmbcbknoflpgaa
