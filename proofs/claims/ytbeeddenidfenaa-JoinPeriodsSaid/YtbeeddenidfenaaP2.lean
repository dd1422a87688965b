/- A box whose two fields are rows of one's own, appended to in turn; building by the specification. -/
import Derived.Test.YtbeeddenidfenaaP1
import Derived.Test.YtbeeddenidfenaaD4
import Derived.Deep.Cut
set_option linter.unusedSimpArgs false
set_option linter.unusedVariables false
namespace Go.Proofs.Ytbeeddenidfenaa
open Go.RowKit

theorem wpList_append_ints2 {w : World} {ops : Array Oper} {rest : List Oper} {o : Oper} {a : Act} {Q : Exit → Act → World → Prop} (hgd : o.guard = none) (s x : Operand)
    (ho : o.op = .call { callee := .builtin .append, args := #[s, x], argTypes := #[22, 22] })
    (base : Nat) (v : Value) (n : Nat) (xs : List Int) (hs : a.eval s = v) (hown : w.ownsRow base 3 1 v n (intV xs))
    (ad : Option Addr) (m c : Nat) (news : List Int) (hx : a.eval x = .slice ad m c) (hl : news.length = m) (hsrc : SrcI w ad news) (h63 : n + m ≤ 10000000) (hbase : base ≤ w.heap.size)
    (h : ∀ v' w', w'.ownsRow base 3 1 v' (n + m) (intV (xs ++ news)) → w.grownBy w' v.ownBlock → (v'.ownBlock = v.ownBlock ∨ v'.ownBlock = some w.heap.size) → wpList Try.prog ops Q rest (a.put o.dst v') w') : wpList Try.prog ops Q (o :: rest) a w := by
  by_cases h0 : m = 0
  · subst h0
    obtain rfl : news = [] := List.eq_nil_of_length_eq_zero hl
    refine wpList_plain hgd fun K hK => ?_
    have hrun := run_append_zero w base v n _ hown ad c o.type
    unfold Oper.wp
    simp [execOp, ho, resolve, invoke, builtin, hs, hx, hrun, Result.andThen]
    exact hK _ _ (h v w (by simpa using hown) (gb_refl _ _) (.inl rfl))
  · obtain ⟨i3, hi, hz0, hz1, hz2⟩ := info_parts infoI
    have hne : news ≠ [] := by intro e; rw [e] at hl; simp at hl; omega
    obtain ⟨a', rfl, hn⟩ := hsrc.resolve_left hne
    refine wpList_append_lies w hgd s x 22 ho base 3 i3 _ 1 8 Try.underlying22 hi hz0 hz1 hz2 rfl (by decide) v n (intV xs) hs hown a' m c (intV news) hx (by rw [intV_len, hl]; omega) hn (ints_one _) (by omega) (by unfold maxLen; omega) (by omega) hbase w.heap.size rfl ?_
    intro g cap w' h1 h2 h3 _
    refine h _ w' (by rw [intV_append]; exact h1) h2 ?_
    rcases h3 with h3 | h3
    · exact .inl h3.symm
    · exact .inr (by rw [← h3]; rfl)
theorem step_append_ints2 {w : World} {ops : Array Oper} {o : Oper} {a : Act} {K : Act → World → Prop} {Q : Exit → Act → World → Prop} {E : Prop} (hgd : o.guard = none) (s x : Operand)
    (ho : o.op = .call { callee := .builtin .append, args := #[s, x], argTypes := #[22, 22] })
    (base : Nat) (v : Value) (n : Nat) (xs : List Int) (hs : a.eval s = v) (hown : w.ownsRow base 3 1 v n (intV xs))
    (ad : Option Addr) (m c : Nat) (news : List Int) (hx : a.eval x = .slice ad m c) (hl : news.length = m) (hsrc : SrcI w ad news) (h63 : n + m ≤ 10000000) (hbase : base ≤ w.heap.size)
    (h : ∀ v' w', w'.ownsRow base 3 1 v' (n + m) (intV (xs ++ news)) → w.grownBy w' v.ownBlock → (v'.ownBlock = v.ownBlock ∨ v'.ownBlock = some w.heap.size) → K (a.put o.dst v') w') :
    if Region.wanted o (yielded ops a.tmps) = true then Oper.wp Try.prog o a w K Q else E := by
  by_cases h0 : m = 0
  · subst h0
    obtain rfl : news = [] := List.eq_nil_of_length_eq_zero hl
    have hw : Region.wanted o (yielded ops a.tmps) = true := by simp [Region.wanted, hgd]
    rw [if_pos hw]
    have hrun := run_append_zero w base v n _ hown ad c o.type
    unfold Oper.wp
    simp [execOp, ho, resolve, invoke, builtin, hs, hx, hrun, Result.andThen]
    exact h v w (by simpa using hown) (gb_refl _ _) (.inl rfl)
  · obtain ⟨i3, hi, hz0, hz1, hz2⟩ := info_parts infoI
    have hne : news ≠ [] := by intro e; rw [e] at hl; simp at hl; omega
    obtain ⟨a', rfl, hn⟩ := hsrc.resolve_left hne
    refine step_append_lies w hgd s x 22 ho base 3 i3 _ 1 8 Try.underlying22 hi hz0 hz1 hz2 rfl (by decide) v n (intV xs) hs hown a' m c (intV news) hx (by rw [intV_len, hl]; omega) hn (ints_one _) (by omega) (by unfold maxLen; omega) (by omega) hbase w.heap.size rfl ?_
    intro g cap w' h1 h2 h3 _
    refine h _ w' (by rw [intV_append]; exact h1) h2 ?_
    rcases h3 with h3 | h3
    · exact .inl h3.symm
    · exact .inr (by rw [← h3]; rfl)

/-- A box of two rows of one's own. -/
structure BlBox (W : World) (base ob sl ml : Nat) (S M : List Int) (sv mv : Value) : Prop where
  box : W.heap[ob]? = some (.cells #[sv, mv] 24 (0, 0))
  sam : W.ownsRow base 3 1 sv sl (intV S)
  mks : W.ownsRow base 3 1 mv ml (intV M)
  apart : sv.ownBlock = none ∨ sv.ownBlock ≠ mv.ownBlock
  low : base ≤ W.heap.size
theorem BlBox.keep {W W' : World} {base ob sl ml : Nat} {S M : List Int} {sv mv : Value} (h : BlBox W base ob sl ml S M sv mv) (hB : Below W.heap.size W W') : BlBox W' base ob sl ml S M sv mv :=
  ⟨heap_keep hB h.box, ownsRow_below h.sam hB, ownsRow_below h.mks hB, h.apart, Nat.le_trans h.low hB.size⟩
theorem BlBox.addS {W w' : World} {base ob sl ml sl' : Nat} {S M S' : List Int} {sv mv sv' : Value} (h : BlBox W base ob sl ml S M sv mv) (hob : base ≤ ob) (ho : w'.ownsRow base 3 1 sv' sl' (intV S')) (hg : W.grownBy w' sv.ownBlock) (hn : sv'.ownBlock = sv.ownBlock ∨ sv'.ownBlock = some W.heap.size) :
    w'.heap[ob]? = some (.cells #[sv, mv] 24 (0, 0)) ∧ BlBox (w'.setCell ⟨ob, 0, none⟩ sv') base ob sl' ml S' M sv' mv ∧ Below base W (w'.setCell ⟨ob, 0, none⟩ sv') := by
  have hlt := (Array.getElem?_eq_some_iff.1 h.box).1
  have hne : sv.ownBlock ≠ some ob := own_ne h.sam h.box (fun cs e => by cases e)
  have hb1 : w'.heap[ob]? = some (.cells #[sv, mv] 24 (0, 0)) := (hg.block ob hlt (fun e => hne e.symm)).trans h.box
  have hbw := below_grown hg h.sam h.low
  have hm1 : w'.ownsRow base 3 1 mv ml (intV M) := h.mks.kept hg (by
    rcases h.apart with e | e
    · by_cases hm : mv.ownBlock = none
      · exact .inl hm
      · exact .inr (by rw [e]; exact hm)
    · exact .inr e.symm)
  refine ⟨hb1, ⟨set2_0 hb1 sv', ho.kept (gb_set w' ob 0 sv') (.inr (own_ne ho hb1 (fun cs e => by cases e))), hm1.kept (gb_set w' ob 0 sv') (.inr (own_ne hm1 hb1 (fun cs e => by cases e))), ?_, ?_⟩, hbw.setCell (p := ⟨ob, 0, none⟩) hob _⟩
  · rcases hn with e | e
    · rw [e]; exact h.apart
    · rw [e]
      refine .inr fun e2 => ?_
      have := (h.mks.lt _ e2.symm).2
      omega
  · have h1 := hg.size
    have h2 := h.low
    show base ≤ (w'.heap.modify ob _).size
    rw [Array.size_modify]
    omega
theorem BlBox.addM {W w' : World} {base ob sl ml ml' : Nat} {S M M' : List Int} {sv mv mv' : Value} (h : BlBox W base ob sl ml S M sv mv) (hob : base ≤ ob) (ho : w'.ownsRow base 3 1 mv' ml' (intV M')) (hg : W.grownBy w' mv.ownBlock) (hn : mv'.ownBlock = mv.ownBlock ∨ mv'.ownBlock = some W.heap.size) :
    w'.heap[ob]? = some (.cells #[sv, mv] 24 (0, 0)) ∧ BlBox (w'.setCell ⟨ob, 1, none⟩ mv') base ob sl ml' S M' sv mv' ∧ Below base W (w'.setCell ⟨ob, 1, none⟩ mv') := by
  have hlt := (Array.getElem?_eq_some_iff.1 h.box).1
  have hne : mv.ownBlock ≠ some ob := own_ne h.mks h.box (fun cs e => by cases e)
  have hb1 : w'.heap[ob]? = some (.cells #[sv, mv] 24 (0, 0)) := (hg.block ob hlt (fun e => hne e.symm)).trans h.box
  have hbw := below_grown hg h.mks h.low
  have hs1 : w'.ownsRow base 3 1 sv sl (intV S) := h.sam.kept hg h.apart
  refine ⟨hb1, ⟨set2_1 hb1 mv', hs1.kept (gb_set w' ob 1 mv') (.inr (own_ne hs1 hb1 (fun cs e => by cases e))), ho.kept (gb_set w' ob 1 mv') (.inr (own_ne ho hb1 (fun cs e => by cases e))), ?_, ?_⟩, hbw.setCell (p := ⟨ob, 1, none⟩) hob _⟩
  · rcases hn with e | e
    · rw [e]; exact h.apart
    · rw [e]
      by_cases hs : sv.ownBlock = none
      · exact .inl hs
      refine .inr fun e2 => ?_
      have := (h.sam.lt _ e2).2
      omega
  · have h1 := hg.size
    have h2 := h.low
    show base ≤ (w'.heap.modify ob _).size
    rw [Array.size_modify]
    omega
end Go.Proofs.Ytbeeddenidfenaa
