/- A law: a slice of ints, perhaps empty, is appended to one's own slice of ints; joining by the specification. -/
import Derived.Test.YtbeeddenidfenaaB10
import Derived.Deep.Upon
set_option linter.unusedSimpArgs false
set_option linter.unusedVariables false
namespace Go.Proofs.Ytbeeddenidfenaa
open Go.RowKit

theorem run_append_zero (w : World) (base : Nat) (v : Value) (n : Nat) (xs : List Value) (hown : w.ownsRow base 3 1 v n xs) (ad : Option Addr) (c : Nat) (ty : TypeId) :
    (Builtin.append_ #[22, 22] ty #[v, .slice ad 0 c]).run Try.prog w = .ok v w := by
  obtain ⟨i3, hi, hz0, hz1, hz2⟩ := info_parts infoI
  have hsrc : Src Try.prog i3.size 22 (.slice ad 0 c) 0 [] w := by
    cases ad with
    | none => exact Src.ofNil w Try.underlying22 c
    | some a => exact Src.ofSlice w Try.underlying22 a 0 c [] (by simp) (fun j u h => by simp at h) (by simp)
  rcases hown.2 with ⟨rfl, rfl⟩ | ⟨g, cap, cur, rfl, _, _, hc, _⟩
  · exact run_append_nothing w 22 22 ty 3 i3 Try.underlying22 hi none 0 0 (Nat.le_refl _) _ hsrc
  · exact run_append_nothing w 22 22 ty 3 i3 Try.underlying22 hi (some ⟨g, 0, none⟩) n cap hc _ hsrc
/-- What is asked of the slice that is appended. -/
def SrcI (w : World) (ad : Option Addr) (news : List Int) : Prop := news = [] ∨ ∃ a, ad = some a ∧ ∀ (j : Nat) (u : Value), (intV news)[j]? = some u → w.cell? (a.add j) = some u
theorem src_of {w : World} {ad : Option Addr} {n c : Nat} {l : List Int} (h : SliceV w (.slice ad n c) 1 IntAt l) : SrcI w ad l := by
  obtain ⟨a, c', hv, -, hx⟩ := h
  obtain ⟨rfl, -, -⟩ := Value.slice.inj hv
  rcases hx with hx | ⟨b, o, rfl, hf⟩
  · exact .inl hx
  · exact .inr ⟨_, rfl, ints_news hf⟩
theorem wpList_append_ints {w : World} {ops : Array Oper} {rest : List Oper} {o : Oper} {a : Act} {Q : Exit → Act → World → Prop} (hgd : o.guard = none) (s x : Operand)
    (ho : o.op = .call { callee := .builtin .append, args := #[s, x], argTypes := #[22, 22] })
    (base : Nat) (v : Value) (n : Nat) (xs : List Int) (hs : a.eval s = v) (hown : w.ownsRow base 3 1 v n (intV xs))
    (ad : Option Addr) (m c : Nat) (news : List Int) (hx : a.eval x = .slice ad m c) (hl : news.length = m) (hsrc : SrcI w ad news) (h63 : n + m ≤ 10000000) (hbase : base ≤ w.heap.size)
    (h : ∀ v' w', w'.ownsRow base 3 1 v' (n + m) (intV (xs ++ news)) → Below base w w' → wpList Try.prog ops Q rest (a.put o.dst v') w') : wpList Try.prog ops Q (o :: rest) a w := by
  by_cases h0 : m = 0
  · subst h0
    obtain rfl : news = [] := List.eq_nil_of_length_eq_zero hl
    refine wpList_plain hgd fun K hK => ?_
    have hrun := run_append_zero w base v n _ hown ad c o.type
    unfold Oper.wp
    simp [execOp, ho, resolve, invoke, builtin, hs, hx, hrun, Result.andThen]
    exact hK _ _ (h v w (by simpa using hown) (Below.refl _ _))
  · obtain ⟨i3, hi, hz0, hz1, hz2⟩ := info_parts infoI
    have hne : news ≠ [] := by intro e; rw [e] at hl; simp at hl; omega
    obtain ⟨a', rfl, hn⟩ := hsrc.resolve_left hne
    refine wpList_append_lies w hgd s x 22 ho base 3 i3 _ 1 8 Try.underlying22 hi hz0 hz1 hz2 rfl (by decide) v n (intV xs) hs hown a' m c (intV news) hx (by rw [intV_len, hl]; omega) hn (ints_one _) (by omega) (by unfold maxLen; omega) (by omega) hbase w.heap.size rfl ?_
    intro g cap w' h1 h2 _ _
    exact h _ w' (by rw [intV_append]; exact h1) (below_grown h2 hown hbase)
theorem step_append_ints {w : World} {ops : Array Oper} {o : Oper} {a : Act} {K : Act → World → Prop} {Q : Exit → Act → World → Prop} {E : Prop} (hgd : o.guard = none) (s x : Operand)
    (ho : o.op = .call { callee := .builtin .append, args := #[s, x], argTypes := #[22, 22] })
    (base : Nat) (v : Value) (n : Nat) (xs : List Int) (hs : a.eval s = v) (hown : w.ownsRow base 3 1 v n (intV xs))
    (ad : Option Addr) (m c : Nat) (news : List Int) (hx : a.eval x = .slice ad m c) (hl : news.length = m) (hsrc : SrcI w ad news) (h63 : n + m ≤ 10000000) (hbase : base ≤ w.heap.size)
    (h : ∀ v' w', w'.ownsRow base 3 1 v' (n + m) (intV (xs ++ news)) → Below base w w' → K (a.put o.dst v') w') :
    if Region.wanted o (yielded ops a.tmps) = true then Oper.wp Try.prog o a w K Q else E := by
  by_cases h0 : m = 0
  · subst h0
    obtain rfl : news = [] := List.eq_nil_of_length_eq_zero hl
    have hw : Region.wanted o (yielded ops a.tmps) = true := by simp [Region.wanted, hgd]
    rw [if_pos hw]
    have hrun := run_append_zero w base v n _ hown ad c o.type
    unfold Oper.wp
    simp [execOp, ho, resolve, invoke, builtin, hs, hx, hrun, Result.andThen]
    exact h v w (by simpa using hown) (Below.refl _ _)
  · obtain ⟨i3, hi, hz0, hz1, hz2⟩ := info_parts infoI
    have hne : news ≠ [] := by intro e; rw [e] at hl; simp at hl; omega
    obtain ⟨a', rfl, hn⟩ := hsrc.resolve_left hne
    refine step_append_lies w hgd s x 22 ho base 3 i3 _ 1 8 Try.underlying22 hi hz0 hz1 hz2 rfl (by decide) v n (intV xs) hs hown a' m c (intV news) hx (by rw [intV_len, hl]; omega) hn (ints_one _) (by omega) (by unfold maxLen; omega) (by omega) hbase w.heap.size rfl ?_
    intro g cap w' h1 h2 _ _
    exact h _ w' (by rw [intV_append]; exact h1) (below_grown h2 hown hbase)
end Go.Proofs.Ytbeeddenidfenaa
