/- The other arguments of layer 1, opened: an ask, words, a rule by value. -/
import Derived.Test.YtfcopnlpcbbocaaL0
import Derived.Test.YtfcopnlpcbbocaaF4
set_option linter.unusedSimpArgs false
set_option linter.unusedVariables false
namespace Go.Proofs.Ytfcopnlpcbbocaa
open Go.ChangeShapes Go.WideShapes Go.RowKit Go.Deep

section
variable {H : Type} {enc : TypeId × Value → H} {w : World} {base : Nat} {spare : Nat → Bool} {held : Bool}

theorem c36 : Try.prog.cellsOf 36 = 4 := by kernel_rfl

/-- An int that is read lies in its range. -/
theorem range_of {P : Program} {t : TypeId} {fuel : Nat} {cs : List Value} {x : DataW H × List MemPlace} (ht : P.underlying t = some (.int .i64)) (h : DataW.trod enc P w base spare held fuel t cs = some x) :
    ∃ n, cs = [.int .i64 n] ∧ -9223372036854775808 ≤ n ∧ n ≤ 9223372036854775807 := by
  obtain ⟨n, e, _, hw⟩ := DataW.trod_int ht h
  have : -9223372036854775808 ≤ n ∧ n ≤ 9223372036854775807 := by simpa [Lit.wf, IntKind.min, IntKind.max, IntKind.signed, IntKind.bits] using hw
  exact ⟨n, e, this⟩

/-- The numbers of an ask lie in the range of an int. -/
def Ask.fits (a : Ask) : Prop :=
  (-9223372036854775808 ≤ a.num ∧ a.num ≤ 9223372036854775807) ∧ (-9223372036854775808 ≤ a.set ∧ a.set ≤ 9223372036854775807) ∧ (-9223372036854775808 ≤ a.gen ∧ a.gen ≤ 9223372036854775807) ∧ (-9223372036854775808 ≤ a.kas ∧ a.kas ≤ 9223372036854775807)

set_option maxRecDepth 100000 in
/-- An ask that is handed over. -/
theorem ask_of {r : Reach} {b0 : Nat} {v : Value} {d : DataW H} {p : List MemPlace} (hv : Value.okWide Try.prog w r b0 36 v) (h : DataW.Trod enc Try.prog w base spare held 36 v d p) : ∃ a : Ask, v = a.val ∧ a.fits := by
  obtain ⟨cs, rfl, hsz⟩ := okWide_struct (P := Try.prog) (t := 36) (w := w) (r := r) (base := b0) (v := v) Try.underlying36 hv
  obtain ⟨l⟩ := cs
  match l, hsz.trans c36 with
  | [v0, v1, v2, v3], _ =>
    obtain ⟨fuel, hf⟩ := h
    obtain ⟨_, _, h0⟩ := fld Try.underlying36 hf 0 3 0 rfl
    obtain ⟨_, _, h1⟩ := fld Try.underlying36 hf 1 3 1 rfl
    obtain ⟨_, _, h2⟩ := fld Try.underlying36 hf 2 3 2 rfl
    obtain ⟨_, _, h3⟩ := fld Try.underlying36 hf 3 3 3 rfl
    simp only [Value.cells, c3, List.drop_zero, List.drop_succ_cons, List.take_succ_cons, List.take_zero] at h0 h1 h2 h3
    obtain ⟨a0, e0, k0⟩ := range_of Try.underlying3 h0
    obtain ⟨a1, e1, k1⟩ := range_of Try.underlying3 h1
    obtain ⟨a2, e2, k2⟩ := range_of Try.underlying3 h2
    obtain ⟨a3, e3, k3⟩ := range_of Try.underlying3 h3
    injection e0 with e0; injection e1 with e1; injection e2 with e2; injection e3 with e3
    subst e0 e1 e2 e3
    exact ⟨⟨a0, a1, a2, a3⟩, rfl, k0, k1, k2, k3⟩

set_option maxRecDepth 100000 in
/-- A rule that is handed over by value. -/
theorem rule_of {r : Reach} {b0 : Nat} {v : Value} {d : DataW H} {p : List MemPlace} (hv : Value.okWide Try.prog w r b0 54 v) (h : DataW.Trod enc Try.prog w base spare held 54 v d p) :
    ∃ (R : Rul) (vp : Value), v = .agg #[.int .i64 R.base, .int .i64 R.div, vp] ∧ SliceV w vp 4 PceAt R.pieces := by
  obtain ⟨cs, rfl, hsz⟩ := okWide_struct (P := Try.prog) (t := 54) (w := w) (r := r) (base := b0) (v := v) Try.underlying54 hv
  obtain ⟨l⟩ := cs
  match l, hsz.trans c54 with
  | [v0, v1, v2], _ =>
    obtain ⟨fuel, hf⟩ := h
    obtain ⟨_, _, h0⟩ := fld Try.underlying54 hf 0 3 0 rfl
    obtain ⟨_, _, h1⟩ := fld Try.underlying54 hf 1 3 1 rfl
    obtain ⟨_, _, h2⟩ := fld Try.underlying54 hf 2 52 2 rfl
    simp only [Value.cells, c3, c52, List.drop_zero, List.drop_succ_cons, List.take_succ_cons, List.take_zero] at h0 h1 h2
    obtain ⟨a, e0⟩ := int_of Try.underlying3 h0
    obtain ⟨b, e1⟩ := int_of Try.underlying3 h1
    obtain ⟨v, xs, e2, hp⟩ := slice_of (R := PceAt) Try.underlying52 c59 (by omega) pce_of h2
    injection e0 with e0; injection e1 with e1; injection e2 with e2
    subst e0 e1 e2
    exact ⟨⟨a, b, xs⟩, _, rfl, hp⟩

set_option maxRecDepth 100000 in
/-- Words that are handed over. -/
theorem words_of {r : Reach} {b0 : Nat} {v : Value} {d : DataW H} {p : List MemPlace} (hv : Value.okWide Try.prog w r b0 37 v) (h : DataW.Trod enc Try.prog w base spare held 37 v d p) :
    ∃ xs : List ByteArray, SliceV w v 1 (fun w b o t => StrAt w b o t ∧ t.size ≤ most) xs := by
  obtain ⟨fuel, hf⟩ := h
  obtain ⟨v', xs, e, hs⟩ := slice_of (R := fun w b o t => StrAt w b o t ∧ t.size ≤ most) Try.underlying37 c9 (by omega) (fun n cs x b o h _ hc => by
    obtain ⟨s, rfl, _, hs⟩ := DataW.trod_string Try.underlying9 h
    exact ⟨s, hc 0 _ rfl, Nat.le_trans hs (by unfold maxLen most; omega)⟩) hf
  obtain ⟨a, l, c, rfl⟩ := okWide_slice (P := Try.prog) (t := 37) (w := w) (r := r) (base := b0) (v := v) Try.underlying37 hv
  have e' : [Value.slice a l c] = [v'] := e
  injection e' with e'
  subst e'
  exact ⟨xs, hs⟩
end
end Go.Proofs.Ytfcopnlpcbbocaa
