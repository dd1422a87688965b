/- Proved: for every system of numerals and every number, the law NumeralChecks answers true, and its arguments read as they did. Conditions: none beyond those of the given row. -/
import Derived.Test.YtfcopnlpcbbocaaK1
import Derived.Test.YtfcopnlpcbbocaaL0
import Derived.JoinedCond
import Derived.JoinedOf
set_option linter.unusedSimpArgs false
set_option linter.unusedVariables false
namespace Go.Proofs.Ytfcopnlpcbbocaa
open Go.ChangeShapes Go.WideShapes Go.ChangeAt Go.RowKit Go.Deep

theorem own_knob : ownKnob Try.prog.godebug = none := by kernel_rfl
theorem sw3 {H : Type} {enc : TypeId × Value → H} : Sw enc Try.prog 3 := sw_int Try.underlying3
theorem sw9 {H : Type} {enc : TypeId × Value → H} : Sw enc Try.prog 9 := sw_string Try.underlying9
theorem sw57 {H : Type} {enc : TypeId × Value → H} : Sw enc Try.prog 57 := sw_int Try.underlying57
theorem sw90 {H : Type} {enc : TypeId × Value → H} : Sw enc Try.prog 90 := sw_struct Try.underlying90 (by simp [sw3, sw9])
theorem sw101 {H : Type} {enc : TypeId × Value → H} : Sw enc Try.prog 101 := sw_struct Try.underlying101 (by simp [sw3])
theorem sw59 {H : Type} {enc : TypeId × Value → H} : Sw enc Try.prog 59 := sw_struct Try.underlying59 (by simp [sw3, sw57])
theorem sw60 {H : Type} {enc : TypeId × Value → H} : Sw enc Try.prog 60 := sw_slice Try.underlying60 (by rw [c90]; omega) sw90
theorem sw52 {H : Type} {enc : TypeId × Value → H} : Sw enc Try.prog 52 := sw_slice Try.underlying52 (by rw [c59]; omega) sw59
theorem sw62 {H : Type} {enc : TypeId × Value → H} : Sw enc Try.prog 62 := sw_struct Try.underlying62 (by simp [sw3, sw60])
theorem sw54 {H : Type} {enc : TypeId × Value → H} : Sw enc Try.prog 54 := sw_struct Try.underlying54 (by simp [sw3, sw52])
theorem sw55 {H : Type} {enc : TypeId × Value → H} : Sw enc Try.prog 55 := sw_slice Try.underlying55 (by rw [c54]; omega) sw54
theorem sw22 {H : Type} {enc : TypeId × Value → H} : Sw enc Try.prog 22 := sw_slice Try.underlying22 (by rw [c62]; omega) sw62
theorem sw23 {H : Type} {enc : TypeId × Value → H} : Sw enc Try.prog 23 := sw_slice Try.underlying23 (by rw [c101]; omega) sw101
theorem sw24 {H : Type} {enc : TypeId × Value → H} : Sw enc Try.prog 24 := sw_slice Try.underlying24 (by rw [c55]; omega) sw55
theorem sw26 {H : Type} {enc : TypeId × Value → H} : Sw enc Try.prog 26 := sw_struct Try.underlying26 (by simp [sw3, sw22, sw23, sw24])

set_option maxRecDepth 100000 in
theorem checks_contract (H : Type) (enc : TypeId × Value → H) (W : World) (base : Nat) (args : Array Value) (ds gs : List (DataW H)) (before : List MemPlace)
    (hval : ∀ (j : Nat) t v, Try.f3.params[j]? = some t → args[j]? = some v → Value.okWide Try.prog W .any base t v)
    (hW : DataW.Whole enc Try.prog Try.f3.params.toList Rows.numeralChecksSpec.vars false W args.toList ds gs before) :
    Calls Try.prog 3 args W fun e W' => ∃ v, e = .returned v ∧ Rows.numeralChecksSpec.post enc Try.prog Try.f3 false true false false W args v W' := by
  have hW' := hW
  obtain ⟨p, q, hA0, hV, rfl, hfz, hnd⟩ := hW
  have hA : DataW.TrodAll enc Try.prog W 0 (fun _ => true) true Try.f3.params.toList args.toList ds p := hA0
  have hpar : Try.f3.params = #[26, 3] := Try.params3
  rw [hpar] at hA hval
  obtain ⟨v0, vs0, d0, ds0, p0, q0, hargs, rfl, rfl, h0, r0⟩ := trodAll_cons hA
  obtain ⟨v1, vs1, d1, ds1, p1, q1, hargs1, rfl, rfl, h1, r1⟩ := trodAll_cons r0
  obtain ⟨rfl, rfl, rfl⟩ := trodAll_nil r1
  obtain rfl : args = #[v0, v1] := by cases args; simp_all
  obtain ⟨rfl, rfl⟩ := trodVars_none hV
  obtain ⟨S, vt, vp, vs, rfl, hS⟩ := sys_of (hval 0 26 v0 rfl rfl) h0
  obtain ⟨n, rfl, rfl, rfl, w1⟩ := open_int Try.underlying3 (hval 1 3 v1 rfl rfl) h1
  refine (checks_any S n vt vp vs W hS).mono fun e W' ⟨he, hg⟩ => ?_
  subst he
  refine ⟨_, rfl, true_post hW' rfl ?_ rfl Try.underlying4 rfl hg⟩
  rw [hpar]
  simp [sw26, sw3]

set_option maxRecDepth 100000 in
theorem checks_lifted (os : Os) (started : os.Started) (H : Type) (enc : TypeId × Value → H) :
    ReturnsInHanded {} Try.checked os 3 .any (Rows.numeralChecksSpec.pre6 enc Try.prog Try.f3 Rows.numeralChecksRow.domain false) (Rows.numeralChecksSpec.post enc Try.prog Try.f3 false true false false) := by
  refine returnsInHanded_of_change (C := Try.checked) (s := Rows.numeralChecksSpec) own_knob started (by kernel_rfl) Try.func3
    (ChangeSpec.witness6 (enc := enc) (C := Try.checked) (s := Rows.numeralChecksSpec) false ⟨#[], #[.agg #[.int .i64 0, .int .i64 0, .int .i64 0, .int .i64 0, .slice none 0 0, .slice none 0 0, .slice none 0 0], .int .i64 0], []⟩ 8 (by kernel_rfl) (by kernel_rfl) (by kernel_rfl) (by kernel_rfl)) ?_
  intro W base args ds gs before hval hW _ _
  exact checks_contract H enc W base args ds gs before hval hW

theorem checks_over : Rows.numeralChecksRow.holds Try.pinned (OpenSpec.ofChange Rows.numeralChecksSpec) :=
  OpenClaim.holds_of_wide 3 Try.f3 rfl rfl rfl rfl rfl rfl rfl ⟨rfl, rfl, rfl, rfl, rfl⟩ rfl rfl rfl rfl rfl (by kernel_rfl) Try.func3 (by kernel_rfl)
    (of_decide_eq_true (by kernel_rfl)) (by unfold Func.isWrapper; first | (rw [if_pos (by decide +kernel)]; kernel_rfl) | (rw [if_neg (by decide +kernel)]; exact ⟨rfl, rfl⟩))
    (fun os started H enc _ => checks_lifted os started H enc)

theorem checks_proved : Rows.NumeralChecksSaid :=
  checks_over
end Go.Proofs.Ytfcopnlpcbbocaa
