/- Data of each type reads the same in a later world: the types of the other laws' arguments. -/
import Derived.Test.YtfcopnlpcbbocaaL3
import Derived.JoinedCond
import Derived.JoinedOf
set_option linter.unusedSimpArgs false
set_option linter.unusedVariables false
namespace Go.Proofs.Ytfcopnlpcbbocaa
open Go.ChangeShapes Go.WideShapes Go.ChangeAt Go.RowKit Go.Deep

theorem own_knob' : ownKnob Try.prog.godebug = none := by kernel_rfl
section
variable {H : Type} {enc : TypeId × Value → H}
theorem tw3 : Sw enc Try.prog 3 := sw_int Try.underlying3
theorem tw9 : Sw enc Try.prog 9 := sw_string Try.underlying9
theorem tw57 : Sw enc Try.prog 57 := sw_int Try.underlying57
theorem tw90 : Sw enc Try.prog 90 := sw_struct Try.underlying90 (by simp [tw3, tw9])
theorem tw101 : Sw enc Try.prog 101 := sw_struct Try.underlying101 (by simp [tw3])
theorem tw59 : Sw enc Try.prog 59 := sw_struct Try.underlying59 (by simp [tw3, tw57])
theorem tw60 : Sw enc Try.prog 60 := sw_slice Try.underlying60 (by rw [c90]; omega) tw90
theorem tw52 : Sw enc Try.prog 52 := sw_slice Try.underlying52 (by rw [c59]; omega) tw59
theorem tw62 : Sw enc Try.prog 62 := sw_struct Try.underlying62 (by simp [tw3, tw60])
theorem tw54 : Sw enc Try.prog 54 := sw_struct Try.underlying54 (by simp [tw3, tw52])
theorem tw55 : Sw enc Try.prog 55 := sw_slice Try.underlying55 (by rw [c54]; omega) tw54
theorem tw22 : Sw enc Try.prog 22 := sw_slice Try.underlying22 (by rw [c62]; omega) tw62
theorem tw23 : Sw enc Try.prog 23 := sw_slice Try.underlying23 (by rw [c101]; omega) tw101
theorem tw24 : Sw enc Try.prog 24 := sw_slice Try.underlying24 (by rw [c55]; omega) tw55
theorem tw26 : Sw enc Try.prog 26 := sw_struct Try.underlying26 (by simp [tw3, tw22, tw23, tw24])
theorem tw36 : Sw enc Try.prog 36 := sw_struct Try.underlying36 (by simp [tw3])
theorem tw37 : Sw enc Try.prog 37 := sw_slice Try.underlying37 (by rw [c9]; omega) tw9
end
end Go.Proofs.Ytfcopnlpcbbocaa
