/- Contracts: the form of a term; what is asked of quotients and rests. -/
import Derived.Test.YtfcopnlpcbbocaaC7
import Derived.Test.YtfcopnlpcbbocaaP1
namespace Go.Proofs.Ytfcopnlpcbbocaa
open Go.RowKit

abbrev feats (a b c : Int) : Value := .agg #[.int .i64 a, .int .i64 b, .int .i64 c]
def fill (x y : Int) : Int := if x = -1 then y else x
theorem fill_neg (y : Int) : fill (-1) y = y := rfl
theorem fill_other {x y : Int} (h : ¬ x = -1) : fill x y = x := if_neg h

set_option maxHeartbeats 2000000 in
theorem filled_any (a b c x y z : Int) (w : World) :
    Calls Try.prog 106 #[feats a b c, feats x y z] w fun e w' => e = .returned (feats (fill a x) (fill b y) (fill c z)) ∧ Below w.heap.size w w' := by
  have i0 : ∀ w, (Instr.index 164 (.agg #[.int .i64 a, .int .i64 b, .int .i64 c]) (.int .i64 0)).run Try.prog w = .ok (.int .i64 a) w := fun _ => by kernel_rfl
  have i1 : ∀ w, (Instr.index 164 (.agg #[.int .i64 a, .int .i64 b, .int .i64 c]) (.int .i64 1)).run Try.prog w = .ok (.int .i64 b) w := fun _ => by kernel_rfl
  have i2 : ∀ w, (Instr.index 164 (.agg #[.int .i64 a, .int .i64 b, .int .i64 c]) (.int .i64 2)).run Try.prog w = .ok (.int .i64 c) w := fun _ => by kernel_rfl
  by_cases ha : a = -1 <;> by_cases hb : b = -1 <;> by_cases hc : c = -1
  all_goals
    (try subst ha); (try subst hb); (try subst hc)
    (try simp only [fill_neg]); (try simp only [fill_other ha]); (try simp only [fill_other hb]); (try simp only [fill_other hc])
    go_enter Try.func106, Try.ntmps106
    go_wp2_with fail
    refine wp_loop_rounds 4 ?_
    rw [rounds_succ]
    go_wp2_with fail
    rw [rounds_succ]
    go_wp2_with fail
    rw [rounds_succ]
    go_wp2_with fail
    rw [rounds_succ]
    go_wp2_with fail
    refine bodyPost_ret ?_ rfl ⟨rfl, ?_⟩
    · simp [results, Try.results106, go_sem]
    · repeat (first | exact Below.refl _ _ | refine bAlloc ?_ _ | refine Below.setCell ?_ (by simp <;> omega) _)
end Go.Proofs.Ytfcopnlpcbbocaa
