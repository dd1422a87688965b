/- The law of no tube: its parts. -/
import Derived.Test.YtbmbcbknoflpgaaI3
set_option linter.unusedSimpArgs false
set_option linter.unusedVariables false
namespace Go.Proofs.Ytbmbcbknoflpgaa
open Go.RowKit

/-- No tube: nil, or one with no main places. -/
def NoneT (w : World) (tp : Value) : Prop := tp = .pointer none ∨ ∃ tb, tp = .pointer (some ⟨tb, 0, none⟩) ∧ w.cell? ⟨tb, 1, none⟩ = some (.int .i64 0)
theorem NoneT.below {w W : World} {tp : Value} (h : NoneT w tp) (hb : Below w.heap.size w W) : NoneT W tp := by
  rcases h with rfl | ⟨tb, rfl, h⟩
  · exact .inl rfl
  · exact .inr ⟨tb, rfl, keep hb h⟩
theorem isNone_none {w : World} {tp : Value} (h : NoneT w tp) : Calls Try.prog 62 #[tp] w fun e w' => e = .returned (.bool true) ∧ w = w' := by
  rcases h with rfl | ⟨tb, rfl, h⟩
  · exact isNone_nil w
  · exact isNone_any tb 0 w h
theorem Step_nn {w : World} {tp : Value} (v : Value) (h : NoneT w tp) : Calls Try.prog 31 #[tp, v] w fun e w' => e = .returned (.tuple #[.agg #[.int .i64 0, .int .i64 0], .int .i64 1]) ∧ Below w.heap.size w w' :=
  Step_none tp v w fun _ hb => isNone_none (h.below hb)
theorem results_tmp4 {fn : Func} {t u v x : Tmp} (h : fn.results = #[.tmp t, .tmp u, .tmp v, .tmp x]) (tmps : Array Value) (P : Program) (w : World) :
    (results fn tmps).run P w = .ok (.tuple #[tmps.getD t undef, tmps.getD u undef, tmps.getD v undef, tmps.getD x undef]) w := by
  simp [results, h]
set_option maxHeartbeats 1000000 in
theorem Rest_nn {w : World} {tp : Value} (n : Int) (h : NoneT w tp) : Calls Try.prog 35 #[tp, .int .i64 n] w fun e w' => e = .returned (.tuple #[.slice none 0 0, .int .i64 1]) ∧ w = w' := by
  have HN := Lib.hid (isNone_none h)
  clear h
  go_enter Try.func35, Try.ntmps35
  go_wp2_with (go_at_call 62; with_reducible refine Calls.mono HN.out ?_; rintro e w1 ⟨rfl, rfl⟩)
  first
    | (go_ret; exact ⟨rfl, rfl⟩)
    | (go_ret2; exact ⟨rfl, rfl⟩)
    | ((try simp only [Exit.inBlock, Exit.then]); refine bodyPost_ret (results_tmp4 rfl _ _ _) rfl ?_; exact ⟨rfl, rfl⟩)
set_option maxHeartbeats 1000000 in
theorem Waves_nn {w : World} {tp : Value} (h : NoneT w tp) : Calls Try.prog 52 #[tp] w fun e w' => e = .returned (.tuple #[.slice none 0 0, .slice none 0 0, .slice none 0 0, .slice none 0 0]) ∧ w = w' := by
  have HN := Lib.hid (isNone_none h)
  clear h
  go_enter Try.func52, Try.ntmps52
  go_wp2_with (go_at_call 62; with_reducible refine Calls.mono HN.out ?_; rintro e w1 ⟨rfl, rfl⟩)
  first
    | (go_ret; exact ⟨rfl, rfl⟩)
    | (go_ret2; exact ⟨rfl, rfl⟩)
    | ((try simp only [Exit.inBlock, Exit.then]); refine bodyPost_ret (results_tmp4 rfl _ _ _) rfl ?_; exact ⟨rfl, rfl⟩)
set_option maxHeartbeats 1000000 in
theorem Change_nn {w : World} {tp : Value} (v1 v2 : Value) (h : NoneT w tp) : Calls Try.prog 27 #[tp, v1, v2] w fun e w' => e = .returned (.int .i64 1) ∧ w = w' := by
  have HN := Lib.hid (isNone_none h)
  clear h
  go_enter Try.func27, Try.ntmps27
  go_wp2_with (go_at_call 62; with_reducible refine Calls.mono HN.out ?_; rintro e w1 ⟨rfl, rfl⟩)
  first
    | (go_ret; exact ⟨rfl, rfl⟩)
    | (go_ret2; exact ⟨rfl, rfl⟩)
    | ((try simp only [Exit.inBlock, Exit.then]); refine bodyPost_ret (results_tmp4 rfl _ _ _) rfl ?_; exact ⟨rfl, rfl⟩)
set_option maxHeartbeats 1000000 in
theorem Energy_nn {w : World} {tp : Value} (h : NoneT w tp) : Calls Try.prog 34 #[tp] w fun e w' => e = .returned (.int .i64 0) ∧ w = w' := by
  have HN := Lib.hid (isNone_none h)
  clear h
  go_enter Try.func34, Try.ntmps34
  go_wp2_with (go_at_call 62; with_reducible refine Calls.mono HN.out ?_; rintro e w1 ⟨rfl, rfl⟩)
  first
    | (go_ret; exact ⟨rfl, rfl⟩)
    | (go_ret2; exact ⟨rfl, rfl⟩)
    | ((try simp only [Exit.inBlock, Exit.then]); refine bodyPost_ret (results_tmp4 rfl _ _ _) rfl ?_; exact ⟨rfl, rfl⟩)
set_option maxHeartbeats 1000000 in
theorem Steps_nn {w : World} {tp : Value} (h : NoneT w tp) : Calls Try.prog 36 #[tp] w fun e w' => e = .returned (.int .i64 0) ∧ w = w' := by
  have HN := Lib.hid (isNone_none h)
  clear h
  go_enter Try.func36, Try.ntmps36
  go_wp2_with (go_at_call 62; with_reducible refine Calls.mono HN.out ?_; rintro e w1 ⟨rfl, rfl⟩)
  first
    | (go_ret; exact ⟨rfl, rfl⟩)
    | (go_ret2; exact ⟨rfl, rfl⟩)
    | ((try simp only [Exit.inBlock, Exit.then]); refine bodyPost_ret (results_tmp4 rfl _ _ _) rfl ?_; exact ⟨rfl, rfl⟩)
end Go.Proofs.Ytbmbcbknoflpgaa
