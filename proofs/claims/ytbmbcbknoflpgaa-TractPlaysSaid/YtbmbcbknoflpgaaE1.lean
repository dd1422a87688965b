/- Contracts: a tube in memory; its small functions. -/
import Derived.Test.YtbmbcbknoflpgaaG0
set_option linter.unusedSimpArgs false
set_option linter.unusedVariables false
namespace Go.Proofs.Ytbmbcbknoflpgaa
open Go.RowKit

/-- A tube's box: its areas, how many sections are of the main tube, its places, its waves (two states), its steps. -/
structure TubeAt (w : World) (tb : Nat) (aa : Option Addr) (n ac main : Nat) (pv : Value) (wb steps : Nat) : Prop where
  areas : w.cell? ⟨tb, 0, none⟩ = some (.slice aa n ac)
  main : w.cell? ⟨tb, 1, none⟩ = some (.int .i64 main)
  places : w.cell? ⟨tb, 2, none⟩ = some pv
  waves : w.cell? ⟨tb, 3, none⟩ = some (.slice (some ⟨wb, 0, none⟩) (2 * n) (2 * n))
  steps : w.cell? ⟨tb, 4, none⟩ = some (.int .i64 steps)
theorem TubeAt.keep {w w' : World} {tb n ac main wb steps : Nat} {aa : Option Addr} {pv : Value} (h : TubeAt w tb aa n ac main pv wb steps) (hB : Below w.heap.size w w') : TubeAt w' tb aa n ac main pv wb steps :=
  ⟨Go.Proofs.Ytbmbcbknoflpgaa.keep hB h.1, Go.Proofs.Ytbmbcbknoflpgaa.keep hB h.2, Go.Proofs.Ytbmbcbknoflpgaa.keep hB h.3, Go.Proofs.Ytbmbcbknoflpgaa.keep hB h.4, Go.Proofs.Ytbmbcbknoflpgaa.keep hB h.5⟩
set_option maxHeartbeats 400000 in
theorem isNone_nil (w : World) : Calls Try.prog 62 #[.pointer none] w fun e w' => e = .returned (.bool true) ∧ w = w' := by
  go_enter Try.func62, Try.ntmps62
  go_wp2
  go_ret
  exact ⟨rfl, rfl⟩
set_option maxHeartbeats 400000 in
theorem isNone_any (tb m : Nat) (w : World) (h : w.cell? ⟨tb, 1, none⟩ = some (.int .i64 m)) : Calls Try.prog 62 #[.pointer (some ⟨tb, 0, none⟩)] w fun e w' => e = .returned (.bool (decide (m = 0))) ∧ w = w' := by
  have hl := cell_lt h
  by_cases hm : m = 0
  · subst hm
    go_enter Try.func62, Try.ntmps62
    go_wp2
    go_ret
    exact ⟨ret_bool (by first | rfl | simp), rfl⟩
  · have h1 : ((m : Int) == 0) = false := by simp; exact hm
    rw [decide_eq_false hm]
    go_enter Try.func62, Try.ntmps62
    go_wp2
    go_ret
    exact ⟨ret_bool (by first | rfl | simp), rfl⟩
set_option maxHeartbeats 400000 in
theorem Steps_nil (w : World) : Calls Try.prog 36 #[.pointer none] w fun e w' => e = .returned (.int .i64 0) ∧ w = w' := by
  have HN := Lib.hid (isNone_nil w)
  go_enter Try.func36, Try.ntmps36
  go_wp2_with (go_at_call 62; with_reducible refine Calls.mono (HN.out) ?_; rintro e w1 ⟨rfl, rfl⟩)
  go_ret
  exact ⟨rfl, rfl⟩
set_option maxHeartbeats 400000 in
theorem Steps_zero (tb : Nat) (w : World) (h : w.cell? ⟨tb, 1, none⟩ = some (.int .i64 (0 : Nat))) : Calls Try.prog 36 #[.pointer (some ⟨tb, 0, none⟩)] w fun e w' => e = .returned (.int .i64 0) ∧ w = w' := by
  have HN := Lib.hid (isNone_any tb 0 w h)
  rw [decide_eq_true rfl] at HN
  go_enter Try.func36, Try.ntmps36
  go_wp2_with (go_at_call 62; with_reducible refine Calls.mono (HN.out) ?_; rintro e w1 ⟨rfl, rfl⟩)
  go_ret
  exact ⟨rfl, rfl⟩
set_option maxHeartbeats 400000 in
theorem Steps_any {w : World} {tb n ac main wb steps : Nat} {aa : Option Addr} {pv : Value} (h : TubeAt w tb aa n ac main pv wb steps) (hm : 1 ≤ main) : Calls Try.prog 36 #[.pointer (some ⟨tb, 0, none⟩)] w fun e w' => e = .returned (.int .i64 steps) ∧ w = w' := by
  have HN := Lib.hid (isNone_any tb main w h.main)
  rw [decide_eq_false (by omega)] at HN
  have hs := h.steps
  have hl := cell_lt hs
  go_enter Try.func36, Try.ntmps36
  go_wp2_with (go_at_call 62; with_reducible refine Calls.mono (HN.out) ?_; rintro e w1 ⟨rfl, rfl⟩)
  go_ret
  exact ⟨rfl, rfl⟩
set_option maxHeartbeats 1000000 in
theorem half_any {w : World} {tb n ac main wb steps : Nat} {aa : Option Addr} {pv : Value} (h : TubeAt w tb aa n ac main pv wb steps) (hn1 : 1 ≤ n) (hn : n ≤ 100) (s q : Nat) (hq : s % 2 = q) (hs : s ≤ 1000000) :
    Calls Try.prog 93 #[.pointer (some ⟨tb, 0, none⟩), .int .i64 s] w fun e w' => e = .returned (.slice (some ⟨wb, q * n * 2, none⟩) n n) ∧ w = w' := by
  have c0 := h.areas
  have c3 := h.waves
  have hl := cell_lt c0
  have hq2 : q = 0 ∨ q = 1 := by omega
  have v1 : Int.tmod (s : Int) 2 = (q : Int) := by rw [Int.tmod_eq_emod_of_nonneg (by omega)]; omega
  have v2 : IntKind.i64.wrap (q : Int) = (q : Int) := IntWalk.i64_in _ (by omega)
  clear hq
  rcases hq2 with rfl | rfl
  · have u1 : IntKind.i64.wrap ((n : Int)) = (n : Int) := IntWalk.i64_in _ (by omega)
    go_enter Try.func93, Try.ntmps93
    go_wp2
    all_goals first
      | (exfalso; omega)
      | (go_ret; exact ⟨by first | rfl | (simp; done) | (simp; omega), rfl⟩)
  · have u1 : IntKind.i64.wrap ((n : Int)) = (n : Int) := IntWalk.i64_in _ (by omega)
    have u2 : IntKind.i64.wrap ((n : Int) + n) = (n : Int) + n := IntWalk.i64_in _ (by omega)
    go_enter Try.func93, Try.ntmps93
    go_wp2
    all_goals first
      | (exfalso; omega)
      | (go_ret; exact ⟨by first | rfl | (simp; done) | (simp; omega), rfl⟩)
end Go.Proofs.Ytbmbcbknoflpgaa
