/- Contracts: Energy. -/
import Derived.Test.YtbmbcbknoflpgaaE3
set_option linter.unusedSimpArgs false
set_option linter.unusedVariables false
namespace Go.Proofs.Ytbmbcbknoflpgaa
open Go.RowKit

set_option maxHeartbeats 400000 in
theorem Energy_nil (w : World) : Calls Try.prog 34 #[.pointer none] w fun e w' => e = .returned (.int .i64 0) ∧ w = w' := by
  have HN := Lib.hid (isNone_nil w)
  go_enter Try.func34, Try.ntmps34
  go_wp2_with (go_at_call 62; with_reducible refine Calls.mono (HN.out) ?_; rintro e w1 ⟨rfl, rfl⟩)
  go_ret
  exact ⟨rfl, rfl⟩
set_option maxHeartbeats 400000 in
theorem Energy_zero (tb : Nat) (w : World) (h : w.cell? ⟨tb, 1, none⟩ = some (.int .i64 (0 : Nat))) : Calls Try.prog 34 #[.pointer (some ⟨tb, 0, none⟩)] w fun e w' => e = .returned (.int .i64 0) ∧ w = w' := by
  have HN := Lib.hid (isNone_any tb 0 w h)
  rw [decide_eq_true rfl] at HN
  go_enter Try.func34, Try.ntmps34
  go_wp2_with (go_at_call 62; with_reducible refine Calls.mono (HN.out) ?_; rintro e w1 ⟨rfl, rfl⟩)
  go_ret
  exact ⟨rfl, rfl⟩
set_option maxHeartbeats 1000000 in
theorem Energy_any {w : World} {tb n ac main wb steps : Nat} {aa : Option Addr} {pv : Value} (al : List Int) (F B : Nat → Int) (h : TubeAt w tb aa n ac main pv wb steps) (hm : 1 ≤ main) (hn1 : 1 ≤ n) (hn : n ≤ 100) (q : Nat) (hq : steps % 2 = q) (hs : steps ≤ 1000000)
    (ha : SliceV w (.slice aa n ac) 1 IntAt al) (hal : al.length = n) (hf : ∀ i, i < n → w.cell? ⟨wb, q * n * 2 + i * 2, none⟩ = some (.int .i64 (F i)) ∧ w.cell? ⟨wb, q * n * 2 + i * 2 + 1, none⟩ = some (.int .i64 (B i))) :
    Calls Try.prog 34 #[.pointer (some ⟨tb, 0, none⟩)] w fun e w' => e = .returned (.int .i64 (wrap64 (enX (fun i => al.getD i 0) F B n))) ∧ Below w.heap.size w w' := by
  have HN := Lib.hid (isNone_any tb main w h.main)
  rw [decide_eq_false (by omega)] at HN
  have HE := Lib.hid (energy_any al F B h hn1 hn q hq hs ha hal hf)
  clear ha hf h hq
  generalize wrap64 (enX (fun i => al.getD i 0) F B n) = r at *
  go_enter Try.func34, Try.ntmps34
  go_wp2_with (first
    | (go_at_call 62; with_reducible refine Calls.mono (HN.out) ?_; rintro e w1 ⟨rfl, rfl⟩)
    | (go_at_call 70; with_reducible refine Calls.mono (HE.out) ?_; rintro e w1 ⟨rfl, hb⟩; have HB := Lib.hid hb; clear hb))
  go_ret
  exact ⟨rfl, HB.out⟩
end Go.Proofs.Ytbmbcbknoflpgaa
