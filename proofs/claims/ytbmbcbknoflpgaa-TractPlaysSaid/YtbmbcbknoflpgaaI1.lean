/- Contracts: what leaves a tube at a section. -/
import Derived.Test.YtbmbcbknoflpgaaH8
set_option linter.unusedSimpArgs false
set_option linter.unusedVariables false
namespace Go.Proofs.Ytbmbcbknoflpgaa
open Go.RowKit

set_option maxRecDepth 10000 in
set_option maxHeartbeats 2000000 in
theorem leaving_any (k : Nat) (n N wb oo on b5 b6 : Nat) (f : Nat → Int) (w : World) (hk : k < n) (hn : n ≤ 100) (ho : oo + 2 * n ≤ N) (hon : on + 2 * n ≤ N) (hr : w.rowIs wb 137 N (fun j => .int .i64 (f j)))
    (h5 : w.cell? ⟨b5, 0, none⟩ = some (.slice (some ⟨wb, oo, none⟩) n n)) (h6 : w.cell? ⟨b6, 0, none⟩ = some (.slice (some ⟨wb, on, none⟩) n n)) :
    Calls Try.prog 94 #[.int .i64 k, .pointer (some ⟨b5, 0, none⟩), .pointer (some ⟨b6, 0, none⟩)] w fun e w' => e = .returned (.int .i64 (wrap64 (f (oo + k * 2) + f (on + k * 2 + 1)))) ∧ Below w.heap.size w w' := by
  have x0 := hr.cell (i := oo + k * 2) (by omega)
  have x1 := hr.cell (i := on + k * 2 + 1) (by omega)
  have l0 := hr.lt
  have l5 := cell_lt h5
  have l6 := cell_lt h6
  have hkn : (k : Int) < (n : Int) := by omega
  obtain ⟨x, hx⟩ : ∃ x, f (oo + k * 2) = x := ⟨_, rfl⟩
  obtain ⟨y, hy⟩ : ∃ y, f (on + k * 2 + 1) = y := ⟨_, rfl⟩
  obtain ⟨z, hz⟩ : ∃ z, wrap64 (x + y) = z := ⟨_, rfl⟩
  have u1 : IntKind.i64.wrap (x + y) = z := by rw [IntWalk.i64_left]; exact hz
  rw [hx] at x0 ⊢
  rw [hy] at x1 ⊢
  rw [hz]
  clear hr hx hy hz
  go_enter Try.func94, Try.ntmps94
  go_wp2_with fail
  go_quiet (fail)
  go_wp2
  go_ret
  exact ⟨rfl, bDrew (Below.refl _ _) _⟩
end Go.Proofs.Ytbmbcbknoflpgaa
