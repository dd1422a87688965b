/- Numbers as a machine keeps them; the energy of a tube. -/
import Derived.Test.YtbmbcbknoflpgaaE1
import Derived.Test.YtbmbcbknoflpgaaA4
set_option linter.unusedSimpArgs false
set_option linter.unusedVariables false
namespace Go.Proofs.Ytbmbcbknoflpgaa
open Go.RowKit

theorem w64_of (x : Int) : ∃ k : Int, wrap64 x = x + 18446744073709551616 * k := ⟨-((x + 9223372036854775808) / 18446744073709551616), by unfold wrap64; omega⟩
theorem w64_shift (x k : Int) : wrap64 (x + 18446744073709551616 * k) = wrap64 x := by unfold wrap64; omega
theorem w64_add_l (a b : Int) : wrap64 (wrap64 a + b) = wrap64 (a + b) := by
  obtain ⟨k, h⟩ := w64_of a
  rw [h, show a + 18446744073709551616 * k + b = a + b + 18446744073709551616 * k by omega, w64_shift]
theorem w64_add_r (a b : Int) : wrap64 (a + wrap64 b) = wrap64 (a + b) := by rw [Int.add_comm, w64_add_l, Int.add_comm]
theorem w64_mul_l (a b : Int) : wrap64 (wrap64 a * b) = wrap64 (a * b) := by
  obtain ⟨k, h⟩ := w64_of a
  rw [h, Int.add_mul, Int.mul_assoc, w64_shift]
theorem w64_mul_r (a b : Int) : wrap64 (a * wrap64 b) = wrap64 (a * b) := by rw [Int.mul_comm, w64_mul_l, Int.mul_comm]
/-- The energy of the first k sections. -/
def enX (A F B : Nat → Int) : Nat → Int
  | 0 => 0
  | k + 1 => enX A F B k + A k * (F k * F k + B k * B k)
theorem enX_step (A F B : Nat → Int) (k : Nat) : wrap64 (wrap64 (wrap64 (enX A F B k) + wrap64 (wrap64 (A k * F k) * F k)) + wrap64 (wrap64 (A k * B k) * B k)) = wrap64 (enX A F B (k + 1)) := by
  rw [w64_mul_l, w64_mul_l, w64_add_r, w64_add_l, Int.add_assoc, w64_add_l, Int.add_left_comm, w64_add_l]
  have h : enX A F B (k + 1) = enX A F B k + A k * (F k * F k + B k * B k) := rfl
  rw [h, Int.mul_add, Int.mul_assoc, Int.mul_assoc]
  generalize enX A F B k = x
  congr 1
  omega
theorem enX_ref (A F B : Nat → Int) (k : Nat) : wrap64 (wrap64 (enX A F B k) + wrap64 (A k * wrap64 (wrap64 (F k * F k) + wrap64 (B k * B k)))) = wrap64 (enX A F B (k + 1)) := by
  rw [w64_add_l (F k * F k), w64_add_r (F k * F k), w64_mul_r, w64_add_r, w64_add_l]
  rfl
set_option maxHeartbeats 400000 in
theorem state_any {w : World} {tb n ac main wb steps : Nat} {aa : Option Addr} {pv : Value} (h : TubeAt w tb aa n ac main pv wb steps) (hn1 : 1 ≤ n) (hn : n ≤ 100) (q : Nat) (hq : steps % 2 = q) (hs : steps ≤ 1000000) :
    Calls Try.prog 83 #[.pointer (some ⟨tb, 0, none⟩)] w fun e w' => e = .returned (.slice (some ⟨wb, q * n * 2, none⟩) n n) ∧ w = w' := by
  have H := Lib.hid (half_any h hn1 hn steps q hq hs)
  have c4 := h.steps
  have hl := cell_lt c4
  go_enter Try.func83, Try.ntmps83
  go_wp2_with (go_at_call 93; with_reducible refine Calls.mono H.out ?_; rintro e w1 ⟨rfl, rfl⟩)
  go_ret
  exact ⟨rfl, rfl⟩
end Go.Proofs.Ytbmbcbknoflpgaa
