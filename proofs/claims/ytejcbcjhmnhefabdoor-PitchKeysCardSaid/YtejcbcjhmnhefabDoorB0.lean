/- Products of 64 bits; a row over which another was laid. -/
import Derived.Test.YtejcbcjhmnhefabDoorA0
import Derived.Test.YtejcbcjhmnhefabDoorProg
import Derived.Laws.CopyOwn
import Derived.Deep.RegionLaw
import Derived.Laws.MakeOwn
import Derived.Deep.OwnRows
import Derived.StillTailTactics
set_option linter.unusedSimpArgs false
set_option linter.unusedVariables false
namespace Go.Proofs.YtejcbcjhmnhefabDoor
open Go.RowKit

theorem mask32 (n : Nat) (h : n ≤ 4294967295) : bits BinOp.and IntKind.u64 (n : Int) 4294967295 = (n : Int) := by
  have e : (n % 2 ^ IntKind.u64.bits &&& 4294967295 % 2 ^ IntKind.u64.bits) = n := by
    show (n % 2 ^ 64 &&& 4294967295 % 2 ^ 64) = n
    rw [Nat.mod_eq_of_lt (by omega), show (4294967295 % 2 ^ 64 : Nat) = 2 ^ 32 - 1 from rfl, Nat.and_two_pow_sub_one_eq_mod]
    omega
  simp [bits]
  rw [e]
  exact IntWalk.u64_in _ (by omega)
set_option maxHeartbeats 1000000 in
theorem mul64_any (n : Nat) (w : World) (hn : n ≤ 4000) : Calls Tryd.prog 58 #[.int .u64 1, .int .u64 n] w fun e w' => e = .returned (.tuple #[.int .u64 0, .int .u64 n]) ∧ w = w' := by
  have h1 : bits BinOp.and IntKind.u64 1 4294967295 = 1 := mask32 1 (by omega)
  have h2 : bits BinOp.and IntKind.u64 (n : Int) 4294967295 = (n : Int) := mask32 n (by omega)
  have h3 : (n : Int) / 4294967296 = 0 := by omega
  have h0 : bits BinOp.and IntKind.u64 0 4294967295 = 0 := mask32 0 (by omega)
  go_enter Tryd.func58, Tryd.ntmps58
  go_wp2
  go_ret2
  exact ⟨by simp [h1, h2, h3, h0], rfl⟩
set_option maxHeartbeats 1000000 in
theorem mul_any (n : Nat) (w : World) (hn : n ≤ 4000) : Calls Tryd.prog 49 #[.int .u64 1, .int .u64 n] w fun e w' => e = .returned (.tuple #[.int .u64 0, .int .u64 n]) ∧ w = w' := by
  go_enter Tryd.func49, Tryd.ntmps49
  go_wp2_with (go_at_call 58; refine (mul64_any n _ hn).mono ?_; rintro e w' ⟨rfl, rfl⟩)
  go_ret2
  exact ⟨rfl, rfl⟩
theorem spliced_row {W : World} {g k m n : Nat} {base : Int} {cs : Array Value} (h : W.heap[g]? = some (.cells (splice cs.toList k (List.replicate m (Value.int .i64 base))).toArray 3 (0, 0))) (hn : cs.size = n)
    (hc : ∀ i, i < n → cs[i]? = some (if i < k then .int .i64 base else .int .i64 0)) (hk : k + m ≤ n) : W.rowIs g 3 n (fun i => if i < k + m then .int .i64 base else .int .i64 0) := by
  refine ⟨_, h, by simp [splice]; omega, fun i hi => ?_⟩
  simp only [splice, List.getElem?_toArray, List.length_replicate]
  by_cases h1 : i < k
  · rw [List.getElem?_append_left (by simp; omega), List.getElem?_take_of_lt h1]
    have := hc i hi
    rw [if_pos h1] at this
    rw [if_pos (by omega)]
    simpa using this
  · rw [List.getElem?_append_right (by simp; omega)]
    rw [List.length_take, Array.length_toList, Nat.min_eq_left (by omega)]
    by_cases h2 : i < k + m
    · rw [List.getElem?_append_left (by simp; omega), if_pos h2, List.getElem?_replicate, if_pos (by omega)]
    · rw [List.getElem?_append_right (by simp; omega), if_neg h2]
      have := hc i hi
      rw [if_neg h1] at this
      rw [List.getElem?_drop, List.length_replicate, show k + m + (i - k - m) = i by omega]
      simpa using this
end Go.Proofs.YtejcbcjhmnhefabDoor
