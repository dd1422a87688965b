/- The small functions of integers. -/
import Derived.Test.YtejcbcjhmnhefabDoorProg
import Derived.Test.YtejcbcjhmnhefabDoorA0
set_option linter.unusedSimpArgs false
set_option linter.unusedVariables false
namespace Go.Proofs.YtejcbcjhmnhefabDoor
open Go.RowKit

def betw (n a b : Int) : Bool := decide (a ≤ n) && decide (n ≤ b)
/-- To divide with rounding. -/
def rnd (a b : Int) : Int := if a < 0 then -((2 * -a + b) / (2 * b)) else (2 * a + b) / (2 * b)

set_option maxHeartbeats 400000 in
theorem between_any (n a b : Int) (w : World) :
    Calls Tryd.prog 17 #[.int .i64 n, .int .i64 a, .int .i64 b] w fun e w' => e = .returned (.bool (betw n a b)) ∧ w = w' := by
  by_cases h : a ≤ n
  · go_enter Tryd.func17, Tryd.ntmps17
    go_wp2
    go_ret
    exact ⟨by simp [betw, h], rfl⟩
  · go_enter Tryd.func17, Tryd.ntmps17
    go_wp2
    go_ret
    exact ⟨by simp [betw]; omega, rfl⟩

set_option maxHeartbeats 400000 in
theorem rounded_pos (a b : Int) (w : World) (h0 : 0 ≤ a) (h1 : a ≤ 2000000000000000000) (h2 : 0 < b) (h3 : b ≤ 2000000000000000000) :
    Calls Tryd.prog 34 #[.int .i64 a, .int .i64 b] w fun e w' => e = .returned (.int .i64 (rnd a b)) ∧ w = w' := by
  have h4 : ¬ a < 0 := by omega
  have h5 : ¬ 2 * b = 0 := by omega
  have h6 : (2 * b == 0) = false := by simp; omega
  have h7 : rnd a b = (2 * a + b) / (2 * b) := if_neg h4
  rw [h7]
  go_enter Tryd.func34, Tryd.ntmps34
  go_wp2
  go_ret
  exact ⟨rfl, rfl⟩
set_option maxHeartbeats 400000 in
theorem rounded_any (a b : Int) (w : World) (h0 : -2000000000000000000 ≤ a) (h1 : a ≤ 2000000000000000000) (h2 : 0 < b) (h3 : b ≤ 2000000000000000000) :
    Calls Tryd.prog 34 #[.int .i64 a, .int .i64 b] w fun e w' => e = .returned (.int .i64 (rnd a b)) ∧ w = w' := by
  by_cases h4 : a < 0
  · have h7 : rnd a b = - rnd (-a) b := by unfold rnd; rw [if_pos h4, if_neg (by omega)]
    have h8 : 0 ≤ rnd (-a) b ∧ rnd (-a) b ≤ 6000000000000000000 := by
      unfold rnd; rw [if_neg (by omega)]
      refine ⟨Int.ediv_nonneg (by omega) (by omega), ?_⟩
      have := Int.ediv_le_self (2 * b) (show 0 ≤ 2 * -a + b by omega)
      omega
    have hc := fun w => rounded_pos (-a) b w (by omega) (by omega) h2 h3
    rw [h7]
    generalize rnd (-a) b = r at *
    go_enter Tryd.func34, Tryd.ntmps34
    go_wp2_with (go_at_call 34; refine (hc _).mono ?_; rintro e w' ⟨rfl, rfl⟩)
    go_ret
    exact ⟨rfl, rfl⟩
  · exact rounded_pos a b w (by omega) h1 h2 h3
set_option maxHeartbeats 400000 in
theorem isNaN_any (a : Int) (w : World) : Calls Tryd.prog 47 #[.int .i64 a] w fun e w' => e = .returned (.bool false) ∧ w = w' := by
  go_enter Tryd.func47, Tryd.ntmps47
  go_wp2
  go_ret
  exact ⟨by simp, rfl⟩
def cmpI (a b : Int) : Int := if a < b then -1 else if b < a then 1 else 0
set_option maxHeartbeats 400000 in
theorem compare_any (a b : Int) (w : World) : Calls Tryd.prog 33 #[.int .i64 a, .int .i64 b] w fun e w' => e = .returned (.int .i64 (cmpI a b)) ∧ w = w' := by
  rcases Int.lt_trichotomy a b with h | h | h
  · have h1 : cmpI a b = -1 := if_pos h
    rw [h1]
    go_enter Tryd.func33, Tryd.ntmps33
    go_wp2_with (go_at_call 47; refine (isNaN_any _ _).mono ?_; rintro e w' ⟨rfl, rfl⟩)
    go_ret
    exact ⟨rfl, rfl⟩
  · subst h
    have h1 : cmpI a a = 0 := by simp [cmpI]
    rw [h1]
    go_enter Tryd.func33, Tryd.ntmps33
    go_wp2_with (go_at_call 47; refine (isNaN_any _ _).mono ?_; rintro e w' ⟨rfl, rfl⟩)
    go_ret
    exact ⟨rfl, rfl⟩
  · have h1 : cmpI a b = 1 := by unfold cmpI; rw [if_neg (by omega), if_pos h]
    rw [h1]
    go_enter Tryd.func33, Tryd.ntmps33
    go_wp2_with (go_at_call 47; refine (isNaN_any _ _).mono ?_; rintro e w' ⟨rfl, rfl⟩)
    go_ret
    exact ⟨rfl, rfl⟩
set_option maxHeartbeats 400000 in
theorem knotCmp_any (k : Knot) (t : Int) (w : World) : Calls Tryd.prog 32 #[.agg #[.int .i64 k.time, .int .i64 k.value], .int .i64 t] w fun e w' => e = .returned (.int .i64 (cmpI k.time t)) ∧ Below w.heap.size w w' := by
  go_enter Tryd.func32, Tryd.ntmps32
  go_wp2_with (go_at_call 33; refine (compare_any _ _ _).mono ?_; rintro e w' ⟨rfl, rfl⟩)
  go_ret
  exact ⟨rfl, bAlloc (Below.refl _ _) _⟩

def knotsOk : List Knot → Int → Bool
  | [], _ => true
  | k :: l, e => betw k.time e 4000 && betw k.value (-1000) 1000 && knotsOk l (k.time + 1)
def shapeOk (l : List Knot) : Bool := betw l.length 1 20 && knotsOk l 0
def cmdOk (c : Cmd) : Bool := betw c.at_ (-4000) 4000 && betw c.height (-100000) 100000 && shapeOk c.shape
end Go.Proofs.YtejcbcjhmnhefabDoor
