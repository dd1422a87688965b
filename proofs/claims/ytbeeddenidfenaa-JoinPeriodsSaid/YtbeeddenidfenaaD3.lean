/- Contracts: Chain. -/
import Derived.Test.YtbeeddenidfenaaD2
set_option linter.unusedSimpArgs false
set_option linter.unusedVariables false
namespace Go.Proofs.Ytbeeddenidfenaa
open Go.RowKit

/-- The ways on which Chain's arguments are refused. -/
theorem Chain_refused (n r : Int) (ws : List (List Int)) (v : Value) (w : World) (hv : SliceV w v 1 WaveAt ws) (hlong : ¬ 500 < ws.length) (hc : chk (chRight n r ws) ws ≠ 0) :
    Calls Try.prog 38 #[.int .i64 n, .int .i64 r, v] w fun e w' => (∃ r1 r2, e = .returned (.tuple #[r1, r2, .int .i64 (chk (chRight n r ws) ws)]) ∧ SliceV w' r1 1 IntAt [] ∧ SliceV w' r2 1 IntAt []) ∧ Below w.heap.size w w' := by
  have HC := Lib.hid (check_any (chRight n r ws) ws v w hv)
  obtain ⟨a, c, rfl, hl, -⟩ := hv
  unfold most at hl
  have hb0 : (chk (chRight n r ws) ws == 0) = false := beq_eq_false_iff_ne.2 hc
  have hri : chRight n r ws = (decide (1 ≤ n) && decide (0 ≤ r) && decide (0 < ws.length)) := rfl
  obtain ⟨er, her⟩ : ∃ er, er = chk (chRight n r ws) ws := ⟨_, rfl⟩
  obtain ⟨m, hm⟩ : ∃ m, m = ws.length := ⟨_, rfl⟩
  obtain ⟨ri, hr⟩ : ∃ ri, ri = chRight n r ws := ⟨_, rfl⟩
  rw [← her] at HC hb0 ⊢
  rw [← hr] at HC hri
  rw [← hm] at hl hlong hri HC ⊢
  clear her hr hc hm
  have h5 : ¬ (500 : Int) < (m : Int) := by omega
  by_cases g1 : 1 ≤ n
  · by_cases g2 : 0 ≤ r
    · by_cases g3 : 0 < m
      · rw [decide_eq_true g1, decide_eq_true g2, decide_eq_true g3] at hri
        subst hri
        go_enter Try.func38, Try.ntmps38
        go_wp2_with (first
          | (go_at_call 59; refine HC.out.mono ?_; rintro e w1 ⟨rfl, hb⟩; have HB := Lib.hid hb; clear hb))
        go_ret3
        exact ⟨⟨_, _, rfl, ⟨none, 0, rfl, ⟨Nat.zero_le _, Nat.zero_le _⟩, .inl rfl⟩, ⟨none, 0, rfl, ⟨Nat.zero_le _, Nat.zero_le _⟩, .inl rfl⟩⟩, HB.out⟩
      · obtain rfl : m = 0 := by omega
        rw [decide_eq_false g3, Bool.and_false] at hri
        subst hri
        clear g3
        go_enter Try.func38, Try.ntmps38
        go_wp2_with (first
          | (go_at_call 59; refine HC.out.mono ?_; rintro e w1 ⟨rfl, hb⟩; have HB := Lib.hid hb; clear hb))
        go_ret3
        exact ⟨⟨_, _, rfl, ⟨none, 0, rfl, ⟨Nat.zero_le _, Nat.zero_le _⟩, .inl rfl⟩, ⟨none, 0, rfl, ⟨Nat.zero_le _, Nat.zero_le _⟩, .inl rfl⟩⟩, HB.out⟩
    · rw [decide_eq_false g2, Bool.and_false, Bool.false_and] at hri
      subst hri
      go_enter Try.func38, Try.ntmps38
      go_wp2_with (first
        | (go_at_call 59; refine HC.out.mono ?_; rintro e w1 ⟨rfl, hb⟩; have HB := Lib.hid hb; clear hb))
      go_ret3
      exact ⟨⟨_, _, rfl, ⟨none, 0, rfl, ⟨Nat.zero_le _, Nat.zero_le _⟩, .inl rfl⟩, ⟨none, 0, rfl, ⟨Nat.zero_le _, Nat.zero_le _⟩, .inl rfl⟩⟩, HB.out⟩
  · rw [decide_eq_false g1, Bool.false_and, Bool.false_and] at hri
    subst hri
    go_enter Try.func38, Try.ntmps38
    go_wp2_with (first
      | (go_at_call 59; refine HC.out.mono ?_; rintro e w1 ⟨rfl, hb⟩; have HB := Lib.hid hb; clear hb))
    go_ret3
    exact ⟨⟨_, _, rfl, ⟨none, 0, rfl, ⟨Nat.zero_le _, Nat.zero_le _⟩, .inl rfl⟩, ⟨none, 0, rfl, ⟨Nat.zero_le _, Nat.zero_le _⟩, .inl rfl⟩⟩, HB.out⟩
/-- Too many waves. -/
theorem Chain_many (n r : Int) (ws : List (List Int)) (v : Value) (w : World) (hv : SliceV w v 1 WaveAt ws) (hlong : 500 < ws.length) :
    Calls Try.prog 38 #[.int .i64 n, .int .i64 r, v] w fun e w' => (∃ r1 r2, e = .returned (.tuple #[r1, r2, .int .i64 4]) ∧ SliceV w' r1 1 IntAt [] ∧ SliceV w' r2 1 IntAt []) ∧ Below w.heap.size w w' := by
  obtain ⟨a, c, rfl, hl, -⟩ := hv
  unfold most at hl
  have h5 : (500 : Int) < (ws.length : Int) := by omega
  go_enter Try.func38, Try.ntmps38
  go_wp2_with fail
  go_ret3
  exact ⟨⟨_, _, rfl, ⟨none, 0, rfl, ⟨Nat.zero_le _, Nat.zero_le _⟩, .inl rfl⟩, ⟨none, 0, rfl, ⟨Nat.zero_le _, Nat.zero_le _⟩, .inl rfl⟩⟩, Below.refl _ _⟩
end Go.Proofs.Ytbeeddenidfenaa
