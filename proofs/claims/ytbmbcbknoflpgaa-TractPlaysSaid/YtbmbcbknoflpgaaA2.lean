/- Contracts: followers. -/
import Derived.Test.YtbmbcbknoflpgaaA1
import Derived.Lib.MinMax
set_option linter.unusedSimpArgs false
set_option linter.unusedVariables false
namespace Go.Proofs.Ytbmbcbknoflpgaa
open Go.RowKit

/-- By how much a follower moves. -/
def mvs (d s : Int) : Int := if (s * d).tdiv 1000 = 0 then (if 0 < d then 1 else if d < 0 then -1 else 0) else (s * d).tdiv 1000
theorem flw_mvs (x g s : Int) : flw x g s = x + mvs (g - x) s := rfl
theorem mul_inN {a b A B : Int} (h1 : -A ≤ a) (h2 : a ≤ A) (h3 : -B ≤ b) (h4 : b ≤ B) : -(A * B) ≤ a * b ∧ a * b ≤ A * B := by
  have h : (a * b).natAbs ≤ (A * B).natAbs := by
    rw [Int.natAbs_mul, Int.natAbs_mul]
    exact Nat.mul_le_mul (by omega) (by omega)
  have h0 : 0 ≤ A * B := Int.mul_nonneg (by omega) (by omega)
  generalize a * b = x at *
  generalize A * B = y at *
  omega
/-- A follower does not pass its goal. -/
theorem mvs_in {d s : Int} (hs : 1 ≤ s) (hs2 : s ≤ 1000) : (0 ≤ d → 0 ≤ mvs d s ∧ mvs d s ≤ d ∧ (0 < d → 0 < mvs d s)) ∧ (d ≤ 0 → d ≤ mvs d s ∧ mvs d s ≤ 0 ∧ (d < 0 → mvs d s < 0)) := by
  have pos : ∀ e : Int, 0 ≤ e → 0 ≤ (s * e).tdiv 1000 ∧ (s * e).tdiv 1000 ≤ e := fun e he => by
    have h0 : 0 ≤ s * e := Int.mul_nonneg (by omega) he
    have h1 : s * e ≤ 1000 * e := Int.mul_le_mul_of_nonneg_right hs2 he
    rw [Int.tdiv_eq_ediv_of_nonneg h0]
    omega
  constructor
  · intro hd
    have h := pos d hd
    unfold mvs
    split
    · split
      · omega
      · split <;> omega
    · omega
  · intro hd
    have h := pos (-d) (by omega)
    have e : (s * d).tdiv 1000 = -((s * -d).tdiv 1000) := by rw [Int.mul_neg, Int.neg_tdiv, Int.neg_neg]
    unfold mvs
    rw [e]
    split
    · split
      · omega
      · split <;> omega
    · omega
set_option maxHeartbeats 1000000 in
theorem followed_any (x g s : Int) (w : World) (hx : -2000000000 ≤ x ∧ x ≤ 2000000000) (hg : -2000000000 ≤ g ∧ g ≤ 2000000000) (hs : 1 ≤ s) (hs2 : s ≤ 1000) :
    Calls Try.prog 73 #[.int .i64 x, .int .i64 g, .int .i64 s] w fun e w' => e = .returned (.int .i64 (flw x g s)) ∧ w = w' := by
  rw [flw_mvs]
  obtain ⟨d, hd⟩ : ∃ d, d = g - x := ⟨_, rfl⟩
  have hi := mvs_in (d := d) hs hs2
  rw [← hd]
  have q1 : IntKind.i64.wrap (g - x) = d := by rw [hd]; exact IntWalk.i64_in _ (by omega)
  have mu := mul_inN (A := 1000) (B := 4000000000) (a := s) (b := d) (by omega) (by omega) (by omega) (by omega)
  have hdb : -4000000000 ≤ d ∧ d ≤ 4000000000 := by omega
  have hti := tdiv_in (a := s * d) (b := 1000) (by omega) 4000000000000 (by omega)
  obtain ⟨p, hp⟩ : ∃ p, p = s * d := ⟨_, rfl⟩
  have q2 : IntKind.i64.wrap (s * d) = p := by rw [hp]; exact IntWalk.i64_in _ (by omega)
  rw [← hp] at hti
  obtain ⟨t, ht⟩ : ∃ t, t = p.tdiv 1000 := ⟨_, rfl⟩
  rw [← ht] at hti
  have q3 : p.tdiv 1000 = t := ht.symm
  have q4 : IntKind.i64.wrap t = t := IntWalk.i64_in _ (by omega)
  have q5 : ¬ (1000 : Int) = 0 := by omega
  have hmv : mvs d s = if t = 0 then (if 0 < d then 1 else if d < 0 then -1 else 0) else t := by unfold mvs; rw [← hp, ← ht]
  rw [hmv] at hi ⊢
  clear hd hp ht mu hmv
  by_cases h0 : t = 0
  · subst h0
    rw [if_pos rfl] at hi ⊢
    have q6 : min (max d (-1)) 1 = (if 0 < d then 1 else if d < 0 then -1 else 0) := by split; omega; split <;> omega
    obtain ⟨m, hm⟩ : ∃ m : Int, m = (if 0 < d then 1 else if d < 0 then -1 else 0) := ⟨_, rfl⟩
    rw [← hm] at hi q6 ⊢
    have hmb : -1 ≤ m ∧ m ≤ 1 := by rw [hm]; split; omega; split <;> omega
    have q7 : IntKind.i64.wrap (x + m) = x + m := IntWalk.i64_in _ (by omega)
    clear hm hi
    go_enter Try.func73, Try.ntmps73
    go_wp2
    go_ret
    exact ⟨rfl, rfl⟩
  · rw [if_neg h0] at hi ⊢
    have h1 : (t == 0) = false := by simp; exact h0
    have q7 : IntKind.i64.wrap (x + t) = x + t := IntWalk.i64_in _ (by omega)
    clear hi
    go_enter Try.func73, Try.ntmps73
    go_wp2
    go_ret
    exact ⟨rfl, rfl⟩
set_option maxHeartbeats 1000000 in
theorem refFollow_any (x g s : Int) (w : World) (hx : -2000000000 ≤ x ∧ x ≤ 2000000000) (hg : -2000000000 ≤ g ∧ g ≤ 2000000000) (hs : 1 ≤ s) (hs2 : s ≤ 1000) :
    Calls Try.prog 39 #[.int .i64 x, .int .i64 g, .int .i64 s] w fun e w' => e = .returned (.int .i64 (flw x g s)) ∧ w = w' := by
  rw [flw_mvs]
  obtain ⟨d, hd⟩ : ∃ d, d = g - x := ⟨_, rfl⟩
  rw [← hd]
  have q1 : IntKind.i64.wrap (g - x) = d := by rw [hd]; exact IntWalk.i64_in _ (by omega)
  have mu := mul_inN (A := 1000) (B := 4000000000) (a := s) (b := d) (by omega) (by omega) (by omega) (by omega)
  have hdb : -4000000000 ≤ d ∧ d ≤ 4000000000 := by omega
  have hti := tdiv_in (a := s * d) (b := 1000) (by omega) 4000000000000 (by omega)
  obtain ⟨p, hp⟩ : ∃ p, p = s * d := ⟨_, rfl⟩
  have q2 : IntKind.i64.wrap (d * s) = p := by rw [hp, Int.mul_comm d s]; exact IntWalk.i64_in _ (by omega)
  rw [← hp] at hti mu
  have HTW := Lib.hid (fun W => toward_any p 1000 W (by omega) (by omega) (by omega))
  obtain ⟨t, ht⟩ : ∃ t, t = p.tdiv 1000 := ⟨_, rfl⟩
  rw [← ht] at hti HTW
  have hmv : mvs d s = if t = 0 then (if 0 < d then 1 else if d < 0 then -1 else 0) else t := by unfold mvs; rw [← hp, ← ht]
  rw [hmv]
  clear hd hp ht mu hmv
  by_cases h0 : t = 0
  · subst h0
    rw [if_pos rfl]
    by_cases h1 : 0 < d
    · rw [if_pos h1]
      have h2 : ¬ d < 0 := by omega
      have q7 : IntKind.i64.wrap (x + 1) = x + 1 := IntWalk.i64_in _ (by omega)
      go_enter Try.func39, Try.ntmps39
      go_wp2_with (go_at_call 59; with_reducible refine Calls.mono (HTW.out _) ?_; rintro e w1 ⟨rfl, rfl⟩)
      go_ret
      exact ⟨by first | rfl | (simp; done), rfl⟩
    · rw [if_neg h1]
      by_cases h2 : d < 0
      · rw [if_pos h2]
        have q7 : IntKind.i64.wrap (x + -1) = x + -1 := IntWalk.i64_in _ (by omega)
        go_enter Try.func39, Try.ntmps39
        go_wp2_with (go_at_call 59; with_reducible refine Calls.mono (HTW.out _) ?_; rintro e w1 ⟨rfl, rfl⟩)
        go_ret
        exact ⟨by first | rfl | (simp; done), rfl⟩
      · rw [if_neg h2]
        have q7 : IntKind.i64.wrap (x + 0) = x + 0 := IntWalk.i64_in _ (by omega)
        have q8 : IntKind.i64.wrap x = x := IntWalk.i64_in _ (by omega)
        go_enter Try.func39, Try.ntmps39
        go_wp2_with (go_at_call 59; with_reducible refine Calls.mono (HTW.out _) ?_; rintro e w1 ⟨rfl, rfl⟩)
        go_ret
        exact ⟨by first | rfl | (simp; done), rfl⟩
  · rw [if_neg h0]
    have h1 : (t == 0) = false := by simp; exact h0
    have q7 : IntKind.i64.wrap (x + t) = x + t := IntWalk.i64_in _ (by omega)
    go_enter Try.func39, Try.ntmps39
    go_wp2_with (go_at_call 59; with_reducible refine Calls.mono (HTW.out _) ?_; rintro e w1 ⟨rfl, rfl⟩)
    go_ret
    exact ⟨by first | rfl | (simp; done), rfl⟩
end Go.Proofs.Ytbmbcbknoflpgaa
