/- Contracts: Lag. -/
import Derived.Test.YtbeeddenidfenaaB7
set_option linter.unusedSimpArgs false
set_option linter.unusedVariables false
namespace Go.Proofs.Ytbeeddenidfenaa
open Go.RowKit

def lagOk (n r : Int) : Bool := decide (1 ≤ n) && decide (0 ≤ r)
/-- The best lag of two waves whose overlap exists. -/
def lagv (x y : List Int) (n : Nat) (r : Int) : Nat := ag (misv x y n) (min r ((y.length : Int) - n)).toNat
/-- What Lag hands back: its error, the lag, the mismatch. -/
def lagErr (x y : List Int) (n r : Int) : Int := if chk (lagOk n r) [x, y] = 0 then (if ovl x.length y.length n 0 = true then 0 else 5) else chk (lagOk n r) [x, y]
def lagRes (x y : List Int) (n r : Int) : Value := if lagErr x y n r = 0 then .tuple #[.int .i64 (lagv x y n.toNat r : Nat), .int .i64 (misv x y n.toNat (lagv x y n.toNat r)), .int .i64 0] else .tuple #[.int .i64 0, .int .i64 0, .int .i64 (lagErr x y n r)]
set_option maxRecDepth 10000 in
set_option maxHeartbeats 4000000 in
theorem Lag_any (x y : List Int) (n r : Int) (v u : Value) (w : World) (hv : SliceV w v 1 IntAt x) (hu : SliceV w u 1 IntAt y) (hn : -9223372036854775808 ≤ n ∧ n ≤ 9223372036854775807) (hr : -9223372036854775808 ≤ r ∧ r ≤ 9223372036854775807) :
    Calls Try.prog 33 #[v, u, .int .i64 n, .int .i64 r] w fun e w' => e = .returned (lagRes x y n r) ∧ Below w.heap.size w w' := by
  have HN := Lib.hid (bAlloc (Below.refl w.heap.size w) (.cells #[v, u] 22))
  have HC := Lib.hid (check_any (lagOk n r) [x, y] _ _ (two_waves hv hu 22))
  have HO : Hid (∀ W, Below w.heap.size w W → Calls Try.prog 62 #[v, u, .int .i64 n, .int .i64 0] W fun e w' => e = .returned (.bool (ovl x.length y.length n 0)) ∧ W = w') := Lib.hid (fun W hB => overlaps_any x y n 0 v u W (hv.keep IntAt.stable hB) (hu.keep IntAt.stable hB) hn (by omega))
  have HV := Lib.hid hv
  have HU := Lib.hid hu
  obtain ⟨a, c, rfl, hl, -⟩ := hv
  obtain ⟨b, d, rfl, hm, -⟩ := hu
  unfold most at hl hm
  by_cases h : chk (lagOk n r) [x, y] = 0
  · rw [h] at HC
    have hcl := chk2_ok h
    have hlo := hcl.2.2.2.2
    rw [hlo] at HC
    simp only [lagOk, Bool.and_eq_true, decide_eq_true_eq] at hlo
    have g1 := hlo.1
    have g2 := hlo.2
    cases hov : ovl x.length y.length n 0
    · have he : lagErr x y n r = 5 := by unfold lagErr; rw [if_pos h, if_neg (by rw [hov]; simp)]
      have hres : lagRes x y n r = .tuple #[.int .i64 0, .int .i64 0, .int .i64 5] := by unfold lagRes; rw [if_neg (by rw [he]; decide), he]
      rw [hres]
      rw [hov] at HO
      clear h hcl hlo he hres hov
      go_enter Try.func33, Try.ntmps33
      go_wp2_with (first
        | (go_at_call 59; refine HC.out.mono ?_; rintro e w1 ⟨rfl, hb⟩; have HB := Lib.hid (bThen HN.out hb); clear hb)
        | (go_at_call 62; refine (HO.out _ HB.out).mono ?_; rintro e w1 ⟨rfl, rfl⟩))
      go_ret3
      exact ⟨rfl, HB.out⟩
    · have he : lagErr x y n r = 0 := by unfold lagErr; rw [if_pos h, if_pos hov]
      have hres : lagRes x y n r = .tuple #[.int .i64 (lagv x y n.toNat r : Nat), .int .i64 (misv x y n.toNat (lagv x y n.toNat r)), .int .i64 0] := by unfold lagRes; rw [if_pos he]
      rw [hres]
      rw [hov] at HO
      obtain ⟨n, z, rfl, hz, h1, h2, h3⟩ := ovl_nat hov
      obtain rfl : z = 0 := by omega
      rw [Int.toNat_natCast]
      obtain ⟨xb, xo, rfl, -⟩ := HV.out.at (by intro h; rw [h] at h2; simp at h2; omega)
      obtain ⟨s, hs⟩ : ∃ s, x.length = s + n := ⟨x.length - n, by omega⟩
      have sx := sm_of hcl.2.2.1
      have sy := sm_of hcl.2.2.2.1
      have hb1 := hcl.1
      have hb2 := hcl.2.1
      obtain ⟨M, hM⟩ : ∃ M : Nat, (M : Int) = min r ((y.length : Int) - n) := ⟨(min r ((y.length : Int) - n)).toNat, by omega⟩
      have hlv : lagv x y n r = ag (misv x y n) M := by unfold lagv; rw [← hM, Int.toNat_natCast]
      rw [hlv]
      have h65 : ∀ W, Below w.heap.size w W → Calls Try.prog 65 #[.slice (some ⟨xb, xo + s, none⟩) n (c - s), .slice b y.length d, .int .i64 M] W fun e w' => e = .returned (.tuple #[.int .i64 (ag (misv x y n) M : Nat), .int .i64 (misv x y n (ag (misv x y n) M))]) ∧ W = w' := fun W hB => by
        have hk := HV.out.keep IntAt.stable hB
        rw [hs] at hk
        have h := bestLag_any (endA x n) y M _ _ W (end_part hk h1) (HU.out.keep IntAt.stable hB) (sx.endA n) sy (by rw [endA_len h2]; exact h1) (by rw [endA_len h2]; omega) (by rw [endA_len h2]; omega) (by omega)
        rw [endA_len h2] at h
        exact h
      have H65 := Lib.hid h65
      rw [hs] at hl h2 hb1 HV HO HC HN ⊢
      have HSX := Lib.hid hs
      clear h65 h hcl hlo he hres hov sx sy hs hlv hz
      obtain ⟨m, hme⟩ : ∃ m, y.length = m := ⟨_, rfl⟩
      rw [hme] at hm h3 hb2 HO HU HC HN H65 hM ⊢
      have HMY := Lib.hid hme
      clear hme
      obtain ⟨bl, hbl⟩ : ∃ bl, bl = ag (misv x y n) M := ⟨_, rfl⟩
      rw [← hbl] at H65 ⊢
      obtain ⟨bm, hbm⟩ : ∃ bm, bm = misv x y n bl := ⟨_, rfl⟩
      rw [← hbm] at H65 ⊢
      clear hbl hbm
      have e1 : IntKind.i64.wrap (((s + n : Nat) : Int) - n) = (s : Int) := by rw [show ((s + n : Nat) : Int) - n = (s : Int) by omega]; exact IntWalk.i64_in _ (by omega)
      have e1b : IntKind.i64.wrap ((s : Int) + n - n) = (s : Int) := by rw [show (s : Int) + n - n = (s : Int) by omega]; exact IntWalk.i64_in _ (by omega)
      have e2 : IntKind.i64.wrap ((m : Int) - n) = (m : Int) - n := IntWalk.i64_in _ (by omega)
      have e3 : IntKind.i64.wrap (s : Int) = (s : Int) := IntWalk.i64_in _ (by omega)
      have i1 : (0 : Int) ≤ (s : Int) := by omega
      have i2 : (s : Int) ≤ (s : Int) + (n : Int) := by omega
      have i3 : (s : Int) + (n : Int) ≤ (c : Int) := by omega
      have i6 : ¬ c = s := by omega
      by_cases hrm : (m : Int) - n < r
      · have hMe : (M : Int) = (m : Int) - n := by omega
        have hmn : min r ((m : Int) - n) = (m : Int) - n := by omega
        have hmn2 : ¬ r < (m : Int) - n := by omega
        rw [hMe] at H65
        clear hM hMe
        go_enter Try.func33, Try.ntmps33
        go_wp2_with (first
          | (go_at_call 59; refine HC.out.mono ?_; rintro e w1 ⟨rfl, hb⟩; have HB := Lib.hid (bThen HN.out hb); clear hb)
          | (go_at_call 62; refine (HO.out _ HB.out).mono ?_; rintro e w1 ⟨rfl, rfl⟩)
          | (go_at_call 65; with_reducible refine Calls.mono (H65.out _ HB.out) ?_; rintro e w1 ⟨rfl, rfl⟩))
        all_goals
          go_ret3
          exact ⟨rfl, HB.out⟩
      · have hMe : (M : Int) = r := by omega
        have hmn : min r ((m : Int) - n) = r := by omega
        rw [hMe] at H65
        clear hM hMe
        by_cases hrq : r < (m : Int) - n
        · go_enter Try.func33, Try.ntmps33
          go_wp2_with (first
            | (go_at_call 59; refine HC.out.mono ?_; rintro e w1 ⟨rfl, hb⟩; have HB := Lib.hid (bThen HN.out hb); clear hb)
            | (go_at_call 62; refine (HO.out _ HB.out).mono ?_; rintro e w1 ⟨rfl, rfl⟩)
            | (go_at_call 65; with_reducible refine Calls.mono (H65.out _ HB.out) ?_; rintro e w1 ⟨rfl, rfl⟩))
          all_goals
            go_ret3
            exact ⟨rfl, HB.out⟩
        · have hrr : ((m : Int) - n) = r := by omega
          rw [hrr] at e2 hmn
          have HRR := Lib.hid hrr
          have e9 : IntKind.i64.wrap ((m : Int) - n) = r := by rw [hrr]; exact e2
          clear hrm hrq hrr e2
          go_enter Try.func33, Try.ntmps33
          go_wp2_with (first
            | (go_at_call 59; refine HC.out.mono ?_; rintro e w1 ⟨rfl, hb⟩; have HB := Lib.hid (bThen HN.out hb); clear hb)
            | (go_at_call 62; refine (HO.out _ HB.out).mono ?_; rintro e w1 ⟨rfl, rfl⟩)
            | (go_at_call 65; with_reducible refine Calls.mono (H65.out _ HB.out) ?_; rintro e w1 ⟨rfl, rfl⟩))
          all_goals
            go_ret3
            exact ⟨rfl, HB.out⟩
  · have he : lagErr x y n r = chk (lagOk n r) [x, y] := by unfold lagErr; rw [if_neg h]
    have hres : lagRes x y n r = .tuple #[.int .i64 0, .int .i64 0, .int .i64 (chk (lagOk n r) [x, y])] := by unfold lagRes; rw [if_neg (by rw [he]; exact h), he]
    rw [hres]
    have hb0 : (chk (lagOk n r) [x, y] == 0) = false := beq_eq_false_iff_ne.2 h
    obtain ⟨er, her⟩ : ∃ er, er = chk (lagOk n r) [x, y] := ⟨_, rfl⟩
    rw [← her] at HC hb0 ⊢
    clear her h he hres
    by_cases g1 : 1 ≤ n
    · by_cases g2 : 0 ≤ r
      · rw [show lagOk n r = true by unfold lagOk; rw [decide_eq_true g1, decide_eq_true g2]; rfl] at HC
        go_enter Try.func33, Try.ntmps33
        go_wp2_with (first
          | (go_at_call 59; refine HC.out.mono ?_; rintro e w1 ⟨rfl, hb⟩; have HB := Lib.hid (bThen HN.out hb); clear hb)
          | (go_at_call 62; refine (HO.out _ HB.out).mono ?_; rintro e w1 ⟨rfl, rfl⟩))
        go_ret3
        exact ⟨rfl, HB.out⟩
      · rw [show lagOk n r = false by unfold lagOk; rw [decide_eq_false g2, Bool.and_false]] at HC
        go_enter Try.func33, Try.ntmps33
        go_wp2_with (first
          | (go_at_call 59; refine HC.out.mono ?_; rintro e w1 ⟨rfl, hb⟩; have HB := Lib.hid (bThen HN.out hb); clear hb)
          | (go_at_call 62; refine (HO.out _ HB.out).mono ?_; rintro e w1 ⟨rfl, rfl⟩))
        go_ret3
        exact ⟨rfl, HB.out⟩
    · rw [show lagOk n r = false by unfold lagOk; rw [decide_eq_false g1, Bool.false_and]] at HC
      go_enter Try.func33, Try.ntmps33
      go_wp2_with (first
        | (go_at_call 59; refine HC.out.mono ?_; rintro e w1 ⟨rfl, hb⟩; have HB := Lib.hid (bThen HN.out hb); clear hb)
        | (go_at_call 62; refine (HO.out _ HB.out).mono ?_; rintro e w1 ⟨rfl, rfl⟩))
      go_ret3
      exact ⟨rfl, HB.out⟩
end Go.Proofs.Ytbeeddenidfenaa
