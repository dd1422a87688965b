/- The specification's frequencies and cents; the laws of frequencies and cents. -/
import Derived.Test.YtejcbcjhmnhefaaDoorK1
import Derived.Test.YtejcbcjhmnhefaaDoorC4
set_option linter.unusedSimpArgs false
set_option linter.unusedVariables false
namespace Go.Proofs.YtejcbcjhmnhefaaDoor
open Go.RowKit

set_option maxRecDepth 20000 in
set_option maxHeartbeats 4000000 in
theorem refFrequency_any (c : Nat) (w : World) (hc : c ≤ 12000) (hS : Semi w) :
    Calls Tryd.prog 35 #[.int .i64 c] w fun e w' => e = .returned (.int .i64 (freq c)) ∧ Below w.heap.size w w' := by
  have hi : c % 1200 / 100 < 12 := by omega
  have c0 := hS (c % 1200 / 100) (by omega)
  have c1 := hS (c % 1200 / 100 + 1) (by omega)
  have b0 := semi_in (c % 1200 / 100) (by omega)
  have b1 := semi_in (c % 1200 / 100 + 1) (by omega)
  have hb := cell_lt c0
  obtain ⟨r, hr⟩ : ∃ r, r = freq c := ⟨_, rfl⟩
  rw [← hr]
  unfold freq freqNum at hr
  have hk : c / 1200 ≤ 10 := by omega
  have hf : c % 100 ≤ 99 := by omega
  have e1 : (c : Int) / 1200 = ((c / 1200 : Nat) : Int) := by omega
  have e2 : ((c : Int) - 1200 * ((c / 1200 : Nat) : Int)) / 100 = ((c % 1200 / 100 : Nat) : Int) := by omega
  have e3 : (c : Int) - 1200 * ((c / 1200 : Nat) : Int) - 100 * ((c % 1200 / 100 : Nat) : Int) = ((c % 100 : Nat) : Int) := by omega
  generalize c / 1200 = k at *
  generalize c % 1200 / 100 = s at *
  generalize c % 100 = f at *
  generalize semi s = x at *
  generalize semi (s + 1) = y at *
  have m0 := mul_in (A := 2097152) (B := 100) (show -2097152 ≤ x by omega) (by omega) (show -100 ≤ 100 - (f : Int) by omega) (by omega)
  have m1 := mul_in (A := 2097152) (B := 100) (show -2097152 ≤ y by omega) (by omega) (show -100 ≤ (f : Int) by omega) (by omega)
  have q1 : IntKind.i64.wrap (x * (100 - (f : Int))) = x * (100 - (f : Int)) := IntWalk.i64_in _ (by omega)
  have q2 : IntKind.i64.wrap (y * (f : Int)) = y * (f : Int) := IntWalk.i64_in _ (by omega)
  have q3 : IntKind.i64.wrap (x * (100 - (f : Int)) + y * (f : Int)) = x * (100 - (f : Int)) + y * (f : Int) := IntWalk.i64_in _ (by omega)
  have q4 : IntKind.i64.wrap (100 - (f : Int)) = 100 - (f : Int) := IntWalk.i64_in _ (by omega)
  have q5 : IntKind.i64.wrap ((s : Int) + 1) = (s : Int) + 1 := IntWalk.i64_in _ (by omega)
  have hz : -500000000 ≤ x * (100 - (f : Int)) + y * (f : Int) ∧ x * (100 - (f : Int)) + y * (f : Int) ≤ 500000000 := by omega
  have q8 : IntKind.i64.wrap (27500 * (x * (100 - (f : Int)) + y * (f : Int))) = 27500 * (x * (100 - (f : Int)) + y * (f : Int)) := IntWalk.i64_in _ (by omega)
  have HR := Lib.hid hr
  clear hr m0 m1
  go_enter Tryd.func35, Tryd.ntmps35
  go_wp2_with fail
  (refine wp_region_below (by kernel_rfl) (by kernel_rfl) ?_; (repeat (first | go_big_quiet_step (fail) | quiet_step (fail))); (refine wpQuiet_nil ?_; intro _ hw'; obtain ⟨xq, hw''⟩ := hw'; subst hw''))
  have hb := xq.2
  generalize xq.val = w1 at *
  generalize x * (100 - (f : Int)) + y * (f : Int) = z at *
  have HB := Lib.hid hb
  clear q1 q2 q3 q4 q5 q8 e1 e2 e3 c0 c1 hb
  go_wp2_with fail
  go_loop [6, 7] (fun n i => ∃ j : Nat, j ≤ k ∧ i = .int .i64 j ∧ n = .int .i64 (27500 * z * 2 ^ j)) (fun _ i => k - (intOf i).toNat)
  case atStart => exact ⟨0, Nat.zero_le _, rfl, by simp⟩
  case round =>
    obtain ⟨j, hj, rfl, rfl⟩ := hrel
    by_cases hlt : j < k
    · have hp := pow_in j (by omega)
      have hp1 := pow_in (j + 1) (by omega)
      have m2 := mul_in (A := 13750000000000) (B := 1024) (show -13750000000000 ≤ 27500 * z by omega) (by omega) (show -1024 ≤ (2 : Int) ^ j by omega) hp.2
      have hs : 27500 * z * 2 ^ (j + 1) = 2 * (27500 * z * 2 ^ j) := by rw [Int.pow_succ, ← Int.mul_assoc, Int.mul_comm]
      have q6 : IntKind.i64.wrap (2 * (27500 * z * 2 ^ j)) = 2 * (27500 * z * 2 ^ j) := IntWalk.i64_in _ (by omega)
      have HSS := Lib.hid hs
      clear hs hp hp1 m2
      generalize 27500 * z * 2 ^ j = u at *
      go_wp2_with fail
      go_round
      case rel => exact ⟨j + 1, by omega, by go_num, by rw [HSS.out]⟩
      case measure => simp [intOf]; omega
    · obtain rfl : j = k := by omega
      have hp := pow_in j hk
      have m2 := mul_in (A := 13750000000000) (B := 1024) (show -13750000000000 ≤ 27500 * z by omega) (by omega) (show -1024 ≤ (2 : Int) ^ j by omega) hp.2
      have hround := fun W => divide_any (27500 * z * 2 ^ j) 104857600 W (by omega) (by omega) (by omega) (by omega)
      rw [← HR.out] at hround
      have HRD := Lib.hid hround
      clear hround m2 hp
      generalize 27500 * z * 2 ^ j = u at *
      go_wp2_with (go_at_call 50; refine (HRD.out _).mono ?_; rintro e w2 ⟨rfl, rfl⟩)
      go_ret
      exact ⟨rfl, HB.out⟩
/-- The last of the first n numbers of cents whose frequency is not greater. -/
def lastTo (f : Int) : Nat → Int
  | 0 => -1
  | k + 1 => if freq k ≤ f then (k : Int) else lastTo f k
theorem lastTo_notAbove {f : Int} : ∀ n, n ≤ 12001 → lastTo f n = (min (notAbove f) n : Nat) - 1 := by
  have hlt : ∀ m, m < notAbove f → m ≤ 12000 ∧ freq m ≤ f := fun m hm => by
    unfold notAbove at hm
    have hl := List.findIdx_le_length (xs := List.range 12001) (p := fun c => decide (f < freq c))
    rw [List.length_range] at hl
    have := List.not_of_lt_findIdx hm
    simp at this
    exact ⟨by omega, by omega⟩
  have hge : ∀ m, notAbove f ≤ m → m ≤ 12000 → f < freq m := fun m hm hm2 => by
    have hn : notAbove f < 12001 := by omega
    unfold notAbove at hm hn
    have h1 := List.findIdx_getElem (xs := List.range 12001) (p := fun c => decide (f < freq c)) (w := by rw [List.length_range]; exact hn)
    simp at h1
    rcases Nat.lt_or_eq_of_le hm with h2 | h2
    · have := freq_lt h2 hm2; omega
    · rw [← h2]; exact h1
  intro n
  induction n with
  | zero => intro _; simp [lastTo]
  | succ n ih =>
    intro hn
    unfold lastTo
    by_cases h : n < notAbove f
    · rw [if_pos (hlt n h).2]; omega
    · have := hge n (by omega) (by omega)
      rw [if_neg (by omega), ih (by omega)]; omega
set_option maxHeartbeats 4000000 in
theorem refCents_any (f : Int) (w : World) (hS : Semi w) : Calls Tryd.prog 37 #[.int .i64 f] w fun e w' => e = .returned (.int .i64 ((notAbove f : Nat) - 1)) ∧ Below w.heap.size w w' := by
  have HS := Lib.hid hS
  have hl : notAbove f ≤ 12001 := by
    have := List.findIdx_le_length (xs := List.range 12001) (p := fun c => decide (f < freq c))
    simpa [notAbove] using this
  have hfin : Ending.returned (.int .i64 (lastTo f 12001)) = .returned (.int .i64 ((notAbove f : Nat) - 1)) := by rw [lastTo_notAbove 12001 (Nat.le_refl _), Nat.min_eq_left hl]
  have HF := Lib.hid hfin
  clear hfin hS hl
  go_enter Tryd.func37, Tryd.ntmps37
  go_wp2_with fail
  go_loopw [3, 4] (fun x i wr => ∃ c : Nat, c ≤ 12001 ∧ i = .int .i64 c ∧ x = .int .i64 (lastTo f c) ∧ Hid (Below w.heap.size w wr)) (fun _ i _ => 12001 - (intOf i).toNat)
  case atStart => exact ⟨0, by omega, rfl, rfl, Lib.hid (Below.refl _ _)⟩
  case round =>
    obtain ⟨c, hc, rfl, rfl, HB⟩ := hrel
    by_cases hlt : c < 12001
    · have H35 := Lib.hid (refFrequency_any c wr (by omega) (HS.out.keep HB.out))
      by_cases h : freq c ≤ f
      · have hs : Hid (lastTo f (c + 1) = (c : Int)) := Lib.hid (if_pos h)
        have hd : decide (freq c ≤ f) = true := decide_eq_true h
        generalize freq c = fc at *
        go_wp2_with (go_at_call 35; refine H35.out.mono ?_; rintro e w1 ⟨rfl, hb⟩; have HB1 := Lib.hid (bThen HB.out hb); clear hb)
        go_roundw
        case rel =>
          first
            | exact ⟨c + 1, by omega, by go_num, by rw [hs.out], HB1⟩
            | ((repeat apply Exists.intro); refine ⟨?_, rfl⟩; exact ⟨c + 1, by omega, by go_num, by rw [hs.out], HB1⟩)
        case measure => simp [intOf]; omega
      · have hs : Hid (lastTo f (c + 1) = lastTo f c) := Lib.hid (if_neg h)
        have hd : decide (freq c ≤ f) = false := decide_eq_false h
        generalize freq c = fc at *
        go_wp2_with (go_at_call 35; refine H35.out.mono ?_; rintro e w1 ⟨rfl, hb⟩; have HB1 := Lib.hid (bThen HB.out hb); clear hb)
        go_roundw
        case rel =>
          first
            | exact ⟨c + 1, by omega, by go_num, by rw [hs.out], HB1⟩
            | ((repeat apply Exists.intro); refine ⟨?_, rfl⟩; exact ⟨c + 1, by omega, by go_num, by rw [hs.out], HB1⟩)
        case measure => simp [intOf]; omega
    · obtain rfl : c = 12001 := by omega
      go_wp2_with fail
      go_ret
      exact ⟨HF.out, HB.out⟩
theorem notAbove_zero {f : Int} : notAbove f = 0 ↔ f < 27500 := by
  have h0 := freq_0
  constructor
  · intro h
    unfold notAbove at h
    have h1 := List.findIdx_getElem (xs := List.range 12001) (p := fun c => decide (f < freq c)) (w := by rw [List.length_range, h]; omega)
    simp only [h] at h1
    simp at h1
    omega
  · intro h
    exact notAbove_eq (by omega) (fun m hm => by omega) (fun m _ hm => by have := (freq_in hm).1; omega)
set_option maxHeartbeats 4000000 in
theorem lawCents_any (f : Int) (w : World) (hS : Semi w) : Calls Tryd.prog 11 #[.int .i64 f] w fun e w' => e = .returned (.bool true) ∧ Below w.heap.size w w' := by
  have HC := Lib.hid (Cents_any f w hS)
  have HS := Lib.hid hS
  have hz := notAbove_zero (f := f)
  have H15 : Hid (∀ W, Below w.heap.size w W → Calls Tryd.prog 15 #[] W fun e w' => e = .returned (.bool true) ∧ Below W.heap.size W w') := Lib.hid fun W hB => known_any W (HS.out.keep hB)
  have H37 : Hid (∀ W, Below w.heap.size w W → Calls Tryd.prog 37 #[.int .i64 f] W fun e w' => e = .returned (.int .i64 ((notAbove f : Nat) - 1)) ∧ Below W.heap.size W w') := Lib.hid fun W hB => refCents_any f W (HS.out.keep hB)
  clear hS
  by_cases h : f < 27500
  · rw [show centsRes f = .tuple #[.int .i64 0, .int .i64 5] from if_pos (hz.2 h)] at HC
    go_enter Tryd.func11, Tryd.ntmps11
    go_wp2_with (first
      | (go_at_call 36; refine HC.out.mono ?_; rintro e w1 ⟨rfl, hb⟩)
      | (go_at_call 15; refine (H15.out _ hb).mono ?_; rintro e w2 ⟨rfl, hb2⟩))
    go_ret
    exact ⟨rfl, bThen hb hb2⟩
  · have hn : notAbove f ≠ 0 := fun e => h (hz.1 e)
    rw [show centsRes f = .tuple #[.int .i64 ((notAbove f - 1 : Nat) : Int), .int .i64 0] from if_neg hn] at HC
    obtain ⟨q, hq⟩ : ∃ q : Nat, ((notAbove f : Nat) : Int) - 1 = (q : Int) := ⟨notAbove f - 1, by omega⟩
    rw [show (((notAbove f - 1 : Nat)) : Int) = (q : Int) by omega] at HC
    rw [hq] at H37
    clear hz hn hq
    go_enter Tryd.func11, Tryd.ntmps11
    go_wp2_with (first
      | (go_at_call 36; refine HC.out.mono ?_; rintro e w1 ⟨rfl, hb⟩)
      | (go_at_call 37; refine (H37.out _ hb).mono ?_; rintro e w2 ⟨rfl, hb2⟩; have hb3 := bThen hb hb2)
      | (go_at_call 15; refine (H15.out _ hb3).mono ?_; rintro e w4 ⟨rfl, hb4⟩))
    go_ret
    exact ⟨rfl, bThen hb3 hb4⟩
end Go.Proofs.YtejcbcjhmnhefaaDoor
