/- Contracts: samples, waves, marks, ratios, overlaps; equal lists. -/
import Derived.Test.YtbeeddenidfenaaA2
set_option linter.unusedSimpArgs false
set_option linter.unusedVariables false
namespace Go.Proofs.Ytbeeddenidfenaa
open Go.RowKit

set_option maxHeartbeats 1000000 in
theorem Samples_any (l : List Int) (v : Value) (w : World) (hv : SliceV w v 1 IntAt l) :
    Calls Try.prog 37 #[v] w fun e w' => e = .returned (.bool (waveOk l)) ∧ w = w' := by
  have HV := Lib.hid hv
  obtain ⟨a, c, rfl, hl, -⟩ := hv
  unfold most at hl
  go_enter Try.func37, Try.ntmps37
  go_wp2_with fail
  go_loopw [3] (fun i wr => ∃ k : Nat, k ≤ l.length ∧ i = .int .i64 k ∧ Hid ((l.take k).all samOk = true) ∧ w = wr) (fun i _ => l.length - (intOf i).toNat)
  case atStart => exact ⟨0, Nat.zero_le _, rfl, Lib.hid (by simp), rfl⟩
  case round =>
    obtain ⟨k, hk, rfl, HK, rfl⟩ := hrel
    by_cases hlt : k < l.length
    · obtain ⟨b, o, rfl, hf⟩ := HV.out.at (by intro h; simp [h] at hlt)
      have k0 := hf k hlt
      have HIN : Hid (l[k] ∈ l) := Lib.hid (List.getElem_mem hlt)
      have HT : Hid ((l.take (k + 1)).all samOk = ((l.take k).all samOk && samOk l[k])) := Lib.hid (by rw [take_succ l k hlt, List.all_append]; simp)
      clear hf
      generalize l[k] = x at *
      unfold IntAt at k0
      rw [Nat.mul_one] at k0
      cases hp : samOk x
      · have hp' := hp
        unfold samOk at hp'
        go_wp2_with (go_at_call 58; refine (in_any _ _ _ _).mono ?_; rintro e w1 ⟨rfl, rfl⟩)
        go_ret
        refine ⟨ret_bool ?_, rfl⟩
        cases h : waveOk l
        · rfl
        · have := List.all_eq_true.1 h x HIN.out
          rw [hp] at this; cases this
      · have hp' := hp
        unfold samOk at hp'
        go_wp2_with (go_at_call 58; refine (in_any _ _ _ _).mono ?_; rintro e w1 ⟨rfl, rfl⟩)
        go_roundw
        case rel => exact ⟨k + 1, by omega, by go_num, Lib.hid (by rw [HT.out, HK.out, hp]; rfl), by first | rfl | trivial⟩
        case measure => simp [intOf]; omega
    · obtain rfl : k = l.length := by omega
      go_wp2_with fail
      go_ret
      refine ⟨ret_bool ?_, rfl⟩
      have h := HK.out
      rw [List.take_length] at h
      exact h.symm
theorem chk_one (r : Bool) (l : List Int) : chk r [l] = if 100000 < (l.length : Int) then 4 else if r = true ∧ waveOk l = true then 0 else 2 := by
  unfold chk waveBig waveBad
  by_cases h : 100000 < (l.length : Int)
  · simp [h]
  · cases r <;> cases hw : waveOk l <;> simp [h, hw]
set_option maxHeartbeats 1000000 in
theorem Wave_any (l : List Int) (v : Value) (w : World) (hv : SliceV w v 1 IntAt l) :
    Calls Try.prog 23 #[v] w fun e w' => e = .returned (.int .i64 (chk true [l])) ∧ w = w' := by
  have H := Lib.hid (Samples_any l v w hv)
  obtain ⟨a, c, rfl, hl, -⟩ := hv
  unfold most at hl
  rw [chk_one]
  by_cases h1 : 100000 < (l.length : Int)
  · rw [if_pos h1]
    go_enter Try.func23, Try.ntmps23
    go_wp2_with (go_at_call 37; refine H.out.mono ?_; rintro e w1 ⟨rfl, rfl⟩)
    go_ret
    exact ⟨rfl, rfl⟩
  · rw [if_neg h1]
    cases h2 : waveOk l
    · rw [h2] at H
      go_enter Try.func23, Try.ntmps23
      go_wp2_with (go_at_call 37; refine H.out.mono ?_; rintro e w1 ⟨rfl, rfl⟩)
      go_ret
      exact ⟨rfl, rfl⟩
    · rw [h2] at H
      go_enter Try.func23, Try.ntmps23
      go_wp2_with (go_at_call 37; refine H.out.mono ?_; rintro e w1 ⟨rfl, rfl⟩)
      go_ret
      exact ⟨rfl, rfl⟩

/-- Whether a mismatch exists, of two lengths. -/
def ovl (a b : Nat) (n k : Int) : Bool := decide (1 ≤ n) && decide (n ≤ a) && decide (0 ≤ k) && decide (k + n ≤ b)
set_option maxHeartbeats 1000000 in
theorem overlaps_any (l m : List Int) (n k : Int) (v u : Value) (w : World) (hv : SliceV w v 1 IntAt l) (hu : SliceV w u 1 IntAt m) (hn : -9223372036854775808 ≤ n ∧ n ≤ 9223372036854775807) (hk : -9223372036854775808 ≤ k ∧ k ≤ 9223372036854775807) :
    Calls Try.prog 62 #[v, u, .int .i64 n, .int .i64 k] w fun e w' => e = .returned (.bool (ovl l.length m.length n k)) ∧ w = w' := by
  obtain ⟨a, c, rfl, hl, -⟩ := hv
  obtain ⟨b, d, rfl, hm, -⟩ := hu
  unfold most at hl hm
  generalize l.length = x at *
  generalize m.length = y at *
  cases g1 : betw n 1 x
  · have g1' := g1
    simp only [betw, Bool.and_eq_false_iff, decide_eq_false_iff_not] at g1'
    go_enter Try.func62, Try.ntmps62
    go_wp2_with (go_at_call 75; refine (between_any _ _ _ _).mono ?_; rintro e w1 ⟨rfl, rfl⟩)
    go_ret
    refine ⟨ret_bool ?_, rfl⟩
    unfold ovl
    rcases g1' with h | h <;> (simp; omega)
  · have g1' := g1
    simp only [betw, Bool.and_eq_true, decide_eq_true_eq] at g1'
    go_enter Try.func62, Try.ntmps62
    go_wp2_with (go_at_call 75; refine (between_any _ _ _ _).mono ?_; rintro e w1 ⟨rfl, rfl⟩)
    go_ret
    refine ⟨ret_bool ?_, rfl⟩
    unfold ovl betw
    rw [decide_eq_true g1'.1, decide_eq_true g1'.2]
    simp only [Bool.true_and]
    congr 1
    exact decide_eq_decide.2 (by omega)
set_option maxHeartbeats 1000000 in
theorem Exists_any (l m : List Int) (n k : Int) (v u : Value) (w : World) (hv : SliceV w v 1 IntAt l) (hu : SliceV w u 1 IntAt m) (hn : -9223372036854775808 ≤ n ∧ n ≤ 9223372036854775807) (hk : -9223372036854775808 ≤ k ∧ k ≤ 9223372036854775807) :
    Calls Try.prog 29 #[v, u, .int .i64 n, .int .i64 k] w fun e w' => e = .returned (.bool (ovl l.length m.length n k)) ∧ w = w' := by
  obtain ⟨a, c, rfl, hl, -⟩ := hv
  obtain ⟨b, d, rfl, hm, -⟩ := hu
  unfold most at hl hm
  generalize l.length = x at *
  generalize m.length = y at *
  by_cases h1 : 1 ≤ n
  · by_cases h2 : n ≤ (x : Int)
    · by_cases h3 : n ≤ (y : Int)
      · by_cases h4 : 0 ≤ k
        · by_cases h5 : k ≤ (y : Int) - n
          · go_enter Try.func29, Try.ntmps29
            go_wp2_with fail
            go_ret
            exact ⟨ret_bool (by unfold ovl; simp <;> omega), rfl⟩
          · go_enter Try.func29, Try.ntmps29
            go_wp2_with fail
            go_ret
            exact ⟨ret_bool (by unfold ovl; simp <;> omega), rfl⟩
        · go_enter Try.func29, Try.ntmps29
          go_wp2_with fail
          go_ret
          exact ⟨ret_bool (by unfold ovl; simp <;> omega), rfl⟩
      · go_enter Try.func29, Try.ntmps29
        go_wp2_with fail
        go_ret
        exact ⟨ret_bool (by unfold ovl; simp <;> omega), rfl⟩
    · go_enter Try.func29, Try.ntmps29
      go_wp2_with fail
      go_ret
      exact ⟨ret_bool (by unfold ovl; simp <;> omega), rfl⟩
  · go_enter Try.func29, Try.ntmps29
    go_wp2_with fail
    go_ret
    exact ⟨ret_bool (by unfold ovl; simp <;> omega), rfl⟩
def ratOk (a b : Int) : Bool := betw a 1 1000 && betw b 1 1000 && decide (a ≤ 16 * b) && decide (b ≤ 16 * a)
theorem ratOk_in {a b : Int} (h : ratOk a b = true) : 1 ≤ a ∧ a ≤ 1000 ∧ 1 ≤ b ∧ b ≤ 1000 ∧ a ≤ 16 * b ∧ b ≤ 16 * a := by
  simp only [ratOk, betw, Bool.and_eq_true, decide_eq_true_eq] at h; omega
set_option maxHeartbeats 1000000 in
theorem ratioRight_any (a b : Int) (w : World) : Calls Try.prog 69 #[.int .i64 a, .int .i64 b] w fun e w' => e = .returned (.bool (ratOk a b)) ∧ w = w' := by
  cases g1 : betw a 1 1000
  · go_enter Try.func69, Try.ntmps69
    go_wp2_with (go_at_call 75; refine (between_any _ _ _ _).mono ?_; rintro e w1 ⟨rfl, rfl⟩)
    all_goals
      go_ret
      exact ⟨ret_bool (by simp [ratOk, *] <;> omega), rfl⟩
  · cases g2 : betw b 1 1000
    · go_enter Try.func69, Try.ntmps69
      go_wp2_with (go_at_call 75; refine (between_any _ _ _ _).mono ?_; rintro e w1 ⟨rfl, rfl⟩)
      all_goals
        go_ret
        exact ⟨ret_bool (by simp [ratOk, *] <;> omega), rfl⟩
    · have h1 := g1
      have h2 := g2
      simp only [betw, Bool.and_eq_true, decide_eq_true_eq] at h1 h2
      by_cases h3 : a ≤ 16 * b
      · by_cases h4 : b ≤ 16 * a
        · go_enter Try.func69, Try.ntmps69
          go_wp2_with (go_at_call 75; refine (between_any _ _ _ _).mono ?_; rintro e w1 ⟨rfl, rfl⟩)
          all_goals
            go_ret
            exact ⟨ret_bool (by simp [ratOk, *] <;> omega), rfl⟩
        · go_enter Try.func69, Try.ntmps69
          go_wp2_with (go_at_call 75; refine (between_any _ _ _ _).mono ?_; rintro e w1 ⟨rfl, rfl⟩)
          all_goals
            go_ret
            exact ⟨ret_bool (by simp [ratOk, *] <;> omega), rfl⟩
      · go_enter Try.func69, Try.ntmps69
        go_wp2_with (go_at_call 75; refine (between_any _ _ _ _).mono ?_; rintro e w1 ⟨rfl, rfl⟩)
        all_goals
          go_ret
          exact ⟨ret_bool (by simp [ratOk, *] <;> omega), rfl⟩
set_option maxHeartbeats 1000000 in
theorem Ratio_any (a b : Int) (w : World) : Calls Try.prog 44 #[.int .i64 a, .int .i64 b] w fun e w' => e = .returned (.bool (ratOk a b)) ∧ w = w' := by
  cases g1 : betw a 1 1000
  · go_enter Try.func44, Try.ntmps44
    go_wp2_with (go_at_call 58; refine (in_any _ _ _ _).mono ?_; rintro e w1 ⟨rfl, rfl⟩)
    all_goals
      go_ret
      exact ⟨ret_bool (by simp [ratOk, *] <;> omega), rfl⟩
  · cases g2 : betw b 1 1000
    · go_enter Try.func44, Try.ntmps44
      go_wp2_with (go_at_call 58; refine (in_any _ _ _ _).mono ?_; rintro e w1 ⟨rfl, rfl⟩)
      all_goals
        go_ret
        exact ⟨ret_bool (by simp [ratOk, *] <;> omega), rfl⟩
    · have h1 := g1
      have h2 := g2
      simp only [betw, Bool.and_eq_true, decide_eq_true_eq] at h1 h2
      by_cases h3 : a ≤ 16 * b
      · by_cases h4 : b ≤ 16 * a
        · go_enter Try.func44, Try.ntmps44
          go_wp2_with (go_at_call 58; refine (in_any _ _ _ _).mono ?_; rintro e w1 ⟨rfl, rfl⟩)
          all_goals
            go_ret
            exact ⟨ret_bool (by simp [ratOk, *] <;> omega), rfl⟩
        · go_enter Try.func44, Try.ntmps44
          go_wp2_with (go_at_call 58; refine (in_any _ _ _ _).mono ?_; rintro e w1 ⟨rfl, rfl⟩)
          all_goals
            go_ret
            exact ⟨ret_bool (by simp [ratOk, *] <;> omega), rfl⟩
      · go_enter Try.func44, Try.ntmps44
        go_wp2_with (go_at_call 58; refine (in_any _ _ _ _).mono ?_; rintro e w1 ⟨rfl, rfl⟩)
        all_goals
          go_ret
          exact ⟨ret_bool (by simp [ratOk, *] <;> omega), rfl⟩
theorem take_eq_succ {α : Type} {xs ys : List α} {k : Nat} (h : xs.take k = ys.take k) (hx : k < xs.length) (hy : k < ys.length) (e : xs[k] = ys[k]) : xs.take (k + 1) = ys.take (k + 1) := by
  rw [take_succ _ _ hx, take_succ _ _ hy, h, e]
set_option maxHeartbeats 1000000 in
theorem Same_any (xs ys : List Int) (v u : Value) (w : World) (hv : SliceV w v 1 IntAt xs) (hu : SliceV w u 1 IntAt ys) :
    Calls Try.prog 31 #[v, u] w fun e w' => e = .returned (.bool (decide (xs = ys))) ∧ Below w.heap.size w w' := by
  obtain ⟨xa, xc, rfl, hxl, hx⟩ := hv
  obtain ⟨ya, yc, rfl, hyl, hy⟩ := hu
  unfold most at hxl hyl
  by_cases hl : xs.length = ys.length
  · have hl' : ((xs.length : Int) == (ys.length : Int)) = true := by simp; omega
    have HL := Lib.hid hl
    clear hl
    go_enter Try.func31, Try.ntmps31
    go_wp2_with fail
    go_loopw [5] (fun i wr => ∃ k : Nat, k ≤ xs.length ∧ i = .int .i64 k ∧ Hid (xs.take k = ys.take k) ∧ Below w.heap.size w wr) (fun i _ => xs.length - (intOf i).toNat)
    case atStart => exact ⟨0, Nat.zero_le _, rfl, Lib.hid (by simp), Below.refl _ _⟩
    case round =>
      obtain ⟨k, hk, rfl, HT, hB⟩ := hrel
      by_cases hlt : k < xs.length
      · have hly : k < ys.length := by have := HL.out; omega
        have hly1 : (k : Int) < (ys.length : Int) := by omega
        have HN : Hid (xs[k] = ys[k] → Hid (xs.take (k + 1) = ys.take (k + 1))) := Lib.hid fun e => Lib.hid (take_eq_succ HT.out hlt hly e)
        rcases hx with hnil | ⟨xb, xo, rfl, hxf⟩
        · simp [hnil] at hlt
        rcases hy with hnil | ⟨yb, yo, rfl, hyf⟩
        · simp [hnil] at hly
        have p0 : wr.cell? ⟨xb, xo + k, none⟩ = some (.int .i64 xs[k]) := by have := keep hB (hxf k hlt); simpa using this
        have q0 : wr.cell? ⟨yb, yo + k, none⟩ = some (.int .i64 ys[k]) := by have := keep hB (hyf k hly); simpa using this
        have HE : Hid (xs[k] ≠ ys[k] → xs ≠ ys) := Lib.hid (by intro h e; exact h (by simp [e]))
        have hpb := cell_lt p0
        have hqb := cell_lt q0
        clear hxf hyf
        generalize xs[k] = p at *
        generalize ys[k] = q at *
        by_cases he : p = q
        · have h1 : (p == q) = true := by simp [he]
          have HEQ := Lib.hid he
          clear he
          go_wp2_with fail
          refine wp_opaque fun Q2 hQ2 => ?_
          (refine wp_region_below (by kernel_rfl) (by kernel_rfl) ?_; (repeat (first | go_big_quiet_step (fail) | quiet_step (fail))); (refine wpQuiet_nil ?_; intro _ hw'; obtain ⟨xq, hw''⟩ := hw'; subst hw''))
          refine hQ2 _ _ _ ?_
          go_wp2_with fail
          go_roundw
          case rel => exact ⟨k + 1, by omega, by go_num, HN.out HEQ.out, bThen hB xq.2⟩
          case measure => simp [intOf]; omega
        · have h1 : (p == q) = false := by simp [he]
          have HNE := Lib.hid he
          clear he
          go_wp2_with fail
          refine wp_opaque fun Q2 hQ2 => ?_
          (refine wp_region_below (by kernel_rfl) (by kernel_rfl) ?_; (repeat (first | go_big_quiet_step (fail) | quiet_step (fail))); (refine wpQuiet_nil ?_; intro _ hw'; obtain ⟨xq, hw''⟩ := hw'; subst hw''))
          refine hQ2 _ _ _ ?_
          go_wp2_with fail
          go_ret
          exact ⟨ret_bool (by simp; exact HE.out HNE.out), bThen hB xq.2⟩
      · obtain rfl : k = xs.length := by omega
        go_wp2_with fail
        go_ret
        exact ⟨ret_bool (by have h := HT.out; rw [List.take_length, HL.out, List.take_length] at h; simp [h]), hB⟩
  · have hl' : ((xs.length : Int) == (ys.length : Int)) = false := by simp; omega
    have HL := Lib.hid hl
    clear hl
    go_enter Try.func31, Try.ntmps31
    go_wp2_with fail
    go_ret
    exact ⟨ret_bool (by simp; intro h; exact HL.out (by rw [h])), Below.refl _ _⟩
end Go.Proofs.Ytbeeddenidfenaa
