/- Contracts: loudness of the specification; Step and Loudness. -/
import Derived.Test.YtbeeddenidfenaaA10
set_option linter.unusedSimpArgs false
set_option linter.unusedVariables false
namespace Go.Proofs.Ytbeeddenidfenaa
open Go.RowKit

theorem sq_le_root {r : Nat} {q : Int} (h : (r : Int) * r ≤ q) (hq : q ≤ 1073741824) : r ≤ 32768 := by
  by_cases h2 : r ≤ 32768
  · exact h2
  · have := sq_mono (show 32769 ≤ r by omega)
    have e : ((32769 : Nat) : Int) * ((32769 : Nat) : Int) = 1073807361 := by decide
    omega
set_option maxRecDepth 10000 in
set_option maxHeartbeats 4000000 in
theorem refLoud_any (l : List Int) (v : Value) (w : World) (hv : SliceV w v 1 IntAt l) (hs : Sm l) (h0 : 0 < l.length) (hn : l.length ≤ 1000000) :
    Calls Try.prog 25 #[v] w fun e w' => e = .returned (.int .i64 (loud l)) ∧ Below w.heap.size w w' := by
  have HV := Lib.hid hv
  obtain ⟨a, c, rfl, -⟩ := hv
  have HS := Lib.hid hs
  have HQ := Lib.hid (quot_in hs h0)
  have hsl := sm_sqs hs
  have hz : ¬ (l.length : Int) = 0 := by omega
  have hz2 : ((l.length : Int) == 0) = false := beq_eq_false_iff_ne.2 hz
  clear hs
  go_enter Try.func25, Try.ntmps25
  go_wp2_with fail
  go_loopw [3, 4] (fun m i wr => ∃ k : Nat, k ≤ l.length ∧ i = .int .i64 k ∧ m = .int .i64 (sqs (l.take k)) ∧ Hid (Below w.heap.size w wr)) (fun _ i _ => l.length - (intOf i).toNat)
  case atStart => exact ⟨0, Nat.zero_le _, rfl, by simp [sqs], Lib.hid (Below.refl _ _)⟩
  case round =>
    obtain ⟨k, hk, rfl, rfl, HB⟩ := hrel
    by_cases hlt : k < l.length
    · obtain ⟨b, o, rfl, hf⟩ := (HV.out.keep IntAt.stable HB.out).at (by intro h; rw [h] at hlt; simp at hlt)
      have k0 := hf k hlt
      unfold IntAt at k0
      rw [Nat.mul_one] at k0
      have HT : Hid (sqs (l.take (k + 1)) = sqs (l.take k) + l[k] * l[k]) := Lib.hid (by rw [take_succ l k hlt, sqs_snoc])
      have hsm := sqs_md (HS.out.md.take k)
      rw [List.length_take_of_le (by omega)] at hsm
      have hq := HS.out _ (List.getElem_mem hlt)
      clear hf
      obtain ⟨x, hx⟩ : ∃ x, x = l[k] := ⟨_, rfl⟩
      rw [← hx] at k0 hq HT
      clear hx
      have hxx := sq_in (x := x) (B := 32768) (by omega) (by omega)
      obtain ⟨s, hse⟩ : ∃ s, s = sqs (l.take k) := ⟨_, rfl⟩
      rw [← hse] at hsm HT ⊢
      clear hse
      have hbl := cell_lt k0
      have q1 : IntKind.i64.wrap (x * x) = x * x := IntWalk.i64_in _ (by omega)
      have q2 : IntKind.i64.wrap (s + x * x) = s + x * x := IntWalk.i64_in _ (by omega)
      go_wp2_with fail
      refine wp_opaque fun Q2 hQ2 => ?_
      (refine wp_region_below (by kernel_rfl) (by kernel_rfl) ?_; (repeat (first | go_big_quiet_step (fail) | quiet_step (fail))); (refine wpQuiet_nil ?_; intro _ hw'; obtain ⟨xq, hw''⟩ := hw'; subst hw''))
      refine hQ2 _ _ _ ?_
      replace HB := Lib.hid (bThen HB.out xq.2)
      generalize xq.val = W9 at HB ⊢
      go_wp2_with fail
      go_roundw
      case rel => exact ⟨k + 1, by omega, by go_num, by rw [HT.out], HB⟩
      case measure => simp [intOf]; omega
    · obtain rfl : k = l.length := by omega
      rw [List.take_length]
      go_wp2_with fail
      have hqi := HQ.out
      have HLD : Hid (loud l = rt (sqs l / l.length)) := Lib.hid rfl
      clear HQ
      generalize sqs l / (l.length : Int) = q at *
      obtain ⟨wo, hwo⟩ : ∃ wo, wo = wr := ⟨_, rfl⟩
      subst hwo
      go_loopw [5] (fun i wr => ∃ r : Nat, i = .int .i64 r ∧ (r : Int) * r ≤ q ∧ wr = wo) (fun i _ => 32769 - (intOf i).toNat)
      case atStart => exact ⟨0, rfl, by simpa using hqi.1, rfl⟩
      case round =>
        obtain ⟨r, rfl, hr, rfl⟩ := hrel
        have hr2 := sq_le_root hr hqi.2
        have hrr := sq_in (x := (r : Int) + 1) (B := 32769) (by omega) (by omega)
        have q1 : IntKind.i64.wrap (((r : Int) + 1) * ((r : Int) + 1)) = ((r : Int) + 1) * ((r : Int) + 1) := IntWalk.i64_in _ (by omega)
        have q2 : wrap64 (((r : Int) + 1) * ((r : Int) + 1)) = ((r : Int) + 1) * ((r : Int) + 1) := IntWalk.wrap64_in _ (by omega)
        have HR := Lib.hid hr
        clear hr
        by_cases hle : ((r : Int) + 1) * ((r : Int) + 1) ≤ q
        · have hr3 := sq_le_root (r := r + 1) (by rw [Int.natCast_add]; exact hle) hqi.2
          go_wp2_with fail
          go_roundw
          case rel => exact ⟨r + 1, by go_num, by rw [Int.natCast_add]; exact hle, by first | rfl | trivial⟩
          case measure => simp [intOf]; omega
        · go_wp2_with fail
          go_ret
          exact ⟨ret_int (by rw [HLD.out, rt_eq hr2 HR.out (by rw [Int.natCast_add]; first | exact hle | exact Int.not_le.1 hle)]), HB.out⟩
def errPair (e x : Int) : Value := .tuple #[.int .i64 (if e = 0 then x else 0), .int .i64 e]
set_option maxHeartbeats 1000000 in
theorem Step_any (l : List Int) (v : Value) (w : World) (hv : SliceV w v 1 IntAt l) :
    Calls Try.prog 21 #[v] w fun e w' => e = .returned (.tuple #[.int .i64 (if chk true [l] = 0 then stp l else 0), .int .i64 (chk true [l])]) ∧ Below w.heap.size w w' := by
  have HN := Lib.hid (bAlloc (Below.refl w.heap.size w) (.cells #[v] 22))
  have HC := Lib.hid (check_any true [l] _ _ (one_wave hv 22))
  have HV := Lib.hid hv
  obtain ⟨a, c, rfl, -⟩ := hv
  by_cases h : chk true [l] = 0
  · rw [if_pos h, h]
    rw [h] at HC
    have hcl : ¬ 100000 < (l.length : Int) ∧ waveOk l = true := by
      rw [chk_one] at h
      by_cases h1 : 100000 < (l.length : Int)
      · rw [if_pos h1] at h; cases h
      · rw [if_neg h1] at h
        by_cases h2 : waveOk l = true
        · exact ⟨h1, h2⟩
        · simp [h2] at h
    have HS := Lib.hid (fun W hb => step_any l (.slice a l.length c) W (HV.out.keep IntAt.stable hb) (sm_of hcl.2) (by omega))
    clear hcl h
    go_enter Try.func21, Try.ntmps21
    go_wp2_with (first
      | (go_at_call 59; refine HC.out.mono ?_; rintro e w1 ⟨rfl, hb⟩; have HB := Lib.hid (bThen HN.out hb); clear hb)
      | (go_at_call 60; refine (HS.out _ HB.out).mono ?_; rintro e w2 ⟨rfl, hb⟩))
    go_ret2
    exact ⟨rfl, bThen HB.out hb⟩
  · rw [if_neg h]
    have hb0 : (chk true [l] == 0) = false := beq_eq_false_iff_ne.2 h
    generalize chk true [l] = er at *
    go_enter Try.func21, Try.ntmps21
    go_wp2_with (go_at_call 59; refine HC.out.mono ?_; rintro e w1 ⟨rfl, hb⟩; have HB := Lib.hid (bThen HN.out hb); clear hb)
    go_ret2
    exact ⟨rfl, HB.out⟩
theorem chk_ok {r : Bool} {l : List Int} (h : chk r [l] = 0) : ¬ 100000 < (l.length : Int) ∧ waveOk l = true ∧ r = true := by
  rw [chk_one] at h
  by_cases h1 : 100000 < (l.length : Int)
  · rw [if_pos h1] at h; cases h
  · rw [if_neg h1] at h
    by_cases h2 : r = true ∧ waveOk l = true
    · exact ⟨h1, h2.2, h2.1⟩
    · rw [if_neg h2] at h; cases h
def ldOk (l : List Int) : Bool := decide (0 < l.length)
set_option maxRecDepth 10000 in
set_option maxHeartbeats 1000000 in
theorem Loudness_any (l : List Int) (v : Value) (w : World) (hv : SliceV w v 1 IntAt l) :
    Calls Try.prog 22 #[v] w fun e w' => e = .returned (.tuple #[.int .i64 (if chk (ldOk l) [l] = 0 then loud l else 0), .int .i64 (chk (ldOk l) [l])]) ∧ Below w.heap.size w w' := by
  have HN := Lib.hid (bAlloc (Below.refl w.heap.size w) (.cells #[v] 22))
  have HC := Lib.hid (check_any (ldOk l) [l] _ _ (one_wave hv 22))
  have HV := Lib.hid hv
  obtain ⟨a, c, rfl, hl, -⟩ := hv
  unfold most at hl
  by_cases h : chk (ldOk l) [l] = 0
  · rw [if_pos h, h]
    rw [h] at HC
    have hcl := chk_ok h
    have hp : 0 < l.length := of_decide_eq_true hcl.2.2
    rw [hcl.2.2] at HC
    have HS := Lib.hid (fun W hb => loudness_any l (.slice a l.length c) W (HV.out.keep IntAt.stable hb) (sm_of hcl.2.1) hp (by omega))
    have hi : (0 : Int) < (l.length : Int) := by omega
    clear hcl h
    go_enter Try.func22, Try.ntmps22
    go_wp2_with (first
      | (go_at_call 59; refine HC.out.mono ?_; rintro e w1 ⟨rfl, hb⟩; have HB := Lib.hid (bThen HN.out hb); clear hb)
      | (go_at_call 61; refine (HS.out _ HB.out).mono ?_; rintro e w2 ⟨rfl, hb⟩))
    go_ret2
    exact ⟨rfl, bThen HB.out hb⟩
  · rw [if_neg h]
    have hb0 : (chk (ldOk l) [l] == 0) = false := beq_eq_false_iff_ne.2 h
    obtain ⟨er, her⟩ : ∃ er, er = chk (ldOk l) [l] := ⟨_, rfl⟩
    rw [← her] at HC hb0 ⊢
    clear her h
    by_cases hp : 0 < l.length
    · have hi : (0 : Int) < (l.length : Int) := by omega
      rw [show ldOk l = true from decide_eq_true hp] at HC
      go_enter Try.func22, Try.ntmps22
      go_wp2_with (go_at_call 59; refine HC.out.mono ?_; rintro e w1 ⟨rfl, hb⟩; have HB := Lib.hid (bThen HN.out hb); clear hb)
      go_ret2
      exact ⟨rfl, HB.out⟩
    · have hi : ¬ (0 : Int) < (l.length : Int) := by omega
      rw [show ldOk l = false from decide_eq_false hp] at HC
      go_enter Try.func22, Try.ntmps22
      go_wp2_with (go_at_call 59; refine HC.out.mono ?_; rintro e w1 ⟨rfl, hb⟩; have HB := Lib.hid (bThen HN.out hb); clear hb)
      go_ret2
      exact ⟨rfl, HB.out⟩
end Go.Proofs.Ytbeeddenidfenaa
