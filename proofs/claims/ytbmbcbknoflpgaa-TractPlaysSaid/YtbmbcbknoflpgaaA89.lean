/- Contracts: noise. -/
import Derived.Test.YtbmbcbknoflpgaaA5
import Derived.Test.YtbmbcbknoflpgaaA6
set_option linter.unusedSimpArgs false
set_option linter.unusedVariables false
namespace Go.Proofs.Ytbmbcbknoflpgaa
open Go.RowKit

/-- The random numbers behind a seed, and the samples. -/
def rsd (s : Int) : Nat → Int
  | 0 => s
  | k + 1 => (1664525 * rsd s k + 1013904223) % 4294967296
def nsv (h r : Int) : Int := r / 65536 % (2 * h + 1) - h
def noiL (s h : Int) (n : Nat) : List Int := (List.range n).map fun k => nsv h (rsd s (k + 1))
theorem noiL_len (s h : Int) (n : Nat) : (noiL s h n).length = n := by simp [noiL]
theorem noiL_get (s h : Int) {n i : Nat} (hi : i < n) : (noiL s h n).getD i 0 = nsv h (rsd s (i + 1)) := by
  rw [gI (by rw [noiL_len]; exact hi)]; simp [noiL]
theorem rsd_in {s : Int} (hs : 0 ≤ s ∧ s ≤ 4294967295) (k : Nat) : 0 ≤ rsd s k ∧ rsd s k ≤ 4294967295 := by
  cases k with
  | zero => exact hs
  | succ k => unfold rsd; omega
set_option maxRecDepth 10000 in
set_option maxHeartbeats 2000000 in
theorem noise_any (s h : Int) (n : Nat) (w : World) (hs : 0 ≤ s ∧ s ≤ 4294967295) (hh : 0 ≤ h ∧ h ≤ 500) (hn : n ≤ 100000) :
    Calls Try.prog 80 #[.int .u32 s, .int .i64 h, .int .i64 n] w fun e w' => (∃ r, e = .returned r ∧ SliceV w' r 1 IntAt (noiL s h n)) ∧ Below w.heap.size w w' := by
  have hmk := makeI n (by omega) w
  have HS := Lib.hid hs
  go_enter Try.func80, Try.ntmps80
  go_wp2_with fail
  have HR0 : Hid ((w.alloc (.cells (madeCells #[Value.int .i64 0] n) 3)).rowIs w.heap.size 3 n (fun i => .int .i64 (if i < 0 then nsv h (rsd s (i + 1)) else 0))) := Lib.hid ((World.rowIs_made w (.int .i64 0) n 3).congr fun i hi => by rw [if_neg (by omega)])
  have HB0 := Lib.hid (bAlloc (Below.refl w.heap.size w) (.cells (madeCells #[Value.int .i64 0] n) 3))
  clear hmk
  generalize World.alloc w _ = W1 at *
  go_loopw [0, 13] (fun r i wr => ∃ k : Nat, k ≤ n ∧ i = .int .i64 k ∧ r = .int .u32 (rsd s k) ∧ Hid (wr.rowIs w.heap.size 3 n (fun i => .int .i64 (if i < k then nsv h (rsd s (i + 1)) else 0))) ∧ Hid (Below w.heap.size w wr)) (fun _ i _ => n - (intOf i).toNat)
  case atStart => exact ⟨0, Nat.zero_le _, rfl, rfl, HR0, HB0⟩
  case round =>
    obtain ⟨k, hk, rfl, rfl, HR, HB⟩ := hrel
    by_cases hlt : k < n
    · have hr := rsd_in HS.out k
      have hr2 := rsd_in HS.out (k + 1)
      have HE : Hid (rsd s (k + 1) = (1664525 * rsd s k + 1013904223) % 4294967296) := Lib.hid rfl
      have he : rsd s (k + 1) = (1664525 * rsd s k + 1013904223) % 4294967296 := rfl
      have HNV : Hid (nsv h (rsd s (k + 1)) = rsd s (k + 1) / 65536 % (2 * h + 1) - h) := Lib.hid rfl
      have hm1 := Int.emod_nonneg (rsd s (k + 1) / 65536) (show 2 * h + 1 ≠ 0 by omega)
      have hm2 := Int.emod_lt_of_pos (rsd s (k + 1) / 65536) (show 0 < 2 * h + 1 by omega)
      obtain ⟨p, hp⟩ : ∃ p, rsd s k = p := ⟨_, rfl⟩
      rw [hp] at hr he ⊢
      obtain ⟨q, hq⟩ : ∃ q, rsd s (k + 1) = q := ⟨_, rfl⟩
      rw [hq] at hr2 he hm1 hm2 HNV
      have HQ := Lib.hid hq
      obtain ⟨m, hm⟩ : ∃ m, q / 65536 % (2 * h + 1) = m := ⟨_, rfl⟩
      rw [hm] at hm1 hm2 HNV
      have v1 : IntKind.u32.wrap (1664525 * p) = 1664525 * p % 4294967296 := IntKind.wrap_u32 _
      have v2 : IntKind.u32.wrap (1664525 * p % 4294967296 + 1013904223) = q := by rw [IntKind.wrap_u32]; omega
      have v2' : (1664525 * p % 4294967296 + 1013904223) % 4294967296 = q := by omega
      have v3 : IntKind.i64.wrap (2 * h) = 2 * h := IntWalk.i64_in _ (by omega)
      have v4 : IntKind.i64.wrap (2 * h + 1) = 2 * h + 1 := IntWalk.i64_in _ (by omega)
      have v5 : ¬ 2 * h + 1 = 0 := by omega
      have v6 : (2 * h + 1 == 0) = false := by simp; omega
      have v7 : (q / 65536).tmod (2 * h + 1) = m := by rw [Int.tmod_eq_emod_of_nonneg (by omega), hm]
      have v8 : IntKind.i64.wrap (m - h) = m - h := IntWalk.i64_in _ (by omega)
      have v9 : IntKind.i64.wrap m = m := IntWalk.i64_in _ (by omega)
      have v10 : IntKind.i64.wrap (q / 65536) = q / 65536 := IntWalk.i64_in _ (by omega)
      have v11 : IntKind.u32.wrap (q / 65536) = q / 65536 := IntWalk.u32_in _ (by omega)
      have z0 := HR.out.frozen k
      have c0 := HR.out.cell (i := k) hlt
      have hgl := HR.out.lt
      have hkk : (k : Int) < (n : Int) := by omega
      have HR2 : Hid ((wr.setCell ⟨w.heap.size, k, none⟩ (.int .i64 (m - h))).rowIs w.heap.size 3 n (fun i => .int .i64 (if i < k + 1 then nsv h (rsd s (i + 1)) else 0))) := Lib.hid ((HR.out.set k (.int .i64 (m - h))).congr fun j _ => by
        by_cases hj : j = k
        · subst hj
          rw [if_pos rfl, if_pos (by omega), hq, HNV.out]
        · rw [if_neg hj]
          by_cases hj2 : j < k
          · rw [if_pos hj2, if_pos (by omega)]
          · rw [if_neg hj2, if_neg (by omega)])
      have HB2 : Hid (Below w.heap.size w (wr.setCell ⟨w.heap.size, k, none⟩ (.int .i64 (m - h)))) := Lib.hid (HB.out.setCell (p := ⟨w.heap.size, k, none⟩) (Nat.le_refl _) _)
      clear he hp hq hm
      go_wp2_with fail
      go_roundw
      case rel => exact ⟨k + 1, by omega, by go_num, by rw [HQ.out], HR2, HB2⟩
      case measure => simp [intOf]; omega
    · obtain rfl : k = n := by omega
      go_wp2_with fail
      go_ret
      refine ⟨⟨_, rfl, row_slice HR.out (noiL_len s h k) (fun i hi => ?_) (by unfold most; omega)⟩, HB.out⟩
      rw [noiL_len] at hi
      rw [if_pos hi]
      simp [noiL]
end Go.Proofs.Ytbmbcbknoflpgaa
namespace Go.Proofs.Ytbmbcbknoflpgaa
open Go.RowKit

/-- What Noise refuses. -/
def noiErr (s h n : Int) : Int := if (betw s 0 4294967295 && betw h 0 500 && decide (0 ≤ n)) = true then (if 100000 < n then 4 else 0) else 2
theorem nil_slice (w : World) : SliceV w (.slice none 0 0) 1 IntAt ([] : List Int) := ⟨none, 0, rfl, ⟨Nat.zero_le _, Nat.zero_le _⟩, .inl rfl⟩
set_option maxHeartbeats 2000000 in
theorem Noise_any (s h n : Int) (w : World) : Calls Try.prog 45 #[.int .i64 s, .int .i64 h, .int .i64 n] w fun e w' => (∃ r, e = .returned (.tuple #[r, .int .i64 (noiErr s h n)]) ∧ SliceV w' r 1 IntAt (if noiErr s h n = 0 then noiL s h n.toNat else [])) ∧ Below w.heap.size w w' := by
  have HX := Lib.hid (between_any s 0 4294967295)
  have HG := Lib.hid (between_any h 0 500)
  have hd : noiErr s h n = if (betw s 0 4294967295 && betw h 0 500 && decide (0 ≤ n)) = true then (if 100000 < n then 4 else 0) else 2 := rfl
  rw [hd]
  clear hd
  cases h1 : betw s 0 4294967295
  · rw [h1] at HX
    clear h1
    simp only [Bool.false_and, Bool.false_eq_true, if_false]
    go_enter Try.func45, Try.ntmps45
    go_wp2_with (first
      | (go_at_call 71; with_reducible refine Calls.mono (HX.out _) ?_; rintro e w1 ⟨rfl, rfl⟩)
      | (go_at_call 71; with_reducible refine Calls.mono (HG.out _) ?_; rintro e w1 ⟨rfl, rfl⟩))
    all_goals first | (exfalso; omega) | skip
    go_ret2
    exact ⟨⟨_, rfl, nil_slice _⟩, Below.refl _ _⟩
  · rw [h1] at HX
    cases h2 : betw h 0 500
    · rw [h2] at HG
      clear h1 h2
      simp only [Bool.false_and, Bool.and_false, Bool.false_eq_true, if_false]
      go_enter Try.func45, Try.ntmps45
      go_wp2_with (first
        | (go_at_call 71; with_reducible refine Calls.mono (HX.out _) ?_; rintro e w1 ⟨rfl, rfl⟩)
        | (go_at_call 71; with_reducible refine Calls.mono (HG.out _) ?_; rintro e w1 ⟨rfl, rfl⟩))
      all_goals first | (exfalso; omega) | skip
      go_ret2
      exact ⟨⟨_, rfl, nil_slice _⟩, Below.refl _ _⟩
    · rw [h2] at HG
      rw [betw_iff] at h1 h2
      by_cases h3 : n < 0
      · rw [decide_eq_false (show ¬ 0 ≤ n by omega)]
        clear h1 h2
        simp only [Bool.and_false, Bool.false_eq_true, if_false]
        go_enter Try.func45, Try.ntmps45
        go_wp2_with (first
          | (go_at_call 71; with_reducible refine Calls.mono (HX.out _) ?_; rintro e w1 ⟨rfl, rfl⟩)
          | (go_at_call 71; with_reducible refine Calls.mono (HG.out _) ?_; rintro e w1 ⟨rfl, rfl⟩))
        all_goals first | (exfalso; omega) | skip
        go_ret2
        exact ⟨⟨_, rfl, nil_slice _⟩, Below.refl _ _⟩
      · rw [decide_eq_true (show 0 ≤ n by omega)]
        simp only [Bool.and_self, if_true]
        by_cases h4 : 100000 < n
        · rw [if_pos h4]
          clear h1 h2
          go_enter Try.func45, Try.ntmps45
          go_wp2_with (first
            | (go_at_call 71; with_reducible refine Calls.mono (HX.out _) ?_; rintro e w1 ⟨rfl, rfl⟩)
            | (go_at_call 71; with_reducible refine Calls.mono (HG.out _) ?_; rintro e w1 ⟨rfl, rfl⟩))
          all_goals first | (exfalso; omega) | skip
          go_ret2
          exact ⟨⟨_, rfl, nil_slice _⟩, Below.refl _ _⟩
        · rw [if_neg h4]
          obtain ⟨k, rfl⟩ : ∃ k : Nat, n = k := ⟨n.toNat, by omega⟩
          have HN := Lib.hid (noise_any s h k w h1 h2 (by omega))
          have v1 : IntKind.u32.wrap s = s := IntWalk.u32_in _ (by omega)
          go_enter Try.func45, Try.ntmps45
          go_wp2_with (first
            | (go_at_call 71; with_reducible refine Calls.mono (HX.out _) ?_; rintro e w1 ⟨rfl, rfl⟩)
            | (go_at_call 71; with_reducible refine Calls.mono (HG.out _) ?_; rintro e w1 ⟨rfl, rfl⟩)
            | (go_at_call 80; with_reducible refine Calls.mono HN.out ?_; rintro e w1 ⟨⟨r, rfl, hs⟩, hb⟩; have HS := Lib.hid hs; have HB := Lib.hid hb; clear hs hb))
          all_goals first | (exfalso; omega) | skip
          go_ret2
          exact ⟨⟨_, rfl, HS.out⟩, HB.out⟩
set_option maxRecDepth 10000 in
set_option maxHeartbeats 4000000 in
theorem refNoise_any (s h : Int) (n : Nat) (w : World) (hs : 0 ≤ s ∧ s ≤ 4294967295) (hh : 0 ≤ h ∧ h ≤ 500) (hn : n ≤ 100000) :
    Calls Try.prog 48 #[.int .i64 s, .int .i64 h, .int .i64 n] w fun e w' => (∃ r, e = .returned r ∧ SliceV w' r 1 IntAt (noiL s h n)) ∧ Below w.heap.size w w' := by
  have HS := Lib.hid hs
  obtain ⟨i3, hi, hz0, hz1, hz2⟩ := info_parts infoI
  have HI := Lib.hid hi
  clear hi
  have v0 : IntKind.u32.wrap s = s := IntWalk.u32_in _ (by omega)
  go_enter Try.func48, Try.ntmps48
  go_wp2_with fail
  go_loopw [7, 8, 9] (fun r o i wr => ∃ k : Nat, k ≤ n ∧ i = .int .i64 k ∧ r = .int .u32 (rsd s k) ∧ Hid (wr.ownsRow w.heap.size 3 1 o k (intV (noiL s h k))) ∧ Hid (Below w.heap.size w wr)) (fun _ _ i _ => n - (intOf i).toNat)
  case atStart => exact ⟨0, Nat.zero_le _, rfl, rfl, Lib.hid (World.ownsRow_nil _ _ _ _), Lib.hid (Below.refl _ _)⟩
  case round =>
    obtain ⟨k, hk, rfl, rfl, HR, HB⟩ := hrel
    by_cases hlt : k < n
    · have hr := rsd_in HS.out k
      have hr2 := rsd_in HS.out (k + 1)
      have he : rsd s (k + 1) = (1664525 * rsd s k + 1013904223) % 4294967296 := rfl
      have HNV : Hid (nsv h (rsd s (k + 1)) = rsd s (k + 1) / 65536 % (2 * h + 1) - h) := Lib.hid rfl
      have hm1 := Int.emod_nonneg (rsd s (k + 1) / 65536) (show 2 * h + 1 ≠ 0 by omega)
      have hm2 := Int.emod_lt_of_pos (rsd s (k + 1) / 65536) (show 0 < 2 * h + 1 by omega)
      obtain ⟨p, hp⟩ : ∃ p, rsd s k = p := ⟨_, rfl⟩
      rw [hp] at hr he ⊢
      obtain ⟨q, hq⟩ : ∃ q, rsd s (k + 1) = q := ⟨_, rfl⟩
      rw [hq] at hr2 he hm1 hm2 HNV
      have HQ := Lib.hid hq
      obtain ⟨m, hm⟩ : ∃ m, q / 65536 % (2 * h + 1) = m := ⟨_, rfl⟩
      rw [hm] at hm1 hm2 HNV
      have v1 : IntKind.u32.wrap (1664525 * p) = 1664525 * p % 4294967296 := IntKind.wrap_u32 _
      have v2 : IntKind.u32.wrap (1664525 * p % 4294967296 + 1013904223) = q := by rw [IntKind.wrap_u32]; omega
      have v2' : (1664525 * p % 4294967296 + 1013904223) % 4294967296 = q := by omega
      have v3 : IntKind.i64.wrap (2 * h) = 2 * h := IntWalk.i64_in _ (by omega)
      have v4 : IntKind.i64.wrap (2 * h + 1) = 2 * h + 1 := IntWalk.i64_in _ (by omega)
      have v5 : ¬ 2 * h + 1 = 0 := by omega
      have v6 : (2 * h + 1 == 0) = false := by simp; omega
      have v7 : (q / 65536).tmod (2 * h + 1) = m := by rw [Int.tmod_eq_emod_of_nonneg (by omega), hm]
      have v8 : IntKind.i64.wrap (m - h) = m - h := IntWalk.i64_in _ (by omega)
      have v9 : IntKind.i64.wrap m = m := IntWalk.i64_in _ (by omega)
      have v10 : IntKind.i64.wrap (q / 65536) = q / 65536 := IntWalk.i64_in _ (by omega)
      have v11 : IntKind.u32.wrap (q / 65536) = q / 65536 := IntWalk.u32_in _ (by omega)
      have hkk : (k : Int) < (n : Int) := by omega
      have hsz := HB.out.size
      have HTG : Hid (noiL s h (k + 1) = noiL s h k ++ [m - h]) := Lib.hid (by unfold noiL; rw [range_map_snoc, hq, HNV.out])
      have hrow := HR.out
      obtain ⟨ad, cap, rfl⟩ := ownsRow_slice hrow
      clear hrow he hp hq hm
      go_wp2_with (at_builtin; refine wpList_append_lies _ rfl _ _ 22 rfl w.heap.size 3 i3 _ 1 8 Try.underlying22 HI.out hz0 hz1 hz2 rfl (by decide) (.slice ad k cap) k _ (by rfl) (HR.out.alloc _) ⟨wr.heap.size, 0, none⟩ 1 1 [.int .i64 (m - h)] (by rfl) (by rfl) (one_new _ _ _) (by simp [Value.oneCell']) (by omega) (by unfold maxLen; omega) (by omega) (by simp; omega) (wr.heap.size + 1) (by simp) ?_; intro g6 cap6 w6 hown hgrow hat6 hlt6)
      have HR2 : Hid (w6.ownsRow w.heap.size 3 1 (.slice (some ⟨g6, 0, none⟩) (k + 1) cap6) (k + 1) (intV (noiL s h (k + 1)))) := Lib.hid (by rw [HTG.out, intV_append]; exact hown)
      have HB2 : Hid (Below w.heap.size w w6) := Lib.hid ((bAlloc HB.out _).trans (below_grown hgrow (HR.out.alloc _) (by simp; omega)))
      go_roundw
      case rel => exact ⟨k + 1, by omega, by go_num, by rw [HQ.out], HR2, HB2⟩
      case measure => simp [intOf]; omega
    · obtain rfl : k = n := by omega
      go_wp2_with fail
      go_ret
      exact ⟨⟨_, rfl, own_slice (base := w.heap.size) (by rw [noiL_len]; exact HR.out) (by rw [noiL_len]; omega)⟩, HB.out⟩
end Go.Proofs.Ytbmbcbknoflpgaa
