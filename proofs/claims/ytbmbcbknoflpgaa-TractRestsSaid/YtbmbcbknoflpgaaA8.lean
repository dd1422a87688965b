/- Contracts: noise. -/
import Derived.Test.YtbmbcbknoflpgaaA5
set_option linter.unusedSimpArgs false
set_option linter.unusedVariables false
namespace Go.Proofs.Ytbmbcbknoflpgaa
open Go.RowKit

/-- The random numbers behind a seed, and the samples. -/
def rsd (s : Int) : Nat → Int
  | 0 => s
  | k + 1 => (1664525 * rsd s k + 1013904223) % 4294967296
def nsv (h r : Int) : Int := r / 65536 % (2 * h + 1) - h
def noiL (s h : Int) (n : Nat) : List Int := (List.range n).map fun k => nsv h (rsd s (k + 1))
theorem noiL_len (s h : Int) (n : Nat) : (noiL s h n).length = n := by simp [noiL]
theorem noiL_get (s h : Int) {n i : Nat} (hi : i < n) : (noiL s h n).getD i 0 = nsv h (rsd s (i + 1)) := by
  rw [gI (by rw [noiL_len]; exact hi)]; simp [noiL]
theorem rsd_in {s : Int} (hs : 0 ≤ s ∧ s ≤ 4294967295) (k : Nat) : 0 ≤ rsd s k ∧ rsd s k ≤ 4294967295 := by
  cases k with
  | zero => exact hs
  | succ k => unfold rsd; omega
set_option maxRecDepth 10000 in
set_option maxHeartbeats 2000000 in
theorem noise_any (s h : Int) (n : Nat) (w : World) (hs : 0 ≤ s ∧ s ≤ 4294967295) (hh : 0 ≤ h ∧ h ≤ 500) (hn : n ≤ 100000) :
    Calls Try.prog 80 #[.int .u32 s, .int .i64 h, .int .i64 n] w fun e w' => (∃ r, e = .returned r ∧ SliceV w' r 1 IntAt (noiL s h n)) ∧ Below w.heap.size w w' := by
  have hmk := makeI n (by omega) w
  have HS := Lib.hid hs
  go_enter Try.func80, Try.ntmps80
  go_wp2_with fail
  have HR0 : Hid ((w.alloc (.cells (madeCells #[Value.int .i64 0] n) 3)).rowIs w.heap.size 3 n (fun i => .int .i64 (if i < 0 then nsv h (rsd s (i + 1)) else 0))) := Lib.hid ((World.rowIs_made w (.int .i64 0) n 3).congr fun i hi => by rw [if_neg (by omega)])
  have HB0 := Lib.hid (bAlloc (Below.refl w.heap.size w) (.cells (madeCells #[Value.int .i64 0] n) 3))
  clear hmk
  generalize World.alloc w _ = W1 at *
  go_loopw [0, 13] (fun r i wr => ∃ k : Nat, k ≤ n ∧ i = .int .i64 k ∧ r = .int .u32 (rsd s k) ∧ Hid (wr.rowIs w.heap.size 3 n (fun i => .int .i64 (if i < k then nsv h (rsd s (i + 1)) else 0))) ∧ Hid (Below w.heap.size w wr)) (fun _ i _ => n - (intOf i).toNat)
  case atStart => exact ⟨0, Nat.zero_le _, rfl, rfl, HR0, HB0⟩
  case round =>
    obtain ⟨k, hk, rfl, rfl, HR, HB⟩ := hrel
    by_cases hlt : k < n
    · have hr := rsd_in HS.out k
      have hr2 := rsd_in HS.out (k + 1)
      have HE : Hid (rsd s (k + 1) = (1664525 * rsd s k + 1013904223) % 4294967296) := Lib.hid rfl
      have he : rsd s (k + 1) = (1664525 * rsd s k + 1013904223) % 4294967296 := rfl
      have HNV : Hid (nsv h (rsd s (k + 1)) = rsd s (k + 1) / 65536 % (2 * h + 1) - h) := Lib.hid rfl
      have hm1 := Int.emod_nonneg (rsd s (k + 1) / 65536) (show 2 * h + 1 ≠ 0 by omega)
      have hm2 := Int.emod_lt_of_pos (rsd s (k + 1) / 65536) (show 0 < 2 * h + 1 by omega)
      obtain ⟨p, hp⟩ : ∃ p, rsd s k = p := ⟨_, rfl⟩
      rw [hp] at hr he ⊢
      obtain ⟨q, hq⟩ : ∃ q, rsd s (k + 1) = q := ⟨_, rfl⟩
      rw [hq] at hr2 he hm1 hm2 HNV
      have HQ := Lib.hid hq
      obtain ⟨m, hm⟩ : ∃ m, q / 65536 % (2 * h + 1) = m := ⟨_, rfl⟩
      rw [hm] at hm1 hm2 HNV
      have v1 : IntKind.u32.wrap (1664525 * p) = 1664525 * p % 4294967296 := IntKind.wrap_u32 _
      have v2 : IntKind.u32.wrap (1664525 * p % 4294967296 + 1013904223) = q := by rw [IntKind.wrap_u32]; omega
      have v2' : (1664525 * p % 4294967296 + 1013904223) % 4294967296 = q := by omega
      have v3 : IntKind.i64.wrap (2 * h) = 2 * h := IntWalk.i64_in _ (by omega)
      have v4 : IntKind.i64.wrap (2 * h + 1) = 2 * h + 1 := IntWalk.i64_in _ (by omega)
      have v5 : ¬ 2 * h + 1 = 0 := by omega
      have v6 : (2 * h + 1 == 0) = false := by simp; omega
      have v7 : (q / 65536).tmod (2 * h + 1) = m := by rw [Int.tmod_eq_emod_of_nonneg (by omega), hm]
      have v8 : IntKind.i64.wrap (m - h) = m - h := IntWalk.i64_in _ (by omega)
      have v9 : IntKind.i64.wrap m = m := IntWalk.i64_in _ (by omega)
      have v10 : IntKind.i64.wrap (q / 65536) = q / 65536 := IntWalk.i64_in _ (by omega)
      have v11 : IntKind.u32.wrap (q / 65536) = q / 65536 := IntWalk.u32_in _ (by omega)
      have z0 := HR.out.frozen k
      have c0 := HR.out.cell (i := k) hlt
      have hgl := HR.out.lt
      have hkk : (k : Int) < (n : Int) := by omega
      have HR2 : Hid ((wr.setCell ⟨w.heap.size, k, none⟩ (.int .i64 (m - h))).rowIs w.heap.size 3 n (fun i => .int .i64 (if i < k + 1 then nsv h (rsd s (i + 1)) else 0))) := Lib.hid ((HR.out.set k (.int .i64 (m - h))).congr fun j _ => by
        by_cases hj : j = k
        · subst hj
          rw [if_pos rfl, if_pos (by omega), hq, HNV.out]
        · rw [if_neg hj]
          by_cases hj2 : j < k
          · rw [if_pos hj2, if_pos (by omega)]
          · rw [if_neg hj2, if_neg (by omega)])
      have HB2 : Hid (Below w.heap.size w (wr.setCell ⟨w.heap.size, k, none⟩ (.int .i64 (m - h)))) := Lib.hid (HB.out.setCell (p := ⟨w.heap.size, k, none⟩) (Nat.le_refl _) _)
      clear he hp hq hm
      go_wp2_with fail
      go_roundw
      case rel => exact ⟨k + 1, by omega, by go_num, by rw [HQ.out], HR2, HB2⟩
      case measure => simp [intOf]; omega
    · obtain rfl : k = n := by omega
      go_wp2_with fail
      go_ret
      refine ⟨⟨_, rfl, row_slice HR.out (noiL_len s h k) (fun i hi => ?_) (by unfold most; omega)⟩, HB.out⟩
      rw [noiL_len] at hi
      rw [if_pos hi]
      simp [noiL]
end Go.Proofs.Ytbmbcbknoflpgaa
