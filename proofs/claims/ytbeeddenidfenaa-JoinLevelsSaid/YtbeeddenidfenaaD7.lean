/- Contracts: the lowest and the highest of a list. -/
import Derived.Test.YtbeeddenidfenaaB3
set_option linter.unusedSimpArgs false
set_option linter.unusedVariables false
namespace Go.Proofs.Ytbeeddenidfenaa
open Go.RowKit

def minL (l : List Int) : Int := l.tail.foldl (fun a b => if b < a then b else a) (l.headD 0)
def maxL (l : List Int) : Int := l.tail.foldl (fun a b => if a < b then b else a) (l.headD 0)
theorem minL_succ {l : List Int} {k : Nat} (h0 : 0 < k) (h : k < l.length) : minL (l.take (k + 1)) = if l[k] < minL (l.take k) then l[k] else minL (l.take k) := by
  cases l with
  | nil => simp at h
  | cons a l =>
    obtain ⟨j, rfl⟩ : ∃ j, k = j + 1 := ⟨k - 1, by omega⟩
    have hj : j < l.length := by simpa using h
    have e : l.take (j + 1) = l.take j ++ [l[j]] := take_succ l j hj
    unfold minL
    rw [List.take_succ_cons, List.take_succ_cons, List.tail_cons, List.tail_cons, e, List.foldl_append]
    rfl
theorem maxL_succ {l : List Int} {k : Nat} (h0 : 0 < k) (h : k < l.length) : maxL (l.take (k + 1)) = if maxL (l.take k) < l[k] then l[k] else maxL (l.take k) := by
  cases l with
  | nil => simp at h
  | cons a l =>
    obtain ⟨j, rfl⟩ : ∃ j, k = j + 1 := ⟨k - 1, by omega⟩
    have hj : j < l.length := by simpa using h
    have e : l.take (j + 1) = l.take j ++ [l[j]] := take_succ l j hj
    unfold maxL
    rw [List.take_succ_cons, List.take_succ_cons, List.tail_cons, List.tail_cons, e, List.foldl_append]
    rfl
set_option maxHeartbeats 2000000 in
theorem sMin_any (l : List Int) (v : Value) (w : World) (hv : SliceV w v 1 IntAt l) (hn : 0 < l.length) :
    Calls Try.prog 96 #[v] w fun e w' => e = .returned (.int .i64 (minL l)) ∧ w = w' := by
  have HV := Lib.hid hv
  obtain ⟨a, c, rfl, hl, -⟩ := hv
  unfold most at hl
  obtain ⟨b0, o0, rfl, hf0⟩ := HV.out.at (by intro h; simp [h] at hn)
  have f0 := hf0 0 hn
  unfold IntAt at f0
  rw [Nat.zero_mul, Nat.add_zero] at f0
  have hb0 := cell_lt f0
  have HF := Lib.hid hf0
  have HL0 : Hid (l[0] = minL (l.take 1)) := Lib.hid (by cases l with | nil => simp at hn | cons x l => rfl)
  clear hf0
  have hn1 : ¬ ((l.length : Int) < 1) := by omega
  have hn2 : (0 : Int) < (l.length : Int) := by omega
  obtain ⟨z, hz⟩ : ∃ z, z = l[0] := ⟨_, rfl⟩
  rw [← hz] at f0 HL0
  clear hz
  go_enter Try.func96, Try.ntmps96
  go_wp2_with fail
  go_loopw [3, 4] (fun t i wr => ∃ k : Nat, 1 ≤ k ∧ k ≤ l.length ∧ i = .int .i64 k ∧ t = .int .i64 (minL (l.take k)) ∧ wr = w) (fun _ i _ => l.length - (intOf i).toNat)
  case atStart => exact ⟨1, Nat.le_refl _, by omega, rfl, by rw [← HL0.out], rfl⟩
  case round =>
    obtain ⟨k, hk1, hk, rfl, rfl, rfl⟩ := hrel
    by_cases hlt : k < l.length
    · have k0 := HF.out k hlt
      have HT : Hid (minL (l.take (k + 1)) = if l[k] < minL (l.take k) then l[k] else minL (l.take k)) := Lib.hid (minL_succ (by omega) hlt)
      unfold IntAt at k0
      rw [Nat.mul_one] at k0
      have hkb := cell_lt k0
      obtain ⟨q, hq⟩ : ∃ q, q = l[k] := ⟨_, rfl⟩
      rw [← hq] at k0 HT
      obtain ⟨p, hp⟩ : ∃ p, p = minL (l.take k) := ⟨_, rfl⟩
      rw [← hp] at HT ⊢
      clear hq hp
      by_cases hlq : q < p
      · rw [if_pos hlq] at HT
        have h2 : ¬ p < q := by omega
        go_wp2_with fail
        go_roundw
        case rel => exact ⟨k + 1, by omega, by omega, by go_num, by (rw [HT.out]), by first | rfl | trivial⟩
        case measure => simp [intOf]; omega
      · rw [if_neg hlq] at HT
        by_cases h2 : p < q
        · go_wp2_with fail
          go_roundw
          case rel => exact ⟨k + 1, by omega, by omega, by go_num, by (rw [HT.out]), by first | rfl | trivial⟩
          case measure => simp [intOf]; omega
        · obtain rfl : p = q := by omega
          go_wp2_with fail
          go_roundw
          case rel => exact ⟨k + 1, by omega, by omega, by go_num, by (rw [HT.out]), by first | rfl | trivial⟩
          case measure => simp [intOf]; omega
    · obtain rfl : k = l.length := by omega
      go_wp2_with fail
      go_ret
      exact ⟨by first | rfl | (rw [List.take_length]; rfl), rfl⟩
set_option maxHeartbeats 2000000 in
theorem sMax_any (l : List Int) (v : Value) (w : World) (hv : SliceV w v 1 IntAt l) (hn : 0 < l.length) :
    Calls Try.prog 97 #[v] w fun e w' => e = .returned (.int .i64 (maxL l)) ∧ w = w' := by
  have HV := Lib.hid hv
  obtain ⟨a, c, rfl, hl, -⟩ := hv
  unfold most at hl
  obtain ⟨b0, o0, rfl, hf0⟩ := HV.out.at (by intro h; simp [h] at hn)
  have f0 := hf0 0 hn
  unfold IntAt at f0
  rw [Nat.zero_mul, Nat.add_zero] at f0
  have hb0 := cell_lt f0
  have HF := Lib.hid hf0
  have HL0 : Hid (l[0] = maxL (l.take 1)) := Lib.hid (by cases l with | nil => simp at hn | cons x l => rfl)
  clear hf0
  have hn1 : ¬ ((l.length : Int) < 1) := by omega
  have hn2 : (0 : Int) < (l.length : Int) := by omega
  obtain ⟨z, hz⟩ : ∃ z, z = l[0] := ⟨_, rfl⟩
  rw [← hz] at f0 HL0
  clear hz
  go_enter Try.func97, Try.ntmps97
  go_wp2_with fail
  go_loopw [3, 4] (fun t i wr => ∃ k : Nat, 1 ≤ k ∧ k ≤ l.length ∧ i = .int .i64 k ∧ t = .int .i64 (maxL (l.take k)) ∧ wr = w) (fun _ i _ => l.length - (intOf i).toNat)
  case atStart => exact ⟨1, Nat.le_refl _, by omega, rfl, by rw [← HL0.out], rfl⟩
  case round =>
    obtain ⟨k, hk1, hk, rfl, rfl, rfl⟩ := hrel
    by_cases hlt : k < l.length
    · have k0 := HF.out k hlt
      have HT : Hid (maxL (l.take (k + 1)) = if maxL (l.take k) < l[k] then l[k] else maxL (l.take k)) := Lib.hid (maxL_succ (by omega) hlt)
      unfold IntAt at k0
      rw [Nat.mul_one] at k0
      have hkb := cell_lt k0
      obtain ⟨q, hq⟩ : ∃ q, q = l[k] := ⟨_, rfl⟩
      rw [← hq] at k0 HT
      obtain ⟨p, hp⟩ : ∃ p, p = maxL (l.take k) := ⟨_, rfl⟩
      rw [← hp] at HT ⊢
      clear hq hp
      by_cases hlq : p < q
      · rw [if_pos hlq] at HT
        have h2 : ¬ q < p := by omega
        go_wp2_with fail
        go_roundw
        case rel => exact ⟨k + 1, by omega, by omega, by go_num, by (rw [HT.out]), by first | rfl | trivial⟩
        case measure => simp [intOf]; omega
      · rw [if_neg hlq] at HT
        by_cases h2 : q < p
        · go_wp2_with fail
          go_roundw
          case rel => exact ⟨k + 1, by omega, by omega, by go_num, by (rw [HT.out]), by first | rfl | trivial⟩
          case measure => simp [intOf]; omega
        · obtain rfl : p = q := by omega
          go_wp2_with fail
          go_roundw
          case rel => exact ⟨k + 1, by omega, by omega, by go_num, by (rw [HT.out]), by first | rfl | trivial⟩
          case measure => simp [intOf]; omega
    · obtain rfl : k = l.length := by omega
      go_wp2_with fail
      go_ret
      exact ⟨by first | rfl | (rw [List.take_length]; rfl), rfl⟩
end Go.Proofs.Ytbeeddenidfenaa
