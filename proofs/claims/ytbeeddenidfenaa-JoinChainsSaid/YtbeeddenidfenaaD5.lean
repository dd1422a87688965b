/- Maths: a joined wave has samples only. -/
import Derived.Test.YtbeeddenidfenaaD4
set_option linter.unusedSimpArgs false
set_option linter.unusedVariables false
namespace Go.Proofs.Ytbeeddenidfenaa
open Go.RowKit

theorem rnd_le {a b H : Int} (h0 : 0 ≤ a) (hb : 0 < b) (hH : a ≤ H * b) : 0 ≤ rnd a b ∧ rnd a b ≤ H := by
  rw [rnd_pos h0]
  refine ⟨Int.ediv_nonneg (by omega) (by omega), Int.lt_add_one_iff.1 (Int.ediv_lt_of_lt_mul (by omega) ?_)⟩
  have : (H + 1) * (2 * b) = 2 * (H * b) + 2 * b := by rw [Int.add_mul, Int.one_mul, Int.mul_left_comm]
  omega
theorem rnd_mid {a b : Int} (hb : 0 < b) (h1 : -32768 * b ≤ a) (h2 : a ≤ 32767 * b) : -32768 ≤ rnd a b ∧ rnd a b ≤ 32767 := by
  by_cases h : 0 ≤ a
  · have := rnd_le h hb h2
    omega
  · have h3 := rnd_le (a := -a) (H := 32768) (by omega) hb (by omega)
    rw [rnd_neg (by omega)]
    omega
theorem Sm.getD {l : List Int} (h : Sm l) (i : Nat) : -32768 ≤ l.getD i 0 ∧ l.getD i 0 ≤ 32767 := by
  by_cases hi : i < l.length
  · rw [gI hi]; exact h _ (List.getElem_mem hi)
  · rw [List.getD_eq_getElem?_getD, List.getElem?_eq_none (by omega)]; decide
theorem fd_in {x y : List Int} (hx : Sm x) (hy : Sm y) {n i : Nat} (hi : i < n) : -32768 ≤ fd x y n i ∧ fd x y n i ≤ 32767 := by
  have h1 := hx.getD i
  have h2 := hy.getD i
  unfold fd
  generalize x.getD i 0 = p at *
  generalize y.getD i 0 = q at *
  have e : (n : Int) + 1 = ((n : Int) - i) + (i + 1) := by omega
  have a1 : ((n : Int) - i) * -32768 ≤ ((n : Int) - i) * p := Int.mul_le_mul_of_nonneg_left h1.1 (by omega)
  have a2 : ((n : Int) - i) * p ≤ ((n : Int) - i) * 32767 := Int.mul_le_mul_of_nonneg_left h1.2 (by omega)
  have b1 : ((i : Int) + 1) * -32768 ≤ ((i : Int) + 1) * q := Int.mul_le_mul_of_nonneg_left h2.1 (by omega)
  have b2 : ((i : Int) + 1) * q ≤ ((i : Int) + 1) * 32767 := Int.mul_le_mul_of_nonneg_left h2.2 (by omega)
  exact rnd_mid (by omega) (by omega) (by omega)
theorem Sm.fadeL {x y : List Int} (hx : Sm x) (hy : Sm y) : Sm (fadeL x y) := fun z hz => by
  unfold Go.Proofs.Ytbeeddenidfenaa.fadeL at hz
  obtain ⟨i, hi, rfl⟩ := List.mem_map.1 hz
  exact fd_in hx hy (List.mem_range.1 hi)
theorem Sm.append {x y : List Int} (hx : Sm x) (hy : Sm y) : Sm (x ++ y) := fun z hz => (List.mem_append.1 hz).elim (hx z) (hy z)
theorem Sm.take' {x : List Int} (h : Sm x) (n : Nat) : Sm (x.take n) := fun z hz => h z (List.mem_of_mem_take hz)
theorem Sm.drop' {x : List Int} (h : Sm x) (n : Nat) : Sm (x.drop n) := fun z hz => h z (List.mem_of_mem_drop hz)
theorem ok_of_sm {l : List Int} (h : Sm l) : waveOk l = true := List.all_eq_true.2 fun x hx => by
  have := h x hx
  simp [samOk, betw]
  omega
theorem Sm.joinL {x y : List Int} (hx : Sm x) (hy : Sm y) (n k : Nat) : Sm (joinL x y n k) := by
  unfold Go.Proofs.Ytbeeddenidfenaa.joinL
  exact ((hx.take' _).append ((hx.endA n).fadeL (hy.partB n k))).append (hy.drop' _)
theorem chk2_of {x y : List Int} {r : Bool} (h1 : x.length ≤ 100000) (h2 : y.length ≤ 100000) (hx : Sm x) (hy : Sm y) (hr : r = true) : chk r [x, y] = 0 := by
  rw [chk_two, if_neg (by omega), if_pos ⟨hr, ok_of_sm hx, ok_of_sm hy⟩]
/-- One wave more, where all that is joined are waves. -/
theorem lagErr_ok {o y : List Int} {n r : Int} (h1 : o.length ≤ 100000) (h2 : y.length ≤ 100000) (ho : Sm o) (hy : Sm y) (hn : 1 ≤ n) (hr : 0 ≤ r) : lagErr o y n r = if ovl o.length y.length n 0 = true then 0 else 5 := by
  unfold lagErr
  rw [if_pos (chk2_of h1 h2 ho hy (by simp [lagOk]; omega))]
theorem ovl_lag {o y : List Int} {n r : Int} (h : ovl o.length y.length n 0 = true) (hr : 0 ≤ r) : ovl o.length y.length n (lagv o y n.toNat r : Nat) = true := by
  obtain ⟨n', z, rfl, hz, h1, h3, h4⟩ := ovl_nat h
  have hl := lagv_le o y n' r
  rw [Int.toNat_natCast] at hl ⊢
  simp only [ovl, Bool.and_eq_true, decide_eq_true_eq]
  omega
theorem joinErr_ok {o y : List Int} {n r : Int} (h1 : o.length ≤ 100000) (h2 : y.length ≤ 100000) (ho : Sm o) (hy : Sm y) (h : ovl o.length y.length n 0 = true) (hr : 0 ≤ r) :
    joinErr o y n (lagv o y n.toNat r : Nat) = if 100000 < (joinL o y n.toNat (lagv o y n.toNat r)).length then 4 else 0 := by
  have hv := ovl_lag h hr
  obtain ⟨lg, hlg⟩ : ∃ lg, lg = lagv o y n.toNat r := ⟨_, rfl⟩
  rw [← hlg] at hv ⊢
  unfold joinErr
  rw [if_pos (chk2_of h1 h2 ho hy hv)]
  obtain ⟨n', k', rfl, hk, h5, h3, h4⟩ := ovl_nat hv
  rw [Int.toNat_natCast]
  obtain ⟨s, hs⟩ : ∃ s, o.length = s + n' := ⟨o.length - n', by omega⟩
  obtain ⟨q, hq⟩ : ∃ q, y.length = lg + n' + q := ⟨y.length - lg - n', by omega⟩
  rw [joinL_len hs hq]
  by_cases h6 : 100000 < s + n' + q
  · rw [if_pos h6, if_pos (by omega)]
  · rw [if_neg h6, if_neg (by omega)]
end Go.Proofs.Ytbeeddenidfenaa
