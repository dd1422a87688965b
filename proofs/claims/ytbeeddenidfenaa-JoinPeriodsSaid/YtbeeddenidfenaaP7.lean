/- The maths of periods that stay as they are. -/
import Derived.Test.YtbeeddenidfenaaP6
set_option linter.unusedSimpArgs false
set_option linter.unusedVariables false
namespace Go.Proofs.Ytbeeddenidfenaa
open Go.RowKit

theorem pers_flat {m : Mk} (h : MkR m) : ∀ k, k ≤ pN m → ((pers m).take k).flatten = (m.sam.drop (mkI m 0)).take (mkI m k - mkI m 0)
  | 0, _ => by simp
  | k + 1, hk => by
    have h1 := pers_flat h k (by omega)
    have h2 := h.lt (i := k) (by omega)
    have h3 : mkI m 0 ≤ mkI m k := by
      have key : ∀ i, i ≤ pN m → mkI m 0 ≤ mkI m i := by
        intro i
        induction i with
        | zero => intro _; omega
        | succ i ih => intro hi; have := h.lt (i := i) (by omega); have := ih (by omega); omega
      exact key k (by omega)
    have hl := h.le (i := k + 1) (by have := h.pN_in; omega)
    rw [flat_take (by rw [pers_len]; omega), h1, pers_get m (by rw [pers_len]; omega)]
    unfold per pL
    rw [show mkI m (k + 1) - mkI m 0 = (mkI m k - mkI m 0) + (mkI m (k + 1) - mkI m k) by omega, List.take_add, List.drop_drop, show mkI m 0 + (mkI m k - mkI m 0) = mkI m k by omega]
theorem bldM_pers {m : Mk} (h : MkR m) : bldM m (pers m) = m := by
  have hp := h.pN_in
  have h0 := h.le (i := 0) (by omega)
  have hN := h.le (i := pN m) (by omega)
  have hmono : ∀ i, i ≤ pN m → mkI m 0 ≤ mkI m i := by
    intro i
    induction i with
    | zero => intro _; omega
    | succ i ih => intro hi; have := h.lt (i := i) (by omega); have := ih (by omega); omega
  rw [Mk.eq_iff]
  constructor
  · show headL m ++ (pers m).flatten ++ tailL m = m.sam
    have hf := pers_flat h (pN m) (Nat.le_refl _)
    rw [show (pers m).take (pN m) = pers m from List.take_of_length_le (by rw [pers_len]; exact Nat.le_refl _)] at hf
    have hmn := hmono (pN m) (Nat.le_refl _)
    rw [hf]
    unfold headL tailL
    have e : m.sam.drop (mkI m (pN m)) = (m.sam.drop (mkI m 0)).drop (mkI m (pN m) - mkI m 0) := by rw [List.drop_drop, show mkI m 0 + (mkI m (pN m) - mkI m 0) = mkI m (pN m) by omega]
    rw [e, List.append_assoc, List.take_append_drop, List.take_append_drop]
  · apply List.ext_getElem
    · rw [bldM_many, pers_len]; omega
    · intro i h1 h2
      have h3 : i ≤ pN m := by omega
      rw [← gI h1, bldM_mark m (pers m) (by rw [pers_len]; exact h3), h.get h2, pers_flat h i h3, List.length_take, List.length_drop, head_len h]
      have := hmono i h3
      have := h.le (i := i) h2
      omega
theorem nr_id {q a : Int} (hq : 1 ≤ q) (ha : 1 ≤ a) : nr (q * a) a = q := by
  have h1 := nr_small hq (show 0 ≤ a by omega) (by omega) (Int.le_refl a)
  have h0 : 0 ≤ q * a := Int.mul_nonneg (by omega) (by omega)
  have h2 : q ≤ rnd (q * a) a := by
    rw [rnd_pos h0]
    refine (Int.le_ediv_iff_mul_le (by omega)).2 ?_
    rw [Int.mul_left_comm]; omega
  unfold nr at h1 ⊢
  omega
theorem rat_self {a : Int} (h1 : 1 ≤ a) (h2 : a ≤ 1000) : ratOk a a = true := by
  unfold ratOk betw
  simp only [Bool.and_eq_true, decide_eq_true_eq]
  omega
theorem str_self {m : Mk} (h : MkR m) {a : Int} (h1 : 1 ≤ a) (h2 : a ≤ 1000) : bldM m (said m (gsStr m a a)) = m := by
  have hp := h.pN_in
  have hA : strA m a a = pN m := by unfold strA; rw [nr_id (by omega) h1]; omega
  rw [said_str h (rat_self h1 h2), hA]
  have : strL m (pN m) = pers m := by
    unfold strL pers
    apply List.map_congr_left
    intro j _
    rw [Nat.mul_div_cancel _ (by omega)]
  rw [this, bldM_pers h]
theorem tra_self {m : Mk} (h : MkR m) {a : Nat} (h1 : 1 ≤ a) (h2 : a ≤ 1000) : bldM m (said m (gsTra (a : Int) (a : Int))) = m := by
  rw [said_tra]
  have : traL m a a = pers m := by
    unfold traL pers
    apply List.map_congr_left
    intro j hj
    have hj := List.mem_range.1 hj
    have hl := h.pL_in hj
    have hT : traN m a a j = pL m j := by unfold traN; rw [nr_id (by omega) (by omega)]; omega
    rw [hT, ← per_len h hj, perL_id (by rw [per_len h hj]; exact hl.1)]
  rw [this, bldM_pers h]
/-- The periods of what is built. -/
theorem pers_bld (m : Mk) (ps : List (List Int)) : pers (bldM m ps) = ps := by
  apply List.ext_getElem
  · rw [pers_len, bldM_pN]
  · intro i h1 h2
    rw [pers_get _ h1, bldM_per m h2]
/-- Which period of the wave the period j of the stretched one is. -/
def sIx (N A j : Nat) : Nat := j * N / A
theorem sIx_lt {N A j : Nat} (hN : 1 ≤ N) (h : j < A) : sIx N A j < N := by
  unfold sIx
  refine Nat.div_lt_of_lt_mul ?_
  exact (Nat.mul_lt_mul_right (by omega)).2 h
theorem sIx_mono (N A j : Nat) : sIx N A j ≤ sIx N A (j + 1) := Nat.div_le_div_right (Nat.mul_le_mul_right _ (Nat.le_succ _))
theorem strL_get (m : Mk) (A : Nat) {j : Nat} (h : j < (strL m A).length) : (strL m A)[j] = per m (sIx (pN m) A j) := by simp [strL, sIx]
end Go.Proofs.Ytbeeddenidfenaa
