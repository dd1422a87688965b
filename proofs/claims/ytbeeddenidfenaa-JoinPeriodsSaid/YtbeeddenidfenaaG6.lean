/- Waves that are right; what stretching and transposing make of periods stays in bounds. -/
import Derived.Test.YtbeeddenidfenaaG5
import Derived.Test.YtbeeddenidfenaaA5
set_option linter.unusedSimpArgs false
set_option linter.unusedVariables false
namespace Go.Proofs.Ytbeeddenidfenaa
open Go.RowKit

theorem mOk_get {l : List Int} {f n : Int} (h : mOk l f n = true) : ∀ i (hi : i < l.length), f ≤ l[i] ∧ l[i] ≤ n ∧ ∀ (hj : i + 1 < l.length), l[i] < l[i + 1] := by
  induction l generalizing f with
  | nil => intro i hi; simp at hi
  | cons x l ih =>
    simp only [mOk, betw, Bool.and_eq_true, decide_eq_true_eq] at h
    obtain ⟨⟨h1, h2⟩, h3⟩ := h
    intro i hi
    cases i with
    | zero =>
      refine ⟨h1, h2, fun hj => ?_⟩
      have := (ih h3 0 (by simpa using hj)).1
      simp only [List.getElem_cons_zero, Nat.zero_add, List.getElem_cons_succ]
      omega
    | succ i =>
      have := ih h3 i (by simpa using hi)
      simp only [List.getElem_cons_succ]
      exact ⟨by omega, this.2.1, fun hj => this.2.2 (by simpa using hj)⟩
theorem mOk_len {l : List Int} {f n : Int} (h : mOk l f n = true) (hf : f ≤ n + 1) : (l.length : Int) ≤ n + 1 - f := by
  induction l generalizing f with
  | nil => simp; omega
  | cons x l ih =>
    simp only [mOk, betw, Bool.and_eq_true, decide_eq_true_eq] at h
    obtain ⟨⟨h1, h2⟩, h3⟩ := h
    have := ih h3 (by omega)
    simp only [List.length_cons, Int.natCast_add, Int.natCast_one]
    omega
theorem mkErr_ok {r : Bool} {m : Mk} (h : mkErr r m = 0) : r = true ∧ MkR m ∧ Sm m.sam := by
  unfold mkErr at h
  rw [chk_one] at h
  by_cases h1 : 100000 < (m.sam.length : Int)
  · rw [if_pos h1] at h; cases h
  · rw [if_neg h1] at h
    by_cases h2 : (r && marksOk m.marks m.sam.length) = true ∧ waveOk m.sam = true
    · rw [Bool.and_eq_true] at h2
      obtain ⟨⟨h3, h4⟩, h5⟩ := h2
      unfold marksOk at h4
      rw [Bool.and_eq_true, decide_eq_true_eq] at h4
      have h6 := mOk_get h4.1
      have h7 := mOk_len h4.1 (by omega)
      refine ⟨h3, ⟨h4.2, by omega, by omega, fun i hi => ?_, fun i hi => ?_, fun i hi => ?_⟩, sm_of h5⟩
      · rw [gI hi]; exact (h6 i hi).1
      · rw [gI hi]; exact (h6 i hi).2.1
      · rw [gI (by omega), gI hi]; exact (h6 i (by omega)).2.2 hi
    · rw [if_neg h2] at h; cases h
theorem MkR.pN_in {m : Mk} (h : MkR m) : 1 ≤ pN m ∧ pN m ≤ 100000 ∧ m.marks.length = pN m + 1 := by
  have := h.two; have := h.many; unfold pN; omega
theorem MkR.pL_in {m : Mk} (h : MkR m) {i : Nat} (hi : i < pN m) : 1 ≤ pL m i ∧ pL m i ≤ 100000 := by
  have h1 := h.lt hi
  have h2 := h.le (i := i + 1) (by have := h.pN_in; omega)
  have h3 := h.len
  unfold pL; omega
theorem MkR.ne {m : Mk} (h : MkR m) : m.sam ≠ [] := by
  intro e
  have h1 := h.lt (i := 0) h.pN_in.1
  have h2 := h.le (i := 0 + 1) (by have := h.pN_in; omega)
  rw [e, List.length_nil] at h2
  omega
theorem rnd_ratio {p q den : Int} (h0 : 0 ≤ p) (hd : 0 < den) (h : p ≤ 16 * (q * den)) : rnd p den ≤ 16 * q := by
  rw [rnd_pos h0]
  have : (2 * p + den) / (2 * den) < 16 * q + 1 := Int.ediv_lt_of_lt_mul (by omega) (by
    have e : (16 * q + 1) * (2 * den) = 32 * (q * den) + 2 * den := by rw [Int.add_mul, Int.one_mul, Int.mul_comm 2 den, ← Int.mul_assoc, Int.mul_assoc 16 q den]; omega
    rw [e]; omega)
  omega
theorem nr_ratio {q num den : Int} (h1 : 1 ≤ q) (hn : 0 ≤ num) (hd : 0 < den) (h : num ≤ 16 * den) : 1 ≤ nr (q * num) den ∧ nr (q * num) den ≤ 16 * q := by
  have h0 : 0 ≤ q * num := Int.mul_nonneg (by omega) hn
  have h2 : q * num ≤ q * (16 * den) := Int.mul_le_mul_of_nonneg_left h (by omega)
  have h3 : q * (16 * den) = 16 * (q * den) := by rw [← Int.mul_assoc, Int.mul_comm q 16, Int.mul_assoc]
  have h4 := rnd_ratio h0 hd (q := q) (by omega)
  unfold nr
  omega
/-- How many periods a stretched wave has. -/
def strA (m : Mk) (num den : Int) : Nat := (nr ((pN m : Int) * num) den).toNat
theorem strA_in {m : Mk} (h : MkR m) {num den : Int} (hr : ratOk num den = true) : nr ((pN m : Int) * num) den = (strA m num den : Int) ∧ 1 ≤ strA m num den ∧ strA m num den ≤ 16 * pN m := by
  have h1 := ratOk_in hr
  have h2 := nr_ratio (q := (pN m : Int)) (num := num) (den := den) (by have := h.pN_in; omega) (by omega) (by omega) (by omega)
  unfold strA
  omega
theorem fst_mono (A B i : Nat) (hB : 1 ≤ B) (hA : A ≤ 16 * B) : fst' A B i ≤ fst' A B (i + 1) ∧ fst' A B (i + 1) ≤ fst' A B i + 16 := by
  unfold fst'
  constructor
  · exact Nat.div_le_div_right (by rw [Nat.succ_mul]; omega)
  · rw [← Nat.add_mul_div_right _ _ (by omega : 0 < B)]
    exact Nat.div_le_div_right (by rw [Nat.succ_mul]; omega)
def gsStr (m : Mk) (num den : Int) : List Eff := [gStr (strA m num den) (pN m)]
def gsTra (num den : Int) : List Eff := [gTra num den]
def gsSing (m : Mk) (num den : Int) : List Eff := [gTra num den, gStr (strA m num den) (pN m)]
theorem fin_str {m : Mk} (h : MkR m) {num den : Int} (hr : ratOk num den = true) : FinOk m (gsStr m num den) := by
  intro i hi k hk
  have h1 := h.pL_in hi
  have h2 := strA_in h hr
  have h3 := fst_mono (strA m num den) (pN m) i h.pN_in.1 h2.2.2
  have hk2 : k ≤ 1 := hk
  rcases (show k = 0 ∨ k = 1 by omega) with rfl | rfl
  · simp only [gsStr, List.take_zero, fin, List.foldl_nil]; omega
  · simp only [gsStr, List.take_succ_cons, List.take_zero, fin, List.foldl_cons, List.foldl_nil, gStr]; omega
theorem fin_tra {m : Mk} (h : MkR m) {num den : Int} (hr : ratOk num den = true) : FinOk m (gsTra num den) := by
  intro i hi k hk
  have h1 := h.pL_in hi
  have h0 := ratOk_in hr
  have h2 := nr_ratio (q := (pL m i : Int)) (num := den) (den := num) (by omega) (by omega) (by omega) (by omega)
  have hk2 : k ≤ 1 := hk
  rcases (show k = 0 ∨ k = 1 by omega) with rfl | rfl
  · simp only [gsTra, List.take_zero, fin, List.foldl_nil]; omega
  · simp only [gsTra, List.take_succ_cons, List.take_zero, fin, List.foldl_cons, List.foldl_nil, gTra]; omega
theorem fin_sing {m : Mk} (h : MkR m) {num den : Int} (hr : ratOk num den = true) : FinOk m (gsSing m num den) := by
  intro i hi k hk
  have h1 := h.pL_in hi
  have h0 := ratOk_in hr
  have h2 := nr_ratio (q := (pL m i : Int)) (num := den) (den := num) (by omega) (by omega) (by omega) (by omega)
  have h4 := strA_in h hr
  have h3 := fst_mono (strA m num den) (pN m) i h.pN_in.1 h4.2.2
  have hk2 : k ≤ 2 := hk
  rcases (show k = 0 ∨ k = 1 ∨ k = 2 by omega) with rfl | rfl | rfl
  · simp only [gsSing, List.take_zero, fin, List.foldl_nil]; omega
  · simp only [gsSing, List.take_succ_cons, List.take_zero, fin, List.foldl_cons, List.foldl_nil, gTra]; omega
  · simp only [gsSing, List.take_succ_cons, List.take_zero, fin, List.foldl_cons, List.foldl_nil, gTra, gStr]; omega
end Go.Proofs.Ytbeeddenidfenaa
