/- Maths: the step of two joined waves. -/
import Derived.Test.YtbeeddenidfenaaM8
set_option linter.unusedSimpArgs false
set_option linter.unusedVariables false
namespace Go.Proofs.Ytbeeddenidfenaa
open Go.RowKit

theorem rnd_near {a b : Int} (hb : 0 < b) : 2 * a - b ≤ 2 * (b * rnd a b) ∧ 2 * (b * rnd a b) ≤ 2 * a + b := by
  have key : ∀ t : Int, 2 * (b * (t / (2 * b))) ≤ t ∧ t < 2 * (b * (t / (2 * b))) + 2 * b := fun t => by
    have h1 := Int.mul_ediv_add_emod t (2 * b)
    have h2 := Int.emod_nonneg t (show 2 * b ≠ 0 by omega)
    have h3 := Int.emod_lt_of_pos t (show 0 < 2 * b by omega)
    rw [Int.mul_assoc] at h1
    omega
  unfold rnd
  split
  · have := key (2 * -a + b)
    rw [Int.mul_neg]
    omega
  · have := key (2 * a + b)
    omega
theorem up {a S d : Int} (ha : 0 ≤ a) (h1 : -S ≤ d) (h2 : d ≤ S) : -(a * S) ≤ a * d ∧ a * d ≤ a * S := by
  have k1 := Int.mul_le_mul_of_nonneg_left h1 ha
  have k2 := Int.mul_le_mul_of_nonneg_left h2 ha
  rw [Int.mul_neg] at k1
  exact ⟨k1, k2⟩
theorem rnd_step {A A' N R : Int} (hN : 0 < N) (h1 : -R ≤ A' - A) (h2 : A' - A ≤ R) : -(R + N) ≤ N * rnd A' N - N * rnd A N ∧ N * rnd A' N - N * rnd A N ≤ R + N := by
  have k1 := rnd_near (a := A) hN
  have k2 := rnd_near (a := A') hN
  omega
theorem le_of_mul {N S G d : Int} (hN : 0 < N) (h : N * d ≤ N * S + G + N) : d ≤ S + 1 + G / N := by
  have h1 : d ≤ (N * S + G + N) / N := Int.le_ediv_of_mul_le hN (by rw [Int.mul_comm]; exact h)
  rw [show N * S + G + N = G + N * (S + 1) by rw [Int.mul_add]; omega, Int.add_mul_ediv_left G (S + 1) (show N ≠ 0 by omega)] at h1
  omega
theorem both_of_mul {N S G d : Int} (hN : 0 < N) (h1 : -(N * S + G + N) ≤ N * d) (h2 : N * d ≤ N * S + G + N) : -(S + 1 + G / N) ≤ d ∧ d ≤ S + 1 + G / N := by
  have k1 := le_of_mul (S := S) (G := G) hN h2
  have k2 := le_of_mul (S := S) (G := G) (d := -d) hN (by rw [Int.mul_neg]; omega)
  omega
/-- The greatest distance of the overlap's samples, up to i. -/
def gp (x y : List Int) (n k : Nat) : Nat → Int
  | 0 => 0
  | i + 1 => max (max (gp x y n k i) (x.getD (x.length - n + i) 0 - y.getD (k + i) 0)) (y.getD (k + i) 0 - x.getD (x.length - n + i) 0)
theorem gp_ge (x y : List Int) (n k : Nat) : ∀ m, 0 ≤ gp x y n k m ∧ ∀ i, i < m → -gp x y n k m ≤ y.getD (k + i) 0 - x.getD (x.length - n + i) 0 ∧ y.getD (k + i) 0 - x.getD (x.length - n + i) 0 ≤ gp x y n k m
  | 0 => ⟨Int.le_refl _, fun i h => by omega⟩
  | m + 1 => by
    obtain ⟨h1, h2⟩ := gp_ge x y n k m
    rw [gp]
    refine ⟨by omega, fun i hi => ?_⟩
    by_cases e : i = m
    · subst e; omega
    · have := h2 i (by omega)
      omega
theorem sm_getD {l : List Int} (h : Sm l) (i : Nat) : -32768 ≤ l.getD i 0 ∧ l.getD i 0 ≤ 32767 := by
  by_cases hi : i < l.length
  · rw [gI hi]; exact h _ (List.getElem_mem hi)
  · rw [List.getD_eq_getElem?_getD, List.getElem?_eq_none (by omega)]
    exact ⟨by decide, by decide⟩
theorem gp_in {x y : List Int} (hx : Sm x) (hy : Sm y) (n k : Nat) : ∀ m, gp x y n k m ≤ 65535
  | 0 => by
    show (0 : Int) ≤ 65535
    decide
  | m + 1 => by
    have h := gp_in hx hy n k m
    have a := sm_getD hx (x.length - n + m)
    have b := sm_getD hy (k + m)
    rw [gp]
    omega
theorem join_at {x y : List Int} {n k s : Nat} (hs : x.length = s + n) (h2 : k + n ≤ y.length) :
    (joinL x y n k).length = s + n + (y.length - (k + n)) ∧
    (∀ j, j < s → (joinL x y n k).getD j 0 = x.getD j 0) ∧
    (∀ i, i < n → (joinL x y n k).getD (s + i) 0 = rnd (((n : Int) - i) * x.getD (s + i) 0 + ((i : Int) + 1) * y.getD (k + i) 0) (n + 1)) ∧
    (∀ i, k + n + i < y.length → (joinL x y n k).getD (s + n + i) 0 = y.getD (k + n + i) 0) := by
  have lf : (fadeL (endA x n) (partB y n k)).length = n := by rw [fadeL_len, endA_len (by omega)]
  have lt : (x.take s).length = s := by rw [List.length_take]; omega
  have e : joinL x y n k = x.take s ++ (fadeL (endA x n) (partB y n k) ++ y.drop (k + n)) := by
    unfold joinL
    rw [hs, Nat.add_sub_cancel, List.append_assoc]
  have le : (x.take s ++ (fadeL (endA x n) (partB y n k) ++ y.drop (k + n))).length = s + n + (y.length - (k + n)) := by
    rw [List.length_append, List.length_append, lt, lf, List.length_drop]; omega
  rw [e]
  refine ⟨le, fun j hj => ?_, fun i hi => ?_, fun i hi => ?_⟩
  · rw [gI (by omega), gI (by omega), List.getElem_append_left (by omega), List.getElem_take]
  · rw [gI (by omega), List.getElem_append_right (by omega), List.getElem_append_left (by omega), fadeL_get]
    unfold fd
    have i1 : s + i - (x.take s).length = i := by omega
    rw [i1, endA_len (by omega)]
    have g1 : (endA x n).getD i 0 = x.getD (s + i) 0 := by
      rw [gI (by rw [endA_len (by omega)]; exact hi), gI (by omega)]
      unfold endA
      rw [List.getElem_drop]
      have : x.length - n + i = s + i := by omega
      simp only [this]
    have g2 : (partB y n k).getD i 0 = y.getD (k + i) 0 := by
      rw [gI (by rw [partB_len h2]; exact hi), gI (by omega)]
      simp only [partB, List.getElem_take, List.getElem_drop]
    rw [g1, g2]
  · rw [gI (by omega), gI hi, List.getElem_append_right (by omega), List.getElem_append_right (by omega), List.getElem_drop]
    have : k + n + (s + n + i - (x.take s).length - (fadeL (endA x n) (partB y n k)).length) = k + n + i := by omega
    simp only [this]
theorem mixed {a b p p' q q' S G : Int} (ha : 0 ≤ a) (hb : 0 ≤ b) (h1 : -S ≤ p' - p) (h2 : p' - p ≤ S) (h3 : -S ≤ q' - q) (h4 : q' - q ≤ S) (h5 : -G ≤ q - p) (h6 : q - p ≤ G) :
    -((a + b) * S + G) ≤ a * p' + b * q' - ((a + 1) * p + (b - 1) * q) ∧ a * p' + b * q' - ((a + 1) * p + (b - 1) * q) ≤ (a + b) * S + G := by
  have k1 := up ha h1 h2
  have k2 := up hb h3 h4
  rw [Int.mul_sub] at k1 k2
  rw [Int.add_mul, Int.add_mul, Int.sub_mul, Int.one_mul, Int.one_mul]
  omega
theorem stp_join {x y : List Int} {n k : Nat} (h0 : 1 ≤ n) (h1 : n ≤ x.length) (h2 : k + n ≤ y.length) : (stp (joinL x y n k) - max (stp x) (stp y) - 1) * ((n : Int) + 1) ≤ gp x y n k n := by
  obtain ⟨s, hs⟩ : ∃ s, x.length = s + n := ⟨x.length - n, by omega⟩
  obtain ⟨hl, ja, jf, jb⟩ := join_at (x := x) (y := y) (k := k) hs h2
  have hx0 := (gab_ge (nbs x)).1
  obtain ⟨S, hS⟩ : ∃ S, S = max (stp x) (stp y) := ⟨_, rfl⟩
  obtain ⟨G, hG⟩ : ∃ G, G = gp x y n k n := ⟨_, rfl⟩
  have hg := gp_ge x y n k n
  rw [← hG] at hg ⊢
  rw [← hS]
  have hS0 : 0 ≤ S := by unfold stp at hS; omega
  have sx : ∀ i, i + 1 < x.length → -S ≤ x.getD (i + 1) 0 - x.getD i 0 ∧ x.getD (i + 1) 0 - x.getD i 0 ≤ S := fun i hi => by have := stp_at (l := x) hi; omega
  have sy : ∀ i, i + 1 < y.length → -S ≤ y.getD (i + 1) 0 - y.getD i 0 ∧ y.getD (i + 1) 0 - y.getD i 0 ≤ S := fun i hi => by have := stp_at (l := y) hi; omega
  have gg : ∀ i, i < n → -G ≤ y.getD (k + i) 0 - x.getD (s + i) 0 ∧ y.getD (k + i) 0 - x.getD (s + i) 0 ≤ G := fun i hi => by
    have := hg.2 i hi
    rwa [show x.length - n + i = s + i by omega] at this
  have hN : (0 : Int) < (n : Int) + 1 := by omega
  have hd0 : 0 ≤ G / ((n : Int) + 1) := Int.ediv_nonneg hg.1 (by omega)
  have hB : stp (joinL x y n k) ≤ S + 1 + G / ((n : Int) + 1) := by
    refine stp_le (by omega) fun j hj => ?_
    rw [hl] at hj
    by_cases c1 : j + 1 < s
    · rw [ja _ c1, ja _ (by omega)]
      have := sx j (by omega)
      omega
    · by_cases c2 : j + 1 = s
      · have f := jf 0 (by omega)
        simp only [Nat.add_zero] at f
        rw [c2, f, ja _ (by omega)]
        have d1 := sx j (by omega)
        have d2 := gg 0 (by omega)
        rw [c2] at d1
        simp only [Nat.add_zero] at d2
        have nr := rnd_near (a := ((n : Int) - (0 : Nat)) * x.getD s 0 + (((0 : Nat) : Int) + 1) * y.getD k 0) hN
        have u := up (a := (n : Int) + 1) (by omega) d1.1 d1.2
        rw [Int.mul_sub] at u
        have e1 : ((n : Int) - (0 : Nat)) * x.getD s 0 + (((0 : Nat) : Int) + 1) * y.getD k 0 = ((n : Int) + 1) * x.getD s 0 + (y.getD k 0 - x.getD s 0) := by
          rw [Int.natCast_zero, Int.sub_zero, Int.zero_add, Int.one_mul, Int.add_mul, Int.one_mul]; omega
        rw [e1] at nr ⊢
        refine both_of_mul hN ?_ ?_ <;> (rw [Int.mul_sub]; omega)
      · by_cases c3 : j + 1 < s + n
        · obtain ⟨i, rfl⟩ : ∃ i, j = s + i := ⟨j - s, by omega⟩
          rw [show s + i + 1 = s + (i + 1) by omega, jf _ (by omega), jf _ (by omega)]
          have d1 := sx (s + i) (by omega)
          have d2 := sy (k + i) (by omega)
          have d3 := gg i (by omega)
          rw [show s + i + 1 = s + (i + 1) by omega] at d1
          rw [show k + i + 1 = k + (i + 1) by omega] at d2
          have m := mixed (a := (n : Int) - ((i + 1 : Nat) : Int)) (b := ((i + 1 : Nat) : Int) + 1) (by omega) (by omega) d1.1 d1.2 d2.1 d2.2 d3.1 d3.2
          rw [show (n : Int) - ((i + 1 : Nat) : Int) + (((i + 1 : Nat) : Int) + 1) = (n : Int) + 1 by omega, show (n : Int) - ((i + 1 : Nat) : Int) + 1 = (n : Int) - i by omega, show ((i + 1 : Nat) : Int) + 1 - 1 = (i : Int) + 1 by omega] at m
          have r := rnd_step hN m.1 m.2
          refine both_of_mul hN ?_ ?_ <;> (rw [Int.mul_sub]; omega)
        · by_cases c4 : j + 1 = s + n
          · obtain ⟨i, rfl⟩ : ∃ i, n = i + 1 := ⟨n - 1, by omega⟩
            obtain rfl : j = s + i := by omega
            have f := jb 0 (by omega)
            simp only [Nat.add_zero] at f
            rw [c4, f, jf _ (by omega)]
            have d1 := sy (k + i) (by omega)
            have d2 := gg i (by omega)
            rw [show k + i + 1 = k + (i + 1) by omega] at d1
            have nr := rnd_near (a := (((i + 1 : Nat) : Int) - i) * x.getD (s + i) 0 + ((i : Int) + 1) * y.getD (k + i) 0) hN
            have u := up (a := ((i + 1 : Nat) : Int) + 1) (by omega) d1.1 d1.2
            rw [Int.mul_sub] at u
            have e1 : (((i + 1 : Nat) : Int) - i) * x.getD (s + i) 0 + ((i : Int) + 1) * y.getD (k + i) 0 = (((i + 1 : Nat) : Int) + 1) * y.getD (k + i) 0 - (y.getD (k + i) 0 - x.getD (s + i) 0) := by
              rw [show (((i + 1 : Nat) : Int) - i) = 1 by omega, show ((i : Int) + 1) = ((i + 1 : Nat) : Int) by omega, Int.one_mul, Int.add_mul, Int.one_mul]; omega
            rw [e1] at nr ⊢
            refine both_of_mul hN ?_ ?_ <;> (rw [Int.mul_sub]; omega)
          · obtain ⟨i, rfl⟩ : ∃ i, j = s + n + i := ⟨j - (s + n), by omega⟩
            rw [show s + n + i + 1 = s + n + (i + 1) by omega, jb _ (by omega), jb _ (by omega)]
            have := sy (k + n + i) (by omega)
            rw [show k + n + i + 1 = k + n + (i + 1) by omega] at this
            omega
  have hm := Int.mul_le_mul_of_nonneg_right (show stp (joinL x y n k) - S - 1 ≤ G / ((n : Int) + 1) by omega) (show 0 ≤ (n : Int) + 1 by omega)
  have := Int.ediv_mul_le G (show (n : Int) + 1 ≠ 0 by omega)
  omega
end Go.Proofs.Ytbeeddenidfenaa
