/- Maths: what clips at all clips at an end; a greater gain clips, too. -/
import Derived.Test.YtbeeddenidfenaaE1
set_option linter.unusedSimpArgs false
set_option linter.unusedVariables false
namespace Go.Proofs.Ytbeeddenidfenaa
open Go.RowKit

theorem rnd_le2 {a b H : Int} (h0 : 0 ≤ a) (hb : 0 < b) (hH : a ≤ H * b) : 0 ≤ rnd a b ∧ rnd a b ≤ H := by
  rw [rnd_pos h0]
  refine ⟨Int.ediv_nonneg (by omega) (by omega), Int.lt_add_one_iff.1 (Int.ediv_lt_of_lt_mul (by omega) ?_)⟩
  have : (H + 1) * (2 * b) = 2 * (H * b) + 2 * b := by rw [Int.add_mul, Int.one_mul, Int.mul_left_comm]
  omega

theorem clips_zero {l : List Int} {num den : Int} : clips l num den = 0 ↔ ∀ s ∈ l, gn num den s = gnx num den s := by
  unfold clips
  rw [List.length_eq_zero_iff, List.filter_eq_nil_iff]
  constructor
  · intro h s hs
    have := h s hs
    simpa using this
  · intro h s hs
    simp [h s hs]
theorem clp_id {n : Int} : clp n = n ↔ -32768 ≤ n ∧ n ≤ 32767 := by unfold clp; split <;> (try split) <;> omega
theorem rnd_mono {a c b : Int} (hb : 0 < b) (h : a ≤ c) : rnd a b ≤ rnd c b := by
  unfold rnd
  have h1 : (2 * -c + b) / (2 * b) ≤ (2 * -a + b) / (2 * b) := Int.ediv_le_ediv (by omega) (by omega)
  have h2 : (2 * a + b) / (2 * b) ≤ (2 * c + b) / (2 * b) := Int.ediv_le_ediv (by omega) (by omega)
  by_cases ha : a < 0
  · rw [if_pos ha]
    have h3 : 0 ≤ (2 * -a + b) / (2 * b) := Int.ediv_nonneg (by omega) (by omega)
    by_cases hc : c < 0
    · rw [if_pos hc]; omega
    · rw [if_neg hc]
      have h4 : 0 ≤ (2 * c + b) / (2 * b) := Int.ediv_nonneg (by omega) (by omega)
      omega
  · rw [if_neg ha, if_neg (by omega)]; exact h2
theorem gnx_mono {num den s t : Int} (h0 : 0 ≤ num) (hd : 0 < den) (h : s ≤ t) : gnx num den s ≤ gnx num den t := rnd_mono hd (Int.mul_le_mul_of_nonneg_right h h0)
theorem minL_le {l : List Int} {s : Int} (h : s ∈ l) : minL l ≤ s := by
  have key : ∀ (t : List Int) (a : Int), t.foldl (fun a b => if b < a then b else a) a ≤ a ∧ ∀ x ∈ t, t.foldl (fun a b => if b < a then b else a) a ≤ x := by
    intro t
    induction t with
    | nil => intro a; simp
    | cons x t ih =>
      intro a
      have h0 := ih (if x < a then x else a)
      rw [List.foldl_cons]
      refine ⟨?_, fun y hy => ?_⟩
      · have := h0.1
        split at this <;> omega
      · rcases List.mem_cons.1 hy with h | h
        · have := h0.1
          split at this <;> omega
        · exact h0.2 y h
  cases l with
  | nil => simp at h
  | cons a t =>
    rcases List.mem_cons.1 h with h | h
    · rw [h]; exact (key t a).1
    · exact (key t a).2 s h
theorem le_maxL {l : List Int} {s : Int} (h : s ∈ l) : s ≤ maxL l := by
  have key : ∀ (t : List Int) (a : Int), a ≤ t.foldl (fun a b => if a < b then b else a) a ∧ ∀ x ∈ t, x ≤ t.foldl (fun a b => if a < b then b else a) a := by
    intro t
    induction t with
    | nil => intro a; simp
    | cons x t ih =>
      intro a
      have h0 := ih (if a < x then x else a)
      rw [List.foldl_cons]
      refine ⟨?_, fun y hy => ?_⟩
      · have := h0.1
        split at this <;> omega
      · rcases List.mem_cons.1 hy with h | h
        · have := h0.1
          split at this <;> omega
        · exact h0.2 y h
  cases l with
  | nil => simp at h
  | cons a t =>
    rcases List.mem_cons.1 h with h | h
    · rw [h]; exact (key t a).1
    · exact (key t a).2 s h
/-- What clips at all clips at an end. -/
theorem clips_ends {l : List Int} {num den : Int} (hl : l ≠ []) (h0 : 0 ≤ num) (hd : 0 < den) : clips [minL l, maxL l] num den = 0 ↔ clips l num den = 0 := by
  rw [clips_zero, clips_zero]
  unfold gn
  constructor
  · intro h s hs
    have h1 := clp_id.1 (h (minL l) (by simp))
    have h2 := clp_id.1 (h (maxL l) (by simp))
    have h3 := gnx_mono h0 hd (minL_le hs)
    have h4 := gnx_mono h0 hd (le_maxL hs)
    exact clp_id.2 (by omega)
  · intro h s hs
    rcases List.mem_cons.1 hs with e | e
    · rw [e]; exact h _ (minL_mem hl)
    · rw [List.mem_singleton.1 e]; exact h _ (maxL_mem hl)
/-- A smaller gain clips nothing where a greater one does not. -/
theorem clips_less {l : List Int} {p q den : Int} (h0 : 0 ≤ p) (h : p ≤ q) (hd : 0 < den) (hq : clips l q den = 0) : clips l p den = 0 := by
  rw [clips_zero] at hq ⊢
  intro s hs
  have h1 := hq s hs
  unfold gn at h1 ⊢
  have h2 := clp_id.1 h1
  refine clp_id.2 ?_
  have z : rnd 0 den = 0 := by
    have := rnd_le2 (a := 0) (b := den) (H := 0) (by omega) hd (by omega)
    omega
  unfold gnx at h2 ⊢
  by_cases hs0 : 0 ≤ s
  · have a1 := rnd_mono hd (Int.mul_le_mul_of_nonneg_left h hs0)
    have a2 := rnd_mono hd (Int.mul_nonneg hs0 h0)
    omega
  · have a1 := rnd_mono hd (Int.mul_le_mul_of_nonpos_left (a := s) (by omega) h)
    have a2 := rnd_mono hd (show s * p ≤ 0 from Int.mul_nonpos_of_nonpos_of_nonneg (by omega) h0)
    omega
theorem clips_none {l : List Int} {den : Int} (hd : 0 < den) : clips l 0 den = 0 := by
  rw [clips_zero]
  intro s _
  have z : rnd 0 den = 0 := by
    have := rnd_le2 (a := 0) (b := den) (H := 0) (by omega) hd (by omega)
    omega
  unfold gn gnx
  rw [Int.mul_zero, z]
  rfl
/-- The greatest gain that clips nothing, of a wave. -/
theorem GainTop.whole {l : List Int} {den : Int} {r : Nat} (hl : l ≠ []) (hd : 0 < den) (h : GainTop [minL l, maxL l] den r) : r ≤ 1000000 ∧ clips l r den = 0 ∧ (r = 1000000 ∨ ∀ q : Int, r < q → clips l q den ≠ 0) := by
  refine ⟨h.1, ?_, ?_⟩
  · rcases h.2.1 with e | e
    · rw [e]; exact clips_none hd
    · exact (clips_ends hl (by omega) hd).1 e
  · rcases h.2.2 with e | e
    · exact .inl e
    · refine .inr fun q hq hz => e ((clips_ends hl (by omega) hd).2 (clips_less (by omega) (by omega) hd hz))
end Go.Proofs.Ytbeeddenidfenaa
