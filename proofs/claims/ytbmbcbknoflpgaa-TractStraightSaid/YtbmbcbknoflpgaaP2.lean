/- Maths: a straight tube. -/
import Derived.Test.YtbmbcbknoflpgaaP1
import Derived.Test.YtbmbcbknoflpgaaOM
set_option linter.unusedSimpArgs false
set_option linter.unusedVariables false
namespace Go.Proofs.Ytbmbcbknoflpgaa
open Go.RowKit

theorem w64_id {x : Int} (h : -9223372036854775808 ≤ x ∧ x ≤ 9223372036854775807) : wrap64 x = x := by unfold wrap64; omega
theorem sc2_same {a x y : Int} (ha : 1 ≤ a ∧ a ≤ 1000) (hx : -500 ≤ x ∧ x ≤ 500) (hy : -500 ≤ y ∧ y ≤ 500) : sc2 a a x y 0 = y ∧ sc2 a a x y 1 = x := by
  have e : ∀ i, sc2 a a x y i = (wrap64 (wrap64 (wrap64 (0 + wrap64 (2 * a * x)) + wrap64 (2 * a * y)) - wrap64 ((0 + a + a) * (if i = 0 then x else y)))).tdiv (0 + a + a) := fun i => by
    unfold sc2 sct
    simp [wvS, arS]
  have h1 := mul_inN (A := 1000) (B := 500) (a := a) (b := x) (by omega) (by omega) (by omega) (by omega)
  have h2 := mul_inN (A := 1000) (B := 500) (a := a) (b := y) (by omega) (by omega) (by omega) (by omega)
  have e1 : 2 * a * x = 2 * (a * x) := by rw [Int.mul_assoc]
  have e2 : 2 * a * y = 2 * (a * y) := by rw [Int.mul_assoc]
  have e3 : ∀ z : Int, (0 + a + a) * z = 2 * (a * z) := fun z => by rw [show 0 + a + a = 2 * a by omega, Int.mul_assoc]
  have e4 : 0 + a + a = 2 * a := by omega
  rw [e 0, e 1, e1, e2, if_pos rfl, if_neg (by omega), e3, e3, e4]
  have c : ∀ z : Int, (2 * (a * z)).tdiv (2 * a) = z := fun z => by
    rw [← Int.mul_assoc]
    exact Int.mul_tdiv_cancel_left _ (by omega)
  have k1 := c x
  have k2 := c y
  generalize a * x = p at *
  generalize a * y = q at *
  rw [w64_id (x := 2 * p) (by omega), w64_id (x := 2 * q) (by omega), w64_id (x := 0 + 2 * p) (by omega), w64_id (x := 0 + 2 * p + 2 * q) (by omega), w64_id (x := 0 + 2 * p + 2 * q - 2 * p) (by omega), w64_id (x := 0 + 2 * p + 2 * q - 2 * q) (by omega)]
  rw [show 0 + 2 * p + 2 * q - 2 * p = 2 * q by omega, show 0 + 2 * p + 2 * q - 2 * q = 2 * p by omega]
  exact ⟨k2, k1⟩
/-- One wave runs forward, and no other. -/
def Pulse (n : Nat) (x : Int) (o k : Nat) (f : Nat → Int) : Prop := ∀ i, i < n → f (o + i * 2) = (if i = k then x else 0) ∧ f (o + i * 2 + 1) = 0
theorem thr_zero (p : Int) : thr p 0 = 0 := by unfold thr; simp [wrap64]
theorem offO_two (n s : Nat) : (offO n s = 0 ∧ offO n (s + 1) = 2 * n) ∨ (offO n s = 2 * n ∧ offO n (s + 1) = 0) := by
  unfold offO
  rcases (show (s % 2 = 0 ∧ (s + 1) % 2 = 1) ∨ (s % 2 = 1 ∧ (s + 1) % 2 = 0) by omega) with ⟨h, h'⟩ | ⟨h, h'⟩ <;> rw [h, h'] <;> omega
/-- The shape of a straight tube. -/
def strS (n : Nat) (a g li : Int) : Shp := ⟨List.replicate n a, [], 0, g, li, 0⟩
theorem str_places (n : Nat) (a g li : Int) : shpPlaces (strS n a g li) = placesL n 0 0 g li 0 := by
  unfold shpPlaces strS
  simp
theorem rep_get (n : Nat) (a : Int) (i : Nat) (hi : i < n) : (List.replicate n a).getD i 0 = a := by
  rw [gI (by simpa using hi)]
  simp
theorem str_next {n : Nat} {a g li : Int} (hok : shpOk (strS n a g li) = true) (s : Nat) (G : Nat → Int) : NextIs (fun i => (List.replicate n a).getD i 0) n 0 0 g li 0 (offO n s) (offO n (s + 1)) G (stpF (List.replicate n a) (placesL n 0 0 g li 0) s G) := by
  have h := shp_tube hok
  have hn : 1 ≤ n := by simpa [strS] using h.m1
  have hp := h.plc
  rw [str_places] at hp
  have hl : ((strS n a g li).areas ++ (strS n a g li).branch).length = n := by simp [strS]
  rw [hl] at hp
  have := step_next (fun i => (List.replicate n a).getD i 0) n 0 0 g li 0 (offO n s) (offO n (s + 1)) hn (by omega) (by rcases offO_two n s with h | h <;> omega) (by simpa using hp) G
  unfold stpF
  simpa using this
theorem str_a {n : Nat} {a g li : Int} (hok : shpOk (strS n a g li) = true) : 1 ≤ n ∧ n ≤ 24 ∧ (1 ≤ a ∧ a ≤ 1000) ∧ (0 ≤ li ∧ li ≤ 99) := by
  have h := shp_parts hok
  have h2 := ars_parts h.2.1
  have h1 : 1 ≤ n := by simpa [strS] using h.1
  have h3 := h2.2 0 (by simp [strS]; omega)
  have h4 : (strS n a g li).areas.getD 0 0 = a := rep_get n a 0 h1
  rw [h4] at h3
  exact ⟨h1, by simpa [strS] using h2.1, h3, h.2.2.2.2.2.1⟩
theorem str_zero {n : Nat} {a g li : Int} (hok : shpOk (strS n a g li) = true) (s : Nat) (G : Nat → Int) (hz : ∀ i, i < 2 * n → G (offO n s + i) = 0) : ∀ i, i < 2 * n → stpF (List.replicate n a) (placesL n 0 0 g li 0) s G (offO n (s + 1) + i) = 0 := by
  obtain ⟨h1, h2, h3, h4⟩ := str_a hok
  have hx := str_next hok s G
  have sz := sc2_same (a := a) (x := 0) (y := 0) h3 (by omega) (by omega)
  intro i hi
  by_cases e : i % 2 = 0
  · obtain ⟨k, rfl⟩ : ∃ k, i = k * 2 := ⟨i / 2, by omega⟩
    cases k with
    | zero =>
      have := hx.glo
      rw [hz 1 (by omega), thr_zero] at this
      simpa using this
    | succ k =>
      have := (hx.mid k (by omega) (by omega)).2
      rw [hz (k * 2) (by omega), Nat.add_assoc, hz ((k + 1) * 2 + 1) (by omega), rep_get n a k (by omega), rep_get n a (k + 1) (by omega), sz.2] at this
      exact this
  · obtain ⟨k, rfl⟩ : ∃ k, i = k * 2 + 1 := ⟨i / 2, by omega⟩
    by_cases hk : k = n - 1
    · subst hk
      have := hx.lip
      rw [hz ((n - 1) * 2) (by omega), thr_zero, Nat.add_assoc] at this
      exact this
    · have := (hx.mid k (by omega) (by omega)).1
      rw [hz (k * 2) (by omega), Nat.add_assoc, Nat.add_assoc, hz ((k + 1) * 2 + 1) (by omega), rep_get n a k (by omega), rep_get n a (k + 1) (by omega), sz.1] at this
      exact this
theorem str_run {n : Nat} {a g li x : Int} (hok : shpOk (strS n a g li) = true) (hxx : -500 ≤ x ∧ x ≤ 500) (s k : Nat) (hk : k < n - 1) (G : Nat → Int) (hp : Pulse n x (offO n s) k G) : Pulse n x (offO n (s + 1)) (k + 1) (stpF (List.replicate n a) (placesL n 0 0 g li 0) s G) := by
  obtain ⟨h1, h2, h3, h4⟩ := str_a hok
  have hx := str_next hok s G
  have hb : ∀ i : Nat, -500 ≤ (if i = k then x else 0) ∧ (if i = k then x else (0 : Int)) ≤ 500 := fun i => by split <;> omega
  intro i hi
  refine ⟨?_, ?_⟩
  · cases i with
    | zero =>
      have := hx.glo
      have h0 := (hp 0 hi).2
      simp only [Nat.zero_mul, Nat.add_zero] at h0 ⊢
      rw [h0, thr_zero] at this
      rw [this, if_neg (by omega)]
    | succ i =>
      have := (hx.mid i (by omega) (by omega)).2
      rw [(hp i (by omega)).1, (hp (i + 1) hi).2, rep_get n a i (by omega), rep_get n a (i + 1) (by omega), (sc2_same h3 (hb i) (by omega)).2] at this
      rw [this]
      by_cases e : i = k
      · rw [if_pos e, if_pos (by omega)]
      · rw [if_neg e, if_neg (by omega)]
  · by_cases e : i = n - 1
    · subst e
      have := hx.lip
      rw [(hp (n - 1) hi).1, if_neg (by omega), thr_zero] at this
      exact this
    · have := (hx.mid i (by omega) (by omega)).1
      rw [(hp i hi).1, (hp (i + 1) (by omega)).2, rep_get n a i (by omega), rep_get n a (i + 1) (by omega), (sc2_same h3 (hb i) (by omega)).1] at this
      exact this
theorem str_heard {n : Nat} {a g li : Int} (hok : shpOk (strS n a g li) = true) (s : Nat) (G : Nat → Int) : lipF (List.replicate n a) n (placesL n 0 0 g li 0) s G = wrap64 (G (offO n s + (n - 1) * 2) + thr (-li) (G (offO n s + (n - 1) * 2))) ∧ nosF (List.replicate n a) n (placesL n 0 0 g li 0) s G = 0 := by
  obtain ⟨h1, h2, h3, h4⟩ := str_a hok
  have hx := str_next hok s G
  refine ⟨?_, ?_⟩
  · unfold lipF heardL
    rw [List.length_replicate, hx.old _ (by omega), hx.lip]
  · unfold nosF noseL
    rw [List.length_replicate, if_neg (by omega)]
/-- What is heard of one feed. -/
theorem str_pulse {n : Nat} {a g li x : Int} (hok : shpOk (strS n a g li) = true) (hxx : -500 ≤ x ∧ x ≤ 500) :
    lipF (List.replicate n a) n (placesL n 0 0 g li 0) 0 (fun _ => 0) = 0 ∧ nosF (List.replicate n a) n (placesL n 0 0 g li 0) 0 (fun _ => 0) = 0 ∧
    (∀ k, k < n - 1 → quH (List.replicate n a) n (placesL n 0 0 g li 0) 1 (nxtF (List.replicate n a) (placesL n 0 0 g li 0) 0 [⟨0, x⟩] (fun _ => 0)) k = (0, 0)) ∧
    quH (List.replicate n a) n (placesL n 0 0 g li 0) 1 (nxtF (List.replicate n a) (placesL n 0 0 g li 0) 0 [⟨0, x⟩] (fun _ => 0)) (n - 1) = (x - (li * x).tdiv 100, 0) := by
  obtain ⟨h1, h2, h3, h4⟩ := str_a hok
  have hz := str_zero hok 0 (fun _ => 0) (fun _ _ => rfl)
  have h0 := str_heard hok 0 (fun _ => 0)
  have hp0 : Pulse n x (offO n 1) 0 (nxtF (List.replicate n a) (placesL n 0 0 g li 0) 0 [⟨0, x⟩] (fun _ => 0)) := by
    intro i hi
    unfold nxtF feedsA
    simp only [List.foldl_cons, List.foldl_nil, List.length_replicate, Nat.zero_add]
    unfold feedA upd
    simp only [Int.toNat_zero, Nat.zero_mul, Nat.add_zero]
    have z1 := hz (i * 2) (by omega)
    have z2 := hz (i * 2 + 1) (by omega)
    have z0 := hz 0 (by omega)
    simp only [Nat.zero_add, Nat.add_zero] at z0 z1 z2
    rw [z0]
    refine ⟨?_, ?_⟩
    · by_cases e : i = 0
      · subst e; rw [if_pos (by omega), if_pos rfl, w64_id (by omega)]; omega
      · rw [if_neg (by omega), if_neg e]; exact z1
    · rw [if_neg (by omega)]; rw [Nat.add_assoc]; exact z2
  have hp : ∀ k, k ≤ n - 1 → Pulse n x (offO n (1 + k)) k (quF (List.replicate n a) (placesL n 0 0 g li 0) 1 (nxtF (List.replicate n a) (placesL n 0 0 g li 0) 0 [⟨0, x⟩] (fun _ => 0)) k) := by
    intro k
    induction k with
    | zero => intro _; exact hp0
    | succ k ih => intro hk; exact str_run hok hxx (1 + k) k (by omega) _ (ih (by omega))
  refine ⟨?_, h0.2, fun k hk => ?_, ?_⟩
  · rw [h0.1, thr_zero]; simp [wrap64]
  · unfold quH
    have hh := str_heard hok (1 + k) (quF (List.replicate n a) (placesL n 0 0 g li 0) 1 (nxtF (List.replicate n a) (placesL n 0 0 g li 0) 0 [⟨0, x⟩] (fun _ => 0)) k)
    rw [hh.1, hh.2, (hp k (by omega) (n - 1) (by omega)).1, if_neg (by omega), thr_zero]
    simp [wrap64]
  · unfold quH
    have hh := str_heard hok (1 + (n - 1)) (quF (List.replicate n a) (placesL n 0 0 g li 0) 1 (nxtF (List.replicate n a) (placesL n 0 0 g li 0) 0 [⟨0, x⟩] (fun _ => 0)) (n - 1))
    rw [hh.1, hh.2, (hp (n - 1) (Nat.le_refl _) (n - 1) (by omega)).1, if_pos rfl]
    have hm := mul_inN (A := 99) (B := 500) (a := li) (b := x) (by omega) (by omega) (by omega) (by omega)
    unfold thr
    rw [Int.neg_mul, w64_id (x := -(li * x)) (by omega), Int.neg_tdiv]
    have ht := tdiv_in (a := li * x) (b := 100) (by omega) 49500 (by omega)
    rw [w64_id (by omega)]
    rfl
end Go.Proofs.Ytbmbcbknoflpgaa
