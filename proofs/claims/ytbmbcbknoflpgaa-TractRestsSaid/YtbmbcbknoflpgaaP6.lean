/- Maths: a tube without feeds loses energy, or is silent. -/
import Derived.Test.YtbmbcbknoflpgaaP4
set_option linter.unusedSimpArgs false
set_option linter.unusedVariables false
namespace Go.Proofs.Ytbmbcbknoflpgaa
open Go.RowKit

theorem sm_eq {g h : Nat → Int} : ∀ {n : Nat}, (∀ j, j < n → g j ≤ h j) → sm h n ≤ sm g n → ∀ j, j < n → g j = h j := by
  intro n
  induction n with
  | zero => intro _ _ j hj; omega
  | succ n ih =>
    intro hle hs j hj
    have h1 := sm_le (fun j hj => hle j (Nat.lt_succ_of_lt hj) : ∀ j, j < n → g j ≤ h j)
    have h2 := hle n (by omega)
    have h3 : sm h n + h n ≤ sm g n + g n := hs
    by_cases e : j = n
    · subst e; omega
    · exact ih (fun j hj => hle j (by omega)) (by omega) j (by omega)
theorem sq_zero {x : Int} (h : x * x ≤ 0) : x = 0 := by
  have := sq_nonneg x
  have h2 : x * x = 0 := by omega
  rcases Int.mul_eq_zero.1 h2 with h | h <;> exact h
theorem thr_eq {p x : Int} (hp : -99 ≤ p ∧ p ≤ 99) (hx : -1073741824 ≤ x ∧ x ≤ 1073741824) (h : x * x ≤ thr p x * thr p x) : x = 0 := by
  have e := (thr_le hp hx).1
  have h1 := tdiv_sq (p * x) 100 (by omega)
  rw [← e] at h1
  have h2 : p * x * (p * x) = p * p * (x * x) := by grind
  have h3 : p * p ≤ 99 * 99 := by
    have := mul_inN (A := 99) (B := 99) (a := p) (b := p) (by omega) (by omega) (by omega) (by omega)
    omega
  have h4 := Int.mul_le_mul_of_nonneg_right h3 (sq_nonneg x)
  rw [h2] at h1
  apply sq_zero
  generalize thr p x * thr p x = u at *
  generalize p * p * (x * x) = v at *
  generalize x * x = z at *
  omega
theorem thr_z (p : Int) : thr p 0 = 0 := by unfold thr; simp [wrap64]
theorem sc2_exact {a c x y : Int} (ha : 1 ≤ a ∧ a ≤ 1000) (hc : 1 ≤ c ∧ c ≤ 1000) (hx : -1073741824 ≤ x ∧ x ≤ 1073741824) (hy : -1073741824 ≤ y ∧ y ≤ 1073741824) : sc2 a c x y 0 = (2 * a * x + 2 * c * y - (a + c) * x).tdiv (a + c) ∧ sc2 a c x y 1 = (2 * a * x + 2 * c * y - (a + c) * y).tdiv (a + c) := by
  have h := fun i hi => (sct_exact (A := fun t => if t = 0 then a else c) (F := fun t => if t = 0 then x else y) (n := 2) (by omega) (by omega) (fun j hj => by rcases (show j = 0 ∨ j = 1 by omega) with rfl | rfl <;> simp <;> omega) (fun j hj => by rcases (show j = 0 ∨ j = 1 by omega) with rfl | rfl <;> simp <;> omega) i hi).1
  have h0 := h 0 (by omega)
  have h1 := h 1 (by omega)
  unfold sctX at h0 h1
  simp only [sm, if_true, Nat.zero_add, show ¬ (1 = 0) by omega, if_false, Int.zero_add] at h0 h1
  exact ⟨h0, h1⟩
theorem side_zero {a c y v : Int} (ha : 1 ≤ a) (hc : 1 ≤ c) (hv : v = ((c - a) * y).tdiv (a + c)) (he : c * (y * y) ≤ c * (v * v)) : y = 0 ∧ v = 0 := by
  have h1 := tdiv_sq ((c - a) * y) (a + c) (by omega)
  rw [← hv] at h1
  have h2 := Int.le_of_mul_le_mul_left he (show 0 < c by omega)
  have h3 := Int.mul_le_mul_of_nonneg_left h2 (Int.mul_nonneg (show 0 ≤ a + c by omega) (show 0 ≤ a + c by omega))
  have e1 : (c - a) * y * ((c - a) * y) = (a + c) * (a + c) * (y * y) - 4 * (a * c * (y * y)) := by grind
  rw [e1] at h1
  have h5 : a * c * (y * y) ≤ 0 := by omega
  have hac : 1 ≤ a * c := by
    have := Int.mul_le_mul ha hc (by omega) (by omega)
    omega
  have h6 := Int.mul_le_mul_of_nonneg_right hac (sq_nonneg y)
  have hy : y = 0 := sq_zero (by omega)
  refine ⟨hy, ?_⟩
  rw [hv, hy]
  simp
theorem pair_right {a c y : Int} (ha : 1 ≤ a ∧ a ≤ 1000) (hc : 1 ≤ c ∧ c ≤ 1000) (hy : -1073741824 ≤ y ∧ y ≤ 1073741824) (h0 : sc2 a c 0 y 0 = 0) (he : a * (0 * 0) + c * (y * y) ≤ a * (sc2 a c 0 y 0 * sc2 a c 0 y 0) + c * (sc2 a c 0 y 1 * sc2 a c 0 y 1)) : y = 0 ∧ sc2 a c 0 y 1 = 0 := by
  rw [h0] at he
  refine side_zero (a := a) (c := c) ha.1 hc.1 ?_ (by omega)
  rw [(sc2_exact ha hc (by omega) hy).2]
  congr 1
  grind
theorem pair_left {a c x : Int} (ha : 1 ≤ a ∧ a ≤ 1000) (hc : 1 ≤ c ∧ c ≤ 1000) (hx : -1073741824 ≤ x ∧ x ≤ 1073741824) (h0 : sc2 a c x 0 1 = 0) (he : a * (x * x) + c * (0 * 0) ≤ a * (sc2 a c x 0 0 * sc2 a c x 0 0) + c * (sc2 a c x 0 1 * sc2 a c x 0 1)) : x = 0 ∧ sc2 a c x 0 0 = 0 := by
  rw [h0] at he
  refine side_zero (a := c) (c := a) hc.1 ha.1 ?_ (by omega)
  rw [(sc2_exact ha hc hx (by omega)).1]
  congr 1
  · grind
  · omega
/-- What is so of a step that keeps the energy. -/
structure SameIs (A : Nat → Int) (n b j oo on : Nat) (G H : Nat → Int) : Prop where
  glo : G (oo + 1) = 0 ∧ H on = 0
  lip : G (oo + (n - 1) * 2) = 0 ∧ H (on + (n - 1) * 2 + 1) = 0
  nos : 0 < b → G (oo + (n - 1 + b) * 2) = 0 ∧ H (on + (n - 1 + b) * 2 + 1) = 0
  right : ∀ k, k < n - 1 → ¬ (k = j ∧ 0 < b) → G (oo + k * 2) = 0 → H (on + k * 2 + 1) = 0 → G (oo + (k + 1) * 2 + 1) = 0 ∧ H (on + (k + 1) * 2) = 0
  left : ∀ k, k < n - 1 → ¬ (k = j ∧ 0 < b) → G (oo + (k + 1) * 2 + 1) = 0 → H (on + (k + 1) * 2) = 0 → G (oo + k * 2) = 0 ∧ H (on + k * 2 + 1) = 0
  arm : 0 < b → ∀ i, i < b - 1 → G (oo + (n + i + 1) * 2 + 1) = 0 → H (on + (n + i + 1) * 2) = 0 → G (oo + (n + i) * 2) = 0 ∧ H (on + (n + i) * 2 + 1) = 0
theorem next_same {A : Nat → Int} {n b j : Nat} {g li no : Int} {oo on : Nat} {G H : Nat → Int} (hx : NextIs A n b j g li no oo on G H) (hn : 1 ≤ n) (hj : 0 < b → j < n - 1) (hA : ∀ i, i < n + b → 1 ≤ A i ∧ A i ≤ 1000) (hg : 0 ≤ g ∧ g ≤ 99) (hl : 0 ≤ li ∧ li ≤ 99) (ho : 0 ≤ no ∧ no ≤ 99) (hG : ∀ i, i < 2 * (n + b) → -1073741824 ≤ G (oo + i) ∧ G (oo + i) ≤ 1073741824) (he : en A G oo (n + b) ≤ en A H on (n + b)) :
    SameIs A n b j oo on G H := by
  obtain ⟨m, rfl⟩ : ∃ m, n = m + 1 := ⟨n - 1, by omega⟩
  have e1 : ∀ (K : Nat → Int) (o : Nat), en A K o (m + 1) = A 0 * (K (o + 0 * 2) * K (o + 0 * 2)) + sm (fun k => A k * (K (o + k * 2 + 1) * K (o + k * 2 + 1)) + A (k + 1) * (K (o + (k + 1) * 2) * K (o + (k + 1) * 2))) m + A m * (K (o + m * 2 + 1) * K (o + m * 2 + 1)) := fun K o => by
    have := sm_chain (fun i => A i * (K (o + i * 2 + 1) * K (o + i * 2 + 1))) (fun i => A i * (K (o + i * 2) * K (o + i * 2))) m
    rw [← this]
    exact sm_congr fun i _ => by omega
  have e2 : ∀ (K : Nat → Int) (o : Nat), en A K o (m + 1) = A 0 * (K (o + 0 * 2 + 1) * K (o + 0 * 2 + 1)) + sm (fun k => A k * (K (o + k * 2) * K (o + k * 2)) + A (k + 1) * (K (o + (k + 1) * 2 + 1) * K (o + (k + 1) * 2 + 1))) m + A m * (K (o + m * 2) * K (o + m * 2)) := fun K o =>
    sm_chain (fun i => A i * (K (o + i * 2) * K (o + i * 2))) (fun i => A i * (K (o + i * 2 + 1) * K (o + i * 2 + 1))) m
  have hA0 := hA 0 (by omega)
  have hAm := hA m (by omega)
  have g0 := (thr_le (p := g) (x := G (oo + 1)) (by omega) (hG 1 (by omega))).2
  have gm := (thr_le (p := -li) (x := G (oo + m * 2)) (by omega) (hG (m * 2) (by omega))).2
  have z0 := thr_eq (p := g) (x := G (oo + 1)) (by omega) (hG 1 (by omega))
  have zm := thr_eq (p := -li) (x := G (oo + m * 2)) (by omega) (hG (m * 2) (by omega))
  rw [← hx.glo] at g0 z0
  have hlip := hx.lip
  rw [show m + 1 - 1 = m by omega] at hlip
  rw [← hlip] at gm zm
  have k0 := Int.mul_le_mul_of_nonneg_left g0 (show 0 ≤ A 0 by omega)
  have km := Int.mul_le_mul_of_nonneg_left gm (show 0 ≤ A m by omega)
  have pair : ∀ k, k < m → ¬ (k = j ∧ 0 < b) → A k * (H (on + k * 2 + 1) * H (on + k * 2 + 1)) + A (k + 1) * (H (on + (k + 1) * 2) * H (on + (k + 1) * 2)) ≤ A k * (G (oo + k * 2) * G (oo + k * 2)) + A (k + 1) * (G (oo + (k + 1) * 2 + 1) * G (oo + (k + 1) * 2 + 1)) := fun k hk hkj => by
    obtain ⟨q1, q2⟩ := hx.mid k (by omega) hkj
    rw [q1, q2]
    exact sc2_le (hA k (by omega)) (hA (k + 1) (by omega)) (hG (k * 2) (by omega)) (by have := hG ((k + 1) * 2 + 1) (by omega); rwa [← Nat.add_assoc] at this)
  have sp : ∀ (K : Nat → Int) (o : Nat), en A K o (m + 1 + b) = en A K o (m + 1) + sm (fun i => A (m + 1 + i) * (K (o + (m + 1 + i) * 2) * K (o + (m + 1 + i) * 2)) + A (m + 1 + i) * (K (o + (m + 1 + i) * 2 + 1) * K (o + (m + 1 + i) * 2 + 1))) b := fun K o => sm_split (fun i => A i * (K (o + i * 2) * K (o + i * 2)) + A i * (K (o + i * 2 + 1) * K (o + i * 2 + 1))) (m + 1) b
  rw [sp, sp, e1 H on, e2 G oo] at he
  -- from the equalities
  have fin : ∀ (q0 : A 0 * (G (oo + 1) * G (oo + 1)) ≤ A 0 * (H on * H on)) (qm : A m * (G (oo + m * 2) * G (oo + m * 2)) ≤ A m * (H (on + m * 2 + 1) * H (on + m * 2 + 1)))
      (qp : ∀ k, k < m → ¬ (k = j ∧ 0 < b) → A k * (G (oo + k * 2) * G (oo + k * 2)) + A (k + 1) * (G (oo + (k + 1) * 2 + 1) * G (oo + (k + 1) * 2 + 1)) ≤ A k * (H (on + k * 2 + 1) * H (on + k * 2 + 1)) + A (k + 1) * (H (on + (k + 1) * 2) * H (on + (k + 1) * 2)))
      (qa : 0 < b → ∀ k, k < b - 1 → A (m + 1 + k) * (G (oo + (m + 1 + k) * 2) * G (oo + (m + 1 + k) * 2)) + A (m + 1 + k + 1) * (G (oo + (m + 1 + k + 1) * 2 + 1) * G (oo + (m + 1 + k + 1) * 2 + 1)) ≤ A (m + 1 + k) * (H (on + (m + 1 + k) * 2 + 1) * H (on + (m + 1 + k) * 2 + 1)) + A (m + 1 + k + 1) * (H (on + (m + 1 + k + 1) * 2) * H (on + (m + 1 + k + 1) * 2)))
      (qn : 0 < b → A (m + b) * (G (oo + (m + b) * 2) * G (oo + (m + b) * 2)) ≤ A (m + b) * (H (on + (m + b) * 2 + 1) * H (on + (m + b) * 2 + 1))), SameIs A (m + 1) b j oo on G H := by
    intro q0 qm qp qa qn
    have y0 := z0 (Int.le_of_mul_le_mul_left q0 (by omega))
    have ym := zm (Int.le_of_mul_le_mul_left qm (by omega))
    refine ⟨⟨y0, by rw [hx.glo, y0, thr_z]⟩, ⟨by rw [show m + 1 - 1 = m by omega]; exact ym, by rw [show m + 1 - 1 = m by omega, hlip, ym, thr_z]⟩, fun hb => ?_, fun k hk hkj h1 h2 => ?_, fun k hk hkj h1 h2 => ?_, fun hb i hi h1 h2 => ?_⟩
    · have hno := hx.nos hb
      rw [show m + 1 - 1 + b = m + b by omega] at hno ⊢
      have hAb := hA (m + b) (by omega)
      have q := Int.le_of_mul_le_mul_left (qn hb) (by omega)
      have hGb := hG ((m + b) * 2) (by omega)
      rw [hno] at q
      have y := thr_eq (by omega) hGb q
      exact ⟨y, by rw [hno, y, thr_z]⟩
    · obtain ⟨q1, q2⟩ := hx.mid k hk hkj
      have q := qp k (by omega) hkj
      have hy := hG ((k + 1) * 2 + 1) (by omega)
      rw [← Nat.add_assoc] at hy
      rw [h1] at q1 q2 q
      rw [q1, q2] at q
      rw [q1] at h2
      have := pair_right (hA k (by omega)) (hA (k + 1) (by omega)) hy h2 q
      exact ⟨this.1, by rw [q2]; exact this.2⟩
    · obtain ⟨q1, q2⟩ := hx.mid k hk hkj
      have q := qp k (by omega) hkj
      have hy := hG (k * 2) (by omega)
      rw [h1] at q1 q2 q
      rw [q1, q2] at q
      rw [q2] at h2
      have := pair_left (hA k (by omega)) (hA (k + 1) (by omega)) hy h2 q
      exact ⟨this.1, by rw [q1]; exact this.2⟩
    · obtain ⟨q1, q2⟩ := hx.arm hb i hi
      have q := qa hb i hi
      have hy := hG ((m + 1 + i) * 2) (by omega)
      rw [h1] at q1 q2 q
      rw [q1, q2] at q
      rw [q2] at h2
      have := pair_left (hA (m + 1 + i) (by omega)) (hA (m + 1 + i + 1) (by omega)) hy h2 q
      exact ⟨this.1, by rw [q1]; exact this.2⟩
  by_cases hb : 0 < b
  · obtain ⟨c, rfl⟩ : ∃ c, b = c + 1 := ⟨b - 1, by omega⟩
    have hjm := hj hb
    obtain ⟨f1, f2, f3⟩ := hx.fork hb
    have fk := sc3_le (hA j (by omega)) (hA (j + 1) (by omega)) (hA (m + 1) (by omega)) (hG (j * 2) (by omega)) (by have := hG ((j + 1) * 2 + 1) (by omega); rwa [← Nat.add_assoc] at this) (by have := hG ((m + 1) * 2 + 1) (by omega); rwa [← Nat.add_assoc] at this)
    rw [← f1, ← f2, ← f3] at fk
    obtain ⟨d, hd⟩ : ∃ d, A (m + 1) * (G (oo + (m + 1) * 2 + 1) * G (oo + (m + 1) * 2 + 1)) - A (m + 1) * (H (on + (m + 1) * 2) * H (on + (m + 1) * 2)) = d := ⟨_, rfl⟩
    have hle : ∀ k, k < m → (fun k => A k * (H (on + k * 2 + 1) * H (on + k * 2 + 1)) + A (k + 1) * (H (on + (k + 1) * 2) * H (on + (k + 1) * 2))) k ≤ (fun k => (A k * (G (oo + k * 2) * G (oo + k * 2)) + A (k + 1) * (G (oo + (k + 1) * 2 + 1) * G (oo + (k + 1) * 2 + 1))) + (if k = j then d else 0)) k := fun k hk => by
      simp only
      by_cases e : k = j
      · subst e
        rw [if_pos rfl]
        omega
      · rw [if_neg e]
        have := pair k hk (by omega)
        omega
    have hsum := sm_le hle
    have hse := sm_eq hle
    rw [sm_add (fun k => A k * (G (oo + k * 2) * G (oo + k * 2)) + A (k + 1) * (G (oo + (k + 1) * 2 + 1) * G (oo + (k + 1) * 2 + 1))) (fun k => if k = j then d else 0), sm_ite d j m (by omega)] at hsum hse
    have b1 := sm_chain (fun i => A (m + 1 + i) * (H (on + (m + 1 + i) * 2 + 1) * H (on + (m + 1 + i) * 2 + 1))) (fun i => A (m + 1 + i) * (H (on + (m + 1 + i) * 2) * H (on + (m + 1 + i) * 2))) c
    have b2 := sm_chain (fun i => A (m + 1 + i) * (G (oo + (m + 1 + i) * 2) * G (oo + (m + 1 + i) * 2))) (fun i => A (m + 1 + i) * (G (oo + (m + 1 + i) * 2 + 1) * G (oo + (m + 1 + i) * 2 + 1))) c
    have b3 : sm (fun i => A (m + 1 + i) * (H (on + (m + 1 + i) * 2) * H (on + (m + 1 + i) * 2)) + A (m + 1 + i) * (H (on + (m + 1 + i) * 2 + 1) * H (on + (m + 1 + i) * 2 + 1))) (c + 1) = sm (fun s => A (m + 1 + s) * (H (on + (m + 1 + s) * 2 + 1) * H (on + (m + 1 + s) * 2 + 1)) + A (m + 1 + s) * (H (on + (m + 1 + s) * 2) * H (on + (m + 1 + s) * 2))) (c + 1) := sm_congr fun i _ => by omega
    have hno := hx.nos hb
    have go := (thr_le (p := -no) (x := G (oo + (m + 1 - 1 + (c + 1)) * 2)) (by omega) (hG ((m + 1 - 1 + (c + 1)) * 2) (by omega))).2
    rw [← hno] at go
    rw [show m + 1 - 1 + (c + 1) = m + 1 + c by omega] at go
    have ko := Int.mul_le_mul_of_nonneg_left go (show 0 ≤ A (m + 1 + c) by have := hA (m + 1 + c) (by omega); omega)
    have ble : ∀ k, k < c → (fun k => A (m + 1 + k) * (H (on + (m + 1 + k) * 2 + 1) * H (on + (m + 1 + k) * 2 + 1)) + A (m + 1 + (k + 1)) * (H (on + (m + 1 + (k + 1)) * 2) * H (on + (m + 1 + (k + 1)) * 2))) k ≤ (fun k => A (m + 1 + k) * (G (oo + (m + 1 + k) * 2) * G (oo + (m + 1 + k) * 2)) + A (m + 1 + (k + 1)) * (G (oo + (m + 1 + (k + 1)) * 2 + 1) * G (oo + (m + 1 + (k + 1)) * 2 + 1))) k := fun k hk => by
      simp only
      obtain ⟨q1, q2⟩ := hx.arm hb k (by omega)
      rw [q1, show m + 1 + (k + 1) = m + 1 + k + 1 by omega, q2]
      exact sc2_le (hA (m + 1 + k) (by omega)) (hA (m + 1 + k + 1) (by omega)) (hG ((m + 1 + k) * 2) (by omega)) (by have := hG ((m + 1 + k + 1) * 2 + 1) (by omega); rwa [← Nat.add_assoc] at this)
    have bsum := sm_le ble
    have bse := sm_eq ble
    simp only [Nat.add_zero] at b1 b2
    rw [b3, b1, b2] at he
    simp only [Nat.zero_mul, Nat.add_zero, Nat.zero_add] at he
    refine fin (by omega) (by omega) (fun k hk hkj => ?_) (fun _ k hk => ?_) (fun _ => ?_)
    · have := hse (by omega) k hk
      (try simp only at this)
      rw [if_neg (by omega)] at this
      omega
    · have := bse (by omega) k (by omega)
      (try simp only at this)
      rw [show m + 1 + (k + 1) = m + 1 + k + 1 by omega] at this
      omega
    · rw [show m + (c + 1) = m + 1 + c by omega]
      omega
  · obtain rfl : b = 0 := by omega
    have hle : ∀ k, k < m → (fun k => A k * (H (on + k * 2 + 1) * H (on + k * 2 + 1)) + A (k + 1) * (H (on + (k + 1) * 2) * H (on + (k + 1) * 2))) k ≤ (fun k => A k * (G (oo + k * 2) * G (oo + k * 2)) + A (k + 1) * (G (oo + (k + 1) * 2 + 1) * G (oo + (k + 1) * 2 + 1))) k := fun k hk => pair k hk (by omega)
    have hsum := sm_le hle
    have hse := sm_eq hle
    simp only [Nat.zero_mul, Nat.add_zero, Nat.zero_add, sm] at he
    refine fin (by omega) (by omega) (fun k hk _ => ?_) (fun h => by omega) (fun h => by omega)
    have := hse (by omega) k hk
    (try simp only at this)
    omega
end Go.Proofs.Ytbmbcbknoflpgaa
