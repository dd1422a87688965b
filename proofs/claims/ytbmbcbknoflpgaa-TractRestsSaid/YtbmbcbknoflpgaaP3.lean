/- Maths: a step does not raise the energy; what feeds add. -/
import Derived.Test.YtbmbcbknoflpgaaP1
import Derived.Test.YtbmbcbknoflpgaaM2
import Derived.Test.YtbmbcbknoflpgaaOM
set_option linter.unusedSimpArgs false
set_option linter.unusedVariables false
namespace Go.Proofs.Ytbmbcbknoflpgaa
open Go.RowKit

theorem w64_r {x : Int} (h : -9223372036854775808 ≤ x ∧ x ≤ 9223372036854775807) : wrap64 x = x := by unfold wrap64; omega
theorem sm_split (g : Nat → Int) (n : Nat) : ∀ b, sm g (n + b) = sm g n + sm (fun i => g (n + i)) b := by
  intro b
  induction b with
  | zero => simp [sm]
  | succ b ih => show sm g (n + b) + g (n + b) = sm g n + (sm (fun i => g (n + i)) b + g (n + b)); rw [ih]; omega
theorem sm_chain (X Y : Nat → Int) : ∀ m, sm (fun s => X s + Y s) (m + 1) = Y 0 + sm (fun k => X k + Y (k + 1)) m + X m := by
  intro m
  induction m with
  | zero => simp [sm]; omega
  | succ m ih =>
    show sm (fun s => X s + Y s) (m + 1) + (X (m + 1) + Y (m + 1)) = Y 0 + (sm (fun k => X k + Y (k + 1)) m + (X m + Y (m + 1))) + X (m + 1)
    rw [ih]; omega
theorem sm_ite (d : Int) (j : Nat) : ∀ m, j < m → sm (fun k => if k = j then d else 0) m = d := by
  intro m
  have hz : ∀ m, m ≤ j → sm (fun k => if k = j then d else 0) m = 0 := by
    intro m
    induction m with
    | zero => intro _; rfl
    | succ m ih => intro h; show sm _ m + _ = 0; rw [ih (by omega)]; simp; omega
  induction m with
  | zero => intro h; omega
  | succ m ih =>
    intro h
    show sm _ m + (if m = j then d else 0) = d
    by_cases e : m = j
    · rw [hz m (by omega), if_pos e]; omega
    · rw [ih (by omega), if_neg e]; omega
theorem sm_enX (A F B : Nat → Int) : ∀ n, enX A F B n = sm (fun i => A i * (F i * F i + B i * B i)) n := by
  intro n
  induction n with
  | zero => rfl
  | succ n ih => show enX A F B n + _ = sm _ n + _; rw [ih]
/-- The energy of a state. -/
def en (A G : Nat → Int) (o n : Nat) : Int := sm (fun i => A i * (G (o + i * 2) * G (o + i * 2)) + A i * (G (o + i * 2 + 1) * G (o + i * 2 + 1))) n
theorem en_enX (A G : Nat → Int) (o n : Nat) : enX A (fun i => G (o + i * 2)) (fun i => G (o + i * 2 + 1)) n = en A G o n := by
  rw [sm_enX]
  exact sm_congr fun j _ => by rw [Int.mul_add]
theorem thr_le {p x : Int} (hp : -99 ≤ p ∧ p ≤ 99) (hx : -1073741824 ≤ x ∧ x ≤ 1073741824) : thr p x = (p * x).tdiv 100 ∧ thr p x * thr p x ≤ x * x := by
  have hm := mul_inN (A := 99) (B := 1073741824) (a := p) (b := x) (by omega) (by omega) (by omega) (by omega)
  have e : thr p x = (p * x).tdiv 100 := by unfold thr; rw [w64_r (by omega)]
  refine ⟨e, ?_⟩
  rw [e]
  have h1 := tdiv_sq (p * x) 100 (by omega)
  have h2 : p * x * (p * x) = p * p * (x * x) := by grind
  have h3 : p * p ≤ 99 * 99 := by
    have := mul_inN (A := 99) (B := 99) (a := p) (b := p) (by omega) (by omega) (by omega) (by omega)
    omega
  have h4 := Int.mul_le_mul_of_nonneg_right h3 (sq_nonneg x)
  have h5 := sq_nonneg x
  rw [h2] at h1
  generalize (p * x).tdiv 100 * (p * x).tdiv 100 = u at *
  generalize p * p * (x * x) = v at *
  generalize x * x = z at *
  omega
theorem sc2_le {a c x y : Int} (ha : 1 ≤ a ∧ a ≤ 1000) (hc : 1 ≤ c ∧ c ≤ 1000) (hx : -1073741824 ≤ x ∧ x ≤ 1073741824) (hy : -1073741824 ≤ y ∧ y ≤ 1073741824) : a * (sc2 a c x y 0 * sc2 a c x y 0) + c * (sc2 a c x y 1 * sc2 a c x y 1) ≤ a * (x * x) + c * (y * y) := by
  have h := sct_energy (A := fun t => if t = 0 then a else c) (F := fun t => if t = 0 then x else y) (n := 2) (by omega) (by omega) (fun j hj => by rcases (show j = 0 ∨ j = 1 by omega) with rfl | rfl <;> simp <;> omega) (fun j hj => by rcases (show j = 0 ∨ j = 1 by omega) with rfl | rfl <;> simp <;> omega)
  unfold enS at h
  simp only [sm, if_true, Nat.zero_add, show ¬ (1 = 0) by omega, if_false, Int.zero_add] at h
  exact h
theorem sc3_le {a c e x y z : Int} (ha : 1 ≤ a ∧ a ≤ 1000) (hc : 1 ≤ c ∧ c ≤ 1000) (he : 1 ≤ e ∧ e ≤ 1000) (hx : -1073741824 ≤ x ∧ x ≤ 1073741824) (hy : -1073741824 ≤ y ∧ y ≤ 1073741824) (hz : -1073741824 ≤ z ∧ z ≤ 1073741824) :
    a * (sc3 a c e x y z 0 * sc3 a c e x y z 0) + c * (sc3 a c e x y z 1 * sc3 a c e x y z 1) + e * (sc3 a c e x y z 2 * sc3 a c e x y z 2) ≤ a * (x * x) + c * (y * y) + e * (z * z) := by
  have h := sct_energy (A := fun t => if t = 0 then a else if t = 1 then c else e) (F := fun t => if t = 0 then x else if t = 1 then y else z) (n := 3) (by omega) (by omega) (fun j hj => by rcases (show j = 0 ∨ j = 1 ∨ j = 2 by omega) with rfl | rfl | rfl <;> simp <;> omega) (fun j hj => by rcases (show j = 0 ∨ j = 1 ∨ j = 2 by omega) with rfl | rfl | rfl <;> simp <;> omega)
  unfold enS at h
  simp only [sm, if_true, Nat.zero_add, show ¬ (1 = 0) by omega, show ¬ (2 = 0) by omega, show ¬ (2 = 1) by omega, if_false, Int.zero_add, Nat.reduceAdd] at h
  exact h
/-- A STEP DOES NOT RAISE THE ENERGY. -/
theorem next_energy {A : Nat → Int} {n b j : Nat} {g li no : Int} {oo on : Nat} {G H : Nat → Int} (hx : NextIs A n b j g li no oo on G H) (hn : 1 ≤ n) (hj : 0 < b → j < n - 1) (hA : ∀ i, i < n + b → 1 ≤ A i ∧ A i ≤ 1000) (hg : 0 ≤ g ∧ g ≤ 99) (hl : 0 ≤ li ∧ li ≤ 99) (ho : 0 ≤ no ∧ no ≤ 99) (hG : ∀ i, i < 2 * (n + b) → -1073741824 ≤ G (oo + i) ∧ G (oo + i) ≤ 1073741824) :
    en A H on (n + b) ≤ en A G oo (n + b) := by
  obtain ⟨m, rfl⟩ : ∃ m, n = m + 1 := ⟨n - 1, by omega⟩
  have e1 : ∀ (K : Nat → Int) (o : Nat), en A K o (m + 1) = A 0 * (K (o + 0 * 2) * K (o + 0 * 2)) + sm (fun k => A k * (K (o + k * 2 + 1) * K (o + k * 2 + 1)) + A (k + 1) * (K (o + (k + 1) * 2) * K (o + (k + 1) * 2))) m + A m * (K (o + m * 2 + 1) * K (o + m * 2 + 1)) := fun K o => by
    have := sm_chain (fun i => A i * (K (o + i * 2 + 1) * K (o + i * 2 + 1))) (fun i => A i * (K (o + i * 2) * K (o + i * 2))) m
    rw [← this]
    exact sm_congr fun i _ => by omega
  have e2 : ∀ (K : Nat → Int) (o : Nat), en A K o (m + 1) = A 0 * (K (o + 0 * 2 + 1) * K (o + 0 * 2 + 1)) + sm (fun k => A k * (K (o + k * 2) * K (o + k * 2)) + A (k + 1) * (K (o + (k + 1) * 2 + 1) * K (o + (k + 1) * 2 + 1))) m + A m * (K (o + m * 2) * K (o + m * 2)) := fun K o =>
    sm_chain (fun i => A i * (K (o + i * 2) * K (o + i * 2))) (fun i => A i * (K (o + i * 2 + 1) * K (o + i * 2 + 1))) m
  have hA0 := hA 0 (by omega)
  have hAm := hA m (by omega)
  have g0 := (thr_le (p := g) (x := G (oo + 1)) (by omega) (hG 1 (by omega))).2
  have gm := (thr_le (p := -li) (x := G (oo + m * 2)) (by omega) (hG (m * 2) (by omega))).2
  rw [← hx.glo] at g0
  have hlip := hx.lip
  rw [show m + 1 - 1 = m by omega] at hlip
  rw [← hlip] at gm
  have k0 := Int.mul_le_mul_of_nonneg_left g0 (show 0 ≤ A 0 by omega)
  have km := Int.mul_le_mul_of_nonneg_left gm (show 0 ≤ A m by omega)
  have pair : ∀ k, k < m → ¬ (k = j ∧ 0 < b) → A k * (H (on + k * 2 + 1) * H (on + k * 2 + 1)) + A (k + 1) * (H (on + (k + 1) * 2) * H (on + (k + 1) * 2)) ≤ A k * (G (oo + k * 2) * G (oo + k * 2)) + A (k + 1) * (G (oo + (k + 1) * 2 + 1) * G (oo + (k + 1) * 2 + 1)) := fun k hk hkj => by
    obtain ⟨q1, q2⟩ := hx.mid k (by omega) hkj
    rw [q1, q2]
    exact sc2_le (hA k (by omega)) (hA (k + 1) (by omega)) (hG (k * 2) (by omega)) (by have := hG ((k + 1) * 2 + 1) (by omega); rwa [← Nat.add_assoc] at this)
  have sp : ∀ (K : Nat → Int) (o : Nat), en A K o (m + 1 + b) = en A K o (m + 1) + sm (fun i => A (m + 1 + i) * (K (o + (m + 1 + i) * 2) * K (o + (m + 1 + i) * 2)) + A (m + 1 + i) * (K (o + (m + 1 + i) * 2 + 1) * K (o + (m + 1 + i) * 2 + 1))) b := fun K o => sm_split (fun i => A i * (K (o + i * 2) * K (o + i * 2)) + A i * (K (o + i * 2 + 1) * K (o + i * 2 + 1))) (m + 1) b
  rw [sp, sp, e1 H on, e2 G oo]
  by_cases hb : 0 < b
  · obtain ⟨c, rfl⟩ : ∃ c, b = c + 1 := ⟨b - 1, by omega⟩
    have hjm := hj hb
    obtain ⟨f1, f2, f3⟩ := hx.fork hb
    have fk := sc3_le (hA j (by omega)) (hA (j + 1) (by omega)) (hA (m + 1) (by omega)) (hG (j * 2) (by omega)) (by have := hG ((j + 1) * 2 + 1) (by omega); rwa [← Nat.add_assoc] at this) (by have := hG ((m + 1) * 2 + 1) (by omega); rwa [← Nat.add_assoc] at this)
    rw [← f1, ← f2, ← f3] at fk
    obtain ⟨d, hd⟩ : ∃ d, A (m + 1) * (G (oo + (m + 1) * 2 + 1) * G (oo + (m + 1) * 2 + 1)) - A (m + 1) * (H (on + (m + 1) * 2) * H (on + (m + 1) * 2)) = d := ⟨_, rfl⟩
    have hsum := sm_le (n := m) (g := fun k => A k * (H (on + k * 2 + 1) * H (on + k * 2 + 1)) + A (k + 1) * (H (on + (k + 1) * 2) * H (on + (k + 1) * 2))) (h := fun k => (A k * (G (oo + k * 2) * G (oo + k * 2)) + A (k + 1) * (G (oo + (k + 1) * 2 + 1) * G (oo + (k + 1) * 2 + 1))) + (if k = j then d else 0)) (fun k hk => by
      by_cases e : k = j
      · subst e
        rw [if_pos rfl]
        omega
      · rw [if_neg e]
        have := pair k hk (by omega)
        omega)
    rw [sm_add (fun k => A k * (G (oo + k * 2) * G (oo + k * 2)) + A (k + 1) * (G (oo + (k + 1) * 2 + 1) * G (oo + (k + 1) * 2 + 1))) (fun k => if k = j then d else 0), sm_ite d j m (by omega)] at hsum
    -- the branch
    have b1 := sm_chain (fun i => A (m + 1 + i) * (H (on + (m + 1 + i) * 2 + 1) * H (on + (m + 1 + i) * 2 + 1))) (fun i => A (m + 1 + i) * (H (on + (m + 1 + i) * 2) * H (on + (m + 1 + i) * 2))) c
    have b2 := sm_chain (fun i => A (m + 1 + i) * (G (oo + (m + 1 + i) * 2) * G (oo + (m + 1 + i) * 2))) (fun i => A (m + 1 + i) * (G (oo + (m + 1 + i) * 2 + 1) * G (oo + (m + 1 + i) * 2 + 1))) c
    have b3 : sm (fun i => A (m + 1 + i) * (H (on + (m + 1 + i) * 2) * H (on + (m + 1 + i) * 2)) + A (m + 1 + i) * (H (on + (m + 1 + i) * 2 + 1) * H (on + (m + 1 + i) * 2 + 1))) (c + 1) = sm (fun s => A (m + 1 + s) * (H (on + (m + 1 + s) * 2 + 1) * H (on + (m + 1 + s) * 2 + 1)) + A (m + 1 + s) * (H (on + (m + 1 + s) * 2) * H (on + (m + 1 + s) * 2))) (c + 1) := sm_congr fun i _ => by omega
    have hno := hx.nos hb
    have go := (thr_le (p := -no) (x := G (oo + (m + 1 - 1 + (c + 1)) * 2)) (by omega) (hG ((m + 1 - 1 + (c + 1)) * 2) (by omega))).2
    rw [← hno] at go
    rw [show m + 1 - 1 + (c + 1) = m + 1 + c by omega] at go
    have ko := Int.mul_le_mul_of_nonneg_left go (show 0 ≤ A (m + 1 + c) by have := hA (m + 1 + c) (by omega); omega)
    have bsum := sm_le (n := c) (g := fun k => A (m + 1 + k) * (H (on + (m + 1 + k) * 2 + 1) * H (on + (m + 1 + k) * 2 + 1)) + A (m + 1 + (k + 1)) * (H (on + (m + 1 + (k + 1)) * 2) * H (on + (m + 1 + (k + 1)) * 2))) (h := fun k => A (m + 1 + k) * (G (oo + (m + 1 + k) * 2) * G (oo + (m + 1 + k) * 2)) + A (m + 1 + (k + 1)) * (G (oo + (m + 1 + (k + 1)) * 2 + 1) * G (oo + (m + 1 + (k + 1)) * 2 + 1))) (fun k hk => by
      obtain ⟨q1, q2⟩ := hx.arm hb k (by omega)
      rw [q1, show m + 1 + (k + 1) = m + 1 + k + 1 by omega, q2]
      exact sc2_le (hA (m + 1 + k) (by omega)) (hA (m + 1 + k + 1) (by omega)) (hG ((m + 1 + k) * 2) (by omega)) (by have := hG ((m + 1 + k + 1) * 2 + 1) (by omega); rwa [← Nat.add_assoc] at this))
    simp only [Nat.add_zero] at b1 b2
    rw [b3, b1, b2]
    simp only [Nat.zero_mul, Nat.add_zero, Nat.zero_add]
    omega
  · obtain rfl : b = 0 := by omega
    have hsum := sm_le (n := m) (fun k hk => pair k hk (by omega))
    simp only [Nat.zero_mul, Nat.add_zero, Nat.zero_add, sm]
    omega
end Go.Proofs.Ytbmbcbknoflpgaa
