/- Maths: a tube that keeps its energy for so many steps has none. -/
import Derived.Test.YtbmbcbknoflpgaaP6
set_option linter.unusedSimpArgs false
set_option linter.unusedVariables false
namespace Go.Proofs.Ytbmbcbknoflpgaa
open Go.RowKit

/-- What is so of each step, in waves. -/
structure Spr (F B : Nat → Nat → Int) (n b j T : Nat) : Prop where
  glo : ∀ t, t < T → B t 0 = 0 ∧ F (t + 1) 0 = 0
  lip : ∀ t, t < T → F t (n - 1) = 0 ∧ B (t + 1) (n - 1) = 0
  nos : 0 < b → ∀ t, t < T → F t (n - 1 + b) = 0 ∧ B (t + 1) (n - 1 + b) = 0
  right : ∀ t, t < T → ∀ k, k < n - 1 → ¬ (k = j ∧ 0 < b) → F t k = 0 → B (t + 1) k = 0 → B t (k + 1) = 0 ∧ F (t + 1) (k + 1) = 0
  left : ∀ t, t < T → ∀ k, k < n - 1 → ¬ (k = j ∧ 0 < b) → B t (k + 1) = 0 → F (t + 1) (k + 1) = 0 → F t k = 0 ∧ B (t + 1) k = 0
  arm : 0 < b → ∀ t, t < T → ∀ i, i < b - 1 → B t (n + i + 1) = 0 → F (t + 1) (n + i + 1) = 0 → F t (n + i) = 0 ∧ B (t + 1) (n + i) = 0
theorem Spr.goR {F B : Nat → Nat → Int} {n b j T : Nat} (S : Spr F B n b j T) : ∀ k, k ≤ n - 1 → (0 < b → k ≤ j) → (∀ t, k ≤ t → t + k + 1 ≤ T → B t k = 0) ∧ (∀ t, k + 1 ≤ t → t + k ≤ T → F t k = 0) := by
  intro k
  induction k with
  | zero =>
    intro _ _
    exact ⟨fun t _ h => (S.glo t (by omega)).1, fun t h1 h2 => by
      have := (S.glo (t - 1) (by omega)).2
      rwa [show t - 1 + 1 = t by omega] at this⟩
  | succ k ih =>
    intro h1 h2
    obtain ⟨hB, hF⟩ := ih (by omega) (fun h => by have := h2 h; omega)
    have key : ∀ t, k + 1 ≤ t → t + k + 2 ≤ T → B t (k + 1) = 0 ∧ F (t + 1) (k + 1) = 0 := fun t h3 h4 => S.right t (by omega) k (by omega) (by rintro ⟨e, hb⟩; have := h2 hb; omega) (hF t h3 (by omega)) (hB (t + 1) (by omega) (by omega))
    exact ⟨fun t h3 h4 => (key t h3 (by omega)).1, fun t h3 h4 => by
      have := (key (t - 1) (by omega) (by omega)).2
      rwa [show t - 1 + 1 = t by omega] at this⟩
theorem Spr.goL {F B : Nat → Nat → Int} {n b j T : Nat} (S : Spr F B n b j T) : ∀ i, i ≤ n - 1 → (0 < b → j + 1 + i ≤ n - 1) → (∀ t, i ≤ t → t + i + 1 ≤ T → F t (n - 1 - i) = 0) ∧ (∀ t, i + 1 ≤ t → t + i ≤ T → B t (n - 1 - i) = 0) := by
  intro i
  induction i with
  | zero =>
    intro _ _
    exact ⟨fun t _ h => (S.lip t (by omega)).1, fun t h1 h2 => by
      have := (S.lip (t - 1) (by omega)).2
      rwa [show t - 1 + 1 = t by omega] at this⟩
  | succ i ih =>
    intro h1 h2
    obtain ⟨hF, hB⟩ := ih (by omega) (fun h => by have := h2 h; omega)
    have e : n - 1 - i = n - 1 - (i + 1) + 1 := by omega
    rw [e] at hF hB
    have key : ∀ t, i + 1 ≤ t → t + i + 2 ≤ T → F t (n - 1 - (i + 1)) = 0 ∧ B (t + 1) (n - 1 - (i + 1)) = 0 := fun t h3 h4 => S.left t (by omega) (n - 1 - (i + 1)) (by omega) (by rintro ⟨e, hb⟩; have := h2 hb; omega) (hB t h3 (by omega)) (hF (t + 1) (by omega) (by omega))
    exact ⟨fun t h3 h4 => (key t h3 (by omega)).1, fun t h3 h4 => by
      have := (key (t - 1) (by omega) (by omega)).2
      rwa [show t - 1 + 1 = t by omega] at this⟩
theorem Spr.goN {F B : Nat → Nat → Int} {n b j T : Nat} (S : Spr F B n b j T) (hn : 1 ≤ n) (hb : 0 < b) : ∀ i, i < b → (∀ t, i ≤ t → t + i + 1 ≤ T → F t (n - 1 + b - i) = 0) ∧ (∀ t, i + 1 ≤ t → t + i ≤ T → B t (n - 1 + b - i) = 0) := by
  intro i
  induction i with
  | zero =>
    intro _
    exact ⟨fun t _ h => (S.nos hb t (by omega)).1, fun t h1 h2 => by
      have := (S.nos hb (t - 1) (by omega)).2
      rwa [show t - 1 + 1 = t by omega] at this⟩
  | succ i ih =>
    intro h1
    obtain ⟨hF, hB⟩ := ih (by omega)
    have e : n - 1 + b - i = n + (b - 2 - i) + 1 := by omega
    have e2 : n - 1 + b - (i + 1) = n + (b - 2 - i) := by omega
    rw [e] at hF hB
    rw [e2]
    have key : ∀ t, i + 1 ≤ t → t + i + 2 ≤ T → F t (n + (b - 2 - i)) = 0 ∧ B (t + 1) (n + (b - 2 - i)) = 0 := fun t h3 h4 => S.arm hb t (by omega) (b - 2 - i) (by omega) (hB t h3 (by omega)) (hF (t + 1) (by omega) (by omega))
    exact ⟨fun t h3 h4 => (key t h3 (by omega)).1, fun t h3 h4 => by
      have := (key (t - 1) (by omega) (by omega)).2
      rwa [show t - 1 + 1 = t by omega] at this⟩
theorem Spr.zero {F B : Nat → Nat → Int} {n b j T : Nat} (S : Spr F B n b j T) (hn : 1 ≤ n) (hj : 0 < b → j < n - 1) (hT : 2 * (n + b) + 2 ≤ T) : ∀ k, k < n + b → F (n + b) k = 0 ∧ B (n + b) k = 0 := by
  intro k hk
  by_cases h1 : k < n
  · by_cases h2 : 0 < b → k ≤ j
    · have := S.goR k (by omega) h2
      exact ⟨this.2 (n + b) (by omega) (by omega), this.1 (n + b) (by omega) (by omega)⟩
    · have hb : 0 < b := by
        by_cases h : 0 < b
        · exact h
        · exact absurd (fun h' => absurd h' h) h2
      have hkj : j < k := by
        by_cases h : k ≤ j
        · exact absurd (fun _ => h) h2
        · omega
      have := S.goL (n - 1 - k) (by omega) (fun _ => by omega)
      rw [show n - 1 - (n - 1 - k) = k by omega] at this
      exact ⟨this.1 (n + b) (by omega) (by omega), this.2 (n + b) (by omega) (by omega)⟩
  · have := S.goN hn (by omega) (n - 1 + b - k) (by omega)
    rw [show n - 1 + b - (n - 1 + b - k) = k by omega] at this
    exact ⟨this.1 (n + b) (by omega) (by omega), this.2 (n + b) (by omega) (by omega)⟩
theorem en_zero {A G : Nat → Int} {o n : Nat} (h : ∀ i, i < n → G (o + i * 2) = 0 ∧ G (o + i * 2 + 1) = 0) : en A G o n = 0 := by
  unfold en
  rw [sm_congr (g := fun i => A i * (G (o + i * 2) * G (o + i * 2)) + A i * (G (o + i * 2 + 1) * G (o + i * 2 + 1))) (h := fun i => 0 * 0) fun i hi => by simp only [(h i hi).1, (h i hi).2]; omega, sm_mul 0 (fun _ => 0)]
  omega
theorem qu_le {s : Shp} (h : shpOk s = true) {al : List Int} (hl : al.length = s.areas.length + s.branch.length) (ha : ∀ j, j < al.length → 1 ≤ al.getD j 0 ∧ al.getD j 0 ≤ 1000) {st : Nat} {f : Nat → Int} (hE : enT al st f ≤ 1000000000000) : ∀ t, enT al (st + (t + 1)) (quF al (shpPlaces s) st f (t + 1)) ≤ enT al (st + t) (quF al (shpPlaces s) st f t) ∧ enT al (st + t) (quF al (shpPlaces s) st f t) ≤ enT al st f := by
  intro t
  induction t with
  | zero => exact ⟨step_energy h hl ha hE, Int.le_refl _⟩
  | succ t ih =>
    have h2 := Int.le_trans ih.1 ih.2
    exact ⟨step_energy h hl ha (Int.le_trans h2 hE), h2⟩
/-- THE THEOREM OF REST. -/
theorem rest_loses {s : Shp} (h : shpOk s = true) {al : List Int} (hl : al.length = s.areas.length + s.branch.length) (ha : ∀ j, j < al.length → 1 ≤ al.getD j 0 ∧ al.getD j 0 ≤ 1000) {st : Nat} {f : Nat → Int} (hE : enT al st f ≤ 1000000000000) {T : Nat} (hT : 2 * al.length + 2 ≤ T) (h0 : 0 < enT al st f) :
    enT al (st + T) (quF al (shpPlaces s) st f T) < enT al st f := by
  by_cases hc : enT al (st + T) (quF al (shpPlaces s) st f T) < enT al st f
  · exact hc
  exfalso
  have hq := qu_le h hl ha hE
  obtain ⟨p1, p2, p3, p4, p5, p6, p7⟩ := shp_parts h
  have hla : s.last = if s.branch.length = 0 then 0 else (s.areas.length : Int) - 2 := rfl
  have hmo := shp_most s
  have hj : 0 < s.branch.length → s.joint.toNat < s.areas.length - 1 := fun hb => by rw [hla, if_neg (by omega)] at p4; omega
  -- all energies are one
  have hdown : ∀ d t, t + d = T → enT al st f ≤ enT al (st + t) (quF al (shpPlaces s) st f t) := by
    intro d
    induction d with
    | zero =>
      intro t ht
      obtain rfl : t = T := by omega
      omega
    | succ d ih => intro t ht; exact Int.le_trans (ih (t + 1) (by omega)) (hq t).1
  have hsame : ∀ t, t < T → SameIs (fun i => al.getD i 0) s.areas.length s.branch.length s.joint.toNat (offO al.length (st + t)) (offO al.length (st + t + 1)) (quF al (shpPlaces s) st f t) (quF al (shpPlaces s) st f (t + 1)) := fun t ht => by
    have e1 := hdown (T - (t + 1)) (t + 1) (by omega)
    have e2 := (hq t).2
    have e3 := Int.le_trans e2 e1
    unfold enT at e3
    rw [hl] at e3
    have := next_same (shp_next h al hl (st + t) (quF al (shpPlaces s) st f t)) p1 hj (fun i hi => ha i (by omega)) p5 p6 (by omega) (fun i hi => by have := wave_in (A := fun i => al.getD i 0) ha (o := offO al.length (st + t)) (G := quF al (shpPlaces s) st f t) (Int.le_trans e2 hE) (i := i) (by omega); omega) (by rw [hl]; exact e3)
    exact this
  have S : Spr (fun t k => quF al (shpPlaces s) st f t (offO al.length (st + t) + k * 2)) (fun t k => quF al (shpPlaces s) st f t (offO al.length (st + t) + k * 2 + 1)) s.areas.length s.branch.length s.joint.toNat T := by
    refine ⟨fun t ht => ?_, fun t ht => (hsame t ht).lip, fun hb t ht => (hsame t ht).nos hb, fun t ht => (hsame t ht).right, fun t ht => (hsame t ht).left, fun hb t ht => (hsame t ht).arm hb⟩
    have := (hsame t ht).glo
    simpa [Nat.add_assoc] using this
  have hz := S.zero p1 hj (by omega)
  have hzero : enT al (st + al.length) (quF al (shpPlaces s) st f al.length) = 0 := en_zero fun i hi => by
    have := hz i (by omega)
    rw [← hl] at this
    exact this
  have := hdown (T - al.length) al.length (by omega)
  omega
/-- A tube without energy is silent. -/
theorem rest_silent {s : Shp} (h : shpOk s = true) {al : List Int} (hl : al.length = s.areas.length + s.branch.length) (ha : ∀ j, j < al.length → 1 ≤ al.getD j 0 ∧ al.getD j 0 ≤ 1000) {st : Nat} {f : Nat → Int} (hE : enT al st f = 0) (t : Nat) :
    enT al (st + t) (quF al (shpPlaces s) st f t) = 0 ∧ quH al s.areas.length (shpPlaces s) st f t = (0, 0) := by
  have hq := qu_le h hl ha (st := st) (f := f) (by omega)
  have hnn := fun t => en_nonneg (G := quF al (shpPlaces s) st f t) (o := offO al.length (st + t)) (n := al.length) (A := fun i => al.getD i 0) (fun i hi => ha i hi)
  have hz : ∀ t, enT al (st + t) (quF al (shpPlaces s) st f t) = 0 := fun t => by
    have h1 := (hq t).2
    have h2 := hnn t
    unfold enT at *
    omega
  have hw : ∀ t i, i < 2 * al.length → quF al (shpPlaces s) st f t (offO al.length (st + t) + i) = 0 := fun t i hi => by
    have hzt := hz t
    unfold enT at hzt
    have key : ∀ (a x : Int), 1 ≤ a → a * (x * x) ≤ 0 → x = 0 := fun a x ha h => by
      have h1 := Int.mul_le_mul_of_nonneg_right ha (sq_nonneg x)
      exact sq_zero (by omega)
    by_cases e : i % 2 = 0
    · obtain ⟨k, rfl⟩ : ∃ k, i = k * 2 := ⟨i / 2, by omega⟩
      exact key _ _ (ha k (by omega)).1 (Int.le_trans (en_term (A := fun i => al.getD i 0) (fun i hi => ha i hi) (by omega)).1 (Int.le_of_eq hzt))
    · obtain ⟨k, rfl⟩ : ∃ k, i = k * 2 + 1 := ⟨i / 2, by omega⟩
      rw [← Nat.add_assoc]
      exact key _ _ (ha k (by omega)).1 (Int.le_trans (en_term (A := fun i => al.getD i 0) (fun i hi => ha i hi) (by omega)).2 (Int.le_of_eq hzt))
  obtain ⟨p1, -⟩ := shp_parts h
  have hx := shp_next h al hl (st + t) (quF al (shpPlaces s) st f t)
  have hold : ∀ k, k < al.length → stpF al (shpPlaces s) (st + t) (quF al (shpPlaces s) st f t) (offO al.length (st + t) + k * 2) = 0 := fun k hk => by rw [hx.old _ (by omega)]; exact hw t (k * 2) (by omega)
  have hnew : ∀ k, k < al.length → stpF al (shpPlaces s) (st + t) (quF al (shpPlaces s) st f t) (offO al.length (st + t + 1) + k * 2 + 1) = 0 := fun k hk => by
    have := hw (t + 1) (k * 2 + 1) (by omega)
    rw [← Nat.add_assoc] at this
    exact this
  refine ⟨hz t, ?_⟩
  unfold quH lipF nosF heardL noseL
  rw [hold _ (by omega), hnew _ (by omega)]
  by_cases hm : s.areas.length < al.length
  · rw [if_pos hm, hold _ (by omega), hnew _ (by omega)]
    simp [wrap64]
  · rw [if_neg hm]
    simp [wrap64]
end Go.Proofs.Ytbmbcbknoflpgaa
