/- Maths: what feeds add to the energy; the energy of a tube of a shape. -/
import Derived.Test.YtbmbcbknoflpgaaP3
set_option linter.unusedSimpArgs false
set_option linter.unusedVariables false
namespace Go.Proofs.Ytbmbcbknoflpgaa
open Go.RowKit

theorem sm_upd {g h : Nat → Int} {s : Nat} : ∀ {n : Nat}, (∀ j, j < n → j ≠ s → g j = h j) → s < n → sm g n = sm h n + (g s - h s) := by
  intro n
  induction n with
  | zero => intro _ h; omega
  | succ n ih =>
    intro hj hs
    show sm g n + g n = sm h n + h n + (g s - h s)
    by_cases e : n = s
    · subst e
      rw [sm_congr (g := g) (h := h) fun j hj2 => hj j (by omega) (by omega)]
      omega
    · rw [ih (fun j h1 h2 => hj j (by omega) h2) (by omega), hj n (by omega) e]
      omega
theorem sm_term {g : Nat → Int} {n : Nat} (h : ∀ j, j < n → 0 ≤ g j) {s : Nat} (hs : s < n) : g s ≤ sm g n := by
  have h1 := sm_upd (g := g) (h := fun j => if j = s then 0 else g j) (s := s) (n := n) (fun j _ e => by simp [e]) hs
  have h2 := sm_nonneg (g := fun j => if j = s then 0 else g j) (n := n) (fun j hj => by
    by_cases e : j = s
    · simp [e]
    · simp only [e, if_false]; exact h j hj)
  simp at h1
  omega
theorem abs_of_sq {u q : Int} (hq : 0 ≤ q) (h : u * u ≤ q * q) : -q ≤ u ∧ u ≤ q := by
  constructor
  · by_cases h1 : -q ≤ u
    · exact h1
    · exfalso
      have := Int.mul_le_mul (show q + 1 ≤ -u by omega) (show q + 1 ≤ -u by omega) (by omega) (by omega)
      rw [Int.neg_mul_neg] at this
      have e : (q + 1) * (q + 1) = q * q + 2 * q + 1 := by grind
      rw [e] at this
      omega
  · by_cases h1 : u ≤ q
    · exact h1
    · exfalso
      have := Int.mul_le_mul (show q + 1 ≤ u by omega) (show q + 1 ≤ u by omega) (by omega) (by omega)
      have e : (q + 1) * (q + 1) = q * q + 2 * q + 1 := by grind
      rw [e] at this
      omega
theorem en_term {A G : Nat → Int} {o n : Nat} (hA : ∀ i, i < n → 1 ≤ A i ∧ A i ≤ 1000) {i : Nat} (hi : i < n) : A i * (G (o + i * 2) * G (o + i * 2)) ≤ en A G o n ∧ A i * (G (o + i * 2 + 1) * G (o + i * 2 + 1)) ≤ en A G o n := by
  have p := fun (j : Nat) (hj : j < n) (x : Int) => Int.mul_nonneg (show 0 ≤ A j by have := hA j hj; omega) (sq_nonneg x)
  have h := sm_term (g := fun i => A i * (G (o + i * 2) * G (o + i * 2)) + A i * (G (o + i * 2 + 1) * G (o + i * 2 + 1))) (n := n) (fun j hj => by have := p j hj (G (o + j * 2)); have := p j hj (G (o + j * 2 + 1)); omega) hi
  have h1 := p i hi (G (o + i * 2))
  have h2 := p i hi (G (o + i * 2 + 1))
  unfold en
  (try simp only at h)
  omega
theorem en_nonneg {A G : Nat → Int} {o n : Nat} (hA : ∀ i, i < n → 1 ≤ A i ∧ A i ≤ 1000) : 0 ≤ en A G o n :=
  sm_nonneg fun j hj => by
    have h1 := Int.mul_nonneg (show 0 ≤ A j by have := hA j hj; omega) (sq_nonneg (G (o + j * 2)))
    have h2 := Int.mul_nonneg (show 0 ≤ A j by have := hA j hj; omega) (sq_nonneg (G (o + j * 2 + 1)))
    omega
/-- Waves of bounded energy are bounded. -/
theorem wave_in {A G : Nat → Int} {o n : Nat} (hA : ∀ i, i < n → 1 ≤ A i ∧ A i ≤ 1000) (hE : en A G o n ≤ 1000000000000) {i : Nat} (hi : i < 2 * n) : -1000000 ≤ G (o + i) ∧ G (o + i) ≤ 1000000 := by
  have key : ∀ (a x : Int), 1 ≤ a → a * (x * x) ≤ 1000000000000 → -1000000 ≤ x ∧ x ≤ 1000000 := fun a x ha h => by
    have h1 := Int.mul_le_mul_of_nonneg_right ha (sq_nonneg x)
    exact abs_of_sq (by omega) (by omega)
  by_cases e : i % 2 = 0
  · obtain ⟨k, rfl⟩ : ∃ k, i = k * 2 := ⟨i / 2, by omega⟩
    exact key _ _ (hA k (by omega)).1 (Int.le_trans (en_term hA (by omega)).1 hE)
  · obtain ⟨k, rfl⟩ : ∃ k, i = k * 2 + 1 := ⟨i / 2, by omega⟩
    rw [← Nat.add_assoc]
    exact key _ _ (hA k (by omega)).1 (Int.le_trans (en_term hA (by omega)).2 hE)
/-- A feed, exactly. -/
theorem feed_exact {A H : Nat → Int} {on n s : Nat} {v : Int} (hs : s < n) (hw : -1000000000 ≤ H (on + s * 2) ∧ H (on + s * 2) ≤ 1000000000) (hv : -500 ≤ v ∧ v ≤ 500) :
    en A (feedA on H ⟨(s : Int), v⟩) on n = en A H on n + (2 * (A s * H (on + s * 2)) * v + A s * (v * v)) := by
  have hf : ∀ q, feedA on H ⟨(s : Int), v⟩ q = if q = on + s * 2 then H (on + s * 2) + v else H q := fun q => by
    unfold feedA upd
    simp only [Int.toNat_natCast]
    rw [w64_r (by omega)]
  have h := sm_upd (g := fun i => A i * (feedA on H ⟨(s : Int), v⟩ (on + i * 2) * feedA on H ⟨(s : Int), v⟩ (on + i * 2)) + A i * (feedA on H ⟨(s : Int), v⟩ (on + i * 2 + 1) * feedA on H ⟨(s : Int), v⟩ (on + i * 2 + 1))) (h := fun i => A i * (H (on + i * 2) * H (on + i * 2)) + A i * (H (on + i * 2 + 1) * H (on + i * 2 + 1))) (s := s) (n := n) (fun j hj e => by
    simp only [hf]
    rw [if_neg (by omega), if_neg (by omega)]) hs
  unfold en
  rw [h]
  simp only [hf, if_true, show ¬ (on + s * 2 + 1 = on + s * 2) by omega, if_false]
  have e : A s * ((H (on + s * 2) + v) * (H (on + s * 2) + v)) = A s * (H (on + s * 2) * H (on + s * 2)) + (2 * (A s * H (on + s * 2)) * v + A s * (v * v)) := by grind
  rw [e]
  omega
/-- A feed, bounded. -/
theorem feed_le {A H : Nat → Int} {on n s : Nat} {v P K : Int} (hA : ∀ i, i < n → 1 ≤ A i ∧ A i ≤ 1000) (hs : s < n) (hv : -500 ≤ v ∧ v ≤ 500) (hP : 0 ≤ P ∧ P ≤ 30000) (hK : A s ≤ K ∧ K ≤ 1000) (hE : en A H on n ≤ P * P * K) :
    en A (feedA on H ⟨(s : Int), v⟩) on n ≤ (P + v.natAbs) * (P + v.natAbs) * K := by
  have hPP := Int.mul_le_mul hP.2 hP.2 hP.1 (by omega)
  have hA1 := hA s hs
  have hPK := Int.mul_le_mul hPP hK.2 (by omega) (by omega)
  have hPP0 := Int.mul_nonneg hP.1 hP.1
  have hw := wave_in hA (Int.le_trans hE (by omega)) (i := s * 2) (by omega)
  rw [feed_exact hs (by omega) hv]
  have ht := (en_term (G := H) (o := on) hA hs).1
  obtain ⟨x, hx⟩ : ∃ x, H (on + s * 2) = x := ⟨_, rfl⟩
  obtain ⟨E, hEE⟩ : ∃ E, en A H on n = E := ⟨_, rfl⟩
  rw [hx] at ht ⊢
  rw [hEE] at hE ht ⊢
  obtain ⟨a, ha⟩ : ∃ a, A s = a := ⟨_, rfl⟩
  rw [ha] at ht hK hA1 ⊢
  clear hw hx hEE ha hA
  have hu : -(P * K) ≤ a * x ∧ a * x ≤ P * K := by
    refine abs_of_sq (Int.mul_nonneg hP.1 (by omega)) ?_
    have h1 := Int.mul_le_mul_of_nonneg_left (Int.le_trans ht hE) (show 0 ≤ a by omega)
    have h2 := Int.mul_le_mul_of_nonneg_right hK.1 (Int.mul_nonneg hPP0 (show 0 ≤ K by omega))
    have e1 : a * x * (a * x) = a * (a * (x * x)) := by grind
    have e2 : P * K * (P * K) = K * (P * P * K) := by grind
    rw [e1, e2]
    omega
  obtain ⟨z, hz⟩ : ∃ z : Int, (v.natAbs : Int) = z := ⟨_, rfl⟩
  have hzv : z = v ∨ z = -v := by omega
  have hz0 : 0 ≤ z := by omega
  rw [hz]
  have hb := mul_inN (A := P * K) (B := z) (a := a * x) (b := v) hu.1 hu.2 (by omega) (by omega)
  have hvv : v * v = z * z := by rcases hzv with rfl | rfl <;> grind
  have h3 := Int.mul_le_mul_of_nonneg_right hK.1 (sq_nonneg z)
  have e3 : (P + z) * (P + z) * K = P * P * K + 2 * (P * K * z) + K * (z * z) := by grind
  have e4 : 2 * (a * x) * v = 2 * (a * x * v) := by grind
  rw [e3, e4, hvv]
  omega
/-- Feeds, one after the other. -/
theorem feeds_le {A : Nat → Int} {on n : Nat} {K : Int} (hA : ∀ i, i < n → 1 ≤ A i ∧ A i ≤ 1000) : ∀ (l : List Fd) (P : Int) (H : Nat → Int), (∀ x ∈ l, (0 ≤ x.sec ∧ x.sec < n ∧ -500 ≤ x.amt ∧ x.amt ≤ 500) ∧ A x.sec.toNat ≤ K) → K ≤ 1000 → 0 ≤ P → P + fdSum l ≤ 30000 → en A H on n ≤ P * P * K → en A (feedsA on l H) on n ≤ (P + fdSum l) * (P + fdSum l) * K := by
  intro l
  induction l with
  | nil => intro P H _ _ _ _ h; simpa [feedsA, fdSum] using h
  | cons x l ih =>
    intro P H hl hK hP hs hE
    obtain ⟨⟨h1, h2, h3, h4⟩, h5⟩ := hl x (List.mem_cons_self)
    have hsum : fdSum (x :: l) = x.amt.natAbs + fdSum l := by simp [fdSum]
    rw [hsum] at hs ⊢
    obtain ⟨sx, v⟩ := x
    simp only at h1 h2 h3 h4 h5 hs ⊢
    obtain ⟨s, rfl⟩ : ∃ s : Nat, sx = (s : Int) := ⟨sx.toNat, by omega⟩
    rw [Int.toNat_natCast] at h5
    have hf := feed_le hA (s := s) (v := v) (by omega) ⟨h3, h4⟩ ⟨hP, by omega⟩ ⟨h5, hK⟩ hE
    have := ih (P + v.natAbs) (feedA on H ⟨(s : Int), v⟩) (fun y hy => hl y (List.mem_cons_of_mem _ hy)) hK (by omega) (by omega) hf
    have e : P + ((v.natAbs + fdSum l : Nat) : Int) = P + v.natAbs + fdSum l := by omega
    rw [e]
    exact this
theorem feeds_quiet {A : Nat → Int} {on n : Nat} : ∀ (l : List Fd) (H : Nat → Int), (∀ x ∈ l, 0 ≤ x.sec ∧ x.sec < n ∧ x.amt = 0) → (∀ i, i < n → -1000000000 ≤ H (on + i * 2) ∧ H (on + i * 2) ≤ 1000000000) → en A (feedsA on l H) on n = en A H on n := by
  intro l
  induction l with
  | nil => intro H _ _; rfl
  | cons x l ih =>
    intro H hl hw
    obtain ⟨h1, h2, h3⟩ := hl x (List.mem_cons_self)
    obtain ⟨sx, v⟩ := x
    simp only at h1 h2 h3
    subst h3
    obtain ⟨s, rfl⟩ : ∃ s : Nat, sx = (s : Int) := ⟨sx.toNat, by omega⟩
    have hq : ∀ q, q = on + s * 2 ∨ q ≠ on + s * 2 := fun q => by omega
    have hsame : ∀ q, feedA on H ⟨(s : Int), 0⟩ q = H q := fun q => by
      unfold feedA upd
      simp only [Int.toNat_natCast]
      by_cases e : q = on + s * 2
      · rw [if_pos e, e, w64_r (by have := hw s (by omega); omega)]; omega
      · rw [if_neg e]
    have hfun : feedA on H ⟨(s : Int), 0⟩ = H := funext hsame
    show en A (feedsA on l (feedA on H ⟨(s : Int), 0⟩)) on n = _
    rw [hfun]
    exact ih H (fun y hy => hl y (List.mem_cons_of_mem _ hy)) hw
theorem offO_alt (n s : Nat) : (offO n s = 0 ∧ offO n (s + 1) = 2 * n) ∨ (offO n s = 2 * n ∧ offO n (s + 1) = 0) := by
  unfold offO
  rcases (show (s % 2 = 0 ∧ (s + 1) % 2 = 1) ∨ (s % 2 = 1 ∧ (s + 1) % 2 = 0) by omega) with ⟨h, h'⟩ | ⟨h, h'⟩ <;> rw [h, h'] <;> omega
/-- What a step makes of each wave of a tube of a shape, whatever its areas are. -/
theorem shp_next {s : Shp} (h : shpOk s = true) (al : List Int) (hl : al.length = s.areas.length + s.branch.length) (st : Nat) (G : Nat → Int) :
    NextIs (fun i => al.getD i 0) s.areas.length s.branch.length s.joint.toNat s.glottis s.lips s.nose (offO al.length st) (offO al.length (st + 1)) G (stpF al (shpPlaces s) st G) := by
  have ho := shp_tube h
  obtain ⟨p1, p2, p3, p4, p5, p6, p7⟩ := shp_parts h
  have hla : s.last = if s.branch.length = 0 then 0 else (s.areas.length : Int) - 2 := rfl
  have hp := ho.plc
  rw [List.length_append] at hp
  exact step_next _ _ _ _ _ _ _ _ _ p1 (fun hb => by rw [hla, if_neg (by omega)] at p4; omega) (by rcases offO_alt al.length st with h | h <;> omega) hp G
/-- The energy of a tube. -/
def enT (al : List Int) (st : Nat) (f : Nat → Int) : Int := en (fun i => al.getD i 0) f (offO al.length st) al.length
theorem step_energy {s : Shp} (h : shpOk s = true) {al : List Int} (hl : al.length = s.areas.length + s.branch.length) (ha : ∀ j, j < al.length → 1 ≤ al.getD j 0 ∧ al.getD j 0 ≤ 1000) {st : Nat} {f : Nat → Int} (hE : enT al st f ≤ 1000000000000) : enT al (st + 1) (stpF al (shpPlaces s) st f) ≤ enT al st f := by
  obtain ⟨p1, p2, p3, p4, p5, p6, p7⟩ := shp_parts h
  have hla : s.last = if s.branch.length = 0 then 0 else (s.areas.length : Int) - 2 := rfl
  have hmo := shp_most s
  unfold enT at *
  have := next_energy (shp_next h al hl st f) p1 (fun hb => by rw [hla, if_neg (by omega)] at p4; omega) (fun i hi => ha i (by omega)) p5 p6 (by omega) (fun i hi => by have := wave_in ha hE (i := i) (by omega); omega)
  rwa [← hl] at this
/-- A STEP WITH FEEDS. -/
theorem go_energy {s : Shp} (h : shpOk s = true) {al : List Int} (hl : al.length = s.areas.length + s.branch.length) (ha : ∀ j, j < al.length → 1 ≤ al.getD j 0 ∧ al.getD j 0 ≤ 1000) {st : Nat} {f : Nat → Int} {P K : Int} {fl : List Fd} (hf : fdOk s.areas.length fl = true) (hP : 0 ≤ P) (hK : 0 ≤ K ∧ K ≤ 1000) (hKa : ∀ x ∈ fl, al.getD x.sec.toNat 0 ≤ K) (hs : P + fdSum fl ≤ 30000) (hE : enT al st f ≤ P * P * K) :
    enT al (st + 1) (nxtF al (shpPlaces s) st fl f) ≤ (P + fdSum fl) * (P + fdSum fl) * K := by
  have hg := (fdOk_parts hf).1.1
  have h30 : P * P * K ≤ 1000000000000 := by
    have h1 := Int.mul_le_mul (show P ≤ 30000 by omega) (show P ≤ 30000 by omega) hP (by omega)
    have h2 := Int.mul_le_mul h1 hK.2 hK.1 (by omega)
    omega
  have h1 := step_energy h hl ha (Int.le_trans hE h30)
  exact feeds_le ha fl P _ (fun x hx => ⟨by have := hg x hx; omega, hKa x hx⟩) hK.2 hP hs (Int.le_trans h1 hE)
theorem go_quiet {s : Shp} (h : shpOk s = true) {al : List Int} (hl : al.length = s.areas.length + s.branch.length) (ha : ∀ j, j < al.length → 1 ≤ al.getD j 0 ∧ al.getD j 0 ≤ 1000) {st : Nat} {f : Nat → Int} {fl : List Fd} (hf : fdOk s.areas.length fl = true) (hz : ∀ x ∈ fl, x.amt = 0) (hE : enT al st f ≤ 1000000000000) :
    enT al (st + 1) (nxtF al (shpPlaces s) st fl f) ≤ enT al st f := by
  have hg := (fdOk_parts hf).1.1
  have h1 := step_energy h hl ha hE
  have h2 := feeds_quiet (A := fun i => al.getD i 0) (on := offO al.length (st + 1)) (n := al.length) fl (stpF al (shpPlaces s) st f) (fun x hx => by have := hg x hx; exact ⟨this.1, by omega, hz x hx⟩) (fun i hi => by have := wave_in ha (Int.le_trans h1 hE) (i := i * 2) (by omega); omega)
  unfold enT nxtF at *
  rw [h2]
  exact h1
end Go.Proofs.Ytbmbcbknoflpgaa
