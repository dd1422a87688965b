/- Maths: all waves turned. -/
import Derived.Test.YtbmbcbknoflpgaaP4
set_option linter.unusedSimpArgs false
set_option linter.unusedVariables false
namespace Go.Proofs.Ytbmbcbknoflpgaa
open Go.RowKit

def ng (f : Nat → Int) : Nat → Int := fun q => -f q
def ngF (x : Fd) : Fd := ⟨x.sec, -x.amt⟩
theorem jPut_neg {V V' : Nat → Int} (l : List (Nat × Nat)) (on : Nat) (G : Nat → Int) : ∀ k, (∀ i, i < k → V' i = -V i) → jPut V' l on k (ng G) = ng (jPut V l on k G) := by
  intro k
  induction k with
  | zero => intro _; rfl
  | succ k ih =>
    intro h
    show upd (jPut V' l on k (ng G)) _ (V' k) = _
    rw [ih (fun i hi => h i (by omega)), h k (by omega)]
    funext q
    show (if q = _ then _ else ng _ q) = -(if q = _ then _ else _)
    split <;> rfl
theorem thr_neg {p x : Int} (hp : -99 ≤ p ∧ p ≤ 99) (hx : -1073741824 ≤ x ∧ x ≤ 1073741824) : thr p (-x) = -thr p x := by
  rw [(thr_le hp hx).1, (thr_le hp (x := -x) (by omega)).1, Int.mul_neg, Int.neg_tdiv]
/-- What is asked of a place's percents. -/
def pctOk : Plc → Prop
  | .fin _ _ c => -99 ≤ c ∧ c ≤ 99
  | .jnt _ => True
theorem meet_neg {A : Nat → Int} {oo on n : Nat} {p : Plc} {G : Nat → Int} (hp : plcOk n p) (hc : pctOk p) (hA : ∀ i, i < n → 1 ≤ A i ∧ A i ≤ 1000) (hG : ∀ i, i < 2 * n → -1073741824 ≤ G (oo + i) ∧ G (oo + i) ≤ 1073741824) : meetA A oo on p (ng G) = ng (meetA A oo on p G) := by
  cases p with
  | fin s d c =>
    funext q
    show (if q = _ then thr c (-G (oo + s * 2 + d)) else ng G q) = -(if q = _ then thr c (G (oo + s * 2 + d)) else G q)
    rw [Nat.add_assoc oo, thr_neg hc (hG _ (by have := hp.1; have := hp.2; omega))]
    split <;> rfl
  | jnt l =>
    refine jPut_neg l on G l.length fun i hi => ?_
    exact sct_neg (A := jA A l) (F := jF (fun i => G (oo + i)) l) hp.1 (by have := hp.2.1; omega) (fun j hj => hA _ (hp.2.2 j hj).1) (fun j hj => hG _ (by have := hp.2.2 j hj; omega)) i hi
theorem meets_neg {A : Nat → Int} {oo on n : Nat} {G : Nat → Int} (hd : oo + 2 * n ≤ on ∨ on + 2 * n ≤ oo) (hA : ∀ i, i < n → 1 ≤ A i ∧ A i ≤ 1000) (hG : ∀ i, i < 2 * n → -1073741824 ≤ G (oo + i) ∧ G (oo + i) ≤ 1073741824) (ps : List Plc) : (∀ p ∈ ps, plcOk n p ∧ pctOk p) → meetsA A oo on ps (ng G) = ng (meetsA A oo on ps G) := by
  refine snoc_ind (P := fun ps => (∀ p ∈ ps, plcOk n p ∧ pctOk p) → meetsA A oo on ps (ng G) = ng (meetsA A oo on ps G)) (fun _ => rfl) (fun l x ih h => ?_) ps
  have hl : ∀ p ∈ l, plcOk n p ∧ pctOk p := fun p hp => h p (List.mem_append_left _ hp)
  have hx := h x (List.mem_append_right _ (List.mem_singleton.2 rfl))
  rw [meetsA_snoc, meetsA_snoc, ih hl]
  exact meet_neg hx.1 hx.2 hA (fun i hi => by rw [meets_old A oo on n hd G i hi l (fun p hp => (hl p hp).1)]; exact hG i hi)
theorem shp_pct {s : Shp} (h : shpOk s = true) : ∀ p ∈ shpPlaces s, pctOk p := by
  obtain ⟨p1, p2, p3, p4, p5, p6, p7⟩ := shp_parts h
  have hmo := shp_most s
  intro p hp
  unfold shpPlaces at hp
  rcases mem_places.1 hp with rfl | rfl | ⟨k, _, rfl⟩ | ⟨_, k, _, rfl⟩ | ⟨_, rfl⟩
  · exact ⟨by omega, by omega⟩
  · exact ⟨by omega, by omega⟩
  · unfold plcMid; trivial
  · unfold plcEnd; trivial
  · exact ⟨by omega, by omega⟩
theorem stp_neg {s : Shp} (h : shpOk s = true) {al : List Int} (hl : al.length = s.areas.length + s.branch.length) (ha : ∀ j, j < al.length → 1 ≤ al.getD j 0 ∧ al.getD j 0 ≤ 1000) {st : Nat} {f : Nat → Int} (hE : enT al st f ≤ 1000000000000) : stpF al (shpPlaces s) st (ng f) = ng (stpF al (shpPlaces s) st f) := by
  have hp := (shp_tube h).plc
  rw [List.length_append, ← hl] at hp
  exact meets_neg (n := al.length) (by rcases offO_alt al.length st with h | h <;> omega) (fun i hi => ha i hi) (fun i hi => by have := wave_in (A := fun i => al.getD i 0) ha hE (i := i) hi; omega) _ (fun p hpp => ⟨hp p hpp, shp_pct h p hpp⟩)
theorem feed_neg {on : Nat} {x : Fd} {H : Nat → Int} (hw : -1000000000 ≤ H (on + x.sec.toNat * 2) ∧ H (on + x.sec.toNat * 2) ≤ 1000000000) (hv : -500 ≤ x.amt ∧ x.amt ≤ 500) : feedA on (ng H) (ngF x) = ng (feedA on H x) := by
  funext q
  show (if q = on + x.sec.toNat * 2 then wrap64 (-H (on + x.sec.toNat * 2) + -x.amt) else ng H q) = -(if q = on + x.sec.toNat * 2 then wrap64 (H (on + x.sec.toNat * 2) + x.amt) else H q)
  rw [w64_r (by omega), w64_r (by omega)]
  split
  · omega
  · rfl
theorem feeds_neg {A : Nat → Int} {on n : Nat} (hA : ∀ i, i < n → 1 ≤ A i ∧ A i ≤ 1000) : ∀ (l : List Fd) (P : Int) (H : Nat → Int), (∀ x ∈ l, 0 ≤ x.sec ∧ x.sec < n ∧ -500 ≤ x.amt ∧ x.amt ≤ 500) → 0 ≤ P → P + fdSum l ≤ 30000 → en A H on n ≤ P * P * 1000 → feedsA on (l.map ngF) (ng H) = ng (feedsA on l H) := by
  intro l
  induction l with
  | nil => intro P H _ _ _ _; rfl
  | cons x l ih =>
    intro P H hl hP hs hE
    obtain ⟨h1, h2, h3, h4⟩ := hl x (List.mem_cons_self)
    have hsum : fdSum (x :: l) = x.amt.natAbs + fdSum l := by simp [fdSum]
    rw [hsum] at hs
    have hPP := Int.mul_le_mul (show P ≤ 30000 by omega) (show P ≤ 30000 by omega) hP (by omega)
    have hw := wave_in hA (Int.le_trans hE (by omega)) (i := x.sec.toNat * 2) (by omega)
    show feedsA on (l.map ngF) (feedA on (ng H) (ngF x)) = ng (feedsA on l (feedA on H x))
    rw [feed_neg (by omega) ⟨h3, h4⟩]
    obtain ⟨sx, v⟩ := x
    simp only at h1 h2 h3 h4 hs ⊢
    obtain ⟨s, rfl⟩ : ∃ s : Nat, sx = (s : Int) := ⟨sx.toNat, by omega⟩
    have hf := feed_le hA (s := s) (v := v) (by omega) ⟨h3, h4⟩ ⟨hP, by omega⟩ ⟨(hA s (by omega)).2, Int.le_refl _⟩ hE
    exact ih (P + v.natAbs) (feedA on H ⟨(s : Int), v⟩) (fun y hy => hl y (List.mem_cons_of_mem _ hy)) (by omega) (by omega) hf
theorem fdSum_neg : ∀ l : List Fd, fdSum (l.map ngF) = fdSum l := by
  intro l
  induction l with
  | nil => rfl
  | cons x l ih =>
    have e1 : fdSum (x :: l) = x.amt.natAbs + fdSum l := by simp [fdSum]
    have e2 : fdSum ((x :: l).map ngF) = (ngF x).amt.natAbs + fdSum (l.map ngF) := by simp [fdSum]
    rw [e1, e2, ih]
    simp [ngF]
theorem fdGood_neg {n : Int} {l : List Fd} (h : fdGood n l) : fdGood n (l.map ngF) := by
  refine ⟨fun f hf => ?_, ?_⟩
  · obtain ⟨x, hx, rfl⟩ := List.mem_map.1 hf
    have := h.1 x hx
    simp only [ngF]
    omega
  · rw [List.map_map]
    exact h.2
theorem ngF_ngF (l : List Fd) : (l.map ngF).map ngF = l := by
  rw [List.map_map]
  conv => rhs; rw [← List.map_id l]
  exact List.map_congr_left fun x _ => by obtain ⟨a, b⟩ := x; simp [ngF]
theorem fdOk_neg (n : Int) (l : List Fd) : fdOk n (l.map ngF) = fdOk n l := by
  have e : fdGood n (l.map ngF) ↔ fdGood n l := ⟨fun h => by have := fdGood_neg h; rwa [ngF_ngF] at this, fdGood_neg⟩
  unfold fdOk
  rw [fdSum_neg]
  simp only [e]
theorem en_neg (A G : Nat → Int) (o n : Nat) : en A (ng G) o n = en A G o n :=
  sm_congr fun j _ => by simp only [ng, Int.neg_mul_neg]
/-- A STEP OF TURNED WAVES. -/
theorem go_neg {s : Shp} (h : shpOk s = true) {al : List Int} (hl : al.length = s.areas.length + s.branch.length) (ha : ∀ j, j < al.length → 1 ≤ al.getD j 0 ∧ al.getD j 0 ≤ 1000) {st : Nat} {f : Nat → Int} {P : Int} {fl : List Fd} (hf : fdOk s.areas.length fl = true) (hP : 0 ≤ P) (hs : P + fdSum fl ≤ 30000) (hE : enT al st f ≤ P * P * 1000) :
    nxtF al (shpPlaces s) st (fl.map ngF) (ng f) = ng (nxtF al (shpPlaces s) st fl f) ∧
    lipF al s.areas.length (shpPlaces s) st (ng f) = -lipF al s.areas.length (shpPlaces s) st f ∧
    nosF al s.areas.length (shpPlaces s) st (ng f) = -nosF al s.areas.length (shpPlaces s) st f ∧
    (-4000000 ≤ lipF al s.areas.length (shpPlaces s) st f ∧ lipF al s.areas.length (shpPlaces s) st f ≤ 4000000) ∧ (-4000000 ≤ nosF al s.areas.length (shpPlaces s) st f ∧ nosF al s.areas.length (shpPlaces s) st f ≤ 4000000) := by
  have hg := (fdOk_parts hf).1.1
  have h30 : P * P * 1000 ≤ 1000000000000 := by
    have h1 := Int.mul_le_mul (show P ≤ 30000 by omega) (show P ≤ 30000 by omega) hP (by omega)
    omega
  have hE2 := Int.le_trans hE h30
  have h1 := step_energy h hl ha hE2
  have hsn := stp_neg h hl ha hE2
  have hn := (shp_parts h).1
  have hx := shp_next h al hl st f
  have wo := fun i (hi : i < 2 * al.length) => wave_in (A := fun i => al.getD i 0) ha hE2 (i := i) hi
  have wn := fun i (hi : i < 2 * al.length) => wave_in (A := fun i => al.getD i 0) ha (Int.le_trans h1 hE2) (i := i) hi
  obtain ⟨H, hH⟩ : ∃ H, stpF al (shpPlaces s) st f = H := ⟨_, rfl⟩
  have hold : ∀ i, i < 2 * al.length → H (offO al.length st + i) = f (offO al.length st + i) := fun i hi => by rw [← hH]; exact hx.old i (by omega)
  have e1 : nxtF al (shpPlaces s) st (fl.map ngF) (ng f) = ng (nxtF al (shpPlaces s) st fl f) := by
    unfold nxtF
    rw [hsn]
    exact feeds_neg ha fl P _ (fun x hx => by have := hg x hx; omega) hP hs (Int.le_trans h1 hE)
  have key : ∀ k, k < al.length → wrap64 (ng H (offO al.length st + k * 2) + ng H (offO al.length (st + 1) + k * 2 + 1)) = -wrap64 (H (offO al.length st + k * 2) + H (offO al.length (st + 1) + k * 2 + 1)) ∧ -4000000 ≤ wrap64 (H (offO al.length st + k * 2) + H (offO al.length (st + 1) + k * 2 + 1)) ∧ wrap64 (H (offO al.length st + k * 2) + H (offO al.length (st + 1) + k * 2 + 1)) ≤ 4000000 := fun k hk => by
    have q1 := wo (k * 2) (by omega)
    have q2 := wn (k * 2 + 1) (by omega)
    rw [← hold _ (by omega)] at q1
    rw [hH, ← Nat.add_assoc] at q2
    unfold ng
    rw [w64_r (by omega), w64_r (by omega)]
    omega
  have k1 := key (s.areas.length - 1) (by omega)
  refine ⟨e1, ?_, ?_, ?_, ?_⟩
  · unfold lipF heardL
    rw [hsn, hH]
    exact k1.1
  · unfold nosF noseL
    rw [hsn, hH]
    by_cases hm : s.areas.length < al.length
    · rw [if_pos hm, if_pos hm]
      exact (key (al.length - 1) (by omega)).1
    · rw [if_neg hm, if_neg hm]
      rfl
  · unfold lipF heardL
    rw [hH]
    exact k1.2
  · unfold nosF noseL
    rw [hH]
    by_cases hm : s.areas.length < al.length
    · rw [if_pos hm]
      exact (key (al.length - 1) (by omega)).2
    · rw [if_neg hm]
      omega
end Go.Proofs.Ytbmbcbknoflpgaa
