/- Maths: scattering keeps the energy; rounding toward zero makes it smaller. -/
import Derived.Test.YtbmbcbknoflpgaaA4
import Derived.Test.YtbmbcbknoflpgaaI3
import Derived.Test.YtbmbcbknoflpgaaOM
set_option linter.unusedSimpArgs false
set_option linter.unusedVariables false
namespace Go.Proofs.Ytbmbcbknoflpgaa
open Go.RowKit

/-- A sum of the first k numbers. -/
def sm (g : Nat → Int) : Nat → Int
  | 0 => 0
  | k + 1 => sm g k + g k
theorem sm_congr {g h : Nat → Int} {n : Nat} (e : ∀ j, j < n → g j = h j) : sm g n = sm h n := by
  induction n with
  | zero => rfl
  | succ n ih => unfold sm; rw [ih (fun j hj => e j (by omega)), e n (by omega)]
theorem sm_le {g h : Nat → Int} {n : Nat} (e : ∀ j, j < n → g j ≤ h j) : sm g n ≤ sm h n := by
  induction n with
  | zero => unfold sm; omega
  | succ n ih =>
    unfold sm
    have := ih (fun j hj => e j (by omega))
    have := e n (by omega)
    omega
theorem sm_mul (c : Int) (g : Nat → Int) (n : Nat) : sm (fun j => c * g j) n = c * sm g n := by
  induction n with
  | zero => simp [sm]
  | succ n ih => simp only [sm, ih, Int.mul_add]
theorem sm_add (g h : Nat → Int) (n : Nat) : sm (fun j => g j + h j) n = sm g n + sm h n := by
  induction n with
  | zero => simp [sm]
  | succ n ih => simp only [sm, ih]; omega
theorem sm_nonneg {g : Nat → Int} {n : Nat} (e : ∀ j, j < n → 0 ≤ g j) : 0 ≤ sm g n := by
  induction n with
  | zero => unfold sm; omega
  | succ n ih =>
    unfold sm
    have := ih (fun j hj => e j (by omega))
    have := e n (by omega)
    omega
theorem sm_sq (A F : Nat → Int) (t s : Int) (k : Nat) : sm (fun j => A j * ((t - s * F j) * (t - s * F j))) k = t * t * sm A k - t * s * sm (fun j => 2 * A j * F j) k + s * s * sm (fun j => A j * (F j * F j)) k := by
  induction k with
  | zero => simp [sm]
  | succ k ih => simp only [sm, ih]; grind
theorem sm_arS (A : Nat → Int) (k : Nat) : arS A k = sm A k := by
  induction k with
  | zero => rfl
  | succ k ih => unfold arS sm; rw [ih]
theorem sq_nonneg (x : Int) : 0 ≤ x * x := by
  rcases Int.le_total 0 x with h | h
  · exact Int.mul_nonneg h h
  · exact Int.mul_nonneg_of_nonpos_of_nonpos h h
/-- A quotient toward zero, times the divisor, is not farther from zero. -/
theorem tdiv_sq (u s : Int) (hs : 1 ≤ s) : s * s * (u.tdiv s * u.tdiv s) ≤ u * u := by
  have h1 := Int.mul_tdiv_add_tmod u s
  have aux : ∀ v : Int, 0 ≤ v → s * s * (v.tdiv s * v.tdiv s) ≤ v * v := by
    intro v hv
    rw [Int.tdiv_eq_ediv_of_nonneg hv]
    have h2 : s * (v / s) ≤ v := Int.mul_ediv_self_le (by omega)
    have h3 : 0 ≤ s * (v / s) := Int.mul_nonneg (by omega) (Int.ediv_nonneg hv (by omega))
    have h4 := Int.mul_le_mul h2 h2 h3 hv
    have h5 : s * s * (v / s * (v / s)) = s * (v / s) * (s * (v / s)) := by grind
    omega
  rcases Int.le_total 0 u with h | h
  · exact aux u h
  · have := aux (-u) (by omega)
    rw [Int.neg_tdiv] at this
    have e1 : -u.tdiv s * -u.tdiv s = u.tdiv s * u.tdiv s := by grind
    have e2 : -u * -u = u * u := by grind
    rw [e1, e2] at this
    exact this
/-- The waves that leave, exactly. -/
def sctX (A F : Nat → Int) (n i : Nat) : Int := (sm (fun j => 2 * A j * F j) n - sm A n * F i).tdiv (sm A n)
theorem sctX_energy (A F : Nat → Int) (n : Nat) (hs : 1 ≤ sm A n) (hA : ∀ j, j < n → 0 ≤ A j) : sm (fun j => A j * (sctX A F n j * sctX A F n j)) n ≤ sm (fun j => A j * (F j * F j)) n := by
  obtain ⟨s, hS⟩ : ∃ s, sm A n = s := ⟨_, rfl⟩
  obtain ⟨t, hT⟩ : ∃ t, sm (fun j => 2 * A j * F j) n = t := ⟨_, rfl⟩
  have h1 : sm (fun j => s * s * (A j * (sctX A F n j * sctX A F n j))) n ≤ sm (fun j => A j * ((t - s * F j) * (t - s * F j))) n := by
    refine sm_le fun j hj => ?_
    have h2 := tdiv_sq (t - s * F j) s (by omega)
    have h3 := Int.mul_le_mul_of_nonneg_left h2 (hA j hj)
    unfold sctX
    rw [hS, hT]
    have e : s * s * (A j * ((t - s * F j).tdiv s * (t - s * F j).tdiv s)) = A j * (s * s * ((t - s * F j).tdiv s * (t - s * F j).tdiv s)) := by grind
    rw [e]; exact h3
  rw [sm_sq A F t s n, hS, hT, sm_mul] at h1
  have e2 : t * t * s - t * s * t = 0 := by grind
  rw [e2, Int.zero_add] at h1
  rw [hS] at hs
  exact Int.le_of_mul_le_mul_left h1 (Int.mul_pos (by omega) (by omega))
end Go.Proofs.Ytbmbcbknoflpgaa
namespace Go.Proofs.Ytbmbcbknoflpgaa
open Go.RowKit

theorem sm_two {A F : Nat → Int} {n : Nat} {B : Int} (hA : ∀ j, j < n → 0 ≤ A j) (hF : ∀ j, j < n → -B ≤ F j ∧ F j ≤ B) : -(2 * B * sm A n) ≤ sm (fun j => 2 * A j * F j) n ∧ sm (fun j => 2 * A j * F j) n ≤ 2 * B * sm A n := by
  constructor
  · have h := sm_le (g := fun j => -(2 * B) * A j) (h := fun j => 2 * A j * F j) (n := n) fun j hj => by
      have h1 := Int.mul_le_mul_of_nonneg_left (hF j hj).1 (show 0 ≤ 2 * A j by have := hA j hj; omega)
      have e1 : 2 * A j * -B = -(2 * B) * A j := by grind
      rw [e1] at h1
      exact h1
    rw [sm_mul, Int.neg_mul] at h
    exact h
  · have h := sm_le (g := fun j => 2 * A j * F j) (h := fun j => 2 * B * A j) (n := n) fun j hj => by
      have h1 := Int.mul_le_mul_of_nonneg_left (hF j hj).2 (show 0 ≤ 2 * A j by have := hA j hj; omega)
      have e1 : 2 * A j * B = 2 * B * A j := by grind
      rw [e1] at h1
      exact h1
    rw [sm_mul] at h
    exact h
theorem sm_area {A : Nat → Int} {n : Nat} (hA : ∀ j, j < n → 1 ≤ A j ∧ A j ≤ 1000) (k : Nat) (hk : k ≤ n) : (k : Int) ≤ sm A k ∧ sm A k ≤ 1000 * (k : Int) := by
  rw [← sm_arS]
  exact arS_in hA k hk
theorem wv_sm {A F : Nat → Int} {n : Nat} (hn : n ≤ 10) (hA : ∀ j, j < n → 1 ≤ A j ∧ A j ≤ 1000) (hF : ∀ j, j < n → -1073741824 ≤ F j ∧ F j ≤ 1073741824) (k : Nat) (hk : k ≤ n) : wvS A F k = sm (fun j => 2 * A j * F j) k := by
  induction k with
  | zero => rfl
  | succ k ih =>
    have i1 := ih (by omega)
    have h1 := sm_two (A := A) (F := F) (n := k + 1) (B := 1073741824) (fun j hj => by have := hA j (by omega); omega) (fun j hj => hF j (by omega))
    have h0 := sm_two (A := A) (F := F) (n := k) (B := 1073741824) (fun j hj => by have := hA j (by omega); omega) (fun j hj => hF j (by omega))
    have h2 := sm_area hA (k + 1) hk
    have h3 := sm_area hA k (by omega)
    have e : sm (fun j => 2 * A j * F j) (k + 1) = sm (fun j => 2 * A j * F j) k + 2 * A k * F k := rfl
    unfold wvS
    rw [i1, e]
    rw [e] at h1
    generalize sm (fun j => 2 * A j * F j) k = t at *
    generalize 2 * A k * F k = u at *
    unfold wrap64
    omega
theorem tdiv_inS {x s c : Int} (hs : 1 ≤ s) (h1 : -(c * s) ≤ x) (h2 : x ≤ c * s) : -c ≤ x.tdiv s ∧ x.tdiv s ≤ c := by
  have aux : ∀ y : Int, 0 ≤ y → y ≤ c * s → 0 ≤ y.tdiv s ∧ y.tdiv s ≤ c := by
    intro y hy hc
    rw [Int.tdiv_eq_ediv_of_nonneg hy]
    exact ⟨Int.ediv_nonneg hy (by omega), Int.ediv_le_of_le_mul (by omega) hc⟩
  rcases Int.le_total 0 x with h | h
  · have := aux x h h2
    omega
  · have := aux (-x) (by omega) (by omega)
    rw [Int.neg_tdiv] at this
    omega
theorem sct_exact {A F : Nat → Int} {n : Nat} (hn0 : 1 ≤ n) (hn : n ≤ 10) (hA : ∀ j, j < n → 1 ≤ A j ∧ A j ≤ 1000) (hF : ∀ j, j < n → -1073741824 ≤ F j ∧ F j ≤ 1073741824) (i : Nat) (hi : i < n) :
    sct A F n i = sctX A F n i ∧ -4294967296 ≤ sct A F n i ∧ sct A F n i ≤ 4294967296 := by
  have h1 := sm_two (A := A) (F := F) (n := n) (B := 1073741824) (fun j hj => by have := hA j hj; omega) hF
  have h2 := sm_area hA n (Nat.le_refl _)
  have h3 := hF i hi
  have hs : 0 ≤ sm A n := by omega
  have h4 := Int.mul_le_mul_of_nonneg_left h3.1 hs
  have h5 := Int.mul_le_mul_of_nonneg_left h3.2 hs
  have e : sct A F n i = sctX A F n i := by
    unfold sct sctX
    rw [wv_sm hn hA hF n (Nat.le_refl _), sm_arS]
    generalize sm (fun j => 2 * A j * F j) n = t at *
    generalize sm A n = s at *
    generalize s * F i = u at *
    have e1 : wrap64 u = u := by unfold wrap64; omega
    have e2 : wrap64 (t - u) = t - u := by unfold wrap64; omega
    rw [e1, e2]
  refine ⟨e, ?_⟩
  rw [e]
  unfold sctX
  generalize sm (fun j => 2 * A j * F j) n = t at *
  generalize sm A n = s at *
  generalize s * F i = u at *
  have := tdiv_inS (x := t - u) (s := s) (c := 4294967296) (by omega) (by omega) (by omega)
  exact this
/-- The energy of a junction. -/
def enS (A F : Nat → Int) (k : Nat) : Int := sm (fun j => A j * (F j * F j)) k
theorem sct_energy {A F : Nat → Int} {n : Nat} (hn0 : 1 ≤ n) (hn : n ≤ 10) (hA : ∀ j, j < n → 1 ≤ A j ∧ A j ≤ 1000) (hF : ∀ j, j < n → -1073741824 ≤ F j ∧ F j ≤ 1073741824) : enS A (sct A F n) n ≤ enS A F n := by
  have h := sctX_energy A F n (by have := sm_area hA n (Nat.le_refl _); omega) (fun j hj => by have := hA j hj; omega)
  unfold enS
  rw [sm_congr (g := fun j => A j * (sct A F n j * sct A F n j)) (h := fun j => A j * (sctX A F n j * sctX A F n j)) fun j hj => by rw [(sct_exact hn0 hn hA hF j hj).1]]
  exact h
theorem sctX_neg (A F : Nat → Int) (n i : Nat) : sctX A (fun j => -F j) n i = -sctX A F n i := by
  unfold sctX
  have e : sm (fun j => 2 * A j * -F j) n = -sm (fun j => 2 * A j * F j) n := by
    have h := sm_mul (-1) (fun j => 2 * A j * F j) n
    rw [show -sm (fun j => 2 * A j * F j) n = -1 * sm (fun j => 2 * A j * F j) n by omega, ← h]
    exact sm_congr fun j _ => by rw [Int.mul_neg]; omega
  rw [e, ← Int.neg_tdiv, Int.mul_neg]
  congr 1
  omega
theorem sct_neg {A F : Nat → Int} {n : Nat} (hn0 : 1 ≤ n) (hn : n ≤ 10) (hA : ∀ j, j < n → 1 ≤ A j ∧ A j ≤ 1000) (hF : ∀ j, j < n → -1073741824 ≤ F j ∧ F j ≤ 1073741824) (i : Nat) (hi : i < n) : sct A (fun j => -F j) n i = -sct A F n i := by
  rw [(sct_exact hn0 hn hA hF i hi).1, (sct_exact hn0 hn hA (F := fun j => -F j) (fun j hj => by have := hF j hj; omega) i hi).1, sctX_neg]
end Go.Proofs.Ytbmbcbknoflpgaa
namespace Go.Proofs.Ytbmbcbknoflpgaa
open Go.RowKit

/-- Where a place writes. -/
def tgts (on : Nat) : Plc → List Nat
  | .fin s d _ => [on + s * 2 + (1 - d)]
  | .jnt l => l.map fun x => on + x.1 * 2 + (1 - x.2)
theorem jPut_other (V : Nat → Int) (l : List (Nat × Nat)) (on q : Nat) (G : Nat → Int) : ∀ k, (∀ i, i < k → q ≠ on + (l.getD i (0, 0)).1 * 2 + (1 - (l.getD i (0, 0)).2)) → jPut V l on k G q = G q := by
  intro k
  induction k with
  | zero => intro _; rfl
  | succ k ih =>
    intro h
    show (if q = _ then V k else jPut V l on k G q) = G q
    rw [if_neg (h k (by omega))]
    exact ih (fun i hi => h i (by omega))
theorem jPut_get (V : Nat → Int) (l : List (Nat × Nat)) (on i : Nat) (G : Nat → Int) : ∀ k, i < k → (∀ i', i < i' → i' < k → on + (l.getD i (0, 0)).1 * 2 + (1 - (l.getD i (0, 0)).2) ≠ on + (l.getD i' (0, 0)).1 * 2 + (1 - (l.getD i' (0, 0)).2)) → jPut V l on k G (on + (l.getD i (0, 0)).1 * 2 + (1 - (l.getD i (0, 0)).2)) = V i := by
  intro k
  induction k with
  | zero => intro h _; omega
  | succ k ih =>
    intro hi h
    show (if _ = _ then V k else jPut V l on k G _) = V i
    by_cases e : i = k
    · subst e; rw [if_pos rfl]
    · rw [if_neg (h k (by omega) (by omega))]
      exact ih (by omega) (fun i' h1 h2 => h i' h1 (by omega))
theorem mem_tgts_jnt {on q : Nat} {l : List (Nat × Nat)} : q ∈ tgts on (.jnt l) ↔ ∃ i, i < l.length ∧ q = on + (l.getD i (0, 0)).1 * 2 + (1 - (l.getD i (0, 0)).2) := by
  unfold tgts
  rw [List.mem_map]
  constructor
  · rintro ⟨x, hx, rfl⟩
    obtain ⟨i, hi, rfl⟩ := List.getElem_of_mem hx
    exact ⟨i, hi, by rw [gP hi]⟩
  · rintro ⟨i, hi, rfl⟩
    exact ⟨l[i], List.getElem_mem hi, by rw [gP hi]⟩
theorem meet_other (A : Nat → Int) (oo on q : Nat) (p : Plc) (G : Nat → Int) (h : q ∉ tgts on p) : meetA A oo on p G q = G q := by
  cases p with
  | fin s d c =>
    show (if q = _ then _ else G q) = G q
    rw [if_neg (by simpa [tgts] using h)]
  | jnt l =>
    exact jPut_other _ l on q G _ (fun i hi e => h (mem_tgts_jnt.2 ⟨i, hi, e⟩))
/-- What is written is read from the old state alone. -/
theorem meet_old (A : Nat → Int) (oo on n q : Nat) (p : Plc) (G H : Nat → Int) (hp : plcOk n p) (hG : ∀ i, i < 2 * n → G (oo + i) = H (oo + i)) (h : q ∈ tgts on p) : meetA A oo on p G q = meetA A oo on p H q := by
  cases p with
  | fin s d c =>
    have h1 : q = on + s * 2 + (1 - d) := by simpa [tgts] using h
    show (if q = _ then _ else G q) = (if q = _ then _ else H q)
    rw [if_pos h1, if_pos h1, Nat.add_assoc oo, hG _ (by have := hp.1; have := hp.2; omega)]
  | jnt l =>
    have e : ∀ i, i < l.length → sct (jA A l) (jF (fun i => G (oo + i)) l) l.length i = sct (jA A l) (jF (fun i => H (oo + i)) l) l.length i := fun i hi => sct_congr (fun _ _ => rfl) (fun j hj => hG _ (by have := hp.2.2 j hj; omega)) hi
    have h2 : ∀ k, k ≤ l.length → (∃ i, i < k ∧ q = on + (l.getD i (0, 0)).1 * 2 + (1 - (l.getD i (0, 0)).2)) → jPut (sct (jA A l) (jF (fun i => G (oo + i)) l) l.length) l on k G q = jPut (sct (jA A l) (jF (fun i => H (oo + i)) l) l.length) l on k H q := by
      intro k
      induction k with
      | zero => rintro _ ⟨i, hi, _⟩; omega
      | succ k ih =>
        rintro hk ⟨i, hi, hq⟩
        show (if q = _ then _ else _) = (if q = _ then _ else _)
        by_cases e2 : q = on + (l.getD k (0, 0)).1 * 2 + (1 - (l.getD k (0, 0)).2)
        · rw [if_pos e2, if_pos e2, e k (by omega)]
        · rw [if_neg e2, if_neg e2]
          exact ih (by omega) ⟨i, by
            by_cases e3 : i = k
            · subst e3; exact absurd hq e2
            · omega, hq⟩
    exact h2 _ (Nat.le_refl _) (mem_tgts_jnt.1 h)
theorem tgts_in {on n q : Nat} {p : Plc} (hp : plcOk n p) (h : q ∈ tgts on p) : on ≤ q ∧ q < on + 2 * n := by
  cases p with
  | fin s d c =>
    have h1 : q = on + s * 2 + (1 - d) := by simpa [tgts] using h
    have := hp.1
    omega
  | jnt l =>
    obtain ⟨i, hi, rfl⟩ := mem_tgts_jnt.1 h
    have := hp.2.2 i hi
    omega
theorem snoc_ind {α : Type} {P : List α → Prop} (h0 : P []) (h1 : ∀ l x, P l → P (l ++ [x])) : ∀ l, P l := by
  intro l
  rw [← List.reverse_reverse l]
  induction l.reverse with
  | nil => exact h0
  | cons x l ih => rw [List.reverse_cons]; exact h1 _ _ ih
theorem meets_old (A : Nat → Int) (oo on n : Nat) (hd : oo + 2 * n ≤ on ∨ on + 2 * n ≤ oo) (G : Nat → Int) (i : Nat) (hi : i < 2 * n) (ps : List Plc) : (∀ p ∈ ps, plcOk n p) → meetsA A oo on ps G (oo + i) = G (oo + i) := by
  refine snoc_ind (P := fun ps => (∀ p ∈ ps, plcOk n p) → meetsA A oo on ps G (oo + i) = G (oo + i)) (fun _ => rfl) (fun l x ih h => ?_) ps
  rw [meetsA_snoc, meet_other]
  · exact ih (fun p hp => h p (List.mem_append_left _ hp))
  · intro hq
    have := tgts_in (h x (List.mem_append_right _ (List.mem_singleton.2 rfl))) hq
    omega
/-- A wave that one place alone writes. -/
theorem meets_get (A : Nat → Int) (oo on n q : Nat) (hd : oo + 2 * n ≤ on ∨ on + 2 * n ≤ oo) (G : Nat → Int) (p : Plc) (hq : q ∈ tgts on p) (ps : List Plc) : (∀ p ∈ ps, plcOk n p) → p ∈ ps → (∀ p' ∈ ps, q ∈ tgts on p' → p' = p) → meetsA A oo on ps G q = meetA A oo on p G q := by
  refine snoc_ind (P := fun ps => (∀ p ∈ ps, plcOk n p) → p ∈ ps → (∀ p' ∈ ps, q ∈ tgts on p' → p' = p) → meetsA A oo on ps G q = meetA A oo on p G q) (fun _ h => by simp at h) (fun l x ih h hm hu => ?_) ps
  have hl : ∀ p ∈ l, plcOk n p := fun p hp => h p (List.mem_append_left _ hp)
  have hx : x ∈ l ++ [x] := List.mem_append_right _ (List.mem_singleton.2 rfl)
  rw [meetsA_snoc]
  by_cases e : q ∈ tgts on x
  · obtain rfl := hu x hx e
    exact meet_old A oo on n q x _ _ (h x hx) (fun i hi => meets_old A oo on n hd G i hi l hl) e
  · rw [meet_other _ _ _ _ _ _ e]
    refine ih hl ?_ (fun p' hp' => hu p' (List.mem_append_left _ hp'))
    rcases List.mem_append.1 hm with h1 | h1
    · exact h1
    · obtain rfl := List.mem_singleton.1 h1
      exact absurd hq e
theorem mem_fin {on q s d : Nat} {c : Int} : q ∈ tgts on (.fin s d c) ↔ q = on + s * 2 + (1 - d) := by simp [tgts]
theorem mem_mid {on q n b j k : Nat} : q ∈ tgts on (plcMid n b j k) ↔ q = on + k * 2 + 1 ∨ q = on + (k + 1) * 2 ∨ (k = j ∧ 0 < b ∧ q = on + n * 2) := by
  unfold plcMid tgts
  by_cases h : k = j ∧ 0 < b
  · rw [if_pos h]; simp; omega
  · rw [if_neg h]; simp; omega
theorem mem_end {on q n i : Nat} : q ∈ tgts on (plcEnd n i) ↔ q = on + (n + i) * 2 + 1 ∨ q = on + (n + i + 1) * 2 := by
  unfold plcEnd tgts
  simp
theorem mem_places {n b j : Nat} {g li no : Int} {p : Plc} : p ∈ placesL n b j g li no ↔ p = .fin 0 1 g ∨ p = .fin (n - 1) 0 (-li) ∨ (∃ k, k < n - 1 ∧ p = plcMid n b j k) ∨ (0 < b ∧ ∃ i, i < b - 1 ∧ p = plcEnd n i) ∨ (0 < b ∧ p = .fin (n - 1 + b) 0 (-no)) := by
  unfold placesL
  by_cases hb : b = 0
  · rw [if_pos hb]
    simp only [List.mem_append, List.mem_cons, List.not_mem_nil, or_false, List.mem_map, List.mem_range]
    constructor
    · rintro ((h | h) | ⟨k, h1, h2⟩)
      · exact .inl h
      · exact .inr (.inl h)
      · exact .inr (.inr (.inl ⟨k, h1, h2.symm⟩))
    · rintro (h | h | ⟨k, h1, h2⟩ | ⟨h, _⟩ | ⟨h, _⟩)
      · exact .inl (.inl h)
      · exact .inl (.inr h)
      · exact .inr ⟨k, h1, h2.symm⟩
      · omega
      · omega
  · rw [if_neg hb]
    simp only [List.mem_append, List.mem_cons, List.not_mem_nil, or_false, List.mem_map, List.mem_range]
    constructor
    · rintro (((h | h) | ⟨k, h1, h2⟩) | (⟨k, h1, h2⟩ | h))
      · exact .inl h
      · exact .inr (.inl h)
      · exact .inr (.inr (.inl ⟨k, h1, h2.symm⟩))
      · exact .inr (.inr (.inr (.inl ⟨by omega, k, h1, h2.symm⟩)))
      · exact .inr (.inr (.inr (.inr ⟨by omega, h⟩)))
    · rintro (h | h | ⟨k, h1, h2⟩ | ⟨_, k, h1, h2⟩ | ⟨_, h⟩)
      · exact .inl (.inl (.inl h))
      · exact .inl (.inl (.inr h))
      · exact .inl (.inr ⟨k, h1, h2.symm⟩)
      · exact .inr (.inl ⟨k, h1, h2.symm⟩)
      · exact .inr (.inr h)
/-- Two places of a tube that write the same wave are the same. -/
theorem place_one {n b j on q : Nat} {g li no : Int} (hn : 1 ≤ n) (hj : 0 < b → j < n - 1) {p p' : Plc} (h : p ∈ placesL n b j g li no) (h' : p' ∈ placesL n b j g li no) (hq : q ∈ tgts on p) (hq' : q ∈ tgts on p') : p' = p := by
  rw [mem_places] at h h'
  rcases h with rfl | rfl | ⟨k, hk, rfl⟩ | ⟨hb, k, hk, rfl⟩ | ⟨hb, rfl⟩ <;> rcases h' with rfl | rfl | ⟨k', hk', rfl⟩ | ⟨hb', k', hk', rfl⟩ | ⟨hb', rfl⟩ <;> simp only [mem_fin, mem_mid, mem_end] at hq hq' <;> first
    | rfl
    | (exfalso; omega)
    | (obtain rfl : k = k' := by omega
       rfl)
/-- The waves that leave a joint of two sections. -/
def sc2 (a c x y : Int) (i : Nat) : Int := sct (fun t => if t = 0 then a else c) (fun t => if t = 0 then x else y) 2 i
def sc3 (a c e x y z : Int) (i : Nat) : Int := sct (fun t => if t = 0 then a else if t = 1 then c else e) (fun t => if t = 0 then x else if t = 1 then y else z) 3 i
/-- The state H after a step from G. -/
structure NextIs (A : Nat → Int) (n b j : Nat) (g li no : Int) (oo on : Nat) (G H : Nat → Int) : Prop where
  glo : H on = thr g (G (oo + 1))
  lip : H (on + (n - 1) * 2 + 1) = thr (-li) (G (oo + (n - 1) * 2))
  mid : ∀ k, k < n - 1 → ¬ (k = j ∧ 0 < b) → H (on + k * 2 + 1) = sc2 (A k) (A (k + 1)) (G (oo + k * 2)) (G (oo + (k + 1) * 2 + 1)) 0 ∧ H (on + (k + 1) * 2) = sc2 (A k) (A (k + 1)) (G (oo + k * 2)) (G (oo + (k + 1) * 2 + 1)) 1
  fork : 0 < b → H (on + j * 2 + 1) = sc3 (A j) (A (j + 1)) (A n) (G (oo + j * 2)) (G (oo + (j + 1) * 2 + 1)) (G (oo + n * 2 + 1)) 0 ∧ H (on + (j + 1) * 2) = sc3 (A j) (A (j + 1)) (A n) (G (oo + j * 2)) (G (oo + (j + 1) * 2 + 1)) (G (oo + n * 2 + 1)) 1 ∧ H (on + n * 2) = sc3 (A j) (A (j + 1)) (A n) (G (oo + j * 2)) (G (oo + (j + 1) * 2 + 1)) (G (oo + n * 2 + 1)) 2
  arm : 0 < b → ∀ i, i < b - 1 → H (on + (n + i) * 2 + 1) = sc2 (A (n + i)) (A (n + i + 1)) (G (oo + (n + i) * 2)) (G (oo + (n + i + 1) * 2 + 1)) 0 ∧ H (on + (n + i + 1) * 2) = sc2 (A (n + i)) (A (n + i + 1)) (G (oo + (n + i) * 2)) (G (oo + (n + i + 1) * 2 + 1)) 1
  nos : 0 < b → H (on + (n - 1 + b) * 2 + 1) = thr (-no) (G (oo + (n - 1 + b) * 2))
  old : ∀ i, i < 2 * (n + b) → H (oo + i) = G (oo + i)
theorem jnt2 (A : Nat → Int) (oo on s t : Nat) (hst : s ≠ t) (G : Nat → Int) :
    meetA A oo on (.jnt [(s, 0), (t, 1)]) G (on + s * 2 + 1) = sc2 (A s) (A t) (G (oo + s * 2)) (G (oo + t * 2 + 1)) 0 ∧ meetA A oo on (.jnt [(s, 0), (t, 1)]) G (on + t * 2) = sc2 (A s) (A t) (G (oo + s * 2)) (G (oo + t * 2 + 1)) 1 := by
  have h := fun i (hi : i < 2) => jPut_get (sct (jA A [(s, 0), (t, 1)]) (jF (fun i => G (oo + i)) [(s, 0), (t, 1)]) 2) [(s, 0), (t, 1)] on i G 2 hi (fun i' h1 h2 => by
    obtain rfl : i = 0 := by omega
    obtain rfl : i' = 1 := by omega
    simp; omega)
  have e : ∀ i, i < 2 → sct (jA A [(s, 0), (t, 1)]) (jF (fun i => G (oo + i)) [(s, 0), (t, 1)]) 2 i = sc2 (A s) (A t) (G (oo + s * 2)) (G (oo + t * 2 + 1)) i := fun i hi => sct_congr (fun k hk => by
    rcases (show k = 0 ∨ k = 1 by omega) with rfl | rfl <;> simp [jA]) (fun k hk => by
    rcases (show k = 0 ∨ k = 1 by omega) with rfl | rfl <;> simp [jF, Nat.add_assoc]) hi
  have h0 := h 0 (by omega)
  have h1 := h 1 (by omega)
  rw [e 0 (by omega)] at h0
  rw [e 1 (by omega)] at h1
  exact ⟨(by simp at h0; exact h0), (by simp at h1; exact h1)⟩
theorem jnt3 (A : Nat → Int) (oo on s t u : Nat) (hst : s ≠ t) (hsu : s ≠ u) (htu : t ≠ u) (G : Nat → Int) :
    meetA A oo on (.jnt [(s, 0), (t, 1), (u, 1)]) G (on + s * 2 + 1) = sc3 (A s) (A t) (A u) (G (oo + s * 2)) (G (oo + t * 2 + 1)) (G (oo + u * 2 + 1)) 0 ∧ meetA A oo on (.jnt [(s, 0), (t, 1), (u, 1)]) G (on + t * 2) = sc3 (A s) (A t) (A u) (G (oo + s * 2)) (G (oo + t * 2 + 1)) (G (oo + u * 2 + 1)) 1 ∧ meetA A oo on (.jnt [(s, 0), (t, 1), (u, 1)]) G (on + u * 2) = sc3 (A s) (A t) (A u) (G (oo + s * 2)) (G (oo + t * 2 + 1)) (G (oo + u * 2 + 1)) 2 := by
  have h := fun i (hi : i < 3) => jPut_get (sct (jA A [(s, 0), (t, 1), (u, 1)]) (jF (fun i => G (oo + i)) [(s, 0), (t, 1), (u, 1)]) 3) [(s, 0), (t, 1), (u, 1)] on i G 3 hi (fun i' h1 h2 => by
    rcases (show (i = 0 ∧ i' = 1) ∨ (i = 0 ∧ i' = 2) ∨ (i = 1 ∧ i' = 2) by omega) with ⟨rfl, rfl⟩ | ⟨rfl, rfl⟩ | ⟨rfl, rfl⟩ <;> simp <;> omega)
  have e : ∀ i, i < 3 → sct (jA A [(s, 0), (t, 1), (u, 1)]) (jF (fun i => G (oo + i)) [(s, 0), (t, 1), (u, 1)]) 3 i = sc3 (A s) (A t) (A u) (G (oo + s * 2)) (G (oo + t * 2 + 1)) (G (oo + u * 2 + 1)) i := fun i hi => sct_congr (fun k hk => by
    rcases (show k = 0 ∨ k = 1 ∨ k = 2 by omega) with rfl | rfl | rfl <;> simp [jA]) (fun k hk => by
    rcases (show k = 0 ∨ k = 1 ∨ k = 2 by omega) with rfl | rfl | rfl <;> simp [jF, Nat.add_assoc]) hi
  have h0 := h 0 (by omega)
  have h1 := h 1 (by omega)
  have h2 := h 2 (by omega)
  rw [e 0 (by omega)] at h0
  rw [e 1 (by omega)] at h1
  rw [e 2 (by omega)] at h2
  exact ⟨(by simp at h0; exact h0), (by simp at h1; exact h1), (by simp at h2; exact h2)⟩
/-- A STEP: what becomes of each wave. -/
theorem step_next (A : Nat → Int) (n b j : Nat) (g li no : Int) (oo on : Nat) (hn : 1 ≤ n) (hj : 0 < b → j < n - 1) (hd : oo + 2 * (n + b) ≤ on ∨ on + 2 * (n + b) ≤ oo) (hok : ∀ p ∈ placesL n b j g li no, plcOk (n + b) p) (G : Nat → Int) :
    NextIs A n b j g li no oo on G (meetsA A oo on (placesL n b j g li no) G) := by
  have get := fun (p : Plc) (q : Nat) (hp : p ∈ placesL n b j g li no) (hq : q ∈ tgts on p) => meets_get A oo on (n + b) q hd G p hq _ hok hp (fun p' hp' hq' => place_one hn hj hp hp' hq hq')
  have fin : ∀ (s d : Nat) (c : Int), meetA A oo on (.fin s d c) G (on + s * 2 + (1 - d)) = thr c (G (oo + s * 2 + d)) := fun s d c => by
    show (if _ = _ then _ else _) = _
    rw [if_pos rfl]
  refine ⟨?_, ?_, fun k hk hkj => ?_, fun hb => ?_, fun hb i hi => ?_, fun hb => ?_, fun i hi => ?_⟩
  · have := get (.fin 0 1 g) on (mem_places.2 (.inl rfl)) (mem_fin.2 (by omega))
    rw [this]
    have := fin 0 1 g
    simpa using this
  · rw [get (.fin (n - 1) 0 (-li)) _ (mem_places.2 (.inr (.inl rfl))) (mem_fin.2 rfl)]
    have := fin (n - 1) 0 (-li)
    simpa using this
  · have hm : plcMid n b j k ∈ placesL n b j g li no := mem_places.2 (.inr (.inr (.inl ⟨k, hk, rfl⟩)))
    rw [get _ _ hm (mem_mid.2 (.inl rfl)), get _ _ hm (mem_mid.2 (.inr (.inl rfl)))]
    unfold plcMid
    rw [if_neg hkj]
    exact jnt2 A oo on k (k + 1) (by omega) G
  · have hjn := hj hb
    have hm : plcMid n b j j ∈ placesL n b j g li no := mem_places.2 (.inr (.inr (.inl ⟨j, hjn, rfl⟩)))
    rw [get _ _ hm (mem_mid.2 (.inl rfl)), get _ _ hm (mem_mid.2 (.inr (.inl rfl))), get _ _ hm (mem_mid.2 (.inr (.inr ⟨rfl, hb, rfl⟩)))]
    unfold plcMid
    rw [if_pos ⟨rfl, hb⟩]
    exact jnt3 A oo on j (j + 1) n (by omega) (by omega) (by omega) G
  · have hm : plcEnd n i ∈ placesL n b j g li no := mem_places.2 (.inr (.inr (.inr (.inl ⟨hb, i, hi, rfl⟩))))
    rw [get _ _ hm (mem_end.2 (.inl rfl)), get _ _ hm (mem_end.2 (.inr rfl))]
    exact jnt2 A oo on (n + i) (n + i + 1) (by omega) G
  · rw [get (.fin (n - 1 + b) 0 (-no)) _ (mem_places.2 (.inr (.inr (.inr (.inr ⟨hb, rfl⟩))))) (mem_fin.2 rfl)]
    have := fin (n - 1 + b) 0 (-no)
    simpa using this
  · exact meets_old A oo on (n + b) hd G i hi _ hok
end Go.Proofs.Ytbmbcbknoflpgaa
namespace Go.Proofs.Ytbmbcbknoflpgaa
open Go.RowKit

theorem w64_r {x : Int} (h : -9223372036854775808 ≤ x ∧ x ≤ 9223372036854775807) : wrap64 x = x := by unfold wrap64; omega
theorem sm_split (g : Nat → Int) (n : Nat) : ∀ b, sm g (n + b) = sm g n + sm (fun i => g (n + i)) b := by
  intro b
  induction b with
  | zero => simp [sm]
  | succ b ih => show sm g (n + b) + g (n + b) = sm g n + (sm (fun i => g (n + i)) b + g (n + b)); rw [ih]; omega
theorem sm_chain (X Y : Nat → Int) : ∀ m, sm (fun s => X s + Y s) (m + 1) = Y 0 + sm (fun k => X k + Y (k + 1)) m + X m := by
  intro m
  induction m with
  | zero => simp [sm]; omega
  | succ m ih =>
    show sm (fun s => X s + Y s) (m + 1) + (X (m + 1) + Y (m + 1)) = Y 0 + (sm (fun k => X k + Y (k + 1)) m + (X m + Y (m + 1))) + X (m + 1)
    rw [ih]; omega
theorem sm_ite (d : Int) (j : Nat) : ∀ m, j < m → sm (fun k => if k = j then d else 0) m = d := by
  intro m
  have hz : ∀ m, m ≤ j → sm (fun k => if k = j then d else 0) m = 0 := by
    intro m
    induction m with
    | zero => intro _; rfl
    | succ m ih => intro h; show sm _ m + _ = 0; rw [ih (by omega)]; simp; omega
  induction m with
  | zero => intro h; omega
  | succ m ih =>
    intro h
    show sm _ m + (if m = j then d else 0) = d
    by_cases e : m = j
    · rw [hz m (by omega), if_pos e]; omega
    · rw [ih (by omega), if_neg e]; omega
theorem sm_enX (A F B : Nat → Int) : ∀ n, enX A F B n = sm (fun i => A i * (F i * F i + B i * B i)) n := by
  intro n
  induction n with
  | zero => rfl
  | succ n ih => show enX A F B n + _ = sm _ n + _; rw [ih]
/-- The energy of a state. -/
def en (A G : Nat → Int) (o n : Nat) : Int := sm (fun i => A i * (G (o + i * 2) * G (o + i * 2)) + A i * (G (o + i * 2 + 1) * G (o + i * 2 + 1))) n
theorem en_enX (A G : Nat → Int) (o n : Nat) : enX A (fun i => G (o + i * 2)) (fun i => G (o + i * 2 + 1)) n = en A G o n := by
  rw [sm_enX]
  exact sm_congr fun j _ => by rw [Int.mul_add]
theorem thr_le {p x : Int} (hp : -99 ≤ p ∧ p ≤ 99) (hx : -1073741824 ≤ x ∧ x ≤ 1073741824) : thr p x = (p * x).tdiv 100 ∧ thr p x * thr p x ≤ x * x := by
  have hm := mul_inN (A := 99) (B := 1073741824) (a := p) (b := x) (by omega) (by omega) (by omega) (by omega)
  have e : thr p x = (p * x).tdiv 100 := by unfold thr; rw [w64_r (by omega)]
  refine ⟨e, ?_⟩
  rw [e]
  have h1 := tdiv_sq (p * x) 100 (by omega)
  have h2 : p * x * (p * x) = p * p * (x * x) := by grind
  have h3 : p * p ≤ 99 * 99 := by
    have := mul_inN (A := 99) (B := 99) (a := p) (b := p) (by omega) (by omega) (by omega) (by omega)
    omega
  have h4 := Int.mul_le_mul_of_nonneg_right h3 (sq_nonneg x)
  have h5 := sq_nonneg x
  rw [h2] at h1
  generalize (p * x).tdiv 100 * (p * x).tdiv 100 = u at *
  generalize p * p * (x * x) = v at *
  generalize x * x = z at *
  omega
theorem sc2_le {a c x y : Int} (ha : 1 ≤ a ∧ a ≤ 1000) (hc : 1 ≤ c ∧ c ≤ 1000) (hx : -1073741824 ≤ x ∧ x ≤ 1073741824) (hy : -1073741824 ≤ y ∧ y ≤ 1073741824) : a * (sc2 a c x y 0 * sc2 a c x y 0) + c * (sc2 a c x y 1 * sc2 a c x y 1) ≤ a * (x * x) + c * (y * y) := by
  have h := sct_energy (A := fun t => if t = 0 then a else c) (F := fun t => if t = 0 then x else y) (n := 2) (by omega) (by omega) (fun j hj => by rcases (show j = 0 ∨ j = 1 by omega) with rfl | rfl <;> simp <;> omega) (fun j hj => by rcases (show j = 0 ∨ j = 1 by omega) with rfl | rfl <;> simp <;> omega)
  unfold enS at h
  simp only [sm, if_true, Nat.zero_add, show ¬ (1 = 0) by omega, if_false, Int.zero_add] at h
  exact h
theorem sc3_le {a c e x y z : Int} (ha : 1 ≤ a ∧ a ≤ 1000) (hc : 1 ≤ c ∧ c ≤ 1000) (he : 1 ≤ e ∧ e ≤ 1000) (hx : -1073741824 ≤ x ∧ x ≤ 1073741824) (hy : -1073741824 ≤ y ∧ y ≤ 1073741824) (hz : -1073741824 ≤ z ∧ z ≤ 1073741824) :
    a * (sc3 a c e x y z 0 * sc3 a c e x y z 0) + c * (sc3 a c e x y z 1 * sc3 a c e x y z 1) + e * (sc3 a c e x y z 2 * sc3 a c e x y z 2) ≤ a * (x * x) + c * (y * y) + e * (z * z) := by
  have h := sct_energy (A := fun t => if t = 0 then a else if t = 1 then c else e) (F := fun t => if t = 0 then x else if t = 1 then y else z) (n := 3) (by omega) (by omega) (fun j hj => by rcases (show j = 0 ∨ j = 1 ∨ j = 2 by omega) with rfl | rfl | rfl <;> simp <;> omega) (fun j hj => by rcases (show j = 0 ∨ j = 1 ∨ j = 2 by omega) with rfl | rfl | rfl <;> simp <;> omega)
  unfold enS at h
  simp only [sm, if_true, Nat.zero_add, show ¬ (1 = 0) by omega, show ¬ (2 = 0) by omega, show ¬ (2 = 1) by omega, if_false, Int.zero_add, Nat.reduceAdd] at h
  exact h
/-- A STEP DOES NOT RAISE THE ENERGY. -/
theorem next_energy {A : Nat → Int} {n b j : Nat} {g li no : Int} {oo on : Nat} {G H : Nat → Int} (hx : NextIs A n b j g li no oo on G H) (hn : 1 ≤ n) (hj : 0 < b → j < n - 1) (hA : ∀ i, i < n + b → 1 ≤ A i ∧ A i ≤ 1000) (hg : 0 ≤ g ∧ g ≤ 99) (hl : 0 ≤ li ∧ li ≤ 99) (ho : 0 ≤ no ∧ no ≤ 99) (hG : ∀ i, i < 2 * (n + b) → -1073741824 ≤ G (oo + i) ∧ G (oo + i) ≤ 1073741824) :
    en A H on (n + b) ≤ en A G oo (n + b) := by
  obtain ⟨m, rfl⟩ : ∃ m, n = m + 1 := ⟨n - 1, by omega⟩
  have e1 : ∀ (K : Nat → Int) (o : Nat), en A K o (m + 1) = A 0 * (K (o + 0 * 2) * K (o + 0 * 2)) + sm (fun k => A k * (K (o + k * 2 + 1) * K (o + k * 2 + 1)) + A (k + 1) * (K (o + (k + 1) * 2) * K (o + (k + 1) * 2))) m + A m * (K (o + m * 2 + 1) * K (o + m * 2 + 1)) := fun K o => by
    have := sm_chain (fun i => A i * (K (o + i * 2 + 1) * K (o + i * 2 + 1))) (fun i => A i * (K (o + i * 2) * K (o + i * 2))) m
    rw [← this]
    exact sm_congr fun i _ => by omega
  have e2 : ∀ (K : Nat → Int) (o : Nat), en A K o (m + 1) = A 0 * (K (o + 0 * 2 + 1) * K (o + 0 * 2 + 1)) + sm (fun k => A k * (K (o + k * 2) * K (o + k * 2)) + A (k + 1) * (K (o + (k + 1) * 2 + 1) * K (o + (k + 1) * 2 + 1))) m + A m * (K (o + m * 2) * K (o + m * 2)) := fun K o =>
    sm_chain (fun i => A i * (K (o + i * 2) * K (o + i * 2))) (fun i => A i * (K (o + i * 2 + 1) * K (o + i * 2 + 1))) m
  have hA0 := hA 0 (by omega)
  have hAm := hA m (by omega)
  have g0 := (thr_le (p := g) (x := G (oo + 1)) (by omega) (hG 1 (by omega))).2
  have gm := (thr_le (p := -li) (x := G (oo + m * 2)) (by omega) (hG (m * 2) (by omega))).2
  rw [← hx.glo] at g0
  have hlip := hx.lip
  rw [show m + 1 - 1 = m by omega] at hlip
  rw [← hlip] at gm
  have k0 := Int.mul_le_mul_of_nonneg_left g0 (show 0 ≤ A 0 by omega)
  have km := Int.mul_le_mul_of_nonneg_left gm (show 0 ≤ A m by omega)
  have pair : ∀ k, k < m → ¬ (k = j ∧ 0 < b) → A k * (H (on + k * 2 + 1) * H (on + k * 2 + 1)) + A (k + 1) * (H (on + (k + 1) * 2) * H (on + (k + 1) * 2)) ≤ A k * (G (oo + k * 2) * G (oo + k * 2)) + A (k + 1) * (G (oo + (k + 1) * 2 + 1) * G (oo + (k + 1) * 2 + 1)) := fun k hk hkj => by
    obtain ⟨q1, q2⟩ := hx.mid k (by omega) hkj
    rw [q1, q2]
    exact sc2_le (hA k (by omega)) (hA (k + 1) (by omega)) (hG (k * 2) (by omega)) (by have := hG ((k + 1) * 2 + 1) (by omega); rwa [← Nat.add_assoc] at this)
  have sp : ∀ (K : Nat → Int) (o : Nat), en A K o (m + 1 + b) = en A K o (m + 1) + sm (fun i => A (m + 1 + i) * (K (o + (m + 1 + i) * 2) * K (o + (m + 1 + i) * 2)) + A (m + 1 + i) * (K (o + (m + 1 + i) * 2 + 1) * K (o + (m + 1 + i) * 2 + 1))) b := fun K o => sm_split (fun i => A i * (K (o + i * 2) * K (o + i * 2)) + A i * (K (o + i * 2 + 1) * K (o + i * 2 + 1))) (m + 1) b
  rw [sp, sp, e1 H on, e2 G oo]
  by_cases hb : 0 < b
  · obtain ⟨c, rfl⟩ : ∃ c, b = c + 1 := ⟨b - 1, by omega⟩
    have hjm := hj hb
    obtain ⟨f1, f2, f3⟩ := hx.fork hb
    have fk := sc3_le (hA j (by omega)) (hA (j + 1) (by omega)) (hA (m + 1) (by omega)) (hG (j * 2) (by omega)) (by have := hG ((j + 1) * 2 + 1) (by omega); rwa [← Nat.add_assoc] at this) (by have := hG ((m + 1) * 2 + 1) (by omega); rwa [← Nat.add_assoc] at this)
    rw [← f1, ← f2, ← f3] at fk
    obtain ⟨d, hd⟩ : ∃ d, A (m + 1) * (G (oo + (m + 1) * 2 + 1) * G (oo + (m + 1) * 2 + 1)) - A (m + 1) * (H (on + (m + 1) * 2) * H (on + (m + 1) * 2)) = d := ⟨_, rfl⟩
    have hsum := sm_le (n := m) (g := fun k => A k * (H (on + k * 2 + 1) * H (on + k * 2 + 1)) + A (k + 1) * (H (on + (k + 1) * 2) * H (on + (k + 1) * 2))) (h := fun k => (A k * (G (oo + k * 2) * G (oo + k * 2)) + A (k + 1) * (G (oo + (k + 1) * 2 + 1) * G (oo + (k + 1) * 2 + 1))) + (if k = j then d else 0)) (fun k hk => by
      by_cases e : k = j
      · subst e
        rw [if_pos rfl]
        omega
      · rw [if_neg e]
        have := pair k hk (by omega)
        omega)
    rw [sm_add (fun k => A k * (G (oo + k * 2) * G (oo + k * 2)) + A (k + 1) * (G (oo + (k + 1) * 2 + 1) * G (oo + (k + 1) * 2 + 1))) (fun k => if k = j then d else 0), sm_ite d j m (by omega)] at hsum
    -- the branch
    have b1 := sm_chain (fun i => A (m + 1 + i) * (H (on + (m + 1 + i) * 2 + 1) * H (on + (m + 1 + i) * 2 + 1))) (fun i => A (m + 1 + i) * (H (on + (m + 1 + i) * 2) * H (on + (m + 1 + i) * 2))) c
    have b2 := sm_chain (fun i => A (m + 1 + i) * (G (oo + (m + 1 + i) * 2) * G (oo + (m + 1 + i) * 2))) (fun i => A (m + 1 + i) * (G (oo + (m + 1 + i) * 2 + 1) * G (oo + (m + 1 + i) * 2 + 1))) c
    have b3 : sm (fun i => A (m + 1 + i) * (H (on + (m + 1 + i) * 2) * H (on + (m + 1 + i) * 2)) + A (m + 1 + i) * (H (on + (m + 1 + i) * 2 + 1) * H (on + (m + 1 + i) * 2 + 1))) (c + 1) = sm (fun s => A (m + 1 + s) * (H (on + (m + 1 + s) * 2 + 1) * H (on + (m + 1 + s) * 2 + 1)) + A (m + 1 + s) * (H (on + (m + 1 + s) * 2) * H (on + (m + 1 + s) * 2))) (c + 1) := sm_congr fun i _ => by omega
    have hno := hx.nos hb
    have go := (thr_le (p := -no) (x := G (oo + (m + 1 - 1 + (c + 1)) * 2)) (by omega) (hG ((m + 1 - 1 + (c + 1)) * 2) (by omega))).2
    rw [← hno] at go
    rw [show m + 1 - 1 + (c + 1) = m + 1 + c by omega] at go
    have ko := Int.mul_le_mul_of_nonneg_left go (show 0 ≤ A (m + 1 + c) by have := hA (m + 1 + c) (by omega); omega)
    have bsum := sm_le (n := c) (g := fun k => A (m + 1 + k) * (H (on + (m + 1 + k) * 2 + 1) * H (on + (m + 1 + k) * 2 + 1)) + A (m + 1 + (k + 1)) * (H (on + (m + 1 + (k + 1)) * 2) * H (on + (m + 1 + (k + 1)) * 2))) (h := fun k => A (m + 1 + k) * (G (oo + (m + 1 + k) * 2) * G (oo + (m + 1 + k) * 2)) + A (m + 1 + (k + 1)) * (G (oo + (m + 1 + (k + 1)) * 2 + 1) * G (oo + (m + 1 + (k + 1)) * 2 + 1))) (fun k hk => by
      obtain ⟨q1, q2⟩ := hx.arm hb k (by omega)
      rw [q1, show m + 1 + (k + 1) = m + 1 + k + 1 by omega, q2]
      exact sc2_le (hA (m + 1 + k) (by omega)) (hA (m + 1 + k + 1) (by omega)) (hG ((m + 1 + k) * 2) (by omega)) (by have := hG ((m + 1 + k + 1) * 2 + 1) (by omega); rwa [← Nat.add_assoc] at this))
    simp only [Nat.add_zero] at b1 b2
    rw [b3, b1, b2]
    simp only [Nat.zero_mul, Nat.add_zero, Nat.zero_add]
    omega
  · obtain rfl : b = 0 := by omega
    have hsum := sm_le (n := m) (fun k hk => pair k hk (by omega))
    simp only [Nat.zero_mul, Nat.add_zero, Nat.zero_add, sm]
    omega
end Go.Proofs.Ytbmbcbknoflpgaa
namespace Go.Proofs.Ytbmbcbknoflpgaa
open Go.RowKit

theorem sm_upd {g h : Nat → Int} {s : Nat} : ∀ {n : Nat}, (∀ j, j < n → j ≠ s → g j = h j) → s < n → sm g n = sm h n + (g s - h s) := by
  intro n
  induction n with
  | zero => intro _ h; omega
  | succ n ih =>
    intro hj hs
    show sm g n + g n = sm h n + h n + (g s - h s)
    by_cases e : n = s
    · subst e
      rw [sm_congr (g := g) (h := h) fun j hj2 => hj j (by omega) (by omega)]
      omega
    · rw [ih (fun j h1 h2 => hj j (by omega) h2) (by omega), hj n (by omega) e]
      omega
theorem sm_term {g : Nat → Int} {n : Nat} (h : ∀ j, j < n → 0 ≤ g j) {s : Nat} (hs : s < n) : g s ≤ sm g n := by
  have h1 := sm_upd (g := g) (h := fun j => if j = s then 0 else g j) (s := s) (n := n) (fun j _ e => by simp [e]) hs
  have h2 := sm_nonneg (g := fun j => if j = s then 0 else g j) (n := n) (fun j hj => by
    by_cases e : j = s
    · simp [e]
    · simp only [e, if_false]; exact h j hj)
  simp at h1
  omega
theorem abs_of_sq {u q : Int} (hq : 0 ≤ q) (h : u * u ≤ q * q) : -q ≤ u ∧ u ≤ q := by
  constructor
  · by_cases h1 : -q ≤ u
    · exact h1
    · exfalso
      have := Int.mul_le_mul (show q + 1 ≤ -u by omega) (show q + 1 ≤ -u by omega) (by omega) (by omega)
      rw [Int.neg_mul_neg] at this
      have e : (q + 1) * (q + 1) = q * q + 2 * q + 1 := by grind
      rw [e] at this
      omega
  · by_cases h1 : u ≤ q
    · exact h1
    · exfalso
      have := Int.mul_le_mul (show q + 1 ≤ u by omega) (show q + 1 ≤ u by omega) (by omega) (by omega)
      have e : (q + 1) * (q + 1) = q * q + 2 * q + 1 := by grind
      rw [e] at this
      omega
theorem en_term {A G : Nat → Int} {o n : Nat} (hA : ∀ i, i < n → 1 ≤ A i ∧ A i ≤ 1000) {i : Nat} (hi : i < n) : A i * (G (o + i * 2) * G (o + i * 2)) ≤ en A G o n ∧ A i * (G (o + i * 2 + 1) * G (o + i * 2 + 1)) ≤ en A G o n := by
  have p := fun (j : Nat) (hj : j < n) (x : Int) => Int.mul_nonneg (show 0 ≤ A j by have := hA j hj; omega) (sq_nonneg x)
  have h := sm_term (g := fun i => A i * (G (o + i * 2) * G (o + i * 2)) + A i * (G (o + i * 2 + 1) * G (o + i * 2 + 1))) (n := n) (fun j hj => by have := p j hj (G (o + j * 2)); have := p j hj (G (o + j * 2 + 1)); omega) hi
  have h1 := p i hi (G (o + i * 2))
  have h2 := p i hi (G (o + i * 2 + 1))
  unfold en
  (try simp only at h)
  omega
theorem en_nonneg {A G : Nat → Int} {o n : Nat} (hA : ∀ i, i < n → 1 ≤ A i ∧ A i ≤ 1000) : 0 ≤ en A G o n :=
  sm_nonneg fun j hj => by
    have h1 := Int.mul_nonneg (show 0 ≤ A j by have := hA j hj; omega) (sq_nonneg (G (o + j * 2)))
    have h2 := Int.mul_nonneg (show 0 ≤ A j by have := hA j hj; omega) (sq_nonneg (G (o + j * 2 + 1)))
    omega
/-- Waves of bounded energy are bounded. -/
theorem wave_in {A G : Nat → Int} {o n : Nat} (hA : ∀ i, i < n → 1 ≤ A i ∧ A i ≤ 1000) (hE : en A G o n ≤ 1000000000000) {i : Nat} (hi : i < 2 * n) : -1000000 ≤ G (o + i) ∧ G (o + i) ≤ 1000000 := by
  have key : ∀ (a x : Int), 1 ≤ a → a * (x * x) ≤ 1000000000000 → -1000000 ≤ x ∧ x ≤ 1000000 := fun a x ha h => by
    have h1 := Int.mul_le_mul_of_nonneg_right ha (sq_nonneg x)
    exact abs_of_sq (by omega) (by omega)
  by_cases e : i % 2 = 0
  · obtain ⟨k, rfl⟩ : ∃ k, i = k * 2 := ⟨i / 2, by omega⟩
    exact key _ _ (hA k (by omega)).1 (Int.le_trans (en_term hA (by omega)).1 hE)
  · obtain ⟨k, rfl⟩ : ∃ k, i = k * 2 + 1 := ⟨i / 2, by omega⟩
    rw [← Nat.add_assoc]
    exact key _ _ (hA k (by omega)).1 (Int.le_trans (en_term hA (by omega)).2 hE)
/-- A feed, exactly. -/
theorem feed_exact {A H : Nat → Int} {on n s : Nat} {v : Int} (hs : s < n) (hw : -1000000000 ≤ H (on + s * 2) ∧ H (on + s * 2) ≤ 1000000000) (hv : -500 ≤ v ∧ v ≤ 500) :
    en A (feedA on H ⟨(s : Int), v⟩) on n = en A H on n + (2 * (A s * H (on + s * 2)) * v + A s * (v * v)) := by
  have hf : ∀ q, feedA on H ⟨(s : Int), v⟩ q = if q = on + s * 2 then H (on + s * 2) + v else H q := fun q => by
    unfold feedA upd
    simp only [Int.toNat_natCast]
    rw [w64_r (by omega)]
  have h := sm_upd (g := fun i => A i * (feedA on H ⟨(s : Int), v⟩ (on + i * 2) * feedA on H ⟨(s : Int), v⟩ (on + i * 2)) + A i * (feedA on H ⟨(s : Int), v⟩ (on + i * 2 + 1) * feedA on H ⟨(s : Int), v⟩ (on + i * 2 + 1))) (h := fun i => A i * (H (on + i * 2) * H (on + i * 2)) + A i * (H (on + i * 2 + 1) * H (on + i * 2 + 1))) (s := s) (n := n) (fun j hj e => by
    simp only [hf]
    rw [if_neg (by omega), if_neg (by omega)]) hs
  unfold en
  rw [h]
  simp only [hf, if_true, show ¬ (on + s * 2 + 1 = on + s * 2) by omega, if_false]
  have e : A s * ((H (on + s * 2) + v) * (H (on + s * 2) + v)) = A s * (H (on + s * 2) * H (on + s * 2)) + (2 * (A s * H (on + s * 2)) * v + A s * (v * v)) := by grind
  rw [e]
  omega
/-- A feed, bounded. -/
theorem feed_le {A H : Nat → Int} {on n s : Nat} {v P K : Int} (hA : ∀ i, i < n → 1 ≤ A i ∧ A i ≤ 1000) (hs : s < n) (hv : -500 ≤ v ∧ v ≤ 500) (hP : 0 ≤ P ∧ P ≤ 30000) (hK : A s ≤ K ∧ K ≤ 1000) (hE : en A H on n ≤ P * P * K) :
    en A (feedA on H ⟨(s : Int), v⟩) on n ≤ (P + v.natAbs) * (P + v.natAbs) * K := by
  have hPP := Int.mul_le_mul hP.2 hP.2 hP.1 (by omega)
  have hA1 := hA s hs
  have hPK := Int.mul_le_mul hPP hK.2 (by omega) (by omega)
  have hPP0 := Int.mul_nonneg hP.1 hP.1
  have hw := wave_in hA (Int.le_trans hE (by omega)) (i := s * 2) (by omega)
  rw [feed_exact hs (by omega) hv]
  have ht := (en_term (G := H) (o := on) hA hs).1
  obtain ⟨x, hx⟩ : ∃ x, H (on + s * 2) = x := ⟨_, rfl⟩
  obtain ⟨E, hEE⟩ : ∃ E, en A H on n = E := ⟨_, rfl⟩
  rw [hx] at ht ⊢
  rw [hEE] at hE ht ⊢
  obtain ⟨a, ha⟩ : ∃ a, A s = a := ⟨_, rfl⟩
  rw [ha] at ht hK hA1 ⊢
  clear hw hx hEE ha hA
  have hu : -(P * K) ≤ a * x ∧ a * x ≤ P * K := by
    refine abs_of_sq (Int.mul_nonneg hP.1 (by omega)) ?_
    have h1 := Int.mul_le_mul_of_nonneg_left (Int.le_trans ht hE) (show 0 ≤ a by omega)
    have h2 := Int.mul_le_mul_of_nonneg_right hK.1 (Int.mul_nonneg hPP0 (show 0 ≤ K by omega))
    have e1 : a * x * (a * x) = a * (a * (x * x)) := by grind
    have e2 : P * K * (P * K) = K * (P * P * K) := by grind
    rw [e1, e2]
    omega
  obtain ⟨z, hz⟩ : ∃ z : Int, (v.natAbs : Int) = z := ⟨_, rfl⟩
  have hzv : z = v ∨ z = -v := by omega
  have hz0 : 0 ≤ z := by omega
  rw [hz]
  have hb := mul_inN (A := P * K) (B := z) (a := a * x) (b := v) hu.1 hu.2 (by omega) (by omega)
  have hvv : v * v = z * z := by rcases hzv with rfl | rfl <;> grind
  have h3 := Int.mul_le_mul_of_nonneg_right hK.1 (sq_nonneg z)
  have e3 : (P + z) * (P + z) * K = P * P * K + 2 * (P * K * z) + K * (z * z) := by grind
  have e4 : 2 * (a * x) * v = 2 * (a * x * v) := by grind
  rw [e3, e4, hvv]
  omega
/-- Feeds, one after the other. -/
theorem feeds_le {A : Nat → Int} {on n : Nat} {K : Int} (hA : ∀ i, i < n → 1 ≤ A i ∧ A i ≤ 1000) : ∀ (l : List Fd) (P : Int) (H : Nat → Int), (∀ x ∈ l, (0 ≤ x.sec ∧ x.sec < n ∧ -500 ≤ x.amt ∧ x.amt ≤ 500) ∧ A x.sec.toNat ≤ K) → K ≤ 1000 → 0 ≤ P → P + fdSum l ≤ 30000 → en A H on n ≤ P * P * K → en A (feedsA on l H) on n ≤ (P + fdSum l) * (P + fdSum l) * K := by
  intro l
  induction l with
  | nil => intro P H _ _ _ _ h; simpa [feedsA, fdSum] using h
  | cons x l ih =>
    intro P H hl hK hP hs hE
    obtain ⟨⟨h1, h2, h3, h4⟩, h5⟩ := hl x (List.mem_cons_self)
    have hsum : fdSum (x :: l) = x.amt.natAbs + fdSum l := by simp [fdSum]
    rw [hsum] at hs ⊢
    obtain ⟨sx, v⟩ := x
    simp only at h1 h2 h3 h4 h5 hs ⊢
    obtain ⟨s, rfl⟩ : ∃ s : Nat, sx = (s : Int) := ⟨sx.toNat, by omega⟩
    rw [Int.toNat_natCast] at h5
    have hf := feed_le hA (s := s) (v := v) (by omega) ⟨h3, h4⟩ ⟨hP, by omega⟩ ⟨h5, hK⟩ hE
    have := ih (P + v.natAbs) (feedA on H ⟨(s : Int), v⟩) (fun y hy => hl y (List.mem_cons_of_mem _ hy)) hK (by omega) (by omega) hf
    have e : P + ((v.natAbs + fdSum l : Nat) : Int) = P + v.natAbs + fdSum l := by omega
    rw [e]
    exact this
theorem feeds_quiet {A : Nat → Int} {on n : Nat} : ∀ (l : List Fd) (H : Nat → Int), (∀ x ∈ l, 0 ≤ x.sec ∧ x.sec < n ∧ x.amt = 0) → (∀ i, i < n → -1000000000 ≤ H (on + i * 2) ∧ H (on + i * 2) ≤ 1000000000) → en A (feedsA on l H) on n = en A H on n := by
  intro l
  induction l with
  | nil => intro H _ _; rfl
  | cons x l ih =>
    intro H hl hw
    obtain ⟨h1, h2, h3⟩ := hl x (List.mem_cons_self)
    obtain ⟨sx, v⟩ := x
    simp only at h1 h2 h3
    subst h3
    obtain ⟨s, rfl⟩ : ∃ s : Nat, sx = (s : Int) := ⟨sx.toNat, by omega⟩
    have hq : ∀ q, q = on + s * 2 ∨ q ≠ on + s * 2 := fun q => by omega
    have hsame : ∀ q, feedA on H ⟨(s : Int), 0⟩ q = H q := fun q => by
      unfold feedA upd
      simp only [Int.toNat_natCast]
      by_cases e : q = on + s * 2
      · rw [if_pos e, e, w64_r (by have := hw s (by omega); omega)]; omega
      · rw [if_neg e]
    have hfun : feedA on H ⟨(s : Int), 0⟩ = H := funext hsame
    show en A (feedsA on l (feedA on H ⟨(s : Int), 0⟩)) on n = _
    rw [hfun]
    exact ih H (fun y hy => hl y (List.mem_cons_of_mem _ hy)) hw
theorem offO_alt (n s : Nat) : (offO n s = 0 ∧ offO n (s + 1) = 2 * n) ∨ (offO n s = 2 * n ∧ offO n (s + 1) = 0) := by
  unfold offO
  rcases (show (s % 2 = 0 ∧ (s + 1) % 2 = 1) ∨ (s % 2 = 1 ∧ (s + 1) % 2 = 0) by omega) with ⟨h, h'⟩ | ⟨h, h'⟩ <;> rw [h, h'] <;> omega
/-- What a step makes of each wave of a tube of a shape, whatever its areas are. -/
theorem shp_next {s : Shp} (h : shpOk s = true) (al : List Int) (hl : al.length = s.areas.length + s.branch.length) (st : Nat) (G : Nat → Int) :
    NextIs (fun i => al.getD i 0) s.areas.length s.branch.length s.joint.toNat s.glottis s.lips s.nose (offO al.length st) (offO al.length (st + 1)) G (stpF al (shpPlaces s) st G) := by
  have ho := shp_tube h
  obtain ⟨p1, p2, p3, p4, p5, p6, p7⟩ := shp_parts h
  have hla : s.last = if s.branch.length = 0 then 0 else (s.areas.length : Int) - 2 := rfl
  have hp := ho.plc
  rw [List.length_append] at hp
  exact step_next _ _ _ _ _ _ _ _ _ p1 (fun hb => by rw [hla, if_neg (by omega)] at p4; omega) (by rcases offO_alt al.length st with h | h <;> omega) hp G
/-- The energy of a tube. -/
def enT (al : List Int) (st : Nat) (f : Nat → Int) : Int := en (fun i => al.getD i 0) f (offO al.length st) al.length
theorem step_energy {s : Shp} (h : shpOk s = true) {al : List Int} (hl : al.length = s.areas.length + s.branch.length) (ha : ∀ j, j < al.length → 1 ≤ al.getD j 0 ∧ al.getD j 0 ≤ 1000) {st : Nat} {f : Nat → Int} (hE : enT al st f ≤ 1000000000000) : enT al (st + 1) (stpF al (shpPlaces s) st f) ≤ enT al st f := by
  obtain ⟨p1, p2, p3, p4, p5, p6, p7⟩ := shp_parts h
  have hla : s.last = if s.branch.length = 0 then 0 else (s.areas.length : Int) - 2 := rfl
  have hmo := shp_most s
  unfold enT at *
  have := next_energy (shp_next h al hl st f) p1 (fun hb => by rw [hla, if_neg (by omega)] at p4; omega) (fun i hi => ha i (by omega)) p5 p6 (by omega) (fun i hi => by have := wave_in ha hE (i := i) (by omega); omega)
  rwa [← hl] at this
/-- A STEP WITH FEEDS. -/
theorem go_energy {s : Shp} (h : shpOk s = true) {al : List Int} (hl : al.length = s.areas.length + s.branch.length) (ha : ∀ j, j < al.length → 1 ≤ al.getD j 0 ∧ al.getD j 0 ≤ 1000) {st : Nat} {f : Nat → Int} {P K : Int} {fl : List Fd} (hf : fdOk s.areas.length fl = true) (hP : 0 ≤ P) (hK : 0 ≤ K ∧ K ≤ 1000) (hKa : ∀ x ∈ fl, al.getD x.sec.toNat 0 ≤ K) (hs : P + fdSum fl ≤ 30000) (hE : enT al st f ≤ P * P * K) :
    enT al (st + 1) (nxtF al (shpPlaces s) st fl f) ≤ (P + fdSum fl) * (P + fdSum fl) * K := by
  have hg := (fdOk_parts hf).1.1
  have h30 : P * P * K ≤ 1000000000000 := by
    have h1 := Int.mul_le_mul (show P ≤ 30000 by omega) (show P ≤ 30000 by omega) hP (by omega)
    have h2 := Int.mul_le_mul h1 hK.2 hK.1 (by omega)
    omega
  have h1 := step_energy h hl ha (Int.le_trans hE h30)
  exact feeds_le ha fl P _ (fun x hx => ⟨by have := hg x hx; omega, hKa x hx⟩) hK.2 hP hs (Int.le_trans h1 hE)
theorem go_quiet {s : Shp} (h : shpOk s = true) {al : List Int} (hl : al.length = s.areas.length + s.branch.length) (ha : ∀ j, j < al.length → 1 ≤ al.getD j 0 ∧ al.getD j 0 ≤ 1000) {st : Nat} {f : Nat → Int} {fl : List Fd} (hf : fdOk s.areas.length fl = true) (hz : ∀ x ∈ fl, x.amt = 0) (hE : enT al st f ≤ 1000000000000) :
    enT al (st + 1) (nxtF al (shpPlaces s) st fl f) ≤ enT al st f := by
  have hg := (fdOk_parts hf).1.1
  have h1 := step_energy h hl ha hE
  have h2 := feeds_quiet (A := fun i => al.getD i 0) (on := offO al.length (st + 1)) (n := al.length) fl (stpF al (shpPlaces s) st f) (fun x hx => by have := hg x hx; exact ⟨this.1, by omega, hz x hx⟩) (fun i hi => by have := wave_in ha (Int.le_trans h1 hE) (i := i * 2) (by omega); omega)
  unfold enT nxtF at *
  rw [h2]
  exact h1
end Go.Proofs.Ytbmbcbknoflpgaa
