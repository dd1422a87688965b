/- The maths of convex rows: a window's front is the first of its least candidates; rows of costs are convex. -/
import Derived.Test.YtejcbcjhmnhefaaDoorM7
set_option linter.unusedSimpArgs false
set_option linter.unusedVariables false
namespace Go.Proofs.YtejcbcjhmnhefaaDoor
open Go.RowKit

def Cvx (A : Nat → Int) (W : Nat) : Prop := ∀ u, u + 2 < W → A (u + 1) + A (u + 1) ≤ A u + A (u + 2)
theorem Cvx.diff {A : Nat → Int} {W : Nat} (h : Cvx A W) {i : Nat} : ∀ k, i + k + 1 < W → A (i + 1) - A i ≤ A (i + k + 1) - A (i + k) := by
  intro k
  induction k with
  | zero => intro _; exact Int.le_refl _
  | succ k ih =>
    intro hk
    have h1 := ih (by omega)
    have h2 := h (i + k) (by omega)
    rw [show i + (k + 1) + 1 = i + k + 2 by omega, show i + (k + 1) = i + k + 1 by omega]
    omega
theorem Cvx.up {A : Nat → Int} {W : Nat} (h : Cvx A W) {i : Nat} (h0 : i + 1 < W → A i ≤ A (i + 1)) : ∀ k, i + k < W → A i ≤ A (i + k) := by
  intro k
  induction k with
  | zero => intro _; exact Int.le_refl _
  | succ k ih =>
    intro hk
    have h1 := ih (by omega)
    have h2 := h.diff (i := i) k (by omega)
    have h3 := h0 (by omega)
    rw [show i + (k + 1) = i + k + 1 by omega]
    omega
theorem Cvx.mid {A : Nat → Int} {W : Nat} (h : Cvx A W) : ∀ n a m, a + 2 * n + m < W → A (a + n) + A (a + n + m) ≤ A a + A (a + 2 * n + m) := by
  intro n
  induction n with
  | zero => intro a m _; simp
  | succ n ih =>
    intro a m hw
    have h1 := ih (a + 1) m (by omega)
    have h2 := h.diff (i := a) (2 * n + 1 + m) (by omega)
    rw [show a + 1 + n = a + (n + 1) by omega, show a + 1 + 2 * n + m = a + (2 * n + 1 + m) by omega] at h1
    rw [show a + (2 * n + 1 + m) + 1 = a + 2 * (n + 1) + m by omega] at h2
    omega
theorem cfI_cvx {A : Nat → Int} {W : Nat} {sm : Int} (h : Cvx A W) (hs : 0 ≤ sm) (v : Nat) : Cvx (fun u => cfI A sm u v) W := by
  intro u hu
  have h1 := h u hu
  show cfI A sm (u + 1) v + cfI A sm (u + 1) v ≤ cfI A sm u v + cfI A sm (u + 2) v
  unfold cfI
  generalize hd : (u : Int) - v = d
  rw [show (((u + 1 : Nat) : Int) - v) = d + 1 by omega, show (((u + 2 : Nat) : Int) - v) = d + 2 by omega]
  have e : sm * d * d + sm * (d + 2) * (d + 2) = sm * (d + 1) * (d + 1) + sm * (d + 1) * (d + 1) + 2 * sm := by
    grind
  omega

/-- The first of the least of a window. -/
structure FM (g : Nat → Int) (a e f : Nat) : Prop where
  ge : a ≤ f
  lt : f < e
  before : ∀ u, a ≤ u → u < f → g f < g u
  least : ∀ u, f ≤ u → u < e → g f ≤ g u
theorem FM.min {g : Nat → Int} {a e f : Nat} (h : FM g a e f) (u : Nat) (h1 : a ≤ u) (h2 : u < e) : g f ≤ g u := by
  by_cases hu : u < f
  · exact Int.le_of_lt (h.before u h1 hu)
  · exact h.least u (by omega) h2
theorem drops_iff {A : Nat → Int} {s : Nat} {sm : Int} {v e f : Nat} : drops A s sm v e f = true ↔ (f < v - s ∨ (f + 1 < e ∧ cfI A sm (f + 1) v < cfI A sm f v)) := by
  unfold drops
  simp only [Bool.or_eq_true, Bool.and_eq_true, decide_eq_true_eq]
  constructor
  · rintro (h | h)
    · exact .inl (by omega)
    · exact .inr h
  · rintro (h | h)
    · exact .inl (by omega)
    · exact .inr h
theorem dropF_min {A : Nat → Int} {s W : Nat} {sm : Int} {v e : Nat} (hA : Cvx A W) (hs : 0 ≤ sm) (he : v + 1 ≤ e) (heW : e ≤ W) :
    ∀ k f, e ≤ f + k → f < e → (∀ u, v - s ≤ u → u < f → cfI A sm f v < cfI A sm u v) → FM (fun u => cfI A sm u v) (v - s) e (dropF A s sm v e k f) := by
  intro k
  induction k with
  | zero => intro f h1 h2; omega
  | succ k ih =>
    intro f h1 h2 h3
    unfold dropF
    by_cases hd : drops A s sm v e f = true
    · rw [if_pos hd]
      have hd' := drops_iff.1 hd
      refine ih (f + 1) (by omega) (by omega) fun u hu1 hu2 => ?_
      rcases hd' with h | ⟨h, h4⟩
      · omega
      · by_cases e1 : u = f
        · subst e1; exact h4
        · have := h3 u hu1 (by omega); omega
    · rw [if_neg hd]
      have hd' : ¬ (f < v - s ∨ (f + 1 < e ∧ cfI A sm (f + 1) v < cfI A sm f v)) := fun h => hd (drops_iff.2 h)
      refine ⟨by omega, h2, h3, fun u hu1 hu2 => ?_⟩
      obtain ⟨j, rfl⟩ : ∃ j, u = f + j := ⟨u - f, by omega⟩
      have hc := cfI_cvx hA hs v
      have hce : Cvx (fun u => cfI A sm u v) e := fun u hu => hc u (by omega)
      exact hce.up (i := f) (fun hf => by
        by_cases h4 : cfI A sm (f + 1) v < cfI A sm f v
        · exact absurd (.inr ⟨hf, h4⟩) hd'
        · show cfI A sm f v ≤ cfI A sm (f + 1) v; omega) j hu2
theorem cfI_shift {A : Nat → Int} {sm : Int} {u f v : Nat} (hs : 0 ≤ sm) (hu : u ≤ f) (h : cfI A sm f v < cfI A sm u v) : cfI A sm f (v + 1) < cfI A sm u (v + 1) := by
  unfold cfI at *
  obtain ⟨j, rfl⟩ : ∃ j, f = u + j := ⟨f - u, by omega⟩
  generalize hd : (u : Int) - v = d at *
  rw [show (((u + j : Nat) : Int) - v) = d + j by omega] at h
  rw [show (((u + j : Nat) : Int) - (v + 1 : Nat)) = d + j - 1 by omega, show ((u : Int) - (v + 1 : Nat)) = d - 1 by omega]
  have e1 : sm * (d + j - 1) * (d + j - 1) = sm * (d + j) * (d + j) - 2 * (sm * d) - 2 * (sm * j) + sm := by
    grind
  have e2 : sm * (d - 1) * (d - 1) = sm * d * d - 2 * (sm * d) + sm := by
    grind
  have e3 : 0 ≤ sm * (j : Int) := Int.mul_nonneg hs (by omega)
  omega
theorem front_min {A : Nat → Int} {s W : Nat} {sm : Int} (hA : Cvx A W) (hs : 0 ≤ sm) : ∀ v, v < W → FM (fun u => cfI A sm u v) (v - s) (ent s W (v + 1)) (front A s sm W (v + 1)) := by
  intro v
  induction v with
  | zero =>
    intro h
    have h1 := ent_ge (s := s) h
    exact dropF_min hA hs h1.1 h1.2 _ _ (Nat.sub_le_iff_le_add'.1 (Nat.le_refl _)) (front_lt 0 h) (fun u _ hu => by have : u < 0 := hu; omega)
  | succ v ih =>
    intro h
    have h0 := ih (by omega)
    have h1 := ent_ge (s := s) h
    have h2 := front_lt (A := A) (s := s) (sm := sm) (v + 1) h
    refine dropF_min hA hs h1.1 h1.2 _ _ (by omega) h2 (fun u hu1 hu2 => ?_)
    exact cfI_shift hs (by omega) (h0.before u (by omega) hu2)

/-! Rows are convex -/
theorem rest_min {A : Nat → Int} {s W : Nat} {sm : Int} (hA : Cvx A W) (hs : 0 ≤ sm) {v u : Nat} (hv : v < W) (h1 : v - s ≤ u) (h2 : u < ent s W (v + 1)) : restC A s sm W v ≤ cfI A sm u v := (front_min hA hs v hv).min u h1 h2
theorem ent_eq {s W v : Nat} : ent s W (v + 1) = min W (v + 1 + s) := by unfold ent; rw [if_neg (by omega)]
theorem sq_mid {p q c d : Int} (h : c + d = p + q) (h1 : c = d ∨ d = c + 1) : c * c + d * d ≤ p * p + q * q := by
  have h2 : 0 ≤ (p - c) * (p - d) := by
    rcases Int.le_total p c with h3 | h3
    · have := Int.mul_nonneg (show 0 ≤ -(p - c) by omega) (show 0 ≤ -(p - d) by omega)
      rwa [Int.neg_mul_neg] at this
    · by_cases h4 : p = c
      · rw [h4]; simp
      · exact Int.mul_nonneg (by omega) (by omega)
  have h3 : p * p + q * q = c * c + d * d + 2 * ((p - c) * (p - d)) := by
    obtain rfl : q = c + d - p := by omega
    grind
  omega
theorem rest_cvx {A : Nat → Int} {s W : Nat} {sm : Int} (hA : Cvx A W) (hs : 0 ≤ sm) : Cvx (restC A s sm W) W := by
  intro v hv
  obtain ⟨a1, a2, -, -⟩ := front_min (s := s) hA hs v (by omega)
  obtain ⟨b1, b2, -, -⟩ := front_min (s := s) hA hs (v + 2) (by omega)
  have ea : restC A s sm W v = cfI A sm (front A s sm W (v + 1)) v := rfl
  have eb : restC A s sm W (v + 2) = cfI A sm (front A s sm W (v + 2 + 1)) (v + 2) := rfl
  rw [ea, eb]
  generalize front A s sm W (v + 1) = a at *
  generalize front A s sm W (v + 2 + 1) = b at *
  rw [ent_eq] at a2 b2
  obtain ⟨c, d, hcd, hdc, hAcd⟩ : ∃ c d : Nat, c + d = a + b ∧ (c = d ∨ d = c + 1) ∧ A c + A d ≤ A a + A b := by
    rcases Nat.le_total a b with h | h
    · by_cases hp : (b - a) % 2 = 0
      · have := hA.mid ((b - a) / 2) a 0 (by omega)
        rw [show a + (b - a) / 2 + 0 = a + (b - a) / 2 by omega, show a + 2 * ((b - a) / 2) + 0 = b by omega] at this
        exact ⟨_, _, by omega, .inl rfl, this⟩
      · have := hA.mid ((b - a) / 2) a 1 (by omega)
        rw [show a + 2 * ((b - a) / 2) + 1 = b by omega] at this
        exact ⟨_, _, by omega, .inr rfl, this⟩
    · by_cases hp : (a - b) % 2 = 0
      · have := hA.mid ((a - b) / 2) b 0 (by omega)
        rw [show b + (a - b) / 2 + 0 = b + (a - b) / 2 by omega, show b + 2 * ((a - b) / 2) + 0 = a by omega] at this
        exact ⟨b + (a - b) / 2, b + (a - b) / 2, by omega, .inl rfl, by omega⟩
      · have := hA.mid ((a - b) / 2) b 1 (by omega)
        rw [show b + 2 * ((a - b) / 2) + 1 = a by omega] at this
        exact ⟨b + (a - b) / 2, b + (a - b) / 2 + 1, by omega, .inr rfl, by omega⟩
  have hc := rest_min (s := s) hA hs (v := v + 1) (u := c) (by omega) (by omega) (by rw [ent_eq]; omega)
  have hd := rest_min (s := s) hA hs (v := v + 1) (u := d) (by omega) (by omega) (by rw [ent_eq]; omega)
  have hq := sq_mid (p := (a : Int) - v) (q := (b : Int) - (v + 2)) (c := (c : Int) - (v + 1)) (d := (d : Int) - (v + 1)) (by omega) (by omega)
  have hq2 := Int.mul_le_mul_of_nonneg_left hq hs
  unfold cfI at *
  rw [show (((v + 1 : Nat) : Int)) = (v : Int) + 1 from rfl] at hc hd
  rw [show (((v + 2 : Nat) : Int)) = (v : Int) + 2 from rfl]
  simp only [Int.mul_add, ← Int.mul_assoc] at hq2
  omega
theorem offSq_cvx {lo : Int} {x : Tgt} (hw : 0 ≤ x.weight) (v : Nat) : offSq lo (v + 1) x + offSq lo (v + 1) x ≤ offSq lo v x + offSq lo (v + 2) x := by
  unfold offSq
  rw [show (((v + 1 : Nat) : Int)) = (v : Int) + 1 from rfl, show (((v + 2 : Nat) : Int)) = (v : Int) + 2 from rfl]
  generalize hd : lo + (v : Int) - x.value = d
  rw [show lo + ((v : Int) + 1) - x.value = d + 1 by omega, show lo + ((v : Int) + 2) - x.value = d + 2 by omega]
  have e : x.weight * d * d + x.weight * (d + 2) * (d + 2) = x.weight * (d + 1) * (d + 1) + x.weight * (d + 1) * (d + 1) + 2 * x.weight := by grind
  omega
theorem tgtC_cvx {lo : Int} {F : Int} {t : Nat} {W : Nat} : ∀ l : List Tgt, (∀ x ∈ l, tgtOk F x = true) → Cvx (tgtC lo l t) W := by
  intro l
  induction l with
  | nil => intro _ v _; simp [tgtC]
  | cons x l ih =>
    intro h v hv
    have h1 := ih (fun y hy => h y (List.mem_cons_of_mem _ hy)) v hv
    obtain ⟨_, _, hw⟩ := tgtOk_in (h x List.mem_cons_self)
    have h2 := offSq_cvx (lo := lo) hw.1 v
    have h3 : ∀ u, tgtC lo (x :: l) t u = (if x.time = (t : Int) then offSq lo u x else 0) + tgtC lo l t u := fun u => by simp [tgtC]
    rw [h3, h3, h3]
    split <;> omega
theorem rowR_cvx {T : Nat → Nat → Int} {s W F : Nat} {sm : Int} (hT : ∀ t, Cvx (T t) W) (hs : 0 ≤ sm) : ∀ d, Cvx (rowR T s sm W F d) W := by
  intro d
  induction d with
  | zero => exact hT _
  | succ d ih =>
    intro v hv
    have h1 := hT (F - 1 - (d + 1)) v hv
    have h2 := rest_cvx (s := s) ih hs v hv
    show T _ (v + 1) + restC _ s sm W (v + 1) + (T _ (v + 1) + restC _ s sm W (v + 1)) ≤ T _ v + restC _ s sm W v + (T _ (v + 2) + restC _ s sm W (v + 2))
    omega
theorem rowCost_cvx {lo : Int} {l : List Tgt} {s W F i : Nat} {sm : Int} (h : ∀ x ∈ l, tgtOk F x = true) (hs : 0 ≤ sm) : Cvx (rowCost (tgtC lo l) s sm W F i) W := rowR_cvx (fun _ => tgtC_cvx l h) hs _
/-- The next value is the first of the least of its window. -/
theorem rowNext_min {lo : Int} {l : List Tgt} {s W F i v : Nat} {sm : Int} (h : ∀ x ∈ l, tgtOk F x = true) (hs : 0 ≤ sm) (hi : i + 1 < F) (hv : v < W) :
    FM (fun u => cfI (rowCost (tgtC lo l) s sm W F (i + 1)) sm u v) (v - s) (ent s W (v + 1)) (rowNext (tgtC lo l) s sm W F i v) := by
  unfold rowNext
  rw [if_pos hi]
  exact front_min (rowCost_cvx h hs) hs v hv
end Go.Proofs.YtejcbcjhmnhefaaDoor
