/- The maths of the specification's best contour: loops for the least, and for the first of the least. -/
import Derived.Test.YtejcbcjhmnhefaaDoorM11
set_option linter.unusedSimpArgs false
set_option linter.unusedVariables false
namespace Go.Proofs.YtejcbcjhmnhefaaDoor
open Go.RowKit

/-- What a loop for the least one finds: -1 before the first one. -/
def runB (g : Nat → Int) (a : Nat) : Nat → Int
  | 0 => -1
  | n + 1 => if runB g a n < 0 ∨ g (a + n) < runB g a n then g (a + n) else runB g a n
theorem runB_min {g : Nat → Int} {a : Nat} : ∀ n, (∀ u, u < n → 0 ≤ g (a + u)) → 0 < n → 0 ≤ runB g a n ∧ (∀ u, u < n → runB g a n ≤ g (a + u)) ∧ ∃ u, u < n ∧ runB g a n = g (a + u) := by
  intro n
  induction n with
  | zero => intro _ h; omega
  | succ n ih =>
    intro h _
    have h0 := h n (by omega)
    by_cases hn : n = 0
    · subst hn
      have e : runB g a 1 = g (a + 0) := by unfold runB; rw [if_pos (.inl (by unfold runB; omega))]
      rw [e]
      exact ⟨h0, fun u hu => by obtain rfl : u = 0 := by omega
                                exact Int.le_refl _, 0, by omega, rfl⟩
    · obtain ⟨h1, h2, u, hu, h3⟩ := ih (fun u hu => h u (by omega)) (by omega)
      unfold runB
      by_cases c : g (a + n) < runB g a n
      · rw [if_pos (.inr c)]
        exact ⟨h0, fun v hv => by
          by_cases e : v = n
          · subst e; exact Int.le_refl _
          · have := h2 v (by omega); omega, n, by omega, rfl⟩
      · rw [if_neg (by omega)]
        exact ⟨h1, fun v hv => by
          by_cases e : v = n
          · subst e; omega
          · exact h2 v (by omega), u, by omega, h3⟩
theorem FM.runB {g : Nat → Int} {a e f : Nat} (h : FM g a e f) (h0 : ∀ u, a ≤ u → u < e → 0 ≤ g u) : runB g a (e - a) = g f := by
  obtain ⟨h1, h2, h3, h4⟩ := h
  obtain ⟨_, m1, u, hu, m2⟩ := runB_min (g := g) (a := a) (e - a) (fun u hu => h0 _ (by omega) (by omega)) (by omega)
  have m3 := m1 (f - a) (by omega)
  rw [show a + (f - a) = f by omega] at m3
  have m4 : g f ≤ g (a + u) := by
    by_cases c : a + u < f
    · exact Int.le_of_lt (h3 _ (by omega) c)
    · exact h4 _ (by omega) (by omega)
  omega
/-- What a loop for the first of the least ones finds among those that are right. -/
def runF (ok : Nat → Bool) (g : Nat → Int) : Nat → Int × Int
  | 0 => (-1, 0)
  | k + 1 => if ok k = true ∧ ((runF ok g k).1 < 0 ∨ g k < (runF ok g k).2) then ((k : Int), g k) else runF ok g k
theorem runF_in {ok : Nat → Bool} {g : Nat → Int} : ∀ k, ((runF ok g k).1 = -1 ∧ (runF ok g k).2 = 0 ∧ ∀ u, u < k → ok u = false) ∨ ∃ u, u < k ∧ ok u = true ∧ (runF ok g k).1 = (u : Int) ∧ (runF ok g k).2 = g u ∧ (∀ v, v < u → ok v = true → g u < g v) ∧ (∀ v, v < k → ok v = true → g u ≤ g v) := by
  intro k
  induction k with
  | zero => left; exact ⟨rfl, rfl, fun u h => by omega⟩
  | succ k ih =>
    unfold runF
    rcases ih with ⟨h1, h2, h3⟩ | ⟨u, hu, h0, h1, h2, h3, h4⟩
    · by_cases c : ok k = true
      · rw [if_pos ⟨c, .inl (by omega)⟩]
        right
        refine ⟨k, by omega, c, rfl, rfl, fun v hv hv2 => ?_, fun v hv hv2 => ?_⟩
        · rw [h3 v hv] at hv2; cases hv2
        · by_cases e : v = k
          · subst e; exact Int.le_refl _
          · rw [h3 v (by omega)] at hv2; cases hv2
      · rw [if_neg (fun h => c h.1)]
        left
        refine ⟨h1, h2, fun u hu => ?_⟩
        by_cases e : u = k
        · subst e; simpa using c
        · exact h3 u (by omega)
    · right
      by_cases c : ok k = true ∧ g k < g u
      · rw [if_pos ⟨c.1, .inr (by rw [h2]; exact c.2)⟩]
        refine ⟨k, by omega, c.1, rfl, rfl, fun v hv hv2 => ?_, fun v hv hv2 => ?_⟩
        · have := h4 v hv hv2; omega
        · by_cases e : v = k
          · subst e; exact Int.le_refl _
          · have := h4 v (by omega) hv2; omega
      · rw [if_neg (by rw [h1, h2]; rintro ⟨a, b | b⟩; omega; exact c ⟨a, b⟩)]
        refine ⟨u, by omega, h0, h1, h2, h3, fun v hv hv2 => ?_⟩
        by_cases e : v = k
        · subst e
          have : ¬ g v < g u := fun h => c ⟨hv2, h⟩
          omega
        · exact h4 v (by omega) hv2
theorem FM.runF {ok : Nat → Bool} {g : Nat → Int} {a e f W : Nat} (h : FM g a e f) (heW : e ≤ W) (hok : ∀ u, u < W → (ok u = true ↔ a ≤ u ∧ u < e)) : (runF ok g W).1 = (f : Int) := by
  obtain ⟨h1, h2, h3, h4⟩ := h
  rcases runF_in (ok := ok) (g := g) W with ⟨_, _, m3⟩ | ⟨u, hu, m0, m1, _, m3, m4⟩
  · have := (hok f (by omega)).2 ⟨h1, h2⟩
    rw [m3 f (by omega)] at this; cases this
  · rw [m1]
    have hu2 := (hok u hu).1 m0
    have hf := (hok f (by omega)).2 ⟨h1, h2⟩
    have c1 := m4 f (by omega) hf
    by_cases c : u < f
    · have := h3 u hu2.1 c; omega
    · by_cases c2 : f < u
      · have := m3 f c2 hf
        have := h4 u (by omega) hu2.2; omega
      · omega
theorem rest_runB {A : Nat → Int} {s W : Nat} {sm : Int} (hA : Cvx A W) (hs : 0 ≤ sm) (h0 : ∀ u, u < W → 0 ≤ A u) {v : Nat} (hv : v < W) : runB (fun u => cfI A sm u v) (v - s) (ent s W (v + 1) - (v - s)) = restC A s sm W v :=
  (front_min (s := s) hA hs v hv).runB fun u _ hu => by
    have h1 := h0 u (by rw [ent_eq] at hu; omega)
    have h2 : 0 ≤ sm * ((u : Int) - v) * ((u : Int) - v) := by
      rw [Int.mul_assoc]
      refine Int.mul_nonneg hs ?_
      rcases Int.le_total 0 ((u : Int) - v) with h | h
      · exact Int.mul_nonneg h h
      · have := Int.mul_nonneg (show 0 ≤ -((u : Int) - v) by omega) (show 0 ≤ -((u : Int) - v) by omega)
        rwa [Int.neg_mul_neg] at this
    unfold cfI; omega
/-- The candidates of a frame in the specification's walk. -/
def okB (s : Nat) (W v u : Nat) : Bool := decide (v - s ≤ u) && decide (u < ent s W (v + 1))
def selB (T : Nat → Nat → Int) (s : Nat) (sm : Int) (W F : Nat) : Nat → (Nat → Bool) × (Nat → Int)
  | 0 => (fun _ => true, rowCost T s sm W F 0)
  | i + 1 => (okB s W (bestP T s sm W F i), fun u => cfI (rowCost T s sm W F (i + 1)) sm u (bestP T s sm W F i))
theorem sel_best {lo : Int} {l : List Tgt} {s W F i : Nat} {sm : Int} (h : ∀ x ∈ l, tgtOk F x = true) (hs : 0 ≤ sm) (hW : 0 < W) (hi : i < F) : (runF (selB (tgtC lo l) s sm W F i).1 (selB (tgtC lo l) s sm W F i).2 W).1 = (bestP (tgtC lo l) s sm W F i : Nat) := by
  cases i with
  | zero =>
    have h1 : FM (rowCost (tgtC lo l) s sm W F 0) 0 W (argM (rowCost (tgtC lo l) s sm W F 0) W) :=
      ⟨Nat.zero_le _, argM_lt hW, fun u _ hu => argM_first W hW u hu, fun u _ hu => argM_min W u hu⟩
    exact h1.runF (Nat.le_refl _) (fun u hu => ⟨fun _ => ⟨Nat.zero_le _, hu⟩, fun _ => rfl⟩)
  | succ i =>
    have h1 := rowNext_min (lo := lo) (s := s) (l := l) h hs hi (bestP_lt (T := tgtC lo l) (s := s) (sm := sm) (F := F) hW i)
    rw [← bestP_next] at h1
    exact h1.runF (by rw [ent_eq]; omega) (fun u hu => by unfold selB okB; simp)
end Go.Proofs.YtejcbcjhmnhefaaDoor
