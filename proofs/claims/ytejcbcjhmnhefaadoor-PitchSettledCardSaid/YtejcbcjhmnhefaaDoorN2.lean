/- The maths of settled contours: what a shift costs; a contour that no shift makes cheaper costs no more than any. The maths of settled contours, over lists: shifted contours. Contracts: whether a shift makes a contour cheaper. -/
import Derived.Test.YtejcbcjhmnhefaaDoorN1
import Derived.Test.YtejcbcjhmnhefaaDoorM11
import Derived.Test.YtejcbcjhmnhefaaDoorT0
import Derived.Deep.LoopGhost
set_option linter.unusedSimpArgs false
set_option linter.unusedVariables false
namespace Go.Proofs.YtejcbcjhmnhefaaDoor
open Go.RowKit

/-- A contour's cost as a function of its values. -/
def frF (sm : Int) (V : Nat → Int) (k : Nat) : Int := if 0 < k then sm * (V k - V (k - 1)) * (V k - V (k - 1)) else 0
def fC (sm : Int) (l : List Tgt) (V : Nat → Int) : Nat → Int
  | 0 => 0
  | k + 1 => fC sm l V k + hereC l k (V k) + frF sm V k
def shV (V : Nat → Int) (d : Int) (i j : Nat) (k : Nat) : Int := if i ≤ k ∧ k ≤ j then V k + d else V k
def mvX (d : Int) (i : Nat) (v : Int) (x : Tgt) : Int := if x.time = (i : Int) then x.weight * (2 * d * (v - x.value) + 1) else 0
def mvC (l : List Tgt) (d : Int) (i : Nat) (v : Int) : Int := (l.map (mvX d i v)).sum
/-- By how much the cost grows if the difference before a frame grows. -/
def bend (sm : Int) (V : Nat → Int) (F f : Nat) (b : Int) : Int := if f = 0 ∨ f = F then 0 else sm * ((V f - V (f - 1) + b) * (V f - V (f - 1) + b) - (V f - V (f - 1)) * (V f - V (f - 1)))
def sumM (l : List Tgt) (V : Nat → Int) (d : Int) (i : Nat) : Nat → Int
  | 0 => 0
  | n + 1 => sumM l V d i n + mvC l d (i + n) (V (i + n))
def grow (sm : Int) (l : List Tgt) (V : Nat → Int) (F : Nat) (d : Int) (i j : Nat) : Int := bend sm V F i d + sumM l V d i (j + 1 - i) + bend sm V F (j + 1) (-d)
theorem mvC_here {l : List Tgt} {d : Int} (hd : d = 1 ∨ d = -1) (k : Nat) (v : Int) : hereC l k (v + d) = hereC l k v + mvC l d k v := by
  induction l with
  | nil => simp [hereC, mvC]
  | cons x l ih =>
    have e1 : ∀ u, hereC (x :: l) k u = hereX k u x + hereC l k u := fun u => by simp [hereC]
    have e2 : mvC (x :: l) d k v = mvX d k v x + mvC l d k v := by simp [mvC]
    rw [e1, e1, e2, ih]
    have e3 : hereX k (v + d) x = hereX k v x + mvX d k v x := by
      unfold hereX mvX
      split
      · rcases hd with rfl | rfl
        · grind
        · grind
      · simp
    omega
theorem fC_shift {sm : Int} {l : List Tgt} {V : Nat → Int} {F : Nat} {d : Int} (hd : d = 1 ∨ d = -1) {i j : Nat} (hij : i ≤ j) (hj : j < F) :
    ∀ k, k ≤ F → fC sm l (shV V d i j) k = fC sm l V k + (if i < k then bend sm V F i d else 0) + sumM l V d i (min k (j + 1) - i) + (if j + 1 < k then bend sm V F (j + 1) (-d) else 0) := by
  intro k
  induction k with
  | zero => intro _; rw [if_neg (by omega), if_neg (by omega), show min 0 (j + 1) - i = 0 by omega]; simp [fC, sumM]
  | succ k ih =>
    intro hk
    unfold fC
    rw [ih (by omega)]
    by_cases c1 : k < i
    · rw [if_neg (by omega), if_neg (by omega), if_neg (by omega), if_neg (by omega), show min k (j + 1) - i = 0 by omega, show min (k + 1) (j + 1) - i = 0 by omega]
      have e1 : shV V d i j k = V k := by unfold shV; rw [if_neg (by omega)]
      have e2 : frF sm (shV V d i j) k = frF sm V k := by
        unfold frF; split
        · have e3 : shV V d i j (k - 1) = V (k - 1) := by unfold shV; rw [if_neg (by omega)]
          rw [e1, e3]
        · rfl
      rw [e1, e2]; simp [sumM]
    · by_cases c2 : k ≤ j
      · have e1 : shV V d i j k = V k + d := by unfold shV; rw [if_pos (by omega)]
        have hs : sumM l V d i (min (k + 1) (j + 1) - i) = sumM l V d i (min k (j + 1) - i) + mvC l d k (V k) := by
          rw [show min (k + 1) (j + 1) - i = (min k (j + 1) - i) + 1 by omega]
          show sumM l V d i (min k (j + 1) - i) + mvC l d (i + (min k (j + 1) - i)) (V (i + (min k (j + 1) - i))) = _
          rw [show i + (min k (j + 1) - i) = k by omega]
        rw [if_pos (show i < k + 1 by omega), if_neg (show ¬ j + 1 < k by omega), if_neg (show ¬ j + 1 < k + 1 by omega), hs, e1, mvC_here hd]
        by_cases c3 : k = i
        · subst c3
          rw [if_neg (by omega)]
          have e2 : frF sm (shV V d k j) k = frF sm V k + bend sm V F k d := by
            unfold frF bend
            by_cases c4 : k = 0
            · subst c4; simp
            · rw [if_pos (by omega), if_pos (by omega), if_neg (by omega), e1]
              have e3 : shV V d k j (k - 1) = V (k - 1) := by unfold shV; rw [if_neg (by omega)]
              rw [e3]
              generalize V k = a
              generalize V (k - 1) = b
              grind
          rw [e2]; omega
        · rw [if_pos (by omega)]
          have e2 : frF sm (shV V d i j) k = frF sm V k := by
            unfold frF
            rw [if_pos (by omega), if_pos (by omega), e1]
            have e3 : shV V d i j (k - 1) = V (k - 1) + d := by unfold shV; rw [if_pos (by omega)]
            rw [e3, show V k + d - (V (k - 1) + d) = V k - V (k - 1) by omega]
          rw [e2]; omega
      · have e1 : shV V d i j k = V k := by unfold shV; rw [if_neg (by omega)]
        rw [if_pos (show i < k by omega), if_pos (show i < k + 1 by omega), if_pos (show j + 1 < k + 1 by omega), show min k (j + 1) = j + 1 by omega, show min (k + 1) (j + 1) = j + 1 by omega, e1]
        by_cases c3 : k = j + 1
        · subst c3
          rw [if_neg (by omega)]
          have e2 : frF sm (shV V d i j) (j + 1) = frF sm V (j + 1) + bend sm V F (j + 1) (-d) := by
            unfold frF bend
            rw [if_pos (by omega), if_pos (by omega), if_neg (by omega), e1]
            have e3 : shV V d i j (j + 1 - 1) = V (j + 1 - 1) + d := by unfold shV; rw [if_pos (by omega)]
            rw [e3]
            generalize V (j + 1) = a
            generalize V (j + 1 - 1) = b
            grind
          rw [e2]; omega
        · rw [if_pos (by omega)]
          have e2 : frF sm (shV V d i j) k = frF sm V k := by
            unfold frF
            rw [if_pos (by omega), if_pos (by omega), e1]
            have e3 : shV V d i j (k - 1) = V (k - 1) := by unfold shV; rw [if_neg (by omega)]
            rw [e3]
          rw [e2]; omega
/-- What a shift costs. -/
theorem fC_grow {sm : Int} {l : List Tgt} {V : Nat → Int} {F : Nat} {d : Int} (hd : d = 1 ∨ d = -1) {i j : Nat} (hij : i ≤ j) (hj : j < F) : fC sm l (shV V d i j) F = fC sm l V F + grow sm l V F d i j := by
  rw [fC_shift hd hij hj F (Nat.le_refl _), if_pos (by omega), show min F (j + 1) = j + 1 by omega]
  unfold grow
  by_cases c : j + 1 < F
  · rw [if_pos c]; omega
  · rw [if_neg c, show bend sm V F (j + 1) (-d) = 0 by unfold bend; rw [if_pos (by omega)]]; omega
/-- Contours as functions. -/
def ctrF (lo hi sl : Int) (F : Nat) (V : Nat → Int) : Prop := (∀ k, k < F → lo ≤ V k ∧ V k ≤ hi) ∧ ∀ k, k + 1 < F → -sl ≤ V (k + 1) - V k ∧ V (k + 1) - V k ≤ sl
def mayB (sl : Int) (F : Nat) (V : Nat → Int) (f : Nat) (b : Int) : Prop := f = 0 ∨ f = F ∨ (-sl ≤ V f - V (f - 1) + b ∧ V f - V (f - 1) + b ≤ sl)
def canS (lo hi sl : Int) (F : Nat) (V : Nat → Int) (d : Int) (i j : Nat) : Prop := mayB sl F V i d ∧ (∀ k, i ≤ k → k ≤ j → lo ≤ V k + d ∧ V k + d ≤ hi) ∧ mayB sl F V (j + 1) (-d)
theorem ctr_shift {lo hi sl : Int} {F : Nat} {V : Nat → Int} {d : Int} {i j : Nat} (hij : i ≤ j) (hj : j < F) (hV : ctrF lo hi sl F V) : ctrF lo hi sl F (shV V d i j) ↔ canS lo hi sl F V d i j := by
  have e1 : ∀ k, i ≤ k → k ≤ j → shV V d i j k = V k + d := fun k h1 h2 => by unfold shV; rw [if_pos ⟨h1, h2⟩]
  have e0 : ∀ k, ¬ (i ≤ k ∧ k ≤ j) → shV V d i j k = V k := fun k h => by unfold shV; rw [if_neg h]
  constructor
  · rintro ⟨h1, h2⟩
    refine ⟨?_, fun k hk1 hk2 => ?_, ?_⟩
    · by_cases c : i = 0
      · exact .inl c
      · right; right
        have := h2 (i - 1) (by omega)
        rw [show i - 1 + 1 = i by omega, e1 i (Nat.le_refl _) hij, e0 (i - 1) (by omega)] at this
        omega
    · have := h1 k (by omega)
      rwa [e1 k hk1 hk2] at this
    · by_cases c : j + 1 = F
      · exact .inr (.inl c)
      · right; right
        have := h2 j (by omega)
        rw [e1 j hij (Nat.le_refl _), e0 (j + 1) (by omega)] at this
        rw [show j + 1 - 1 = j by omega]
        omega
  · rintro ⟨h1, h2, h3⟩
    refine ⟨fun k hk => ?_, fun k hk => ?_⟩
    · by_cases c : i ≤ k ∧ k ≤ j
      · rw [e1 k c.1 c.2]; exact h2 k c.1 c.2
      · rw [e0 k c]; exact hV.1 k hk
    · have hv := hV.2 k hk
      by_cases c1 : i ≤ k ∧ k ≤ j
      · rw [e1 k c1.1 c1.2]
        by_cases c2 : k = j
        · subst c2
          rw [e0 (k + 1) (by omega)]
          rcases h3 with h | h | h
          · omega
          · omega
          · rw [show k + 1 - 1 = k by omega] at h; omega
        · rw [e1 (k + 1) (by omega) (by omega)]; omega
      · rw [e0 k c1]
        by_cases c2 : k + 1 = i
        · subst c2
          rw [e1 (k + 1) (Nat.le_refl _) hij]
          rcases h1 with h | h | h
          · omega
          · omega
          · rw [show k + 1 - 1 = k by omega] at h; omega
        · rw [e0 (k + 1) (by omega)]; exact hv
theorem arg_max (f : Nat → Int) : ∀ F, 0 < F → ∃ k, k < F ∧ ∀ m, m < F → f m ≤ f k := by
  intro F
  induction F with
  | zero => intro h; omega
  | succ F ih =>
    intro _
    by_cases h0 : F = 0
    · subst h0; exact ⟨0, by omega, fun m hm => by obtain rfl : m = 0 := by omega
                                                   exact Int.le_refl _⟩
    · obtain ⟨k, hk, h⟩ := ih (by omega)
      by_cases c : f k < f F
      · exact ⟨F, by omega, fun m hm => by
          by_cases e : m = F
          · subst e; exact Int.le_refl _
          · have := h m (by omega); omega⟩
      · exact ⟨k, by omega, fun m hm => by
          by_cases e : m = F
          · subst e; omega
          · exact h m (by omega)⟩
theorem run_down (f : Nat → Int) (M : Int) : ∀ k, f k = M → ∃ i, i ≤ k ∧ (∀ m, i ≤ m → m ≤ k → f m = M) ∧ (i = 0 ∨ f (i - 1) ≠ M) := by
  intro k
  induction k with
  | zero => intro h; exact ⟨0, by omega, fun m _ hm => by obtain rfl : m = 0 := by omega
                                                          exact h, .inl rfl⟩
  | succ k ih =>
    intro h
    by_cases c : f k = M
    · obtain ⟨i, h1, h2, h3⟩ := ih c
      exact ⟨i, by omega, fun m hm1 hm2 => by
        by_cases e : m = k + 1
        · subst e; exact h
        · exact h2 m hm1 (by omega), h3⟩
    · exact ⟨k + 1, by omega, fun m hm1 hm2 => by obtain rfl : m = k + 1 := by omega
                                                  exact h, .inr c⟩
theorem run_up (f : Nat → Int) (M : Int) : ∀ n k, f k = M → ∃ j, k ≤ j ∧ j ≤ k + n ∧ (∀ m, k ≤ m → m ≤ j → f m = M) ∧ (j = k + n ∨ f (j + 1) ≠ M) := by
  intro n
  induction n with
  | zero => intro k h; exact ⟨k, by omega, by omega, fun m _ _ => by obtain rfl : m = k := by omega
                                                                     exact h, .inl rfl⟩
  | succ n ih =>
    intro k h
    by_cases c : f (k + 1) = M
    · obtain ⟨j, h1, h2, h3, h4⟩ := ih (k + 1) c
      exact ⟨j, by omega, by omega, fun m hm1 hm2 => by
        by_cases e : m = k
        · subst e; exact h
        · exact h3 m (by omega) hm2, h4.imp (by omega) id⟩
    · exact ⟨k, by omega, by omega, fun m _ _ => by obtain rfl : m = k := by omega
                                                    exact h, .inr c⟩
def dist (A B : Nat → Int) : Nat → Nat
  | 0 => 0
  | k + 1 => dist A B k + (A k - B k).natAbs
theorem dist_zero {A B : Nat → Int} : ∀ F, (∀ k, k < F → A k = B k) ∨ ∃ k, k < F ∧ A k ≠ B k := by
  intro F
  induction F with
  | zero => left; intro k h; omega
  | succ F ih =>
    rcases ih with h | ⟨k, hk, h⟩
    · by_cases c : A F = B F
      · left; intro k hk
        by_cases e : k = F
        · subst e; exact c
        · exact h k (by omega)
      · exact .inr ⟨F, by omega, c⟩
    · exact .inr ⟨k, by omega, h⟩
theorem dist_less {A B C : Nat → Int} {i : Nat} : ∀ F, i < F → (∀ k, k < F → (C k - B k).natAbs ≤ (A k - B k).natAbs) → (C i - B i).natAbs < (A i - B i).natAbs → dist C B F < dist A B F := by
  have hle : ∀ F, (∀ k, k < F → (C k - B k).natAbs ≤ (A k - B k).natAbs) → dist C B F ≤ dist A B F := by
    intro F
    induction F with
    | zero => intro _; exact Nat.le_refl _
    | succ F ih =>
      intro h
      have h1 := ih (fun k hk => h k (by omega))
      have h2 := h F (by omega)
      unfold dist; omega
  intro F
  induction F with
  | zero => intro h; omega
  | succ F ih =>
    intro hi h hlt
    have h2 := h F (by omega)
    unfold dist
    by_cases e : i = F
    · subst e
      have := hle i (fun k hk => h k (by omega)); omega
    · have := ih (by omega) (fun k hk => h k (by omega)) hlt; omega
theorem fC_congr {sm : Int} {l : List Tgt} {A B : Nat → Int} : ∀ F, (∀ k, k < F → A k = B k) → fC sm l A F = fC sm l B F := by
  intro F
  induction F with
  | zero => intro _; rfl
  | succ F ih =>
    intro h
    unfold fC
    rw [ih (fun k hk => h k (by omega)), h F (by omega)]
    have : frF sm A F = frF sm B F := by
      unfold frF
      split
      · rw [h F (by omega), h (F - 1) (by omega)]
      · rfl
    rw [this]
theorem mvC_two {F : Int} {d : Int} (hd : d = 1 ∨ d = -1) {u v : Int} (h : 1 ≤ d * (u - v)) (k : Nat) : ∀ l : List Tgt, (∀ x ∈ l, 0 ≤ x.weight) → mvC l d k v + mvC l (-d) k u ≤ 0 := by
  intro l
  induction l with
  | nil => intro _; simp [mvC]
  | cons x l ih =>
    intro hx
    have h1 := ih fun y hy => hx y (List.mem_cons_of_mem _ hy)
    have hw := hx x List.mem_cons_self
    have e : ∀ d u, mvC (x :: l) d k u = mvX d k u x + mvC l d k u := fun d u => by simp [mvC]
    rw [e, e]
    have e2 : mvX d k v x + mvX (-d) k u x ≤ 0 := by
      unfold mvX
      split
      · have e3 : x.weight * (2 * d * (v - x.value) + 1) + x.weight * (2 * -d * (u - x.value) + 1) = -(2 * (x.weight * (d * (u - v) - 1))) := by grind
        have e4 := Int.mul_nonneg hw (show 0 ≤ d * (u - v) - 1 by omega)
        omega
      · omega
    omega
theorem sumM_two {d : Int} (hd : d = 1 ∨ d = -1) {U V : Nat → Int} {l : List Tgt} (hx : ∀ x ∈ l, 0 ≤ x.weight) {i : Nat} : ∀ n, (∀ m, m < n → 1 ≤ d * (U (i + m) - V (i + m))) → sumM l V d i n + sumM l U (-d) i n ≤ 0 := by
  intro n
  induction n with
  | zero => intro _; simp [sumM]
  | succ n ih =>
    intro h
    have h1 := ih fun m hm => h m (by omega)
    have h2 := mvC_two (F := 0) hd (h n (by omega)) (i + n) l hx
    unfold sumM
    omega
/-- A contour that no shift makes cheaper costs no more than any. -/
theorem settled_least {lo hi sl sm : Int} {l : List Tgt} {F : Nat} {V : Nat → Int} (hs : 0 ≤ sm) (hx : ∀ x ∈ l, 0 ≤ x.weight) (hV : ctrF lo hi sl F V)
    (hset : ∀ d i j, (d = 1 ∨ d = -1) → i ≤ j → j < F → canS lo hi sl F V d i j → 0 ≤ grow sm l V F d i j) : ∀ n, ∀ B : Nat → Int, dist B V F ≤ n → ctrF lo hi sl F B → fC sm l V F ≤ fC sm l B F := by
  intro n
  induction n with
  | zero =>
    intro B hn hB
    rcases dist_zero (A := B) (B := V) F with h | ⟨k, hk, h⟩
    · rw [fC_congr F h]; exact Int.le_refl _
    · have := dist_less (A := B) (B := V) (C := V) (i := k) F hk (fun m _ => by omega) (by omega); omega
  | succ n ih =>
    intro B hn hB
    rcases dist_zero (A := B) (B := V) F with h | ⟨k0, hk0, h⟩
    · rw [fC_congr F h]; exact Int.le_refl _
    · obtain ⟨d, hd, k, hk, hmax, hpos⟩ : ∃ d : Int, (d = 1 ∨ d = -1) ∧ ∃ k, k < F ∧ (∀ m, m < F → d * (B m - V m) ≤ d * (B k - V k)) ∧ 1 ≤ d * (B k - V k) := by
        by_cases c : V k0 < B k0
        · obtain ⟨k, hk, hm⟩ := arg_max (fun m => 1 * (B m - V m)) F (by omega)
          exact ⟨1, .inl rfl, k, hk, hm, by have := hm k0 hk0; omega⟩
        · obtain ⟨k, hk, hm⟩ := arg_max (fun m => -1 * (B m - V m)) F (by omega)
          exact ⟨-1, .inr rfl, k, hk, hm, by have := hm k0 hk0; omega⟩
      obtain ⟨M, hM⟩ : ∃ M, M = d * (B k - V k) := ⟨_, rfl⟩
      rw [← hM] at hmax hpos
      obtain ⟨i, hik, hi2, hi3⟩ := run_down (fun m => d * (B m - V m)) M k hM.symm
      obtain ⟨j, hkj, hjF, hj2, hj3⟩ := run_up (fun m => d * (B m - V m)) M (F - 1 - k) k hM.symm
      have hrun : ∀ m, i ≤ m → m ≤ j → d * (B m - V m) = M := fun m h1 h2 => by
        by_cases c : m ≤ k
        · exact hi2 m h1 c
        · exact hj2 m (by omega) h2
      have hb1 : i = 0 ∨ d * (B (i - 1) - V (i - 1)) ≤ M - 1 := hi3.imp id fun h => by have := hmax (i - 1) (by omega); omega
      have hb2 : j + 1 = F ∨ (j + 1 < F ∧ d * (B (j + 1) - V (j + 1)) ≤ M - 1) := by
        rcases hj3 with h | h
        · left; omega
        · by_cases c : j + 1 = F
          · exact .inl c
          · right; refine ⟨by omega, ?_⟩; have := hmax (j + 1) (by omega); omega
      have hij : i ≤ j := by omega
      have hj : j < F := by omega
      -- the shift of V towards B, and that of B towards V
      have hcV : canS lo hi sl F V d i j := by
        refine ⟨?_, fun m h1 h2 => ?_, ?_⟩
        · rcases hb1 with h | h
          · exact .inl h
          · by_cases c : i = 0
            · exact .inl c
            · right; right
              have h1 := hrun i (Nat.le_refl _) hij
              have h2 := hV.2 (i - 1) (by omega)
              have h3 := hB.2 (i - 1) (by omega)
              rw [show i - 1 + 1 = i by omega] at h2 h3
              rcases hd with rfl | rfl <;> omega
        · have h3 := hrun m h1 h2
          have h4 := hV.1 m (by omega)
          have h5 := hB.1 m (by omega)
          rcases hd with rfl | rfl <;> omega
        · rcases hb2 with h | ⟨h0, h⟩
          · exact .inr (.inl h)
          · right; right
            have h1 := hrun j hij (Nat.le_refl _)
            have h2 := hV.2 j (by omega)
            have h3 := hB.2 j (by omega)
            rw [show j + 1 - 1 = j by omega]
            rcases hd with rfl | rfl <;> omega
      have hcB : canS lo hi sl F B (-d) i j := by
        refine ⟨?_, fun m h1 h2 => ?_, ?_⟩
        · rcases hb1 with h | h
          · exact .inl h
          · by_cases c : i = 0
            · exact .inl c
            · right; right
              have h1 := hrun i (Nat.le_refl _) hij
              have h2 := hV.2 (i - 1) (by omega)
              have h3 := hB.2 (i - 1) (by omega)
              rw [show i - 1 + 1 = i by omega] at h2 h3
              rcases hd with rfl | rfl <;> omega
        · have h3 := hrun m h1 h2
          have h4 := hV.1 m (by omega)
          have h5 := hB.1 m (by omega)
          rcases hd with rfl | rfl <;> omega
        · rcases hb2 with h | ⟨h0, h⟩
          · exact .inr (.inl h)
          · right; right
            have h1 := hrun j hij (Nat.le_refl _)
            have h2 := hV.2 j (by omega)
            have h3 := hB.2 j (by omega)
            rw [show j + 1 - 1 = j by omega]
            rcases hd with rfl | rfl <;> omega
      have hg := hset d i j hd hij hj hcV
      have hd' : -d = 1 ∨ -d = -1 := by omega
      have hgB := fC_grow (sm := sm) (l := l) (V := B) (F := F) hd' hij hj
      have hB' := (ctr_shift hij hj hB).2 hcB
      have hs1 := sumM_two hd (U := B) (V := V) hx (i := i) (j + 1 - i) fun m hm => by rw [hrun (i + m) (by omega) (by omega)]; exact hpos
      have hbn : ∀ f x : Nat, ∀ b : Int, (b = 1 ∨ b = -1) → f = x + 1 → 1 ≤ b * ((B f - B x) - (V f - V x)) → bend sm V F f b + bend sm B F f (-b) ≤ 0 := by
        intro f x b hb hf h
        subst hf
        unfold bend
        split
        · omega
        · rw [show x + 1 - 1 = x by omega]
          have e4 := Int.mul_nonneg hs (show 0 ≤ b * ((B (x + 1) - B x) - (V (x + 1) - V x)) - 1 by omega)
          generalize B (x + 1) - B x = p at *
          generalize V (x + 1) - V x = q at *
          have e3 : sm * ((q + b) * (q + b) - q * q) + sm * ((p + -b) * (p + -b) - p * p) = -(2 * (sm * (b * (p - q) - 1))) := by
            rcases hb with rfl | rfl <;> grind
          omega
      have hs0 : bend sm V F i d + bend sm B F i (-d) ≤ 0 := by
        by_cases c : i = 0
        · unfold bend; rw [if_pos (.inl c), if_pos (.inl c)]; omega
        · refine hbn i (i - 1) d hd (by omega) ?_
          have h1 := hrun i (Nat.le_refl _) hij
          have h2 := hb1.resolve_left c
          rcases hd with rfl | rfl <;> omega
      have hs2 : bend sm V F (j + 1) (-d) + bend sm B F (j + 1) (- -d) ≤ 0 := by
        rcases hb2 with c | ⟨h0, h⟩
        · unfold bend; rw [if_pos (.inr c), if_pos (.inr c)]; omega
        · refine hbn (j + 1) j (-d) hd' rfl ?_
          have h1 := hrun j hij (Nat.le_refl _)
          rcases hd with rfl | rfl <;> omega
      have hgg : grow sm l V F d i j + grow sm l B F (-d) i j ≤ 0 := by unfold grow; omega
      have hcl : ∀ m, (shV B (-d) i j m - V m).natAbs ≤ (B m - V m).natAbs := fun m => by
        unfold shV
        split
        · rename_i c
          have := hrun m c.1 c.2
          rcases hd with rfl | rfl <;> omega
        · exact Nat.le_refl _
      have hdist := dist_less (A := B) (B := V) (C := shV B (-d) i j) (i := i) F (by omega) (fun m _ => hcl m) (by
        have := hrun i (Nat.le_refl _) hij
        unfold shV; rw [if_pos ⟨Nat.le_refl _, hij⟩]
        rcases hd with rfl | rfl <;> omega)
      have := ih (shV B (-d) i j) (by omega) hB'
      omega
end Go.Proofs.YtejcbcjhmnhefaaDoor
namespace Go.Proofs.YtejcbcjhmnhefaaDoor
open Go.RowKit

abbrev vF (vs : List Int) : Nat → Int := fun k => vs.getD k 0
def shL (F : Nat) (vs : List Int) (d : Int) (i j : Nat) : List Int := (List.range F).map (shV (vF vs) d i j)
theorem shL_len (F : Nat) (vs : List Int) (d : Int) (i j : Nat) : (shL F vs d i j).length = F := by simp [shL]
theorem shL_get {F : Nat} {vs : List Int} {d : Int} {i j k : Nat} (hk : k < F) : (shL F vs d i j).getD k 0 = shV (vF vs) d i j k := by
  rw [getD_at (by rw [shL_len]; exact hk)]; simp [shL]
theorem mvC_mov (l : List Tgt) (vs : List Int) (d : Int) (i : Nat) : mvC l d i (vs.getD i 0) = movC l vs d i := rfl
theorem refC_fC (sm : Int) (l : List Tgt) (vs : List Int) : ∀ k, refC sm l vs k = fC sm l (vF vs) k := by
  intro k
  induction k with
  | zero => rfl
  | succ k ih => unfold refC fC; rw [ih]; rfl
theorem costOf_fC {p : Con} {vs : List Int} {F : Nat} (hl : vs.length = F) (h : ∀ x ∈ p.targets, tgtOk F x = true) : costOf p vs = fC p.smooth p.targets (vF vs) F := by
  rw [← refC_fC, refC_all _ h]; unfold costOf; rw [hl]
theorem ctrB_iff {lo hi sl : Int} {vs : List Int} : ∀ n, ctrB lo hi sl vs n = true ↔ ∀ k, k < n → ctrAt lo hi sl vs k = true := by
  intro n
  induction n with
  | zero => exact ⟨fun _ k hk => by omega, fun _ => rfl⟩
  | succ n ih =>
    unfold ctrB
    rw [Bool.and_eq_true, ih]
    constructor
    · rintro ⟨h1, h2⟩ k hk
      by_cases e : k = n
      · subst e; exact h2
      · exact h1 k (by omega)
    · intro h
      exact ⟨fun k hk => h k (by omega), h n (by omega)⟩
theorem ctrOk_iff {p : Con} {vs : List Int} {F : Nat} (hF : p.frames = (F : Int)) (hl : vs.length = F) : ctrOk p vs = true ↔ ctrF p.low p.high p.slope F (vF vs) := by
  unfold ctrOk
  rw [Bool.and_eq_true, ctrB_iff, hl, hF]
  simp only [decide_true, true_and]
  unfold ctrAt ctrF vF
  constructor
  · intro h
    refine ⟨fun k hk => ?_, fun k hk => ?_⟩
    · have := h k hk
      rw [Bool.and_eq_true] at this
      exact betw_in this.1
    · have := h (k + 1) hk
      rw [Bool.and_eq_true, Bool.or_eq_true] at this
      rcases this.2 with h1 | h1
      · simp at h1
      · exact betw_in h1
  · intro h k hk
    have h1 := h.1 k hk
    rw [Bool.and_eq_true, Bool.or_eq_true]
    refine ⟨by unfold betw; simp only [Bool.and_eq_true, decide_eq_true_eq]; exact h1, ?_⟩
    by_cases c : k = 0
    · exact .inl (by simp [c])
    · right
      have h2 := h.2 (k - 1) (by omega)
      rw [show k - 1 + 1 = k by omega] at h2
      unfold betw; simp only [Bool.and_eq_true, decide_eq_true_eq]; omega
/-- A shift that makes a contour cheaper. -/
def Chp (p : Con) (vs : List Int) (F : Nat) (d : Int) (i j : Nat) : Prop := canS p.low p.high p.slope F (vF vs) d i j ∧ grow p.smooth p.targets (vF vs) F d i j < 0
def Sett (p : Con) (vs : List Int) : Prop := ∀ d i j, (d = 1 ∨ d = -1) → i ≤ j → j < p.frames.toNat → ¬ Chp p vs p.frames.toNat d i j
theorem chp_iff {p : Con} {vs : List Int} {F : Nat} (hF : p.frames = (F : Int)) (hl : vs.length = F) (h : ∀ x ∈ p.targets, tgtOk F x = true) (hc : ctrOk p vs = true) {d : Int} (hd : d = 1 ∨ d = -1) {i j : Nat} (hij : i ≤ j) (hj : j < F) :
    Chp p vs F d i j ↔ ctrOk p (shL F vs d i j) = true ∧ costOf p (shL F vs d i j) < costOf p vs := by
  have hV := (ctrOk_iff hF hl).1 hc
  have e : ∀ k, k < F → vF (shL F vs d i j) k = shV (vF vs) d i j k := fun k hk => shL_get hk
  have h1 : ctrOk p (shL F vs d i j) = true ↔ canS p.low p.high p.slope F (vF vs) d i j := by
    rw [ctrOk_iff hF (shL_len F vs d i j), ← ctr_shift hij hj hV]
    unfold ctrF
    constructor
    · rintro ⟨a, b⟩
      exact ⟨fun k hk => by rw [← e k hk]; exact a k hk, fun k hk => by rw [← e k (by omega), ← e (k + 1) hk]; exact b k hk⟩
    · rintro ⟨a, b⟩
      exact ⟨fun k hk => by rw [e k hk]; exact a k hk, fun k hk => by rw [e k (by omega), e (k + 1) hk]; exact b k hk⟩
  have h2 : costOf p (shL F vs d i j) = costOf p vs + grow p.smooth p.targets (vF vs) F d i j := by
    rw [costOf_fC (shL_len F vs d i j) h, costOf_fC hl h, ← fC_grow hd hij hj]
    exact fC_congr F e
  rw [h1, h2]
  unfold Chp
  exact and_congr_right fun _ => by omega
theorem sett_iff {p : Con} {vs : List Int} (hok : conOk p = true) (hc : ctrOk p vs = true) : Sett p vs ↔ costOf p vs = costOf p (bestL p) := by
  obtain ⟨hf, _, _, _, hsm, _, hts⟩ := conOk_parts hok
  have hF : p.frames = ((p.frames.toNat : Nat) : Int) := by omega
  have ht := frames_tgt hok
  have hl : vs.length = p.frames.toNat := by have := (ctrOk_in hc).1; omega
  constructor
  · intro hs
    have hb := best_ctr hok
    have h1 := best_min hok hc
    have h2 := settled_least (V := vF vs) (lo := p.low) (hi := p.high) (sl := p.slope) (F := p.frames.toNat) hsm.1 (fun x hx => (tgtOk_in (ht x hx)).2.2.1) ((ctrOk_iff hF hl).1 hc) (fun d i j hd hij hj hcs => by
      have := hs d i j hd hij hj
      unfold Chp at this
      by_cases c : grow p.smooth p.targets (vF vs) p.frames.toNat d i j < 0
      · exact absurd ⟨hcs, c⟩ this
      · omega) _ (vF (bestL p)) (Nat.le_refl _) ((ctrOk_iff hF (bestL_len p)).1 hb)
    rw [costOf_fC hl ht] at h1 ⊢
    rw [costOf_fC (bestL_len p) ht] at h1 ⊢
    omega
  · intro he d i j hd hij hj h
    obtain ⟨h1, h2⟩ := (chp_iff hF hl ht hc hd hij hj).1 h
    have := best_min hok h1
    omega
end Go.Proofs.YtejcbcjhmnhefaaDoor
namespace Go.Proofs.YtejcbcjhmnhefaaDoor
open Go.RowKit

def mayC (sl : Int) (F : Nat) (V : Nat → Int) (f : Nat) (b : Int) : Bool := decide (f = 0) || decide (f = F) || betw (V f - V (f - 1) + b) (-sl) sl
theorem mayC_iff {sl : Int} {F : Nat} {V : Nat → Int} {f : Nat} {b : Int} : mayC sl F V f b = true ↔ mayB sl F V f b := by
  unfold mayC mayB betw
  simp only [Bool.or_eq_true, Bool.and_eq_true, decide_eq_true_eq, or_assoc]
theorem bend_in {sm lo hi b : Int} {vs : List Int} {F f : Nat} (hhi : hi ≤ lo + 400) (hsm : 0 ≤ sm ∧ sm ≤ 1000) (hb : b = 1 ∨ b = -1) (hf : f ≤ F) (hvs : ∀ i, i < F → lo ≤ vs.getD i 0 ∧ vs.getD i 0 ≤ hi) : -1000000000 ≤ bend sm (vF vs) F f b ∧ bend sm (vF vs) F f b ≤ 1000000000 := by
  unfold bend
  split
  · omega
  · have h1 := hvs f (by omega)
    have h2 := hvs (f - 1) (by omega)
    unfold vF
    generalize hd : vs.getD f 0 - vs.getD (f - 1) 0 = d
    have e : (d + b) * (d + b) - d * d = 2 * b * d + 1 := by rcases hb with rfl | rfl <;> grind
    rw [e]
    have hd1 : -400 ≤ d ∧ d ≤ 400 := by omega
    have := mul_in (A := 1000) (B := 1000) (show -1000 ≤ sm by omega) (by omega) (show -1000 ≤ 2 * b * d + 1 by rcases hb with rfl | rfl <;> omega) (by rcases hb with rfl | rfl <;> omega)
    omega

set_option maxRecDepth 100000 in
set_option maxHeartbeats 8000000 in
theorem bent_any (F vb vo vc cb pb f : Nat) (lo hi sl sm b : Int) (vs : List Int) (w : World) (hF : F ≤ 200) (hf : f ≤ F) (hlo : -100000 ≤ lo ∧ lo ≤ 100000) (hhi : hi ≤ lo + 400) (hsl : 0 ≤ sl ∧ sl ≤ 400) (hsm : 0 ≤ sm ∧ sm ≤ 1000) (hb : b = 1 ∨ b = -1)
    (hvs : ∀ i, i < F → lo ≤ vs.getD i 0 ∧ vs.getD i 0 ≤ hi) (hc : w.cell? ⟨cb, 0, none⟩ = some (.slice (some ⟨vb, vo, none⟩) F vc)) (h3 : w.cell? ⟨pb, 3, none⟩ = some (.int .i64 sl)) (h4 : w.cell? ⟨pb, 4, none⟩ = some (.int .i64 sm))
    (hX : ∀ i, i < F → w.cell? ⟨vb, vo + i, none⟩ = some (.int .i64 (vs.getD i 0))) :
    Calls Tryd.prog 80 #[.int .i64 f, .int .i64 b, .pointer (some ⟨cb, 0, none⟩), .pointer (some ⟨pb, 0, none⟩)] w
      fun e w' => e = .returned (.tuple #[.int .i64 (bend sm (vF vs) F f b), .bool (mayC sl F (vF vs) f b)]) ∧ Below w.heap.size w w' := by
  have hlc := cell_lt hc
  have hlp := cell_lt h3
  by_cases f0 : f = 0
  · subst f0
    have e1 : bend sm (vF vs) F 0 b = 0 := by unfold bend; rw [if_pos (.inl rfl)]
    have e2 : mayC sl F (vF vs) 0 b = true := by simp [mayC]
    rw [e1, e2]
    clear hX hvs
    go_enter Tryd.func80, Tryd.ntmps80
    go_wp2_with fail
    go_ret2
    exact ⟨rfl, Below.refl _ _⟩
  · by_cases fF : f = F
    · subst fF
      have e1 : bend sm (vF vs) f f b = 0 := by unfold bend; rw [if_pos (.inr rfl)]
      have e2 : mayC sl f (vF vs) f b = true := by simp [mayC]
      have i0 : ¬ ((f : Int) = 0) := by omega
      rw [e1, e2]
      clear hX hvs
      go_enter Tryd.func80, Tryd.ntmps80
      go_wp2_with fail
      go_ret2
      exact ⟨rfl, Below.refl _ _⟩
    · obtain ⟨q, rfl⟩ : ∃ q, f = q + 1 := ⟨f - 1, by omega⟩
      have ek := hX (q + 1) (by omega)
      have eq := hX q (by omega)
      have h1 := hvs (q + 1) (by omega)
      have h2 := hvs q (by omega)
      have HE : Hid (bend sm (vF vs) F (q + 1) b = sm * ((vs.getD (q + 1) 0 - vs.getD q 0 + b) * (vs.getD (q + 1) 0 - vs.getD q 0 + b) - (vs.getD (q + 1) 0 - vs.getD q 0) * (vs.getD (q + 1) 0 - vs.getD q 0)) ∧ mayC sl F (vF vs) (q + 1) b = betw (vs.getD (q + 1) 0 - vs.getD q 0 + b) (-sl) sl) := Lib.hid ⟨by unfold bend; rw [if_neg (by omega)]; rfl, by unfold mayC; rw [decide_eq_false (by omega), decide_eq_false (by omega)]; rfl⟩
      have hlv := cell_lt ek
      rw [HE.out.1, HE.out.2]
      rw [show ((q + 1 : Nat) : Int) = (q : Int) + 1 from rfl] at *
      clear hX hvs
      generalize vs.getD (q + 1) 0 = u1 at *
      generalize vs.getD q 0 = u0 at *
      have i1 : (0 : Int) ≤ (q : Int) + 1 := by omega
      have i2 : (q : Int) + 1 < (F : Int) := by omega
      have i3 : (q : Int) < (F : Int) := by omega
      have i4 : ((q : Int) + 1).toNat = q + 1 := by omega
      have i6 : (q : Int) + 1 - 1 = (q : Int) := by omega
      have i7 : ¬ ((q : Int) + 1 = 0) := by omega
      have i8 : ¬ ((q : Int) + 1 = (F : Int)) := by omega
      have d7 : ((q : Int) + 1 == 0) = false := by simp; omega
      have d8 : ((q : Int) + 1 == (F : Int)) = false := by simp; omega
      have w0 : IntKind.i64.wrap (u1 - u0) = u1 - u0 := IntWalk.i64_in _ (by omega)
      obtain ⟨dd, hdd⟩ : ∃ dd, dd = u1 - u0 := ⟨_, rfl⟩
      have hd1 : -400 ≤ dd ∧ dd ≤ 400 := by omega
      rw [← hdd] at w0 ⊢
      have w1 : IntKind.i64.wrap (dd + b) = dd + b := IntWalk.i64_in _ (by omega)
      have m1 := mul_in (A := 1000) (B := 1000) (show -1000 ≤ dd + b by omega) (by omega) (show -1000 ≤ dd + b by omega) (by omega)
      have m2 := mul_in (A := 1000) (B := 1000) (show -1000 ≤ dd by omega) (by omega) (show -1000 ≤ dd by omega) (by omega)
      have w2 : IntKind.i64.wrap ((dd + b) * (dd + b)) = (dd + b) * (dd + b) := IntWalk.i64_in _ (by omega)
      have w3 : IntKind.i64.wrap (dd * dd) = dd * dd := IntWalk.i64_in _ (by omega)
      have w4 : IntKind.i64.wrap ((dd + b) * (dd + b) - dd * dd) = (dd + b) * (dd + b) - dd * dd := IntWalk.i64_in _ (by omega)
      have m3 := mul_in (A := 1000) (B := 10000000) (show -1000 ≤ sm by omega) (by omega) (show -10000000 ≤ (dd + b) * (dd + b) - dd * dd by omega) (by omega)
      have w5 : IntKind.i64.wrap (sm * ((dd + b) * (dd + b) - dd * dd)) = sm * ((dd + b) * (dd + b) - dd * dd) := IntWalk.i64_in _ (by omega)
      have w6 : IntKind.i64.wrap (-sl) = -sl := IntWalk.i64_in _ (by omega)
      clear hb HE h1 h2
      go_enter Tryd.func80, Tryd.ntmps80
      go_wp2_with fail
      refine wp_opaque fun Q2 hQ2 => ?_
      (refine wp_region_below (by kernel_rfl) (by kernel_rfl) ?_; (repeat (first | go_big_quiet_step ((fail)) | quiet_step ((fail)))); (refine wpQuiet_nil ?_; intro _ hw'; obtain ⟨xq, hw''⟩ := hw'; subst hw''))
      refine hQ2 _ _ _ ?_
      clear hQ2 Q2
      have HBX := Lib.hid xq.2
      rw [← hdd]
      clear hdd w0 ek eq
      have k3 := keep xq.2 h3
      have k4 := keep xq.2 h4
      have hlp2 := cell_lt k3
      generalize xq.val = w7 at *
      go_wp2_with fail
      refine wp_opaque fun Q2 hQ2 => ?_
      (refine wp_region_below (by kernel_rfl) (by kernel_rfl) ?_; (repeat (first | go_big_quiet_step ((go_at_call 47; exact toS (fun w => between_any _ _ _ w) _)) | quiet_step ((go_at_call 47; exact toS (fun w => between_any _ _ _ w) _)))); (refine wpQuiet_nil ?_; intro _ hw'; obtain ⟨xq, hw''⟩ := hw'; subst hw''))
      refine hQ2 _ _ _ ?_
      clear hQ2 Q2
      have HBY := Lib.hid (bThen HBX.out xq.2)
      go_wp2_with fail
      go_ret2
      exact ⟨rfl, HBY.out⟩
end Go.Proofs.YtejcbcjhmnhefaaDoor
