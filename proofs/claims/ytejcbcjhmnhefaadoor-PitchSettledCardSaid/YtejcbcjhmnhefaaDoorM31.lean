/- The maths of raised contours. -/
import Derived.Test.YtejcbcjhmnhefaaDoorM0
import Derived.Test.YtejcbcjhmnhefaaDoorL5
set_option linter.unusedSimpArgs false
set_option linter.unusedVariables false
namespace Go.Proofs.YtejcbcjhmnhefaaDoor
open Go.RowKit

def raiseT (by_ : Int) (x : Tgt) : Tgt := ⟨x.time, x.value + by_, x.weight⟩
def raiseC (p : Con) (by_ : Int) : Con := ⟨p.frames, p.low + by_, p.high + by_, p.slope, p.smooth, p.targets.map (raiseT by_)⟩
theorem tgtC_raise (lo by_ : Int) (l : List Tgt) : tgtC (lo + by_) (l.map (raiseT by_)) = tgtC lo l := by
  funext t v
  unfold tgtC
  rw [List.map_map]
  congr 1
  refine List.map_congr_left fun x _ => ?_
  simp only [Function.comp, raiseT, offSq]
  rw [show lo + by_ + (v : Int) - (x.value + by_) = lo + v - x.value by omega]; rfl
theorem bestL_raise (p : Con) (by_ : Int) : bestL (raiseC p by_) = (bestL p).map (· + by_) := by
  unfold bestL raiseC
  simp only
  rw [tgtC_raise, List.map_map, show p.high + by_ - (p.low + by_) + 1 = p.high - p.low + 1 by omega]
  refine List.map_congr_left fun i _ => ?_
  simp only [Function.comp]
  omega
theorem getD_raise {vs : List Int} {by_ : Int} {i : Nat} (h : i < vs.length) : (vs.map (· + by_)).getD i 0 = vs.getD i 0 + by_ := by
  rw [getD_at (by simpa using h), getD_at h]; simp
theorem tCosts_raise {by_ : Int} {vs : List Int} {F : Nat} (hF : F ≤ vs.length) : ∀ l : List Tgt, (∀ x ∈ l, tgtOk F x = true) → tCosts (l.map (raiseT by_)) (vs.map (· + by_)) = tCosts l vs := by
  intro l h
  unfold tCosts
  rw [List.map_map]
  congr 1
  refine List.map_congr_left fun x hx => ?_
  obtain ⟨h0, _, _⟩ := tgtOk_in (h x hx)
  simp only [Function.comp, tCost, raiseT]
  rw [getD_raise (by omega), show vs.getD x.time.toNat 0 + by_ - (x.value + by_) = vs.getD x.time.toNat 0 - x.value by omega]
theorem sCosts_raise {sm by_ : Int} {vs : List Int} : ∀ k, k + 1 ≤ vs.length → sCosts sm (vs.map (· + by_)) k = sCosts sm vs k := by
  intro k
  induction k with
  | zero => intro _; rfl
  | succ k ih =>
    intro h
    show sCosts sm (vs.map (· + by_)) k + _ = sCosts sm vs k + _
    rw [ih (by omega), getD_raise (by omega), getD_raise (by omega), show vs.getD (k + 1) 0 + by_ - (vs.getD k 0 + by_) = vs.getD (k + 1) 0 - vs.getD k 0 by omega]
theorem conOk_parts {p : Con} (h : conOk p = true) : (1 ≤ p.frames ∧ p.frames ≤ 200) ∧ (-100000 ≤ p.low ∧ p.low ≤ 100000) ∧ (p.low ≤ p.high ∧ p.high ≤ p.low + 400 ∧ p.high ≤ 100000) ∧ (0 ≤ p.slope ∧ p.slope ≤ 400) ∧ (0 ≤ p.smooth ∧ p.smooth ≤ 1000) ∧ p.targets.length ≤ 200 ∧ ∀ x ∈ p.targets, tgtOk p.frames x = true := by
  unfold conOk at h
  simp only [Bool.and_eq_true, decide_eq_true_eq] at h
  obtain ⟨⟨⟨⟨⟨⟨h1, h2⟩, h3⟩, h4⟩, h5⟩, h6⟩, h7⟩ := h
  refine ⟨betw_in h1, betw_in h2, ?_, betw_in h4, betw_in h5, by omega, ?_⟩
  · have := betw_in h3; split at this <;> omega
  · rw [← List.all_eq_not_any_not] at h7
    exact List.all_eq_true.1 h7
theorem cost_raise {p : Con} (by_ : Int) (h : conOk p = true) : costOf (raiseC p by_) (bestL (raiseC p by_)) = costOf p (bestL p) := by
  obtain ⟨h1, _, _, _, _, _, h7⟩ := conOk_parts h
  have hl := bestL_len p
  rw [bestL_raise]
  unfold costOf
  rw [List.length_map]
  have e1 : tCosts (raiseC p by_).targets ((bestL p).map (· + by_)) = tCosts p.targets (bestL p) := tCosts_raise (F := p.frames.toNat) (by omega) _ (by
    intro x hx
    rw [show ((p.frames.toNat : Nat) : Int) = p.frames by omega]; exact h7 x hx)
  have e2 : sCosts (raiseC p by_).smooth ((bestL p).map (· + by_)) ((bestL p).length - 1) = sCosts p.smooth (bestL p) ((bestL p).length - 1) := sCosts_raise _ (by omega)
  rw [e1, e2]

/-! The Slope 0 -/
theorem dropF_zero {A : Nat → Int} {sm : Int} {v : Nat} : ∀ k f, f ≤ v → v ≤ f + k → dropF A 0 sm v (v + 1) k f = v := by
  intro k
  induction k with
  | zero => intro f h1 h2; unfold dropF; omega
  | succ k ih =>
    intro f h1 h2
    unfold dropF
    by_cases h : f < v
    · rw [if_pos (by unfold drops; simp; omega)]
      exact ih _ (by omega) (by omega)
    · obtain rfl : f = v := by omega
      rw [if_neg (by unfold drops; simp)]
theorem front_zero {A : Nat → Int} {sm : Int} {W v : Nat} (h : v < W) : front A 0 sm W (v + 1) = v := by
  have he : ent 0 W (v + 1) = v + 1 := by unfold ent; rw [if_neg (by omega)]; omega
  have h1 := front_lt (A := A) (s := 0) (sm := sm) v h
  rw [he] at h1
  show dropF A 0 sm v (ent 0 W (v + 1)) _ _ = v
  rw [he]
  exact dropF_zero _ _ (by omega) (by omega)
theorem bestP_zero {T : Nat → Nat → Int} {sm : Int} {W F : Nat} (hW : 0 < W) : ∀ i, i < F → bestP T 0 sm W F i = bestP T 0 sm W F 0 := by
  intro i
  induction i with
  | zero => intro _; rfl
  | succ i ih =>
    intro h
    rw [← ih (by omega)]
    show rowNext T 0 sm W F i (bestP T 0 sm W F i) = _
    unfold rowNext
    rw [if_pos h]
    exact front_zero (bestP_lt hW i)

/-! No targets -/
theorem dropF_nil {A : Nat → Int} {s : Nat} {sm : Int} {e : Nat} (hA : A 0 = 0) (hA1 : 1 < e → 0 ≤ A 1) (hs : 0 ≤ sm) : ∀ k, dropF A s sm 0 e k 0 = 0 := by
  intro k
  cases k with
  | zero => rfl
  | succ k =>
    unfold dropF
    rw [if_neg]
    unfold drops
    by_cases h : 1 < e
    · have := hA1 h
      simp [cfI, hA, h]; omega
    · simp [h]
theorem rest_nil {A : Nat → Int} {s : Nat} {sm : Int} {W : Nat} (hA : A 0 = 0) (hA1 : ∀ u, u < W → 0 ≤ A u) (hs : 0 ≤ sm) (hW : 0 < W) : front A s sm W 1 = 0 ∧ restC A s sm W 0 = 0 := by
  have h1 : front A s sm W 1 = 0 := by
    show dropF A s sm 0 _ _ 0 = 0
    exact dropF_nil hA (fun h => hA1 _ (Nat.lt_of_lt_of_le h (ent_ge (s := s) hW).2)) hs _
  refine ⟨h1, ?_⟩
  unfold restC
  rw [h1]
  simp [cfI, hA]
theorem tgtC_nil (lo : Int) (t v : Nat) : tgtC lo [] t v = 0 := by simp [tgtC]
theorem rowR_nil {lo : Int} {s : Nat} {sm : Int} {W F : Nat} (hlo : -100000 ≤ lo ∧ lo ≤ 100000) (hF : F ≤ 200) (hW : W ≤ 401) (hW0 : 0 < W) (hs : 0 ≤ sm ∧ sm ≤ 1000) : ∀ d, d < F → rowR (tgtC lo []) s sm W F d 0 = 0 := by
  intro d
  induction d with
  | zero => intro _; exact tgtC_nil _ _ _
  | succ d ih =>
    intro h
    show tgtC lo [] _ 0 + restC (rowR (tgtC lo []) s sm W F d) s sm W 0 = 0
    rw [tgtC_nil, (rest_nil (ih (by omega)) (fun u hu => (rowR_in (l := []) hlo (by intro x hx; cases hx) (by simp) hF hW hs d (by omega) u hu).1) hs.1 hW0).2]; rfl
theorem argM_nil {f : Nat → Int} {W : Nat} (h : ∀ u, u < W → f 0 ≤ f u) : argM f W = 0 := by
  have : ∀ k, k ≤ W → argM f k = 0 := by
    intro k
    induction k with
    | zero => intro _; rfl
    | succ k ih =>
      intro hk
      unfold argM
      rw [ih (by omega), if_neg]
      have := h k (by omega); omega
  exact this W (Nat.le_refl _)
theorem bestP_nil {lo : Int} {s : Nat} {sm : Int} {W F : Nat} (hlo : -100000 ≤ lo ∧ lo ≤ 100000) (hF : F ≤ 200) (hW : W ≤ 401) (hW0 : 0 < W) (hs : 0 ≤ sm ∧ sm ≤ 1000) : ∀ i, i < F → bestP (tgtC lo []) s sm W F i = 0 := by
  have hr : ∀ d, d < F → ∀ u, u < W → 0 ≤ rowR (tgtC lo []) s sm W F d u := fun d hd u hu => (rowR_in (l := []) hlo (by intro x hx; cases hx) (by simp) hF hW hs d hd u hu).1
  intro i
  induction i with
  | zero =>
    intro h
    show argM (rowCost (tgtC lo []) s sm W F 0) W = 0
    refine argM_nil fun u hu => ?_
    unfold rowCost
    rw [rowR_nil hlo hF hW hW0 hs _ (by omega)]
    exact hr _ (by omega) u hu
  | succ i ih =>
    intro h
    show rowNext (tgtC lo []) s sm W F i (bestP (tgtC lo []) s sm W F i) = 0
    rw [ih (by omega)]
    unfold rowNext
    rw [if_pos h]
    exact (rest_nil (A := rowCost (tgtC lo []) s sm W F (i + 1)) (rowR_nil hlo hF hW hW0 hs _ (by omega)) (fun u hu => hr _ (by omega) u hu) hs.1 hW0).1
theorem bestL_at {p : Con} {i : Nat} (hi : i < (bestL p).length) : (bestL p)[i] = p.low + (bestP (tgtC p.low p.targets) p.slope.toNat p.smooth (p.high - p.low + 1).toNat p.frames.toNat i : Nat) := by simp [bestL]
theorem bestL_slope {p : Con} (h : conOk p = true) (hs : p.slope = 0) {i : Nat} (hi : i < (bestL p).length) (h0 : 0 < (bestL p).length) : (bestL p)[i] = (bestL p)[0] := by
  obtain ⟨_, _, h3, _⟩ := conOk_parts h
  have hl := bestL_len p
  rw [bestL_at hi, bestL_at h0, hs, show (0 : Int).toNat = 0 from rfl, bestP_zero (by omega) i (by omega)]
theorem bestL_low {p : Con} (h : conOk p = true) (hs : p.targets = []) {i : Nat} (hi : i < (bestL p).length) : (bestL p)[i] = p.low := by
  obtain ⟨h1, h2, h3, h4, h5, _⟩ := conOk_parts h
  have hl := bestL_len p
  rw [bestL_at hi, hs, bestP_nil h2 (by omega) (by omega) (by omega) h5 i (by omega)]; omega
end Go.Proofs.YtejcbcjhmnhefaaDoor
