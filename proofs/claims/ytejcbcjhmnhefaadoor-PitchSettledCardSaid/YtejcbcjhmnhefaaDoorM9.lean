/- The maths of least contours: no contour costs less than the best one. -/
import Derived.Test.YtejcbcjhmnhefaaDoorM8
set_option linter.unusedSimpArgs false
set_option linter.unusedVariables false
namespace Go.Proofs.YtejcbcjhmnhefaaDoor
open Go.RowKit

/-- The cost of a path from one of its last places on. -/
def tailC (T : Nat → Nat → Int) (sm : Int) (F : Nat) (U : Nat → Nat) : Nat → Int
  | 0 => T (F - 1) (U (F - 1))
  | d + 1 => T (F - 1 - (d + 1)) (U (F - 1 - (d + 1))) + sm * ((U (F - 1 - d) : Int) - U (F - 1 - (d + 1))) * ((U (F - 1 - d) : Int) - U (F - 1 - (d + 1))) + tailC T sm F U d
def Path (s W F : Nat) (U : Nat → Nat) : Prop := (∀ i, i < F → U i < W) ∧ ∀ i, i + 1 < F → U i - s ≤ U (i + 1) ∧ U (i + 1) < ent s W (U i + 1)
theorem rowR_le {lo : Int} {l : List Tgt} {s W F : Nat} {sm : Int} {U : Nat → Nat} (h : ∀ x ∈ l, tgtOk F x = true) (hs : 0 ≤ sm) (hU : Path s W F U) : ∀ d, d < F → rowR (tgtC lo l) s sm W F d (U (F - 1 - d)) ≤ tailC (tgtC lo l) sm F U d := by
  intro d
  induction d with
  | zero => intro _; exact Int.le_refl _
  | succ d ih =>
    intro hd
    have h1 := ih (by omega)
    have h2 := hU.2 (F - 1 - (d + 1)) (by omega)
    rw [show F - 1 - (d + 1) + 1 = F - 1 - d by omega] at h2
    have h3 := rest_min (s := s) (rowR_cvx (T := tgtC lo l) (F := F) (s := s) (fun t => tgtC_cvx (lo := lo) (t := t) l h) hs d) hs (hU.1 (F - 1 - (d + 1)) (by omega)) h2.1 h2.2
    show tgtC lo l _ _ + restC _ s sm W _ ≤ _ + _ + tailC _ sm F U d
    unfold cfI at h3
    omega
theorem bestP_next {T : Nat → Nat → Int} {s W F i : Nat} {sm : Int} : bestP T s sm W F (i + 1) = rowNext T s sm W F i (bestP T s sm W F i) := rfl
theorem rowR_best {T : Nat → Nat → Int} {s W F : Nat} {sm : Int} : ∀ d, d < F → rowR T s sm W F d (bestP T s sm W F (F - 1 - d)) = tailC T sm F (bestP T s sm W F) d := by
  intro d
  induction d with
  | zero => intro _; rfl
  | succ d ih =>
    intro hd
    have h1 := ih (by omega)
    have h2 : bestP T s sm W F (F - 1 - d) = front (rowR T s sm W F d) s sm W (bestP T s sm W F (F - 1 - (d + 1)) + 1) := by
      rw [show F - 1 - d = F - 1 - (d + 1) + 1 by omega, bestP_next]
      unfold rowNext
      rw [if_pos (by omega)]
      unfold rowCost
      rw [show F - 1 - (F - 1 - (d + 1) + 1) = d by omega]
    show T _ _ + cfI (rowR T s sm W F d) sm (front (rowR T s sm W F d) s sm W (bestP T s sm W F (F - 1 - (d + 1)) + 1)) _ = _ + _ + tailC T sm F _ d
    rw [← h2]
    unfold cfI
    omega
theorem argM_min {f : Nat → Int} : ∀ W, ∀ u, u < W → f (argM f W) ≤ f u := by
  intro W
  induction W with
  | zero => intro u h; omega
  | succ W ih =>
    intro u hu
    unfold argM
    by_cases e : u = W
    · subst e; split <;> omega
    · have := ih u (by omega)
      split <;> omega
theorem argM_first {f : Nat → Int} : ∀ W, 0 < W → ∀ u, u < argM f W → f (argM f W) < f u := by
  intro W
  induction W with
  | zero => intro h; omega
  | succ W ih =>
    intro _ u
    unfold argM
    by_cases h0 : W = 0
    · subst h0
      split
      · intro h; omega
      · intro h; simp [argM] at h
    split
    · rename_i h
      intro hu
      have := argM_min (f := f) W u hu; omega
    · intro hu
      exact ih (by omega) u hu
/-- No path costs less than the best one. -/
theorem best_least {lo : Int} {l : List Tgt} {s W F : Nat} {sm : Int} {U : Nat → Nat} (h : ∀ x ∈ l, tgtOk F x = true) (hs : 0 ≤ sm) (hF : 0 < F) (hU : Path s W F U) :
    tailC (tgtC lo l) sm F (bestP (tgtC lo l) s sm W F) (F - 1) ≤ tailC (tgtC lo l) sm F U (F - 1) := by
  have h1 := rowR_le (lo := lo) h hs hU (F - 1) (by omega)
  have h2 := rowR_best (T := tgtC lo l) (s := s) (W := W) (sm := sm) (F := F) (F - 1) (by omega)
  rw [show F - 1 - (F - 1) = 0 by omega] at h1 h2
  rw [← h2]
  have h3 := argM_min (f := rowCost (tgtC lo l) s sm W F 0) W (U 0) (hU.1 0 (by omega))
  unfold rowCost at h3
  rw [show F - 1 - 0 = F - 1 by omega] at h3
  show rowR _ s sm W F (F - 1) (argM (rowCost (tgtC lo l) s sm W F 0) W) ≤ _
  unfold rowCost
  rw [show F - 1 - 0 = F - 1 by omega]
  exact Int.le_trans h3 h1
/-- The best path is a path. -/
theorem best_path {lo : Int} {l : List Tgt} {s W F : Nat} {sm : Int} (h : ∀ x ∈ l, tgtOk F x = true) (hs : 0 ≤ sm) (hW : 0 < W) : Path s W F (bestP (tgtC lo l) s sm W F) :=
  ⟨fun i _ => bestP_lt hW i, fun i hi => by
    have hm := rowNext_min (lo := lo) (s := s) h hs hi (bestP_lt (T := tgtC lo l) (s := s) (sm := sm) (F := F) hW i)
    rw [bestP_next]
    exact ⟨hm.ge, hm.lt⟩⟩

/-! Costs of contours -/
theorem hereC_tgtC {lo : Int} {l : List Tgt} {t u : Nat} : hereC l t (lo + u) = tgtC lo l t u := by
  unfold hereC tgtC hereX offSq; rfl
theorem refC_tail {lo sm : Int} {l : List Tgt} {vs : List Int} {F : Nat} {U : Nat → Nat} (hv : ∀ i, i < F → vs.getD i 0 = lo + (U i : Int)) :
    ∀ d, d < F → refC sm l vs F = refC sm l vs (F - 1 - d) + frameS sm vs (F - 1 - d) + tailC (tgtC lo l) sm F U d := by
  intro d
  induction d with
  | zero =>
    intro hd
    have e : refC sm l vs (F - 1 + 1) = refC sm l vs (F - 1) + hereC l (F - 1 : Nat) (vs.getD (F - 1) 0) + frameS sm vs (F - 1) := rfl
    rw [show F - 1 + 1 = F by omega] at e
    rw [e, hv _ (by omega), hereC_tgtC]
    show _ = refC sm l vs (F - 1) + frameS sm vs (F - 1) + tgtC lo l (F - 1) (U (F - 1))
    omega
  | succ d ih =>
    intro hd
    rw [ih (by omega)]
    have e : refC sm l vs (F - 1 - (d + 1) + 1) = refC sm l vs (F - 1 - (d + 1)) + hereC l (F - 1 - (d + 1) : Nat) (vs.getD (F - 1 - (d + 1)) 0) + frameS sm vs (F - 1 - (d + 1)) := rfl
    rw [show F - 1 - (d + 1) + 1 = F - 1 - d by omega, hv (F - 1 - (d + 1)) (by omega), hereC_tgtC] at e
    have e2 : frameS sm vs (F - 1 - d) = sm * ((U (F - 1 - d) : Int) - U (F - 1 - (d + 1))) * ((U (F - 1 - d) : Int) - U (F - 1 - (d + 1))) := by
      unfold frameS
      rw [if_pos (by omega), show F - 1 - d - 1 = F - 1 - (d + 1) by omega, hv _ (by omega), hv _ (by omega)]
      rw [show lo + (U (F - 1 - d) : Int) - (lo + (U (F - 1 - (d + 1)) : Int)) = (U (F - 1 - d) : Int) - U (F - 1 - (d + 1)) by omega]
    rw [e, e2]
    show _ = _ + _ + (_ + _ + tailC (tgtC lo l) sm F U d)
    omega
theorem cost_tail {lo sm : Int} {l : List Tgt} {vs : List Int} {F : Nat} {U : Nat → Nat} (hF : 0 < F) (h : ∀ x ∈ l, tgtOk F x = true) (hv : ∀ i, i < F → vs.getD i 0 = lo + (U i : Int)) :
    tCosts l vs + sCosts sm vs (F - 1) = tailC (tgtC lo l) sm F U (F - 1) := by
  rw [← refC_all l h, refC_tail hv (F - 1) (by omega), show F - 1 - (F - 1) = 0 by omega]
  simp [refC, frameS]
end Go.Proofs.YtejcbcjhmnhefaaDoor
