/- Least contours: none of the best one's cost comes before it. -/
import Derived.Test.YtejcbcjhmnhefaaDoorM10
set_option linter.unusedSimpArgs false
set_option linter.unusedVariables false
namespace Go.Proofs.YtejcbcjhmnhefaaDoor
open Go.RowKit

theorem tailC_step {T : Nat → Nat → Int} {sm : Int} {F : Nat} {U : Nat → Nat} {i : Nat} (hi : i + 1 < F) : tailC T sm F U (F - 1 - i) = T i (U i) + sm * ((U (i + 1) : Int) - U i) * ((U (i + 1) : Int) - U i) + tailC T sm F U (F - 1 - (i + 1)) := by
  obtain ⟨d, hd⟩ : ∃ d, F - 1 - i = d + 1 := ⟨F - 1 - (i + 1), by omega⟩
  have e : tailC T sm F U (d + 1) = T (F - 1 - (d + 1)) (U (F - 1 - (d + 1))) + sm * ((U (F - 1 - d) : Int) - U (F - 1 - (d + 1))) * ((U (F - 1 - d) : Int) - U (F - 1 - (d + 1))) + tailC T sm F U d := rfl
  rw [hd, e, show F - 1 - (d + 1) = i by omega, show F - 1 - d = i + 1 by omega, show F - 1 - (i + 1) = d by omega]
theorem tail_prefix {T : Nat → Nat → Int} {sm : Int} {F : Nat} {U B : Nat → Nat} (hc : tailC T sm F U (F - 1) = tailC T sm F B (F - 1)) : ∀ i, i < F → (∀ j, j ≤ i → U j = B j) → tailC T sm F U (F - 1 - i) = tailC T sm F B (F - 1 - i) := by
  intro i
  induction i with
  | zero => intro _ _; exact hc
  | succ i ih =>
    intro hi h
    have h1 := ih (by omega) (fun j hj => h j (by omega))
    rw [tailC_step hi, tailC_step hi, h i (by omega), h (i + 1) (Nat.le_refl _)] at h1
    omega
/-- A path of the best one's cost does not fall below it where it first parts from it. -/
theorem best_first {lo : Int} {l : List Tgt} {s W F : Nat} {sm : Int} {U : Nat → Nat} (h : ∀ x ∈ l, tgtOk F x = true) (hs : 0 ≤ sm) (hW : 0 < W) (hU : Path s W F U)
    (hc : tailC (tgtC lo l) sm F U (F - 1) = tailC (tgtC lo l) sm F (bestP (tgtC lo l) s sm W F) (F - 1)) (i : Nat) (hi : i < F) (hp : ∀ j, j < i → U j = bestP (tgtC lo l) s sm W F j) : bestP (tgtC lo l) s sm W F i ≤ U i := by
  by_cases hlt : U i < bestP (tgtC lo l) s sm W F i
  · exfalso
    cases i with
    | zero =>
      have h1 := rowR_le (lo := lo) h hs hU (F - 1) (by omega)
      have h2 := rowR_best (T := tgtC lo l) (s := s) (W := W) (sm := sm) (F := F) (F - 1) (by omega)
      rw [show F - 1 - (F - 1) = 0 by omega] at h1 h2
      have h3 := argM_first (f := rowCost (tgtC lo l) s sm W F 0) W hW (U 0) hlt
      have h4 : rowCost (tgtC lo l) s sm W F 0 = rowR (tgtC lo l) s sm W F (F - 1) := by unfold rowCost; rw [show F - 1 - 0 = F - 1 by omega]
      have h5 : bestP (tgtC lo l) s sm W F 0 = argM (rowCost (tgtC lo l) s sm W F 0) W := rfl
      rw [← h4] at h1 h2
      rw [h5] at h2
      omega
    | succ i =>
      have h1 := tail_prefix hc i (by omega) (fun j hj => hp j (by omega))
      rw [tailC_step hi, tailC_step hi, hp i (by omega)] at h1
      have h2 := rowR_le (lo := lo) h hs hU (F - 1 - (i + 1)) (by omega)
      have h3 := rowR_best (T := tgtC lo l) (s := s) (W := W) (sm := sm) (F := F) (F - 1 - (i + 1)) (by omega)
      rw [show F - 1 - (F - 1 - (i + 1)) = i + 1 by omega] at h2 h3
      have hm := rowNext_min (lo := lo) (s := s) h hs hi (bestP_lt (T := tgtC lo l) (s := s) (sm := sm) (F := F) hW i)
      have hw := (hU.2 i hi).1
      rw [hp i (by omega)] at hw
      rw [← bestP_next] at hm
      have h4 := hm.before (U (i + 1)) hw hlt
      unfold cfI rowCost at h4
      omega
  · omega
/-- No contour of the best one's cost comes before it. -/
theorem best_before {p : Con} {vs : List Int} (hok : conOk p = true) (h : ctrOk p vs = true) (hc : costOf p vs = costOf p (bestL p)) {i : Nat} (hi : i < p.frames.toNat) (hp : ∀ j, j < i → vs.getD j 0 = (bestL p).getD j 0) : (bestL p).getD i 0 ≤ vs.getD i 0 := by
  obtain ⟨hf, hlo, hhi, _, hsm, _⟩ := conOk_parts hok
  obtain ⟨h1, h2, h3⟩ := ctr_path hok h
  rw [cost_path hok h1 h2, cost_path (U := bestP (tgtC p.low p.targets) p.slope.toNat p.smooth (p.high - p.low + 1).toNat p.frames.toNat) hok (bestL_len p) (fun i hi => best_val hi)] at hc
  have := best_first (frames_tgt hok) hsm.1 (by omega) h3 hc i hi (fun j hj => by
    have h4 := hp j hj
    rw [h2 j (by omega), best_val (by omega)] at h4
    omega)
  rw [h2 i hi, best_val hi]
  omega
end Go.Proofs.YtejcbcjhmnhefaaDoor
