/- Least contours: the best contour is one, none costs less, none of its cost comes before it. -/
import Derived.Test.YtejcbcjhmnhefaaDoorM9
set_option linter.unusedSimpArgs false
set_option linter.unusedVariables false
namespace Go.Proofs.YtejcbcjhmnhefaaDoor
open Go.RowKit

theorem ctrB_at {lo hi sl : Int} {vs : List Int} : ∀ n, ctrB lo hi sl vs n = true → ∀ k, k < n → ctrAt lo hi sl vs k = true := by
  intro n
  induction n with
  | zero => intro _ k hk; omega
  | succ n ih =>
    intro h k hk
    unfold ctrB at h
    simp only [Bool.and_eq_true] at h
    by_cases e : k = n
    · subst e; exact h.2
    · exact ih h.1 k (by omega)
theorem ctrB_of {lo hi sl : Int} {vs : List Int} : ∀ n, (∀ k, k < n → ctrAt lo hi sl vs k = true) → ctrB lo hi sl vs n = true := by
  intro n
  induction n with
  | zero => intro _; rfl
  | succ n ih =>
    intro h
    unfold ctrB
    rw [ih (fun k hk => h k (by omega)), h n (by omega)]; rfl
theorem ctrAt_in {lo hi sl : Int} {vs : List Int} {k : Nat} (h : ctrAt lo hi sl vs k = true) : (lo ≤ vs.getD k 0 ∧ vs.getD k 0 ≤ hi) ∧ (0 < k → -sl ≤ vs.getD k 0 - vs.getD (k - 1) 0 ∧ vs.getD k 0 - vs.getD (k - 1) 0 ≤ sl) := by
  unfold ctrAt at h
  simp only [Bool.and_eq_true, Bool.or_eq_true, decide_eq_true_eq] at h
  refine ⟨betw_in h.1, fun hk => ?_⟩
  rcases h.2 with h2 | h2
  · omega
  · exact betw_in h2
/-- A contour's path of values above the lowest one. -/
def pathOf (lo : Int) (vs : List Int) (i : Nat) : Nat := (vs.getD i 0 - lo).toNat
structure CtrPath (p : Con) (vs : List Int) : Prop where
  len : vs.length = p.frames.toNat
  val : ∀ i, i < p.frames.toNat → vs.getD i 0 = p.low + (pathOf p.low vs i : Int)
  path : Path p.slope.toNat (p.high - p.low + 1).toNat p.frames.toNat (pathOf p.low vs)
theorem ctr_path {p : Con} {vs : List Int} (hok : conOk p = true) (h : ctrOk p vs = true) : CtrPath p vs := by
  obtain ⟨hf, hlo, hhi, hsl, _⟩ := conOk_parts hok
  unfold ctrOk at h
  simp only [Bool.and_eq_true, decide_eq_true_eq] at h
  have hat := fun k hk => ctrAt_in (ctrB_at _ h.2 k hk)
  refine ⟨by omega, fun i hi => ?_, fun i hi => ?_, fun i hi => ?_⟩
  · have := (hat i (by omega)).1
    unfold pathOf; omega
  · have := (hat i (by omega)).1
    unfold pathOf; omega
  · have h1 := (hat i (by omega)).1
    have h2 := hat (i + 1) (by omega)
    have h3 := h2.2 (by omega)
    rw [Nat.add_sub_cancel] at h3
    rw [ent_eq]
    unfold pathOf
    omega
theorem best_val {p : Con} {i : Nat} (hi : i < p.frames.toNat) : (bestL p).getD i 0 = p.low + (bestP (tgtC p.low p.targets) p.slope.toNat p.smooth (p.high - p.low + 1).toNat p.frames.toNat i : Nat) := by
  rw [getD_at (by rw [bestL_len]; exact hi), bestL_at]
theorem frames_tgt {p : Con} (hok : conOk p = true) : ∀ x ∈ p.targets, tgtOk (p.frames.toNat : Nat) x = true := by
  obtain ⟨hf, _, _, _, _, _, h7⟩ := conOk_parts hok
  rw [show ((p.frames.toNat : Nat) : Int) = p.frames by omega]; exact h7
theorem best_ctr {p : Con} (hok : conOk p = true) : ctrOk p (bestL p) = true := by
  obtain ⟨hf, hlo, hhi, hsl, hsm, _⟩ := conOk_parts hok
  have hp := best_path (lo := p.low) (s := p.slope.toNat) (W := (p.high - p.low + 1).toNat) (frames_tgt hok) hsm.1 (by omega)
  unfold ctrOk
  rw [bestL_len, decide_eq_true (show ((p.frames.toNat : Nat) : Int) = p.frames by omega), Bool.true_and]
  refine ctrB_of _ fun k hk => ?_
  unfold ctrAt
  have h1 := hp.1 k hk
  rw [best_val hk]
  simp only [Bool.and_eq_true, Bool.or_eq_true, decide_eq_true_eq]
  refine ⟨by simp [betw]; omega, ?_⟩
  by_cases h0 : k = 0
  · exact .inl h0
  · right
    have h2 := hp.2 (k - 1) (by omega)
    rw [show k - 1 + 1 = k by omega, ent_eq] at h2
    rw [best_val (by omega)]
    simp [betw]; omega
theorem cost_path {p : Con} {vs : List Int} {U : Nat → Nat} (hok : conOk p = true) (hl : vs.length = p.frames.toNat) (hv : ∀ i, i < p.frames.toNat → vs.getD i 0 = p.low + (U i : Int)) :
    costOf p vs = tailC (tgtC p.low p.targets) p.smooth p.frames.toNat U (p.frames.toNat - 1) := by
  have hf := (conOk_parts hok).1
  unfold costOf
  rw [hl]
  exact cost_tail (by omega) (frames_tgt hok) hv
/-- No contour costs less than the best one. -/
theorem best_min {p : Con} {vs : List Int} (hok : conOk p = true) (h : ctrOk p vs = true) : costOf p (bestL p) ≤ costOf p vs := by
  obtain ⟨hf, _, _, _, hsm, _⟩ := conOk_parts hok
  obtain ⟨h1, h2, h3⟩ := ctr_path hok h
  rw [cost_path hok h1 h2, cost_path (U := bestP (tgtC p.low p.targets) p.slope.toNat p.smooth (p.high - p.low + 1).toNat p.frames.toNat) hok (bestL_len p) (fun i hi => best_val hi)]
  exact best_least (frames_tgt hok) hsm.1 (by omega) h3
end Go.Proofs.YtejcbcjhmnhefaaDoor
