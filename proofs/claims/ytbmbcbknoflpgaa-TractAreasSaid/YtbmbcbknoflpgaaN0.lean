/- Maths: areas stay between the least and the greatest; the goal of a section, gesture by gesture. -/
import Derived.Test.YtbmbcbknoflpgaaJ6
set_option linter.unusedSimpArgs false
set_option linter.unusedVariables false
namespace Go.Proofs.Ytbmbcbknoflpgaa
open Go.RowKit

theorem golG_nil (rest : List Int) (s : Nat) (t : Int) : golG rest [] s t = (rest.getD s 0, 100) := rfl
theorem golG_snoc (rest : List Int) (l : List Ges) (g : Ges) (s : Nat) (t : Int) : golG rest (l ++ [g]) s t = if hitG s t g = true then (g.area, g.speed) else golG rest l s t := by
  unfold golG
  rw [List.reverse_append]
  simp only [List.reverse_cons, List.reverse_nil, List.nil_append, List.singleton_append, List.find?_cons]
  cases h : hitG s t g <;> simp
theorem flw_in {x g s lo hi : Int} (hx : lo ≤ x ∧ x ≤ hi) (hg : lo ≤ g ∧ g ≤ hi) (hs : 1 ≤ s ∧ s ≤ 1000) : lo ≤ flw x g s ∧ flw x g s ≤ hi := by
  have h := mvs_in (d := g - x) hs.1 hs.2
  rw [flw_mvs]
  omega
theorem gol_in {rest : List Int} {l : List Ges} {lo hi : Int} (hr : ∀ j, j < rest.length → lo ≤ rest.getD j 0 ∧ rest.getD j 0 ≤ hi) (hl : ∀ g ∈ l, lo ≤ g.area ∧ g.area ≤ hi) (k : Nat) (t : Int) (hk : k < rest.length) : lo ≤ (golG rest l k t).1 ∧ (golG rest l k t).1 ≤ hi := by
  unfold golG
  cases hf : l.reverse.find? (hitG k t) with
  | none => exact hr k hk
  | some g =>
    have hm : g ∈ l := by have := List.mem_of_find?_eq_some hf; simpa using this
    exact hl g hm
theorem wlk_in {rest : List Int} {l : List Ges} (h : scoOk rest l = true) {lo hi : Int} (hr : ∀ j, j < rest.length → lo ≤ rest.getD j 0 ∧ rest.getD j 0 ≤ hi) (hl : ∀ g ∈ l, lo ≤ g.area ∧ g.area ≤ hi) (k : Nat) (hk : k < rest.length) : ∀ t, (lo ≤ (wlk rest l t k).1 ∧ (wlk rest l t k).1 ≤ hi) ∧ (lo ≤ (wlk rest l t k).2 ∧ (wlk rest l t k).2 ≤ hi) := by
  intro t
  induction t with
  | zero => exact ⟨hr k hk, hr k hk⟩
  | succ t ih =>
    have hg := gol_in hr hl k t hk
    have hs := (gol_range h k t hk).2
    have h1 := flw_in ih.1 hg hs
    exact ⟨h1, flw_in ih.2 h1 hs⟩
theorem arL_len (rest : List Int) (l : List Ges) (t : Nat) : (arL rest l t).length = rest.length := by simp [arL]
theorem arL_get (rest : List Int) (l : List Ges) (t k : Nat) (hk : k < rest.length) : (arL rest l t).getD k 0 = (wlk rest l (t + 1) k).2 := by
  rw [gI (by rw [arL_len]; exact hk)]
  simp [arL]
theorem arL_in {rest : List Int} {l : List Ges} (h : scoOk rest l = true) {lo hi : Int} (hr : ∀ j, j < rest.length → lo ≤ rest.getD j 0 ∧ rest.getD j 0 ≤ hi) (hl : ∀ g ∈ l, lo ≤ g.area ∧ g.area ≤ hi) (t k : Nat) (hk : k < rest.length) : lo ≤ (arL rest l t).getD k 0 ∧ (arL rest l t).getD k 0 ≤ hi := by
  rw [arL_get rest l t k hk]
  exact (wlk_in h hr hl k hk (t + 1)).2
end Go.Proofs.Ytbmbcbknoflpgaa
