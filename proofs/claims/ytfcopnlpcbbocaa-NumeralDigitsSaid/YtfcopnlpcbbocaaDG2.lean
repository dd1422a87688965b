/- A system that is being laid in one block: its terms, its rules, and how they grow. -/
import Derived.Test.YtfcopnlpcbbocaaH0
import Derived.Test.YtfcopnlpcbbocaaDG1
set_option linter.unusedSimpArgs false
set_option linter.unusedVariables false
namespace Go.Proofs.Ytfcopnlpcbbocaa
open Go.RowKit

/-- What holds between two rounds: block s is the system's. -/
structure EnB (n s : Nat) (top cls : Int) (vp : Value) (w W : World) (v u : Value) (ts : List Term) (rs : List Rul) : Prop where
  sys : W.heap[s]? = some (sBlock top cls v vp (.slice none 0 0))
  terms : OwnsV W n 62 2 v TermC ts
  rules : OwnsV W n 54 3 u RulC rs
  low : Below n w W
  sn : n ≤ s

variable {n s : Nat} {top cls : Int} {vp : Value} {w W Wp w1 : World} {v u v' : Value} {ts ys : List Term} {rs zs : List Rul}
theorem EnB.below (hE : EnB n s top cls vp w W v u ts rs) (hB : Below W.heap.size W Wp) (hn : n ≤ W.heap.size) : EnB n s top cls vp w Wp v u ts rs :=
  ⟨heap_keep hB hE.sys, hE.terms.below (own := ownEn) (TermC.held rfl) hB, hE.rules.below (own := ownEn) (RulC.held rfl) hB, hE.low.trans (hB.mono hn), hE.sn⟩
theorem EnB.size (hE : EnB n s top cls vp w W v u ts rs) : s < W.heap.size := (Array.getElem?_eq_some_iff.1 hE.sys).1
/-- The terms have grown, and the system holds them. -/
theorem EnB.moreTerms (hE : EnB n s top cls vp w Wp v u ts rs) {cs ds : List (List Value)} (h1 : cs.length = ts.length) (h2 : ∀ c ∈ cs, c.length = 2) (h3 : Wp.ownsRow n 62 2 v ts.length cs.flatten) (h4 : ∀ i (h : i < cs.length) (h' : i < ts.length), TermC Wp cs[i] ts[i])
    (hg : Wp.grownBy w1 v.ownBlock) (hown : w1.ownsRow n 62 2 v' (ts.length + ys.length) (cs.flatten ++ ds.flatten)) (hd : ds.length = ys.length) (hds : ∀ d ∈ ds, d.length = 2) (hy : ∀ i (h : i < ds.length) (h' : i < ys.length), TermC Wp ds[i] ys[i]) :
    EnB n s top cls vp w (w1.setCell ⟨s, 4, none⟩ v') v' u (ts ++ ys) rs ∧ Kp n ownEn Wp (w1.setCell ⟨s, 4, none⟩ v') := by
  have hsz := hE.size
  have hsn := hE.sn
  have hk1 : Kp n ownEn Wp w1 := kp_grown hg h3 rfl (by omega)
  have hs1 : w1.heap[s]? = some (sBlock top cls v vp (.slice none 0 0)) := (hg.block s hsz (apart_row hE.sys h3 (by decide))).trans hE.sys
  have hk2 : Kp n ownEn w1 (w1.setCell ⟨s, 4, none⟩ v') := kp_set hs1 rfl hE.sn v'
  have hk := hk1.trans hk2
  obtain ⟨gs, -, -, hrow, -⟩ := hE.rules
  refine ⟨⟨?_, ?_, ?_, hE.low.trans hk.low, hE.sn⟩, hk⟩
  · have := set_block (o := 4) hs1 v'
    simpa [sBlock] using this
  · have hown2 : (w1.setCell ⟨s, 4, none⟩ v').ownsRow n 62 2 v' (ts.length + ys.length) (cs.flatten ++ ds.flatten) := hown.kept (grown_set _ s 4 v') (.inr (apart_row hs1 hown (by decide)).symm)
    refine ⟨cs ++ ds, by simp [h1, hd], fun c hc => (List.mem_append.1 hc).elim (h2 c) (hds c), by rw [List.length_append, List.flatten_append]; exact hown2, fun i hi hi' => ?_⟩
    by_cases hlt : i < cs.length
    · rw [List.getElem_append_left hlt, List.getElem_append_left (by omega)]
      exact TermC.held (own := ownEn) rfl n _ _ _ _ hk (h4 i hlt (by omega))
    · rw [List.getElem_append_right (by omega), List.getElem_append_right (by omega)]
      simp only [h1]
      exact TermC.held (own := ownEn) rfl n _ _ _ _ hk (hy _ (by rw [List.length_append] at hi; omega) (by rw [List.length_append] at hi'; omega))
  · have ha := hE.rules.kept (own := ownEn) (RulC.held rfl) hk1 hg (rows_apart hrow h3 (by decide))
    have ha' := ha
    obtain ⟨gs', -, -, hrow', -⟩ := ha'
    exact ha.kept (own := ownEn) (RulC.held rfl) hk2 (grown_set _ s 4 v') (.inr (apart_row hs1 hrow' (by decide)).symm)
/-- The rules have grown. -/
theorem EnB.moreRules (hE : EnB n s top cls vp w Wp v u ts rs) {cs ds : List (List Value)} (h1 : cs.length = rs.length) (h2 : ∀ c ∈ cs, c.length = 3) (h3 : Wp.ownsRow n 54 3 u rs.length cs.flatten) (h4 : ∀ i (h : i < cs.length) (h' : i < rs.length), RulC Wp cs[i] rs[i])
    (hg : Wp.grownBy w1 u.ownBlock) (hown : w1.ownsRow n 54 3 v' (rs.length + zs.length) (cs.flatten ++ ds.flatten)) (hd : ds.length = zs.length) (hds : ∀ d ∈ ds, d.length = 3) (hy : ∀ i (h : i < ds.length) (h' : i < zs.length), RulC Wp ds[i] zs[i]) :
    EnB n s top cls vp w w1 v v' ts (rs ++ zs) ∧ Kp n ownEn Wp w1 := by
  have hsz := hE.size
  have hsn := hE.sn
  have hk : Kp n ownEn Wp w1 := kp_grown hg h3 rfl (by omega)
  obtain ⟨gs, -, -, hrow, -⟩ := hE.terms
  refine ⟨⟨(hg.block s hsz (apart_row hE.sys h3 (by decide))).trans hE.sys, ?_, ?_, hE.low.trans hk.low, hE.sn⟩, hk⟩
  · exact hE.terms.kept (own := ownEn) (TermC.held rfl) hk hg (rows_apart hrow h3 (by decide))
  · refine ⟨cs ++ ds, by simp [h1, hd], fun c hc => (List.mem_append.1 hc).elim (h2 c) (hds c), by rw [List.length_append, List.flatten_append]; exact hown, fun i hi hi' => ?_⟩
    by_cases hlt : i < cs.length
    · rw [List.getElem_append_left hlt, List.getElem_append_left (by omega)]
      exact RulC.held (own := ownEn) rfl n _ _ _ _ hk (h4 i hlt (by omega))
    · rw [List.getElem_append_right (by omega), List.getElem_append_right (by omega)]
      simp only [h1]
      exact RulC.held (own := ownEn) rfl n _ _ _ _ hk (hy _ (by rw [List.length_append] at hi; omega) (by rw [List.length_append] at hi'; omega))
end Go.Proofs.Ytfcopnlpcbbocaa
