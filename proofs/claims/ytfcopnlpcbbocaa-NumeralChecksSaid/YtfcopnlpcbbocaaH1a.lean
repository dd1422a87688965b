/- A system that is being laid: its terms, its rules, and how they grow. -/
import Derived.Test.YtfcopnlpcbbocaaH0
namespace Go.Proofs.Ytfcopnlpcbbocaa
open Go.RowKit

def ownEn (t : Nat) : Bool := t == 62 || t == 54 || t == 26
/-- The block of the system: seven cells. -/
def sBlock (top cls : Int) (v vp vs : Value) : Obj := .cells #[.int .i64 top, .int .i64 1, .int .i64 1, .int .i64 cls, v, vp, vs] 26 (0, 0)
/-- What holds between two rounds: block r is the result's, s the system's. -/
structure EnAt (n r s : Nat) (top cls : Int) (vp : Value) (w W : World) (v u : Value) (ts : List Term) (rs : List Rul) : Prop where
  res : ∃ c, W.heap[r]? = some (.cells c 26 (0, 0)) ∧ c.size = 7
  sys : W.heap[s]? = some (sBlock top cls v vp (.slice none 0 0))
  terms : OwnsV W n 62 2 v TermC ts
  rules : OwnsV W n 54 3 u RulC rs
  low : Below n w W
  ne : r ≠ s
  rn : n ≤ r
  sn : n ≤ s

theorem kp_grown {own : Nat → Bool} {W W' : World} {n e size k : Nat} {v : Value} {xs : List Value} (hg : W.grownBy W' v.ownBlock) (hrow : W.ownsRow n e size v k xs) (he : own e = true) (hn : n ≤ W.heap.size) : Kp n own W W' := by
  refine ⟨(Below.refl n W).grown hg hn (fun j ej => ?_), fun j c t' fr hj ho => ?_⟩
  · rcases hrow.2 with ⟨rfl, _⟩ | ⟨g, cap, cur, rfl, hb, _, _⟩
    · simp [Value.ownBlock] at ej
    · obtain rfl : g = j := by simpa [Value.ownBlock] using ej
      exact hb
  · have hr : some j ≠ v.ownBlock := by
      rcases hrow.2 with ⟨rfl, _⟩ | ⟨g, cap, cur, rfl, _, hgb, _⟩
      · simp [Value.ownBlock]
      · intro e'
        obtain rfl : j = g := by simpa [Value.ownBlock] using e'
        rw [hgb] at hj; cases hj
        rw [he] at ho; cases ho
    exact (hg.block j (Array.getElem?_eq_some_iff.1 hj).1 hr).trans hj
theorem kp_set {own : Nat → Bool} {W : World} {n b o t : Nat} {c : Array Value} {fr : Nat × Nat} (hb : W.heap[b]? = some (.cells c t fr)) (ht : own t = true) (hn : n ≤ b) (x : Value) : Kp n own W (W.setCell ⟨b, o, none⟩ x) := by
  refine ⟨(Below.refl n W).setCell (p := ⟨b, o, none⟩) hn _, fun j c' t' fr' hj ho => ?_⟩
  have hB : j ≠ b := by
    rintro rfl
    rw [hb] at hj
    cases hj
    rw [ht] at ho; cases ho
  rw [Below.heap_setCell _ _ _ _ hB]; exact hj
theorem set_block {W : World} {b o t : Nat} {c : Array Value} {fr : Nat × Nat} (hb : W.heap[b]? = some (.cells c t fr)) (x : Value) : (W.setCell ⟨b, o, none⟩ x).heap[b]? = some (.cells (c.setIfInBounds o x) t fr) := by
  obtain ⟨hlt, hk⟩ := Array.getElem?_eq_some_iff.1 hb
  show (W.heap.modify b _)[b]? = _
  rw [Array.getElem?_eq_getElem (by rw [Array.size_modify]; exact hlt), Array.getElem_modify_self, hk]
  rfl
theorem grown_set (W : World) (b o : Nat) (v : Value) : W.grownBy (W.setCell ⟨b, o, none⟩ v) (some b) :=
  ⟨rfl, rfl, rfl, (KeepsWalks.setCell W _ v).size, fun k _ hk => Below.heap_setCell _ _ _ k (fun e => hk (by rw [e]))⟩
/-- A block of another type than a slice's own is none of the slice's. -/
theorem apart_row {W : World} {b t n e size k : Nat} {c : Array Value} {fr : Nat × Nat} {v : Value} {xs : List Value} (hb : W.heap[b]? = some (.cells c t fr)) (hrow : W.ownsRow n e size v k xs) (hte : t ≠ e) : some b ≠ v.ownBlock := by
  rcases hrow.2 with ⟨rfl, _⟩ | ⟨g, cap', cur, rfl, _, hgb, _⟩
  · simp [Value.ownBlock]
  · intro e'
    obtain rfl : b = g := by simpa [Value.ownBlock] using e'
    rw [hb] at hgb
    simp at hgb
    exact hte hgb.2.1
theorem below_of_kp {W W' : World} {n : Nat} {own : Nat → Bool} (h : Kp n own W W') : Below n W W' := h.low

variable {n r s : Nat} {top cls : Int} {vp : Value} {w W Wp w1 : World} {v u v' : Value} {ts ys : List Term} {rs zs : List Rul}
theorem EnAt.below (hE : EnAt n r s top cls vp w W v u ts rs) (hB : Below W.heap.size W Wp) (hn : n ≤ W.heap.size) : EnAt n r s top cls vp w Wp v u ts rs :=
  ⟨let ⟨c, h1, h2⟩ := hE.res; ⟨c, heap_keep hB h1, h2⟩, heap_keep hB hE.sys, hE.terms.below (own := ownEn) (TermC.held rfl) hB, hE.rules.below (own := ownEn) (RulC.held rfl) hB, hE.low.trans (hB.mono hn), hE.ne, hE.rn, hE.sn⟩
theorem EnAt.size (hE : EnAt n r s top cls vp w W v u ts rs) : s < W.heap.size ∧ r < W.heap.size := ⟨(Array.getElem?_eq_some_iff.1 hE.sys).1, let ⟨_, h1, _⟩ := hE.res; (Array.getElem?_eq_some_iff.1 h1).1⟩
/-- The terms have grown, and the system holds them. -/
theorem EnAt.moreTerms (hE : EnAt n r s top cls vp w Wp v u ts rs) {cs ds : List (List Value)} (h1 : cs.length = ts.length) (h2 : ∀ c ∈ cs, c.length = 2) (h3 : Wp.ownsRow n 62 2 v ts.length cs.flatten) (h4 : ∀ i (h : i < cs.length) (h' : i < ts.length), TermC Wp cs[i] ts[i])
    (hg : Wp.grownBy w1 v.ownBlock) (hown : w1.ownsRow n 62 2 v' (ts.length + ys.length) (cs.flatten ++ ds.flatten)) (hd : ds.length = ys.length) (hds : ∀ d ∈ ds, d.length = 2) (hy : ∀ i (h : i < ds.length) (h' : i < ys.length), TermC Wp ds[i] ys[i]) :
    EnAt n r s top cls vp w (w1.setCell ⟨s, 4, none⟩ v') v' u (ts ++ ys) rs ∧ Kp n ownEn Wp (w1.setCell ⟨s, 4, none⟩ v') := by
  have hsz := hE.size
  have hsn := hE.sn
  have hrn := hE.rn
  have hk1 : Kp n ownEn Wp w1 := kp_grown hg h3 rfl (by omega)
  have hs1 : w1.heap[s]? = some (sBlock top cls v vp (.slice none 0 0)) := (hg.block s hsz.1 (apart_row hE.sys h3 (by decide))).trans hE.sys
  have hk2 : Kp n ownEn w1 (w1.setCell ⟨s, 4, none⟩ v') := kp_set hs1 rfl hE.sn v'
  have hk := hk1.trans hk2
  obtain ⟨c, hc1, hc2⟩ := hE.res
  obtain ⟨gs, -, -, hrow, -⟩ := hE.rules
  refine ⟨⟨⟨c, ?_, hc2⟩, ?_, ?_, ?_, hE.low.trans hk.low, hE.ne, hE.rn, hE.sn⟩, hk⟩
  · rw [Below.heap_setCell _ _ _ _ hE.ne]
    exact (hg.block r hsz.2 (apart_row hc1 h3 (by decide))).trans hc1
  · have := set_block (o := 4) hs1 v'
    simpa [sBlock] using this
  · have hown2 : (w1.setCell ⟨s, 4, none⟩ v').ownsRow n 62 2 v' (ts.length + ys.length) (cs.flatten ++ ds.flatten) := hown.kept (grown_set _ s 4 v') (.inr (apart_row hs1 hown (by decide)).symm)
    refine ⟨cs ++ ds, by simp [h1, hd], fun c hc => (List.mem_append.1 hc).elim (h2 c) (hds c), by rw [List.length_append, List.flatten_append]; exact hown2, fun i hi hi' => ?_⟩
    by_cases hlt : i < cs.length
    · rw [List.getElem_append_left hlt, List.getElem_append_left (by omega)]
      exact TermC.held (own := ownEn) rfl n _ _ _ _ hk (h4 i hlt (by omega))
    · rw [List.getElem_append_right (by omega), List.getElem_append_right (by omega)]
      simp only [h1]
      exact TermC.held (own := ownEn) rfl n _ _ _ _ hk (hy _ (by rw [List.length_append] at hi; omega) (by rw [List.length_append] at hi'; omega))
  · have ha := hE.rules.kept (own := ownEn) (RulC.held rfl) hk1 hg (rows_apart hrow h3 (by decide))
    have ha' := ha
    obtain ⟨gs', -, -, hrow', -⟩ := ha'
    exact ha.kept (own := ownEn) (RulC.held rfl) hk2 (grown_set _ s 4 v') (.inr (apart_row hs1 hrow' (by decide)).symm)
/-- The rules have grown. -/
theorem EnAt.moreRules (hE : EnAt n r s top cls vp w Wp v u ts rs) {cs ds : List (List Value)} (h1 : cs.length = rs.length) (h2 : ∀ c ∈ cs, c.length = 3) (h3 : Wp.ownsRow n 54 3 u rs.length cs.flatten) (h4 : ∀ i (h : i < cs.length) (h' : i < rs.length), RulC Wp cs[i] rs[i])
    (hg : Wp.grownBy w1 u.ownBlock) (hown : w1.ownsRow n 54 3 v' (rs.length + zs.length) (cs.flatten ++ ds.flatten)) (hd : ds.length = zs.length) (hds : ∀ d ∈ ds, d.length = 3) (hy : ∀ i (h : i < ds.length) (h' : i < zs.length), RulC Wp ds[i] zs[i]) :
    EnAt n r s top cls vp w w1 v v' ts (rs ++ zs) ∧ Kp n ownEn Wp w1 := by
  have hsz := hE.size
  have hsn := hE.sn
  have hk : Kp n ownEn Wp w1 := kp_grown hg h3 rfl (by omega)
  obtain ⟨c, hc1, hc2⟩ := hE.res
  obtain ⟨gs, -, -, hrow, -⟩ := hE.terms
  refine ⟨⟨⟨c, (hg.block r hsz.2 (apart_row hc1 h3 (by decide))).trans hc1, hc2⟩, (hg.block s hsz.1 (apart_row hE.sys h3 (by decide))).trans hE.sys, ?_, ?_, hE.low.trans hk.low, hE.ne, hE.rn, hE.sn⟩, hk⟩
  · exact hE.terms.kept (own := ownEn) (TermC.held rfl) hk hg (rows_apart hrow h3 (by decide))
  · refine ⟨cs ++ ds, by simp [h1, hd], fun c hc => (List.mem_append.1 hc).elim (h2 c) (hds c), by rw [List.length_append, List.flatten_append]; exact hown, fun i hi hi' => ?_⟩
    by_cases hlt : i < cs.length
    · rw [List.getElem_append_left hlt, List.getElem_append_left (by omega)]
      exact RulC.held (own := ownEn) rfl n _ _ _ _ hk (h4 i hlt (by omega))
    · rw [List.getElem_append_right (by omega), List.getElem_append_right (by omega)]
      simp only [h1]
      exact RulC.held (own := ownEn) rfl n _ _ _ _ hk (hy _ (by rw [List.length_append] at hi; omega) (by rw [List.length_append] at hi'; omega))
end Go.Proofs.Ytfcopnlpcbbocaa
