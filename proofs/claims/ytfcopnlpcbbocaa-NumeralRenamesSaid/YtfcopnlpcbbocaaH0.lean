/- Slices of one's own whose elements hold slices: how they grow. -/
import Derived.Test.YtfcopnlpcbbocaaG5
import Derived.Deep.AppendLies
set_option linter.unusedSimpArgs false
set_option linter.unusedVariables false
namespace Go.Proofs.Ytfcopnlpcbbocaa
open Go.RowKit

def Form.cells (f : Form) : List Value := [.int .i64 f.gen, .int .i64 f.kas, .int .i64 f.cls, .string f.txt]
def Pce.cells (p : Pce) : List Value := [.int .i64 p.kind, .int .i64 p.term, .int .i64 p.set, .int .i64 p.below]
/-- The two cells of a term, whose forms fill a block of their own. -/
def TermC (W : World) (c : List Value) (t : Term) : Prop :=
  ∃ b k, c = [.int .i64 t.gen, .slice (some ⟨b, 0, none⟩) t.forms.length k] ∧ W.heap[b]? = some (.cells (t.forms.flatMap Form.cells).toArray 90 (0, 0)) ∧ t.forms.length ≤ 1000 ∧ ∀ f ∈ t.forms, f.txt.size ≤ most
def RulC (W : World) (c : List Value) (r : Rul) : Prop :=
  ∃ b k, c = [.int .i64 r.base, .int .i64 r.div, .slice (some ⟨b, 0, none⟩) r.pieces.length k] ∧ W.heap[b]? = some (.cells (r.pieces.flatMap Pce.cells).toArray 59 (0, 0)) ∧ r.pieces.length ≤ 1000
/-- A slice of one's own that reads as a list. -/
def OwnsV {α : Type} (W : World) (base e size : Nat) (v : Value) (R : World → List Value → α → Prop) (xs : List α) : Prop :=
  ∃ cs : List (List Value), cs.length = xs.length ∧ (∀ c ∈ cs, c.length = size) ∧ W.ownsRow base e size v xs.length cs.flatten ∧ ∀ i (h : i < cs.length) (h' : i < xs.length), R W cs[i] xs[i]

theorem OwnsV.nil {α : Type} (W : World) (base e size : Nat) (R : World → List Value → α → Prop) : OwnsV W base e size (.slice none 0 0) R [] := ⟨[], rfl, by simp, World.ownsRow_nil _ _ _ _, fun i h => by simp at h⟩
/-- Whatever keeps each block whose type is not own keeps what elements hold. -/
def Held {α : Type} (own : Nat → Bool) (R : World → List Value → α → Prop) : Prop := ∀ n W W' c x, Kp n own W W' → R W c x → R W' c x
theorem TermC.held {own : Nat → Bool} (h : own 90 = false) : Held own TermC := fun _ _ _ _ _ hk ⟨b, k, hc, hb, hl, ht⟩ => ⟨b, k, hc, hk.cells b _ _ _ hb h, hl, ht⟩
theorem RulC.held {own : Nat → Bool} (h : own 59 = false) : Held own RulC := fun _ _ _ _ _ hk ⟨b, k, hc, hb, hl⟩ => ⟨b, k, hc, hk.cells b _ _ _ hb h, hl⟩

theorem flatten_get {cs : List (List Value)} {size : Nat} (h : ∀ c ∈ cs, c.length = size) : ∀ (i : Nat) (hi : i < cs.length) (j : Nat), j < size → cs.flatten[i * size + j]? = (cs[i])[j]? := by
  induction cs with
  | nil => intro i hi; simp at hi
  | cons c cs ih =>
    intro i hi j hj
    have hc : c.length = size := h c (List.mem_cons_self ..)
    rw [List.flatten_cons]
    cases i with
    | zero =>
      rw [List.getElem?_append_left (by omega)]
      simp
    | succ i =>
      rw [List.getElem?_append_right (by rw [hc, Nat.succ_mul]; omega)]
      have := ih (fun c' hc' => h c' (List.mem_cons_of_mem _ hc')) i (by simpa using hi) j hj
      simp only [List.getElem_cons_succ]
      rw [← this]
      congr 1
      rw [hc, Nat.succ_mul]; omega
theorem flatMap_get {α : Type} {f : α → List Value} {size : Nat} (h : ∀ x, (f x).length = size) (l : List α) : ∀ (i : Nat) (hi : i < l.length) (j : Nat), j < size → (l.flatMap f)[i * size + j]? = (f l[i])[j]? := by
  intro i hi j hj
  have := flatten_get (cs := l.map f) (size := size) (by simp [h]) i (by simpa using hi) j hj
  simpa [List.flatMap] using this

theorem TermC.at {W : World} {c : List Value} {t : Term} (h : TermC W c t) {b o : Nat} (h0 : W.cell? ⟨b, o, none⟩ = c[0]?) (h1 : W.cell? ⟨b, o + 1, none⟩ = c[1]?) : TermAt W b o t := by
  obtain ⟨fb, k, rfl, hb, hl, ht⟩ := h
  refine ⟨by simpa using h0, _, by simpa using h1, _, k, rfl, by unfold most; omega, .inr ⟨fb, 0, rfl, fun i hi => ?_⟩⟩
  have hc : ∀ j, j < 4 → W.cell? ⟨fb, i * 4 + j, none⟩ = (Form.cells t.forms[i])[j]? := fun j hj => by
    have := flatMap_get (f := Form.cells) (size := 4) (fun _ => rfl) t.forms i hi j hj
    simp only [World.cell?, hb]
    simpa using this
  have hm := ht _ (List.getElem_mem hi)
  refine ⟨?_, ?_, ?_, ?_, hm⟩
  · simpa [Form.cells] using hc 0 (by omega)
  · simpa [Form.cells] using hc 1 (by omega)
  · simpa [Form.cells] using hc 2 (by omega)
  · simpa [Form.cells] using hc 3 (by omega)
theorem RulC.at {W : World} {c : List Value} {r : Rul} (h : RulC W c r) {b o : Nat} (h0 : W.cell? ⟨b, o, none⟩ = c[0]?) (h1 : W.cell? ⟨b, o + 1, none⟩ = c[1]?) (h2 : W.cell? ⟨b, o + 2, none⟩ = c[2]?) : RulAt W b o r := by
  obtain ⟨pb, k, rfl, hb, hl⟩ := h
  refine ⟨by simpa using h0, by simpa using h1, _, by simpa using h2, _, k, rfl, by unfold most; omega, .inr ⟨pb, 0, rfl, fun i hi => ?_⟩⟩
  have hc : ∀ j, j < 4 → W.cell? ⟨pb, i * 4 + j, none⟩ = (Pce.cells r.pieces[i])[j]? := fun j hj => by
    have := flatMap_get (f := Pce.cells) (size := 4) (fun _ => rfl) r.pieces i hi j hj
    simp only [World.cell?, hb]
    simpa using this
  refine ⟨?_, ?_, ?_, ?_⟩
  · simpa [Pce.cells] using hc 0 (by omega)
  · simpa [Pce.cells] using hc 1 (by omega)
  · simpa [Pce.cells] using hc 2 (by omega)
  · simpa [Pce.cells] using hc 3 (by omega)

theorem OwnsV.terms {W : World} {base : Nat} {v : Value} {xs : List Term} (h : OwnsV W base 62 2 v TermC xs) (hl : xs.length ≤ 1000000) : SliceV W v 2 TermAt xs := by
  obtain ⟨cs, hcl, hcs, hrow, hR⟩ := h
  by_cases h0 : 0 < xs.length
  · obtain ⟨g, cap, rfl, hc⟩ := row_cell hrow h0
    refine ⟨_, cap, rfl, by unfold most; omega, .inr ⟨g, 0, rfl, fun i hi => ?_⟩⟩
    have hg := flatten_get hcs i (by omega)
    have hlen := hcs _ (List.getElem_mem (show i < cs.length by omega))
    have ec : ∀ j, j < 2 → W.cell? ⟨g, i * 2 + j, none⟩ = (cs[i]'(by omega))[j]? := fun j hj => by
      have e := hg j hj
      have hlt : j < (cs[i]'(by omega)).length := by omega
      rw [List.getElem?_eq_getElem hlt] at e ⊢
      exact hc _ _ e
    simp only [Nat.zero_add]
    exact (hR i (by omega) hi).at (ec 0 (by omega)) (ec 1 (by omega))
  · have : xs = [] := by cases xs; rfl; simp at h0
    subst this
    obtain ⟨ad, cap, rfl⟩ := ownsRow_slice hrow
    exact ⟨_, cap, rfl, by simp, .inl rfl⟩
theorem OwnsV.rules {W : World} {base : Nat} {v : Value} {xs : List Rul} (h : OwnsV W base 54 3 v RulC xs) (hl : xs.length ≤ 1000000) : SliceV W v 3 RulAt xs := by
  obtain ⟨cs, hcl, hcs, hrow, hR⟩ := h
  by_cases h0 : 0 < xs.length
  · obtain ⟨g, cap, rfl, hc⟩ := row_cell hrow h0
    refine ⟨_, cap, rfl, by unfold most; omega, .inr ⟨g, 0, rfl, fun i hi => ?_⟩⟩
    have hg := flatten_get hcs i (by omega)
    have hlen := hcs _ (List.getElem_mem (show i < cs.length by omega))
    have ec : ∀ j, j < 3 → W.cell? ⟨g, i * 3 + j, none⟩ = (cs[i]'(by omega))[j]? := fun j hj => by
      have e := hg j hj
      have hlt : j < (cs[i]'(by omega)).length := by omega
      rw [List.getElem?_eq_getElem hlt] at e ⊢
      exact hc _ _ e
    simp only [Nat.zero_add]
    exact (hR i (by omega) hi).at (ec 0 (by omega)) (ec 1 (by omega)) (ec 2 (by omega))
  · have : xs = [] := by cases xs; rfl; simp at h0
    subst this
    obtain ⟨ad, cap, rfl⟩ := ownsRow_slice hrow
    exact ⟨_, cap, rfl, by simp, .inl rfl⟩

/-- A slice of one's own is kept by what grows another slice, of another type. -/
theorem OwnsV.kept {α : Type} {own : Nat → Bool} {W W' : World} {base e size n : Nat} {v : Value} {R : World → List Value → α → Prop} {xs : List α} {row : Option Nat} (h : OwnsV W base e size v R xs) (hR : Held own R) (hk : Kp n own W W')
    (hg : W.grownBy W' row) (hne : v.ownBlock = none ∨ v.ownBlock ≠ row) : OwnsV W' base e size v R xs := by
  obtain ⟨cs, h1, h2, h3, h4⟩ := h
  exact ⟨cs, h1, h2, h3.kept hg hne, fun i hi hi' => hR n _ _ _ _ hk (h4 i hi hi')⟩
theorem OwnsV.below {α : Type} {own : Nat → Bool} {W W' : World} {base e size : Nat} {v : Value} {R : World → List Value → α → Prop} {xs : List α} (h : OwnsV W base e size v R xs) (hR : Held own R) (hB : Below W.heap.size W W') : OwnsV W' base e size v R xs := by
  obtain ⟨cs, h1, h2, h3, h4⟩ := h
  exact ⟨cs, h1, h2, ownsRow_below h3 hB, fun i hi hi' => hR 0 _ _ _ _ ⟨hB.mono (Nat.zero_le _), fun _ _ _ _ hk _ => heap_keep hB hk⟩ (h4 i hi hi')⟩
/-- Two slices of one's own, of two types, lie apart. -/
theorem rows_apart {W : World} {b1 b2 e1 e2 s1 s2 k1 k2 : Nat} {v u : Value} {xs ys : List Value} (h : W.ownsRow b1 e1 s1 v k1 xs) (k : W.ownsRow b2 e2 s2 u k2 ys) (hne : e1 ≠ e2) : v.ownBlock = none ∨ v.ownBlock ≠ u.ownBlock := by
  rcases h.2 with ⟨rfl, _⟩ | ⟨g, cap, cur, rfl, _, hgb, _⟩
  · exact .inl rfl
  · refine .inr fun e => ?_
    rcases k.2 with ⟨rfl, _⟩ | ⟨g', cap', cur', rfl, _, hgb', _⟩
    · simp [Value.ownBlock] at e
    · obtain rfl : g = g' := by simpa [Value.ownBlock] using e
      rw [hgb] at hgb'
      simp at hgb'
      exact hne hgb'.2
/-- It has grown by elements whose cells are at hand. -/
theorem OwnsV.snoc {α : Type} {own : Nat → Bool} {W W' : World} {base e size n : Nat} {v v' : Value} {R : World → List Value → α → Prop} {xs ys : List α} {ds : List (List Value)} (h : OwnsV W base e size v R xs) (hR : Held own R) (hk : Kp n own W W')
    (hrow : ∀ cs : List (List Value), W.ownsRow base e size v xs.length cs.flatten → W'.ownsRow base e size v' (xs.length + ys.length) (cs.flatten ++ ds.flatten)) (hd : ds.length = ys.length) (hds : ∀ d ∈ ds, d.length = size)
    (hy : ∀ i (h : i < ds.length) (h' : i < ys.length), R W' ds[i] ys[i]) : OwnsV W' base e size v' R (xs ++ ys) := by
  obtain ⟨cs, h1, h2, h3, h4⟩ := h
  refine ⟨cs ++ ds, by simp [h1, hd], fun c hc => (List.mem_append.1 hc).elim (h2 c) (hds c), by rw [List.length_append, List.flatten_append]; exact hrow cs h3, fun i hi hi' => ?_⟩
  by_cases hlt : i < cs.length
  · rw [List.getElem_append_left hlt, List.getElem_append_left (by omega)]
    exact hR n _ _ _ _ hk (h4 i hlt (by omega))
  · rw [List.getElem_append_right (by omega), List.getElem_append_right (by omega)]
    simp only [h1]
    exact hy _ (by rw [List.length_append] at hi; omega) (by rw [List.length_append] at hi'; omega)
end Go.Proofs.Ytfcopnlpcbbocaa
/- A system that is being laid: its terms, its rules, and how they grow. -/
namespace Go.Proofs.Ytfcopnlpcbbocaa
open Go.RowKit

def ownEn (t : Nat) : Bool := t == 62 || t == 54 || t == 26
/-- The block of the system: seven cells. -/
def sBlock (top cls : Int) (v vp vs : Value) : Obj := .cells #[.int .i64 top, .int .i64 1, .int .i64 1, .int .i64 cls, v, vp, vs] 26 (0, 0)
/-- What holds between two rounds: block r is the result's, s the system's. -/
structure EnAt (n r s : Nat) (top cls : Int) (vp : Value) (w W : World) (v u : Value) (ts : List Term) (rs : List Rul) : Prop where
  res : ∃ c, W.heap[r]? = some (.cells c 26 (0, 0)) ∧ c.size = 7
  sys : W.heap[s]? = some (sBlock top cls v vp (.slice none 0 0))
  terms : OwnsV W n 62 2 v TermC ts
  rules : OwnsV W n 54 3 u RulC rs
  low : Below n w W
  ne : r ≠ s
  rn : n ≤ r
  sn : n ≤ s

theorem kp_grown {own : Nat → Bool} {W W' : World} {n e size k : Nat} {v : Value} {xs : List Value} (hg : W.grownBy W' v.ownBlock) (hrow : W.ownsRow n e size v k xs) (he : own e = true) (hn : n ≤ W.heap.size) : Kp n own W W' := by
  refine ⟨(Below.refl n W).grown hg hn (fun j ej => ?_), fun j c t' fr hj ho => ?_⟩
  · rcases hrow.2 with ⟨rfl, _⟩ | ⟨g, cap, cur, rfl, hb, _, _⟩
    · simp [Value.ownBlock] at ej
    · obtain rfl : g = j := by simpa [Value.ownBlock] using ej
      exact hb
  · have hr : some j ≠ v.ownBlock := by
      rcases hrow.2 with ⟨rfl, _⟩ | ⟨g, cap, cur, rfl, _, hgb, _⟩
      · simp [Value.ownBlock]
      · intro e'
        obtain rfl : j = g := by simpa [Value.ownBlock] using e'
        rw [hgb] at hj; cases hj
        rw [he] at ho; cases ho
    exact (hg.block j (Array.getElem?_eq_some_iff.1 hj).1 hr).trans hj
theorem kp_set {own : Nat → Bool} {W : World} {n b o t : Nat} {c : Array Value} {fr : Nat × Nat} (hb : W.heap[b]? = some (.cells c t fr)) (ht : own t = true) (hn : n ≤ b) (x : Value) : Kp n own W (W.setCell ⟨b, o, none⟩ x) := by
  refine ⟨(Below.refl n W).setCell (p := ⟨b, o, none⟩) hn _, fun j c' t' fr' hj ho => ?_⟩
  have hB : j ≠ b := by
    rintro rfl
    rw [hb] at hj
    cases hj
    rw [ht] at ho; cases ho
  rw [Below.heap_setCell _ _ _ _ hB]; exact hj
theorem set_block {W : World} {b o t : Nat} {c : Array Value} {fr : Nat × Nat} (hb : W.heap[b]? = some (.cells c t fr)) (x : Value) : (W.setCell ⟨b, o, none⟩ x).heap[b]? = some (.cells (c.setIfInBounds o x) t fr) := by
  obtain ⟨hlt, hk⟩ := Array.getElem?_eq_some_iff.1 hb
  show (W.heap.modify b _)[b]? = _
  rw [Array.getElem?_eq_getElem (by rw [Array.size_modify]; exact hlt), Array.getElem_modify_self, hk]
  rfl
theorem grown_set (W : World) (b o : Nat) (v : Value) : W.grownBy (W.setCell ⟨b, o, none⟩ v) (some b) :=
  ⟨rfl, rfl, rfl, (KeepsWalks.setCell W _ v).size, fun k _ hk => Below.heap_setCell _ _ _ k (fun e => hk (by rw [e]))⟩
/-- A block of another type than a slice's own is none of the slice's. -/
theorem apart_row {W : World} {b t n e size k : Nat} {c : Array Value} {fr : Nat × Nat} {v : Value} {xs : List Value} (hb : W.heap[b]? = some (.cells c t fr)) (hrow : W.ownsRow n e size v k xs) (hte : t ≠ e) : some b ≠ v.ownBlock := by
  rcases hrow.2 with ⟨rfl, _⟩ | ⟨g, cap', cur, rfl, _, hgb, _⟩
  · simp [Value.ownBlock]
  · intro e'
    obtain rfl : b = g := by simpa [Value.ownBlock] using e'
    rw [hb] at hgb
    simp at hgb
    exact hte hgb.2.1
theorem below_of_kp {W W' : World} {n : Nat} {own : Nat → Bool} (h : Kp n own W W') : Below n W W' := h.low

variable {n r s : Nat} {top cls : Int} {vp : Value} {w W Wp w1 : World} {v u v' : Value} {ts ys : List Term} {rs zs : List Rul}
theorem EnAt.below (hE : EnAt n r s top cls vp w W v u ts rs) (hB : Below W.heap.size W Wp) (hn : n ≤ W.heap.size) : EnAt n r s top cls vp w Wp v u ts rs :=
  ⟨let ⟨c, h1, h2⟩ := hE.res; ⟨c, heap_keep hB h1, h2⟩, heap_keep hB hE.sys, hE.terms.below (own := ownEn) (TermC.held rfl) hB, hE.rules.below (own := ownEn) (RulC.held rfl) hB, hE.low.trans (hB.mono hn), hE.ne, hE.rn, hE.sn⟩
theorem EnAt.size (hE : EnAt n r s top cls vp w W v u ts rs) : s < W.heap.size ∧ r < W.heap.size := ⟨(Array.getElem?_eq_some_iff.1 hE.sys).1, let ⟨_, h1, _⟩ := hE.res; (Array.getElem?_eq_some_iff.1 h1).1⟩
/-- The terms have grown, and the system holds them. -/
theorem EnAt.moreTerms (hE : EnAt n r s top cls vp w Wp v u ts rs) {cs ds : List (List Value)} (h1 : cs.length = ts.length) (h2 : ∀ c ∈ cs, c.length = 2) (h3 : Wp.ownsRow n 62 2 v ts.length cs.flatten) (h4 : ∀ i (h : i < cs.length) (h' : i < ts.length), TermC Wp cs[i] ts[i])
    (hg : Wp.grownBy w1 v.ownBlock) (hown : w1.ownsRow n 62 2 v' (ts.length + ys.length) (cs.flatten ++ ds.flatten)) (hd : ds.length = ys.length) (hds : ∀ d ∈ ds, d.length = 2) (hy : ∀ i (h : i < ds.length) (h' : i < ys.length), TermC Wp ds[i] ys[i]) :
    EnAt n r s top cls vp w (w1.setCell ⟨s, 4, none⟩ v') v' u (ts ++ ys) rs ∧ Kp n ownEn Wp (w1.setCell ⟨s, 4, none⟩ v') := by
  have hsz := hE.size
  have hsn := hE.sn
  have hrn := hE.rn
  have hk1 : Kp n ownEn Wp w1 := kp_grown hg h3 rfl (by omega)
  have hs1 : w1.heap[s]? = some (sBlock top cls v vp (.slice none 0 0)) := (hg.block s hsz.1 (apart_row hE.sys h3 (by decide))).trans hE.sys
  have hk2 : Kp n ownEn w1 (w1.setCell ⟨s, 4, none⟩ v') := kp_set hs1 rfl hE.sn v'
  have hk := hk1.trans hk2
  obtain ⟨c, hc1, hc2⟩ := hE.res
  obtain ⟨gs, -, -, hrow, -⟩ := hE.rules
  refine ⟨⟨⟨c, ?_, hc2⟩, ?_, ?_, ?_, hE.low.trans hk.low, hE.ne, hE.rn, hE.sn⟩, hk⟩
  · rw [Below.heap_setCell _ _ _ _ hE.ne]
    exact (hg.block r hsz.2 (apart_row hc1 h3 (by decide))).trans hc1
  · have := set_block (o := 4) hs1 v'
    simpa [sBlock] using this
  · have hown2 : (w1.setCell ⟨s, 4, none⟩ v').ownsRow n 62 2 v' (ts.length + ys.length) (cs.flatten ++ ds.flatten) := hown.kept (grown_set _ s 4 v') (.inr (apart_row hs1 hown (by decide)).symm)
    refine ⟨cs ++ ds, by simp [h1, hd], fun c hc => (List.mem_append.1 hc).elim (h2 c) (hds c), by rw [List.length_append, List.flatten_append]; exact hown2, fun i hi hi' => ?_⟩
    by_cases hlt : i < cs.length
    · rw [List.getElem_append_left hlt, List.getElem_append_left (by omega)]
      exact TermC.held (own := ownEn) rfl n _ _ _ _ hk (h4 i hlt (by omega))
    · rw [List.getElem_append_right (by omega), List.getElem_append_right (by omega)]
      simp only [h1]
      exact TermC.held (own := ownEn) rfl n _ _ _ _ hk (hy _ (by rw [List.length_append] at hi; omega) (by rw [List.length_append] at hi'; omega))
  · have ha := hE.rules.kept (own := ownEn) (RulC.held rfl) hk1 hg (rows_apart hrow h3 (by decide))
    have ha' := ha
    obtain ⟨gs', -, -, hrow', -⟩ := ha'
    exact ha.kept (own := ownEn) (RulC.held rfl) hk2 (grown_set _ s 4 v') (.inr (apart_row hs1 hrow' (by decide)).symm)
/-- The rules have grown. -/
theorem EnAt.moreRules (hE : EnAt n r s top cls vp w Wp v u ts rs) {cs ds : List (List Value)} (h1 : cs.length = rs.length) (h2 : ∀ c ∈ cs, c.length = 3) (h3 : Wp.ownsRow n 54 3 u rs.length cs.flatten) (h4 : ∀ i (h : i < cs.length) (h' : i < rs.length), RulC Wp cs[i] rs[i])
    (hg : Wp.grownBy w1 u.ownBlock) (hown : w1.ownsRow n 54 3 v' (rs.length + zs.length) (cs.flatten ++ ds.flatten)) (hd : ds.length = zs.length) (hds : ∀ d ∈ ds, d.length = 3) (hy : ∀ i (h : i < ds.length) (h' : i < zs.length), RulC Wp ds[i] zs[i]) :
    EnAt n r s top cls vp w w1 v v' ts (rs ++ zs) ∧ Kp n ownEn Wp w1 := by
  have hsz := hE.size
  have hsn := hE.sn
  have hk : Kp n ownEn Wp w1 := kp_grown hg h3 rfl (by omega)
  obtain ⟨c, hc1, hc2⟩ := hE.res
  obtain ⟨gs, -, -, hrow, -⟩ := hE.terms
  refine ⟨⟨⟨c, (hg.block r hsz.2 (apart_row hc1 h3 (by decide))).trans hc1, hc2⟩, (hg.block s hsz.1 (apart_row hE.sys h3 (by decide))).trans hE.sys, ?_, ?_, hE.low.trans hk.low, hE.ne, hE.rn, hE.sn⟩, hk⟩
  · exact hE.terms.kept (own := ownEn) (TermC.held rfl) hk hg (rows_apart hrow h3 (by decide))
  · refine ⟨cs ++ ds, by simp [h1, hd], fun c hc => (List.mem_append.1 hc).elim (h2 c) (hds c), by rw [List.length_append, List.flatten_append]; exact hown, fun i hi hi' => ?_⟩
    by_cases hlt : i < cs.length
    · rw [List.getElem_append_left hlt, List.getElem_append_left (by omega)]
      exact RulC.held (own := ownEn) rfl n _ _ _ _ hk (h4 i hlt (by omega))
    · rw [List.getElem_append_right (by omega), List.getElem_append_right (by omega)]
      simp only [h1]
      exact RulC.held (own := ownEn) rfl n _ _ _ _ hk (hy _ (by rw [List.length_append] at hi; omega) (by rw [List.length_append] at hi'; omega))
end Go.Proofs.Ytfcopnlpcbbocaa
