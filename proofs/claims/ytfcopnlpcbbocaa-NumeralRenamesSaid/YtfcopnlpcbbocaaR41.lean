/- A renamed system that is being laid: its terms, whose forms lie at the heads of blocks that have grown; the forms of one term. -/
import Derived.Test.YtfcopnlpcbbocaaH0
import Derived.Test.YtfcopnlpcbbocaaR40
set_option linter.unusedSimpArgs false
set_option linter.unusedVariables false
namespace Go.Proofs.Ytfcopnlpcbbocaa
open Go.RowKit

def fcells (l : List Form) : List Value := l.flatMap Form.cells
theorem fcells_len (l : List Form) : (fcells l).length = l.length * 4 := by
  unfold fcells
  induction l with
  | nil => rfl
  | cons f l ih => rw [List.flatMap_cons, List.length_append, ih, List.length_cons]; show 4 + _ = _; omega
theorem fcells_snoc (l : List Form) (f : Form) : fcells (l ++ [f]) = fcells l ++ Form.cells f := by simp [fcells]
/-- The two cells of a term whose forms lie at the head of a block. -/
def TermG (W : World) (c : List Value) (t : Term) : Prop :=
  ∃ v, c = [.int .i64 t.gen, v] ∧ t.forms.length ≤ 1000 ∧ (∀ f ∈ t.forms, f.txt.size ≤ most) ∧
    ((t.forms = [] ∧ v = .slice none 0 0) ∨ ∃ (b k : Nat) (a : Array Value) (fr : Nat × Nat), v = .slice (some ⟨b, 0, none⟩) t.forms.length k ∧ W.heap[b]? = some (.cells a 90 fr) ∧ ∀ (j : Nat) (u : Value), (fcells t.forms)[j]? = some u → a[j]? = some u)
theorem TermG.held {own : Nat → Bool} (h : own 90 = false) : Held own TermG := fun _ _ _ _ _ hk ⟨v, hc, hl, ht, hx⟩ =>
  ⟨v, hc, hl, ht, hx.imp id fun ⟨b, k, a, fr, hv, hb, hj⟩ => ⟨b, k, a, fr, hv, hk.cells b _ _ _ hb h, hj⟩⟩
theorem TermG.at {W : World} {c : List Value} {t : Term} (h : TermG W c t) {b o : Nat} (h0 : W.cell? ⟨b, o, none⟩ = c[0]?) (h1 : W.cell? ⟨b, o + 1, none⟩ = c[1]?) : TermAt W b o t := by
  obtain ⟨v, rfl, hl, ht, hx⟩ := h
  refine ⟨by simpa using h0, v, by simpa using h1, ?_⟩
  rcases hx with ⟨he, rfl⟩ | ⟨fb, k, a, fr, rfl, hb, ha⟩
  · exact ⟨none, 0, by rw [he]; rfl, by rw [he]; exact Nat.zero_le _, .inl he⟩
  · refine ⟨_, k, rfl, by unfold most; omega, .inr ⟨fb, 0, rfl, fun i hi => ?_⟩⟩
    have hc : ∀ j, (hj : j < 4) → W.cell? ⟨fb, i * 4 + j, none⟩ = (Form.cells t.forms[i])[j]? := fun j hj => by
      have := flatMap_get (f := Form.cells) (size := 4) (fun _ => rfl) t.forms i hi j hj
      have hlt : j < (Form.cells t.forms[i]).length := hj
      rw [List.getElem?_eq_getElem hlt] at this ⊢
      have h2 := ha _ _ this
      simp only [World.cell?, hb]
      exact h2
    have hm := ht _ (List.getElem_mem hi)
    refine ⟨?_, ?_, ?_, ?_, hm⟩
    · simpa [Form.cells] using hc 0 (by omega)
    · simpa [Form.cells] using hc 1 (by omega)
    · simpa [Form.cells] using hc 2 (by omega)
    · simpa [Form.cells] using hc 3 (by omega)
/-- A row of forms of one's own is a term's. -/
theorem TermG.of_row {W : World} {base : Nat} {v : Value} {g : Int} {fs : List Form} (h : W.ownsRow base 90 4 v fs.length (fcells fs)) (hl : fs.length ≤ 1000) (ht : ∀ f ∈ fs, f.txt.size ≤ most) : TermG W [.int .i64 g, v] ⟨g, fs⟩ := by
  refine ⟨v, rfl, hl, ht, ?_⟩
  rcases h.2 with ⟨hv, h0⟩ | ⟨b, cap, cur, hv, -, hb, -, -, -, hx⟩
  · exact .inl ⟨List.eq_nil_of_length_eq_zero h0, hv⟩
  · refine .inr ⟨b, cap, cur, (0, 0), hv, hb, fun j u hu => ?_⟩
    rw [← hx] at hu
    have := List.getElem?_take (l := cur.toList) (i := fs.length * 4) (j := j)
    rw [this] at hu
    split at hu
    · simpa using hu
    · cases hu
theorem OwnsV.termsG {W : World} {base : Nat} {v : Value} {xs : List Term} (h : OwnsV W base 62 2 v TermG xs) (hl : xs.length ≤ 1000000) : SliceV W v 2 TermAt xs := by
  obtain ⟨cs, hcl, hcs, hrow, hR⟩ := h
  by_cases h0 : 0 < xs.length
  · obtain ⟨g, cap, rfl, hc⟩ := row_cell hrow h0
    refine ⟨_, cap, rfl, by unfold most; omega, .inr ⟨g, 0, rfl, fun i hi => ?_⟩⟩
    have hg := flatten_get hcs i (by omega)
    have hlen := hcs _ (List.getElem_mem (show i < cs.length by omega))
    have ec : ∀ j, j < 2 → W.cell? ⟨g, i * 2 + j, none⟩ = (cs[i]'(by omega))[j]? := fun j hj => by
      have e := hg j hj
      have hlt : j < (cs[i]'(by omega)).length := by omega
      rw [List.getElem?_eq_getElem hlt] at e ⊢
      exact hc _ _ e
    simp only [Nat.zero_add]
    exact (hR i (by omega) hi).at (ec 0 (by omega)) (ec 1 (by omega))
  · have : xs = [] := by cases xs; rfl; simp at h0
    subst this
    obtain ⟨ad, cap, rfl⟩ := ownsRow_slice hrow
    exact ⟨_, cap, rfl, by simp, .inl rfl⟩

/-- The block of the system. -/
def rBlock (S : Sys) (v vp vs : Value) : Obj := .cells #[.int .i64 S.top, .int .i64 S.genders, .int .i64 S.cases, .int .i64 S.classes, v, vp, vs] 26 (0, 0)
/-- What holds between two rounds: block s is the renamed system's. -/
structure EnR (n s : Nat) (S : Sys) (vp vs : Value) (w W : World) (v : Value) (ts : List Term) : Prop where
  sys : W.heap[s]? = some (rBlock S v vp vs)
  terms : OwnsV W n 62 2 v TermG ts
  low : Below n w W
  sn : n ≤ s

variable {n s : Nat} {S : Sys} {vp vs : Value} {w W Wp w1 : World} {v v' : Value} {ts ys : List Term}
theorem EnR.below (hE : EnR n s S vp vs w W v ts) (hB : Below W.heap.size W Wp) (hn : n ≤ W.heap.size) : EnR n s S vp vs w Wp v ts :=
  ⟨heap_keep hB hE.sys, hE.terms.below (own := ownEn) (TermG.held rfl) hB, hE.low.trans (hB.mono hn), hE.sn⟩
theorem EnR.size (hE : EnR n s S vp vs w W v ts) : s < W.heap.size := (Array.getElem?_eq_some_iff.1 hE.sys).1
/-- The terms have grown, and the system holds them. -/
theorem EnR.moreTerms (hE : EnR n s S vp vs w Wp v ts) {cs ds : List (List Value)} (h1 : cs.length = ts.length) (h2 : ∀ c ∈ cs, c.length = 2) (h3 : Wp.ownsRow n 62 2 v ts.length cs.flatten) (h4 : ∀ i (h : i < cs.length) (h' : i < ts.length), TermG Wp cs[i] ts[i])
    (hg : Wp.grownBy w1 v.ownBlock) (hown : w1.ownsRow n 62 2 v' (ts.length + ys.length) (cs.flatten ++ ds.flatten)) (hd : ds.length = ys.length) (hds : ∀ d ∈ ds, d.length = 2) (hy : ∀ i (h : i < ds.length) (h' : i < ys.length), TermG Wp ds[i] ys[i]) :
    EnR n s S vp vs w (w1.setCell ⟨s, 4, none⟩ v') v' (ts ++ ys) ∧ Kp n ownEn Wp (w1.setCell ⟨s, 4, none⟩ v') := by
  have hsz := hE.size
  have hsn := hE.sn
  have hk1 : Kp n ownEn Wp w1 := kp_grown hg h3 rfl (by omega)
  have hs1 : w1.heap[s]? = some (rBlock S v vp vs) := (hg.block s hsz (apart_row hE.sys h3 (by decide))).trans hE.sys
  have hk2 : Kp n ownEn w1 (w1.setCell ⟨s, 4, none⟩ v') := kp_set hs1 rfl hE.sn v'
  have hk := hk1.trans hk2
  refine ⟨⟨?_, ?_, hE.low.trans hk.low, hE.sn⟩, hk⟩
  · have := set_block (o := 4) hs1 v'
    simpa [rBlock] using this
  · have hown2 : (w1.setCell ⟨s, 4, none⟩ v').ownsRow n 62 2 v' (ts.length + ys.length) (cs.flatten ++ ds.flatten) := hown.kept (grown_set _ s 4 v') (.inr (apart_row hs1 hown (by decide)).symm)
    refine ⟨cs ++ ds, by simp [h1, hd], fun c hc => (List.mem_append.1 hc).elim (h2 c) (hds c), by rw [List.length_append, List.flatten_append]; exact hown2, fun i hi hi' => ?_⟩
    by_cases hlt : i < cs.length
    · rw [List.getElem_append_left hlt, List.getElem_append_left (by omega)]
      exact TermG.held (own := ownEn) rfl n _ _ _ _ hk (h4 i hlt (by omega))
    · rw [List.getElem_append_right (by omega), List.getElem_append_right (by omega)]
      simp only [h1]
      exact TermG.held (own := ownEn) rfl n _ _ _ _ hk (hy _ (by rw [List.length_append] at hi; omega) (by rw [List.length_append] at hi'; omega))
/-- What holds between two rounds over the forms of a term: the block of the term, and the forms so far. -/
structure InR (wo W : World) (g : Int) (u : Value) (fs : List Form) : Prop where
  box : W.heap[wo.heap.size]? = some (.cells #[.int .i64 g, u] 62 (0, 0))
  row : W.ownsRow wo.heap.size 90 4 u fs.length (fcells fs)
  low : Below wo.heap.size wo W
theorem InR.size {wo W : World} {g : Int} {u : Value} {fs : List Form} (h : InR wo W g u fs) : wo.heap.size < W.heap.size := (Array.getElem?_eq_some_iff.1 h.box).1
theorem InR.new (wo : World) (g : Int) : InR wo (wo.alloc (.cells #[.int .i64 g, .slice none 0 0] 62)) g (.slice none 0 0) [] :=
  ⟨World.alloc_heap_new wo _, World.ownsRow_nil _ _ _ _, bAlloc (Below.refl _ _) _⟩
theorem InR.more {wo W Wp w1 : World} {g : Int} {u u' : Value} {fs : List Form} {f : Form} (h : InR wo W g u fs) (hB : Below W.heap.size W Wp) (hg : Wp.grownBy w1 u.ownBlock)
    (hown : w1.ownsRow wo.heap.size 90 4 u' (fs.length + 1) (fcells fs ++ Form.cells f)) : InR wo (w1.setCell ⟨wo.heap.size, 1, none⟩ u') g u' (fs ++ [f]) := by
  have hsz := h.size
  have hrow := ownsRow_below h.row hB
  have hbox := heap_keep hB h.box
  have hszp := hB.size
  have h1 : w1.heap[wo.heap.size]? = some (.cells #[.int .i64 g, u] 62 (0, 0)) := (hg.block _ (by omega) (apart_row hbox hrow (by decide))).trans hbox
  refine ⟨?_, ?_, ?_⟩
  · have := set_block (o := 1) h1 u'
    simpa using this
  · have := hown.kept (grown_set w1 wo.heap.size 1 u') (.inr (apart_row h1 hown (by decide)).symm)
    rw [List.length_append, fcells_snoc]
    exact this
  · have hk := kp_grown (own := fun t => t == 90) hg hrow rfl (by omega)
    exact ((h.low.trans (hB.mono (by omega))).trans hk.low).trans ((Below.refl _ _).setCell (p := ⟨wo.heap.size, 1, none⟩) (Nat.le_refl _) _)
/-- The texts of a system in small. -/
def shortTo (S : Sys) (i : Nat) : Prop := ∀ t ∈ S.terms.take i, ∀ f ∈ t.forms, f.txt.size ≤ 29
theorem shortTo_zero (S : Sys) : shortTo S 0 := fun t ht => by simp at ht
theorem shortTo_succ {S : Sys} {i : Nat} (h : i < S.terms.length) (hs : shortTo S i) (hf : ∀ f ∈ S.terms[i].forms, f.txt.size ≤ 29) : shortTo S (i + 1) := by
  intro t ht
  rw [take_succ _ _ h] at ht
  rcases List.mem_append.1 ht with ht | ht
  · exact hs t ht
  · rw [List.mem_singleton.1 ht]; exact hf
theorem starT_take {l : List Term} {i : Nat} (h : i < l.length) : (l.take (i + 1)).map starT = (l.take i).map starT ++ [starT l[i]] := by rw [take_succ _ _ h, List.map_append]; rfl
theorem starF_take {l : List Form} {i : Nat} (h : i < l.length) : (l.take (i + 1)).map starF = (l.take i).map starF ++ [starF l[i]] := by rw [take_succ _ _ h, List.map_append]; rfl
end Go.Proofs.Ytfcopnlpcbbocaa
