/- Contracts: a speller in new memory; the numbers whose words are different in two systems. -/
import Derived.Test.YtfcopnlpcbbocaaR22
import Derived.Test.YtfcopnlpcbbocaaR10
import Derived.Deep.RegionHeld3
set_option linter.unusedSimpArgs false
set_option linter.unusedVariables false
namespace Go.Proofs.Ytfcopnlpcbbocaa
open Go.RowKit

/-- A speller in a block of its own: its cells, and its map. -/
structure SplBox (w : World) (b : Nat) (S : Sys) (vt vp vs : Value) : Prop where
  typ : TypAt w b 129
  c0 : w.cell? ⟨b, 0, none⟩ = some (.int .i64 S.top)
  c1 : w.cell? ⟨b, 1, none⟩ = some (.int .i64 S.genders)
  c2 : w.cell? ⟨b, 2, none⟩ = some (.int .i64 S.cases)
  c3 : w.cell? ⟨b, 3, none⟩ = some (.int .i64 S.classes)
  c4 : w.cell? ⟨b, 4, none⟩ = some vt
  c5 : w.cell? ⟨b, 5, none⟩ = some vp
  c6 : w.cell? ⟨b, 6, none⟩ = some vs
  map : ∃ r, w.cell? ⟨b, 7, none⟩ = some (.map (some r)) ∧ w.heap[r]? = some (.map saysMap 5)
theorem SplBox.keep {w w' : World} {b : Nat} {S : Sys} {vt vp vs : Value} (h : SplBox w b S vt vp vs) (hB : Below w.heap.size w w') : SplBox w' b S vt vp vs :=
  ⟨h.typ.keep hB, Ytfcopnlpcbbocaa.keep hB h.c0, Ytfcopnlpcbbocaa.keep hB h.c1, Ytfcopnlpcbbocaa.keep hB h.c2, Ytfcopnlpcbbocaa.keep hB h.c3, Ytfcopnlpcbbocaa.keep hB h.c4, Ytfcopnlpcbbocaa.keep hB h.c5, Ytfcopnlpcbbocaa.keep hB h.c6, let ⟨r, h1, h2⟩ := h.map; ⟨r, Ytfcopnlpcbbocaa.keep hB h1, heap_keep hB h2⟩⟩
theorem cell_off {w : World} {b c o t u : Nat} {x v : Value} (hb : TypAt w b t) (hc : TypAt w c u) (hne : t ≠ u) {j : Nat} (h : w.cell? ⟨b, j, none⟩ = some v) : (w.setCell ⟨c, o, none⟩ x).cell? ⟨b, j, none⟩ = some v := by
  have hbc : b ≠ c := by
    rintro rfl
    obtain ⟨c1, f1, h1⟩ := hb
    obtain ⟨c2, f2, h2⟩ := hc
    rw [h1] at h2; injection h2 with h2; injection h2 with _ h2; exact hne h2
  rw [← h]
  simp only [World.cell?, World.setCell]
  rw [Array.getElem?_modify, if_neg (by omega)]
theorem heap_other {w : World} {r c o u : Nat} {x : Value} {es : Array MapEntry} {k : Nat} (hc : TypAt w c u) (h : w.heap[r]? = some (.map es k)) : (w.setCell ⟨c, o, none⟩ x).heap[r]? = some (.map es k) := by
  have hrc : r ≠ c := by
    rintro rfl
    obtain ⟨c2, f2, h2⟩ := hc
    rw [h] at h2; injection h2 with h2; cases h2
  rw [← h]
  simp only [World.setCell]
  rw [Array.getElem?_modify, if_neg (by omega)]
theorem SplBox.set {w : World} {b c o u : Nat} {S : Sys} {vt vp vs x : Value} (h : SplBox w b S vt vp vs) (hc : TypAt w c u) (hu : 129 ≠ u) : SplBox (w.setCell ⟨c, o, none⟩ x) b S vt vp vs :=
  ⟨h.typ.setCell _ _, cell_off h.typ hc hu h.c0, cell_off h.typ hc hu h.c1, cell_off h.typ hc hu h.c2, cell_off h.typ hc hu h.c3, cell_off h.typ hc hu h.c4, cell_off h.typ hc hu h.c5, cell_off h.typ hc hu h.c6,
    let ⟨r, h1, h2⟩ := h.map; ⟨r, cell_off h.typ hc hu h1, heap_other hc h2⟩⟩
theorem SplBox.spl {w : World} {b : Nat} {S : Sys} {vt vp vs : Value} (h : SplBox w b S vt vp vs) (hp : SysParts w vt vp vs S) : SplAt w b S :=
  ⟨⟨vt, vp, vs, h.c0, h.c1, h.c2, h.c3, h.c4, h.c5, h.c6, hp⟩, h.map⟩

set_option maxRecDepth 100000 in
set_option maxHeartbeats 1000000 in
theorem newSpeller_new (S : Sys) (vt vp vs : Value) (w : World) (hp : SysParts w vt vp vs S) :
    Calls Try.prog 43 #[sysVal S vt vp vs] w fun e w' => (∃ b, e = .returned (.pointer (some ⟨b, 0, none⟩)) ∧ SplBox w' b S vt vp vs) ∧ Below w.heap.size w w' := by
  have HP := Lib.hid hp
  obtain ⟨⟨at_, ct, rfl, -⟩, ⟨ap, cp, rfl, -⟩, ⟨as_, cs, rfl, -⟩⟩ := hp
  unfold sysVal
  have hmm := @run_makeMap Try.prog
  go_enter Try.func43, Try.ntmps43
  go_wp2_with fail
  generalize hW : World.alloc (World.alloc w _) _ = W1
  have hB1 : Below w.heap.size w W1 := by rw [← hW]; exact bAlloc (bAlloc (Below.refl _ _) _) _
  have hm1 : W1.heap[w.heap.size + 1]? = some (.map #[] 0) := by rw [← hW]; have := World.alloc_heap_new (World.alloc w (.cells #[Value.int IntKind.i64 S.top, Value.int IntKind.i64 S.genders, Value.int IntKind.i64 S.cases, Value.int IntKind.i64 S.classes, Value.slice at_ S.terms.length ct, Value.slice ap S.plurals.length cp, Value.slice as_ S.sets.length cs] 26)) (.map #[] 0); rwa [World.size_alloc] at this
  clear hW
  have k1 := putObj_at (o' := .map #[⟨.int .i64 1, .func (.func 70) #[] #[], 0⟩] 1) hm1
  have k2 := putObj_at (o' := .map #[⟨.int .i64 1, .func (.func 70) #[] #[], 0⟩, ⟨.int .i64 2, .func (.func 71) #[] #[], 1⟩] 2) hm1
  have k3 := putObj_at (o' := .map #[⟨.int .i64 1, .func (.func 70) #[] #[], 0⟩, ⟨.int .i64 2, .func (.func 71) #[] #[], 1⟩, ⟨.int .i64 3, .func (.func 72) #[] #[], 2⟩] 3) hm1
  have k4 := putObj_at (o' := .map #[⟨.int .i64 1, .func (.func 70) #[] #[], 0⟩, ⟨.int .i64 2, .func (.func 71) #[] #[], 1⟩, ⟨.int .i64 3, .func (.func 72) #[] #[], 2⟩, ⟨.int .i64 4, .func (.func 73) #[] #[], 3⟩] 4) hm1
  have k5 := putObj_at (o' := .map saysMap 5) hm1
  have i1 := run_mapUpdate_new (P := Try.prog) 127 57 124 _ _ _ _ (.int .i64 1) (.func (.func 70) #[] #[]) Try.underlying127 Try.underlying57 (by simp [MapKept.IsKey]) hm1 rfl
  have i2 := run_mapUpdate_new (P := Try.prog) 127 57 124 _ _ _ _ (.int .i64 2) (.func (.func 71) #[] #[]) Try.underlying127 Try.underlying57 (by simp [MapKept.IsKey]) k1 rfl
  have i3 := run_mapUpdate_new (P := Try.prog) 127 57 124 _ _ _ _ (.int .i64 3) (.func (.func 72) #[] #[]) Try.underlying127 Try.underlying57 (by simp [MapKept.IsKey]) k2 rfl
  have i4 := run_mapUpdate_new (P := Try.prog) 127 57 124 _ _ _ _ (.int .i64 4) (.func (.func 73) #[] #[]) Try.underlying127 Try.underlying57 (by simp [MapKept.IsKey]) k3 rfl
  have i5 := run_mapUpdate_new (P := Try.prog) 127 57 124 _ _ _ _ (.int .i64 5) (.func (.func 74) #[] #[]) Try.underlying127 Try.underlying57 (by simp [MapKept.IsKey]) k4 rfl
  simp only [putObj_put, List.push_toArray, List.nil_append, List.cons_append, Nat.zero_add, Nat.reduceAdd] at i1 i2 i3 i4 i5
  clear k1 k2 k3 k4
  rw [i1]
  go_wp2_with fail
  clear i1 i2 i3 i4 i5
  change bodyPost _ _ _ _ _ ((W1.putObj (w.heap.size + 1) (Obj.map saysMap 5)).alloc _)
  have hsz : (W1.putObj (w.heap.size + 1) (Obj.map saysMap 5)).heap.size = W1.heap.size := by simp [World.putObj]
  have hB2 : Below w.heap.size w (W1.putObj (w.heap.size + 1) (Obj.map saysMap 5)) := below_putObj hB1 _ (by omega)
  have hm2 := k5
  generalize W1.putObj (w.heap.size + 1) (Obj.map saysMap 5) = W2 at *
  rw [← hsz]
  go_ret
  refine ⟨⟨_, rfl, ⟨⟨_, _, World.alloc_heap_new _ _⟩, by simp, by simp, by simp, by simp, by simp, by simp, by simp, w.heap.size + 1, by simp, heap_keep (bAlloc (Below.refl _ _) _) hm2⟩⟩, bAlloc hB2 _⟩

/-- What was there, and two boxes for two spellers: written. -/
def Boxes (w : World) (S T : Sys) (p q : Value) (wc : World) : Prop :=
  ∃ b1 b2 sb tb : Nat, p = .pointer (some ⟨b1, 0, none⟩) ∧ q = .pointer (some ⟨b2, 0, none⟩) ∧ wc.cell? ⟨b1, 0, none⟩ = some (.pointer (some ⟨sb, 0, none⟩)) ∧ wc.cell? ⟨b2, 0, none⟩ = some (.pointer (some ⟨tb, 0, none⟩)) ∧ SplAt wc sb S ∧ SplAt wc tb T ∧ Below w.heap.size w wc
theorem boxes_end {w V : World} {S T : Sys} {vt vp vs ut up us x1 x2 : Value} {b1 b2 sb tb : Nat} (h1 : TypAt V b1 96) (h2 : TypAt V b2 96) (c1 : V.cell? ⟨b1, 0, none⟩ = some x1) (c2 : V.cell? ⟨b2, 0, none⟩ = some x2)
    (hne : b1 ≠ b2) (hs : SplBox V sb S vt vp vs) (ht : SplBox V tb T ut up us) (hB : Below w.heap.size w V) (l1 : w.heap.size ≤ b1) (l2 : w.heap.size ≤ b2) (hp : SysParts w vt vp vs S) (hq : SysParts w ut up us T) :
    Boxes w S T (.pointer (some ⟨b1, 0, none⟩)) (.pointer (some ⟨b2, 0, none⟩)) ((V.setCell ⟨b1, 0, none⟩ (.pointer (some ⟨sb, 0, none⟩))).setCell ⟨b2, 0, none⟩ (.pointer (some ⟨tb, 0, none⟩))) := by
  have hBB : Below w.heap.size w ((V.setCell ⟨b1, 0, none⟩ (.pointer (some ⟨sb, 0, none⟩))).setCell ⟨b2, 0, none⟩ (.pointer (some ⟨tb, 0, none⟩))) := (hB.setCell l1 _).setCell l2 _
  have k1 := h1.setCell ⟨b1, 0, none⟩ (.pointer (some ⟨sb, 0, none⟩))
  have k2 := h2.setCell ⟨b1, 0, none⟩ (.pointer (some ⟨sb, 0, none⟩))
  refine ⟨b1, b2, sb, tb, rfl, rfl, ?_, ?_, ((hs.set h1 (by decide)).set k2 (by decide)).spl (hp.keep hBB), ((ht.set h1 (by decide)).set k2 (by decide)).spl (hq.keep hBB), hBB⟩
  · exact (World.cell?_setCell_far _ ⟨b2, 0, none⟩ ⟨b1, 0, none⟩ _ (Ne.symm hne)).trans (World.cell?_setCell_same _ _ _ c1)
  · exact World.cell?_setCell_same _ _ _ ((World.cell?_setCell_far _ ⟨b1, 0, none⟩ ⟨b2, 0, none⟩ _ hne).trans c2)

def BoxAt (w : World) (b : Nat) : Prop := ∃ x fr, w.heap[b]? = some (.cells #[x] 96 fr)
theorem BoxAt.typ {w : World} {b : Nat} (h : BoxAt w b) : TypAt w b 96 := let ⟨x, fr, e⟩ := h; ⟨_, fr, e⟩
theorem BoxAt.cell {w : World} {b : Nat} (h : BoxAt w b) : ∃ x, w.cell? ⟨b, 0, none⟩ = some x := let ⟨x, fr, e⟩ := h; ⟨x, by simp [World.cell?, e]⟩
theorem BoxAt.keep {w w' : World} {b : Nat} (h : BoxAt w b) (hB : Below w.heap.size w w') : BoxAt w' b := let ⟨x, fr, e⟩ := h; ⟨x, fr, heap_keep hB e⟩
theorem BoxAt.new {w : World} {b : Nat} {x : Value} (h : b = w.heap.size) : BoxAt (w.alloc (.cells #[x] 96)) b := by subst h; exact ⟨x, _, World.alloc_heap_new w _⟩
theorem boxes_end2 {w V : World} {S T : Sys} {vt vp vs ut up us : Value} {b1 b2 sb tb : Nat} (h1 : BoxAt V b1) (h2 : BoxAt V b2) 
    (hne : b1 ≠ b2) (hs : SplBox V sb S vt vp vs) (ht : SplBox V tb T ut up us) (hB : Below w.heap.size w V) (l1 : w.heap.size ≤ b1) (l2 : w.heap.size ≤ b2) (hp : SysParts w vt vp vs S) (hq : SysParts w ut up us T) :
    Boxes w S T (.pointer (some ⟨b1, 0, none⟩)) (.pointer (some ⟨b2, 0, none⟩)) ((V.setCell ⟨b1, 0, none⟩ (.pointer (some ⟨sb, 0, none⟩))).setCell ⟨b2, 0, none⟩ (.pointer (some ⟨tb, 0, none⟩))) :=
  let ⟨_, c1⟩ := h1.cell; let ⟨_, c2⟩ := h2.cell; boxes_end h1.typ h2.typ c1 c2 hne hs ht hB l1 l2 hp hq

theorem bSet {B : Nat} {w a : World} {b o : Nat} {v : Value} (h : Below B w a) (hb : B ≤ b) : Below B w (a.setCell ⟨b, o, none⟩ v) := h.setCell hb v
theorem Boxes.mk' {w F : World} {S T : Sys} {vt vp vs ut up us : Value} {b1 b2 sb tb : Nat} (c1 : F.cell? ⟨b1, 0, none⟩ = some (.pointer (some ⟨sb, 0, none⟩))) (c2 : F.cell? ⟨b2, 0, none⟩ = some (.pointer (some ⟨tb, 0, none⟩)))
    (hs : SplBox F sb S vt vp vs) (ht : SplBox F tb T ut up us) (hB : Below w.heap.size w F) (hp : SysParts w vt vp vs S) (hq : SysParts w ut up us T) : Boxes w S T (.pointer (some ⟨b1, 0, none⟩)) (.pointer (some ⟨b2, 0, none⟩)) F :=
  ⟨b1, b2, sb, tb, rfl, rfl, c1, c2, hs.spl (hp.keep hB), ht.spl (hq.keep hB), hB⟩
section
variable {w V : World} {S T : Sys} {vt vp vs ut up us : Value} {sb tb : Nat} (hB : Below w.heap.size w V) (hs : SplBox V sb S vt vp vs) (ht : SplBox V tb T ut up us) (hp : SysParts w vt vp vs S) (hq : SysParts w ut up us T)
include hB hs ht hp hq
theorem end_a1 : Boxes w S T (.pointer (some ⟨V.heap.size, 0, none⟩)) (.pointer (some ⟨V.heap.size + 1, 0, none⟩)) ((V.alloc (.cells #[.pointer (some ⟨sb, 0, none⟩)] 96)).alloc (.cells #[.pointer (some ⟨tb, 0, none⟩)] 96)) := by
  have e : (V.alloc (.cells #[.pointer (some ⟨sb, 0, none⟩)] 96)).heap.size = V.heap.size + 1 := World.size_alloc ..
  refine Boxes.mk' (keep (bAlloc (Below.refl _ _) _) (cell_new rfl)) (by rw [← e]; exact cell_new rfl) (hs.keep (bAlloc (bAlloc (Below.refl _ _) _) _)) (ht.keep (bAlloc (bAlloc (Below.refl _ _) _) _)) (bAlloc (bAlloc hB _) _) hp hq
theorem end_a2 : Boxes w S T (.pointer (some ⟨V.heap.size + 1, 0, none⟩)) (.pointer (some ⟨V.heap.size, 0, none⟩)) ((V.alloc (.cells #[.pointer (some ⟨tb, 0, none⟩)] 96)).alloc (.cells #[.pointer (some ⟨sb, 0, none⟩)] 96)) := by
  have e : (V.alloc (.cells #[.pointer (some ⟨tb, 0, none⟩)] 96)).heap.size = V.heap.size + 1 := World.size_alloc ..
  refine Boxes.mk' (by rw [← e]; exact cell_new rfl) (keep (bAlloc (Below.refl _ _) _) (cell_new rfl)) (hs.keep (bAlloc (bAlloc (Below.refl _ _) _) _)) (ht.keep (bAlloc (bAlloc (Below.refl _ _) _) _)) (bAlloc (bAlloc hB _) _) hp hq
theorem end_b1 {b : Nat} (h : BoxAt V b) (l : w.heap.size ≤ b) : Boxes w S T (.pointer (some ⟨b, 0, none⟩)) (.pointer (some ⟨V.heap.size, 0, none⟩)) ((V.setCell ⟨b, 0, none⟩ (.pointer (some ⟨sb, 0, none⟩))).alloc (.cells #[.pointer (some ⟨tb, 0, none⟩)] 96)) := by
  have e : (V.setCell ⟨b, 0, none⟩ (.pointer (some ⟨sb, 0, none⟩))).heap.size = V.heap.size := by simp
  obtain ⟨x, hx⟩ := h.cell
  refine Boxes.mk' (keep (bAlloc (Below.refl _ _) _) (World.cell?_setCell_same _ _ _ hx)) (by rw [← e]; exact cell_new rfl) ((hs.set h.typ (by decide)).keep (bAlloc (Below.refl _ _) _)) ((ht.set h.typ (by decide)).keep (bAlloc (Below.refl _ _) _)) (bAlloc (bSet hB l) _) hp hq
theorem end_b2 {b : Nat} (h : BoxAt V b) (l : w.heap.size ≤ b) : Boxes w S T (.pointer (some ⟨V.heap.size, 0, none⟩)) (.pointer (some ⟨b, 0, none⟩)) ((V.setCell ⟨b, 0, none⟩ (.pointer (some ⟨tb, 0, none⟩))).alloc (.cells #[.pointer (some ⟨sb, 0, none⟩)] 96)) := by
  have e : (V.setCell ⟨b, 0, none⟩ (.pointer (some ⟨tb, 0, none⟩))).heap.size = V.heap.size := by simp
  obtain ⟨x, hx⟩ := h.cell
  refine Boxes.mk' (by rw [← e]; exact cell_new rfl) (keep (bAlloc (Below.refl _ _) _) (World.cell?_setCell_same _ _ _ hx)) ((hs.set h.typ (by decide)).keep (bAlloc (Below.refl _ _) _)) ((ht.set h.typ (by decide)).keep (bAlloc (Below.refl _ _) _)) (bAlloc (bSet hB l) _) hp hq
theorem end_c {b1 b2 : Nat} (h1 : BoxAt V b1) (h2 : BoxAt V b2) (l1 : w.heap.size ≤ b1) (l2 : w.heap.size ≤ b2) (hne : b1 ≠ b2) :
    Boxes w S T (.pointer (some ⟨b1, 0, none⟩)) (.pointer (some ⟨b2, 0, none⟩)) ((V.setCell ⟨b1, 0, none⟩ (.pointer (some ⟨sb, 0, none⟩))).setCell ⟨b2, 0, none⟩ (.pointer (some ⟨tb, 0, none⟩))) :=
  boxes_end2 h1 h2 hne hs ht hB l1 l2 hp hq
theorem end_c' {b1 b2 : Nat} (h1 : BoxAt V b1) (h2 : BoxAt V b2) (l1 : w.heap.size ≤ b1) (l2 : w.heap.size ≤ b2) (hne : b1 ≠ b2) :
    Boxes w S T (.pointer (some ⟨b1, 0, none⟩)) (.pointer (some ⟨b2, 0, none⟩)) ((V.setCell ⟨b2, 0, none⟩ (.pointer (some ⟨tb, 0, none⟩))).setCell ⟨b1, 0, none⟩ (.pointer (some ⟨sb, 0, none⟩))) := by
  have k1 := h1.typ.setCell ⟨b2, 0, none⟩ (.pointer (some ⟨tb, 0, none⟩))
  obtain ⟨x1, c1⟩ := h1.cell
  obtain ⟨x2, c2⟩ := h2.cell
  refine Boxes.mk' ?_ ?_ ((hs.set h2.typ (by decide)).set k1 (by decide)) ((ht.set h2.typ (by decide)).set k1 (by decide)) (bSet (bSet hB l2) l1) hp hq
  · exact World.cell?_setCell_same _ _ _ ((World.cell?_setCell_far _ ⟨b2, 0, none⟩ ⟨b1, 0, none⟩ _ (Ne.symm hne)).trans c1)
  · exact (World.cell?_setCell_far _ ⟨b1, 0, none⟩ ⟨b2, 0, none⟩ _ hne).trans (World.cell?_setCell_same _ _ _ c2)
end
def diffTo (S T : Sys) (a : Ask) (N : Nat) : List Nat := (List.range (N + 1)).filter fun n : Nat => decide (wordsOf S (numb a n) ≠ wordsOf T (numb a n))
theorem keepDiffer_any (S T : Sys) (a : Ask) (N ub bs ba bt sb tb : Nat) (w : World) (hN : N ≤ 20000) (hNa : a.num = (N : Int)) (hS : Right S) (ha : AskRight S a) (hT : Right T) (hta : AskRight T a) (hu : w.cell? ⟨ub, 0, none⟩ = some (.int .i64 (N : Int)))
    (hs0 : SplAt w sb S) (ht0 : SplAt w tb T) (hcs : w.cell? ⟨bs, 0, none⟩ = some (.pointer (some ⟨sb, 0, none⟩))) (hct : w.cell? ⟨bt, 0, none⟩ = some (.pointer (some ⟨tb, 0, none⟩))) (hca : AskAt w ba 0 a) :
    Calls Try.prog 54 #[.func (.func 84) #[] #[.pointer (some ⟨ub, 0, none⟩)], .func (.func 61) #[] #[.pointer (some ⟨bs, 0, none⟩), .pointer (some ⟨ba, 0, none⟩), .pointer (some ⟨bt, 0, none⟩)]] w fun e w' =>
      (∃ ad cap, e = .returned (.slice ad (diffTo S T a N).length cap) ∧ SliceV w' (.slice ad (diffTo S T a N).length cap) 1 IntAt ((diffTo S T a N).map fun n : Nat => (n : Int))) ∧ Below w.heap.size w w' := by
  have hpred : ∀ n : Nat, n ≤ N → ∀ W', Below w.heap.size w W' → Calls Try.prog 61 (#[.int .i64 (n : Int)] ++ #[.pointer (some ⟨bs, 0, none⟩), .pointer (some ⟨ba, 0, none⟩), .pointer (some ⟨bt, 0, none⟩)]) W' fun e w'' => e = .returned (.bool (decide (wordsOf S (numb a n) ≠ wordsOf T (numb a n)))) ∧ Below W'.heap.size W' w'' := fun n hn W' hB => by
    have h := differ1_any S T a n bs ba bt sb tb W' hS (numb_right ha (by omega)) (hs0.keep hB) hT (numb_right hta (by omega)) (ht0.keep hB) (keep hB hcs) (AskAt.stable _ _ _ _ _ hB hca) (keep hB hct)
    have e : (#[Value.int .i64 (n : Int)] ++ #[.pointer (some ⟨bs, 0, none⟩), .pointer (some ⟨ba, 0, none⟩), .pointer (some ⟨bt, 0, none⟩)]) = #[.int .i64 (n : Int), .pointer (some ⟨bs, 0, none⟩), .pointer (some ⟨ba, 0, none⟩), .pointer (some ⟨bt, 0, none⟩)] := by simp
    rw [e]; exact h
  have hent : ∀ args w, (callFunc 61 args).run Try.prog w = .ok (.enter 61 args) w := enters_of Try.func61 (by kernel_rfl) rfl
  have h := keep_any N ub 61 #[.pointer (some ⟨bs, 0, none⟩), .pointer (some ⟨ba, 0, none⟩), .pointer (some ⟨bt, 0, none⟩)] (fun n => decide (wordsOf S (numb a n) ≠ wordsOf T (numb a n))) w hN hu hent hpred
  refine h.mono ?_
  rintro e w' ⟨⟨v, rfl, hrow⟩, hb⟩
  obtain ⟨ad, cap, rfl⟩ := ownsRow_slice hrow
  have hl : (diffTo S T a N).length ≤ 1000000 := by
    have := List.length_filter_le (fun n : Nat => decide (wordsOf S (numb a n) ≠ wordsOf T (numb a n))) (List.range (N + 1))
    rw [List.length_range] at this
    unfold diffTo; omega
  exact ⟨⟨ad, cap, rfl, ints_slice hrow hl⟩, hb⟩
theorem two_sys {W : World} {b : Nat} {S T : Sys} {c : Nat} (h : SysAt W b 0 S) (k : SysAt W b 7 T) : SliceV W (.slice (some ⟨b, 0, none⟩) 2 c) 7 SysAt [S, T] :=
  ⟨_, c, rfl, by unfold most; simp, .inr ⟨b, 0, rfl, fun i hi => by
    match i, hi with
    | 0, _ => simpa using h
    | 1, _ => simpa using k⟩⟩
theorem scan_ok2 {S T : Sys} {a : Ask} (h : scanErr a [S, T] = 0) : askOk S a = true ∧ askOk T a = true ∧ a.num ≤ 20000 := by
  unfold scanErr at h
  simp only [List.all_cons, List.all_nil, Bool.and_true, Bool.and_eq_true] at h
  split at h
  · rename_i hh
    split at h
    · omega
    · exact ⟨hh.1, hh.2, by omega⟩
  · omega
/-- Three boxes: two systems and an ask. -/
structure BX3 (W : World) (n : Nat) (S T : Sys) (a : Ask) (vt vp vs ut up us : Value) : Prop where
  s0 : W.cell? ⟨n, 0, none⟩ = some (.int .i64 S.top)
  s1 : W.cell? ⟨n, 1, none⟩ = some (.int .i64 S.genders)
  s2 : W.cell? ⟨n, 2, none⟩ = some (.int .i64 S.cases)
  s3 : W.cell? ⟨n, 3, none⟩ = some (.int .i64 S.classes)
  s4 : W.cell? ⟨n, 4, none⟩ = some vt
  s5 : W.cell? ⟨n, 5, none⟩ = some vp
  s6 : W.cell? ⟨n, 6, none⟩ = some vs
  t0 : W.cell? ⟨n + 1, 0, none⟩ = some (.int .i64 T.top)
  t1 : W.cell? ⟨n + 1, 1, none⟩ = some (.int .i64 T.genders)
  t2 : W.cell? ⟨n + 1, 2, none⟩ = some (.int .i64 T.cases)
  t3 : W.cell? ⟨n + 1, 3, none⟩ = some (.int .i64 T.classes)
  t4 : W.cell? ⟨n + 1, 4, none⟩ = some ut
  t5 : W.cell? ⟨n + 1, 5, none⟩ = some up
  t6 : W.cell? ⟨n + 1, 6, none⟩ = some us
  a0 : W.cell? ⟨n + 1 + 1, 0, none⟩ = some (.int .i64 a.num)
  a1 : W.cell? ⟨n + 1 + 1, 1, none⟩ = some (.int .i64 a.set)
  a2 : W.cell? ⟨n + 1 + 1, 2, none⟩ = some (.int .i64 a.gen)
  a3 : W.cell? ⟨n + 1 + 1, 3, none⟩ = some (.int .i64 a.kas)
  y0 : TypAt W n 26
  y1 : TypAt W (n + 1) 26
  y2 : TypAt W (n + 1 + 1) 36
theorem BX3.kp {W W' : World} {m n : Nat} {S T : Sys} {a : Ask} {vt vp vs ut up us : Value} {own : Nat → Bool} (h : BX3 W n S T a vt vp vs ut up us) (hk : Kp m own W W') (h0 : own 26 = false) (h1 : own 36 = false) : BX3 W' n S T a vt vp vs ut up us :=
  ⟨hk.cell h.y0 h0 h.s0, hk.cell h.y0 h0 h.s1, hk.cell h.y0 h0 h.s2, hk.cell h.y0 h0 h.s3, hk.cell h.y0 h0 h.s4, hk.cell h.y0 h0 h.s5, hk.cell h.y0 h0 h.s6, hk.cell h.y1 h0 h.t0, hk.cell h.y1 h0 h.t1, hk.cell h.y1 h0 h.t2, hk.cell h.y1 h0 h.t3, hk.cell h.y1 h0 h.t4, hk.cell h.y1 h0 h.t5, hk.cell h.y1 h0 h.t6, hk.cell h.y2 h1 h.a0, hk.cell h.y2 h1 h.a1, hk.cell h.y2 h1 h.a2, hk.cell h.y2 h1 h.a3, hk.typ h.y0 h0, hk.typ h.y1 h0, hk.typ h.y2 h1⟩
theorem BX3.new (w : World) (S T : Sys) (a : Ask) (vt vp vs ut up us : Value) : BX3 (((w.alloc (.cells #[.int .i64 S.top, .int .i64 S.genders, .int .i64 S.cases, .int .i64 S.classes, vt, vp, vs] 26)).alloc (.cells #[.int .i64 T.top, .int .i64 T.genders, .int .i64 T.cases, .int .i64 T.classes, ut, up, us] 26)).alloc (.cells #[.int .i64 a.num, .int .i64 a.set, .int .i64 a.gen, .int .i64 a.kas] 36)) w.heap.size S T a vt vp vs ut up us := by
  have k0 : ∀ {j : Nat} {v : Value} {cs : Array Value} {o o' : Obj}, cs[j]? = some v → (((w.alloc (.cells cs 26)).alloc o).alloc o').cell? ⟨w.heap.size, j, none⟩ = some v := fun h => cell_1 h
  have k1 : ∀ {j : Nat} {v : Value} {cs : Array Value} {o o' : Obj}, cs[j]? = some v → (((w.alloc o).alloc (.cells cs 26)).alloc o').cell? ⟨w.heap.size + 1, j, none⟩ = some v := fun h => cell_2 h
  have k2 : ∀ {j : Nat} {v : Value} {cs : Array Value} {o o' : Obj}, cs[j]? = some v → (((w.alloc o).alloc o').alloc (.cells cs 36)).cell? ⟨w.heap.size + 1 + 1, j, none⟩ = some v := fun h => cell_3 h
  refine ⟨k0 rfl, k0 rfl, k0 rfl, k0 rfl, k0 rfl, k0 rfl, k0 rfl, k1 rfl, k1 rfl, k1 rfl, k1 rfl, k1 rfl, k1 rfl, k1 rfl, k2 rfl, k2 rfl, k2 rfl, k2 rfl, (typ_new w _ _).keep (bAlloc (bAlloc (Below.refl _ _) _) _), ?_, ?_⟩
  · have := (typ_new (w.alloc (.cells #[.int .i64 S.top, .int .i64 S.genders, .int .i64 S.cases, .int .i64 S.classes, vt, vp, vs] 26)) #[.int .i64 T.top, .int .i64 T.genders, .int .i64 T.cases, .int .i64 T.classes, ut, up, us] 26).keep (bAlloc (Below.refl _ _) (.cells #[.int .i64 a.num, .int .i64 a.set, .int .i64 a.gen, .int .i64 a.kas] 36))
    rwa [World.size_alloc] at this
  · have := typ_new ((w.alloc (.cells #[.int .i64 S.top, .int .i64 S.genders, .int .i64 S.cases, .int .i64 S.classes, vt, vp, vs] 26)).alloc (.cells #[.int .i64 T.top, .int .i64 T.genders, .int .i64 T.cases, .int .i64 T.classes, ut, up, us] 26)) #[.int .i64 a.num, .int .i64 a.set, .int .i64 a.gen, .int .i64 a.kas] 36
    rwa [World.size_alloc, World.size_alloc] at this

def DiffPost (S T : Sys) (a : Ask) (e : Ending) (w' : World) : Prop :=
  (scanErr a [S, T] ≠ 0 ∧ e = .returned (.tuple #[.slice none 0 0, .int .i64 (scanErr a [S, T])])) ∨
    (scanErr a [S, T] = 0 ∧ ∃ ad c, e = .returned (.tuple #[.slice ad (diffTo S T a a.num.toNat).length c, .int .i64 0]) ∧ SliceV w' (.slice ad (diffTo S T a a.num.toNat).length c) 1 IntAt ((diffTo S T a a.num.toNat).map fun n : Nat => (n : Int)))
set_option maxRecDepth 100000 in
set_option maxHeartbeats 8000000 in
theorem Differ_any (S T : Sys) (a : Ask) (vt vp vs ut up us : Value) (w : World) (hp : SysParts w vt vp vs S) (hq : SysParts w ut up us T) :
    Calls Try.prog 34 #[sysVal S vt vp vs, sysVal T ut up us, a.val] w fun e w' => DiffPost S T a e w' ∧ Below w.heap.size w w' := by
  have HP := Lib.hid hp
  have HQ := Lib.hid hq
  obtain ⟨⟨at_, ct, rfl, -⟩, ⟨ap, cp, rfl, -⟩, ⟨as_, cs, rfl, -⟩⟩ := hp
  obtain ⟨⟨bt_, dt, rfl, -⟩, ⟨bp, dp, rfl, -⟩, ⟨bs_, ds, rfl, -⟩⟩ := hq
  unfold sysVal Ask.val
  by_cases hz : scanErr a [S, T] = 0
  case neg =>
    obtain ⟨en, hen⟩ : ∃ en, en = scanErr a [S, T] := ⟨_, rfl⟩
    have HEN := Lib.hid hen.symm
    have hnz : (en != 0) = true := by simp only [bne_iff_ne, ne_eq]; rw [hen]; exact hz
    have HNZ := Lib.hid hz
    clear hen hz
    go_enter Try.func34, Try.ntmps34
    go_wp2_with fail
    generalize hW1 : World.alloc (World.alloc (World.alloc w _) _) _ = W1
    have hbn : Below w.heap.size w W1 := by rw [← hW1]; exact bAlloc (bAlloc (bAlloc (Below.refl _ _) _) _) _
    have HBX : Hid (BX3 W1 w.heap.size S T a (.slice at_ S.terms.length ct) (.slice ap S.plurals.length cp) (.slice as_ S.sets.length cs) (.slice bt_ T.terms.length dt) (.slice bp T.plurals.length dp) (.slice bs_ T.sets.length ds)) := Lib.hid (by rw [← hW1]; exact BX3.new _ _ _ _ _ _ _ _ _ _)
    obtain ⟨s0, s1, s2, s3, s4, s5, s6, t0, t1, t2, t3, t4, t5, t6, a0, a1, a2, a3, -, -, -⟩ := HBX.out
    have HB := Lib.hid hbn
    have hsz1 : W1.heap.size = w.heap.size + 1 + 1 + 1 := by rw [← hW1]; simp
    have hc53 : Calls Try.prog 53 #[.agg #[.int .i64 a.num, .int .i64 a.set, .int .i64 a.gen, .int .i64 a.kas], .slice (some ⟨w.heap.size + 1 + 1 + 1, 0, none⟩) 2 2] (W1.alloc (.cells #[.int .i64 S.top, .int .i64 S.genders, .int .i64 S.cases, .int .i64 S.classes, .slice at_ S.terms.length ct, .slice ap S.plurals.length cp, .slice as_ S.sets.length cs, .int .i64 T.top, .int .i64 T.genders, .int .i64 T.cases, .int .i64 T.classes, .slice bt_ T.terms.length dt, .slice bp T.plurals.length dp, .slice bs_ T.sets.length ds] 26)) fun e w' => e = .returned (.int .i64 (scanErr a [S, T])) ∧ Below (W1.alloc (.cells #[.int .i64 S.top, .int .i64 S.genders, .int .i64 S.cases, .int .i64 S.classes, .slice at_ S.terms.length ct, .slice ap S.plurals.length cp, .slice as_ S.sets.length cs, .int .i64 T.top, .int .i64 T.genders, .int .i64 T.cases, .int .i64 T.classes, .slice bt_ T.terms.length dt, .slice bp T.plurals.length dp, .slice bs_ T.sets.length ds] 26)).heap.size (W1.alloc (.cells #[.int .i64 S.top, .int .i64 S.genders, .int .i64 S.cases, .int .i64 S.classes, .slice at_ S.terms.length ct, .slice ap S.plurals.length cp, .slice as_ S.sets.length cs, .int .i64 T.top, .int .i64 T.genders, .int .i64 T.cases, .int .i64 T.classes, .slice bt_ T.terms.length dt, .slice bp T.plurals.length dp, .slice bs_ T.sets.length ds] 26)) w' := by
      have k : ∀ {j : Nat} {v : Value}, (#[.int .i64 S.top, .int .i64 S.genders, .int .i64 S.cases, .int .i64 S.classes, .slice at_ S.terms.length ct, .slice ap S.plurals.length cp, .slice as_ S.sets.length cs, .int .i64 T.top, .int .i64 T.genders, .int .i64 T.cases, .int .i64 T.classes, .slice bt_ T.terms.length dt, .slice bp T.plurals.length dp, .slice bs_ T.sets.length ds] : Array Value)[j]? = some v → (W1.alloc (.cells #[.int .i64 S.top, .int .i64 S.genders, .int .i64 S.cases, .int .i64 S.classes, .slice at_ S.terms.length ct, .slice ap S.plurals.length cp, .slice as_ S.sets.length cs, .int .i64 T.top, .int .i64 T.genders, .int .i64 T.cases, .int .i64 T.classes, .slice bt_ T.terms.length dt, .slice bp T.plurals.length dp, .slice bs_ T.sets.length ds] 26)).cell? ⟨w.heap.size + 1 + 1 + 1, j, none⟩ = some v := fun h => by rw [← hsz1]; exact cell_new h
      exact scanError_any a [S, T] _ _ (two_sys ⟨_, _, _, k rfl, k rfl, k rfl, k rfl, k rfl, k rfl, k rfl, HP.out.keep (bThen hbn (bAlloc (Below.refl _ _) _))⟩ ⟨_, _, _, k rfl, k rfl, k rfl, k rfl, k rfl, k rfl, k rfl, HQ.out.keep (bThen hbn (bAlloc (Below.refl _ _) _))⟩)
    have HC53 := Lib.hid hc53
    clear hW1 hbn hc53 hsz1
    have hsl := cell_lt s0
    have htl := cell_lt t0
    have hal := cell_lt a0
    refine HC53.out.mono ?_
    rintro e w6 ⟨rfl, hb'⟩
    rw [HEN.out]
    have hb := bThen (bAlloc (Below.refl _ _) _) hb'
    replace s0 := keep hb s0; replace s1 := keep hb s1; replace s2 := keep hb s2; replace s3 := keep hb s3; replace s4 := keep hb s4; replace s5 := keep hb s5; replace s6 := keep hb s6; replace t0 := keep hb t0; replace t1 := keep hb t1; replace t2 := keep hb t2; replace t3 := keep hb t3; replace t4 := keep hb t4; replace t5 := keep hb t5; replace t6 := keep hb t6; replace a0 := keep hb a0; replace a1 := keep hb a1; replace a2 := keep hb a2; replace a3 := keep hb a3; replace hsl := cell_lt s0; replace htl := cell_lt t0; replace hal := cell_lt a0; replace HB := Lib.hid (bThen HB.out hb)
    clear hb hb'
    go_wp2_with fail
    go_ret2
    exact ⟨.inl ⟨HNZ.out, by rw [HEN.out]; rfl⟩, HB.out⟩
  obtain ⟨hok, hok2, htop⟩ := scan_ok2 hz
  obtain ⟨hS, ha⟩ := askRight_of hok
  obtain ⟨hT, hta⟩ := askRight_of hok2
  obtain ⟨N, hN⟩ := Int.eq_ofNat_of_zero_le ha.num
  have hN2 : (N : Int) ≤ 20000 := by omega
  have HZ := Lib.hid hz
  have HS := Lib.hid hS
  have HA := Lib.hid ha
  have HT := Lib.hid hT
  have HTA := Lib.hid hta
  have HNN := Lib.hid hN
  have HNT : Hid (a.num.toNat = N) := Lib.hid (by rw [hN]; simp)
  clear hz hS ha hT hta hok hok2 htop hN
  go_enter Try.func34, Try.ntmps34
  go_wp2_with fail
  generalize hW1 : World.alloc (World.alloc (World.alloc w _) _) _ = W1
  have hbn : Below w.heap.size w W1 := by rw [← hW1]; exact bAlloc (bAlloc (bAlloc (Below.refl _ _) _) _) _
  have HBX : Hid (BX3 W1 w.heap.size S T a (.slice at_ S.terms.length ct) (.slice ap S.plurals.length cp) (.slice as_ S.sets.length cs) (.slice bt_ T.terms.length dt) (.slice bp T.plurals.length dp) (.slice bs_ T.sets.length ds)) := Lib.hid (by rw [← hW1]; exact BX3.new _ _ _ _ _ _ _ _ _ _)
  obtain ⟨s0, s1, s2, s3, s4, s5, s6, t0, t1, t2, t3, t4, t5, t6, a0, a1, a2, a3, -, -, -⟩ := HBX.out
  have HB := Lib.hid hbn
  have hsz1 : W1.heap.size = w.heap.size + 1 + 1 + 1 := by rw [← hW1]; simp
  have hc53 : Calls Try.prog 53 #[.agg #[.int .i64 a.num, .int .i64 a.set, .int .i64 a.gen, .int .i64 a.kas], .slice (some ⟨w.heap.size + 1 + 1 + 1, 0, none⟩) 2 2] (W1.alloc (.cells #[.int .i64 S.top, .int .i64 S.genders, .int .i64 S.cases, .int .i64 S.classes, .slice at_ S.terms.length ct, .slice ap S.plurals.length cp, .slice as_ S.sets.length cs, .int .i64 T.top, .int .i64 T.genders, .int .i64 T.cases, .int .i64 T.classes, .slice bt_ T.terms.length dt, .slice bp T.plurals.length dp, .slice bs_ T.sets.length ds] 26)) fun e w' => e = .returned (.int .i64 (scanErr a [S, T])) ∧ Below (W1.alloc (.cells #[.int .i64 S.top, .int .i64 S.genders, .int .i64 S.cases, .int .i64 S.classes, .slice at_ S.terms.length ct, .slice ap S.plurals.length cp, .slice as_ S.sets.length cs, .int .i64 T.top, .int .i64 T.genders, .int .i64 T.cases, .int .i64 T.classes, .slice bt_ T.terms.length dt, .slice bp T.plurals.length dp, .slice bs_ T.sets.length ds] 26)).heap.size (W1.alloc (.cells #[.int .i64 S.top, .int .i64 S.genders, .int .i64 S.cases, .int .i64 S.classes, .slice at_ S.terms.length ct, .slice ap S.plurals.length cp, .slice as_ S.sets.length cs, .int .i64 T.top, .int .i64 T.genders, .int .i64 T.cases, .int .i64 T.classes, .slice bt_ T.terms.length dt, .slice bp T.plurals.length dp, .slice bs_ T.sets.length ds] 26)) w' := by
    have k : ∀ {j : Nat} {v : Value}, (#[.int .i64 S.top, .int .i64 S.genders, .int .i64 S.cases, .int .i64 S.classes, .slice at_ S.terms.length ct, .slice ap S.plurals.length cp, .slice as_ S.sets.length cs, .int .i64 T.top, .int .i64 T.genders, .int .i64 T.cases, .int .i64 T.classes, .slice bt_ T.terms.length dt, .slice bp T.plurals.length dp, .slice bs_ T.sets.length ds] : Array Value)[j]? = some v → (W1.alloc (.cells #[.int .i64 S.top, .int .i64 S.genders, .int .i64 S.cases, .int .i64 S.classes, .slice at_ S.terms.length ct, .slice ap S.plurals.length cp, .slice as_ S.sets.length cs, .int .i64 T.top, .int .i64 T.genders, .int .i64 T.cases, .int .i64 T.classes, .slice bt_ T.terms.length dt, .slice bp T.plurals.length dp, .slice bs_ T.sets.length ds] 26)).cell? ⟨w.heap.size + 1 + 1 + 1, j, none⟩ = some v := fun h => by rw [← hsz1]; exact cell_new h
    exact scanError_any a [S, T] _ _ (two_sys ⟨_, _, _, k rfl, k rfl, k rfl, k rfl, k rfl, k rfl, k rfl, HP.out.keep (bThen hbn (bAlloc (Below.refl _ _) _))⟩ ⟨_, _, _, k rfl, k rfl, k rfl, k rfl, k rfl, k rfl, k rfl, HQ.out.keep (bThen hbn (bAlloc (Below.refl _ _) _))⟩)
  have HC53 := Lib.hid hc53
  clear hW1 hbn hc53 hsz1
  have hsl := cell_lt s0
  have htl := cell_lt t0
  have hal := cell_lt a0
  refine HC53.out.mono ?_
  rintro e w6 ⟨rfl, hb'⟩
  rw [HZ.out]
  have hb := bThen (bAlloc (Below.refl _ _) _) hb'
  replace s0 := keep hb s0; replace s1 := keep hb s1; replace s2 := keep hb s2; replace s3 := keep hb s3; replace s4 := keep hb s4; replace s5 := keep hb s5; replace s6 := keep hb s6; replace t0 := keep hb t0; replace t1 := keep hb t1; replace t2 := keep hb t2; replace t3 := keep hb t3; replace t4 := keep hb t4; replace t5 := keep hb t5; replace t6 := keep hb t6; replace a0 := keep hb a0; replace a1 := keep hb a1; replace a2 := keep hb a2; replace a3 := keep hb a3; replace hsl := cell_lt s0; replace htl := cell_lt t0; replace hal := cell_lt a0; replace HB := Lib.hid (bThen HB.out hb)
  clear hb hb'
  have HP6 := Lib.hid (HP.out.keep HB.out)
  have HQ6 := Lib.hid (HQ.out.keep HB.out)
  have HK : Hid (∀ W', Below w6.heap.size w6 W' → (W'.cell? ⟨w.heap.size, 0, none⟩ = some (.int .i64 S.top) ∧ W'.cell? ⟨w.heap.size, 1, none⟩ = some (.int .i64 S.genders) ∧ W'.cell? ⟨w.heap.size, 2, none⟩ = some (.int .i64 S.cases) ∧ W'.cell? ⟨w.heap.size, 3, none⟩ = some (.int .i64 S.classes) ∧ W'.cell? ⟨w.heap.size, 4, none⟩ = some (.slice at_ S.terms.length ct) ∧ W'.cell? ⟨w.heap.size, 5, none⟩ = some (.slice ap S.plurals.length cp) ∧ W'.cell? ⟨w.heap.size, 6, none⟩ = some (.slice as_ S.sets.length cs) ∧ W'.cell? ⟨w.heap.size + 1, 0, none⟩ = some (.int .i64 T.top) ∧ W'.cell? ⟨w.heap.size + 1, 1, none⟩ = some (.int .i64 T.genders) ∧ W'.cell? ⟨w.heap.size + 1, 2, none⟩ = some (.int .i64 T.cases) ∧ W'.cell? ⟨w.heap.size + 1, 3, none⟩ = some (.int .i64 T.classes) ∧ W'.cell? ⟨w.heap.size + 1, 4, none⟩ = some (.slice bt_ T.terms.length dt) ∧ W'.cell? ⟨w.heap.size + 1, 5, none⟩ = some (.slice bp T.plurals.length dp) ∧ W'.cell? ⟨w.heap.size + 1, 6, none⟩ = some (.slice bs_ T.sets.length ds))) := Lib.hid fun W' hB => ⟨keep hB s0, keep hB s1, keep hB s2, keep hB s3, keep hB s4, keep hB s5, keep hB s6, keep hB t0, keep hB t1, keep hB t2, keep hB t3, keep hB t4, keep hB t5, keep hB t6⟩
  go_wp2_with fail
  go_cut [9, 10] from 19 (fun p q wc => Boxes w6 S T p q wc)
  case first =>
    go_region_held3 (fun W' => (W'.cell? ⟨w.heap.size, 0, none⟩ = some (.int .i64 S.top) ∧ W'.cell? ⟨w.heap.size, 1, none⟩ = some (.int .i64 S.genders) ∧ W'.cell? ⟨w.heap.size, 2, none⟩ = some (.int .i64 S.cases) ∧ W'.cell? ⟨w.heap.size, 3, none⟩ = some (.int .i64 S.classes) ∧ W'.cell? ⟨w.heap.size, 4, none⟩ = some (.slice at_ S.terms.length ct) ∧ W'.cell? ⟨w.heap.size, 5, none⟩ = some (.slice ap S.plurals.length cp) ∧ W'.cell? ⟨w.heap.size, 6, none⟩ = some (.slice as_ S.sets.length cs) ∧ W'.cell? ⟨w.heap.size + 1, 0, none⟩ = some (.int .i64 T.top) ∧ W'.cell? ⟨w.heap.size + 1, 1, none⟩ = some (.int .i64 T.genders) ∧ W'.cell? ⟨w.heap.size + 1, 2, none⟩ = some (.int .i64 T.cases) ∧ W'.cell? ⟨w.heap.size + 1, 3, none⟩ = some (.int .i64 T.classes) ∧ W'.cell? ⟨w.heap.size + 1, 4, none⟩ = some (.slice bt_ T.terms.length dt) ∧ W'.cell? ⟨w.heap.size + 1, 5, none⟩ = some (.slice bp T.plurals.length dp) ∧ W'.cell? ⟨w.heap.size + 1, 6, none⟩ = some (.slice bs_ T.sets.length ds))) (((try dsimp only); exact HK.out _ (by repeat (first | (with_reducible exact Below.refl _ _) | refine Below.drew ?_ | refine bThen ?_ hb8 | refine bThen ?_ hb7 | refine bAlloc ?_ _ | refine bSet ?_ (by omega))))) (first
      | (go_at_call 43; refine (newSpeller_new S (.slice at_ S.terms.length ct) (.slice ap S.plurals.length cp) (.slice as_ S.sets.length cs) _ (HP6.out.keep (by repeat (first | (with_reducible exact Below.refl _ _) | refine Below.drew ?_ | refine bThen ?_ hb8 | refine bThen ?_ hb7 | refine bAlloc ?_ _ | refine bSet ?_ (by omega))))).mono ?_; rintro e w7 ⟨⟨sb, rfl, hsp⟩, hb7⟩; have HS7 := Lib.hid hsp; clear hsp; have z7 := hb7.size; (try simp at z7); obtain ⟨hc7, hf7⟩ := bcell hb7; (try simp at hc7 hf7); (try (have y7 : w6.heap.size < w7.heap.size := by omega)); (try (have x7 : w6.heap.size + 1 < w7.heap.size := by omega)))
      | (go_at_call 43; refine (newSpeller_new T (.slice bt_ T.terms.length dt) (.slice bp T.plurals.length dp) (.slice bs_ T.sets.length ds) _ (HQ6.out.keep (by repeat (first | (with_reducible exact Below.refl _ _) | refine Below.drew ?_ | refine bThen ?_ hb8 | refine bThen ?_ hb7 | refine bAlloc ?_ _ | refine bSet ?_ (by omega))))).mono ?_; rintro e w8 ⟨⟨tb, rfl, hsp⟩, hb8⟩; have HS8 := Lib.hid hsp; clear hsp; have z8 := hb8.size; (try simp at z8); obtain ⟨hc8, hf8⟩ := bcell hb8; (try simp at hc8 hf8); (try (have y8 : w6.heap.size < w7.heap.size + 1 := by omega)); (try (have x8 : w6.heap.size < w7.heap.size + 1 + 1 := by omega)); (try (have v8 : w7.heap.size < w8.heap.size := by omega)); (try (have u8 : w7.heap.size + 1 < w8.heap.size := by omega)); (try (have t8 : w6.heap.size < w8.heap.size := by omega)); (try (have r8 : w6.heap.size + 1 < w8.heap.size := by omega))))
    all_goals
      go_wp2_with fail
      go_meet
      case rel =>
        have hB8 : Below w6.heap.size w6 w8 := by repeat (first | (with_reducible exact Below.refl _ _) | refine Below.drew ?_ | refine bThen ?_ hb8 | refine bThen ?_ hb7 | refine bAlloc ?_ _ | refine bSet ?_ (by omega))
        have hS8 := HS7.out.keep (w' := w8) (by repeat (first | (with_reducible exact Below.refl _ _) | refine Below.drew ?_ | refine bThen ?_ hb8 | refine bThen ?_ hb7 | refine bAlloc ?_ _ | refine bSet ?_ (by omega)))
        first
          | exact end_a1 hB8 hS8 HS8.out HP6.out HQ6.out
          | exact end_a2 hB8 hS8 HS8.out HP6.out HQ6.out
          | ((with_reducible refine end_b1 hB8 hS8 HS8.out HP6.out HQ6.out ?_ ?_); (repeat (first | (refine BoxAt.new ?_; first | with_reducible rfl | exact (World.size_alloc _ _).symm) | refine BoxAt.keep ?_ hb8 | refine BoxAt.keep ?_ hb7 | refine BoxAt.keep ?_ (bAlloc (Below.refl _ _) _) | refine BoxAt.keep ?_ (Below.drew (Below.refl _ _)))); omega)
          | ((with_reducible refine end_b2 hB8 hS8 HS8.out HP6.out HQ6.out ?_ ?_); (repeat (first | (refine BoxAt.new ?_; first | with_reducible rfl | exact (World.size_alloc _ _).symm) | refine BoxAt.keep ?_ hb8 | refine BoxAt.keep ?_ hb7 | refine BoxAt.keep ?_ (bAlloc (Below.refl _ _) _) | refine BoxAt.keep ?_ (Below.drew (Below.refl _ _)))); omega)
          | ((with_reducible refine end_c hB8 hS8 HS8.out HP6.out HQ6.out ?_ ?_ ?_ ?_ ?_); (repeat (first | (refine BoxAt.new ?_; first | with_reducible rfl | exact (World.size_alloc _ _).symm) | refine BoxAt.keep ?_ hb8 | refine BoxAt.keep ?_ hb7 | refine BoxAt.keep ?_ (bAlloc (Below.refl _ _) _) | refine BoxAt.keep ?_ (Below.drew (Below.refl _ _)))); (repeat (first | (refine BoxAt.new ?_; first | with_reducible rfl | exact (World.size_alloc _ _).symm) | refine BoxAt.keep ?_ hb8 | refine BoxAt.keep ?_ hb7 | refine BoxAt.keep ?_ (bAlloc (Below.refl _ _) _) | refine BoxAt.keep ?_ (Below.drew (Below.refl _ _)))); omega; omega; omega)
          | ((with_reducible refine end_c' hB8 hS8 HS8.out HP6.out HQ6.out ?_ ?_ ?_ ?_ ?_); (repeat (first | (refine BoxAt.new ?_; first | with_reducible rfl | exact (World.size_alloc _ _).symm) | refine BoxAt.keep ?_ hb8 | refine BoxAt.keep ?_ hb7 | refine BoxAt.keep ?_ (bAlloc (Below.refl _ _) _) | refine BoxAt.keep ?_ (Below.drew (Below.refl _ _)))); (repeat (first | (refine BoxAt.new ?_; first | with_reducible rfl | exact (World.size_alloc _ _).symm) | refine BoxAt.keep ?_ hb8 | refine BoxAt.keep ?_ hb7 | refine BoxAt.keep ?_ (bAlloc (Below.refl _ _) _) | refine BoxAt.keep ?_ (Below.drew (Below.refl _ _)))); omega; omega; omega)
  case rest =>
    obtain ⟨b1, b2, sb, tb, rfl, rfl, x1, x2, hs1, ht1, hb⟩ := hcut
    have HSP := Lib.hid hs1
    have HTP := Lib.hid ht1
    clear hs1 ht1
    replace s0 := keep hb s0; replace s1 := keep hb s1; replace s2 := keep hb s2; replace s3 := keep hb s3; replace s4 := keep hb s4; replace s5 := keep hb s5; replace s6 := keep hb s6; replace t0 := keep hb t0; replace t1 := keep hb t1; replace t2 := keep hb t2; replace t3 := keep hb t3; replace t4 := keep hb t4; replace t5 := keep hb t5; replace t6 := keep hb t6; replace a0 := keep hb a0; replace a1 := keep hb a1; replace a2 := keep hb a2; replace a3 := keep hb a3; replace hsl := cell_lt s0; replace htl := cell_lt t0; replace hal := cell_lt a0; replace HB := Lib.hid (bThen HB.out hb)
    clear hb
    have hb1l := cell_lt x1
    have hb2l := cell_lt x2
    go_wp2_with (first
      | (go_at_call 55; refine (upTo_any a.num _).mono ?_; rintro e w8 ⟨ub, ⟨rfl, hu⟩, hb⟩; replace HSP := Lib.hid (HSP.out.keep hb); replace HTP := Lib.hid (HTP.out.keep hb); replace x1 := keep hb x1; replace x2 := keep hb x2; replace s0 := keep hb s0; replace s1 := keep hb s1; replace s2 := keep hb s2; replace s3 := keep hb s3; replace s4 := keep hb s4; replace s5 := keep hb s5; replace s6 := keep hb s6; replace t0 := keep hb t0; replace t1 := keep hb t1; replace t2 := keep hb t2; replace t3 := keep hb t3; replace t4 := keep hb t4; replace t5 := keep hb t5; replace t6 := keep hb t6; replace a0 := keep hb a0; replace a1 := keep hb a1; replace a2 := keep hb a2; replace a3 := keep hb a3; replace hsl := cell_lt s0; replace htl := cell_lt t0; replace hal := cell_lt a0; replace HB := Lib.hid (bThen HB.out hb); clear hb)
      | (go_at_call 54; refine (keepDiffer_any S T a N ub b1 _ b2 sb tb w8 (by omega) HNN.out HS.out HA.out HT.out HTA.out (by rw [← HNN.out]; exact hu) HSP.out HTP.out x1 x2 ⟨a0, a1, a2, a3⟩).mono ?_; rintro e w9 ⟨⟨ad, cap, rfl, hsl9⟩, hb⟩; have HSL := Lib.hid hsl9; clear hsl9; replace HB := Lib.hid (bThen HB.out hb); clear hb))
    go_ret2
    exact ⟨.inr ⟨HZ.out, ad, cap, by rw [HNT.out]; rfl, by rw [HNT.out]; exact HSL.out⟩, HB.out⟩
end Go.Proofs.Ytfcopnlpcbbocaa
