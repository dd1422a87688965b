/- Plain data of layer 1 and how the heap holds it: systems of numerals, asks, words with their reasons. No program is named here. -/
import Derived.WalkKit
import Derived.WalkSpells
import Derived.WalkLawsBesides
import Derived.IntWalk
import Derived.Lib.Hide
set_option linter.unusedSimpArgs false
set_option linter.unusedVariables false
namespace Go.Proofs.Ytfcopnlpcbbocaa
open Go.RowKit

structure Form where
  gen : Int
  kas : Int
  cls : Int
  txt : ByteArray
structure Term where
  gen : Int
  forms : List Form
structure Plu where
  mod : Int
  frm : Int
  upto : Int
  cls : Int
structure Pce where
  kind : Int
  term : Int
  set : Int
  below : Int
structure Rul where
  base : Int
  div : Int
  pieces : List Pce
structure Sys where
  top : Int
  genders : Int
  cases : Int
  classes : Int
  terms : List Term
  plurals : List Plu
  sets : List (List Rul)
structure Ask where
  num : Int
  set : Int
  gen : Int
  kas : Int
structure Said where
  txt : ByteArray
  num : Int
  set : Int
  rule : Int
  piece : Int
  depth : Int

abbrev i64 (n : Int) : Value := .int .i64 n
def Ask.val (a : Ask) : Value := .agg #[.int .i64 a.num, .int .i64 a.set, .int .i64 a.gen, .int .i64 a.kas]
def Said.val (a : Said) : Value := .agg #[.string a.txt, .int .i64 a.num, .int .i64 a.set, .int .i64 a.rule, .int .i64 a.piece, .int .i64 a.depth]
def Plu.val (p : Plu) : Value := .agg #[.int .i64 p.mod, .int .i64 p.frm, .int .i64 p.upto, .int .i64 p.cls]
def Pce.val (p : Pce) : Value := .agg #[.int .i64 p.kind, .int .i64 p.term, .int .i64 p.set, .int .i64 p.below]
def Form.val (p : Form) : Value := .agg #[.int .i64 p.gen, .int .i64 p.kas, .int .i64 p.cls, .string p.txt]

/-- The greatest number of elements of a slice that is read. -/
abbrev most : Nat := 9223372036854775807

/-- A slice value holds a list: each element of so many cells. -/
def SliceV {α : Type} (w : World) (v : Value) (sz : Nat) (R : World → Nat → Nat → α → Prop) (xs : List α) : Prop :=
  ∃ a c, v = .slice a xs.length c ∧ xs.length ≤ most ∧ (xs = [] ∨ ∃ b o, a = some ⟨b, o, none⟩ ∧ ∀ i (h : i < xs.length), R w b (o + i * sz) xs[i])

def FormAt (w : World) (b o : Nat) (f : Form) : Prop :=
  w.cell? ⟨b, o, none⟩ = some (.int .i64 f.gen) ∧ w.cell? ⟨b, o + 1, none⟩ = some (.int .i64 f.kas) ∧ w.cell? ⟨b, o + 2, none⟩ = some (.int .i64 f.cls) ∧ w.cell? ⟨b, o + 3, none⟩ = some (.string f.txt) ∧ f.txt.size ≤ most
def TermAt (w : World) (b o : Nat) (t : Term) : Prop :=
  w.cell? ⟨b, o, none⟩ = some (.int .i64 t.gen) ∧ ∃ v, w.cell? ⟨b, o + 1, none⟩ = some v ∧ SliceV w v 4 FormAt t.forms
def PluAt (w : World) (b o : Nat) (p : Plu) : Prop :=
  w.cell? ⟨b, o, none⟩ = some (.int .i64 p.mod) ∧ w.cell? ⟨b, o + 1, none⟩ = some (.int .i64 p.frm) ∧ w.cell? ⟨b, o + 2, none⟩ = some (.int .i64 p.upto) ∧ w.cell? ⟨b, o + 3, none⟩ = some (.int .i64 p.cls)
def PceAt (w : World) (b o : Nat) (p : Pce) : Prop :=
  w.cell? ⟨b, o, none⟩ = some (.int .i64 p.kind) ∧ w.cell? ⟨b, o + 1, none⟩ = some (.int .i64 p.term) ∧ w.cell? ⟨b, o + 2, none⟩ = some (.int .i64 p.set) ∧ w.cell? ⟨b, o + 3, none⟩ = some (.int .i64 p.below)
def RulAt (w : World) (b o : Nat) (r : Rul) : Prop :=
  w.cell? ⟨b, o, none⟩ = some (.int .i64 r.base) ∧ w.cell? ⟨b, o + 1, none⟩ = some (.int .i64 r.div) ∧ ∃ v, w.cell? ⟨b, o + 2, none⟩ = some v ∧ SliceV w v 4 PceAt r.pieces
def SetAt (w : World) (b o : Nat) (l : List Rul) : Prop :=
  ∃ v, w.cell? ⟨b, o, none⟩ = some v ∧ SliceV w v 3 RulAt l
def AskAt (w : World) (b o : Nat) (a : Ask) : Prop :=
  w.cell? ⟨b, o, none⟩ = some (.int .i64 a.num) ∧ w.cell? ⟨b, o + 1, none⟩ = some (.int .i64 a.set) ∧ w.cell? ⟨b, o + 2, none⟩ = some (.int .i64 a.gen) ∧ w.cell? ⟨b, o + 3, none⟩ = some (.int .i64 a.kas)

/-- The three slices of a system. -/
def SysParts (w : World) (vt vp vs : Value) (S : Sys) : Prop :=
  SliceV w vt 2 TermAt S.terms ∧ SliceV w vp 4 PluAt S.plurals ∧ SliceV w vs 1 SetAt S.sets
def sysVal (S : Sys) (vt vp vs : Value) : Value := .agg #[.int .i64 S.top, .int .i64 S.genders, .int .i64 S.cases, .int .i64 S.classes, vt, vp, vs]
/-- A system in seven cells. -/
def SysAt (w : World) (b o : Nat) (S : Sys) : Prop :=
  ∃ vt vp vs, w.cell? ⟨b, o, none⟩ = some (.int .i64 S.top) ∧ w.cell? ⟨b, o + 1, none⟩ = some (.int .i64 S.genders) ∧ w.cell? ⟨b, o + 2, none⟩ = some (.int .i64 S.cases) ∧ w.cell? ⟨b, o + 3, none⟩ = some (.int .i64 S.classes) ∧
    w.cell? ⟨b, o + 4, none⟩ = some vt ∧ w.cell? ⟨b, o + 5, none⟩ = some vp ∧ w.cell? ⟨b, o + 6, none⟩ = some vs ∧ SysParts w vt vp vs S

/-! What was there stays. -/
theorem cell_lt {w : World} {b o : Nat} {v : Value} (h : w.cell? ⟨b, o, none⟩ = some v) : b < w.heap.size := by
  by_cases hb : b < w.heap.size
  · exact hb
  · have e : w.heap[b]? = none := by simp; omega
    simp [World.cell?, e] at h
theorem keep {w w' : World} (hB : Below w.heap.size w w') {b o : Nat} {v : Value} (h : w.cell? ⟨b, o, none⟩ = some v) : w'.cell? ⟨b, o, none⟩ = some v :=
  (hB.cell (p := ⟨b, o, none⟩) (cell_lt h)).trans h
def Stable {α : Type} (R : World → Nat → Nat → α → Prop) : Prop := ∀ w w' b o x, Below w.heap.size w w' → R w b o x → R w' b o x
theorem SliceV.keep {α : Type} {w w' : World} {v : Value} {sz : Nat} {R : World → Nat → Nat → α → Prop} {xs : List α} (hR : Stable R) (hB : Below w.heap.size w w') (h : SliceV w v sz R xs) : SliceV w' v sz R xs := by
  obtain ⟨a, c, hv, hl, hx⟩ := h
  exact ⟨a, c, hv, hl, hx.imp id fun ⟨b, o, ha, hi⟩ => ⟨b, o, ha, fun i h => hR _ _ _ _ _ hB (hi i h)⟩⟩
theorem FormAt.stable : Stable FormAt := fun _ _ _ _ _ hB ⟨h0, h1, h2, h3, h4⟩ => ⟨keep hB h0, keep hB h1, keep hB h2, keep hB h3, h4⟩
theorem TermAt.stable : Stable TermAt := fun _ _ _ _ _ hB ⟨h0, v, h1, h2⟩ => ⟨keep hB h0, v, keep hB h1, h2.keep FormAt.stable hB⟩
theorem PluAt.stable : Stable PluAt := fun _ _ _ _ _ hB ⟨h0, h1, h2, h3⟩ => ⟨keep hB h0, keep hB h1, keep hB h2, keep hB h3⟩
theorem PceAt.stable : Stable PceAt := fun _ _ _ _ _ hB ⟨h0, h1, h2, h3⟩ => ⟨keep hB h0, keep hB h1, keep hB h2, keep hB h3⟩
theorem AskAt.stable : Stable AskAt := fun _ _ _ _ _ hB ⟨h0, h1, h2, h3⟩ => ⟨keep hB h0, keep hB h1, keep hB h2, keep hB h3⟩
theorem RulAt.stable : Stable RulAt := fun _ _ _ _ _ hB ⟨h0, h1, v, h2, h3⟩ => ⟨keep hB h0, keep hB h1, v, keep hB h2, h3.keep PceAt.stable hB⟩
theorem SetAt.stable : Stable SetAt := fun _ _ _ _ _ hB ⟨v, h2, h3⟩ => ⟨v, keep hB h2, h3.keep RulAt.stable hB⟩
theorem SysParts.keep {w w' : World} {vt vp vs : Value} {S : Sys} (hB : Below w.heap.size w w') (h : SysParts w vt vp vs S) : SysParts w' vt vp vs S :=
  ⟨h.1.keep TermAt.stable hB, h.2.1.keep PluAt.stable hB, h.2.2.keep SetAt.stable hB⟩
theorem SysAt.stable : Stable SysAt := fun _ _ _ _ _ hB ⟨vt, vp, vs, h0, h1, h2, h3, h4, h5, h6, h7⟩ =>
  ⟨vt, vp, vs, Ytfcopnlpcbbocaa.keep hB h0, Ytfcopnlpcbbocaa.keep hB h1, Ytfcopnlpcbbocaa.keep hB h2, Ytfcopnlpcbbocaa.keep hB h3, Ytfcopnlpcbbocaa.keep hB h4, Ytfcopnlpcbbocaa.keep hB h5, Ytfcopnlpcbbocaa.keep hB h6, h7.keep hB⟩

/-- 'Below' from the first world on, and from the one at hand on. -/
theorem bThen {w a b : World} (h : Below w.heap.size w a) (k : Below a.heap.size a b) : Below w.heap.size w b := h.trans (k.mono h.size)
theorem bDrew {B : Nat} {a w : World} (h : Below B a w) (n : Nat) : Below B a (w.drewN n) := ⟨h.os, h.tape, h.output, h.size, h.block⟩

theorem bAlloc {w a : World} (h : Below w.heap.size w a) (o : Obj) : Below w.heap.size w (a.alloc o) := h.alloc h.size o
/-- What a callee that makes memory leaves of what was there. -/
theorem bcell {W w1 : World} (hb : Below W.heap.size W w1) : (∀ b o, b < W.heap.size → w1.cell? ⟨b, o, none⟩ = W.cell? ⟨b, o, none⟩) ∧ (∀ b o, b < W.heap.size → w1.frozen? ⟨b, o, none⟩ = W.frozen? ⟨b, o, none⟩) :=
  ⟨fun b o h => hb.cell (p := ⟨b, o, none⟩) h, fun b o h => hb.frozen (p := ⟨b, o, none⟩) h⟩

/-! Equal results. -/
theorem ret_int {k : IntKind} {a b : Int} (h : a = b) : Ending.returned (.int k a) = .returned (.int k b) := by rw [h]
theorem ret_bool {a b : Bool} (h : a = b) : Ending.returned (.bool a) = .returned (.bool b) := by rw [h]
theorem ret_bool_int {a b : Bool} {c d : Int} (h : a = b) (h' : c = d) : Ending.returned (.tuple #[.int .i64 c, .bool a]) = .returned (.tuple #[.int .i64 d, .bool b]) := by rw [h, h']

theorem wrap_byte (c : UInt8) : wrap64 (c.toNat : Int) = (c.toNat : Int) := by
  have := c.toNat_lt
  exact IntWalk.wrap64_in _ (by omega)

theorem take_succ {α : Type} (l : List α) (k : Nat) (h : k < l.length) : l.take (k + 1) = l.take k ++ [l[k]] := List.take_succ_eq_append_getElem h

/-! The definitions of the chapter, as functions. -/
def betw (n a b : Int) : Bool := decide (a ≤ n) && decide (n ≤ b)
def exst (i n : Int) : Bool := decide (0 ≤ i) && decide (i < n)
def orAny (i n : Int) : Bool := decide (i = -1) || exst i n
def textOk (t : ByteArray) : Bool := betw t.size 1 30 && t.data.toList.all (fun c => betw (c.toNat : Int) 33 126)
def formOk (S : Sys) (f : Form) : Bool := orAny f.gen S.genders && orAny f.kas S.cases && orAny f.cls S.classes && textOk f.txt
def termOk (S : Sys) (t : Term) : Bool := exst t.gen S.genders && decide (t.forms.length ≤ 60) && t.forms.all (formOk S)
def pluOk (S : Sys) (p : Plu) : Bool := betw p.mod 1 1000000 && decide (0 ≤ p.frm) && decide (p.frm ≤ p.upto) && decide (p.upto < p.mod) && exst p.cls S.classes
def pceOk (S : Sys) (r : Rul) (p : Pce) : Bool :=
  if r.div = 0 ∧ p.kind ≠ 1 then false
  else if p.kind = 1 ∨ p.kind = 2 then exst p.term S.terms.length && decide (p.set = 0) && decide (p.below = 0)
  else if p.kind = 3 ∨ p.kind = 4 then exst p.set S.sets.length && decide (p.term = 0) && decide (p.below = 0)
  else if p.kind = 5 then exst p.term S.terms.length && decide (p.set = 0) && decide (0 ≤ p.below)
  else false
def kinds (k : Int) (l : List Pce) : Nat := (l.filter fun p => decide (p.kind = k)).length
def certain (l : List Pce) : Nat := (l.filter fun p => decide (p.kind = 1) || decide (p.kind = 2) || decide (p.kind = 3)).length
theorem kinds_snoc (k : Int) (l : List Pce) (p : Pce) : kinds k (l ++ [p]) = kinds k l + if p.kind = k then 1 else 0 := by
  unfold kinds; by_cases h : p.kind = k <;> simp [h]
theorem certain_snoc (l : List Pce) (p : Pce) : certain (l ++ [p]) = certain l + if p.kind = 1 ∨ p.kind = 2 ∨ p.kind = 3 then 1 else 0 := by
  unfold certain; by_cases h : p.kind = 1 ∨ p.kind = 2 ∨ p.kind = 3 <;> simp [h, or_assoc]
theorem kinds_le (k : Int) (l : List Pce) : kinds k l ≤ l.length := List.length_filter_le ..
theorem certain_le (l : List Pce) : certain l ≤ l.length := List.length_filter_le ..
def rulOk (S : Sys) (r : Rul) : Bool :=
  (decide (r.div = 0) || betw r.div 2 r.base) && betw r.pieces.length 1 10 && r.pieces.all (pceOk S r) && decide (kinds 3 r.pieces ≤ 1) && decide (kinds 4 r.pieces ≤ 1) && decide (1 ≤ certain r.pieces)
def rising : List Rul → Bool
  | [] => true
  | [_] => true
  | a :: b :: l => decide (a.base < b.base) && rising (b :: l)
def lastBase : List Rul → Int
  | [] => 0
  | [a] => a.base
  | _ :: b :: l => lastBase (b :: l)
def setOk (S : Sys) (l : List Rul) : Bool :=
  betw l.length 1 200 && decide ((l.head?.map Rul.base) = some 0) && decide (lastBase l ≤ S.top) && rising l && l.all (rulOk S)
def sizesOk (S : Sys) : Bool := betw S.top 0 999999999999 && betw S.genders 1 4 && betw S.cases 1 8 && betw S.classes 1 6 && decide (S.terms.length ≤ 500) && decide (S.plurals.length ≤ 40) && betw S.sets.length 1 8
def sysOk (S : Sys) : Bool := sizesOk S && S.terms.all (termOk S) && S.plurals.all (pluOk S) && S.sets.all (setOk S)
def askOk (S : Sys) (a : Ask) : Bool := sysOk S && betw a.num 0 S.top && exst a.set S.sets.length && exst a.gen S.genders && exst a.kas S.cases
def plHolds (n : Int) (p : Plu) : Bool := betw (n % p.mod) p.frm p.upto
def classOf (n : Int) : List Plu → Int
  | [] => 0
  | p :: ps => if plHolds n p then p.cls else classOf n ps
end Go.Proofs.Ytfcopnlpcbbocaa
