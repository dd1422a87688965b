/- Plain data of layer 7 and how the heap holds it; worlds that keep what was there. -/
import Derived.WalkKit
import Derived.WalkSpells
import Derived.WalkLawsBesides
import Derived.IntWalk
import Derived.Lib.Hide
import Derived.BigQuiet
import Derived.BigGuardPart
import Derived.Deep.QuietTactic
import Derived.RangeFuncRecord
import Derived.KernelRfl
set_option linter.unusedSimpArgs false
set_option linter.unusedVariables false
namespace Go.Proofs.Ytbmbcbknoflpgaa
open Go.RowKit

/-- A marked wave. -/
structure Mk where
  sam : List Int
  marks : List Int
abbrev most : Nat := 9223372036854775807

/-- A slice value holds a list: each element of so many cells. -/
def SliceV {α : Type} (w : World) (v : Value) (sz : Nat) (R : World → Nat → Nat → α → Prop) (xs : List α) : Prop :=
  ∃ a c, v = .slice a xs.length c ∧ (xs.length ≤ most ∧ xs.length ≤ c) ∧ (xs = [] ∨ ∃ b o, a = some ⟨b, o, none⟩ ∧ ∀ i (h : i < xs.length), R w b (o + i * sz) xs[i])
def IntAt (w : World) (b o : Nat) (n : Int) : Prop := w.cell? ⟨b, o, none⟩ = some (.int .i64 n)

theorem cell_lt {w : World} {b o : Nat} {v : Value} (h : w.cell? ⟨b, o, none⟩ = some v) : b < w.heap.size := by
  by_cases hb : b < w.heap.size
  · exact hb
  · have e : w.heap[b]? = none := by simp; omega
    simp [World.cell?, e] at h
theorem keep {w w' : World} (hB : Below w.heap.size w w') {b o : Nat} {v : Value} (h : w.cell? ⟨b, o, none⟩ = some v) : w'.cell? ⟨b, o, none⟩ = some v :=
  (hB.cell (p := ⟨b, o, none⟩) (cell_lt h)).trans h
def Stable {α : Type} (R : World → Nat → Nat → α → Prop) : Prop := ∀ w w' b o x, Below w.heap.size w w' → R w b o x → R w' b o x
theorem SliceV.keep {α : Type} {w w' : World} {v : Value} {sz : Nat} {R : World → Nat → Nat → α → Prop} {xs : List α} (hR : Stable R) (hB : Below w.heap.size w w') (h : SliceV w v sz R xs) : SliceV w' v sz R xs := by
  obtain ⟨a, c, hv, hl, hx⟩ := h
  exact ⟨a, c, hv, hl, hx.imp id fun ⟨b, o, ha, hi⟩ => ⟨b, o, ha, fun i h => hR _ _ _ _ _ hB (hi i h)⟩⟩
def WaveAt (w : World) (b o : Nat) (l : List Int) : Prop := ∃ v, w.cell? ⟨b, o, none⟩ = some v ∧ SliceV w v 1 IntAt l
theorem IntAt.stable : Stable IntAt := fun _ _ _ _ _ hB h => keep hB h

theorem WaveAt.stable : Stable WaveAt := fun _ _ _ _ _ hB ⟨v, h, hs⟩ => ⟨v, Go.Proofs.Ytbmbcbknoflpgaa.keep hB h, hs.keep IntAt.stable hB⟩

/-- 'Below' from the first world on, and from the one at hand on. -/
theorem bThen {w a b : World} (h : Below w.heap.size w a) (k : Below a.heap.size a b) : Below w.heap.size w b := h.trans (k.mono h.size)
theorem bDrew {B : Nat} {a w : World} (h : Below B a w) (n : Nat) : Below B a (w.drewN n) := ⟨h.os, h.tape, h.output, h.size, h.block⟩
theorem bAlloc {w a : World} (h : Below w.heap.size w a) (o : Obj) : Below w.heap.size w (a.alloc o) := h.alloc h.size o
theorem bcell {W w1 : World} (hb : Below W.heap.size W w1) : (∀ b o, b < W.heap.size → w1.cell? ⟨b, o, none⟩ = W.cell? ⟨b, o, none⟩) ∧ (∀ b o, b < W.heap.size → w1.frozen? ⟨b, o, none⟩ = W.frozen? ⟨b, o, none⟩) :=
  ⟨fun b o h => hb.cell (p := ⟨b, o, none⟩) h, fun b o h => hb.frozen (p := ⟨b, o, none⟩) h⟩
theorem cell_new {V : World} {cs : Array Value} {t j : Nat} {v : Value} (h : cs[j]? = some v) : (V.alloc (.cells cs t)).cell? ⟨V.heap.size, j, none⟩ = some v := by
  have hb := World.alloc_heap_new V (.cells cs t)
  simp only [World.cell?, hb]
  simpa using h
/-- What a speller hands back, with its value at hand. -/
theorem ret_int {k : IntKind} {a b : Int} (h : a = b) : Ending.returned (.int k a) = .returned (.int k b) := by rw [h]
theorem ret_bool {a b : Bool} (h : a = b) : Ending.returned (.bool a) = .returned (.bool b) := by rw [h]
theorem take_succ {α : Type} (l : List α) (k : Nat) (h : k < l.length) : l.take (k + 1) = l.take k ++ [l[k]] := List.take_succ_eq_append_getElem h
theorem SliceV.at {α : Type} {w : World} {ad : Option Addr} {n c sz : Nat} {R : World → Nat → Nat → α → Prop} {xs : List α} (h : SliceV w (.slice ad n c) sz R xs) (hne : xs ≠ []) : ∃ b o, ad = some ⟨b, o, none⟩ ∧ ∀ i (hi : i < xs.length), R w b (o + i * sz) xs[i] := by
  obtain ⟨a, c', hv, _, hx⟩ := h
  obtain ⟨rfl, rfl, rfl⟩ := Value.slice.inj hv
  exact hx.resolve_left hne
theorem SliceV.len {α : Type} {w : World} {ad : Option Addr} {n c sz : Nat} {R : World → Nat → Nat → α → Prop} {xs : List α} (h : SliceV w (.slice ad n c) sz R xs) : n = xs.length := by
  obtain ⟨a, c', hv, _, hx⟩ := h
  exact (Value.slice.inj hv).2.1

/-- A world that keeps all that was there in W. -/
structure BW (W : World) where
  val : World
  prop : Below W.heap.size W val
instance (W : World) : Nonempty (BW W) := ⟨⟨W, Below.refl _ _⟩⟩
@[go_sem] theorem BW.cell {W : World} (x : BW W) {b o : Nat} (h : b < W.heap.size) : x.val.cell? ⟨b, o, none⟩ = W.cell? ⟨b, o, none⟩ := x.2.cell (p := ⟨b, o, none⟩) h
@[go_sem] theorem BW.frozen {W : World} (x : BW W) {b o : Nat} (h : b < W.heap.size) : x.val.frozen? ⟨b, o, none⟩ = W.frozen? ⟨b, o, none⟩ := x.2.frozen (p := ⟨b, o, none⟩) h
theorem wp_region_below {P : Program} {id : Nat} {Q : Exit → Act → World → Prop} {a : Act} {w : World} {l : List Oper} (hm : P.follows .mixedOrders = true) (hB : Region.lexB .any l.toArray = true)
    (h : wpQuiet P l.toArray (fun w' => ∃ x : BW w, w' = x.val) (fun a' => ∀ w', (∃ x : BW w, w' = x.val) → Q .normal a' w') l a) : (Code.region id l.toArray true).wp P Q a w :=
  wp_region_quiet (C := fun w' => ∃ x : BW w, w' = x.val) hm hB ⟨⟨w.drew, (Below.refl _ _).drew⟩, rfl⟩ (by simpa using h)
theorem toB {P : Program} {f : FuncId} {args : Array Value} {W : World} {v : Value} (h : ∀ x : BW W, Calls P f args x.val fun e w' => e = .returned v ∧ Below x.val.heap.size x.val w') (x : BW W) :
    Calls P f args x.val fun e w'' => e = .returned v ∧ ∃ y : BW W, w'' = y.val :=
  (h x).mono fun _ w' ⟨a, b⟩ => ⟨a, ⟨w', bThen x.2 b⟩, rfl⟩
theorem toS {P : Program} {f : FuncId} {args : Array Value} {W : World} {v : Value} (h : ∀ w, Calls P f args w fun e w' => e = .returned v ∧ w = w') (x : BW W) :
    Calls P f args x.val fun e w'' => e = .returned v ∧ ∃ y : BW W, w'' = y.val :=
  (h x.val).mono fun _ _ ⟨a, b⟩ => ⟨a, x, b.symm⟩
theorem isB {P : Program} {f : FuncId} {args : Array Value} {w : World} {x y : Bool} {R : World → Prop} (h : Calls P f args w fun e w' => e = .returned (.bool x) ∧ R w') (hx : x = y) :
    Calls P f args w fun e w' => e = .returned (.bool y) ∧ R w' := by rw [← hx]; exact h
theorem toQ {P : Program} {f : FuncId} {args : Array Value} {w : World} {n : Nat} {v : Value} (h : Calls P f args (w.drewN n) fun e w' => e = .returned v ∧ w.drewN n = w') :
    Calls P f args (w.drewN n) fun e w'' => e = .returned v ∧ ∃ m, w'' = w.drewN m :=
  Calls.quiet_of_same (h.mono fun _ _ ⟨a, b⟩ => ⟨a, b.symm⟩)
theorem wp_opaque {P : Program} {c : Code} {Q : Exit → Act → World → Prop} {a : Act} {w : World} (h : ∀ Q' : Exit → Act → World → Prop, (∀ e a w, Q e a w → Q' e a w) → c.wp P Q' a w) : c.wp P Q a w := h Q fun _ _ _ h => h
end Go.Proofs.Ytbmbcbknoflpgaa
