/- A region that draws its order, and whose calls may make memory: walked once, where each call hands back one value whatever was made before. -/
import Derived.Test.YtfcopnlpcbbocaaMem
import Derived.BigQuiet
import Derived.BigGuardPart
import Derived.Deep.QuietTactic
set_option linter.unusedSimpArgs false
set_option linter.unusedVariables false
namespace Go.Proofs.Ytfcopnlpcbbocaa
open Go.RowKit

/-- A world that keeps all that was there in W. -/
structure BW (W : World) where
  val : World
  prop : Below W.heap.size W val
instance (W : World) : Nonempty (BW W) := ⟨⟨W, Below.refl _ _⟩⟩
@[go_sem] theorem BW.cell {W : World} (x : BW W) {b o : Nat} (h : b < W.heap.size) : x.val.cell? ⟨b, o, none⟩ = W.cell? ⟨b, o, none⟩ := x.2.cell (p := ⟨b, o, none⟩) h
@[go_sem] theorem BW.frozen {W : World} (x : BW W) {b o : Nat} (h : b < W.heap.size) : x.val.frozen? ⟨b, o, none⟩ = W.frozen? ⟨b, o, none⟩ := x.2.frozen (p := ⟨b, o, none⟩) h

theorem wp_region_below {P : Program} {id : Nat} {Q : Exit → Act → World → Prop} {a : Act} {w : World} {l : List Oper} (hm : P.follows .mixedOrders = true) (hB : Region.lexB .any l.toArray = true)
    (h : wpQuiet P l.toArray (fun w' => ∃ x : BW w, w' = x.val) (fun a' => ∀ w', (∃ x : BW w, w' = x.val) → Q .normal a' w') l a) : (Code.region id l.toArray true).wp P Q a w :=
  wp_region_quiet (C := fun w' => ∃ x : BW w, w' = x.val) hm hB ⟨⟨w.drew, (Below.refl _ _).drew⟩, rfl⟩ (by simpa using h)

/-- A callee's contract, met in such a region. -/
theorem toB {P : Program} {f : FuncId} {args : Array Value} {W : World} {v : Value} (h : ∀ x : BW W, Calls P f args x.val fun e w' => e = .returned v ∧ Below x.val.heap.size x.val w') (x : BW W) :
    Calls P f args x.val fun e w'' => e = .returned v ∧ ∃ y : BW W, w'' = y.val :=
  (h x).mono fun _ w' ⟨a, b⟩ => ⟨a, ⟨w', bThen x.2 b⟩, rfl⟩
/-- A callee that leaves the world alone. -/
theorem toS {P : Program} {f : FuncId} {args : Array Value} {W : World} {v : Value} (h : ∀ w, Calls P f args w fun e w' => e = .returned v ∧ w = w') (x : BW W) :
    Calls P f args x.val fun e w'' => e = .returned v ∧ ∃ y : BW W, w'' = y.val :=
  (h x.val).mono fun _ _ ⟨a, b⟩ => ⟨a, x, b.symm⟩
theorem isB {P : Program} {f : FuncId} {args : Array Value} {w : World} {x y : Bool} {R : World → Prop} (h : Calls P f args w fun e w' => e = .returned (.bool x) ∧ R w') (hx : x = y) :
    Calls P f args w fun e w' => e = .returned (.bool y) ∧ R w' := by rw [← hx]; exact h
/-- The continuation under a name that no step of the walk looks behind. -/
theorem wp_opaque {P : Program} {c : Code} {Q : Exit → Act → World → Prop} {a : Act} {w : World} (h : ∀ Q' : Exit → Act → World → Prop, (∀ e a w, Q e a w → Q' e a w) → c.wp P Q' a w) : c.wp P Q a w := h Q fun _ _ _ h => h
end Go.Proofs.Ytfcopnlpcbbocaa
