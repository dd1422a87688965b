/- A region that draws its order, reads first, and calls a round's yield at its end: at the wide fence. -/
import Derived.Test.YtfcopnlpcbbocaaC0
import Derived.StillTailTactics
import Derived.OrdersIn
import Derived.RangeFuncNested
import Derived.RangeFuncBound
import Derived.RangeFuncCalls
import Derived.RangeFuncLeaves
import Derived.OwnWalkIn
import Derived.TacticsInMore
set_option linter.unusedSimpArgs false
set_option linter.unusedVariables false
namespace Go.Proofs.Ytfcopnlpcbbocaa
open Go.RowKit

section
variable {P : Program} {ops : Array Oper} {md : Region.Mode} {Q : Exit → Act → World → Prop} {m : Nat} {w : World}
/-- An operation that leaves the world alone, at the wide fence. -/
theorem still_in {i : Nat} {a : Act} {K : Act → Prop} {K' : Act → World → Prop} (h : ∀ a, K a → K' a w) (hs : stOp P ops w i K a) : wpOpIn Fence.wide m P ops Q i K' a w := by
  unfold wpOpIn
  unfold stOp at hs
  cases hi : ops[i]? with
  | none => rw [hi] at hs; exact h _ hs
  | some o =>
    rw [hi] at hs
    dsimp only at hs ⊢
    by_cases hw : Region.wanted o (yielded ops a.tmps) = true
    · rw [if_pos hw] at hs ⊢
      refine ⟨fun _ _ => trivial, ?_⟩
      unfold Oper.still at hs
      rw [show Fence.wide.round = none from rfl, Oper.semAt_none]
      generalize (execOp a.eval o).run P w = r at hs ⊢
      cases r with
      | ok x w' =>
        cases x with
        | value v => obtain ⟨e, hk⟩ := hs; subst e; exact h _ hk
        | skip => obtain ⟨e, hk⟩ := hs; subst e; exact h _ hk
        | enter f args =>
          obtain ⟨e, v, hc, hk⟩ := hs
          subst e
          exact ⟨fun hd => by simp [Fence.wide] at hd, callsIn_wide.2 (hc.mono fun e w'' ⟨he, hw''⟩ => by subst he hw''; exact h _ hk)⟩
        | _ => exact hs.elim
      | halt _ _ => exact hs.elim
    · rw [if_neg hw] at hs ⊢
      exact ⟨fun _ _ => trivial, h _ hs⟩
theorem head_in {n g : Nat} {L : Array Bool → Act → Prop} (hL : ∀ listed a, L listed a → wpAnyIn Fence.wide m P md ops Q g listed a w) (f : Nat) :
    ∀ (listed : Array Bool) (a : Act), wpAnyL P md ops w n L f listed a → wpAnyIn Fence.wide m P md ops Q (f + g) listed a w := by
  induction f with
  | zero => intro listed a h; rw [Nat.zero_add]; exact hL _ _ h
  | succ f ih =>
    intro listed a h
    rw [Nat.add_right_comm]
    exact ⟨fun e => (h.1 e).elim, fun i hi => still_in (fun a' => ih _ a') (h.2 i hi).2⟩
theorem seq_in (l : List Oper) : ∀ (k : Nat) (listed : Array Bool) (a : Act) (w : World), (∀ j, l[j]? = ops[k + j]?) → Region.seqB md ops l.length k listed = true →
    wpListIn Fence.wide m P ops Q l a w → wpAnyIn Fence.wide m P md ops Q l.length listed a w := by
  induction l with
  | nil => intro k listed a w _ hB h; exact ⟨by simpa [Region.seqB] using hB, h⟩
  | cons o l ih =>
    intro k listed a w hl hB h
    have ho : ops[k]? = some o := by have := hl 0; simpa using this.symm
    simp only [List.length_cons, Region.seqB, Bool.and_eq_true, decide_eq_true_eq] at hB
    obtain ⟨hr, hB⟩ := hB
    constructor
    · intro e; rw [hr] at e; cases e
    · intro i hi
      rw [hr, List.mem_singleton] at hi
      subst hi
      have hw : wpOpIn Fence.wide m P ops Q i (wpListIn Fence.wide m P ops Q l) a w := by unfold wpOpIn; rw [ho]; exact h
      refine wpOpIn_mono (fun a' w' h' => ih (i + 1) _ a' w' (fun j => ?_) hB h') hw
      have := hl (j + 1)
      rw [List.getElem?_cons_succ] at this
      rw [this, Nat.add_assoc, Nat.add_comm 1 j]
/-- **Reads first, in whatever order; then the rest, one after the other.** -/
theorem region_tail_in {id : Nat} {a : Act} {l : List Oper} (n : Nat) (hm : P.follows .mixedOrders = true) (hB : Region.lexTailB .any l.toArray n = true)
    (h : wpStill P l.toArray { w with drawn := w.drawn + 1 } (fun a' => wpListIn Fence.wide m P l.toArray Q (l.drop n) a' { w with drawn := w.drawn + 1 }) (l.take n) a) : (Code.region id l.toArray true).wp P Q a w := by
  refine wpIn_wide (n := m).1 (wpIn_region_any hm ?_)
  simp only [Region.lexTailB, Bool.and_eq_true, decide_eq_true_eq] at hB
  obtain ⟨⟨⟨⟨h1, h2⟩, h3⟩, h4⟩, h5⟩ := hB
  have hn : n < l.length := by simpa using h2
  have et : (l.take n).length = n := List.length_take_of_le (by omega)
  have ed : (l.drop n).length = l.toArray.size - n := by simp
  have H := wpAnyL_lex (P := P) (md := .any) (w := { w with drawn := w.drawn + 1 }) (g := l.toArray.size - n) h1 h3 h4 h2 (l.take n) 0 (Array.replicate l.toArray.size false) a
    (fun j hj => by rw [et] at hj; simp [hj]) (by omega)
    ⟨by simp, fun j oj _ hl => (by rw [getD_replicate_false] at hl; cases hl), fun t _ ht => getD_in (by simpa using ht) (getD_replicate_false _ _)⟩ (by rw [et]; exact h5) h
  have R := head_in (m := m) (Q := Q) (g := l.toArray.size - n) (fun listed a' hL => by
    have S := seq_in (m := m) (md := .any) (Q := Q) (l.drop n) n listed a' { w with drawn := w.drawn + 1 } (fun j => by simp [List.getElem?_drop]) (by rw [ed]; exact hL.1) hL.2
    rwa [ed] at S) _ _ _ H
  rw [et] at R
  rwa [show n + (l.toArray.size - n) = l.toArray.size by omega] at R
end

theorem room_of_wide (k : Nat) : Fence.wide.room k := room_wide k
theorem round_any {m m' : Nat} {P : Program} {l : Nat} {f : FuncId} {tmps : Array Value} {assign body : Code} {w : World} {R : Ending → World → Prop}
    (h : RoundIn Fence.wide m P l f tmps assign body w R) : RoundIn Fence.wide m' P l f tmps assign body w R := ⟨h.1, fun c cs _ => h.2 c cs (room_wide _)⟩
theorem yield_any {m : Nat} (m' : Nat) {P : Program} {l : Nat} {args : Array Value} {W : World} {R : Ending → World → Prop} (h : YieldAt Fence.wide m P l args W R) : YieldAt Fence.wide m' P l args W R := by
  obtain ⟨fn, tmps, assign, body, hy, hR⟩ := h
  exact ⟨fn, tmps, assign, body, hy, round_any hR⟩
end Go.Proofs.Ytfcopnlpcbbocaa
