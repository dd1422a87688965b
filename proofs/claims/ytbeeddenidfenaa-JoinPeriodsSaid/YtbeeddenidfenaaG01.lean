/- A region that draws its order, reads first, and calls at its end: within a round of a loop over an iterator. -/
import Derived.Test.YtbeeddenidfenaaG0
set_option linter.unusedSimpArgs false
set_option linter.unusedVariables false
namespace Go.Proofs.Ytbeeddenidfenaa
open Go.RowKit

section
variable {P : Program} {ops : Array Oper} {md : Region.Mode} {Q : Exit → Act → World → Prop} {m l : Nat} {w : World}
def noDefer (o : Oper) : Bool := match o.op with
  | .defer _ => false
  | _ => true
theorem noDefer_ne {o : Oper} (h : noDefer o = true) : ∀ c, o.op ≠ .defer c := by
  intro c hc
  unfold noDefer at h
  rw [hc] at h
  cases h
theorem still_rd (hnd : ops.toList.all noDefer = true) {i : Nat} {a : Act} {K : Act → Prop} {K' : Act → World → Prop} (h : ∀ a, K a → K' a w) (hs : stOp P ops w i K a) : wpOpIn (Fence.wide.inRound l) m P ops Q i K' a w := by
  unfold wpOpIn
  unfold stOp at hs
  cases hi : ops[i]? with
  | none => rw [hi] at hs; exact h _ hs
  | some o =>
    have hno : ∀ c, o.op ≠ .defer c := noDefer_ne (List.all_eq_true.1 hnd o (by have := Array.mem_of_getElem? hi; simpa using this))
    rw [hi] at hs
    dsimp only at hs ⊢
    by_cases hw : Region.wanted o (yielded ops a.tmps) = true
    · rw [if_pos hw] at hs ⊢
      refine ⟨fun _ _ => trivial, ?_⟩
      unfold Oper.still at hs
      rw [show (Fence.wide.inRound l).round = some l from rfl, Oper.semAt_some _ _ _ hno]
      generalize (execOp a.eval o).run P w = r at hs ⊢
      cases r with
      | ok x w' =>
        cases x with
        | value v => obtain ⟨e, hk⟩ := hs; subst e; exact h _ hk
        | skip => obtain ⟨e, hk⟩ := hs; subst e; exact h _ hk
        | enter f args =>
          obtain ⟨e, v, hc, hk⟩ := hs
          subst e
          exact ⟨fun hd => by simp [Fence.wide] at hd, CallsIn.inRound l (callsIn_wide.2 (hc.mono fun e w'' ⟨he, hw''⟩ => by subst he hw''; exact h _ hk))⟩
        | _ => exact hs.elim
      | halt _ _ => exact hs.elim
    · rw [if_neg hw] at hs ⊢
      exact ⟨fun _ _ => trivial, h _ hs⟩
theorem head_rd (hnd : ops.toList.all noDefer = true) {n g : Nat} {L : Array Bool → Act → Prop} (hL : ∀ listed a, L listed a → wpAnyIn (Fence.wide.inRound l) m P md ops Q g listed a w) (f : Nat) :
    ∀ (listed : Array Bool) (a : Act), wpAnyL P md ops w n L f listed a → wpAnyIn (Fence.wide.inRound l) m P md ops Q (f + g) listed a w := by
  induction f with
  | zero => intro listed a h; rw [Nat.zero_add]; exact hL _ _ h
  | succ f ih =>
    intro listed a h
    rw [Nat.add_right_comm]
    exact ⟨fun e => (h.1 e).elim, fun i hi => still_rd hnd (fun a' => ih _ a') (h.2 i hi).2⟩
theorem seq_rd (s : List Oper) : ∀ (k : Nat) (listed : Array Bool) (a : Act) (w : World), (∀ j, s[j]? = ops[k + j]?) → Region.seqB md ops s.length k listed = true →
    wpListIn (Fence.wide.inRound l) m P ops Q s a w → wpAnyIn (Fence.wide.inRound l) m P md ops Q s.length listed a w := by
  induction s with
  | nil => intro k listed a w _ hB h; exact ⟨by simpa [Region.seqB] using hB, h⟩
  | cons o s ih =>
    intro k listed a w hl hB h
    have ho : ops[k]? = some o := by have := hl 0; simpa using this.symm
    simp only [List.length_cons, Region.seqB, Bool.and_eq_true, decide_eq_true_eq] at hB
    obtain ⟨hr, hB⟩ := hB
    constructor
    · intro e; rw [hr] at e; cases e
    · intro i hi
      rw [hr, List.mem_singleton] at hi
      subst hi
      have hw : wpOpIn (Fence.wide.inRound l) m P ops Q i (wpListIn (Fence.wide.inRound l) m P ops Q s) a w := by unfold wpOpIn; rw [ho]; exact h
      refine wpOpIn_mono (fun a' w' h' => ih (i + 1) _ a' w' (fun j => ?_) hB h') hw
      have := hl (j + 1)
      rw [List.getElem?_cons_succ] at this
      rw [this, Nat.add_assoc, Nat.add_comm 1 j]
/-- **Reads first, in whatever order; then the rest, one after the other: in a round.** -/
theorem region_tail_round {id : Nat} {a : Act} {s : List Oper} (n : Nat) (hm : P.follows .mixedOrders = true) (hnd : s.all noDefer = true) (hB : Region.lexTailB .any s.toArray n = true)
    (h : wpStill P s.toArray { w with drawn := w.drawn + 1 } (fun a' => wpListIn (Fence.wide.inRound l) m P s.toArray Q (s.drop n) a' { w with drawn := w.drawn + 1 }) (s.take n) a) : (Code.region id s.toArray true).wpIn (Fence.wide.inRound l) m P Q a w := by
  refine wpIn_region_any hm ?_
  simp only [Region.lexTailB, Bool.and_eq_true, decide_eq_true_eq] at hB
  obtain ⟨⟨⟨⟨h1, h2⟩, h3⟩, h4⟩, h5⟩ := hB
  have hn : n < s.length := by simpa using h2
  have et : (s.take n).length = n := List.length_take_of_le (by omega)
  have ed : (s.drop n).length = s.toArray.size - n := by simp
  have H := wpAnyL_lex (P := P) (md := .any) (w := { w with drawn := w.drawn + 1 }) (g := s.toArray.size - n) h1 h3 h4 h2 (s.take n) 0 (Array.replicate s.toArray.size false) a
    (fun j hj => by rw [et] at hj; simp [hj]) (by omega)
    ⟨by simp, fun j oj _ hl => (by rw [getD_replicate_false] at hl; cases hl), fun t _ ht => getD_in (by simpa using ht) (getD_replicate_false _ _)⟩ (by rw [et]; exact h5) h
  have R := head_rd (m := m) (l := l) (Q := Q) (by simpa using hnd) (g := s.toArray.size - n) (fun listed a' hL => by
    have S := seq_rd (m := m) (l := l) (md := .any) (Q := Q) (s.drop n) n listed a' { w with drawn := w.drawn + 1 } (fun j => by simp [List.getElem?_drop]) (by rw [ed]; exact hL.1) hL.2
    rwa [ed] at S) _ _ _ H
  rw [et] at R
  rwa [show n + (s.toArray.size - n) = s.toArray.size by omega] at R
end
end Go.Proofs.Ytbeeddenidfenaa
