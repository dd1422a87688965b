/- Contracts: a number is said, piece by piece, to a listener. -/
import Derived.Test.YtfcopnlpcbbocaaE2
import Derived.Test.YtfcopnlpcbbocaaD5
import Derived.Test.YtfcopnlpcbbocaaD6
namespace Go.Proofs.Ytfcopnlpcbbocaa
open Go.RowKit
attribute [local go_sem] Oper.semAt_some

/-- What a round of the loop keeps: what lay below n, and each block of cells whose type is none of its own. -/
structure Kp (n : Nat) (own : Nat → Bool) (W W' : World) : Prop where
  low : Below n W W'
  cells : ∀ (k : Nat) c t fr, W.heap[k]? = some (Obj.cells c t fr) → own t = false → W'.heap[k]? = some (Obj.cells c t fr)
theorem Kp.refl (n : Nat) (own : Nat → Bool) (W : World) : Kp n own W W := ⟨Below.refl _ _, fun _ _ _ _ h _ => h⟩
theorem Kp.trans {n : Nat} {own : Nat → Bool} {A B C : World} (h : Kp n own A B) (k : Kp n own B C) : Kp n own A C :=
  ⟨h.low.trans k.low, fun i c t fr hi ho => k.cells i c t fr (h.cells i c t fr hi ho) ho⟩
theorem Kp.of_below {n : Nat} {own : Nat → Bool} {W W' : World} (h : Below W.heap.size W W') (hn : n ≤ W.heap.size) : Kp n own W W' :=
  ⟨h.mono hn, fun _ _ _ _ hi _ => heap_keep h hi⟩
theorem Kp.cell {n : Nat} {own : Nat → Bool} {W W' : World} (h : Kp n own W W') {b o t : Nat} {v : Value} (ht : TypAt W b t) (ho : own t = false) (hc : W.cell? ⟨b, o, none⟩ = some v) : W'.cell? ⟨b, o, none⟩ = some v := by
  obtain ⟨c, fr, hb⟩ := ht
  have := h.cells b c t fr hb ho
  simp only [World.cell?, hb] at hc
  simp only [World.cell?, this]
  exact hc
theorem Kp.typ {n : Nat} {own : Nat → Bool} {W W' : World} (h : Kp n own W W') {b t : Nat} (ht : TypAt W b t) (ho : own t = false) : TypAt W' b t := by
  obtain ⟨c, fr, hb⟩ := ht
  exact ⟨c, fr, h.cells b c t fr hb ho⟩
theorem TypAt.keep {W W' : World} {b t : Nat} (h : TypAt W b t) (hB : Below W.heap.size W W') : TypAt W' b t := let ⟨c, fr, hb⟩ := h; ⟨c, fr, heap_keep hB hb⟩

/-- A part whose pieces lie in what was there before the loop. -/
def PartIn (w0 W : World) (b sb : Nat) (S : Sys) (a : Ask) (d : Int) : Prop :=
  PartAt W b sb S a d ∧ TypAt W b 152 ∧ ∃ v, W.cell? ⟨b, 8, none⟩ = some v ∧ SliceV w0 v 4 PceAt (ruleOf S a).pieces
theorem PartIn.kp {w0 W W' : World} {own : Nat → Bool} {b sb : Nat} {S : Sys} {a : Ask} {d : Int} (h : PartIn w0 W b sb S a d) (hk : Kp w0.heap.size own W W') (h0 : Below w0.heap.size w0 W) (ho : own 152 = false) : PartIn w0 W' b sb S a d := by
  obtain ⟨⟨q0, q1, q2, q3, q4, q5, q6, q7, ⟨v, q8, hv⟩, q9, q10, q11⟩, ht, v', c8, hs⟩ := h
  have e : v' = v := by rw [q8] at c8; exact (Option.some.inj c8).symm
  subst e
  exact ⟨⟨hk.cell ht ho q0, hk.cell ht ho q1, hk.cell ht ho q2, hk.cell ht ho q3, hk.cell ht ho q4, hk.cell ht ho q5, hk.cell ht ho q6, hk.cell ht ho q7, ⟨_, hk.cell ht ho q8, hs.keep PceAt.stable (h0.trans hk.low)⟩, hk.cell ht ho q9, hk.cell ht ho q10, hk.cell ht ho q11⟩, hk.typ ht ho, _, hk.cell ht ho q8, hs⟩

/-- All of the items have come; or a round has said 'no more'. -/
def Push (J Jx : List Item → World → Prop) (K : World → World → Prop) (pre xs : List Item) (W : World) (e : Ending) (W' : World) : Prop :=
  (e = .returned (.bool true) ∧ J (pre ++ xs) W' ∧ K W W') ∨ (e = .returned (.bool false) ∧ K W W' ∧ ∃ q, q <+: xs ∧ Jx (pre ++ q) W')
/-- A listener: a round of the loop that ranges over the words. -/
structure Hear (w0 : World) (own : Nat → Bool) (l N : Nat) (J Jx : List Item → World → Prop) : Prop where
  yields : ∀ pre x W, J pre W → pre.length < N → YieldAt Fence.wide 0 Try.prog l #[x.1.val, .bool x.2] W fun e W' => (e = .returned (.bool true) ∧ J (pre ++ [x]) W' ∧ Kp w0.heap.size own W W') ∨ (e = .returned (.bool false) ∧ Kp w0.heap.size own W W' ∧ Jx (pre ++ [x]) W')
  later : ∀ pre W W', J pre W → Below W.heap.size W W' → J pre W'
  low : ∀ pre W, J pre W → Below w0.heap.size w0 W
  part : own 152 = false

theorem Hear.one {w0 : World} {own : Nat → Bool} {l N : Nat} {J Jx : List Item → World → Prop} (h : Hear w0 own l N J Jx) {pre : List Item} {x : Item} {W : World} (hJ : J pre W) (hN : pre.length < N) :
    ∀ W', Below W.heap.size W W' → YieldAt Fence.wide 0 Try.prog l #[x.1.val, .bool x.2] W' (AndBool (Push J Jx (Kp w0.heap.size own) pre [x] W)) := fun W' hB =>
  YieldAt.mono (h.yields pre x W' (h.later _ _ _ hJ hB) hN) fun e W'' hh => by
    have hk : Kp w0.heap.size own W W' := Kp.of_below hB (h.low _ _ hJ).size
    rcases hh with ⟨rfl, h1, h2⟩ | ⟨rfl, h2, h1⟩
    · exact ⟨⟨_, rfl⟩, .inl ⟨rfl, h1, hk.trans h2⟩⟩
    · exact ⟨⟨_, rfl⟩, .inr ⟨rfl, hk.trans h2, [x], List.prefix_refl _, h1⟩⟩
theorem Push.keeps {n : Nat} {own : Nat → Bool} {J Jx : List Item → World → Prop} {pre xs : List Item} {W : World} {e : Ending} {W' : World} (h : Push J Jx (Kp n own) pre xs W e W') : Kp n own W W' := by
  rcases h with ⟨-, -, h⟩ | ⟨-, h, -⟩ <;> exact h
/-- What a piece that says more must know of its part: it lies as it lay. -/
theorem PartIn.held {w0 W : World} {own : Nat → Bool} {b sb : Nat} {S : Sys} {a : Ask} {d : Int} (h : PartIn w0 W b sb S a d) (h0 : Below w0.heap.size w0 W) (ho : own 152 = false) {J Jx : List Item → World → Prop} {pre xs : List Item} :
    ∀ e W', Push J Jx (Kp w0.heap.size own) pre xs W e W' → Below w0.heap.size w0 W' ∧ ∀ o v, W.cell? ⟨b, o, none⟩ = some v → W'.cell? ⟨b, o, none⟩ = some v := fun _ _ hp =>
  ⟨h0.trans hp.keeps.low, fun _ _ hc => hp.keeps.cell h.2.1 ho hc⟩
/-- To hear from a later world is to hear from this one. -/
theorem Push.from {n : Nat} {own : Nat → Bool} {J Jx : List Item → World → Prop} {pre xs : List Item} {W W1 : World} (hB : Below W.heap.size W W1) (hn : n ≤ W.heap.size) {e : Ending} {W' : World} (h : Push J Jx (Kp n own) pre xs W1 e W') : Push J Jx (Kp n own) pre xs W e W' := by
  have hk : Kp n own W W1 := Kp.of_below hB hn
  rcases h with ⟨h1, h2, h3⟩ | ⟨h1, h2, h3⟩
  · exact .inl ⟨h1, h2, hk.trans h3⟩
  · exact .inr ⟨h1, hk.trans h2, h3⟩
/-- Nothing is said. -/
theorem Push.none {n : Nat} {own : Nat → Bool} {J Jx : List Item → World → Prop} {pre : List Item} {W W' : World} (hB : Below W.heap.size W W') (hn : n ≤ W.heap.size) (hJ : J pre W') : Push J Jx (Kp n own) pre [] W (.returned (.bool true)) W' :=
  .inl ⟨rfl, by simpa using hJ, Kp.of_below hB hn⟩
/-- What comes after what has come. -/
theorem Push.after {n : Nat} {own : Nat → Bool} {J Jx : List Item → World → Prop} {pre xs ys : List Item} {W W1 : World} (hk : Kp n own W W1) {e : Ending} {W' : World} (h : Push J Jx (Kp n own) (pre ++ xs) ys W1 e W') : Push J Jx (Kp n own) pre (xs ++ ys) W e W' := by
  rcases h with ⟨h1, h2, h3⟩ | ⟨h1, h2, q, hq, h3⟩
  · exact .inl ⟨h1, by simpa [List.append_assoc] using h2, hk.trans h3⟩
  · exact .inr ⟨h1, hk.trans h2, xs ++ q, (List.prefix_append_right_inj xs).mpr hq, by simpa [List.append_assoc] using h3⟩
/-- What ends before the rest comes. -/
theorem Push.stop {n : Nat} {own : Nat → Bool} {J Jx : List Item → World → Prop} {pre xs ys : List Item} {W W' : World} (h : Push J Jx (Kp n own) pre xs W (.returned (.bool false)) W') : Push J Jx (Kp n own) pre (xs ++ ys) W (.returned (.bool false)) W' := by
  rcases h with ⟨h1, -⟩ | ⟨-, h2, q, hq, h3⟩
  · cases h1
  · exact .inr ⟨rfl, h2, q, hq.trans (List.prefix_append _ _), h3⟩
end Go.Proofs.Ytfcopnlpcbbocaa
