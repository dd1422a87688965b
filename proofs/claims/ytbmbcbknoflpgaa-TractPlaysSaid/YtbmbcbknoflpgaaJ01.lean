/- Loops over iterators whose contract is told; regions inside a fence. No program is named here. -/
import Derived.Test.YtbmbcbknoflpgaaG0
import Derived.StillTailTactics
import Derived.OrdersIn
import Derived.RangeFuncNested
import Derived.RangeFuncBound
import Derived.RangeFuncCalls
import Derived.RangeFuncLeaves
import Derived.RangeFuncBox
import Derived.OwnWalkIn
import Derived.TacticsInMore
import Derived.Maps.AppendAt
import Derived.Maps.OwnIn
import Derived.LoopNIn
import Derived.LoopIn
import Derived.Shelf.Abstract
import Derived.Test.YtbmbcbknoflpgaaA2
import Derived.Test.YtbmbcbknoflpgaaH4
import Derived.Test.YtbmbcbknoflpgaaI2
set_option linter.unusedSimpArgs false
set_option linter.unusedVariables false
namespace Go.Proofs.Ytbmbcbknoflpgaa
section

open Go.RowKit

section
variable {P : Program} {ops : Array Oper} {md : Region.Mode} {Q : Exit → Act → World → Prop} {m : Nat} {w : World}
/-- An operation that leaves the world alone, at the wide fence. -/
theorem still_in {i : Nat} {a : Act} {K : Act → Prop} {K' : Act → World → Prop} (h : ∀ a, K a → K' a w) (hs : stOp P ops w i K a) : wpOpIn Fence.wide m P ops Q i K' a w := by
  unfold wpOpIn
  unfold stOp at hs
  cases hi : ops[i]? with
  | none => rw [hi] at hs; exact h _ hs
  | some o =>
    rw [hi] at hs
    dsimp only at hs ⊢
    by_cases hw : Region.wanted o (yielded ops a.tmps) = true
    · rw [if_pos hw] at hs ⊢
      refine ⟨fun _ _ => trivial, ?_⟩
      unfold Oper.still at hs
      rw [show Fence.wide.round = none from rfl, Oper.semAt_none]
      generalize (execOp a.eval o).run P w = r at hs ⊢
      cases r with
      | ok x w' =>
        cases x with
        | value v => obtain ⟨e, hk⟩ := hs; subst e; exact h _ hk
        | skip => obtain ⟨e, hk⟩ := hs; subst e; exact h _ hk
        | enter f args =>
          obtain ⟨e, v, hc, hk⟩ := hs
          subst e
          exact ⟨fun hd => by simp [Fence.wide] at hd, callsIn_wide.2 (hc.mono fun e w'' ⟨he, hw''⟩ => by subst he hw''; exact h _ hk)⟩
        | _ => exact hs.elim
      | halt _ _ => exact hs.elim
    · rw [if_neg hw] at hs ⊢
      exact ⟨fun _ _ => trivial, h _ hs⟩
theorem head_in {n g : Nat} {L : Array Bool → Act → Prop} (hL : ∀ listed a, L listed a → wpAnyIn Fence.wide m P md ops Q g listed a w) (f : Nat) :
    ∀ (listed : Array Bool) (a : Act), wpAnyL P md ops w n L f listed a → wpAnyIn Fence.wide m P md ops Q (f + g) listed a w := by
  induction f with
  | zero => intro listed a h; rw [Nat.zero_add]; exact hL _ _ h
  | succ f ih =>
    intro listed a h
    rw [Nat.add_right_comm]
    exact ⟨fun e => (h.1 e).elim, fun i hi => still_in (fun a' => ih _ a') (h.2 i hi).2⟩
theorem seq_in (l : List Oper) : ∀ (k : Nat) (listed : Array Bool) (a : Act) (w : World), (∀ j, l[j]? = ops[k + j]?) → Region.seqB md ops l.length k listed = true →
    wpListIn Fence.wide m P ops Q l a w → wpAnyIn Fence.wide m P md ops Q l.length listed a w := by
  induction l with
  | nil => intro k listed a w _ hB h; exact ⟨by simpa [Region.seqB] using hB, h⟩
  | cons o l ih =>
    intro k listed a w hl hB h
    have ho : ops[k]? = some o := by have := hl 0; simpa using this.symm
    simp only [List.length_cons, Region.seqB, Bool.and_eq_true, decide_eq_true_eq] at hB
    obtain ⟨hr, hB⟩ := hB
    constructor
    · intro e; rw [hr] at e; cases e
    · intro i hi
      rw [hr, List.mem_singleton] at hi
      subst hi
      have hw : wpOpIn Fence.wide m P ops Q i (wpListIn Fence.wide m P ops Q l) a w := by unfold wpOpIn; rw [ho]; exact h
      refine wpOpIn_mono (fun a' w' h' => ih (i + 1) _ a' w' (fun j => ?_) hB h') hw
      have := hl (j + 1)
      rw [List.getElem?_cons_succ] at this
      rw [this, Nat.add_assoc, Nat.add_comm 1 j]
/-- **Reads first, in whatever order; then the rest, one after the other.** -/
theorem region_tail_in {id : Nat} {a : Act} {l : List Oper} (n : Nat) (hm : P.follows .mixedOrders = true) (hB : Region.lexTailB .any l.toArray n = true)
    (h : wpStill P l.toArray { w with drawn := w.drawn + 1 } (fun a' => wpListIn Fence.wide m P l.toArray Q (l.drop n) a' { w with drawn := w.drawn + 1 }) (l.take n) a) : (Code.region id l.toArray true).wp P Q a w := by
  refine wpIn_wide (n := m).1 (wpIn_region_any hm ?_)
  simp only [Region.lexTailB, Bool.and_eq_true, decide_eq_true_eq] at hB
  obtain ⟨⟨⟨⟨h1, h2⟩, h3⟩, h4⟩, h5⟩ := hB
  have hn : n < l.length := by simpa using h2
  have et : (l.take n).length = n := List.length_take_of_le (by omega)
  have ed : (l.drop n).length = l.toArray.size - n := by simp
  have H := wpAnyL_lex (P := P) (md := .any) (w := { w with drawn := w.drawn + 1 }) (g := l.toArray.size - n) h1 h3 h4 h2 (l.take n) 0 (Array.replicate l.toArray.size false) a
    (fun j hj => by rw [et] at hj; simp [hj]) (by omega)
    ⟨by simp, fun j oj _ hl => (by rw [getD_replicate_false] at hl; cases hl), fun t _ ht => getD_in (by simpa using ht) (getD_replicate_false _ _)⟩ (by rw [et]; exact h5) h
  have R := head_in (m := m) (Q := Q) (g := l.toArray.size - n) (fun listed a' hL => by
    have S := seq_in (m := m) (md := .any) (Q := Q) (l.drop n) n listed a' { w with drawn := w.drawn + 1 } (fun j => by simp [List.getElem?_drop]) (by rw [ed]; exact hL.1) hL.2
    rwa [ed] at S) _ _ _ H
  rw [et] at R
  rwa [show n + (l.toArray.size - n) = l.toArray.size by omega] at R
end

theorem room_of_wide (k : Nat) : Fence.wide.room k := room_wide k
theorem round_any {m m' : Nat} {P : Program} {l : Nat} {f : FuncId} {tmps : Array Value} {assign body : Code} {w : World} {R : Ending → World → Prop}
    (h : RoundIn Fence.wide m P l f tmps assign body w R) : RoundIn Fence.wide m' P l f tmps assign body w R := ⟨h.1, fun c cs _ => h.2 c cs (room_wide _)⟩
theorem yield_any {m : Nat} (m' : Nat) {P : Program} {l : Nat} {args : Array Value} {W : World} {R : Ending → World → Prop} (h : YieldAt Fence.wide m P l args W R) : YieldAt Fence.wide m' P l args W R := by
  obtain ⟨fn, tmps, assign, body, hy, hR⟩ := h
  exact ⟨fn, tmps, assign, body, hy, round_any hR⟩
end
section

open Go.RowKit

variable {P : Program} {α : Type}

/-- THE ITERATOR: all of xs come, one by one; or a round says 'no more'. Each round keeps what Kp says. -/
def SaysK (m : Nat) (P : Program) (g : Nat) (lb : Array Value) (encs : α → Array Value) (Kp : World → World → Prop) (xs : List α) (w : World) : Prop :=
  ∀ (l : Nat) (J Jx : List α → World → Prop) (W : World), Below w.heap.size w W → AbidesFrom W.heap.size J →
    (∀ pre x W1, J pre W1 → pre.length < xs.length → YieldAt Fence.wide 0 P l (encs x) W1 fun e W' =>
      (e = .returned (.bool true) ∧ J (pre ++ [x]) W' ∧ Kp W1 W') ∨ (e = .returned (.bool false) ∧ Kp W1 W' ∧ Jx (pre ++ [x]) W')) →
    J [] W →
    CallsIn Fence.wide m P g (#[.func (.yield l) #[] #[]] ++ lb) W fun e W' => (∃ v, e = .returned v) ∧ (J xs W' ∨ ∃ pre, pre <+: xs ∧ Jx pre W')

/-- How the body of a round may be left. -/
def leaves (B : Nat) (Kp : World → World → Prop) (I Ix : List α → World → Prop) (xs : List α) (W : World) : Exit → Act → World → Prop
  | .normal, _, W' => KeepsFrom B W W' ∧ Kp W W' ∧ I xs W'
  | .ret, _, W' => KeepsFrom B W W' ∧ Kp W W' ∧ Ix xs W'
  | _, _, _ => False

/-- **The loop: what the caller owes.** -/
theorem wpIn_range_kept {n : Nat} {g : Operand} {ps : Array Tmp} {assign body : Code} {Q : Exit → Act → World → Prop} {a : Act} {w : World}
    (h1 : 1 ≤ n) {gf : Nat} {lb : Array Value} (hg : a.eval g = .func (.func gf) #[] lb) (eg : ∀ args w, (callFunc gf args).run P w = .ok (.enter gf args) w)
    {encs : α → Array Value} {Kp : World → World → Prop} {ys : List α} {w0 : World} (hseq : SaysK (n - 1) P gf lb encs Kp ys w0)
    (hKt : ∀ {A B C : World}, Kp A B → Kp B C → Kp A C) (hKb : ∀ (W : World) (l : Nat) (o o' : Obj), w.heap.size ≤ l → W.heap[l]? = some o → o.isCells = false → o.isWalk = false → Kp W (W.putObj l o'))
    (hb0 : Below w0.heap.size w0 w) (hps : ∀ x, (encs x).size = ps.size)
    (I Ix : List α → World → Prop) (hI : OwnFrom w.heap.size I) (hIx : OwnFrom w.heap.size Ix) (h0 : I [] w) (Ax : α → Act → World → Prop) (hAx : ∀ x a', OwnFrom w.heap.size (fun (_ : Unit) W => Ax x a' W))
    (hassign : ∀ (l : Nat) (pre : List α) (x : α) (W : World) (K : Act → World → Prop), I pre W → (∀ a' W', KeepsFrom w.heap.size W W' → Kp W W' → I pre W' → Ax x a' W' → K a' W') →
      assign.wpIn (Fence.wide.inRound l) (n - 1 - 1) P (Exit.then K (fun _ _ _ => False)) { tmps := (ps.zip (encs x)).foldl (fun t (p, v) => t.setIfInBounds p v) a.tmps, defers := [] } W)
    (hbody : ∀ (l : Nat) (pre : List α) (x : α) (a' : Act) (W : World), I pre W → Ax x a' W → pre.length < ys.length → body.wpIn (Fence.wide.inRound l) (n - 1 - 1) P (leaves w.heap.size Kp I Ix (pre ++ [x]) W) a' W)
    (hdone : ∀ (D : Nat) (W : World), w.heap.size ≤ D → I ys W → W.heap[D]? = some (.deferred (some [])) → Q .normal { a with defers := { target := .collected D, args := #[] } :: a.defers } W)
    (hstop : ∀ (D : Nat) (pre : List α) (W : World), w.heap.size ≤ D → pre <+: ys → Ix pre W → W.heap[D]? = some (.deferred (some [])) → Code.ret.wpIn Fence.wide n P Q { a with defers := { target := .collected D, args := #[] } :: a.defers } W) :
    (Code.rangeFunc g ps assign body).wpIn Fence.wide n P Q a w := by
  refine wpIn_rangeFunc ?_
  intro fn hfn
  obtain ⟨rec, hrec⟩ : ∃ rec : LoopState → Option Code → Loop, rec = fun st pe => { state := st, pending := pe, fn, tmps := a.tmps, params := ps, assign, body, defers := w.heap.size } := ⟨_, rfl⟩
  obtain ⟨A, hA⟩ : ∃ A, (w.alloc (.deferred (some []))).alloc (.loop (rec .ready none)) = A := ⟨_, rfl⟩
  have sz : w.heap.size ≤ A.heap.size := by rw [← hA]; simp; omega
  have hL : A.heap[w.heap.size + 1]? = some (.loop (rec .ready none)) := by
    have := World.alloc_heap_new (w.alloc (.deferred (some []))) (.loop (rec .ready none))
    rw [World.size_alloc] at this; rw [← hA]; exact this
  have hD : A.heap[w.heap.size]? = some (.deferred (some [])) := by
    rw [← hA]; exact (Below.heap_alloc _ _ _ (by simp)).trans (World.alloc_heap_new w _)
  have hIA : I [] A := by rw [← hA]; exact hI.alloc _ (hI.alloc _ h0)
  have hbA : Below w0.heap.size w0 A := by rw [← hA]; exact bAlloc (bAlloc hb0 _) _
  -- what of the loop's own two blocks is so between two rounds
  let own2 : LoopState → Option Code → World → Prop := fun s c W => W.heap[w.heap.size + 1]? = some (.loop (rec s c)) ∧ W.heap[w.heap.size]? = some (.deferred (some []))
  have hgrow : ∀ s c (X Y : World) (row : Option Nat), own2 s c X → X.grownBy Y row → (∀ r, row = some r → ∃ o : Obj, X.heap[r]? = some o ∧ o.isWalk = true) → own2 s c Y :=
    fun s c X Y row h hgr hr => ⟨(grownBy_keeps hgr hr h.1 rfl).trans h.1, (grownBy_keeps hgr hr h.2 rfl).trans h.2⟩
  refine ⟨w.heap.size + 1, [{ target := .collected w.heap.size, args := #[] }], A, { target := .fn (.func gf) lb, args := #[.func (.yield (w.heap.size + 1)) #[] #[]] }, A, gf,
    #[.func (.yield (w.heap.size + 1)) #[] #[]] ++ lb, A, ?_, ?_, ?_, ?_, fun _ => h1, ?_⟩
  · rw [← hA, hrec]; exact run_enterLoop_outer _ _ _ _ _
  · simp only [resolve, hg]
    simp [go_sem]
  · intro f' hf'; trivial
  · simp [invoke, go_sem, eg]
  refine (hseq (w.heap.size + 1) (fun pre W => I pre W ∧ own2 .ready none W) (fun pre W => Ix pre W ∧ own2 .done (some .ret) W) A hbA ?_ ?_ ⟨hIA, hL, hD⟩).mono ?_
  · intro s X Y row hs hgr hr
    refine ⟨hI s X Y row hs.1 hgr fun r e => ?_, hgrow _ _ X Y row hs.2 hgr fun r e => (hr r e).2⟩
    obtain ⟨hB, o, ho, hw⟩ := hr r e
    exact ⟨by omega, o, ho, Obj.not_cells_of_walk hw⟩
  · rintro pre x W ⟨hi, hl, hk⟩ hlen
    have hlt : w.heap.size + 1 < W.heap.size := (Array.getElem?_eq_some_iff.1 hl).1
    have hy := run_yield (P := P) (args := encs x) hl (by rw [hrec]; exact hps x)
    rw [hrec] at hy
    refine yield_any 0 (m := n - 1 - 1) ⟨fn, _, assign, body, hy, roundIn_of_wpIn hfn (hassign _ pre x W _ hi ?_)⟩
    clear hy
    intro a' V hkf hkp hiV haV
    have hlV := hkf.same _ _ (by omega) hl rfl
    have hkV := hkf.same _ _ (Nat.le_refl _) hk rfl
    have hltV : w.heap.size + 1 < V.heap.size := (Array.getElem?_eq_some_iff.1 hlV).1
    refine ⟨_, run_beginRound hlV (by rw [hrec]), ?_⟩
    have hl2 : (V.putObj (w.heap.size + 1) (.loop { rec .ready none with state := .busy })).heap[w.heap.size + 1]? = some (.loop { rec .ready none with state := .busy }) := World.putObj_heap_same hltV
    have hk2 : (V.putObj (w.heap.size + 1) (.loop { rec .ready none with state := .busy })).heap[w.heap.size]? = some (.deferred (some [])) := (World.putObj_heap_other (by omega)).trans hkV
    have hw2 : Kp V (V.putObj (w.heap.size + 1) (.loop { rec .ready none with state := .busy })) := hKb _ _ _ _ (by omega) hlV rfl rfl
    have fin : ∀ (jump : Option Code) (U : World), KeepsFrom w.heap.size (V.putObj (w.heap.size + 1) (.loop { rec .ready none with state := .busy })) U →
        (Instr.endRound (w.heap.size + 1) jump).run P U = .ok (.bool jump.isNone) (U.putObj (w.heap.size + 1) (.loop (rec (if jump.isNone then .ready else .done) jump))) ∧
        U.heap[w.heap.size + 1]? = some (.loop { rec .ready none with state := .busy }) ∧
        own2 (if jump.isNone then .ready else .done) jump (U.putObj (w.heap.size + 1) (.loop (rec (if jump.isNone then .ready else .done) jump))) := fun jump U hU => by
      have hlU := hU.same _ _ (by omega) hl2 rfl
      refine ⟨?_, hlU, World.putObj_heap_same (Array.getElem?_eq_some_iff.1 hlU).1, (World.putObj_heap_other (by omega)).trans (hU.same _ _ (Nat.le_refl _) hk2 rfl)⟩
      have hr := run_endRound (P := P) jump hlU
      rw [hrec] at hr ⊢
      exact hr
    refine wpIn_mono (hbody _ pre x a' _ (hI.putObj _ hiV (by omega) hlV rfl) ((hAx x a').putObj (s := ()) _ haV (by omega) hlV rfl) hlen) ?_
    rintro e a3 U hp
    cases e with
    | normal =>
      obtain ⟨hkU, hpU, hiU⟩ := hp
      obtain ⟨hr, hlU, hown⟩ := fin none U hkU
      exact ⟨_, _, hr, .inl ⟨rfl, ⟨hI.putObj _ hiU (by omega) hlU rfl, hown⟩, hKt hkp (hKt (hKt hw2 hpU) (hKb _ _ _ _ (by omega) hlU rfl rfl))⟩⟩
    | ret =>
      obtain ⟨hkU, hpU, hiU⟩ := hp
      obtain ⟨hr, hlU, hown⟩ := fin (some .ret) U hkU
      exact ⟨_, _, hr, .inr ⟨rfl, hKt hkp (hKt (hKt hw2 hpU) (hKb _ _ _ _ (by omega) hlU rfl rfl)), hIx.putObj _ hiU (by omega) hlU rfl, hown⟩⟩
    | exit id => exact hp.elim
    | goto t => exact hp.elim
    | panic ch => exact hp.elim
    | outgrown => exact hp.elim
  · rintro e V ⟨⟨v, rfl⟩, (⟨hi, hl, hk⟩ | ⟨pre, hpre, hi, hl, hk⟩)⟩
    · exact ⟨none, _, by have := run_endLoop (P := P) hl (by rw [hrec]; simp); rw [hrec] at this; exact this, hdone _ _ (Nat.le_refl _) (hI.putObj _ hi (by omega) hl rfl) ((World.putObj_heap_other (by omega)).trans hk)⟩
    · exact ⟨some .ret, _, by have := run_endLoop (P := P) hl (by rw [hrec]; simp); rw [hrec] at this; exact this, hstop _ pre _ (Nat.le_refl _) hpre (hIx.putObj _ hi (by omega) hl rfl) ((World.putObj_heap_other (by omega)).trans hk)⟩
end
open Go.RowKit
theorem others_below {W W' : World} (hB : Below W.heap.size W W') : KeepsOthers W W' := ⟨hB.size, fun _ _ hk _ => heap_keep hB hk⟩
theorem Boxed.past {W w1 : World} {n B B' t e size k : Nat} {u v : Value} {xs : List Value} {tmp : Obj} (h : Boxed W B t u) (hte : t ≠ e) (hrow : W.ownsRow n e size v k xs) (hgrow : (W.alloc tmp).grownBy w1 v.ownBlock) (hne : B ≠ B') (u' : Value) :
    Boxed (w1.setCell ⟨B', 0, none⟩ u') B t u := ((h.alloc tmp).kept hgrow (h.not_row hte hrow)).other hne u'
end Go.Proofs.Ytbmbcbknoflpgaa
namespace Go.Proofs.Ytbmbcbknoflpgaa
open Go.RowKit

set_option maxHeartbeats 1000000 in
theorem follow_any (b o : Nat) (x goal speed : Int) (w : World) (hc : w.cell? ⟨b, o, none⟩ = some (.int .i64 x)) (hz : w.frozen? ⟨b, o, none⟩ = false) (hx : 1 ≤ x ∧ x ≤ 1000) (hg : 1 ≤ goal ∧ goal ≤ 1000) (hs : 1 ≤ speed ∧ speed ≤ 1000) :
    Calls Try.prog 111 #[.pointer (some ⟨b, o, none⟩), .int .i64 goal, .int .i64 speed] w fun e w' => e = .returned (.int .i64 (flw x goal speed)) ∧ w' = w.setCell ⟨b, o, none⟩ (.int .i64 (flw x goal speed)) := by
  have HF := Lib.hid (followed_any x goal speed w (by omega) (by omega) hs.1 hs.2)
  have hl := cell_lt hc
  obtain ⟨y, hy⟩ : ∃ y, flw x goal speed = y := ⟨_, rfl⟩
  rw [hy] at HF ⊢
  clear hy
  go_enter Try.func111, Try.ntmps111
  go_wp2_with (go_at_call 73; with_reducible refine Calls.mono HF.out ?_; rintro e w1 ⟨rfl, rfl⟩)
  go_ret
  exact ⟨rfl, rfl⟩
theorem flw_range (x g s : Int) (hx : 1 ≤ x ∧ x ≤ 1000) (hg : 1 ≤ g ∧ g ≤ 1000) (hs : 1 ≤ s ∧ s ≤ 1000) : 1 ≤ flw x g s ∧ flw x g s ≤ 1000 := by
  have h := mvs_in (d := g - x) hs.1 hs.2
  rw [flw_mvs]
  omega
set_option maxRecDepth 10000 in
set_option maxHeartbeats 2000000 in
theorem move_any (b : Nat) (x y goal speed : Int) (t : TypeId) (w : World) (hb : w.heap[b]? = some (.cells #[.int .i64 x, .int .i64 y] t (0, 0))) (hx : 1 ≤ x ∧ x ≤ 1000) (hy : 1 ≤ y ∧ y ≤ 1000) (hg : 1 ≤ goal ∧ goal ≤ 1000) (hs : 1 ≤ speed ∧ speed ≤ 1000) :
    Calls Try.prog 108 #[.pointer (some ⟨b, 0, none⟩), .int .i64 goal, .int .i64 speed] w fun e w' => e = .returned (.int .i64 (flw y (flw x goal speed) speed)) ∧ w.grownBy w' (some b) ∧ w'.heap[b]? = some (.cells #[.int .i64 (flw x goal speed), .int .i64 (flw y (flw x goal speed) speed)] t (0, 0)) := by
  have hp := flw_range x goal speed hx hg hs
  obtain ⟨p, hpp⟩ : ∃ p, flw x goal speed = p := ⟨_, rfl⟩
  have c0 := cell_of_heap (j := 0) hb (show 0 < 2 by omega)
  have c1 := cell_of_heap (j := 1) hb (show 1 < 2 by omega)
  simp at c0 c1
  have z0 := frozen_heap (o := 0) hb
  have h1 := fun (W : World) (hW : W.heap[b]? = some (.cells #[.int .i64 x, .int .i64 y] t (0, 0))) => follow_any b 0 x goal speed W (by have := cell_of_heap (j := 0) hW (show 0 < 2 by omega); simpa using this) (frozen_heap hW) hx hg hs
  have h2 := fun (W : World) (hW : W.heap[b]? = some (.cells #[.int .i64 p, .int .i64 y] t (0, 0))) => follow_any b 1 y p speed W (by have := cell_of_heap (j := 1) hW (show 1 < 2 by omega); simpa using this) (frozen_heap hW) hy (by rw [← hpp]; exact hp) hs
  rw [hpp] at h1 ⊢
  obtain ⟨r, hr⟩ : ∃ r, flw y p speed = r := ⟨_, rfl⟩
  simp only [hr] at h2 ⊢
  have H1 := Lib.hid h1
  have H2 := Lib.hid h2
  have HB := Lib.hid hb
  have HBD : Hid (w.drew.heap[b]? = some (.cells #[.int .i64 x, .int .i64 y] t (0, 0))) := Lib.hid hb
  have hl := cell_lt c0
  have hb2 := heap_setCell_same w b 0 _ _ (.int .i64 p) hb
  simp at hb2
  have hb3 := heap_setCell_same _ b 1 _ _ (.int .i64 r) hb2
  simp at hb3
  have HB2 : Hid ((w.setCell ⟨b, 0, none⟩ (.int .i64 p)).drew.heap[b]? = some (.cells #[.int .i64 p, .int .i64 y] t (0, 0))) := Lib.hid hb2
  have HB3 : Hid (((w.setCell ⟨b, 0, none⟩ (.int .i64 p)).setCell ⟨b, 1, none⟩ (.int .i64 r)).drew.heap[b]? = some (.cells #[.int .i64 p, .int .i64 r] t (0, 0))) := Lib.hid hb3
  clear h1 h2 hb hpp hr hp hx hy hg hs hb2 hb3
  go_enter Try.func108, Try.ntmps108
  go_wp2_with fail
  go_region_held3 (fun _ => True) (trivial) (first
    | (go_at_call 111; with_reducible refine Calls.mono (H1.out _ HBD.out) ?_; rintro e w2 ⟨rfl, rfl⟩)
    | (go_at_call 111; with_reducible refine Calls.mono (H2.out _ HB2.out) ?_; rintro e w3 ⟨rfl, rfl⟩))
  all_goals
    go_wp2_with fail
    go_ret
    exact ⟨rfl, gb_trans (gb_trans (gb_set _ _ _ _) (gb_set _ _ _ _)) (gb_below (Below.drew (Below.refl _ _)) _), HB3.out⟩
end Go.Proofs.Ytbmbcbknoflpgaa
