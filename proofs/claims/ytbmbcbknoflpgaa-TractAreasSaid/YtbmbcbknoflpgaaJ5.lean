/- Loops over an iterator that has a state of its own: walls. -/
import Derived.Test.YtbmbcbknoflpgaaJ4
set_option linter.unusedSimpArgs false
set_option linter.unusedVariables false
namespace Go.Proofs.Ytbmbcbknoflpgaa
open Go.RowKit

/-- What an iterator with walls does between its rounds: nothing but walls turns, and those above B alone. -/
structure Stp (B : Nat) (W W' : World) : Prop where
  os : W'.os = W.os
  tape : W'.tape = W.tape
  output : W'.output = W.output
  size : W.heap.size ≤ W'.heap.size
  low : ∀ k, k < B → k < W.heap.size → W'.heap[k]? = W.heap[k]?
  same : ∀ (k : Nat) (o : Obj), W.heap[k]? = some o → (∀ (cs : Array Value) (u : Nat × Nat), o ≠ Obj.cells cs 169 u) → W'.heap[k]? = some o
theorem Stp.mono {B B2 : Nat} {W W' : World} (h : Stp B W W') (hb : B2 ≤ B) : Stp B2 W W' := ⟨h.1, h.2, h.3, h.4, fun k hk => h.5 k (by omega), h.6⟩
theorem Stp.refl (B : Nat) (W : World) : Stp B W W := ⟨rfl, rfl, rfl, Nat.le_refl _, fun _ _ _ => rfl, fun _ _ h _ => h⟩
theorem Stp.trans {B : Nat} {X Y Z : World} (h : Stp B X Y) (k : Stp B Y Z) : Stp B X Z :=
  ⟨k.1.trans h.1, k.2.trans h.2, k.3.trans h.3, Nat.le_trans h.4 k.4, fun i hi hx => (k.5 i hi (Nat.lt_of_lt_of_le hx h.4)).trans (h.5 i hi hx), fun i o hi ho => k.6 i o (h.6 i o hi ho) ho⟩
theorem Stp.of_below {B : Nat} {W W' : World} (h : Below W.heap.size W W') : Stp B W W' :=
  ⟨h.os, h.tape, h.output, h.size, fun k _ hk => h.block k hk, fun k o hk _ => heap_keep h hk⟩
theorem Stp.of_wall {B b : Nat} {W W' : World} {cs : Array Value} (h : W.grownBy W' (some b)) (hb : B ≤ b) (hc : W.heap[b]? = some (.cells cs 169 (0, 0))) : Stp B W W' :=
  ⟨h.os, h.tape, h.output, h.size, fun k hk hx => h.block k hx (fun e => by cases e; omega), fun k o hk ho => (h.block k (Array.getElem?_eq_some_iff.1 hk).1 (fun e => by cases e; rw [hc] at hk; cases hk; exact ho _ _ rfl)).trans hk⟩
theorem Stp.below {B n : Nat} {w W W' : World} (h : Stp B W W') (hb : Below n w W) (hn : n ≤ B) (hs : n ≤ W.heap.size) : Below n w W' :=
  ⟨h.os.trans hb.os, h.tape.trans hb.tape, h.output.trans hb.output, Nat.le_trans hb.size h.size, fun k hk => (h.low k (by omega) (by omega)).trans (hb.block k hk)⟩
/-- THE ITERATOR: so many rounds, each with its number and a value. -/
def SaysM (m : Nat) (P : Program) (g : Nat) (lb : Array Value) (T : Nat) (V : Nat → Value → World → Prop) (Kp : World → World → Prop) (w : World) : Prop :=
  ∀ (l : Nat) (J : Nat → World → Prop) (W : World), Below w.heap.size w W → (∀ t X Y, J t X → Stp W.heap.size X Y → J t Y) →
    (∀ t v W1, t < T → J t W1 → V t v W1 → YieldAt Fence.wide 0 P l #[.int .i64 (t : Int), v] W1 fun e W' => e = .returned (.bool true) ∧ J (t + 1) W' ∧ Kp W1 W') →
    J 0 W →
    CallsIn Fence.wide m P g (#[.func (.yield l) #[] #[]] ++ lb) W fun e W' => (∃ v, e = .returned v) ∧ J T W'
def leavesM (B : Nat) (Kp : World → World → Prop) (I : World → Prop) (W : World) : Exit → Act → World → Prop
  | .normal, _, W' => KeepsFrom B W W' ∧ Kp W W' ∧ I W'
  | _, _, _ => False
theorem wpIn_range_m {P : Program} {n : Nat} {g : Operand} {ps : Array Tmp} {assign body : Code} {Q : Exit → Act → World → Prop} {a : Act} {w : World}
    (h1 : 1 ≤ n) {gf : Nat} {lb : Array Value} (hg : a.eval g = .func (.func gf) #[] lb) (eg : ∀ args w, (callFunc gf args).run P w = .ok (.enter gf args) w)
    {T : Nat} {V : Nat → Value → World → Prop} {Kp : World → World → Prop} {w0 : World} (hseq : SaysM (n - 1) P gf lb T V Kp w0)
    (hKt : ∀ {A B C : World}, Kp A B → Kp B C → Kp A C) (hKb : ∀ (W : World) (l : Nat) (o o' : Obj), w.heap.size ≤ l → W.heap[l]? = some o → o.isCells = false → o.isWalk = false → Kp W (W.putObj l o'))
    (hb0 : Below w0.heap.size w0 w) (hps : ps.size = 2)
    (I : Nat → World → Prop) (hI : OwnFrom w.heap.size I) (hIm : ∀ t A B, I t A → Stp w.heap.size A B → I t B) (h0 : I 0 w) (Ax : Nat × Value → Act → World → Prop) (hAx : ∀ x a', OwnFrom w.heap.size (fun (_ : Unit) W => Ax x a' W))
    (hassign : ∀ (l : Nat) (t : Nat) (v : Value) (W : World) (K : Act → World → Prop), t < T → I t W → V t v W → (∀ a' W', KeepsFrom w.heap.size W W' → Kp W W' → I t W' → Ax (t, v) a' W' → K a' W') →
      assign.wpIn (Fence.wide.inRound l) (n - 1 - 1) P (Exit.then K (fun _ _ _ => False)) { tmps := (ps.zip #[Value.int .i64 (t : Int), v]).foldl (fun t (p, v) => t.setIfInBounds p v) a.tmps, defers := [] } W)
    (hbody : ∀ (l : Nat) (t : Nat) (v : Value) (a' : Act) (W : World), I t W → Ax (t, v) a' W → t < T → body.wpIn (Fence.wide.inRound l) (n - 1 - 1) P (leavesM w.heap.size Kp (I (t + 1)) W) a' W)
    (hdone : ∀ (D : Nat) (W : World), w.heap.size ≤ D → I T W → W.heap[D]? = some (.deferred (some [])) → Q .normal { a with defers := { target := .collected D, args := #[] } :: a.defers } W) :
    (Code.rangeFunc g ps assign body).wpIn Fence.wide n P Q a w := by
  refine wpIn_rangeFunc ?_
  intro fn hfn
  obtain ⟨rec, hrec⟩ : ∃ rec : LoopState → Option Code → Loop, rec = fun st pe => { state := st, pending := pe, fn, tmps := a.tmps, params := ps, assign, body, defers := w.heap.size } := ⟨_, rfl⟩
  obtain ⟨A, hA⟩ : ∃ A, (w.alloc (.deferred (some []))).alloc (.loop (rec .ready none)) = A := ⟨_, rfl⟩
  have sz : w.heap.size ≤ A.heap.size := by rw [← hA]; simp; omega
  have hL : A.heap[w.heap.size + 1]? = some (.loop (rec .ready none)) := by
    have := World.alloc_heap_new (w.alloc (.deferred (some []))) (.loop (rec .ready none))
    rw [World.size_alloc] at this; rw [← hA]; exact this
  have hD : A.heap[w.heap.size]? = some (.deferred (some [])) := by
    rw [← hA]; exact (Below.heap_alloc _ _ _ (by simp)).trans (World.alloc_heap_new w _)
  have hIA : I 0 A := by rw [← hA]; exact hI.alloc _ (hI.alloc _ h0)
  have hbA : Below w0.heap.size w0 A := by rw [← hA]; exact bAlloc (bAlloc hb0 _) _
  -- what of the loop's own two blocks is so between two rounds
  let own2 : LoopState → Option Code → World → Prop := fun s c W => W.heap[w.heap.size + 1]? = some (.loop (rec s c)) ∧ W.heap[w.heap.size]? = some (.deferred (some []))
  have hgrow : ∀ s c (X Y : World) (row : Option Nat), own2 s c X → X.grownBy Y row → (∀ r, row = some r → ∃ o : Obj, X.heap[r]? = some o ∧ o.isWalk = true) → own2 s c Y :=
    fun s c X Y row h hgr hr => ⟨(grownBy_keeps hgr hr h.1 rfl).trans h.1, (grownBy_keeps hgr hr h.2 rfl).trans h.2⟩
  refine ⟨w.heap.size + 1, [{ target := .collected w.heap.size, args := #[] }], A, { target := .fn (.func gf) lb, args := #[.func (.yield (w.heap.size + 1)) #[] #[]] }, A, gf,
    #[.func (.yield (w.heap.size + 1)) #[] #[]] ++ lb, A, ?_, ?_, ?_, ?_, fun _ => h1, ?_⟩
  · rw [← hA, hrec]; exact run_enterLoop_outer _ _ _ _ _
  · simp only [resolve, hg]
    simp [go_sem]
  · intro f' hf'; trivial
  · simp [invoke, go_sem, eg]
  refine (hseq (w.heap.size + 1) (fun t W => I t W ∧ own2 .ready none W) A hbA ?_ ?_ ⟨hIA, hL, hD⟩).mono ?_
  · intro t X Y hs hst
    exact ⟨hIm t X Y hs.1 (hst.mono sz), hst.same _ _ hs.2.1 (fun _ _ e => by cases e), hst.same _ _ hs.2.2 (fun _ _ e => by cases e)⟩
  · rintro t v W hlen ⟨hi, hl, hk⟩ hv
    have hlt : w.heap.size + 1 < W.heap.size := (Array.getElem?_eq_some_iff.1 hl).1
    have hy := run_yield (P := P) (args := #[Value.int .i64 (t : Int), v]) hl (by rw [hrec]; exact hps.symm)
    rw [hrec] at hy
    refine yield_any 0 (m := n - 1 - 1) ⟨fn, _, assign, body, hy, roundIn_of_wpIn hfn (hassign _ t v W _ hlen hi hv ?_)⟩
    clear hy
    intro a' V hkf hkp hiV haV
    have hlV := hkf.same _ _ (by omega) hl rfl
    have hkV := hkf.same _ _ (Nat.le_refl _) hk rfl
    have hltV : w.heap.size + 1 < V.heap.size := (Array.getElem?_eq_some_iff.1 hlV).1
    refine ⟨_, run_beginRound hlV (by rw [hrec]), ?_⟩
    have hl2 : (V.putObj (w.heap.size + 1) (.loop { rec .ready none with state := .busy })).heap[w.heap.size + 1]? = some (.loop { rec .ready none with state := .busy }) := World.putObj_heap_same hltV
    have hk2 : (V.putObj (w.heap.size + 1) (.loop { rec .ready none with state := .busy })).heap[w.heap.size]? = some (.deferred (some [])) := (World.putObj_heap_other (by omega)).trans hkV
    have hw2 : Kp V (V.putObj (w.heap.size + 1) (.loop { rec .ready none with state := .busy })) := hKb _ _ _ _ (by omega) hlV rfl rfl
    have fin : ∀ (jump : Option Code) (U : World), KeepsFrom w.heap.size (V.putObj (w.heap.size + 1) (.loop { rec .ready none with state := .busy })) U →
        (Instr.endRound (w.heap.size + 1) jump).run P U = .ok (.bool jump.isNone) (U.putObj (w.heap.size + 1) (.loop (rec (if jump.isNone then .ready else .done) jump))) ∧
        U.heap[w.heap.size + 1]? = some (.loop { rec .ready none with state := .busy }) ∧
        own2 (if jump.isNone then .ready else .done) jump (U.putObj (w.heap.size + 1) (.loop (rec (if jump.isNone then .ready else .done) jump))) := fun jump U hU => by
      have hlU := hU.same _ _ (by omega) hl2 rfl
      refine ⟨?_, hlU, World.putObj_heap_same (Array.getElem?_eq_some_iff.1 hlU).1, (World.putObj_heap_other (by omega)).trans (hU.same _ _ (Nat.le_refl _) hk2 rfl)⟩
      have hr := run_endRound (P := P) jump hlU
      rw [hrec] at hr ⊢
      exact hr
    refine wpIn_mono (hbody _ t v a' _ (hI.putObj _ hiV (by omega) hlV rfl) ((hAx (t, v) a').putObj (s := ()) _ haV (by omega) hlV rfl) hlen) ?_
    rintro e a3 U hp
    cases e with
    | normal =>
      obtain ⟨hkU, hpU, hiU⟩ := hp
      obtain ⟨hr, hlU, hown⟩ := fin none U hkU
      exact ⟨_, _, hr, rfl, ⟨hI.putObj _ hiU (by omega) hlU rfl, hown⟩, hKt hkp (hKt (hKt hw2 hpU) (hKb _ _ _ _ (by omega) hlU rfl rfl))⟩
    | ret => exact hp.elim
    | exit id => exact hp.elim
    | goto t => exact hp.elim
    | panic ch => exact hp.elim
    | outgrown => exact hp.elim
  · rintro e V ⟨⟨v, rfl⟩, hi, hl, hk⟩
    exact ⟨none, _, by have := run_endLoop (P := P) hl (by rw [hrec]; simp); rw [hrec] at this; exact this, hdone _ _ (Nat.le_refl _) (hI.putObj _ hi (by omega) hl rfl) ((World.putObj_heap_other (by omega)).trans hk)⟩

end Go.Proofs.Ytbmbcbknoflpgaa
