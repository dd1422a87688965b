/- Contracts: a number is said, piece by piece, to a listener. -/
import Derived.Test.YtfcopnlpcbbocaaE1
import Derived.Test.YtfcopnlpcbbocaaD5
import Derived.Test.YtfcopnlpcbbocaaP1
set_option linter.unusedSimpArgs false
set_option linter.unusedVariables false
namespace Go.Proofs.Ytfcopnlpcbbocaa
open Go.RowKit
attribute [local go_sem] Oper.semAt_some

/-- What a round of the loop keeps: what lay below n, and each block of cells whose type is none of its own. -/
structure Kp (n : Nat) (own : Nat → Bool) (W W' : World) : Prop where
  low : Below n W W'
  cells : ∀ (k : Nat) c t fr, W.heap[k]? = some (Obj.cells c t fr) → own t = false → W'.heap[k]? = some (Obj.cells c t fr)
theorem Kp.refl (n : Nat) (own : Nat → Bool) (W : World) : Kp n own W W := ⟨Below.refl _ _, fun _ _ _ _ h _ => h⟩
theorem Kp.trans {n : Nat} {own : Nat → Bool} {A B C : World} (h : Kp n own A B) (k : Kp n own B C) : Kp n own A C :=
  ⟨h.low.trans k.low, fun i c t fr hi ho => k.cells i c t fr (h.cells i c t fr hi ho) ho⟩
theorem Kp.of_below {n : Nat} {own : Nat → Bool} {W W' : World} (h : Below W.heap.size W W') (hn : n ≤ W.heap.size) : Kp n own W W' :=
  ⟨h.mono hn, fun _ _ _ _ hi _ => heap_keep h hi⟩
theorem Kp.cell {n : Nat} {own : Nat → Bool} {W W' : World} (h : Kp n own W W') {b o t : Nat} {v : Value} (ht : TypAt W b t) (ho : own t = false) (hc : W.cell? ⟨b, o, none⟩ = some v) : W'.cell? ⟨b, o, none⟩ = some v := by
  obtain ⟨c, fr, hb⟩ := ht
  have := h.cells b c t fr hb ho
  simp only [World.cell?, hb] at hc
  simp only [World.cell?, this]
  exact hc
theorem Kp.typ {n : Nat} {own : Nat → Bool} {W W' : World} (h : Kp n own W W') {b t : Nat} (ht : TypAt W b t) (ho : own t = false) : TypAt W' b t := by
  obtain ⟨c, fr, hb⟩ := ht
  exact ⟨c, fr, h.cells b c t fr hb ho⟩
theorem TypAt.keep {W W' : World} {b t : Nat} (h : TypAt W b t) (hB : Below W.heap.size W W') : TypAt W' b t := let ⟨c, fr, hb⟩ := h; ⟨c, fr, heap_keep hB hb⟩

/-- A part whose pieces lie in what was there before the loop. -/
def PartIn (w0 W : World) (b sb : Nat) (S : Sys) (a : Ask) (d : Int) : Prop :=
  PartAt W b sb S a d ∧ TypAt W b 152 ∧ ∃ v, W.cell? ⟨b, 8, none⟩ = some v ∧ SliceV w0 v 4 PceAt (ruleOf S a).pieces
theorem PartIn.kp {w0 W W' : World} {own : Nat → Bool} {b sb : Nat} {S : Sys} {a : Ask} {d : Int} (h : PartIn w0 W b sb S a d) (hk : Kp w0.heap.size own W W') (h0 : Below w0.heap.size w0 W) (ho : own 152 = false) : PartIn w0 W' b sb S a d := by
  obtain ⟨⟨q0, q1, q2, q3, q4, q5, q6, q7, ⟨v, q8, hv⟩, q9, q10, q11⟩, ht, v', c8, hs⟩ := h
  have e : v' = v := by rw [q8] at c8; exact (Option.some.inj c8).symm
  subst e
  exact ⟨⟨hk.cell ht ho q0, hk.cell ht ho q1, hk.cell ht ho q2, hk.cell ht ho q3, hk.cell ht ho q4, hk.cell ht ho q5, hk.cell ht ho q6, hk.cell ht ho q7, ⟨_, hk.cell ht ho q8, hs.keep PceAt.stable (h0.trans hk.low)⟩, hk.cell ht ho q9, hk.cell ht ho q10, hk.cell ht ho q11⟩, hk.typ ht ho, _, hk.cell ht ho q8, hs⟩

/-- All of the items have come; or a round has said 'no more'. -/
def Push (J Jx : List Item → World → Prop) (K : World → World → Prop) (pre xs : List Item) (W : World) (e : Ending) (W' : World) : Prop :=
  (e = .returned (.bool true) ∧ J (pre ++ xs) W' ∧ K W W') ∨ (e = .returned (.bool false) ∧ K W W' ∧ ∃ q, q <+: xs ∧ Jx (pre ++ q) W')
/-- A listener: a round of the loop that ranges over the words. -/
structure Hear (w0 : World) (own : Nat → Bool) (l N : Nat) (J Jx : List Item → World → Prop) : Prop where
  yields : ∀ pre x W, J pre W → pre.length < N → YieldAt Fence.wide 0 Try.prog l #[x.1.val, .bool x.2] W fun e W' => (e = .returned (.bool true) ∧ J (pre ++ [x]) W' ∧ Kp w0.heap.size own W W') ∨ (e = .returned (.bool false) ∧ Kp w0.heap.size own W W' ∧ Jx (pre ++ [x]) W')
  later : ∀ pre W W', J pre W → Below W.heap.size W W' → J pre W'
  low : ∀ pre W, J pre W → Below w0.heap.size w0 W
  part : own 152 = false

theorem Hear.one {w0 : World} {own : Nat → Bool} {l N : Nat} {J Jx : List Item → World → Prop} (h : Hear w0 own l N J Jx) {pre : List Item} {x : Item} {W : World} (hJ : J pre W) (hN : pre.length < N) :
    ∀ W', Below W.heap.size W W' → YieldAt Fence.wide 0 Try.prog l #[x.1.val, .bool x.2] W' (AndBool (Push J Jx (Kp w0.heap.size own) pre [x] W)) := fun W' hB =>
  YieldAt.mono (h.yields pre x W' (h.later _ _ _ hJ hB) hN) fun e W'' hh => by
    have hk : Kp w0.heap.size own W W' := Kp.of_below hB (h.low _ _ hJ).size
    rcases hh with ⟨rfl, h1, h2⟩ | ⟨rfl, h2, h1⟩
    · exact ⟨⟨_, rfl⟩, .inl ⟨rfl, h1, hk.trans h2⟩⟩
    · exact ⟨⟨_, rfl⟩, .inr ⟨rfl, hk.trans h2, [x], List.prefix_refl _, h1⟩⟩
theorem Push.keeps {n : Nat} {own : Nat → Bool} {J Jx : List Item → World → Prop} {pre xs : List Item} {W : World} {e : Ending} {W' : World} (h : Push J Jx (Kp n own) pre xs W e W') : Kp n own W W' := by
  rcases h with ⟨-, -, h⟩ | ⟨-, h, -⟩ <;> exact h
/-- What a piece that says more must know of its part: it lies as it lay. -/
theorem PartIn.held {w0 W : World} {own : Nat → Bool} {b sb : Nat} {S : Sys} {a : Ask} {d : Int} (h : PartIn w0 W b sb S a d) (h0 : Below w0.heap.size w0 W) (ho : own 152 = false) {J Jx : List Item → World → Prop} {pre xs : List Item} :
    ∀ e W', Push J Jx (Kp w0.heap.size own) pre xs W e W' → Below w0.heap.size w0 W' ∧ ∀ o v, W.cell? ⟨b, o, none⟩ = some v → W'.cell? ⟨b, o, none⟩ = some v := fun _ _ hp =>
  ⟨h0.trans hp.keeps.low, fun _ _ hc => hp.keeps.cell h.2.1 ho hc⟩
/-- To hear from a later world is to hear from this one. -/
theorem Push.from {n : Nat} {own : Nat → Bool} {J Jx : List Item → World → Prop} {pre xs : List Item} {W W1 : World} (hB : Below W.heap.size W W1) (hn : n ≤ W.heap.size) {e : Ending} {W' : World} (h : Push J Jx (Kp n own) pre xs W1 e W') : Push J Jx (Kp n own) pre xs W e W' := by
  have hk : Kp n own W W1 := Kp.of_below hB hn
  rcases h with ⟨h1, h2, h3⟩ | ⟨h1, h2, h3⟩
  · exact .inl ⟨h1, h2, hk.trans h3⟩
  · exact .inr ⟨h1, hk.trans h2, h3⟩
/-- Nothing is said. -/
theorem Push.none {n : Nat} {own : Nat → Bool} {J Jx : List Item → World → Prop} {pre : List Item} {W W' : World} (hB : Below W.heap.size W W') (hn : n ≤ W.heap.size) (hJ : J pre W') : Push J Jx (Kp n own) pre [] W (.returned (.bool true)) W' :=
  .inl ⟨rfl, by simpa using hJ, Kp.of_below hB hn⟩
/-- What comes after what has come. -/
theorem Push.after {n : Nat} {own : Nat → Bool} {J Jx : List Item → World → Prop} {pre xs ys : List Item} {W W1 : World} (hk : Kp n own W W1) {e : Ending} {W' : World} (h : Push J Jx (Kp n own) (pre ++ xs) ys W1 e W') : Push J Jx (Kp n own) pre (xs ++ ys) W e W' := by
  rcases h with ⟨h1, h2, h3⟩ | ⟨h1, h2, q, hq, h3⟩
  · exact .inl ⟨h1, by simpa [List.append_assoc] using h2, hk.trans h3⟩
  · exact .inr ⟨h1, hk.trans h2, xs ++ q, (List.prefix_append_right_inj xs).mpr hq, by simpa [List.append_assoc] using h3⟩
/-- What ends before the rest comes. -/
theorem Push.stop {n : Nat} {own : Nat → Bool} {J Jx : List Item → World → Prop} {pre xs ys : List Item} {W W' : World} (h : Push J Jx (Kp n own) pre xs W (.returned (.bool false)) W') : Push J Jx (Kp n own) pre (xs ++ ys) W (.returned (.bool false)) W' := by
  rcases h with ⟨h1, -⟩ | ⟨-, h2, q, hq, h3⟩
  · cases h1
  · exact .inr ⟨rfl, h2, q, hq.trans (List.prefix_append _ _), h3⟩
end Go.Proofs.Ytfcopnlpcbbocaa
/- Contracts: what a piece says, where it is a rest or a quotient. -/
namespace Go.Proofs.Ytfcopnlpcbbocaa
open Go.RowKit
attribute [local go_sem] Oper.semAt_some

set_option maxRecDepth 100000 in
set_option maxHeartbeats 4000000 in
theorem sayRest_any (S : Sys) (a : Ask) (d : Int) (b sb l i : Nat) (pc : Pce) (w0 W : World) (R : Ending → World → Prop) (hp : PartIn w0 W b sb S a d) (hB0 : Below w0.heap.size w0 W)
    (hi : i < (ruleOf S a).pieces.length) (hpc : (ruleOf S a).pieces[i] = pc) (hd : IntKind.i64.wrap (d + 1) = d + 1)
    (hno : rst (ruleOf S a) a.num = 0 → ∀ W', Below W.heap.size W W' → R (.returned (.bool true)) W')
    (hK : ∀ e W', R e W' → Below w0.heap.size w0 W' ∧ ∀ o v, W.cell? ⟨b, o, none⟩ = some v → W'.cell? ⟨b, o, none⟩ = some v)
    (hY : rst (ruleOf S a) a.num ≠ 0 → ∀ W', Below W.heap.size W W' → Calls Try.prog 94 #[.pointer (some ⟨sb, 0, none⟩), (askRst S a pc.set).val, .int .i64 (d + 1), .func (.yield l) #[] #[]] W' (AndBool R)) :
    Calls Try.prog 73 #[.pointer (some ⟨b, 0, none⟩), .int .i64 i, .func (.yield l) #[] #[]] W (AndBool R) := by
  have HY := Lib.hid hY
  have HN := Lib.hid hno
  have HPC := Lib.hid hpc
  have HK := Lib.hid hK
  obtain ⟨⟨q0, q1, q2, q3, q4, q5, q6, q7, -, q9, q10, q11⟩, -, v, q8, hv⟩ := hp
  obtain ⟨pa, pcap, rfl, hpl, hy⟩ := hv
  unfold most at hpl
  rcases hy with hnil | ⟨pb, po, rfl, hpp⟩
  · simp [hnil] at hi
  obtain ⟨-, -, z2, -⟩ := hpp i hi
  rw [HPC.out] at z2
  have p2 := keep hB0 z2
  have hb := cell_lt q0
  have hpb := cell_lt p2
  have hi0 : (0 : Int) ≤ (i : Int) := by omega
  have hi1 : (i : Int) < ((ruleOf S a).pieces.length : Int) := by omega
  have hi2 : ((i : Int)).toNat = i := by omega
  clear hY hpc hno hpp hK
  by_cases h0 : rst (ruleOf S a) a.num = 0
  · have h0' : (rst (ruleOf S a) a.num == 0) = true := by simp [h0]
    have H0 := Lib.hid h0
    clear h0
    go_enter Try.func73, Try.ntmps73
    go_wp2_with fail
    refine wp_opaque fun Q2 hQ2 => ?_
    (refine wp_region_below (by kernel_rfl) (by kernel_rfl) ?_; (repeat (first | go_big_quiet_step (fail) | quiet_step (fail))); (refine wpQuiet_nil ?_; intro _ hw'; obtain ⟨xq, hw''⟩ := hw'; subst hw''))
    refine hQ2 _ _ _ ?_
    go_wp2_with fail
    go_ret
    exact ⟨⟨_, rfl⟩, HN.out H0.out _ xq.2⟩
  have h0' : (rst (ruleOf S a) a.num == 0) = false := by simp [h0]
  have h94 := HY.out h0
  have HK2 : ∀ e W', R e W' → (W'.cell? ⟨b, 11, none⟩ = some (.int .i64 d) ∧ W'.cell? ⟨b, 0, none⟩ = some (.pointer (some ⟨sb, 0, none⟩)) ∧ W'.cell? ⟨b, 10, none⟩ = some (.int .i64 (rst (ruleOf S a) a.num)) ∧ W'.cell? ⟨b, 8, none⟩ = some (.slice (some ⟨pb, po, none⟩) (ruleOf S a).pieces.length pcap) ∧ W'.cell? ⟨pb, po + i * 4 + 2, none⟩ = some (.int .i64 pc.set)) :=
    fun e W' h => ⟨(HK.out e W' h).2 _ _ q11, (HK.out e W' h).2 _ _ q0, (HK.out e W' h).2 _ _ q10, (HK.out e W' h).2 _ _ q8, keep (HK.out e W' h).1 z2⟩
  have HK1 : ∀ W', Below W.heap.size W W' → (W'.cell? ⟨b, 11, none⟩ = some (.int .i64 d) ∧ W'.cell? ⟨b, 0, none⟩ = some (.pointer (some ⟨sb, 0, none⟩)) ∧ W'.cell? ⟨b, 10, none⟩ = some (.int .i64 (rst (ruleOf S a) a.num)) ∧ W'.cell? ⟨b, 8, none⟩ = some (.slice (some ⟨pb, po, none⟩) (ruleOf S a).pieces.length pcap) ∧ W'.cell? ⟨pb, po + i * 4 + 2, none⟩ = some (.int .i64 pc.set)) :=
    fun W' h => ⟨keep h q11, keep h q0, keep h q10, keep h q8, keep h p2⟩
  clear h0
  go_enter Try.func73, Try.ntmps73
  go_wp2_with fail
  refine wp_opaque fun Q2 hQ2 => ?_
  have h90 : ∀ W', Below W.heap.size W W' → Calls Try.prog 90 #[.pointer (some ⟨b, 0, none⟩), .int .i64 pc.set] W' fun e w' => e = .returned (askRst S a pc.set).val ∧ Below W'.heap.size W' w' :=
    fun W' hB => askRest_any a.gen a.kas (rst (ruleOf S a) a.num) pc.set b W' (keep hB q10) (keep hB q3) (keep hB q4)
  go_region_held3 (fun w' => w'.cell? ⟨b, 11, none⟩ = some (.int .i64 d) ∧ w'.cell? ⟨b, 0, none⟩ = some (.pointer (some ⟨sb, 0, none⟩)) ∧ w'.cell? ⟨b, 10, none⟩ = some (.int .i64 (rst (ruleOf S a) a.num)) ∧ w'.cell? ⟨b, 8, none⟩ = some (.slice (some ⟨pb, po, none⟩) (ruleOf S a).pieces.length pcap) ∧ w'.cell? ⟨pb, po + i * 4 + 2, none⟩ = some (.int .i64 pc.set)) (((try dsimp only); first | exact HK2 _ _ hr | exact HK1 _ (by (repeat (first | exact Below.refl _ _ | refine Below.drew ?_ | refine bAlloc ?_ _ | refine Below.setCell ?_ (by simp) _ | refine bThen ?_ hb1))))) (first | (go_at_call 90; refine (h90 _ (by (repeat (first | exact Below.refl _ _ | refine Below.drew ?_ | refine bAlloc ?_ _ | refine Below.setCell ?_ (by simp) _ | refine bThen ?_ hb1)))).mono ?_; rintro e w1 ⟨rfl, hb1⟩; obtain ⟨hc, hf⟩ := bcell hb1) | (go_at_call 94; refine (h94 _ (by (repeat (first | exact Below.refl _ _ | refine Below.drew ?_ | refine bAlloc ?_ _ | refine Below.setCell ?_ (by simp) _ | refine bThen ?_ hb1)))).mono ?_; rintro e w2 ⟨⟨t, rfl⟩, hr⟩))
  refine hQ2 _ _ _ ?_
  go_wp2_with fail
  go_ret
  exact ⟨⟨t, rfl⟩, hr⟩
set_option maxRecDepth 100000 in
set_option maxHeartbeats 4000000 in
theorem sayQuotient_any (S : Sys) (a : Ask) (d : Int) (b sb l i : Nat) (pc : Pce) (w0 W : World) (R : Ending → World → Prop) (hp : PartIn w0 W b sb S a d) (hB0 : Below w0.heap.size w0 W) (hs : SplAt W sb S)
    (hi : i < (ruleOf S a).pieces.length) (hpc : (ruleOf S a).pieces[i] = pc) (hd : IntKind.i64.wrap (d + 1) = d + 1)
    (hterm : ∀ i (h : i < (ruleOf S a).pieces.length), (ruleOf S a).pieces[i].kind = 2 → 0 ≤ (ruleOf S a).pieces[i].term ∧ (ruleOf S a).pieces[i].term < S.terms.length)
    (hK : ∀ e W', R e W' → Below w0.heap.size w0 W' ∧ ∀ o v, W.cell? ⟨b, o, none⟩ = some v → W'.cell? ⟨b, o, none⟩ = some v)
    (h94 : ∀ W', Below W.heap.size W W' → Calls Try.prog 94 #[.pointer (some ⟨sb, 0, none⟩), (askQuo S a pc.set).val, .int .i64 (d + 1), .func (.yield l) #[] #[]] W' (AndBool R)) :
    Calls Try.prog 72 #[.pointer (some ⟨b, 0, none⟩), .int .i64 i, .func (.yield l) #[] #[]] W (AndBool R) := by
  have HPC := Lib.hid hpc
  have HK := Lib.hid hK
  obtain ⟨⟨q0, q1, q2, q3, q4, q5, q6, q7, -, q9, q10, q11⟩, -, v, q8, hv⟩ := hp
  have HV := Lib.hid (hv.keep PceAt.stable hB0)
  have HS := Lib.hid hs
  have HT := Lib.hid hterm
  obtain ⟨pa, pcap, rfl, hpl, hy⟩ := hv
  unfold most at hpl
  rcases hy with hnil | ⟨pb, po, rfl, hpp⟩
  · simp [hnil] at hi
  obtain ⟨-, -, z2, -⟩ := hpp i hi
  rw [HPC.out] at z2
  have p2 := keep hB0 z2
  have hb := cell_lt q0
  have hpb := cell_lt p2
  have hi0 : (0 : Int) ≤ (i : Int) := by omega
  have hi1 : (i : Int) < ((ruleOf S a).pieces.length : Int) := by omega
  have hi2 : ((i : Int)).toNat = i := by omega
  clear hpc hpp hK hs hterm
  have HK2 : ∀ e W', R e W' → (W'.cell? ⟨b, 11, none⟩ = some (.int .i64 d) ∧ W'.cell? ⟨b, 0, none⟩ = some (.pointer (some ⟨sb, 0, none⟩)) ∧ W'.cell? ⟨b, 8, none⟩ = some (.slice (some ⟨pb, po, none⟩) (ruleOf S a).pieces.length pcap) ∧ W'.cell? ⟨pb, po + i * 4 + 2, none⟩ = some (.int .i64 pc.set)) :=
    fun e W' h => ⟨(HK.out e W' h).2 _ _ q11, (HK.out e W' h).2 _ _ q0, (HK.out e W' h).2 _ _ q8, keep (HK.out e W' h).1 z2⟩
  have HK1 : ∀ W', Below W.heap.size W W' → (W'.cell? ⟨b, 11, none⟩ = some (.int .i64 d) ∧ W'.cell? ⟨b, 0, none⟩ = some (.pointer (some ⟨sb, 0, none⟩)) ∧ W'.cell? ⟨b, 8, none⟩ = some (.slice (some ⟨pb, po, none⟩) (ruleOf S a).pieces.length pcap) ∧ W'.cell? ⟨pb, po + i * 4 + 2, none⟩ = some (.int .i64 pc.set)) :=
    fun W' h => ⟨keep h q11, keep h q0, keep h q8, keep h p2⟩
  have h89 : ∀ W', Below W.heap.size W W' → Calls Try.prog 89 #[.pointer (some ⟨b, 0, none⟩), .int .i64 pc.set] W' fun e w' => e = .returned (askQuo S a pc.set).val ∧ Below W'.heap.size W' w' :=
    fun W' hB => askQuotient_any S a.gen a.kas (quo (ruleOf S a) a.num) pc.set _ _ b sb W' (HS.out.keep hB).1 (keep hB q0) (keep hB q9) (keep hB q3) (keep hB q4) (keep hB q8) (HV.out.keep PceAt.stable hB) HT.out
  go_enter Try.func72, Try.ntmps72
  go_wp2_with fail
  refine wp_opaque fun Q2 hQ2 => ?_
  go_region_held3 (fun w' => w'.cell? ⟨b, 11, none⟩ = some (.int .i64 d) ∧ w'.cell? ⟨b, 0, none⟩ = some (.pointer (some ⟨sb, 0, none⟩)) ∧ w'.cell? ⟨b, 8, none⟩ = some (.slice (some ⟨pb, po, none⟩) (ruleOf S a).pieces.length pcap) ∧ w'.cell? ⟨pb, po + i * 4 + 2, none⟩ = some (.int .i64 pc.set)) (((try dsimp only); first | exact HK2 _ _ hr | exact HK1 _ (by (repeat (first | exact Below.refl _ _ | refine Below.drew ?_ | refine bAlloc ?_ _ | refine Below.setCell ?_ (by simp) _ | refine bThen ?_ hb1))))) (first | (go_at_call 89; refine (h89 _ (by (repeat (first | exact Below.refl _ _ | refine Below.drew ?_ | refine bAlloc ?_ _ | refine Below.setCell ?_ (by simp) _ | refine bThen ?_ hb1)))).mono ?_; rintro e w1 ⟨rfl, hb1⟩; obtain ⟨hc, hf⟩ := bcell hb1) | (go_at_call 94; refine (h94 _ (by (repeat (first | exact Below.refl _ _ | refine Below.drew ?_ | refine bAlloc ?_ _ | refine Below.setCell ?_ (by simp) _ | refine bThen ?_ hb1)))).mono ?_; rintro e w2 ⟨⟨t, rfl⟩, hr⟩))
  refine hQ2 _ _ _ ?_
  go_wp2_with fail
  go_ret
  exact ⟨⟨t, rfl⟩, hr⟩
end Go.Proofs.Ytfcopnlpcbbocaa
/- Contracts: what a piece says, by its kind. -/
namespace Go.Proofs.Ytfcopnlpcbbocaa
open Go.RowKit

theorem Right.mods {S : Sys} (h : Right S) : ∀ i (hi : i < S.plurals.length), 1 ≤ S.plurals[i].mod := fun i hi => by
  have := h.ok
  simp only [sysOk, Bool.and_eq_true] at this
  have hh := (List.all_eq_true.1 this.1.2) _ (List.getElem_mem hi)
  simp only [pluOk, betw, Bool.and_eq_true, decide_eq_true_eq] at hh
  omega

theorem piece_any {w0 : World} {own : Nat → Bool} {l N : Nat} {J Jx : List Item → World → Prop} (hH : Hear w0 own l N J Jx) (k : Nat) (S : Sys) (a : Ask) (d : Int) (b sb i : Nat) (pc : Pce) (pre : List Item) (W : World)
    (hJ : J pre W) (hlen : pre.length + (pieceItems (itemsF k S) S a d pc i).length ≤ N) (hS : Right S) (ha : AskRight S a) (hp : PartIn w0 W b sb S a d) (hs0 : SplAt w0 sb S)
    (hi : i < (ruleOf S a).pieces.length) (hpc : (ruleOf S a).pieces[i] = pc) (hd : IntKind.i64.wrap (d + 1) = d + 1)
    (hrec : ∀ (a' : Ask) pre' W', AskRight S a' → a'.num < a.num → J pre' W' → pre'.length + (itemsF k S a' (d + 1)).length ≤ N →
      Calls Try.prog 94 #[.pointer (some ⟨sb, 0, none⟩), a'.val, .int .i64 (d + 1), .func (.yield l) #[] #[]] W' (AndBool (Push J Jx (Kp w0.heap.size own) pre' (itemsF k S a' (d + 1)) W'))) :
    Calls Try.prog (69 + pc.kind.toNat) #[.pointer (some ⟨b, 0, none⟩), .int .i64 i, .func (.yield l) #[] #[]] W (AndBool (Push J Jx (Kp w0.heap.size own) pre (pieceItems (itemsF k S) S a d pc i) W)) := by
  have hB0 := hH.low _ _ hJ
  have hn : w0.heap.size ≤ W.heap.size := hB0.size
  have hs : SplAt W sb S := hs0.keep hB0
  have hm := hS.mods
  obtain ⟨-, -, -, -, -, -, hr⟩ := rule_right hS ha
  have hmem : pc ∈ (ruleOf S a).pieces := hpc ▸ List.getElem_mem hi
  have hok := hr.piece pc hmem
  have hJB : ∀ W', Below W.heap.size W W' → J pre W' := fun W' hB => hH.later _ _ _ hJ hB
  rcases pce_kind hok with hk | hk | hk | hk | hk
  · obtain ⟨t0, t1⟩ := pce_term hok (by omega)
    have e : pieceItems (itemsF k S) S a d pc i = [sayItem S a i d pc.term a.gen a.num] := by simp [pieceItems, hk]
    rw [e] at hlen ⊢
    rw [show 69 + pc.kind.toNat = 70 by simp [hk]]
    exact sayTerm_any S a d b sb l i pc W _ hp.1 hs hm hi hpc t0 t1 ha.num (hH.one hJ (by simp only [List.length_cons, List.length_nil] at hlen; omega))
  · obtain ⟨t0, t1⟩ := pce_term hok (by omega)
    have e : pieceItems (itemsF k S) S a d pc i = [sayItem S a i d pc.term (Ytfcopnlpcbbocaa.termOf S pc.term).gen (quo (ruleOf S a) a.num)] := by simp [pieceItems, hk]
    rw [e] at hlen ⊢
    rw [show 69 + pc.kind.toNat = 71 by simp [hk]]
    have hq := quo_lt hr (pce_div hok (by omega))
    exact sayCounted_any S a d b sb l i pc W _ hp.1 hs hm hi hpc t0 t1 hq.1 (hH.one hJ (by simp only [List.length_cons, List.length_nil] at hlen; omega))
  · have e : pieceItems (itemsF k S) S a d pc i = itemsF k S (askQuo S a pc.set) (d + 1) := by simp [pieceItems, hk]
    rw [e] at hlen ⊢
    rw [show 69 + pc.kind.toNat = 72 by simp [hk]]
    have hq := askQuo_right hS ha hmem hk
    exact sayQuotient_any S a d b sb l i pc w0 W _ hp hB0 hs hi hpc hd (fun j hj hj2 => pce_term (hr.piece _ (List.getElem_mem hj)) (by omega)) (hp.held hB0 hH.part)
      fun W' hB => (hrec _ pre W' hq.1 hq.2 (hJB W' hB) hlen).mono fun _ _ h => ⟨h.1, h.2.from hB hn⟩
  · rw [show 69 + pc.kind.toNat = 73 by simp [hk]]
    refine sayRest_any S a d b sb l i pc w0 W _ hp hB0 hi hpc hd (fun h0 W' hB => ?_) (hp.held hB0 hH.part) (fun h0 W' hB => ?_)
    · have e : pieceItems (itemsF k S) S a d pc i = [] := by simp [pieceItems, hk, h0]
      rw [e]
      exact Push.none hB hn (hJB W' hB)
    · have e : pieceItems (itemsF k S) S a d pc i = itemsF k S (askRst S a pc.set) (d + 1) := by simp [pieceItems, hk, h0]
      rw [e] at hlen ⊢
      have hq := askRst_right hS ha hmem hk
      exact (hrec _ pre W' hq.1 hq.2 (hJB W' hB) hlen).mono fun _ _ h => ⟨h.1, h.2.from hB hn⟩
  · obtain ⟨t0, t1⟩ := pce_term hok (by omega)
    rw [show 69 + pc.kind.toNat = 74 by simp [hk]]
    have hq := quo_lt hr (pce_div hok (by omega))
    refine sayLink_any S a d b sb l i pc W _ hp.1 hs hm hi hpc t0 t1 hq.2.2.1 (fun h0 => ?_) (fun h0 => ?_)
    · have e : pieceItems (itemsF k S) S a d pc i = [] := by simp [pieceItems, hk, h0]
      rw [e]
      exact Push.none (Below.refl _ _) hn hJ
    · have e : pieceItems (itemsF k S) S a d pc i = [sayItem S a i d pc.term a.gen (rst (ruleOf S a) a.num)] := by
        unfold pieceItems
        rw [if_neg (by omega), if_neg (by omega), if_neg (by omega), if_neg (by omega), if_pos hk, if_neg h0]
      rw [e] at hlen ⊢
      exact hH.one hJ (by simp only [List.length_cons, List.length_nil] at hlen; omega)
end Go.Proofs.Ytfcopnlpcbbocaa
