/- The arguments of the laws of layer 5, opened; that data reads the same where what was there is left; the table of semitones. -/
import Derived.Test.YtejcbcjhmnhefabDoorC1
import Derived.Test.YtejcbcjhmnhefabDoorRows
import Derived.Deep.Slices
import Derived.ChangeSame
import Derived.OpenShut
import Derived.JoinedCond
import Derived.JoinedOf
import Derived.ProofKit
import Derived.Below
import Derived.ChangeReads
import Derived.ChangeOld
import Derived.LaidMore
import Derived.Stop.Joined
set_option linter.unusedSimpArgs false
set_option linter.unusedVariables false
namespace Go.Proofs.YtejcbcjhmnhefabDoor
open Go.ChangeShapes Go.WideShapes Go.RowKit Go.Deep Go.ChangeAt

section
variable {H : Type} {enc : TypeId × Value → H} {w : World} {base : Nat} {spare : Nat → Bool} {held : Bool}

/-- One field of a struct that is read. -/
theorem fld {P : Program} {fs : Array Field} {t : TypeId} {cs : List Value} {x : DataW H × List MemPlace} {fuel : Nat} (hu : P.underlying t = some (.struct fs)) (h : DataW.trod enc P w base spare held fuel t cs = some x)
    (i : Nat) (ty : TypeId) (off : Nat) (hi : (fs[i]?).map (fun f => (f.type, f.offset)) = some (ty, off)) : ∃ n y, DataW.trod enc P w base spare held n ty ((cs.drop off).take (P.cellsOf ty)) = some y := by
  obtain ⟨xs, n, _, _, _, hlen, hf⟩ := DataW.trod_struct hu h
  obtain ⟨f, hfi, he⟩ := Option.map_eq_some_iff.1 hi
  injection he with e1 e2
  subst e1 e2
  have hlt : i < fs.size := (Array.getElem?_eq_some_iff.1 hfi).1
  exact ⟨n, _, (hf i f hfi).trans (List.getElem?_eq_getElem (by omega))⟩

theorem fld_len {P : Program} {fs : Array Field} {t : TypeId} {cs : List Value} {x : DataW H × List MemPlace} {fuel : Nat} (hu : P.underlying t = some (.struct fs)) (h : DataW.trod enc P w base spare held fuel t cs = some x) :
    cs.length = P.cellsOf t := by
  obtain ⟨_, _, _, _, hl, _, _⟩ := DataW.trod_struct hu h
  exact hl

theorem spot_none {a : Addr} {v : Value} (h : w.cell? a = some v) : a.spot = none := by
  unfold World.cell? at h
  split at h
  · split at h
    · cases h
    · simpa using ‹¬ a.spot.isSome = true›
  · cases h

/-- A slice that is read, whose elements are so many cells each. -/
theorem slice_of {α : Type} {P : Program} {t e : TypeId} {sz fuel : Nat} {cs : List Value} {x : DataW H × List MemPlace} {R : World → Nat → Nat → α → Prop} (ht : P.underlying t = some (.slice e)) (hsz : P.cellsOf e = sz) (hpos : 0 < sz)
    (hR : ∀ n cs x b o, DataW.trod enc P w base spare held n e cs = some x → cs.length = sz → (∀ j v, cs[j]? = some v → w.cell? ⟨b, o + j, none⟩ = some v) → ∃ y : α, R w b o y)
    (h : DataW.trod enc P w base spare held fuel t cs = some x) : ∃ v xs, cs = [v] ∧ SliceV w v sz R xs := by
  rcases open_slice ht h with ⟨rfl, _⟩ | ⟨a, len, cap, m, n, D, Pl, rfl, _, hl, hcap, hm, _, hi⟩
  · exact ⟨_, [], rfl, none, 0, rfl, by simp, .inl rfl⟩
  · have hml : len ≤ m := by rw [hm]; split <;> omega
    have hlen : len ≤ most := Nat.le_trans hl (Nat.le_trans hcap (by unfold maxLen most; omega))
    by_cases h0 : len = 0
    · subst h0
      exact ⟨_, [], rfl, _, cap, rfl, by simp, .inl rfl⟩
    · have hsp : a.spot = none := by
        obtain ⟨cs', hc, _⟩ := hi 0 (by omega)
        obtain ⟨_, hk, hat⟩ := World.cells?_some hc
        have h1 := hat 0 (by omega)
        rw [List.getElem?_eq_getElem (by omega)] at h1
        simpa [Addr.add] using spot_none h1
      obtain ⟨b, o, sp⟩ := a
      obtain rfl : sp = none := hsp
      have hel : ∀ i : Fin len, ∃ y : α, R w b (o + i.1 * sz) y := by
        intro i
        obtain ⟨cs', hc, htr⟩ := hi i.1 (by omega)
        obtain ⟨_, hk, hat⟩ := World.cells?_some hc
        refine hR n cs' _ b (o + i.1 * sz) htr (by omega) fun j v hv => ?_
        have hj : j < cs'.length := (List.getElem?_eq_some_iff.1 hv).1
        have h1 := hat j (by omega)
        rw [hv, hsz] at h1
        rw [← h1]
        congr 1
        unfold Addr.add
        split <;> split <;> simp_all
      let f : Fin len → α := fun i => Classical.choose (hel i)
      have hf : ∀ i : Fin len, R w b (o + i.1 * sz) (f i) := fun i => Classical.choose_spec (hel i)
      exact ⟨_, List.ofFn f, rfl, _, cap, by rw [List.length_ofFn], by rw [List.length_ofFn]; exact hlen, .inr ⟨b, o, rfl, fun i h => by
        rw [List.getElem_ofFn]; exact hf ⟨i, by simpa using h⟩⟩⟩

theorem int_of {P : Program} {t : TypeId} {fuel : Nat} {cs : List Value} {x : DataW H × List MemPlace} (ht : P.underlying t = some (.int .i64)) (h : DataW.trod enc P w base spare held fuel t cs = some x) : ∃ n, cs = [.int .i64 n] := by
  obtain ⟨n, e, _, _⟩ := DataW.trod_int ht h
  exact ⟨n, e⟩


theorem c3 : Tryd.prog.cellsOf 3 = 1 := by kernel_rfl
theorem c22 : Tryd.prog.cellsOf 34 = 1 := by kernel_rfl
theorem c32 : Tryd.prog.cellsOf 53 = 1 := by kernel_rfl
theorem c34 : Tryd.prog.cellsOf 25 = 1 := by kernel_rfl
theorem c41 : Tryd.prog.cellsOf 44 = 1 := by kernel_rfl
theorem c66 : Tryd.prog.cellsOf 22 = 1 := by kernel_rfl
theorem c73 : Tryd.prog.cellsOf 33 = 2 := by kernel_rfl
theorem c24 : Tryd.prog.cellsOf 36 = 3 := by kernel_rfl
theorem c54 : Tryd.prog.cellsOf 43 = 3 := by kernel_rfl
theorem c68 : Tryd.prog.cellsOf 30 = 6 := by kernel_rfl
theorem c43 : Tryd.prog.cellsOf 46 = 6 := by kernel_rfl
theorem knot_of (n : Nat) (cs : List Value) (x : DataW H × List MemPlace) (b o : Nat) (h : DataW.trod enc Tryd.prog w base spare held n 33 cs = some x) (hl : cs.length = 2) (hc : ∀ j v, cs[j]? = some v → w.cell? ⟨b, o + j, none⟩ = some v) : ∃ y, KnotAt w b o y := by
  match cs, hl with
  | [v0, v1], _ =>
    obtain ⟨_, _, h0⟩ := fld Tryd.underlying33 h 0 3 0 rfl
    obtain ⟨_, _, h1⟩ := fld Tryd.underlying33 h 1 3 1 rfl
    simp only [c3, List.drop_zero, List.drop_succ_cons, List.take_succ_cons, List.take_zero] at h0 h1
    obtain ⟨a0, e0⟩ := int_of Tryd.underlying3 h0
    obtain ⟨a1, e1⟩ := int_of Tryd.underlying3 h1
    injection e0 with e0; injection e1 with e1
    subst e0 e1
    exact ⟨⟨a0, a1⟩, hc 0 _ rfl, hc 1 _ rfl⟩
theorem tgt_of (n : Nat) (cs : List Value) (x : DataW H × List MemPlace) (b o : Nat) (h : DataW.trod enc Tryd.prog w base spare held n 43 cs = some x) (hl : cs.length = 3) (hc : ∀ j v, cs[j]? = some v → w.cell? ⟨b, o + j, none⟩ = some v) : ∃ y, TgtAt w b o y := by
  match cs, hl with
  | [v0, v1, v2], _ =>
    obtain ⟨_, _, h0⟩ := fld Tryd.underlying43 h 0 3 0 rfl
    obtain ⟨_, _, h1⟩ := fld Tryd.underlying43 h 1 3 1 rfl
    obtain ⟨_, _, h2⟩ := fld Tryd.underlying43 h 2 3 2 rfl
    simp only [c3, List.drop_zero, List.drop_succ_cons, List.take_succ_cons, List.take_zero] at h0 h1 h2
    obtain ⟨a0, e0⟩ := int_of Tryd.underlying3 h0
    obtain ⟨a1, e1⟩ := int_of Tryd.underlying3 h1
    obtain ⟨a2, e2⟩ := int_of Tryd.underlying3 h2
    injection e0 with e0; injection e1 with e1; injection e2 with e2
    subst e0 e1 e2
    exact ⟨⟨a0, a1, a2⟩, hc 0 _ rfl, hc 1 _ rfl, hc 2 _ rfl⟩
theorem note_of (n : Nat) (cs : List Value) (x : DataW H × List MemPlace) (b o : Nat) (h : DataW.trod enc Tryd.prog w base spare held n 30 cs = some x) (hl : cs.length = 6) (hc : ∀ j v, cs[j]? = some v → w.cell? ⟨b, o + j, none⟩ = some v) : ∃ y, NoteAt w b o y := by
  match cs, hl with
  | [v0, v1, v2, v3, v4, v5], _ =>
    obtain ⟨_, _, h0⟩ := fld Tryd.underlying30 h 0 3 0 rfl
    obtain ⟨_, _, h1⟩ := fld Tryd.underlying30 h 1 3 1 rfl
    obtain ⟨_, _, h2⟩ := fld Tryd.underlying30 h 2 3 2 rfl
    obtain ⟨_, _, h3⟩ := fld Tryd.underlying30 h 3 3 3 rfl
    obtain ⟨_, _, h4⟩ := fld Tryd.underlying30 h 4 3 4 rfl
    obtain ⟨_, _, h5⟩ := fld Tryd.underlying30 h 5 3 5 rfl
    simp only [c3, List.drop_zero, List.drop_succ_cons, List.take_succ_cons, List.take_zero] at h0 h1 h2 h3 h4 h5
    obtain ⟨a0, e0⟩ := int_of Tryd.underlying3 h0
    obtain ⟨a1, e1⟩ := int_of Tryd.underlying3 h1
    obtain ⟨a2, e2⟩ := int_of Tryd.underlying3 h2
    obtain ⟨a3, e3⟩ := int_of Tryd.underlying3 h3
    obtain ⟨a4, e4⟩ := int_of Tryd.underlying3 h4
    obtain ⟨a5, e5⟩ := int_of Tryd.underlying3 h5
    injection e0 with e0; injection e1 with e1; injection e2 with e2; injection e3 with e3; injection e4 with e4; injection e5 with e5
    subst e0 e1 e2 e3 e4 e5
    exact ⟨⟨a0, a1, a2, a3, a4, a5⟩, hc 0 _ rfl, hc 1 _ rfl, hc 2 _ rfl, hc 3 _ rfl, hc 4 _ rfl, hc 5 _ rfl⟩
theorem cmd_of (n : Nat) (cs : List Value) (x : DataW H × List MemPlace) (b o : Nat) (h : DataW.trod enc Tryd.prog w base spare held n 36 cs = some x) (hl : cs.length = 3) (hc : ∀ j v, cs[j]? = some v → w.cell? ⟨b, o + j, none⟩ = some v) : ∃ y, CmdAt w b o y := by
  match cs, hl with
  | [v0, v1, v2], _ =>
    obtain ⟨_, _, h0⟩ := fld Tryd.underlying36 h 0 3 0 rfl
    obtain ⟨_, _, h1⟩ := fld Tryd.underlying36 h 1 3 1 rfl
    obtain ⟨_, _, h2⟩ := fld Tryd.underlying36 h 2 34 2 rfl
    simp only [c3, c22, List.drop_zero, List.drop_succ_cons, List.take_succ_cons, List.take_zero] at h0 h1 h2
    obtain ⟨a, e0⟩ := int_of Tryd.underlying3 h0
    obtain ⟨d, e1⟩ := int_of Tryd.underlying3 h1
    obtain ⟨v, xs, e2, hv⟩ := slice_of (R := KnotAt) Tryd.underlying34 c73 (by omega) knot_of h2
    injection e0 with e0; injection e1 with e1; injection e2 with e2
    subst e0 e1 e2
    exact ⟨⟨a, d, xs⟩, hc 0 _ rfl, hc 1 _ rfl, _, hc 2 _ rfl, hv⟩
theorem intAt_of (n : Nat) (cs : List Value) (x : DataW H × List MemPlace) (b o : Nat) (h : DataW.trod enc Tryd.prog w base spare held n 3 cs = some x) (_ : cs.length = 1) (hc : ∀ j v, cs[j]? = some v → w.cell? ⟨b, o + j, none⟩ = some v) : ∃ y, IntAt w b o y := by
  obtain ⟨a, rfl⟩ := int_of Tryd.underlying3 h
  exact ⟨a, hc 0 _ rfl⟩
set_option maxRecDepth 100000 in
theorem ints_of {r : Reach} {b0 : Nat} {v : Value} {d : DataW H} {p : List MemPlace} (hv : Value.okWide Tryd.prog w r b0 25 v) (h : DataW.Trod enc Tryd.prog w base spare held 25 v d p) :
    ∃ xs, SliceV w v 1 IntAt xs := by
  obtain ⟨fuel, hf⟩ := h
  obtain ⟨v', xs, e, hs⟩ := slice_of (R := IntAt) Tryd.underlying25 c3 (by omega) intAt_of hf
  obtain ⟨a, l, c, rfl⟩ := okWide_slice (P := Tryd.prog) (t := 25) (w := w) (r := r) (base := b0) (v := v) Tryd.underlying25 hv
  have e' : [Value.slice a l c] = [v'] := e
  injection e' with e'
  subst e'
  exact ⟨xs, hs⟩
set_option maxRecDepth 100000 in
theorem cmds_of {r : Reach} {b0 : Nat} {v : Value} {d : DataW H} {p : List MemPlace} (hv : Value.okWide Tryd.prog w r b0 53 v) (h : DataW.Trod enc Tryd.prog w base spare held 53 v d p) :
    ∃ xs, SliceV w v 3 CmdAt xs := by
  obtain ⟨fuel, hf⟩ := h
  obtain ⟨v', xs, e, hs⟩ := slice_of (R := CmdAt) Tryd.underlying53 c24 (by omega) cmd_of hf
  obtain ⟨a, l, c, rfl⟩ := okWide_slice (P := Tryd.prog) (t := 53) (w := w) (r := r) (base := b0) (v := v) Tryd.underlying53 hv
  have e' : [Value.slice a l c] = [v'] := e
  injection e' with e'
  subst e'
  exact ⟨xs, hs⟩
set_option maxRecDepth 100000 in
theorem notes_of {r : Reach} {b0 : Nat} {v : Value} {d : DataW H} {p : List MemPlace} (hv : Value.okWide Tryd.prog w r b0 22 v) (h : DataW.Trod enc Tryd.prog w base spare held 22 v d p) :
    ∃ xs, SliceV w v 6 NoteAt xs := by
  obtain ⟨fuel, hf⟩ := h
  obtain ⟨v', xs, e, hs⟩ := slice_of (R := NoteAt) Tryd.underlying22 c68 (by omega) note_of hf
  obtain ⟨a, l, c, rfl⟩ := okWide_slice (P := Tryd.prog) (t := 22) (w := w) (r := r) (base := b0) (v := v) Tryd.underlying22 hv
  have e' : [Value.slice a l c] = [v'] := e
  injection e' with e'
  subst e'
  exact ⟨xs, hs⟩
set_option maxRecDepth 100000 in
/-- A command that is handed over. -/
theorem command_of {r : Reach} {b0 : Nat} {v : Value} {d : DataW H} {p : List MemPlace} (hv : Value.okWide Tryd.prog w r b0 36 v) (h : DataW.Trod enc Tryd.prog w base spare held 36 v d p) :
    ∃ (x : Cmd) (vs : Value), v = .agg #[.int .i64 x.at_, .int .i64 x.height, vs] ∧ SliceV w vs 2 KnotAt x.shape := by
  obtain ⟨cs, rfl, hsz⟩ := okWide_struct (P := Tryd.prog) (t := 36) (w := w) (r := r) (base := b0) (v := v) Tryd.underlying36 hv
  obtain ⟨l⟩ := cs
  match l, hsz.trans c24 with
  | [v0, v1, v2], _ =>
    obtain ⟨fuel, hf⟩ := h
    obtain ⟨_, _, h0⟩ := fld Tryd.underlying36 hf 0 3 0 rfl
    obtain ⟨_, _, h1⟩ := fld Tryd.underlying36 hf 1 3 1 rfl
    obtain ⟨_, _, h2⟩ := fld Tryd.underlying36 hf 2 34 2 rfl
    simp only [Value.cells, c3, c22, List.drop_zero, List.drop_succ_cons, List.take_succ_cons, List.take_zero] at h0 h1 h2
    obtain ⟨a, e0⟩ := int_of Tryd.underlying3 h0
    obtain ⟨d, e1⟩ := int_of Tryd.underlying3 h1
    obtain ⟨vs, xs, e2, hk⟩ := slice_of (R := KnotAt) Tryd.underlying34 c73 (by omega) knot_of h2
    injection e0 with e0; injection e1 with e1; injection e2 with e2
    subst e0 e1 e2
    exact ⟨⟨a, d, xs⟩, _, rfl, hk⟩
set_option maxRecDepth 100000 in
/-- A problem that is handed over. -/
theorem contour_of {r : Reach} {b0 : Nat} {v : Value} {d : DataW H} {p : List MemPlace} (hv : Value.okWide Tryd.prog w r b0 46 v) (h : DataW.Trod enc Tryd.prog w base spare held 46 v d p) :
    ∃ (x : Con) (vs : Value), v = .agg #[.int .i64 x.frames, .int .i64 x.low, .int .i64 x.high, .int .i64 x.slope, .int .i64 x.smooth, vs] ∧ SliceV w vs 3 TgtAt x.targets := by
  obtain ⟨cs, rfl, hsz⟩ := okWide_struct (P := Tryd.prog) (t := 46) (w := w) (r := r) (base := b0) (v := v) Tryd.underlying46 hv
  obtain ⟨l⟩ := cs
  match l, hsz.trans c43 with
  | [v0, v1, v2, v3, v4, v5], _ =>
    obtain ⟨fuel, hf⟩ := h
    obtain ⟨_, _, h0⟩ := fld Tryd.underlying46 hf 0 3 0 rfl
    obtain ⟨_, _, h1⟩ := fld Tryd.underlying46 hf 1 3 1 rfl
    obtain ⟨_, _, h2⟩ := fld Tryd.underlying46 hf 2 3 2 rfl
    obtain ⟨_, _, h3⟩ := fld Tryd.underlying46 hf 3 3 3 rfl
    obtain ⟨_, _, h4⟩ := fld Tryd.underlying46 hf 4 3 4 rfl
    obtain ⟨_, _, h5⟩ := fld Tryd.underlying46 hf 5 44 5 rfl
    simp only [Value.cells, c3, c41, List.drop_zero, List.drop_succ_cons, List.take_succ_cons, List.take_zero] at h0 h1 h2 h3 h4 h5
    obtain ⟨n0, e0⟩ := int_of Tryd.underlying3 h0
    obtain ⟨n1, e1⟩ := int_of Tryd.underlying3 h1
    obtain ⟨n2, e2⟩ := int_of Tryd.underlying3 h2
    obtain ⟨n3, e3⟩ := int_of Tryd.underlying3 h3
    obtain ⟨n4, e4⟩ := int_of Tryd.underlying3 h4
    obtain ⟨vs, xs, e5, hk⟩ := slice_of (R := TgtAt) Tryd.underlying44 c54 (by omega) tgt_of h5
    injection e0 with e0; injection e1 with e1; injection e2 with e2; injection e3 with e3; injection e4 with e4; injection e5 with e5
    subst e0 e1 e2 e3 e4 e5
    exact ⟨⟨n0, n1, n2, n3, n4, xs⟩, _, rfl, hk⟩
end
end Go.Proofs.YtejcbcjhmnhefabDoor

namespace Go.Proofs.YtejcbcjhmnhefabDoor
open Go.ChangeShapes Go.WideShapes Go.RowKit Go.Deep

section
variable {H : Type} {enc : TypeId × Value → H} {P : Program}

/-- A type whose data reads the same under any word on room that admits all that is read. -/
def Sw (enc : TypeId × Value → H) (P : Program) (t : TypeId) : Prop :=
  ∀ (w : World) (base : Nat) (held : Bool) (sp : Nat → Bool) (n : Nat) (cs : List Value) (x : DataW H × List MemPlace), DataW.trod enc P w base (fun _ => true) held n t cs = some x → (∀ p ∈ x.2, sp p.block = true) → DataW.trod enc P w base sp held n t cs = some x

theorem sw_int {t : TypeId} {k : IntKind} (ht : P.underlying t = some (.int k)) : Sw enc P t := by
  intro w base held sp n cs x h _
  obtain ⟨k', rfl, rfl, hw⟩ := DataW.trod_int ht h
  cases n with
  | zero => simp [DataW.trod] at h
  | succ n => exact trod_int_mk n ht hw
theorem sw_string {t : TypeId} (ht : P.underlying t = some .string) : Sw enc P t := by
  intro w base held sp n cs x h _
  obtain ⟨s, rfl, rfl, hs⟩ := DataW.trod_string ht h
  cases n with
  | zero => simp [DataW.trod] at h
  | succ n => simp [DataW.trod, ht, hs]
theorem sw_struct {t : TypeId} {fs : Array Field} (ht : P.underlying t = some (.struct fs)) (hf : ∀ f ∈ fs.toList, Sw enc P f.type) : Sw enc P t := by
  intro w base held sp n cs x h hp
  cases n with
  | zero => simp [DataW.trod] at h
  | succ n =>
    unfold DataW.trod at h ⊢
    rw [ht] at h ⊢
    simp only at h ⊢
    split at h
    · rename_i hl
      rw [if_pos hl]
      obtain ⟨xs, hx, rfl⟩ := Option.map_eq_some_iff.1 h
      rw [mapM_carry hx (fun f y hfm hy hfy => hf f hfm w base held sp n _ y hfy fun p hpm => hp p (List.mem_flatMap.2 ⟨y, hy, hpm⟩))]
      rfl
    · cases h
theorem sw_slice {t e : TypeId} (ht : P.underlying t = some (.slice e)) (hc : 0 < P.cellsOf e) (he : Sw enc P e) : Sw enc P t := by
  intro w base held sp n cs x h hp
  cases n with
  | zero => simp [DataW.trod] at h
  | succ n =>
    rcases open_slice ht h with ⟨rfl, rfl⟩ | ⟨a, len, cap, m, n', D, Pl, rfl, hb, hl, hcap, hm, hx, -⟩
    · simp [DataW.trod, ht]
    · simp only [DataW.trod, ht] at h ⊢
      have hg : base ≤ a.block ∧ len ≤ cap ∧ cap ≤ maxLen := ⟨hb, hl, hcap⟩
      rw [if_pos hg] at h ⊢
      simp only [if_true] at h
      obtain ⟨elems, h1, h2⟩ := Option.bind_eq_some_iff.1 h
      obtain ⟨rest, h3, rfl⟩ := Option.map_eq_some_iff.1 h2
      have hin : ∀ y ∈ elems ++ rest, ∀ p ∈ y.2, sp p.block = true := fun y hy p hpm => hp p (List.mem_append.2 (.inr (List.mem_flatMap.2 ⟨y, hy, hpm⟩)))
      have key : ∀ (i : Nat) (y : DataW H × List MemPlace), (∀ p ∈ y.2, sp p.block = true) → (w.cells? base (a.add (i * P.cellsOf e)) (P.cellsOf e)).bind (DataW.trod enc P w base (fun _ => true) held n e) = some y →
          (w.cells? base (a.add (i * P.cellsOf e)) (P.cellsOf e)).bind (DataW.trod enc P w base sp held n e) = some y := by
        intro i y hy hi
        obtain ⟨cs', hcs, htr⟩ := Option.bind_eq_some_iff.1 hi
        rw [hcs]
        exact he w base held sp n cs' y htr hy
      have g1 := mapM_carry (g := fun i => (w.cells? base (a.add (i * P.cellsOf e)) (P.cellsOf e)).bind (DataW.trod enc P w base sp held n e)) h1 (fun i y _ hy hi => key i y (hin y (List.mem_append.2 (.inl hy))) hi)
      have g3 := mapM_carry (g := fun j => (w.cells? base (a.add ((len + j) * P.cellsOf e)) (P.cellsOf e)).bind (DataW.trod enc P w base sp held n e)) h3 (fun i y _ hy hi => key (len + i) y (hin y (List.mem_append.2 (.inr hy))) hi)
      rw [g1]
      simp only [Option.bind_some]
      by_cases h0 : cap = 0
      · have hr : rest = [] := by
          have : cap - len = 0 := by omega
          rw [this] at h3
          simpa using h3.symm
        subst hr
        have : cap - len = 0 := by omega
        rw [this] at g3 ⊢
        simp
      · have hsp : sp a.block = true := by
          have hlen : elems.length + rest.length = cap := by
            have e1 := mapM_some_length h1
            have e2 := mapM_some_length h3
            simp only [List.length_range] at e1 e2
            omega
          refine hp (.cell a.block (a.off + 0)) (List.mem_append.2 (.inl (MemPlace.mem_row.2 ⟨0, ?_, rfl⟩)))
          rw [hlen]
          exact Nat.mul_pos (by omega) hc
        rw [if_pos hsp, g3]
        rfl
theorem trodAll_carry {w w' : World} {base : Nat} {held : Bool} {sp : Nat → Bool} : ∀ {ts : List TypeId} {vs : List Value} {ds : List (DataW H)} {p : List MemPlace}, (∀ t ∈ ts, Sw enc P t) → DataW.TrodAll enc P w base (fun _ => true) held ts vs ds p → (∀ x ∈ p, w.sameAt w' x) → (∀ x ∈ p, sp x.block = true) → DataW.TrodAll enc P w' base sp held ts vs ds p
  | [], [], [], _, _, h, _, _ => h
  | t :: _, _ :: _, _ :: _, _, hs, ⟨p, q, ⟨n, h⟩, hr, e⟩, k, l => by
    subst e
    exact ⟨p, q, ⟨n, hs t (List.mem_cons_self ..) _ _ _ _ _ _ _ (DataW.trod_carry n _ _ _ h fun x hx => k x (List.mem_append.2 (.inl hx))) fun x hx => l x (List.mem_append.2 (.inl hx))⟩,
      trodAll_carry (fun t ht => hs t (List.mem_cons_of_mem _ ht)) hr (fun x hx => k x (List.mem_append.2 (.inr hx))) (fun x hx => l x (List.mem_append.2 (.inr hx))), rfl⟩
  | [], [], _ :: _, _, _, h, _, _ => False.elim h
  | [], _ :: _, _, _, _, h, _, _ => by cases h
  | _ :: _, [], _, _, _, h, _, _ => by cases h
  | _ :: _, _ :: _, [], _, _, h, _, _ => by cases h
end
end Go.Proofs.YtejcbcjhmnhefabDoor

namespace Go.Proofs.YtejcbcjhmnhefabDoor
open Go.ChangeShapes Go.WideShapes Go.RowKit Go.Deep

section
variable {H : Type} {enc : TypeId × Value → H} {P : Program}

theorem true_post {f : Func} {s : ChangeSpec} {apart fresh handsOn again : Bool} {W W' : World} {args : Array Value} {ds gs : List (DataW H)} {before : List MemPlace} {tb : TypeId}
    (hW : DataW.Whole enc P f.params.toList s.vars apart W args.toList ds gs before) (hvars : s.vars = []) (hsw : ∀ t ∈ f.params.toList, Sw enc P t) (hr : f.resultTypes = #[tb]) (hb : P.underlying tb = some .bool)
    (hfn : s.fn H (ds ++ gs) = { results := [.lit (.bool true)], args := ds }) (hB : Below W.heap.size W W') :
    s.post enc P f apart fresh handsOn again W args (.bool true) W' := by
  have hlt := hW.lt
  have hWhole := hW
  obtain ⟨p, q, hA, hV, rfl, hz, hn⟩ := hW
  rw [hvars] at hV
  obtain ⟨rfl, rfl⟩ := trodVars_none hV
  simp only [List.append_nil] at hz hn hlt hfn
  have hsame : ∀ x ∈ p, W.sameAt W' x := fun x hx => hB.same (hlt x hx)
  have hargs : ∀ sp : Nat → Bool, (∀ x ∈ p, sp x.block = true) → DataW.TrodAll enc P W' 0 sp true f.params.toList args.toList ds p := fun sp hsp => trodAll_carry hsw hA hsame hsp
  have hres : ∀ (b : Nat) (sp : Nat → Bool) (hd : Bool), DataW.TrodAll enc P W' b sp hd f.resultTypes.toList ((Value.bool true).resultList f.resultTypes.size) [.lit (.bool true)] [] := fun b sp hd => by
    rw [hr]
    exact trodAll_cons_mk (shut_bool hb _) trodAll_mk0
  have hnone : ∀ sp : Nat → Bool, DataW.TrodVars enc P W' sp s.vars [] [] := fun sp => by rw [hvars]; rfl
  refine ⟨ds, [], p ++ [], [], p, [], hWhole, ?_, ?_, ?_, ?_, fun _ => ⟨?_, [.lit (.bool true)] ++ ds, [], p, ⟨[] ++ p, [], ?_, ?_, by simp, ?_, ?_⟩, fun x hx _ => by simpa using hx⟩⟩
  · rw [List.append_nil, hfn]; exact hres _ _ _
  · rw [List.append_nil, hfn]; exact hargs _ fun x hx => by simpa using hlt x hx
  · rw [List.append_nil, hfn]; exact hnone _
  · refine World.keptBut_mono (fun x hx => ?_) (hB.frame (· ∈ p))
    exact ⟨by simpa using hx, .inr (.inl hx)⟩
  · exact ok_one hr rfl (okWide_bool_mk hb _)
  · exact trodAll_append (hargs _ fun _ _ => rfl) (hres _ _ _)
  · exact hnone _
  · intro b off hp
    rw [hB.frozen (hlt _ hp)]
    exact hz b off hp
  · exact hn
end
end Go.Proofs.YtejcbcjhmnhefabDoor

namespace Go.Proofs.YtejcbcjhmnhefabDoor
open Go.ChangeShapes Go.WideShapes Go.RowKit Go.Deep Go.ChangeAt
section
variable {H : Type} {enc : TypeId × Value → H}
theorem tw3 : Sw enc Tryd.prog 3 := sw_int Tryd.underlying3
theorem tw34 : Sw enc Tryd.prog 25 := sw_slice Tryd.underlying25 (by rw [c3]; omega) tw3
theorem tw73 : Sw enc Tryd.prog 33 := sw_struct Tryd.underlying33 (by simp [tw3])
theorem tw22 : Sw enc Tryd.prog 34 := sw_slice Tryd.underlying34 (by rw [c73]; omega) tw73
theorem tw24 : Sw enc Tryd.prog 36 := sw_struct Tryd.underlying36 (by simp [tw3, tw22])
theorem tw32 : Sw enc Tryd.prog 53 := sw_slice Tryd.underlying53 (by rw [c24]; omega) tw24
theorem tw54 : Sw enc Tryd.prog 43 := sw_struct Tryd.underlying43 (by simp [tw3])
theorem tw41 : Sw enc Tryd.prog 44 := sw_slice Tryd.underlying44 (by rw [c54]; omega) tw54
theorem tw43 : Sw enc Tryd.prog 46 := sw_struct Tryd.underlying46 (by simp [tw3, tw41])
theorem tw68 : Sw enc Tryd.prog 30 := sw_struct Tryd.underlying30 (by simp [tw3])
theorem tw66 : Sw enc Tryd.prog 22 := sw_slice Tryd.underlying22 (by rw [c68]; omega) tw68
end
theorem own_knob : ownKnob Tryd.prog.godebug = none := by kernel_rfl
theorem gSemi : Tryd.prog.globalNamed "declaim/api.Semitones" = some 0 := by kernel_rfl
theorem tSemi : (Tryd.prog.globals[0]?).map (·.type) = some 90 := by kernel_rfl
def laidL : List (String × DataW Unit) := [("declaim/api.Semitones", Rows.laid_declaim_api_Semitones)]
/-- The heap that the program's initialisers leave meets the condition. -/
theorem door_met (os : Os) (args : Array Value) : laidMetH Tryd.prog laidL ((World.doorLaid Tryd.prog 14 os).forCall (fun _ _ => 0) ⟨#[], args, []⟩).memory :=
  laidMetH_of_parts3 (fuel := 8) (laidMet_of_run' 8 (by kernel_rfl) (by kernel_rfl)) (by kernel_rfl) (by kernel_rfl)
end Go.Proofs.YtejcbcjhmnhefabDoor
