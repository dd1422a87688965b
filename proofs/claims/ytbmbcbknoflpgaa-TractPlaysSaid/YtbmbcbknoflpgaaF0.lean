/- The arguments of the laws of layer 8, opened; data reads the same where what was there is left. -/
import Derived.Test.YtbmbcbknoflpgaaKM
import Derived.Test.YtbmbcbknoflpgaaD1
import Derived.Test.YtbmbcbknoflpgaaB1
import Derived.Test.YtbmbcbknoflpgaaC1
import Derived.Test.YtbmbcbknoflpgaaRows
import Derived.Deep.Slices
import Derived.ChangeSame
import Derived.OpenShut
import Derived.JoinedCond
import Derived.JoinedOf
import Derived.ProofKit
import Derived.Below
import Derived.ChangeReads
import Derived.ChangeOld
import Derived.LaidMore
import Derived.Stop.Joined
set_option linter.unusedSimpArgs false
set_option linter.unusedVariables false
namespace Go.Proofs.Ytbmbcbknoflpgaa
open Go.ChangeShapes Go.WideShapes Go.RowKit Go.Deep Go.ChangeAt

section
variable {H : Type} {enc : TypeId × Value → H} {w : World} {base : Nat} {spare : Nat → Bool} {held : Bool}

/-- One field of a struct that is read. -/
theorem fld {P : Program} {fs : Array Field} {t : TypeId} {cs : List Value} {x : DataW H × List MemPlace} {fuel : Nat} (hu : P.underlying t = some (.struct fs)) (h : DataW.trod enc P w base spare held fuel t cs = some x)
    (i : Nat) (ty : TypeId) (off : Nat) (hi : (fs[i]?).map (fun f => (f.type, f.offset)) = some (ty, off)) : ∃ n y, DataW.trod enc P w base spare held n ty ((cs.drop off).take (P.cellsOf ty)) = some y := by
  obtain ⟨xs, n, _, _, _, hlen, hf⟩ := DataW.trod_struct hu h
  obtain ⟨f, hfi, he⟩ := Option.map_eq_some_iff.1 hi
  injection he with e1 e2
  subst e1 e2
  have hlt : i < fs.size := (Array.getElem?_eq_some_iff.1 hfi).1
  exact ⟨n, _, (hf i f hfi).trans (List.getElem?_eq_getElem (by omega))⟩

theorem fld_len {P : Program} {fs : Array Field} {t : TypeId} {cs : List Value} {x : DataW H × List MemPlace} {fuel : Nat} (hu : P.underlying t = some (.struct fs)) (h : DataW.trod enc P w base spare held fuel t cs = some x) :
    cs.length = P.cellsOf t := by
  obtain ⟨_, _, _, _, hl, _, _⟩ := DataW.trod_struct hu h
  exact hl

theorem spot_none {a : Addr} {v : Value} (h : w.cell? a = some v) : a.spot = none := by
  unfold World.cell? at h
  split at h
  · split at h
    · cases h
    · simpa using (show ¬ a.spot.isSome = true by assumption)
  · cases h

/-- A slice that is read, whose elements are so many cells each. -/
theorem slice_of {α : Type} {P : Program} {t e : TypeId} {sz fuel : Nat} {cs : List Value} {x : DataW H × List MemPlace} {R : World → Nat → Nat → α → Prop} (ht : P.underlying t = some (.slice e)) (hsz : P.cellsOf e = sz) (hpos : 0 < sz)
    (hR : ∀ n cs x b o, DataW.trod enc P w base spare held n e cs = some x → cs.length = sz → (∀ j v, cs[j]? = some v → w.cell? ⟨b, o + j, none⟩ = some v) → ∃ y : α, R w b o y)
    (h : DataW.trod enc P w base spare held fuel t cs = some x) : ∃ v xs, cs = [v] ∧ SliceV w v sz R xs := by
  rcases open_slice ht h with ⟨rfl, _⟩ | ⟨a, len, cap, m, n, D, Pl, rfl, _, hl, hcap, hm, _, hi⟩
  · exact ⟨_, [], rfl, none, 0, rfl, ⟨by simp, by simp⟩, .inl rfl⟩
  · have hml : len ≤ m := by rw [hm]; split <;> omega
    have hlen : len ≤ most := Nat.le_trans hl (Nat.le_trans hcap (by unfold maxLen most; omega))
    by_cases h0 : len = 0
    · subst h0
      exact ⟨_, [], rfl, _, cap, rfl, ⟨by simp, by simp⟩, .inl rfl⟩
    · have hsp : a.spot = none := by
        obtain ⟨cs', hc, _⟩ := hi 0 (by omega)
        obtain ⟨_, hk, hat⟩ := World.cells?_some hc
        have h1 := hat 0 (by omega)
        rw [List.getElem?_eq_getElem (by omega)] at h1
        simpa [Addr.add] using spot_none h1
      obtain ⟨b, o, sp⟩ := a
      obtain rfl : sp = none := hsp
      have hel : ∀ i : Fin len, ∃ y : α, R w b (o + i.1 * sz) y := by
        intro i
        obtain ⟨cs', hc, htr⟩ := hi i.1 (by omega)
        obtain ⟨_, hk, hat⟩ := World.cells?_some hc
        refine hR n cs' _ b (o + i.1 * sz) htr (by omega) fun j v hv => ?_
        have hj : j < cs'.length := (List.getElem?_eq_some_iff.1 hv).1
        have h1 := hat j (by omega)
        rw [hv, hsz] at h1
        rw [← h1]
        congr 1
        unfold Addr.add
        split <;> split <;> simp_all
      let f : Fin len → α := fun i => Classical.choose (hel i)
      have hf : ∀ i : Fin len, R w b (o + i.1 * sz) (f i) := fun i => Classical.choose_spec (hel i)
      exact ⟨_, List.ofFn f, rfl, _, cap, by rw [List.length_ofFn], ⟨by rw [List.length_ofFn]; exact hlen, by rw [List.length_ofFn]; exact hl⟩, .inr ⟨b, o, rfl, fun i h => by
        rw [List.getElem_ofFn]; exact hf ⟨i, by simpa using h⟩⟩⟩

theorem int_of {P : Program} {t : TypeId} {fuel : Nat} {cs : List Value} {x : DataW H × List MemPlace} (ht : P.underlying t = some (.int .i64)) (h : DataW.trod enc P w base spare held fuel t cs = some x) : ∃ n, cs = [.int .i64 n] := by
  obtain ⟨n, e, _, _⟩ := DataW.trod_int ht h
  exact ⟨n, e⟩

theorem cInt : Try.prog.cellsOf 3 = 1 := by kernel_rfl
theorem cInts : Try.prog.cellsOf 22 = 1 := by kernel_rfl
theorem cWaves : Try.prog.cellsOf 37 = 1 := by kernel_rfl
theorem intAt_of (n : Nat) (cs : List Value) (x : DataW H × List MemPlace) (b o : Nat) (h : DataW.trod enc Try.prog w base spare held n 3 cs = some x) (_ : cs.length = 1) (hc : ∀ j v, cs[j]? = some v → w.cell? ⟨b, o + j, none⟩ = some v) : ∃ y, IntAt w b o y := by
  obtain ⟨a, rfl⟩ := int_of Try.underlying3 h
  exact ⟨a, hc 0 _ rfl⟩
theorem waveAt_of (n : Nat) (cs : List Value) (x : DataW H × List MemPlace) (b o : Nat) (h : DataW.trod enc Try.prog w base spare held n 22 cs = some x) (_ : cs.length = 1) (hc : ∀ j v, cs[j]? = some v → w.cell? ⟨b, o + j, none⟩ = some v) : ∃ y, WaveAt w b o y := by
  obtain ⟨v, xs, rfl, hs⟩ := slice_of (R := IntAt) Try.underlying22 cInt (by omega) intAt_of h
  exact ⟨xs, v, hc 0 _ rfl, hs⟩
set_option maxRecDepth 100000 in
theorem ints_of {r : Reach} {b0 : Nat} {v : Value} {d : DataW H} {p : List MemPlace} (hv : Value.okWide Try.prog w r b0 22 v) (h : DataW.Trod enc Try.prog w base spare held 22 v d p) :
    ∃ xs, SliceV w v 1 IntAt xs := by
  obtain ⟨fuel, hf⟩ := h
  obtain ⟨v', xs, e, hs⟩ := slice_of (R := IntAt) Try.underlying22 cInt (by omega) intAt_of hf
  obtain ⟨a, l, c, rfl⟩ := okWide_slice (P := Try.prog) (t := 22) (w := w) (r := r) (base := b0) (v := v) Try.underlying22 hv
  have e' : [Value.slice a l c] = [v'] := e
  injection e' with e'
  subst e'
  exact ⟨xs, hs⟩
set_option maxRecDepth 100000 in
theorem waves_of {r : Reach} {b0 : Nat} {v : Value} {d : DataW H} {p : List MemPlace} (hv : Value.okWide Try.prog w r b0 37 v) (h : DataW.Trod enc Try.prog w base spare held 37 v d p) :
    ∃ xs, SliceV w v 1 WaveAt xs := by
  obtain ⟨fuel, hf⟩ := h
  obtain ⟨v', xs, e, hs⟩ := slice_of (R := WaveAt) Try.underlying37 cInts (by omega) waveAt_of hf
  obtain ⟨a, l, c, rfl⟩ := okWide_slice (P := Try.prog) (t := 37) (w := w) (r := r) (base := b0) (v := v) Try.underlying37 hv
  have e' : [Value.slice a l c] = [v'] := e
  injection e' with e'
  subst e'
  exact ⟨xs, hs⟩
theorem cges : Try.prog.cellsOf 76 = 6 := by kernel_rfl
set_option maxRecDepth 100000 in
theorem gesAt_of (n : Nat) (cs : List Value) (x : DataW H × List MemPlace) (b o : Nat) (h : DataW.trod enc Try.prog w base spare held n 76 cs = some x) (hl : cs.length = 6) (hc : ∀ j v, cs[j]? = some v → w.cell? ⟨b, o + j, none⟩ = some v) : ∃ y, GesAt w b o y := by
  match cs, hl with
  | [v0, v1, v2, v3, v4, v5], _ =>
    obtain ⟨_, _, h0⟩ := fld Try.underlying76 h 0 3 0 rfl
    obtain ⟨_, _, h1⟩ := fld Try.underlying76 h 1 3 1 rfl
    obtain ⟨_, _, h2⟩ := fld Try.underlying76 h 2 3 2 rfl
    obtain ⟨_, _, h3⟩ := fld Try.underlying76 h 3 3 3 rfl
    obtain ⟨_, _, h4⟩ := fld Try.underlying76 h 4 3 4 rfl
    obtain ⟨_, _, h5⟩ := fld Try.underlying76 h 5 3 5 rfl
    simp only [cInt, List.drop_zero, List.drop_succ_cons, List.take_succ_cons, List.take_zero] at h0 h1 h2 h3 h4 h5
    obtain ⟨a0, e0⟩ := int_of Try.underlying3 h0
    injection e0 with e0
    subst e0
    obtain ⟨a1, e1⟩ := int_of Try.underlying3 h1
    injection e1 with e1
    subst e1
    obtain ⟨a2, e2⟩ := int_of Try.underlying3 h2
    injection e2 with e2
    subst e2
    obtain ⟨a3, e3⟩ := int_of Try.underlying3 h3
    injection e3 with e3
    subst e3
    obtain ⟨a4, e4⟩ := int_of Try.underlying3 h4
    injection e4 with e4
    subst e4
    obtain ⟨a5, e5⟩ := int_of Try.underlying3 h5
    injection e5 with e5
    subst e5
    exact ⟨⟨a0, a1, a2, a3, a4, a5⟩, hc 0 _ rfl, hc 1 _ rfl, hc 2 _ rfl, hc 3 _ rfl, hc 4 _ rfl, hc 5 _ rfl⟩
set_option maxRecDepth 100000 in
theorem gess_of {r : Reach} {b0 : Nat} {v : Value} {d : DataW H} {p : List MemPlace} (hv : Value.okWide Try.prog w r b0 70 v) (h : DataW.Trod enc Try.prog w base spare held 70 v d p) :
    ∃ xs, SliceV w v 6 GesAt xs := by
  obtain ⟨fuel, hf⟩ := h
  obtain ⟨v', xs, e, hs⟩ := slice_of (R := GesAt) Try.underlying70 cges (by omega) gesAt_of hf
  obtain ⟨a, l, c, rfl⟩ := okWide_slice (P := Try.prog) (t := 70) (w := w) (r := r) (base := b0) (v := v) Try.underlying70 hv
  have e' : [Value.slice a l c] = [v'] := e
  injection e' with e'
  subst e'
  exact ⟨xs, hs⟩
theorem cglo : Try.prog.cellsOf 103 = 4 := by kernel_rfl
set_option maxRecDepth 100000 in
theorem gloAt_of (n : Nat) (cs : List Value) (x : DataW H × List MemPlace) (b o : Nat) (h : DataW.trod enc Try.prog w base spare held n 103 cs = some x) (hl : cs.length = 4) (hc : ∀ j v, cs[j]? = some v → w.cell? ⟨b, o + j, none⟩ = some v) : ∃ y, GloAt w b o y := by
  match cs, hl with
  | [v0, v1, v2, v3], _ =>
    obtain ⟨_, _, h0⟩ := fld Try.underlying103 h 0 3 0 rfl
    obtain ⟨_, _, h1⟩ := fld Try.underlying103 h 1 3 1 rfl
    obtain ⟨_, _, h2⟩ := fld Try.underlying103 h 2 3 2 rfl
    obtain ⟨_, _, h3⟩ := fld Try.underlying103 h 3 3 3 rfl
    simp only [cInt, List.drop_zero, List.drop_succ_cons, List.take_succ_cons, List.take_zero] at h0 h1 h2 h3
    obtain ⟨a0, e0⟩ := int_of Try.underlying3 h0
    injection e0 with e0
    subst e0
    obtain ⟨a1, e1⟩ := int_of Try.underlying3 h1
    injection e1 with e1
    subst e1
    obtain ⟨a2, e2⟩ := int_of Try.underlying3 h2
    injection e2 with e2
    subst e2
    obtain ⟨a3, e3⟩ := int_of Try.underlying3 h3
    injection e3 with e3
    subst e3
    exact ⟨⟨a0, a1, a2, a3⟩, hc 0 _ rfl, hc 1 _ rfl, hc 2 _ rfl, hc 3 _ rfl⟩
set_option maxRecDepth 100000 in
theorem glos_of {r : Reach} {b0 : Nat} {v : Value} {d : DataW H} {p : List MemPlace} (hv : Value.okWide Try.prog w r b0 78 v) (h : DataW.Trod enc Try.prog w base spare held 78 v d p) :
    ∃ xs, SliceV w v 4 GloAt xs := by
  obtain ⟨fuel, hf⟩ := h
  obtain ⟨v', xs, e, hs⟩ := slice_of (R := GloAt) Try.underlying78 cglo (by omega) gloAt_of hf
  obtain ⟨a, l, c, rfl⟩ := okWide_slice (P := Try.prog) (t := 78) (w := w) (r := r) (base := b0) (v := v) Try.underlying78 hv
  have e' : [Value.slice a l c] = [v'] := e
  injection e' with e'
  subst e'
  exact ⟨xs, hs⟩
theorem cfd : Try.prog.cellsOf 59 = 2 := by kernel_rfl
set_option maxRecDepth 100000 in
theorem fdAt_of (n : Nat) (cs : List Value) (x : DataW H × List MemPlace) (b o : Nat) (h : DataW.trod enc Try.prog w base spare held n 59 cs = some x) (hl : cs.length = 2) (hc : ∀ j v, cs[j]? = some v → w.cell? ⟨b, o + j, none⟩ = some v) : ∃ y, FdAt w b o y := by
  match cs, hl with
  | [v0, v1], _ =>
    obtain ⟨_, _, h0⟩ := fld Try.underlying59 h 0 3 0 rfl
    obtain ⟨_, _, h1⟩ := fld Try.underlying59 h 1 3 1 rfl
    simp only [cInt, List.drop_zero, List.drop_succ_cons, List.take_succ_cons, List.take_zero] at h0 h1
    obtain ⟨a0, e0⟩ := int_of Try.underlying3 h0
    injection e0 with e0
    subst e0
    obtain ⟨a1, e1⟩ := int_of Try.underlying3 h1
    injection e1 with e1
    subst e1
    exact ⟨⟨a0, a1⟩, hc 0 _ rfl, hc 1 _ rfl⟩
set_option maxRecDepth 100000 in
theorem fds_of {r : Reach} {b0 : Nat} {v : Value} {d : DataW H} {p : List MemPlace} (hv : Value.okWide Try.prog w r b0 54 v) (h : DataW.Trod enc Try.prog w base spare held 54 v d p) :
    ∃ xs, SliceV w v 2 FdAt xs := by
  obtain ⟨fuel, hf⟩ := h
  obtain ⟨v', xs, e, hs⟩ := slice_of (R := FdAt) Try.underlying54 cfd (by omega) fdAt_of hf
  obtain ⟨a, l, c, rfl⟩ := okWide_slice (P := Try.prog) (t := 54) (w := w) (r := r) (base := b0) (v := v) Try.underlying54 hv
  have e' : [Value.slice a l c] = [v'] := e
  injection e' with e'
  subst e'
  exact ⟨xs, hs⟩
theorem cShp : Try.prog.cellsOf 24 = 6 := by kernel_rfl
set_option maxRecDepth 100000 in
theorem shp_of {r : Reach} {b0 : Nat} {v : Value} {d : DataW H} {p : List MemPlace} (hv : Value.okWide Try.prog w r b0 24 v) (h : DataW.Trod enc Try.prog w base spare held 24 v d p) :
    ∃ (s : Shp) (va vb : Value), v = .agg #[va, vb, .int .i64 s.joint, .int .i64 s.glottis, .int .i64 s.lips, .int .i64 s.nose] ∧ SliceV w va 1 IntAt s.areas ∧ SliceV w vb 1 IntAt s.branch := by
  obtain ⟨cs, rfl, hsz⟩ := okWide_struct (P := Try.prog) (t := 24) (w := w) (r := r) (base := b0) (v := v) Try.underlying24 hv
  obtain ⟨l⟩ := cs
  match l, hsz.trans cShp with
  | [v0, v1, v2, v3, v4, v5], _ =>
    obtain ⟨fuel, hf⟩ := h
    obtain ⟨_, _, h0⟩ := fld Try.underlying24 hf 0 22 0 rfl
    obtain ⟨_, _, h1⟩ := fld Try.underlying24 hf 1 22 1 rfl
    obtain ⟨_, _, h2⟩ := fld Try.underlying24 hf 2 3 2 rfl
    obtain ⟨_, _, h3⟩ := fld Try.underlying24 hf 3 3 3 rfl
    obtain ⟨_, _, h4⟩ := fld Try.underlying24 hf 4 3 4 rfl
    obtain ⟨_, _, h5⟩ := fld Try.underlying24 hf 5 3 5 rfl
    simp only [Value.cells, cInts, cInt, List.drop_zero, List.drop_succ_cons, List.take_succ_cons, List.take_zero] at h0 h1 h2 h3 h4 h5
    obtain ⟨vs, xs, e0, hs⟩ := slice_of (R := IntAt) Try.underlying22 cInt (by omega) intAt_of h0
    obtain ⟨vm, ys, e1, hm⟩ := slice_of (R := IntAt) Try.underlying22 cInt (by omega) intAt_of h1
    obtain ⟨a2, e2⟩ := int_of Try.underlying3 h2
    obtain ⟨a3, e3⟩ := int_of Try.underlying3 h3
    obtain ⟨a4, e4⟩ := int_of Try.underlying3 h4
    obtain ⟨a5, e5⟩ := int_of Try.underlying3 h5
    injection e0 with e0; injection e1 with e1; injection e2 with e2; injection e3 with e3; injection e4 with e4; injection e5 with e5
    subst e0 e1 e2 e3 e4 e5
    exact ⟨⟨xs, ys, a2, a3, a4, a5⟩, _, _, rfl, hs, hm⟩
end
end Go.Proofs.Ytbmbcbknoflpgaa

namespace Go.Proofs.Ytbmbcbknoflpgaa
open Go.ChangeShapes Go.WideShapes Go.RowKit Go.Deep

section
variable {H : Type} {enc : TypeId × Value → H} {P : Program}

/-- A type whose data reads the same under any word on room that admits all that is read. -/
def Sw (enc : TypeId × Value → H) (P : Program) (t : TypeId) : Prop :=
  ∀ (w : World) (base : Nat) (held : Bool) (sp : Nat → Bool) (n : Nat) (cs : List Value) (x : DataW H × List MemPlace), DataW.trod enc P w base (fun _ => true) held n t cs = some x → (∀ p ∈ x.2, sp p.block = true) → DataW.trod enc P w base sp held n t cs = some x

theorem sw_int {t : TypeId} {k : IntKind} (ht : P.underlying t = some (.int k)) : Sw enc P t := by
  intro w base held sp n cs x h _
  obtain ⟨k', rfl, rfl, hw⟩ := DataW.trod_int ht h
  cases n with
  | zero => simp [DataW.trod] at h
  | succ n => exact trod_int_mk n ht hw
theorem sw_string {t : TypeId} (ht : P.underlying t = some .string) : Sw enc P t := by
  intro w base held sp n cs x h _
  obtain ⟨s, rfl, rfl, hs⟩ := DataW.trod_string ht h
  cases n with
  | zero => simp [DataW.trod] at h
  | succ n => simp [DataW.trod, ht, hs]
theorem sw_struct {t : TypeId} {fs : Array Field} (ht : P.underlying t = some (.struct fs)) (hf : ∀ f ∈ fs.toList, Sw enc P f.type) : Sw enc P t := by
  intro w base held sp n cs x h hp
  cases n with
  | zero => simp [DataW.trod] at h
  | succ n =>
    unfold DataW.trod at h ⊢
    rw [ht] at h ⊢
    simp only at h ⊢
    split at h
    · rename_i hl
      rw [if_pos hl]
      obtain ⟨xs, hx, rfl⟩ := Option.map_eq_some_iff.1 h
      rw [mapM_carry hx (fun f y hfm hy hfy => hf f hfm w base held sp n _ y hfy fun p hpm => hp p (List.mem_flatMap.2 ⟨y, hy, hpm⟩))]
      rfl
    · cases h
theorem sw_slice {t e : TypeId} (ht : P.underlying t = some (.slice e)) (hc : 0 < P.cellsOf e) (he : Sw enc P e) : Sw enc P t := by
  intro w base held sp n cs x h hp
  cases n with
  | zero => simp [DataW.trod] at h
  | succ n =>
    rcases open_slice ht h with ⟨rfl, rfl⟩ | ⟨a, len, cap, m, n', D, Pl, rfl, hb, hl, hcap, hm, hx, -⟩
    · simp [DataW.trod, ht]
    · simp only [DataW.trod, ht] at h ⊢
      have hg : base ≤ a.block ∧ len ≤ cap ∧ cap ≤ maxLen := ⟨hb, hl, hcap⟩
      rw [if_pos hg] at h ⊢
      simp only [if_true] at h
      obtain ⟨elems, h1, h2⟩ := Option.bind_eq_some_iff.1 h
      obtain ⟨rest, h3, rfl⟩ := Option.map_eq_some_iff.1 h2
      have hin : ∀ y ∈ elems ++ rest, ∀ p ∈ y.2, sp p.block = true := fun y hy p hpm => hp p (List.mem_append.2 (.inr (List.mem_flatMap.2 ⟨y, hy, hpm⟩)))
      have key : ∀ (i : Nat) (y : DataW H × List MemPlace), (∀ p ∈ y.2, sp p.block = true) → (w.cells? base (a.add (i * P.cellsOf e)) (P.cellsOf e)).bind (DataW.trod enc P w base (fun _ => true) held n e) = some y →
          (w.cells? base (a.add (i * P.cellsOf e)) (P.cellsOf e)).bind (DataW.trod enc P w base sp held n e) = some y := by
        intro i y hy hi
        obtain ⟨cs', hcs, htr⟩ := Option.bind_eq_some_iff.1 hi
        rw [hcs]
        exact he w base held sp n cs' y htr hy
      have g1 := mapM_carry (g := fun i => (w.cells? base (a.add (i * P.cellsOf e)) (P.cellsOf e)).bind (DataW.trod enc P w base sp held n e)) h1 (fun i y _ hy hi => key i y (hin y (List.mem_append.2 (.inl hy))) hi)
      have g3 := mapM_carry (g := fun j => (w.cells? base (a.add ((len + j) * P.cellsOf e)) (P.cellsOf e)).bind (DataW.trod enc P w base sp held n e)) h3 (fun i y _ hy hi => key (len + i) y (hin y (List.mem_append.2 (.inr hy))) hi)
      rw [g1]
      simp only [Option.bind_some]
      by_cases h0 : cap = 0
      · have hr : rest = [] := by
          have : cap - len = 0 := by omega
          rw [this] at h3
          simpa using h3.symm
        subst hr
        have : cap - len = 0 := by omega
        rw [this] at g3 ⊢
        simp
      · have hsp : sp a.block = true := by
          have hlen : elems.length + rest.length = cap := by
            have e1 := mapM_some_length h1
            have e2 := mapM_some_length h3
            simp only [List.length_range] at e1 e2
            omega
          refine hp (.cell a.block (a.off + 0)) (List.mem_append.2 (.inl (MemPlace.mem_row.2 ⟨0, ?_, rfl⟩)))
          rw [hlen]
          exact Nat.mul_pos (by omega) hc
        rw [if_pos hsp, g3]
        rfl
theorem trodAll_carry {w w' : World} {base : Nat} {held : Bool} {sp : Nat → Bool} : ∀ {ts : List TypeId} {vs : List Value} {ds : List (DataW H)} {p : List MemPlace}, (∀ t ∈ ts, Sw enc P t) → DataW.TrodAll enc P w base (fun _ => true) held ts vs ds p → (∀ x ∈ p, w.sameAt w' x) → (∀ x ∈ p, sp x.block = true) → DataW.TrodAll enc P w' base sp held ts vs ds p
  | [], [], [], _, _, h, _, _ => h
  | t :: _, _ :: _, _ :: _, _, hs, ⟨p, q, ⟨n, h⟩, hr, e⟩, k, l => by
    subst e
    exact ⟨p, q, ⟨n, hs t (List.mem_cons_self ..) _ _ _ _ _ _ _ (DataW.trod_carry n _ _ _ h fun x hx => k x (List.mem_append.2 (.inl hx))) fun x hx => l x (List.mem_append.2 (.inl hx))⟩,
      trodAll_carry (fun t ht => hs t (List.mem_cons_of_mem _ ht)) hr (fun x hx => k x (List.mem_append.2 (.inr hx))) (fun x hx => l x (List.mem_append.2 (.inr hx))), rfl⟩
  | [], [], _ :: _, _, _, h, _, _ => False.elim h
  | [], _ :: _, _, _, _, h, _, _ => by cases h
  | _ :: _, [], _, _, _, h, _, _ => by cases h
  | _ :: _, _ :: _, [], _, _, h, _, _ => by cases h
end
end Go.Proofs.Ytbmbcbknoflpgaa

namespace Go.Proofs.Ytbmbcbknoflpgaa
open Go.ChangeShapes Go.WideShapes Go.RowKit Go.Deep

section
variable {H : Type} {enc : TypeId × Value → H} {P : Program}

theorem true_post {f : Func} {s : ChangeSpec} {apart fresh handsOn again : Bool} {W W' : World} {args : Array Value} {ds gs : List (DataW H)} {before : List MemPlace} {tb : TypeId}
    (hW : DataW.Whole enc P f.params.toList s.vars apart W args.toList ds gs before) (hvars : s.vars = []) (hsw : ∀ t ∈ f.params.toList, Sw enc P t) (hr : f.resultTypes = #[tb]) (hb : P.underlying tb = some .bool)
    (hfn : s.fn H (ds ++ gs) = { results := [.lit (.bool true)], args := ds }) (hB : Below W.heap.size W W') :
    s.post enc P f apart fresh handsOn again W args (.bool true) W' := by
  have hlt := hW.lt
  have hWhole := hW
  obtain ⟨p, q, hA, hV, rfl, hz, hn⟩ := hW
  rw [hvars] at hV
  obtain ⟨rfl, rfl⟩ := trodVars_none hV
  simp only [List.append_nil] at hz hn hlt hfn
  have hsame : ∀ x ∈ p, W.sameAt W' x := fun x hx => hB.same (hlt x hx)
  have hargs : ∀ sp : Nat → Bool, (∀ x ∈ p, sp x.block = true) → DataW.TrodAll enc P W' 0 sp true f.params.toList args.toList ds p := fun sp hsp => trodAll_carry hsw hA hsame hsp
  have hres : ∀ (b : Nat) (sp : Nat → Bool) (hd : Bool), DataW.TrodAll enc P W' b sp hd f.resultTypes.toList ((Value.bool true).resultList f.resultTypes.size) [.lit (.bool true)] [] := fun b sp hd => by
    rw [hr]
    exact trodAll_cons_mk (shut_bool hb _) trodAll_mk0
  have hnone : ∀ sp : Nat → Bool, DataW.TrodVars enc P W' sp s.vars [] [] := fun sp => by rw [hvars]; rfl
  refine ⟨ds, [], p ++ [], [], p, [], hWhole, ?_, ?_, ?_, ?_, fun _ => ⟨?_, [.lit (.bool true)] ++ ds, [], p, ⟨[] ++ p, [], ?_, ?_, by simp, ?_, ?_⟩, fun x hx _ => by simpa using hx⟩⟩
  · rw [List.append_nil, hfn]; exact hres _ _ _
  · rw [List.append_nil, hfn]; exact hargs _ fun x hx => by simpa using hlt x hx
  · rw [List.append_nil, hfn]; exact hnone _
  · refine World.keptBut_mono (fun x hx => ?_) (hB.frame (· ∈ p))
    exact ⟨by simpa using hx, .inr (.inl hx)⟩
  · exact ok_one hr rfl (okWide_bool_mk hb _)
  · exact trodAll_append (hargs _ fun _ _ => rfl) (hres _ _ _)
  · exact hnone _
  · intro b off hp
    rw [hB.frozen (hlt _ hp)]
    exact hz b off hp
  · exact hn
end
end Go.Proofs.Ytbmbcbknoflpgaa

namespace Go.Proofs.Ytbmbcbknoflpgaa
open Go.ChangeShapes Go.WideShapes Go.RowKit Go.Deep Go.ChangeAt
section
variable {H : Type} {enc : TypeId × Value → H}
theorem twInt : Sw enc Try.prog 3 := sw_int Try.underlying3
theorem twInts : Sw enc Try.prog 22 := sw_slice Try.underlying22 (by rw [cInt]; omega) twInt
theorem twWaves : Sw enc Try.prog 37 := sw_slice Try.underlying37 (by rw [cInts]; omega) twInts
theorem twGe : Sw enc Try.prog 76 := sw_struct Try.underlying76 (by simp [twInt])
theorem twGes : Sw enc Try.prog 70 := sw_slice Try.underlying70 (by rw [cges]; omega) twGe
theorem twGl : Sw enc Try.prog 103 := sw_struct Try.underlying103 (by simp [twInt])
theorem twGlo : Sw enc Try.prog 78 := sw_slice Try.underlying78 (by rw [cglo]; omega) twGl
theorem twFd : Sw enc Try.prog 59 := sw_struct Try.underlying59 (by simp [twInt])
theorem twFds : Sw enc Try.prog 54 := sw_slice Try.underlying54 (by rw [cfd]; omega) twFd
theorem twShp : Sw enc Try.prog 24 := sw_struct Try.underlying24 (by simp [twInts, twInt])
theorem own_knob : ownKnob Try.prog.godebug = none := by kernel_rfl
end
end Go.Proofs.Ytbmbcbknoflpgaa
