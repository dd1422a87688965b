/- The plays of the laws of layer 8, opened. -/
import Derived.Test.YtbmbcbknoflpgaaF0
import Derived.Test.YtbmbcbknoflpgaaOM
set_option linter.unusedSimpArgs false
set_option linter.unusedVariables false
namespace Go.Proofs.Ytbmbcbknoflpgaa
open Go.ChangeShapes Go.WideShapes Go.RowKit Go.Deep Go.ChangeAt

section
variable {H : Type} {enc : TypeId × Value → H} {w : World} {base : Nat} {spare : Nat → Bool} {held : Bool}

theorem cFds : Try.prog.cellsOf 54 = 1 := by kernel_rfl
theorem cShp2 : Try.prog.cellsOf 24 = 6 := by kernel_rfl
theorem cFdss : Try.prog.cellsOf 36 = 1 := by kernel_rfl
theorem cPly : Try.prog.cellsOf 39 = 9 := by kernel_rfl
theorem fdsAt_of (n : Nat) (cs : List Value) (x : DataW H × List MemPlace) (b o : Nat) (h : DataW.trod enc Try.prog w base spare held n 54 cs = some x) (_ : cs.length = 1) (hc : ∀ j v, cs[j]? = some v → w.cell? ⟨b, o + j, none⟩ = some v) : ∃ y, FdsAt w b o y := by
  obtain ⟨v, xs, rfl, hs⟩ := slice_of (R := FdAt) Try.underlying54 cfd (by omega) fdAt_of h
  exact ⟨xs, v, hc 0 _ rfl, hs⟩
set_option maxRecDepth 100000 in
theorem ply_of {r : Reach} {b0 : Nat} {v : Value} {d : DataW H} {p : List MemPlace} (hv : Value.okWide Try.prog w r b0 39 v) (h : DataW.Trod enc Try.prog w base spare held 39 v d p) :
    ∃ (x : Ply) (va vb vf vA vB : Value), v = .agg #[va, vb, .int .i64 x.s.joint, .int .i64 x.s.glottis, .int .i64 x.s.lips, .int .i64 x.s.nose, vf, vA, vB] ∧ PlyV w va vb vf vA vB x := by
  obtain ⟨cs, rfl, hsz⟩ := okWide_struct (P := Try.prog) (t := 39) (w := w) (r := r) (base := b0) (v := v) Try.underlying39 hv
  obtain ⟨l⟩ := cs
  match l, hsz.trans cPly with
  | [v0, v1, v2, v3, v4, v5, v6, v7, v8], _ =>
    obtain ⟨fuel, hf⟩ := h
    obtain ⟨_, _, hS⟩ := fld Try.underlying39 hf 0 24 0 rfl
    obtain ⟨_, _, h6⟩ := fld Try.underlying39 hf 1 36 6 rfl
    obtain ⟨_, _, h7⟩ := fld Try.underlying39 hf 2 37 7 rfl
    obtain ⟨_, _, h8⟩ := fld Try.underlying39 hf 3 37 8 rfl
    simp only [Value.cells, cShp2, cFdss, cWaves, List.drop_zero, List.drop_succ_cons, List.take_succ_cons, List.take_zero] at hS h6 h7 h8
    obtain ⟨_, _, h0⟩ := fld Try.underlying24 hS 0 22 0 rfl
    obtain ⟨_, _, h1⟩ := fld Try.underlying24 hS 1 22 1 rfl
    obtain ⟨_, _, h2⟩ := fld Try.underlying24 hS 2 3 2 rfl
    obtain ⟨_, _, h3⟩ := fld Try.underlying24 hS 3 3 3 rfl
    obtain ⟨_, _, h4⟩ := fld Try.underlying24 hS 4 3 4 rfl
    obtain ⟨_, _, h5⟩ := fld Try.underlying24 hS 5 3 5 rfl
    simp only [cInts, cInt, List.drop_zero, List.drop_succ_cons, List.take_succ_cons, List.take_zero] at h0 h1 h2 h3 h4 h5
    obtain ⟨vs, xs, e0, hs⟩ := slice_of (R := IntAt) Try.underlying22 cInt (by omega) intAt_of h0
    obtain ⟨vm, ys, e1, hm⟩ := slice_of (R := IntAt) Try.underlying22 cInt (by omega) intAt_of h1
    obtain ⟨a2, e2⟩ := int_of Try.underlying3 h2
    obtain ⟨a3, e3⟩ := int_of Try.underlying3 h3
    obtain ⟨a4, e4⟩ := int_of Try.underlying3 h4
    obtain ⟨a5, e5⟩ := int_of Try.underlying3 h5
    obtain ⟨vf, fs, e6, hfs⟩ := slice_of (R := FdsAt) Try.underlying36 cFds (by omega) fdsAt_of h6
    obtain ⟨vA, qs, e7, has⟩ := slice_of (R := WaveAt) Try.underlying37 cInts (by omega) waveAt_of h7
    obtain ⟨vB, bs, e8, hbs⟩ := slice_of (R := WaveAt) Try.underlying37 cInts (by omega) waveAt_of h8
    injection e0 with e0; injection e1 with e1; injection e2 with e2; injection e3 with e3; injection e4 with e4; injection e5 with e5; injection e6 with e6; injection e7 with e7; injection e8 with e8
    subst e0 e1 e2 e3 e4 e5 e6 e7 e8
    exact ⟨⟨⟨xs, ys, a2, a3, a4, a5⟩, fs, qs, bs⟩, _, _, _, _, _, rfl, hs, hm, hfs, has, hbs⟩
end
section
variable {H : Type} {enc : TypeId × Value → H}
theorem twFdss : Sw enc Try.prog 36 := sw_slice Try.underlying36 (by rw [cFds]; omega) twFds
theorem twPly : Sw enc Try.prog 39 := sw_struct Try.underlying39 (by simp [twShp, twFdss, twWaves])
end
end Go.Proofs.Ytbmbcbknoflpgaa
