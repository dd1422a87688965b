/- The chapter's examples hold. -/
import Derived.Test.YtbeeddenidfenaaG71
import Derived.Test.YtbeeddenidfenaaF1
import Derived.Test.YtbeeddenidfenaaD4
set_option linter.unusedSimpArgs false
set_option linter.unusedVariables false
namespace Go.Proofs.Ytbeeddenidfenaa
open Go.RowKit

theorem lit_slice (W : World) (l : List Int) (hl : l.length ≤ 1000000) : SliceV (W.alloc (.cells (intV l).toArray 3)) (.slice (some ⟨W.heap.size, 0, none⟩) l.length l.length) 1 IntAt l :=
  ⟨_, _, rfl, ⟨by unfold most; omega, Nat.le_refl _⟩, .inr ⟨W.heap.size, 0, rfl, fun i hi => by
    show (W.alloc _).cell? ⟨W.heap.size, 0 + i * 1, none⟩ = _
    refine cell_new ?_
    simp [intV, hi]⟩⟩
theorem lit_at {V : World} {n : Nat} (l : List Int) (hn : V.heap.size = n) (hl : l.length ≤ 1000000) : SliceV (V.alloc (.cells (intV l).toArray 3)) (.slice (some ⟨n, 0, none⟩) l.length l.length) 1 IntAt l := by
  subst hn; exact lit_slice V l hl
theorem lag_known (W : World) (v u : Value) (hv : SliceV W v 1 IntAt [9, 1, 2]) (hu : SliceV W u 1 IntAt [0, 1, 2]) :
    Calls Try.prog 33 #[v, u, .int .i64 2, .int .i64 5] W fun e w' => e = .returned (.tuple #[.int .i64 1, .int .i64 0, .int .i64 0]) ∧ Below W.heap.size W w' := by
  have h := Lag_any [9, 1, 2] [0, 1, 2] 2 5 v u W hv hu (by decide) (by decide)
  have e : lagRes [9, 1, 2] [0, 1, 2] 2 5 = .tuple #[.int .i64 1, .int .i64 0, .int .i64 0] := by kernel_rfl
  rwa [e] at h
theorem fade_known (W : World) (v u : Value) (hv : SliceV W v 1 IntAt [0, 0, 0]) (hu : SliceV W u 1 IntAt [8, 8, 8]) :
    Calls Try.prog 35 #[v, u] W fun e w' => (∃ r, e = .returned (.tuple #[r, .int .i64 0]) ∧ SliceV w' r 1 IntAt [2, 4, 6]) ∧ Below W.heap.size W w' := by
  have h := Fade_any [0, 0, 0] [8, 8, 8] v u W hv hu
  have e : chk (fadeOk [0, 0, 0] [8, 8, 8]) [[0, 0, 0], [8, 8, 8]] = 0 := by kernel_rfl
  have e2 : fadeL [0, 0, 0] [8, 8, 8] = [2, 4, 6] := by kernel_rfl
  rw [e, if_pos rfl, e2] at h
  exact h
theorem chain_known (W : World) (v : Value) (hv : SliceV W v 1 WaveAt [[1, 2], [2, 3], [3, 4]]) :
    Calls Try.prog 38 #[.int .i64 1, .int .i64 9, v] W fun e w' => (∃ r1 r2, e = .returned (.tuple #[r1, r2, .int .i64 0]) ∧ SliceV w' r1 1 IntAt [1, 2, 3, 4] ∧ SliceV w' r2 1 IntAt [0, 1, 2]) ∧ Below W.heap.size W w' := by
  have h := Chain_any 1 9 [[1, 2], [2, 3], [3, 4]] v W hv (by decide) (by decide)
  have e : chainV 1 9 [[1, 2], [2, 3], [3, 4]] = (0, [1, 2, 3, 4], [0, 1, 2]) := by kernel_rfl
  rw [e] at h
  exact h
theorem tf_known {er : Int} {r s : Mk} {e : Ending} {w' : World} (h : TfPost er r e w') (h1 : er = 0) (h2 : r = s) : ∃ ra rc qa qc, e = .returned (.tuple #[.agg #[.slice ra s.sam.length rc, .slice qa s.marks.length qc], .int .i64 0]) ∧ MkV w' (.slice ra s.sam.length rc) (.slice qa s.marks.length qc) s := by
  subst h1 h2
  obtain ⟨rs, rm, rfl, h3, h4⟩ := h
  obtain ⟨ra, rc, rfl, h5⟩ := id h3
  obtain ⟨qa, qc, rfl, h6⟩ := id h4
  exact ⟨ra, rc, qa, qc, rfl, h3, h4⟩
def exStr : Mk := ⟨[5, 1, 2, 1, 2, 3, 4, 3, 4, 6], [1, 3, 5, 7, 9]⟩
def exTra : Mk := ⟨[5, 1, 3, 6], [1, 2, 3]⟩
theorem str_known (W : World) (vs vm : Value) (hv : MkV W vs vm exMk) :
    Calls Try.prog 41 #[.agg #[vs, vm], .int .i64 2, .int .i64 1] W fun e w' => (∃ ra rc qa qc, e = .returned (.tuple #[.agg #[.slice ra 10 rc, .slice qa 5 qc], .int .i64 0]) ∧ MkV w' (.slice ra 10 rc) (.slice qa 5 qc) exStr) ∧ Below W.heap.size W w' :=
  (Stretch_any exMk 2 1 vs vm W hv (by decide)).mono fun _ _ ⟨h, hb⟩ => ⟨tf_known (s := exStr) h (by kernel_rfl) (by kernel_rfl), hb⟩
theorem tra_known (W : World) (vs vm : Value) (hv : MkV W vs vm exMk) :
    Calls Try.prog 42 #[.agg #[vs, vm], .int .i64 2, .int .i64 1] W fun e w' => (∃ ra rc qa qc, e = .returned (.tuple #[.agg #[.slice ra 4 rc, .slice qa 3 qc], .int .i64 0]) ∧ MkV w' (.slice ra 4 rc) (.slice qa 3 qc) exTra) ∧ Below W.heap.size W w' :=
  (Transpose_any exMk 2 1 vs vm W hv (by decide)).mono fun _ _ ⟨h, hb⟩ => ⟨tf_known (s := exTra) h (by kernel_rfl) (by kernel_rfl), hb⟩
theorem gain_known (W : World) (v : Value) (hv : SliceV W v 1 IntAt [30000]) :
    Calls Try.prog 52 #[v, .int .i64 2, .int .i64 1] W fun e w' => (∃ r, e = .returned (.tuple #[r, .int .i64 1, .int .i64 0]) ∧ SliceV w' r 1 IntAt [32767]) ∧ Below W.heap.size W w' := by
  have h := Gain_any [30000] 2 1 v W hv
  have e : chk (gainOk 2 1) [[30000]] = 0 := by kernel_rfl
  have e2 : gainL [30000] 2 1 = [32767] := by kernel_rfl
  have e3 : ((clips [30000] 2 1 : Nat) : Int) = 1 := by kernel_rfl
  rw [e, if_pos rfl, if_pos rfl, e2, e3] at h
  exact h
theorem same_known (W : World) (v u : Value) (l : List Int) (hv : SliceV W v 1 IntAt l) (hu : SliceV W u 1 IntAt l) : Calls Try.prog 31 #[v, u] W fun e w' => e = .returned (.bool true) ∧ Below W.heap.size W w' :=
  (Same_any l l v u W hv hu).mono fun _ _ ⟨h, hb⟩ => ⟨by rw [h, decide_eq_true rfl], hb⟩
theorem sameM_known (W : World) (vs vm us um : Value) (m : Mk) (hv : MkV W vs vm m) (hu : MkV W us um m) : Calls Try.prog 48 #[.agg #[vs, vm], .agg #[us, um]] W fun e w' => e = .returned (.bool true) ∧ Below W.heap.size W w' :=
  (SameMarked_any m m vs vm us um W hv hu).mono fun _ _ ⟨h, hb⟩ => ⟨by rw [h, decide_eq_true rfl], hb⟩
theorem wave3 {W : World} {n : Nat} {v1 v2 v3 : Value} {l1 l2 l3 : List Int} (hn : W.heap.size = n) (h1 : SliceV W v1 1 IntAt l1) (h2 : SliceV W v2 1 IntAt l2) (h3 : SliceV W v3 1 IntAt l3) (t : Nat) : SliceV (W.alloc (.cells #[v1, v2, v3] t)) (.slice (some ⟨n, 0, none⟩) 3 3) 1 WaveAt [l1, l2, l3] := by
  subst hn
  exact ⟨_, 3, rfl, ⟨by show 3 ≤ most; unfold most; omega, Nat.le_refl 3⟩, .inr ⟨W.heap.size, 0, rfl, fun i hi => by
    have : i < 3 := hi
    obtain rfl | rfl | rfl : i = 0 ∨ i = 1 ∨ i = 2 := by omega
    · exact ⟨v1, cell_new rfl, h1.keep IntAt.stable (bAlloc (Below.refl _ _) _)⟩
    · exact ⟨v2, cell_new rfl, h2.keep IntAt.stable (bAlloc (Below.refl _ _) _)⟩
    · exact ⟨v3, cell_new rfl, h3.keep IntAt.stable (bAlloc (Below.refl _ _) _)⟩⟩⟩
end Go.Proofs.Ytbeeddenidfenaa
