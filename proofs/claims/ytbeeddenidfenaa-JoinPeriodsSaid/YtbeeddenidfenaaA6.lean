/- Contracts: differences, sums of squares, mismatches. -/
import Derived.Test.YtbeeddenidfenaaA4
import Derived.Deep.OwnRows
set_option linter.unusedSimpArgs false
set_option linter.unusedVariables false
namespace Go.Proofs.Ytbeeddenidfenaa
open Go.RowKit

theorem info_parts {t : TypeId} {z : Option Value} {s b : Nat} (h : (Try.prog.info? t).map (fun i => (i.zero, i.size, i.bytes)) = some (z, s, b)) : ∃ i, Try.prog.info? t = some i ∧ i.zero = z ∧ i.size = s ∧ i.bytes = b := by
  cases hi : Try.prog.info? t with
  | none => rw [hi] at h; cases h
  | some i =>
    rw [hi] at h
    simp only [Option.map_some, Option.some.injEq, Prod.mk.injEq] at h
    exact ⟨i, rfl, h.1, h.2.1, h.2.2⟩
theorem infoI : (Try.prog.info? 3).map (fun i => (i.zero, i.size, i.bytes)) = some (some (.int .i64 0), 1, 8) := by kernel_rfl
theorem makeI (n : Nat) (hn : n ≤ 1000000) (W : World) : (Instr.makeSlice 22 (.int .i64 (n : Int)) (.int .i64 (n : Int))).run Try.prog W = .ok (.slice (some ⟨W.heap.size, 0, none⟩) n n) (W.alloc (.cells (madeCells #[Value.int .i64 0] n) 3)) := by
  obtain ⟨i3, hi3, hz3, hs3, hb3⟩ := info_parts infoI
  have h := run_makeSlice (P := Try.prog) (w := W) 22 3 i3 _ Try.underlying22 hi3 hz3 .i64 .i64 (n : Int) (n : Int) (by omega) (by omega) (by rw [hs3]; omega) (by rw [hb3]; omega) (by omega)
  rw [hs3] at h
  simpa [Value.cells] using h
/-- A row of ints of one's own, as a slice. -/
theorem row_slice {w : World} {g n : Nat} {f : Nat → Value} {xs : List Int} (h : w.rowIs g 3 n f) (hl : xs.length = n) (hf : ∀ i (hi : i < xs.length), f i = .int .i64 xs[i]) (hm : n ≤ most) : SliceV w (.slice (some ⟨g, 0, none⟩) n n) 1 IntAt xs := by
  subst hl
  refine ⟨_, xs.length, rfl, ⟨hm, Nat.le_refl _⟩, .inr ⟨g, 0, rfl, fun i hi => ?_⟩⟩
  have := h.cell (i := i) hi
  rw [hf i hi] at this
  show w.cell? ⟨g, 0 + i * 1, none⟩ = _
  simpa using this
/-- A part of a slice of ints. -/
theorem SliceV.part {w : World} {b o n c : Nat} {xs : List Int} (h : SliceV w (.slice (some ⟨b, o, none⟩) n c) 1 IntAt xs) (i m c' : Nat) (hi : i + m ≤ xs.length) (hc : m ≤ c') : SliceV w (.slice (some ⟨b, o + i, none⟩) m c') 1 IntAt ((xs.drop i).take m) := by
  obtain ⟨a, c0, hv, hl, hx⟩ := h
  obtain ⟨ha, rfl, rfl⟩ := Value.slice.inj hv
  have hlen : ((xs.drop i).take m).length = m := by simp; omega
  refine ⟨_, c', by rw [hlen], by rw [hlen]; omega, ?_⟩
  rcases hx with hx | ⟨b', o', hb, hf⟩
  · left; subst hx; simp
  · right
    rw [hb] at ha
    obtain ⟨rfl, rfl⟩ : b = b' ∧ o = o' := by simpa using ha
    refine ⟨b, o + i, rfl, fun j hj => ?_⟩
    have := hf (i + j) (by omega)
    simp only [List.getElem_take, List.getElem_drop]
    unfold IntAt at this ⊢
    rw [Nat.mul_one] at this ⊢
    rw [show o + i + j = o + (i + j) by omega]
    exact this
/-- The end of a slice of ints: where nothing of its room is left, the address stays. -/
theorem SliceV.from {w : World} {b o n c : Nat} {xs : List Int} (h : SliceV w (.slice (some ⟨b, o, none⟩) n c) 1 IntAt xs) (i : Nat) (hi : i ≤ n) : SliceV w (.slice (if c = i then some ⟨b, o, none⟩ else some ⟨b, o + i, none⟩) (n - i) (c - i)) 1 IntAt (xs.drop i) := by
  have hn := h.len
  subst hn
  have hlc : xs.length ≤ c := by
    obtain ⟨a, c', hv, hl, -⟩ := id h
    obtain ⟨-, -, rfl⟩ := Value.slice.inj hv
    exact hl.2
  by_cases hc : c = i
  · rw [if_pos hc]
    have h0 : xs.length - i = 0 := by omega
    rw [List.drop_eq_nil_of_le (by omega), h0]
    exact ⟨_, _, rfl, ⟨Nat.zero_le _, Nat.zero_le _⟩, .inl rfl⟩
  · rw [if_neg hc]
    have := h.part i (xs.length - i) (c - i) (by omega) (by omega)
    rwa [List.take_of_length_le (by simp)] at this
def diffs (x y : List Int) : List Int := List.zipWith (fun a b => a - b) x y
theorem diffs_len {x y : List Int} (h : x.length = y.length) : (diffs x y).length = x.length := by unfold diffs; rw [List.length_zipWith]; omega
theorem diffs_get {x y : List Int} {i : Nat} (hi : i < (diffs x y).length) : (diffs x y)[i] = x[i]'(by unfold diffs at hi; rw [List.length_zipWith] at hi; omega) - y[i]'(by unfold diffs at hi; rw [List.length_zipWith] at hi; omega) := by
  simp [diffs]
/-- All samples are small. -/
def Sm (l : List Int) : Prop := ∀ x ∈ l, -32768 ≤ x ∧ x ≤ 32767
theorem sm_of {l : List Int} (h : waveOk l = true) : Sm l := fun x hx => by
  have := List.all_eq_true.1 h x hx
  simpa [samOk, betw] using this

set_option maxRecDepth 10000 in
set_option maxHeartbeats 4000000 in
theorem differences_any (x y : List Int) (v u : Value) (w : World) (hv : SliceV w v 1 IntAt x) (hu : SliceV w u 1 IntAt y) (hlen : x.length = y.length) (hx : Sm x) (hy : Sm y) (hn : x.length ≤ 1000000) :
    Calls Try.prog 85 #[v, u] w fun e w' => (∃ g, e = .returned (.slice (some ⟨g, 0, none⟩) x.length x.length) ∧ w.heap.size ≤ g ∧ SliceV w' (.slice (some ⟨g, 0, none⟩) x.length x.length) 1 IntAt (diffs x y)) ∧ Below w.heap.size w w' := by
  have HV := Lib.hid hv
  have HU := Lib.hid hu
  obtain ⟨a, c, rfl, -⟩ := hv
  obtain ⟨b, d, rfl, -⟩ := hu
  have hmk := makeI x.length hn
  have HX := Lib.hid hx
  have HY := Lib.hid hy
  have HLEN := Lib.hid hlen
  clear hx hy hlen
  go_enter Try.func85, Try.ntmps85
  go_wp2_with fail
  have HR0 : Hid ((w.alloc (.cells (madeCells #[Value.int .i64 0] x.length) 3)).rowIs w.heap.size 3 x.length (fun i => .int .i64 (if i < 0 then x.getD i 0 - y.getD i 0 else 0))) := Lib.hid ((World.rowIs_made w (.int .i64 0) x.length 3).congr fun i hi => by rw [if_neg (by omega)])
  have HB0 := Lib.hid (bAlloc (Below.refl w.heap.size w) (.cells (madeCells #[Value.int .i64 0] x.length) 3))
  clear hmk
  generalize World.alloc w _ = W1 at *
  go_loopw [12] (fun i wr => ∃ k : Nat, k ≤ x.length ∧ i = .int .i64 k ∧ Hid (wr.rowIs w.heap.size 3 x.length (fun i => .int .i64 (if i < k then x.getD i 0 - y.getD i 0 else 0))) ∧ Hid (Below w.heap.size w wr)) (fun i _ => x.length - (intOf i).toNat)
  case atStart => exact ⟨0, Nat.zero_le _, rfl, HR0, HB0⟩
  case round =>
    obtain ⟨k, hk, rfl, HR, HB⟩ := hrel
    by_cases hlt : k < x.length
    · have hly : k < y.length := by have := HLEN.out; omega
      obtain ⟨xb, xo, rfl, hxf⟩ := (HV.out.keep IntAt.stable HB.out).at (by intro h; simp [h] at hlt)
      obtain ⟨yb, yo, rfl, hyf⟩ := (HU.out.keep IntAt.stable HB.out).at (by intro h; simp [h] at hly)
      have p0 := hxf k hlt
      have q0 := hyf k hly
      unfold IntAt at p0 q0
      rw [Nat.mul_one] at p0 q0
      have hp := HX.out _ (List.getElem_mem hlt)
      have hq := HY.out _ (List.getElem_mem hly)
      have HPX : Hid (x.getD k 0 = x[k]) := Lib.hid (by rw [List.getD_eq_getElem?_getD, List.getElem?_eq_getElem hlt]; rfl)
      have HQY : Hid (y.getD k 0 = y[k]) := Lib.hid (by rw [List.getD_eq_getElem?_getD, List.getElem?_eq_getElem hly]; rfl)
      clear hxf hyf
      obtain ⟨p, hpe⟩ : ∃ p, p = x[k] := ⟨_, rfl⟩
      obtain ⟨q, hqe⟩ : ∃ q, q = y[k] := ⟨_, rfl⟩
      rw [← hpe] at p0 hp HPX
      rw [← hqe] at q0 hq HQY
      clear hpe hqe
      have hpb := cell_lt p0
      have hqb := cell_lt q0
      have hd : IntKind.i64.wrap (p - q) = p - q := IntWalk.i64_in _ (by omega)
      have z0 := HR.out.frozen k
      have c0 := HR.out.cell (i := k) hlt
      have hgl := HR.out.lt
      go_wp2_with fail
      refine wp_opaque fun Q2 hQ2 => ?_
      (refine region_below_tail 12 (by kernel_rfl) (by kernel_rfl) ?_; (simp only [List.take_succ_cons, List.take_zero, List.drop_succ_cons, List.drop_zero]); (repeat (first | go_big_quiet_step ((fail)) | quiet_step ((fail)))); (refine wpQuiet_nil ?_; intro _ hw'; obtain ⟨xq, hw''⟩ := hw'; subst hw''))
      have hbx := xq.2
      have d0 := keep hbx c0
      have y0 := (HR.out.of_block (hbx.block _ hgl)).frozen k
      have HR2 : Hid ((xq.val.setCell ⟨w.heap.size, k, none⟩ (.int .i64 (p - q))).rowIs w.heap.size 3 x.length (fun i => .int .i64 (if i < k + 1 then x.getD i 0 - y.getD i 0 else 0))) := Lib.hid (((HR.out.of_block (hbx.block _ hgl)).set k (.int .i64 (p - q))).congr fun j _ => by
        by_cases hj : j = k
        · subst hj
          rw [if_pos rfl, if_pos (by omega), HPX.out, HQY.out]
        · rw [if_neg hj]
          by_cases hj2 : j < k
          · rw [if_pos hj2, if_pos (by omega)]
          · rw [if_neg hj2, if_neg (by omega)])
      have HB2 : Hid (Below w.heap.size w (xq.val.setCell ⟨w.heap.size, k, none⟩ (.int .i64 (p - q)))) := Lib.hid ((bThen HB.out hbx).setCell (p := ⟨w.heap.size, k, none⟩) (Nat.le_refl _) _)
      go_wp2_with fail
      go_roundw
      case rel =>
        first
          | exact ⟨k + 1, by omega, by go_num, HR2, HB2⟩
          | ((repeat apply Exists.intro); refine ⟨?_, rfl⟩; exact ⟨k + 1, by omega, by go_num, HR2, HB2⟩)
      case measure => simp [intOf]; omega
    · obtain rfl : k = x.length := by omega
      go_wp2_with fail
      go_ret
      refine ⟨⟨w.heap.size, rfl, Nat.le_refl _, row_slice HR.out (diffs_len HLEN.out) (fun i hi => ?_) (by unfold most; omega)⟩, HB.out⟩
      rw [diffs_len HLEN.out] at hi
      rw [if_pos hi, diffs_get, List.getD_eq_getElem?_getD, List.getD_eq_getElem?_getD, List.getElem?_eq_getElem hi, List.getElem?_eq_getElem (by have := HLEN.out; omega)]
      rfl
end Go.Proofs.Ytbeeddenidfenaa
