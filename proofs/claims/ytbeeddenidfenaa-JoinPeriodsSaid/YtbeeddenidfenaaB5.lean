/- Contracts: mismatches. -/
import Derived.Test.YtbeeddenidfenaaB4
set_option linter.unusedSimpArgs false
set_option linter.unusedVariables false
namespace Go.Proofs.Ytbeeddenidfenaa
open Go.RowKit

/-- The two parts of an overlap. -/
def endA (a : List Int) (n : Nat) : List Int := a.drop (a.length - n)
def partB (b : List Int) (n k : Nat) : List Int := (b.drop k).take n
def misv (a b : List Int) (n k : Nat) : Int := mism (endA a n) (partB b n k)
theorem endA_len {a : List Int} {n : Nat} (h : n ≤ a.length) : (endA a n).length = n := by unfold endA; rw [List.length_drop]; omega
theorem partB_len {b : List Int} {n k : Nat} (h : k + n ≤ b.length) : (partB b n k).length = n := by unfold partB; rw [List.length_take, List.length_drop]; omega
theorem Sm.endA {a : List Int} (h : Sm a) (n : Nat) : Sm (endA a n) := h.drop _
theorem Sm.partB {b : List Int} (h : Sm b) (n k : Nat) : Sm (partB b n k) := (h.drop _).take _
theorem ovl_nat {a b : Nat} {n k : Int} (h : ovl a b n k = true) : ∃ n' k' : Nat, n = n' ∧ k = k' ∧ 1 ≤ n' ∧ n' ≤ a ∧ k' + n' ≤ b := by
  simp only [ovl, Bool.and_eq_true, decide_eq_true_eq] at h
  exact ⟨n.toNat, k.toNat, by omega, by omega, by omega, by omega, by omega⟩
theorem ovl_of {a b n k : Nat} (h1 : 1 ≤ n) (h2 : n ≤ a) (h3 : k + n ≤ b) : ovl a b n k = true := by
  simp only [ovl, Bool.and_eq_true, decide_eq_true_eq]; omega
theorem misv_in {a b : List Int} {n k : Nat} (ha : Sm a) (hb : Sm b) (h1 : n ≤ a.length) (h2 : k + n ≤ b.length) : 0 ≤ misv a b n k ∧ misv a b n k ≤ n * 4294836225 := by
  have := sqs_md (diffs_md (ha.endA n) (hb.partB n k))
  rw [diffs_len (by rw [endA_len h1, partB_len h2]), endA_len h1] at this
  exact this
theorem dif_get {a b : List Int} {n k i : Nat} (h1 : n ≤ a.length) (h2 : k + n ≤ b.length) (hi : i < n) : ∃ h : i < (diffs (endA a n) (partB b n k)).length, (diffs (endA a n) (partB b n k))[i] = a[a.length - n + i]'(by omega) - b[k + i]'(by omega) := by
  have hl : i < (diffs (endA a n) (partB b n k)).length := by rw [diffs_len (by rw [endA_len h1, partB_len h2]), endA_len h1]; exact hi
  refine ⟨hl, ?_⟩
  rw [diffs_get hl]
  simp [endA, partB]
set_option maxRecDepth 10000 in
set_option maxHeartbeats 4000000 in
theorem refMis_any (x y : List Int) (n k : Nat) (v u : Value) (w : World) (hv : SliceV w v 1 IntAt x) (hu : SliceV w u 1 IntAt y) (hx : Sm x) (hy : Sm y) (h1 : n ≤ x.length) (h2 : k + n ≤ y.length) (hn : x.length ≤ 1000000) (hm : y.length ≤ 1000000) :
    Calls Try.prog 30 #[v, u, .int .i64 n, .int .i64 k] w fun e w' => e = .returned (.int .i64 (misv x y n k)) ∧ Below w.heap.size w w' := by
  have HV := Lib.hid hv
  have HU := Lib.hid hu
  have HX := Lib.hid hx
  have HY := Lib.hid hy
  obtain ⟨a, c1, rfl, -⟩ := hv
  obtain ⟨b, c2, rfl, -⟩ := hu
  have HMD := Lib.hid (diffs_md (hx.endA n) (hy.partB n k))
  have HDL : Hid ((diffs (endA x n) (partB y n k)).length = n) := Lib.hid (by rw [diffs_len (by rw [endA_len h1, partB_len h2]), endA_len h1])
  have HDG := Lib.hid (fun (i : Nat) (hi : i < n) => dif_get h1 h2 hi)
  clear hx hy
  go_enter Try.func30, Try.ntmps30
  go_wp2_with fail
  go_loopw [9, 10] (fun s i wr => ∃ j : Nat, j ≤ n ∧ i = .int .i64 j ∧ s = .int .i64 (sqs ((diffs (endA x n) (partB y n k)).take j)) ∧ Hid (Below w.heap.size w wr)) (fun _ i _ => n - (intOf i).toNat)
  case atStart => exact ⟨0, Nat.zero_le _, rfl, by simp [sqs], Lib.hid (Below.refl _ _)⟩
  case round =>
    obtain ⟨j, hj, rfl, rfl, HB⟩ := hrel
    by_cases hlt : j < n
    · obtain ⟨xb, xo, rfl, hxf⟩ := (HV.out.keep IntAt.stable HB.out).at (by intro h; rw [h] at h1; simp at h1; omega)
      obtain ⟨yb, yo, rfl, hyf⟩ := (HU.out.keep IntAt.stable HB.out).at (by intro h; rw [h] at h2; simp at h2; omega)
      have p0 := hxf (x.length - n + j) (by omega)
      have q0 := hyf (k + j) (by omega)
      unfold IntAt at p0 q0
      rw [Nat.mul_one] at p0 q0
      obtain ⟨hdl, hdg⟩ := HDG.out j hlt
      have HT : Hid (sqs ((diffs (endA x n) (partB y n k)).take (j + 1)) = sqs ((diffs (endA x n) (partB y n k)).take j) + (x[x.length - n + j] - y[k + j]) * (x[x.length - n + j] - y[k + j])) := Lib.hid (by rw [take_succ _ j hdl, sqs_snoc, hdg])
      have hsm := sqs_md (HMD.out.take j)
      rw [List.length_take_of_le (by rw [HDL.out]; exact hj)] at hsm
      have hp := HX.out _ (List.getElem_mem (show x.length - n + j < x.length by omega))
      have hq := HY.out _ (List.getElem_mem (show k + j < y.length by omega))
      clear hxf hyf
      obtain ⟨p, hpe⟩ : ∃ p, p = x[x.length - n + j]'(by omega) := ⟨_, rfl⟩
      obtain ⟨q, hqe⟩ : ∃ q, q = y[k + j]'(by omega) := ⟨_, rfl⟩
      rw [← hpe] at p0 hp HT
      rw [← hqe] at q0 hq HT
      clear hpe hqe
      obtain ⟨s, hse⟩ : ∃ s, s = sqs ((diffs (endA x n) (partB y n k)).take j) := ⟨_, rfl⟩
      rw [← hse] at hsm HT ⊢
      clear hse
      have hpb := cell_lt p0
      have hqb := cell_lt q0
      obtain ⟨o1, ho1⟩ : ∃ o1, o1 = x.length - n + j := ⟨_, rfl⟩
      have e0 : IntKind.i64.wrap ((x.length : Int) - n) = (x.length : Int) - n := IntWalk.i64_in _ (by omega)
      have e1 : IntKind.i64.wrap ((x.length : Int) - n + j) = (o1 : Int) := by rw [show (x.length : Int) - n + j = (o1 : Int) by omega]; exact IntWalk.i64_in _ (by omega)
      have e2 : IntKind.i64.wrap ((k : Int) + j) = ((k + j : Nat) : Int) := by rw [show (k : Int) + j = ((k + j : Nat) : Int) by omega]; exact IntWalk.i64_in _ (by omega)
      have e3 : IntKind.i64.wrap (p - q) = p - q := IntWalk.i64_in _ (by omega)
      have i1 : o1 < x.length := by omega
      have i2 : k + j < y.length := by omega
      have i3 : (o1 : Int) < (x.length : Int) := by omega
      have i4 : ((k + j : Nat) : Int) < (y.length : Int) := by omega
      have i5 : (0 : Int) ≤ ((k + j : Nat) : Int) := by omega
      have i6 : ((k + j : Nat) : Int).toNat = k + j := by omega
      rw [← ho1] at p0
      clear ho1
      have hdd := sq_in (x := p - q) (B := 65535) (by omega) (by omega)
      have e4 : IntKind.i64.wrap ((p - q) * (p - q)) = (p - q) * (p - q) := IntWalk.i64_in _ (by omega)
      have e5 : wrap64 ((p - q) * (p - q)) = (p - q) * (p - q) := IntWalk.wrap64_in _ (by omega)
      obtain ⟨kj, hkj⟩ : ∃ kj, kj = k + j := ⟨_, rfl⟩
      rw [← hkj] at e2 i2 i4 i5 i6 q0
      clear hkj
      go_wp2_with fail
      refine wp_opaque fun Q2 hQ2 => ?_
      (refine wp_region_below (by kernel_rfl) (by kernel_rfl) ?_; (repeat (first | go_big_quiet_step (fail) | quiet_step (fail))); (refine wpQuiet_nil ?_; intro _ hw'; obtain ⟨xq, hw''⟩ := hw'; subst hw''))
      refine hQ2 _ _ _ ?_
      replace HB := Lib.hid (bThen HB.out xq.2)
      generalize xq.val = W9 at HB ⊢
      go_wp2_with fail
      go_roundw
      case rel => exact ⟨j + 1, by omega, by go_num, by rw [HT.out], HB⟩
      case measure => simp [intOf]; omega
    · obtain rfl : j = n := by omega
      go_wp2_with fail
      go_ret
      exact ⟨ret_int (by rw [List.take_of_length_le (by rw [HDL.out]; exact Nat.le_refl _)]; rfl), HB.out⟩
end Go.Proofs.Ytbeeddenidfenaa
