/- Contracts of the specification: steps; roots and loudness of both. -/
import Derived.Test.YtbeeddenidfenaaA8
set_option linter.unusedSimpArgs false
set_option linter.unusedVariables false
namespace Go.Proofs.Ytbeeddenidfenaa
open Go.RowKit

theorem getI {l : List Int} {k : Nat} (h : k < l.length) : l.getD k 0 = l[k] := by rw [List.getD_eq_getElem?_getD, List.getElem?_eq_getElem h]; rfl
set_option maxRecDepth 10000 in
set_option maxHeartbeats 4000000 in
theorem refStep_any (l : List Int) (v : Value) (w : World) (hv : SliceV w v 1 IntAt l) (hs : Sm l) (hn : l.length ≤ 1000000) :
    Calls Try.prog 24 #[v] w fun e w' => e = .returned (.int .i64 (stp l)) ∧ Below w.heap.size w w' := by
  have HV := Lib.hid hv
  obtain ⟨a, c, rfl, -⟩ := hv
  have HMD := Lib.hid (nbs_md hs)
  have HS := Lib.hid hs
  have HNL := Lib.hid (nbs_len l)
  clear hs
  go_enter Try.func24, Try.ntmps24
  go_wp2_with fail
  go_loopw [3, 4] (fun m i wr => ∃ k : Nat, k ≤ l.length - 1 ∧ i = .int .i64 ((k : Int) + 1) ∧ m = .int .i64 (gab ((nbs l).take k)) ∧ Hid (Below w.heap.size w wr)) (fun _ i _ => l.length + 1 - (intOf i).toNat)
  case atStart => exact ⟨0, Nat.zero_le _, rfl, by simp [gab], Lib.hid (Below.refl _ _)⟩
  case round =>
    obtain ⟨k, hk, rfl, rfl, HB⟩ := hrel
    by_cases hlt : k + 1 < l.length
    · have hltn : k < (nbs l).length := by rw [HNL.out]; omega
      obtain ⟨b, o, rfl, hf⟩ := (HV.out.keep IntAt.stable HB.out).at (by intro h; rw [h] at hlt; simp at hlt)
      have k1 := hf (k + 1) hlt
      have k0 := hf k (by omega)
      unfold IntAt at k0 k1
      rw [Nat.mul_one] at k0 k1
      have HT : Hid (gab ((nbs l).take (k + 1)) = max (max (gab ((nbs l).take k)) (l[k + 1] - l[k])) (-(l[k + 1] - l[k]))) := Lib.hid (by rw [take_succ _ k hltn, gab_snoc, nbs_get hltn])
      have hsm := gab_in (by decide : (0 : Int) ≤ 65535) (HMD.out.take k)
      have hp := HS.out _ (List.getElem_mem hlt)
      have hq := HS.out _ (List.getElem_mem (show k < l.length by omega))
      clear hf
      obtain ⟨x, hx⟩ : ∃ x, x = l[k + 1] := ⟨_, rfl⟩
      obtain ⟨y, hy⟩ : ∃ y, y = l[k] := ⟨_, rfl⟩
      rw [← hx] at k1 hp HT
      rw [← hy] at k0 hq HT
      clear hx hy hltn
      obtain ⟨s, hse⟩ : ∃ s, s = gab ((nbs l).take k) := ⟨_, rfl⟩
      rw [← hse] at hsm HT ⊢
      clear hse
      have hbl := cell_lt k0
      have q1 : IntKind.i64.wrap (x - y) = x - y := IntWalk.i64_in _ (by omega)
      have q2 : IntKind.i64.wrap (y - x) = y - x := IntWalk.i64_in _ (by omega)
      have q3 : IntKind.i64.wrap ((k : Int) + 1 - 1) = (k : Int) := by rw [show (k : Int) + 1 - 1 = (k : Int) by omega]; exact IntWalk.i64_in _ (by omega)
      have q4 : IntKind.i64.wrap (k : Int) = (k : Int) := IntWalk.i64_in _ (by omega)
      have i1 : (k : Int) + 1 < (l.length : Int) := by omega
      have i2 : (k : Int) < (l.length : Int) := by omega
      have i3 : (0 : Int) ≤ (k : Int) + 1 := by omega
      have i4 : ((k : Int) + 1).toNat = k + 1 := by omega
      have i5 : k < l.length := by omega
      by_cases h1 : s < x - y
      · by_cases h2 : x - y < y - x
        · go_wp2_with fail
          refine wp_opaque fun Q2 hQ2 => ?_
          (refine wp_region_below (by kernel_rfl) (by kernel_rfl) ?_; (repeat (first | go_big_quiet_step (fail) | quiet_step (fail))); (refine wpQuiet_nil ?_; intro _ hw'; obtain ⟨xq, hw''⟩ := hw'; subst hw''))
          refine hQ2 _ _ _ ?_
          replace HB := Lib.hid (bThen HB.out xq.2)
          generalize xq.val = W9 at HB ⊢
          go_wp2_with fail
          go_roundw
          case rel => exact ⟨k + 1, by omega, by go_num, by (rw [HT.out]; first | rfl | (congr 1; omega)), HB⟩
          case measure => simp [intOf]; omega
        · go_wp2_with fail
          refine wp_opaque fun Q2 hQ2 => ?_
          (refine wp_region_below (by kernel_rfl) (by kernel_rfl) ?_; (repeat (first | go_big_quiet_step (fail) | quiet_step (fail))); (refine wpQuiet_nil ?_; intro _ hw'; obtain ⟨xq, hw''⟩ := hw'; subst hw''))
          refine hQ2 _ _ _ ?_
          replace HB := Lib.hid (bThen HB.out xq.2)
          generalize xq.val = W9 at HB ⊢
          go_wp2_with fail
          go_roundw
          case rel => exact ⟨k + 1, by omega, by go_num, by (rw [HT.out]; first | rfl | (congr 1; omega)), HB⟩
          case measure => simp [intOf]; omega
      · by_cases h2 : s < y - x
        · go_wp2_with fail
          refine wp_opaque fun Q2 hQ2 => ?_
          (refine wp_region_below (by kernel_rfl) (by kernel_rfl) ?_; (repeat (first | go_big_quiet_step (fail) | quiet_step (fail))); (refine wpQuiet_nil ?_; intro _ hw'; obtain ⟨xq, hw''⟩ := hw'; subst hw''))
          refine hQ2 _ _ _ ?_
          replace HB := Lib.hid (bThen HB.out xq.2)
          generalize xq.val = W9 at HB ⊢
          go_wp2_with fail
          go_roundw
          case rel => exact ⟨k + 1, by omega, by go_num, by (rw [HT.out]; first | rfl | (congr 1; omega)), HB⟩
          case measure => simp [intOf]; omega
        · go_wp2_with fail
          refine wp_opaque fun Q2 hQ2 => ?_
          (refine wp_region_below (by kernel_rfl) (by kernel_rfl) ?_; (repeat (first | go_big_quiet_step (fail) | quiet_step (fail))); (refine wpQuiet_nil ?_; intro _ hw'; obtain ⟨xq, hw''⟩ := hw'; subst hw''))
          refine hQ2 _ _ _ ?_
          replace HB := Lib.hid (bThen HB.out xq.2)
          generalize xq.val = W9 at HB ⊢
          go_wp2_with fail
          go_roundw
          case rel => exact ⟨k + 1, by omega, by go_num, by (rw [HT.out]; first | rfl | (congr 1; omega)), HB⟩
          case measure => simp [intOf]; omega
    · obtain hkk : k = l.length - 1 := by omega
      go_wp2_with fail
      go_ret
      exact ⟨ret_int (by unfold stp; rw [List.take_of_length_le (by rw [HNL.out]; omega)]), HB.out⟩
end Go.Proofs.Ytbeeddenidfenaa
