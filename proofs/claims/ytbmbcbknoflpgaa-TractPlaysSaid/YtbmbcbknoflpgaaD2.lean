/- Contracts: feeds by the specification. -/
import Derived.Test.YtbmbcbknoflpgaaD1
set_option linter.unusedSimpArgs false
set_option linter.unusedVariables false
namespace Go.Proofs.Ytbmbcbknoflpgaa
open Go.RowKit

set_option maxRecDepth 10000 in
set_option maxHeartbeats 4000000 in
theorem refFeeds_any (l : List Fd) (n tb : Nat) (ta : Option Addr) (tc : Nat) (v : Value) (w : World) (hv : SliceV w v 2 FdAt l) (hn : n ≤ 24) (ht : w.cell? ⟨tb, 0, none⟩ = some (.slice ta n tc)) :
    Calls Try.prog 32 #[.pointer (some ⟨tb, 0, none⟩), v] w fun e w' => e = .returned (.bool (fdOk n l)) ∧ Below w.heap.size w w' := by
  have HV := Lib.hid hv
  have HTC := Lib.hid ht
  have htl := cell_lt ht
  obtain ⟨a, c, rfl, hl, -⟩ := hv
  unfold most at hl
  have HNN := Lib.hid hn
  obtain ⟨ok, hok⟩ : ∃ b, fdOk n l = b := ⟨_, rfl⟩
  rw [hok]
  have HOK := Lib.hid hok
  clear hok hn ht
  go_enter Try.func32, Try.ntmps32
  go_wp2_with fail
  go_loopw [5, 6] (fun s i wr => ∃ k : Nat, k ≤ l.length ∧ i = .int .i64 k ∧ s = .int .i64 (fdSum (l.take k) : Nat) ∧ Hid (fdGood n (l.take k)) ∧ Hid (Below w.heap.size w wr)) (fun _ i _ => l.length - (intOf i).toNat)
  case atStart => exact ⟨0, Nat.zero_le _, rfl, rfl, Lib.hid (by simp [fdGood]), Lib.hid (Below.refl _ _)⟩
  case round =>
    obtain ⟨k, hk, rfl, rfl, HG, HB⟩ := hrel
    by_cases hlt : k < l.length
    · obtain ⟨b, o, rfl, hf⟩ := (HV.out.keep FdAt.stable HB.out).at (by intro h; simp [h] at hlt)
      obtain ⟨k0, k1⟩ := hf k hlt
      have HTK : Hid (l.take (k + 1) = l.take k ++ [l[k]]) := Lib.hid (take_succ l k hlt)
      have hkk : (k : Int) < (l.length : Int) := by omega
      have HBAD : Hid (¬ fdGood n (l.take (k + 1)) → false = ok) := Lib.hid (fun h => by
        rw [← HOK.out]
        unfold fdOk
        rw [decide_eq_false (fun hg => h (fdGood_take hg (k + 1)))]
        rfl)
      have hkl := fd_len HG.out
      have hsl := fdSum_le HG.out
      have hnn := HNN.out
      clear hf
      generalize l[k] = x at *
      obtain ⟨q, m⟩ := x
      unfold IntAt at k0 k1
      simp only at k0 k1
      have hkb := cell_lt k0
      have HSN := Lib.hid (fdGood_snoc n (l.take k) ⟨q, m⟩)
      rw [List.length_take_of_le hk] at hkl hsl
      have E0 : Hid ((wr.alloc (.cells #[.int .i64 q, .int .i64 m] 59)).cell? ⟨wr.heap.size, 0, none⟩ = some (.int .i64 q)) := Lib.hid (cell_new rfl)
      have E1 : Hid ((wr.alloc (.cells #[.int .i64 q, .int .i64 m] 59)).cell? ⟨wr.heap.size, 1, none⟩ = some (.int .i64 m)) := Lib.hid (cell_new rfl)
      have HB3 : Hid (Below w.heap.size w (wr.alloc (.cells #[.int .i64 q, .int .i64 m] 59))) := Lib.hid (bAlloc HB.out _)
      go_wp2_with fail
      generalize World.alloc wr _ = W3 at *
      generalize wr.heap.size = bx at *
      clear k0 k1 hkb
      have e0 := E0.out
      have e1 := E1.out
      have hbx := cell_lt e0
      have t0 := keep HB3.out HTC.out
      have htl3 := cell_lt t0
      by_cases h1 : q < 0
      · have HE : Hid (false = ok) := Lib.hid (HBAD.out (fun hg => by
          rw [HTK.out, HSN.out] at hg
          have := hg.2.1; (try simp only at this); omega))
        refine wp_opaque fun Q2 hQ2 => ?_
        (refine wp_region_below (by kernel_rfl) (by kernel_rfl) ?_; (repeat (first | go_big_quiet_step (fail) | quiet_step (fail))); (refine wpQuiet_nil ?_; intro _ hw'; obtain ⟨xq, hw''⟩ := hw'; subst hw''))
        refine hQ2 _ _ _ ?_
        have HBX := Lib.hid (bThen HB3.out xq.2)
        go_wp2_with fail
        all_goals first | (exfalso; omega) | skip
        go_ret
        exact ⟨by rw [← HE.out]; first | rfl | (simp; done), HBX.out⟩
      by_cases h2 : (n : Int) ≤ q
      · have HE : Hid (false = ok) := Lib.hid (HBAD.out (fun hg => by
          rw [HTK.out, HSN.out] at hg
          have := hg.2.1; (try simp only at this); omega))
        refine wp_opaque fun Q2 hQ2 => ?_
        (refine wp_region_below (by kernel_rfl) (by kernel_rfl) ?_; (repeat (first | go_big_quiet_step (fail) | quiet_step (fail))); (refine wpQuiet_nil ?_; intro _ hw'; obtain ⟨xq, hw''⟩ := hw'; subst hw''))
        refine hQ2 _ _ _ ?_
        have HBX := Lib.hid (bThen HB3.out xq.2)
        go_wp2_with fail
        all_goals first | (exfalso; omega) | skip
        go_ret
        exact ⟨by rw [← HE.out]; first | rfl | (simp; done), HBX.out⟩
      by_cases h3 : m < -500
      · have HE : Hid (false = ok) := Lib.hid (HBAD.out (fun hg => by
          rw [HTK.out, HSN.out] at hg
          have := hg.2.1; (try simp only at this); omega))
        refine wp_opaque fun Q2 hQ2 => ?_
        (refine wp_region_below (by kernel_rfl) (by kernel_rfl) ?_; (repeat (first | go_big_quiet_step (fail) | quiet_step (fail))); (refine wpQuiet_nil ?_; intro _ hw'; obtain ⟨xq, hw''⟩ := hw'; subst hw''))
        refine hQ2 _ _ _ ?_
        have HBX := Lib.hid (bThen HB3.out xq.2)
        go_wp2_with fail
        all_goals first | (exfalso; omega) | skip
        go_ret
        exact ⟨by rw [← HE.out]; first | rfl | (simp; done), HBX.out⟩
      by_cases h4 : 500 < m
      · have HE : Hid (false = ok) := Lib.hid (HBAD.out (fun hg => by
          rw [HTK.out, HSN.out] at hg
          have := hg.2.1; (try simp only at this); omega))
        refine wp_opaque fun Q2 hQ2 => ?_
        (refine wp_region_below (by kernel_rfl) (by kernel_rfl) ?_; (repeat (first | go_big_quiet_step (fail) | quiet_step (fail))); (refine wpQuiet_nil ?_; intro _ hw'; obtain ⟨xq, hw''⟩ := hw'; subst hw''))
        refine hQ2 _ _ _ ?_
        have HBX := Lib.hid (bThen HB3.out xq.2)
        go_wp2_with fail
        all_goals first | (exfalso; omega) | skip
        go_ret
        exact ⟨by rw [← HE.out]; first | rfl | (simp; done), HBX.out⟩
      have HMR : Hid (0 ≤ q ∧ q < n ∧ -500 ≤ m ∧ m ≤ 500) := Lib.hid (by omega)
      have HS2 : Hid (fdSum (l.take (k + 1)) = fdSum (l.take k) + m.natAbs) := Lib.hid (by rw [HTK.out, fdSum_snoc])
      generalize fdSum (l.take k) = s at *
      have hmb : m.natAbs ≤ 500 := by omega
      have v1 : IntKind.i64.wrap (-m) = -m := IntWalk.i64_in _ (by omega)
      have v2 : max m (-m) = (m.natAbs : Int) := by omega
      generalize m.natAbs = ma at *
      have u1 : IntKind.i64.wrap ((s : Int) + (ma : Int)) = (s : Int) + (ma : Int) := IntWalk.i64_in _ (by omega)
      refine wp_opaque fun Q2 hQ2 => ?_
      (refine wp_region_below (by kernel_rfl) (by kernel_rfl) ?_; (repeat (first | go_big_quiet_step (fail) | quiet_step (fail))); (refine wpQuiet_nil ?_; intro _ hw'; obtain ⟨xq, hw''⟩ := hw'; subst hw''))
      refine hQ2 _ _ _ ?_
      have f0 := keep xq.2 e0
      have f1 := keep xq.2 e1
      have HB4 := Lib.hid (bThen HB3.out xq.2)
      generalize xq.val = W4 at *
      have hbx4 := cell_lt f0
      have F0 := Lib.hid f0
      clear e0 e1 t0 htl3 hbx
      go_wp2_with fail
      all_goals first | (exfalso; omega) | skip
      clear f0 f1 hbx4 v1 v2 u1
      go_loopw [8] (fun i wr => ∃ j : Nat, j ≤ k ∧ i = .int .i64 j ∧ Hid (q ∉ (l.take j).map Fd.sec) ∧ Hid (Below W4.heap.size W4 wr)) (fun i _ => k - (intOf i).toNat)
      case atStart => exact ⟨0, Nat.zero_le _, rfl, Lib.hid (by simp), Lib.hid (Below.refl _ _)⟩
      case round =>
        obtain ⟨j, hj, rfl, HQ, HBJ⟩ := hrel
        by_cases hjk : j < k
        · have hjl : j < l.length := by omega
          have HBW := Lib.hid (bThen HB4.out HBJ.out)
          obtain ⟨b2, o2, he, hf⟩ := (HV.out.keep FdAt.stable HBW.out).at (by intro h; simp [h] at hlt)
          obtain ⟨rfl, rfl⟩ : b = b2 ∧ o = o2 := by simpa using he
          obtain ⟨j0, -⟩ := hf j hjl
          have HTJ : Hid (l.take (j + 1) = l.take j ++ [l[j]]) := Lib.hid (take_succ l j hjl)
          have HMEM : Hid (l[j] ∈ l.take k) := Lib.hid (by
            rw [List.mem_take_iff_getElem]
            exact ⟨j, by omega, rfl⟩)
          have hjj : (j : Int) < (k : Int) := by omega
          have hjl1 : (j : Int) < (l.length : Int) := by omega
          clear hf he
          generalize l[j] = y at *
          obtain ⟨y1, y2⟩ := y
          unfold IntAt at j0
          simp only at j0
          have hjb := cell_lt j0
          have g0 := keep HBJ.out F0.out
          have hgb := cell_lt g0
          by_cases hy : y1 = q
          · have hyb : (y1 == q) = true := by simp [hy]
            have HE : Hid (false = ok) := Lib.hid (HBAD.out (fun hg => by
              rw [HTK.out, HSN.out] at hg
              exact hg.2.2 (List.mem_map.2 ⟨⟨y1, y2⟩, HMEM.out, hy⟩)))
            clear hy
            go_wp2_with fail
            refine wp_opaque fun Q2 hQ2 => ?_
            (refine wp_region_below (by kernel_rfl) (by kernel_rfl) ?_; (repeat (first | go_big_quiet_step (fail) | quiet_step (fail))); (refine wpQuiet_nil ?_; intro _ hw'; obtain ⟨xq, hw''⟩ := hw'; subst hw''))
            refine hQ2 _ _ _ ?_
            have HBX := Lib.hid (bThen HBW.out xq.2)
            go_wp2_with fail
            go_ret
            exact ⟨by rw [← HE.out]; first | rfl | (simp; done), HBX.out⟩
          · have hyb : (y1 == q) = false := by simp [hy]
            have HY := Lib.hid hy
            clear hy
            go_wp2_with fail
            refine wp_opaque fun Q2 hQ2 => ?_
            (refine wp_region_below (by kernel_rfl) (by kernel_rfl) ?_; (repeat (first | go_big_quiet_step (fail) | quiet_step (fail))); (refine wpQuiet_nil ?_; intro _ hw'; obtain ⟨xq, hw''⟩ := hw'; subst hw''))
            refine hQ2 _ _ _ ?_
            have HBX := Lib.hid (bThen HBJ.out xq.2)
            go_wp2_with fail
            go_roundw
            case rel => exact ⟨j + 1, by omega, by go_num, Lib.hid (by rw [HTJ.out, List.map_append]; simp only [List.mem_append, List.map_cons, List.map_nil, List.mem_singleton]; rintro (h | h); exact HQ.out h; exact HY.out h.symm), HBX⟩
            case measure => simp [intOf]; omega
        · obtain rfl : j = k := by omega
          have HG2 : Hid (fdGood n (l.take (j + 1))) := Lib.hid (by
            rw [HTK.out, HSN.out]
            exact ⟨HG.out, HMR.out, HQ.out⟩)
          have HBW := Lib.hid (bThen HB4.out HBJ.out)
          go_wp2_with fail
          go_roundw
          case rel => exact ⟨j + 1, by omega, by go_num, by rw [HS2.out]; go_num, HG2, HBW⟩
          case measure => simp [intOf]; omega
    · obtain rfl : k = l.length := by omega
      have hg := HG.out
      rw [List.take_length] at hg ⊢
      have hok : decide (fdSum l ≤ 500) = ok := by rw [← HOK.out]; unfold fdOk; rw [decide_eq_true hg]; rfl
      have HK2 := Lib.hid hok
      generalize fdSum l = s at *
      by_cases h5 : (s : Int) ≤ 500
      · have HE : Hid (true = ok) := Lib.hid (by rw [← HK2.out]; simp; omega)
        clear hok hg
        go_wp2_with fail
        go_ret
        exact ⟨by rw [← HE.out]; first | rfl | (simp; done), HB.out⟩
      · have HE : Hid (false = ok) := Lib.hid (by rw [← HK2.out]; simp; omega)
        clear hok hg
        go_wp2_with fail
        go_ret
        exact ⟨by rw [← HE.out]; first | rfl | (simp; omega), HB.out⟩
end Go.Proofs.Ytbmbcbknoflpgaa
