/- Contracts: the energy of a chain by the specification. -/
import Derived.Test.YtbmbcbknoflpgaaE2
set_option linter.unusedSimpArgs false
set_option linter.unusedVariables false
namespace Go.Proofs.Ytbmbcbknoflpgaa
open Go.RowKit

theorem int_at {W w : World} {v : Value} {l : List Int} {k : Nat} (h : SliceV w v 1 IntAt l) (hB : Below w.heap.size w W) (hk : k < l.length) : ∃ b o c, v = .slice (some ⟨b, o, none⟩) l.length c ∧ W.cell? ⟨b, o + k, none⟩ = some (.int .i64 (l.getD k 0)) ∧ b < W.heap.size := by
  have h1 := h.keep IntAt.stable hB
  obtain ⟨a, c, rfl, -⟩ := id h
  obtain ⟨b, o, rfl, hx⟩ := h1.at (by intro e; rw [e] at hk; simp at hk)
  have h2 := hx k hk
  unfold IntAt at h2
  rw [Nat.mul_one, ← gI hk] at h2
  exact ⟨b, o, c, rfl, h2, cell_lt h2⟩
set_option maxRecDepth 10000 in
set_option maxHeartbeats 4000000 in
theorem refenergy_any (al fl bl : List Int) (va vf vb : Value) (w : World) (ha : SliceV w va 1 IntAt al) (hf : SliceV w vf 1 IntAt fl) (hb : SliceV w vb 1 IntAt bl) (hfl : fl.length = al.length) (hbl : bl.length = al.length) (hn : al.length ≤ 100) :
    Calls Try.prog 90 #[.agg #[va, vf, vb]] w fun e w' => e = .returned (.int .i64 (wrap64 (enX (fun i => al.getD i 0) (fun i => fl.getD i 0) (fun i => bl.getD i 0) al.length))) ∧ Below w.heap.size w w' := by
  have HA := Lib.hid ha
  have HF := Lib.hid hf
  have HBB := Lib.hid hb
  have HFL := Lib.hid hfl
  have HBL := Lib.hid hbl
  obtain ⟨aa, ac, rfl, -⟩ := ha
  obtain ⟨fa, fc, rfl, -⟩ := hf
  obtain ⟨ba, bc, rfl, -⟩ := hb
  have C0 : Hid ((w.alloc (.cells #[.slice aa al.length ac, .slice fa fl.length fc, .slice ba bl.length bc] 110)).cell? ⟨w.heap.size, 0, none⟩ = some (.slice aa al.length ac)) := Lib.hid (cell_new rfl)
  have C1 : Hid ((w.alloc (.cells #[.slice aa al.length ac, .slice fa fl.length fc, .slice ba bl.length bc] 110)).cell? ⟨w.heap.size, 1, none⟩ = some (.slice fa fl.length fc)) := Lib.hid (cell_new rfl)
  have C2 : Hid ((w.alloc (.cells #[.slice aa al.length ac, .slice fa fl.length fc, .slice ba bl.length bc] 110)).cell? ⟨w.heap.size, 2, none⟩ = some (.slice ba bl.length bc)) := Lib.hid (cell_new rfl)
  have HB1 : Hid (Below w.heap.size w (w.alloc (.cells #[.slice aa al.length ac, .slice fa fl.length fc, .slice ba bl.length bc] 110))) := Lib.hid (bAlloc (Below.refl _ _) _)
  clear hfl hbl
  go_enter Try.func90, Try.ntmps90
  go_wp2_with fail
  generalize World.alloc w _ = W1 at *
  obtain ⟨bx, hbx⟩ : ∃ bx, w.heap.size = bx := ⟨_, rfl⟩
  rw [hbx] at C0 C1 C2 ⊢
  clear hbx
  go_loopw [3, 4] (fun s i wr => ∃ k : Nat, k ≤ al.length ∧ i = .int .i64 k ∧ s = .int .i64 (wrap64 (enX (fun i => al.getD i 0) (fun i => fl.getD i 0) (fun i => bl.getD i 0) k)) ∧ Hid (Below W1.heap.size W1 wr)) (fun _ i _ => al.length - (intOf i).toNat)
  case atStart => exact ⟨0, Nat.zero_le _, rfl, by simp [enX, wrap64], Lib.hid (Below.refl _ _)⟩
  case round =>
    obtain ⟨k, hk, rfl, rfl, HB⟩ := hrel
    have c0 := keep HB.out C0.out
    have c1 := keep HB.out C1.out
    have c2 := keep HB.out C2.out
    have hcl := cell_lt c0
    by_cases hlt : k < al.length
    · have HBW := Lib.hid (bThen HB1.out HB.out)
      obtain ⟨b1, o1, x1, e1, p1, q1⟩ := int_at HA.out HBW.out hlt
      obtain ⟨b2, o2, x2, e2, p2, q2⟩ := int_at HF.out HBW.out (show k < fl.length by rw [HFL.out]; exact hlt)
      obtain ⟨b3, o3, x3, e3, p3, q3⟩ := int_at HBB.out HBW.out (show k < bl.length by rw [HBL.out]; exact hlt)
      obtain ⟨rfl, -, rfl⟩ := Value.slice.inj e1
      obtain ⟨rfl, -, rfl⟩ := Value.slice.inj e2
      obtain ⟨rfl, -, rfl⟩ := Value.slice.inj e3
      clear e1 e2 e3
      have i1 : (k : Int) < (al.length : Int) := by omega
      have i2 : (k : Int) < (fl.length : Int) := by rw [HFL.out]; exact i1
      have i3 : (k : Int) < (bl.length : Int) := by rw [HBL.out]; exact i1
      have HST : Hid (_ = wrap64 (enX (fun i => al.getD i 0) (fun i => fl.getD i 0) (fun i => bl.getD i 0) (k + 1))) := Lib.hid (enX_ref (fun i => al.getD i 0) (fun i => fl.getD i 0) (fun i => bl.getD i 0) k)
      (try simp only at HST)
      generalize wrap64 (enX (fun i => al.getD i 0) (fun i => fl.getD i 0) (fun i => bl.getD i 0) k) = S0 at *
      generalize al.getD k 0 = x at *
      generalize fl.getD k 0 = y at *
      generalize bl.getD k 0 = z at *
      obtain ⟨t1, ht1⟩ : ∃ t, wrap64 (y * y) = t := ⟨_, rfl⟩
      have u1 : IntKind.i64.wrap (y * y) = t1 := by rw [IntWalk.i64_left]; exact ht1
      obtain ⟨t2, ht2⟩ : ∃ t, wrap64 (z * z) = t := ⟨_, rfl⟩
      have u2 : IntKind.i64.wrap (z * z) = t2 := by rw [IntWalk.i64_left]; exact ht2
      obtain ⟨t3, ht3⟩ : ∃ t, wrap64 (t1 + t2) = t := ⟨_, rfl⟩
      have u3 : IntKind.i64.wrap (t1 + t2) = t3 := by rw [IntWalk.i64_left]; exact ht3
      obtain ⟨t4, ht4⟩ : ∃ t, wrap64 (x * t3) = t := ⟨_, rfl⟩
      have u4 : IntKind.i64.wrap (x * t3) = t4 := by rw [IntWalk.i64_left]; exact ht4
      obtain ⟨t5, ht5⟩ : ∃ t, wrap64 (S0 + t4) = t := ⟨_, rfl⟩
      have u5 : IntKind.i64.wrap (S0 + t4) = t5 := by rw [IntWalk.i64_left]; exact ht5
      rw [ht1, ht2, ht3, ht4, ht5] at HST
      clear ht1 ht2 ht3 ht4 ht5
      go_wp2_with fail
      refine wp_opaque fun Q2 hQ2 => ?_
      (refine wp_region_below (by kernel_rfl) (by kernel_rfl) ?_; (repeat (first | go_big_quiet_step (fail) | quiet_step (fail))); (refine wpQuiet_nil ?_; intro _ hw'; obtain ⟨xq, hw''⟩ := hw'; subst hw''))
      refine hQ2 _ _ _ ?_
      have HBX := Lib.hid (bThen HB.out xq.2)
      go_wp2_with fail
      go_roundw
      case rel => exact ⟨k + 1, by omega, by go_num, by rw [HST.out], HBX⟩
      case measure => simp [intOf]; omega
    · obtain rfl : k = al.length := by omega
      go_wp2_with fail
      go_ret
      exact ⟨rfl, bThen HB1.out HB.out⟩
end Go.Proofs.Ytbmbcbknoflpgaa
