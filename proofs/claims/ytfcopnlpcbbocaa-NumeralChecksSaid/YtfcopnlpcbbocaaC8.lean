/- Contracts: asks, Check, Class. -/
import Derived.Test.YtfcopnlpcbbocaaC6
import Derived.Test.YtfcopnlpcbbocaaC7
namespace Go.Proofs.Ytfcopnlpcbbocaa
open Go.RowKit

set_option maxHeartbeats 1000000 in
theorem askRight_any (a : Ask) (Ss : List Sys) (v : Value) (w : World) (hv : SliceV w v 7 SysAt Ss) :
    Calls Try.prog 47 #[a.val, v] w fun e w' => e = .returned (.bool (Ss.all fun S => askOk S a)) ∧ Below w.heap.size w w' := by
  obtain ⟨sa, sc, rfl, hl, hx⟩ := hv
  unfold most at hl
  unfold Ask.val
  obtain ⟨W0, hW0⟩ : ∃ W0, W0 = w.alloc (.cells #[.int .i64 a.num, .int .i64 a.set, .int .i64 a.gen, .int .i64 a.kas] 36) := ⟨_, rfl⟩
  have HB0 : Below w.heap.size w W0 := by rw [hW0]; exact bAlloc (Below.refl _ _) _
  have c0 : W0.cell? ⟨w.heap.size, 0, none⟩ = some (.int .i64 a.num) := by rw [hW0]; simp
  have c1 : W0.cell? ⟨w.heap.size, 1, none⟩ = some (.int .i64 a.set) := by rw [hW0]; simp
  have c2 : W0.cell? ⟨w.heap.size, 2, none⟩ = some (.int .i64 a.gen) := by rw [hW0]; simp
  have c3 : W0.cell? ⟨w.heap.size, 3, none⟩ = some (.int .i64 a.kas) := by rw [hW0]; simp
  have HW0 := Lib.hid hW0
  clear hW0
  go_enter Try.func47, Try.ntmps47
  go_wp2_with fail
  rw [← HW0.out]
  go_loopw [9] (fun i wr => ∃ k : Nat, k ≤ Ss.length ∧ i = .int .i64 k ∧ ((Ss.take k).all fun S => askOk S a) = true ∧ Below W0.heap.size W0 wr) (fun i _ => Ss.length - (intOf i).toNat)
  case atStart => exact ⟨0, Nat.zero_le _, rfl, rfl, Below.refl _ _⟩
  case round =>
    obtain ⟨k, hk, rfl, hall, hB⟩ := hrel
    have HA := Lib.hid hall
    clear hall
    by_cases hlt : k < Ss.length
    · rcases hx with hnil | ⟨fb, fo, rfl, hf⟩
      · simp [hnil] at hlt
      have hS := SysAt.stable _ _ _ _ _ (bThen HB0 hB) (hf k hlt)
      have HT := Lib.hid (all_take_succ' (fun S => askOk S a) Ss k hlt)
      have HN := Lib.hid (all_false' (fun S => askOk S a) Ss k hlt)
      clear hf
      generalize Ss[k] = S at *
      have hsys : ∀ x : BW wr, Calls Try.prog 42 #[.pointer (some ⟨fb, fo + k * 7, none⟩)] x.val fun e w' => e = .returned (.bool (sysOk S)) ∧ Below x.val.heap.size x.val w' :=
        fun x => systemRight_any _ _ S _ (SysAt.stable _ _ _ _ _ x.2 hS)
      obtain ⟨vt, vp, vs, h0, h1, h2, h3, h4, h5, h6, ⟨ta, tc, rfl, htl, -⟩, ⟨pa, pc, rfl, hpl, -⟩, ⟨sa, sc', rfl, hsl, -⟩⟩ := hS
      have hfb := cell_lt h0
      have d0 := keep hB c0
      have d1 := keep hB c1
      have d2 := keep hB c2
      have d3 := keep hB c3
      have hdl := cell_lt d0
      clear h4 h5
      cases g1 : sysOk S
      · go_wp2_with fail
        (refine wp_region_below (by kernel_rfl) (by kernel_rfl) ?_; (repeat (first | go_big_quiet_step (first | (go_at_call 42; exact toB (fun x => isB (hsys x) g1) _) | (go_at_call 75; exact toS (fun _ => isB (between_any _ _ _ _) g2) _) | (go_at_call 62; first | with_reducible exact toS (fun _ => isB (exists_any _ _ _) g3) _ | with_reducible exact toS (fun _ => isB (exists_any _ _ _) g4) _ | with_reducible exact toS (fun _ => exists_any _ _ _) _)) | quiet_step (first | (go_at_call 42; exact toB (fun x => isB (hsys x) g1) _) | (go_at_call 75; exact toS (fun _ => isB (between_any _ _ _ _) g2) _) | (go_at_call 62; first | with_reducible exact toS (fun _ => isB (exists_any _ _ _) g3) _ | with_reducible exact toS (fun _ => isB (exists_any _ _ _) g4) _ | with_reducible exact toS (fun _ => exists_any _ _ _) _)))); (refine wpQuiet_nil ?_; intro _ hw'; obtain ⟨xq, hw''⟩ := hw'; subst hw''))
        have HB1 := bThen (bThen HB0 hB) xq.2
        have HBq := bThen hB xq.2
        go_wp2_with fail
        first
          | (go_ret; exact ⟨ret_bool (by rw [HN.out (by unfold askOk; first | (rw [g1]; rfl) | (rw [g1, g2]; rfl) | (rw [g1, g2, g3]; rfl) | (rw [g1, g2, g3, g4]; rfl) | (rw [g1, g2, g3, g4, hq]; rfl))]), HB1⟩)
          | skip
      cases g2 : betw a.num 0 S.top
      · go_wp2_with fail
        (refine wp_region_below (by kernel_rfl) (by kernel_rfl) ?_; (repeat (first | go_big_quiet_step (first | (go_at_call 42; exact toB (fun x => isB (hsys x) g1) _) | (go_at_call 75; exact toS (fun _ => isB (between_any _ _ _ _) g2) _) | (go_at_call 62; first | with_reducible exact toS (fun _ => isB (exists_any _ _ _) g3) _ | with_reducible exact toS (fun _ => isB (exists_any _ _ _) g4) _ | with_reducible exact toS (fun _ => exists_any _ _ _) _)) | quiet_step (first | (go_at_call 42; exact toB (fun x => isB (hsys x) g1) _) | (go_at_call 75; exact toS (fun _ => isB (between_any _ _ _ _) g2) _) | (go_at_call 62; first | with_reducible exact toS (fun _ => isB (exists_any _ _ _) g3) _ | with_reducible exact toS (fun _ => isB (exists_any _ _ _) g4) _ | with_reducible exact toS (fun _ => exists_any _ _ _) _)))); (refine wpQuiet_nil ?_; intro _ hw'; obtain ⟨xq, hw''⟩ := hw'; subst hw''))
        have HB1 := bThen (bThen HB0 hB) xq.2
        have HBq := bThen hB xq.2
        go_wp2_with fail
        first
          | (go_ret; exact ⟨ret_bool (by rw [HN.out (by unfold askOk; first | (rw [g1]; rfl) | (rw [g1, g2]; rfl) | (rw [g1, g2, g3]; rfl) | (rw [g1, g2, g3, g4]; rfl) | (rw [g1, g2, g3, g4, hq]; rfl))]), HB1⟩)
          | skip
      cases g3 : exst a.set S.sets.length
      · go_wp2_with fail
        (refine wp_region_below (by kernel_rfl) (by kernel_rfl) ?_; (repeat (first | go_big_quiet_step (first | (go_at_call 42; exact toB (fun x => isB (hsys x) g1) _) | (go_at_call 75; exact toS (fun _ => isB (between_any _ _ _ _) g2) _) | (go_at_call 62; first | with_reducible exact toS (fun _ => isB (exists_any _ _ _) g3) _ | with_reducible exact toS (fun _ => isB (exists_any _ _ _) g4) _ | with_reducible exact toS (fun _ => exists_any _ _ _) _)) | quiet_step (first | (go_at_call 42; exact toB (fun x => isB (hsys x) g1) _) | (go_at_call 75; exact toS (fun _ => isB (between_any _ _ _ _) g2) _) | (go_at_call 62; first | with_reducible exact toS (fun _ => isB (exists_any _ _ _) g3) _ | with_reducible exact toS (fun _ => isB (exists_any _ _ _) g4) _ | with_reducible exact toS (fun _ => exists_any _ _ _) _)))); (refine wpQuiet_nil ?_; intro _ hw'; obtain ⟨xq, hw''⟩ := hw'; subst hw''))
        have HB1 := bThen (bThen HB0 hB) xq.2
        have HBq := bThen hB xq.2
        go_wp2_with fail
        first
          | (go_ret; exact ⟨ret_bool (by rw [HN.out (by unfold askOk; first | (rw [g1]; rfl) | (rw [g1, g2]; rfl) | (rw [g1, g2, g3]; rfl) | (rw [g1, g2, g3, g4]; rfl) | (rw [g1, g2, g3, g4, hq]; rfl))]), HB1⟩)
          | skip
      cases g4 : exst a.gen S.genders
      · go_wp2_with fail
        (refine wp_region_below (by kernel_rfl) (by kernel_rfl) ?_; (repeat (first | go_big_quiet_step (first | (go_at_call 42; exact toB (fun x => isB (hsys x) g1) _) | (go_at_call 75; exact toS (fun _ => isB (between_any _ _ _ _) g2) _) | (go_at_call 62; first | with_reducible exact toS (fun _ => isB (exists_any _ _ _) g3) _ | with_reducible exact toS (fun _ => isB (exists_any _ _ _) g4) _ | with_reducible exact toS (fun _ => exists_any _ _ _) _)) | quiet_step (first | (go_at_call 42; exact toB (fun x => isB (hsys x) g1) _) | (go_at_call 75; exact toS (fun _ => isB (between_any _ _ _ _) g2) _) | (go_at_call 62; first | with_reducible exact toS (fun _ => isB (exists_any _ _ _) g3) _ | with_reducible exact toS (fun _ => isB (exists_any _ _ _) g4) _ | with_reducible exact toS (fun _ => exists_any _ _ _) _)))); (refine wpQuiet_nil ?_; intro _ hw'; obtain ⟨xq, hw''⟩ := hw'; subst hw''))
        have HB1 := bThen (bThen HB0 hB) xq.2
        have HBq := bThen hB xq.2
        go_wp2_with fail
        first
          | (go_ret; exact ⟨ret_bool (by rw [HN.out (by unfold askOk; first | (rw [g1]; rfl) | (rw [g1, g2]; rfl) | (rw [g1, g2, g3]; rfl) | (rw [g1, g2, g3, g4]; rfl) | (rw [g1, g2, g3, g4, hq]; rfl))]), HB1⟩)
          | skip
      go_wp2_with fail
      (refine wp_region_below (by kernel_rfl) (by kernel_rfl) ?_; (repeat (first | go_big_quiet_step (first | (go_at_call 42; exact toB (fun x => isB (hsys x) g1) _) | (go_at_call 75; exact toS (fun _ => isB (between_any _ _ _ _) g2) _) | (go_at_call 62; first | with_reducible exact toS (fun _ => isB (exists_any _ _ _) g3) _ | with_reducible exact toS (fun _ => isB (exists_any _ _ _) g4) _ | with_reducible exact toS (fun _ => exists_any _ _ _) _)) | quiet_step (first | (go_at_call 42; exact toB (fun x => isB (hsys x) g1) _) | (go_at_call 75; exact toS (fun _ => isB (between_any _ _ _ _) g2) _) | (go_at_call 62; first | with_reducible exact toS (fun _ => isB (exists_any _ _ _) g3) _ | with_reducible exact toS (fun _ => isB (exists_any _ _ _) g4) _ | with_reducible exact toS (fun _ => exists_any _ _ _) _)))); (refine wpQuiet_nil ?_; intro _ hw'; obtain ⟨xq, hw''⟩ := hw'; subst hw''))
      have HB1 := bThen (bThen HB0 hB) xq.2
      have HBq := bThen hB xq.2
      go_wp2_with fail
      first
        | (go_ret; exact ⟨ret_bool (by rw [HN.out (by unfold askOk; first | (rw [g1]; rfl) | (rw [g1, g2]; rfl) | (rw [g1, g2, g3]; rfl) | (rw [g1, g2, g3, g4]; rfl) | (rw [g1, g2, g3, g4, hq]; rfl))]), HB1⟩)
        | skip
      · have hq : exst a.kas S.cases = false := by first | assumption | simpa using ‹(!exst a.kas S.cases) = true›
        go_ret
        exact ⟨ret_bool (by rw [HN.out (by unfold askOk; first | (rw [g1]; rfl) | (rw [g1, g2]; rfl) | (rw [g1, g2, g3]; rfl) | (rw [g1, g2, g3, g4]; rfl) | (rw [g1, g2, g3, g4, hq]; rfl))]), HB1⟩
      · have hq : exst a.kas S.cases = true := by first | assumption | simpa using ‹(!exst a.kas S.cases) = false›
        go_roundw
        case rel => exact ⟨k + 1, by omega, by go_num, by rw [HT.out, HA.out]; simp only [askOk, g1, g2, g3, g4, hq]; rfl, HBq⟩
        case measure => simp [intOf]; omega
    · obtain rfl : k = Ss.length := by omega
      have ha := HA.out
      rw [List.take_length] at ha
      have HA2 := Lib.hid ha
      clear ha
      go_wp2_with fail
      go_ret
      exact ⟨ret_bool (by rw [HA2.out]), bThen HB0 hB⟩
end Go.Proofs.Ytfcopnlpcbbocaa
