/- Contracts: asks, Check, Class. -/
import Derived.Test.YtfcopnlpcbbocaaC6
import Derived.Test.YtfcopnlpcbbocaaC7
set_option linter.unusedSimpArgs false
set_option linter.unusedVariables false
namespace Go.Proofs.Ytfcopnlpcbbocaa
open Go.RowKit

set_option maxHeartbeats 1000000 in
theorem askRight_any (a : Ask) (Ss : List Sys) (v : Value) (w : World) (hv : SliceV w v 7 SysAt Ss) :
    Calls Try.prog 47 #[a.val, v] w fun e w' => e = .returned (.bool (Ss.all fun S => askOk S a)) ∧ Below w.heap.size w w' := by
  obtain ⟨sa, sc, rfl, hl, hx⟩ := hv
  unfold most at hl
  unfold Ask.val
  obtain ⟨W0, hW0⟩ : ∃ W0, W0 = w.alloc (.cells #[.int .i64 a.num, .int .i64 a.set, .int .i64 a.gen, .int .i64 a.kas] 36) := ⟨_, rfl⟩
  have HB0 : Below w.heap.size w W0 := by rw [hW0]; exact bAlloc (Below.refl _ _) _
  have c0 : W0.cell? ⟨w.heap.size, 0, none⟩ = some (.int .i64 a.num) := by rw [hW0]; simp
  have c1 : W0.cell? ⟨w.heap.size, 1, none⟩ = some (.int .i64 a.set) := by rw [hW0]; simp
  have c2 : W0.cell? ⟨w.heap.size, 2, none⟩ = some (.int .i64 a.gen) := by rw [hW0]; simp
  have c3 : W0.cell? ⟨w.heap.size, 3, none⟩ = some (.int .i64 a.kas) := by rw [hW0]; simp
  have HW0 := Lib.hid hW0
  clear hW0
  go_enter Try.func47, Try.ntmps47
  go_wp2_with fail
  rw [← HW0.out]
  go_loopw [9] (fun i wr => ∃ k : Nat, k ≤ Ss.length ∧ i = .int .i64 k ∧ ((Ss.take k).all fun S => askOk S a) = true ∧ Below W0.heap.size W0 wr) (fun i _ => Ss.length - (intOf i).toNat)
  case atStart => exact ⟨0, Nat.zero_le _, rfl, rfl, Below.refl _ _⟩
  case round =>
    obtain ⟨k, hk, rfl, hall, hB⟩ := hrel
    have HA := Lib.hid hall
    clear hall
    by_cases hlt : k < Ss.length
    · rcases hx with hnil | ⟨fb, fo, rfl, hf⟩
      · simp [hnil] at hlt
      have hS := SysAt.stable _ _ _ _ _ (bThen HB0 hB) (hf k hlt)
      have HT := Lib.hid (all_take_succ' (fun S => askOk S a) Ss k hlt)
      have HN := Lib.hid (all_false' (fun S => askOk S a) Ss k hlt)
      clear hf
      generalize Ss[k] = S at *
      have hsys : ∀ x : BW wr, Calls Try.prog 42 #[.pointer (some ⟨fb, fo + k * 7, none⟩)] x.val fun e w' => e = .returned (.bool (sysOk S)) ∧ Below x.val.heap.size x.val w' :=
        fun x => systemRight_any _ _ S _ (SysAt.stable _ _ _ _ _ x.2 hS)
      obtain ⟨vt, vp, vs, h0, h1, h2, h3, h4, h5, h6, ⟨ta, tc, rfl, htl, -⟩, ⟨pa, pc, rfl, hpl, -⟩, ⟨sa, sc', rfl, hsl, -⟩⟩ := hS
      have hfb := cell_lt h0
      have d0 := keep hB c0
      have d1 := keep hB c1
      have d2 := keep hB c2
      have d3 := keep hB c3
      have hdl := cell_lt d0
      clear h4 h5
      cases g1 : sysOk S
      · go_wp2_with fail
        (refine wp_region_below (by kernel_rfl) (by kernel_rfl) ?_; (repeat (first | go_big_quiet_step (first | (go_at_call 42; exact toB (fun x => isB (hsys x) g1) _) | (go_at_call 75; exact toS (fun _ => isB (between_any _ _ _ _) g2) _) | (go_at_call 62; first | with_reducible exact toS (fun _ => isB (exists_any _ _ _) g3) _ | with_reducible exact toS (fun _ => isB (exists_any _ _ _) g4) _ | with_reducible exact toS (fun _ => exists_any _ _ _) _)) | quiet_step (first | (go_at_call 42; exact toB (fun x => isB (hsys x) g1) _) | (go_at_call 75; exact toS (fun _ => isB (between_any _ _ _ _) g2) _) | (go_at_call 62; first | with_reducible exact toS (fun _ => isB (exists_any _ _ _) g3) _ | with_reducible exact toS (fun _ => isB (exists_any _ _ _) g4) _ | with_reducible exact toS (fun _ => exists_any _ _ _) _)))); (refine wpQuiet_nil ?_; intro _ hw'; obtain ⟨xq, hw''⟩ := hw'; subst hw''))
        have HB1 := bThen (bThen HB0 hB) xq.2
        have HBq := bThen hB xq.2
        go_wp2_with fail
        first
          | (go_ret; exact ⟨ret_bool (by rw [HN.out (by unfold askOk; first | (rw [g1]; rfl) | (rw [g1, g2]; rfl) | (rw [g1, g2, g3]; rfl) | (rw [g1, g2, g3, g4]; rfl) | (rw [g1, g2, g3, g4, hq]; rfl))]), HB1⟩)
          | skip
      cases g2 : betw a.num 0 S.top
      · go_wp2_with fail
        (refine wp_region_below (by kernel_rfl) (by kernel_rfl) ?_; (repeat (first | go_big_quiet_step (first | (go_at_call 42; exact toB (fun x => isB (hsys x) g1) _) | (go_at_call 75; exact toS (fun _ => isB (between_any _ _ _ _) g2) _) | (go_at_call 62; first | with_reducible exact toS (fun _ => isB (exists_any _ _ _) g3) _ | with_reducible exact toS (fun _ => isB (exists_any _ _ _) g4) _ | with_reducible exact toS (fun _ => exists_any _ _ _) _)) | quiet_step (first | (go_at_call 42; exact toB (fun x => isB (hsys x) g1) _) | (go_at_call 75; exact toS (fun _ => isB (between_any _ _ _ _) g2) _) | (go_at_call 62; first | with_reducible exact toS (fun _ => isB (exists_any _ _ _) g3) _ | with_reducible exact toS (fun _ => isB (exists_any _ _ _) g4) _ | with_reducible exact toS (fun _ => exists_any _ _ _) _)))); (refine wpQuiet_nil ?_; intro _ hw'; obtain ⟨xq, hw''⟩ := hw'; subst hw''))
        have HB1 := bThen (bThen HB0 hB) xq.2
        have HBq := bThen hB xq.2
        go_wp2_with fail
        first
          | (go_ret; exact ⟨ret_bool (by rw [HN.out (by unfold askOk; first | (rw [g1]; rfl) | (rw [g1, g2]; rfl) | (rw [g1, g2, g3]; rfl) | (rw [g1, g2, g3, g4]; rfl) | (rw [g1, g2, g3, g4, hq]; rfl))]), HB1⟩)
          | skip
      cases g3 : exst a.set S.sets.length
      · go_wp2_with fail
        (refine wp_region_below (by kernel_rfl) (by kernel_rfl) ?_; (repeat (first | go_big_quiet_step (first | (go_at_call 42; exact toB (fun x => isB (hsys x) g1) _) | (go_at_call 75; exact toS (fun _ => isB (between_any _ _ _ _) g2) _) | (go_at_call 62; first | with_reducible exact toS (fun _ => isB (exists_any _ _ _) g3) _ | with_reducible exact toS (fun _ => isB (exists_any _ _ _) g4) _ | with_reducible exact toS (fun _ => exists_any _ _ _) _)) | quiet_step (first | (go_at_call 42; exact toB (fun x => isB (hsys x) g1) _) | (go_at_call 75; exact toS (fun _ => isB (between_any _ _ _ _) g2) _) | (go_at_call 62; first | with_reducible exact toS (fun _ => isB (exists_any _ _ _) g3) _ | with_reducible exact toS (fun _ => isB (exists_any _ _ _) g4) _ | with_reducible exact toS (fun _ => exists_any _ _ _) _)))); (refine wpQuiet_nil ?_; intro _ hw'; obtain ⟨xq, hw''⟩ := hw'; subst hw''))
        have HB1 := bThen (bThen HB0 hB) xq.2
        have HBq := bThen hB xq.2
        go_wp2_with fail
        first
          | (go_ret; exact ⟨ret_bool (by rw [HN.out (by unfold askOk; first | (rw [g1]; rfl) | (rw [g1, g2]; rfl) | (rw [g1, g2, g3]; rfl) | (rw [g1, g2, g3, g4]; rfl) | (rw [g1, g2, g3, g4, hq]; rfl))]), HB1⟩)
          | skip
      cases g4 : exst a.gen S.genders
      · go_wp2_with fail
        (refine wp_region_below (by kernel_rfl) (by kernel_rfl) ?_; (repeat (first | go_big_quiet_step (first | (go_at_call 42; exact toB (fun x => isB (hsys x) g1) _) | (go_at_call 75; exact toS (fun _ => isB (between_any _ _ _ _) g2) _) | (go_at_call 62; first | with_reducible exact toS (fun _ => isB (exists_any _ _ _) g3) _ | with_reducible exact toS (fun _ => isB (exists_any _ _ _) g4) _ | with_reducible exact toS (fun _ => exists_any _ _ _) _)) | quiet_step (first | (go_at_call 42; exact toB (fun x => isB (hsys x) g1) _) | (go_at_call 75; exact toS (fun _ => isB (between_any _ _ _ _) g2) _) | (go_at_call 62; first | with_reducible exact toS (fun _ => isB (exists_any _ _ _) g3) _ | with_reducible exact toS (fun _ => isB (exists_any _ _ _) g4) _ | with_reducible exact toS (fun _ => exists_any _ _ _) _)))); (refine wpQuiet_nil ?_; intro _ hw'; obtain ⟨xq, hw''⟩ := hw'; subst hw''))
        have HB1 := bThen (bThen HB0 hB) xq.2
        have HBq := bThen hB xq.2
        go_wp2_with fail
        first
          | (go_ret; exact ⟨ret_bool (by rw [HN.out (by unfold askOk; first | (rw [g1]; rfl) | (rw [g1, g2]; rfl) | (rw [g1, g2, g3]; rfl) | (rw [g1, g2, g3, g4]; rfl) | (rw [g1, g2, g3, g4, hq]; rfl))]), HB1⟩)
          | skip
      go_wp2_with fail
      (refine wp_region_below (by kernel_rfl) (by kernel_rfl) ?_; (repeat (first | go_big_quiet_step (first | (go_at_call 42; exact toB (fun x => isB (hsys x) g1) _) | (go_at_call 75; exact toS (fun _ => isB (between_any _ _ _ _) g2) _) | (go_at_call 62; first | with_reducible exact toS (fun _ => isB (exists_any _ _ _) g3) _ | with_reducible exact toS (fun _ => isB (exists_any _ _ _) g4) _ | with_reducible exact toS (fun _ => exists_any _ _ _) _)) | quiet_step (first | (go_at_call 42; exact toB (fun x => isB (hsys x) g1) _) | (go_at_call 75; exact toS (fun _ => isB (between_any _ _ _ _) g2) _) | (go_at_call 62; first | with_reducible exact toS (fun _ => isB (exists_any _ _ _) g3) _ | with_reducible exact toS (fun _ => isB (exists_any _ _ _) g4) _ | with_reducible exact toS (fun _ => exists_any _ _ _) _)))); (refine wpQuiet_nil ?_; intro _ hw'; obtain ⟨xq, hw''⟩ := hw'; subst hw''))
      have HB1 := bThen (bThen HB0 hB) xq.2
      have HBq := bThen hB xq.2
      go_wp2_with fail
      first
        | (go_ret; exact ⟨ret_bool (by rw [HN.out (by unfold askOk; first | (rw [g1]; rfl) | (rw [g1, g2]; rfl) | (rw [g1, g2, g3]; rfl) | (rw [g1, g2, g3, g4]; rfl) | (rw [g1, g2, g3, g4, hq]; rfl))]), HB1⟩)
        | skip
      · have hq : exst a.kas S.cases = false := by first | assumption | simpa using ‹(!exst a.kas S.cases) = true›
        go_ret
        exact ⟨ret_bool (by rw [HN.out (by unfold askOk; first | (rw [g1]; rfl) | (rw [g1, g2]; rfl) | (rw [g1, g2, g3]; rfl) | (rw [g1, g2, g3, g4]; rfl) | (rw [g1, g2, g3, g4, hq]; rfl))]), HB1⟩
      · have hq : exst a.kas S.cases = true := by first | assumption | simpa using ‹(!exst a.kas S.cases) = false›
        go_roundw
        case rel => exact ⟨k + 1, by omega, by go_num, by rw [HT.out, HA.out]; simp only [askOk, g1, g2, g3, g4, hq]; rfl, HBq⟩
        case measure => simp [intOf]; omega
    · obtain rfl : k = Ss.length := by omega
      have ha := HA.out
      rw [List.take_length] at ha
      have HA2 := Lib.hid ha
      clear ha
      go_wp2_with fail
      go_ret
      exact ⟨ret_bool (by rw [HA2.out]), bThen HB0 hB⟩
end Go.Proofs.Ytfcopnlpcbbocaa
/- Contracts: errors of asks, Check, Class. -/
namespace Go.Proofs.Ytfcopnlpcbbocaa
open Go.RowKit

/-- The error of asks and of systems; a number above the greatest one that is gone through. -/
def scanErr (a : Ask) (Ss : List Sys) : Int := if (Ss.all fun S => askOk S a) then (if 20000 < a.num then 4 else 0) else 2

set_option maxHeartbeats 1000000 in
theorem scanError_any (a : Ask) (Ss : List Sys) (v : Value) (w : World) (hv : SliceV w v 7 SysAt Ss) :
    Calls Try.prog 53 #[a.val, v] w fun e w' => e = .returned (.int .i64 (scanErr a Ss)) ∧ Below w.heap.size w w' := by
  have HV := Lib.hid hv
  obtain ⟨sa, sc, rfl, hl, -⟩ := hv
  unfold Ask.val
  cases g1 : (Ss.all fun S => askOk S a)
  all_goals
    have G1 := Lib.hid g1
    clear g1
    go_enter Try.func53, Try.ntmps53
    go_wp2_with (go_at_call 47; refine (isB (askRight_any a Ss _ _ (by exact HV.out.keep SysAt.stable (bAlloc (Below.refl _ _) _))) G1.out).mono ?_; rintro e w1 ⟨rfl, hb1⟩; have HB1 := bThen (bAlloc (Below.refl _ _) _) hb1; obtain ⟨hc, hf⟩ := bcell hb1)
    all_goals
      go_ret
      exact ⟨ret_int (by simp only [scanErr, G1.out]; first | rfl | (simp; omega)), HB1⟩

set_option maxHeartbeats 1000000 in
theorem Check_any (S : Sys) (vt vp vs : Value) (w : World) (hp : SysParts w vt vp vs S) :
    Calls Try.prog 18 #[sysVal S vt vp vs] w fun e w' => e = .returned (.int .i64 (if sysOk S then 0 else 2)) ∧ Below w.heap.size w w' := by
  have HP := Lib.hid hp
  obtain ⟨⟨at_, ct, rfl, -⟩, ⟨ap, cp, rfl, -⟩, ⟨as_, cs, rfl, -⟩⟩ := hp
  unfold sysVal
  cases g1 : sysOk S
  all_goals
    have G1 := Lib.hid g1
    clear g1
    go_enter Try.func18, Try.ntmps18
    go_wp2_with (go_at_call 42; refine (isB (systemRight_any _ _ S _ (by exact ⟨_, _, _, by simp, by simp, by simp, by simp, by simp, by simp, by simp, HP.out.keep (bAlloc (Below.refl _ _) _)⟩)) G1.out).mono ?_; rintro e w1 ⟨rfl, hb1⟩; have HB1 := bThen (bAlloc (Below.refl _ _) _) hb1)
    go_ret
    exact ⟨ret_int (by simp), HB1⟩

theorem plu_mod (S : Sys) (h : sysOk S = true) : ∀ i (hi : i < S.plurals.length), 1 ≤ S.plurals[i].mod := by
  intro i hi
  simp only [sysOk, Bool.and_eq_true] at h
  have := (List.all_eq_true.1 h.1.2) _ (List.getElem_mem hi)
  simp [pluOk, betw] at this
  omega

def classRes (S : Sys) (n : Int) : Value := if sysOk S = true ∧ 0 ≤ n then .tuple #[.int .i64 (classOf n S.plurals), .int .i64 0] else .tuple #[.int .i64 0, .int .i64 2]
set_option maxHeartbeats 1000000 in
theorem Class_any (S : Sys) (n : Int) (vt vp vs : Value) (w : World) (hp : SysParts w vt vp vs S) :
    Calls Try.prog 16 #[sysVal S vt vp vs, .int .i64 n] w fun e w' => e = .returned (classRes S n) ∧ Below w.heap.size w w' := by
  have HP := Lib.hid hp
  obtain ⟨⟨at_, ct, rfl, -⟩, ⟨ap, cp, rfl, -⟩, ⟨as_, cs, rfl, -⟩⟩ := hp
  unfold sysVal
  cases g1 : sysOk S
  · have G1 := Lib.hid g1
    clear g1
    go_enter Try.func16, Try.ntmps16
    go_wp2_with (go_at_call 42; refine (isB (systemRight_any _ _ S _ (by exact ⟨_, _, _, by simp, by simp, by simp, by simp, by simp, by simp, by simp, HP.out.keep (bAlloc (Below.refl _ _) _)⟩)) G1.out).mono ?_; rintro e w1 ⟨rfl, hb1⟩; have HB1 := bThen (bAlloc (Below.refl _ _) _) hb1)
    go_ret2
    exact ⟨by rw [classRes, if_neg (by rw [G1.out]; simp)]; rfl, HB1⟩
  by_cases hn : 0 ≤ n
  · have hd : decide (n < 0) = false := by simp; omega
    have G1 := Lib.hid g1
    have HM := plu_mod S g1
    clear g1
    go_enter Try.func16, Try.ntmps16
    go_wp2_with (first
      | (go_at_call 42; refine (isB (systemRight_any _ _ S _ (by exact ⟨_, _, _, by simp, by simp, by simp, by simp, by simp, by simp, by simp, HP.out.keep (bAlloc (Below.refl _ _) _)⟩)) G1.out).mono ?_; rintro e w1 ⟨rfl, hb1⟩; have HB1 := bThen (bAlloc (Below.refl _ _) _) hb1; obtain ⟨hc, hf⟩ := bcell hb1)
      | (go_at_call 43; refine (newSpeller_any S _ _ _ _ (by exact HP.out.keep HB1)).mono ?_; rintro e w2 ⟨⟨pb, rfl, hs⟩, hb2⟩; have HB2 := bThen HB1 hb2; obtain ⟨⟨_, _, _, -, -, -, -, -, hs5, -, -, hsp, -⟩, -⟩ := hs; simp only [Nat.zero_add] at hs5)
      | (go_at_call 44; refine (classOf_any _ _ S.plurals _ n _ (by exact hs5) hsp hn HM).mono ?_; rintro e w3 ⟨rfl, hb3⟩; have HB3 := bThen HB2 hb3))
    go_ret2
    exact ⟨by rw [classRes, if_pos ⟨G1.out, hn⟩]; rfl, HB3⟩
  · have hd : decide (n < 0) = true := by simp; omega
    have HN := Lib.hid hn
    clear hn
    have G1 := Lib.hid g1
    clear g1
    go_enter Try.func16, Try.ntmps16
    go_wp2_with (go_at_call 42; refine (isB (systemRight_any _ _ S _ (by exact ⟨_, _, _, by simp, by simp, by simp, by simp, by simp, by simp, by simp, HP.out.keep (bAlloc (Below.refl _ _) _)⟩)) G1.out).mono ?_; rintro e w1 ⟨rfl, hb1⟩; have HB1 := bThen (bAlloc (Below.refl _ _) _) hb1)
    go_ret2
    exact ⟨by rw [classRes, if_neg (fun h => by have := HN.out; have := h.2; omega)]; rfl, HB1⟩
end Go.Proofs.Ytfcopnlpcbbocaa
