/- Contracts of the specification: the numbers whose words are different in two systems. -/
import Derived.Test.YtfcopnlpcbbocaaR25
set_option linter.unusedSimpArgs false
set_option linter.unusedVariables false
namespace Go.Proofs.Ytfcopnlpcbbocaa
open Go.RowKit

set_option maxRecDepth 100000 in
set_option maxHeartbeats 8000000 in
theorem refDiffer_any (S T : Sys) (hS : Right S) (hT : Right T) (a : Ask) (ha : AskRight S a) (hta : AskRight T a) (hm : a.num ≤ 20000) (vt vp vs ut up us : Value) (w : World) (hp : SysParts w vt vp vs S) (hq : SysParts w ut up us T) :
    Calls Try.prog 35 #[sysVal S vt vp vs, sysVal T ut up us, a.val] w fun e w' => (∃ v, e = .returned v ∧ SliceV w' v 1 IntAt ((diffTo S T a a.num.toNat).map fun n : Nat => (n : Int))) ∧ Below w.heap.size w w' := by
  obtain ⟨g, hg⟩ : ∃ g : Nat → Bool, g = fun n : Nat => decide (wordsOf S (numb a n) ≠ wordsOf T (numb a n)) := ⟨_, rfl⟩
  have HGD : Hid (∀ k, g k = (fun n : Nat => decide (wordsOf S (numb a n) ≠ wordsOf T (numb a n))) k) := Lib.hid fun k => by rw [hg]
  have HRES : Hid (diffTo S T a a.num.toNat = (List.range (a.num.toNat + 1)).filter g) := Lib.hid (by rw [hg]; rfl)
  clear hg
  have HP := Lib.hid hp
  have HQ := Lib.hid hq
  have hnum := ha.num
  obtain ⟨i0, hi, hz0, hz1, hz2⟩ := info_parts info3
  have HI := Lib.hid hi
  clear hi
  obtain ⟨⟨at_, ct, rfl, -⟩, ⟨ap, cp, rfl, -⟩, ⟨as_, cs, rfl, -⟩⟩ := hp
  obtain ⟨⟨bt_, dt, rfl, -⟩, ⟨bp, dp, rfl, -⟩, ⟨bs_, ds, rfl, -⟩⟩ := hq
  unfold sysVal Ask.val
  have h24 : ∀ n : Nat, (n : Int) ≤ a.num → ∀ W', SysParts W' (.slice at_ S.terms.length ct) (.slice ap S.plurals.length cp) (.slice as_ S.sets.length cs) S → Calls Try.prog 24 #[.agg #[.int .i64 S.top, .int .i64 S.genders, .int .i64 S.cases, .int .i64 S.classes, .slice at_ S.terms.length ct, .slice ap S.plurals.length cp, .slice as_ S.sets.length cs], .agg #[.int .i64 (n : Int), .int .i64 a.set, .int .i64 a.gen, .int .i64 a.kas]] W' fun e w' => RefSpelled S (numb a n) e w' ∧ Below W'.heap.size W' w' := fun n hn W' h => refSpell_any S hS (numb a n) (numb_right ha hn) _ _ _ W' h
  have h24t : ∀ n : Nat, (n : Int) ≤ a.num → ∀ W', SysParts W' (.slice bt_ T.terms.length dt) (.slice bp T.plurals.length dp) (.slice bs_ T.sets.length ds) T → Calls Try.prog 24 #[.agg #[.int .i64 T.top, .int .i64 T.genders, .int .i64 T.cases, .int .i64 T.classes, .slice bt_ T.terms.length dt, .slice bp T.plurals.length dp, .slice bs_ T.sets.length ds], .agg #[.int .i64 (n : Int), .int .i64 a.set, .int .i64 a.gen, .int .i64 a.kas]] W' fun e w' => RefSpelled T (numb a n) e w' ∧ Below W'.heap.size W' w' := fun n hn W' h => refSpell_any T hT (numb a n) (numb_right hta hn) _ _ _ W' h
  have H24 := Lib.hid h24
  have H24T := Lib.hid h24t
  clear h24 h24t ha hta
  go_enter Try.func35, Try.ntmps35
  go_wp2_with fail
  generalize hW1 : World.alloc (World.alloc (World.alloc w _) _) _ = W1
  have hbn : Below w.heap.size w W1 := by rw [← hW1]; exact bAlloc (bAlloc (bAlloc (Below.refl _ _) _) _) _
  have HBX : Hid (BX3 W1 w.heap.size S T a (.slice at_ S.terms.length ct) (.slice ap S.plurals.length cp) (.slice as_ S.sets.length cs) (.slice bt_ T.terms.length dt) (.slice bp T.plurals.length dp) (.slice bs_ T.sets.length ds)) := Lib.hid (by rw [← hW1]; exact BX3.new _ _ _ _ _ _ _ _ _ _)
  have HB1 := Lib.hid hbn
  clear hW1 hbn
  go_loopw [7, 8] (fun v i wr => ∃ k : Nat, (k : Int) ≤ a.num + 1 ∧ i = .int .i64 k ∧ Hid (wr.ownsRow W1.heap.size 3 1 v ((List.range k).filter g).length (intsV ((List.range k).filter g))) ∧ Hid (Kp W1.heap.size own3 W1 wr)) (fun _ i _ => a.num.toNat + 1 - (intOf i).toNat)
  case atStart => exact ⟨0, by omega, rfl, Lib.hid (World.ownsRow_nil _ _ _ _), Lib.hid (Kp.refl _ _ _)⟩
  case round =>
    obtain ⟨k, hk, rfl, HROW, HK⟩ := hrel
    have hbx := HBX.out.kp HK.out rfl rfl
    obtain ⟨s0, s1, s2, s3, s4, s5, s6, t0, t1, t2, t3, t4, t5, t6, a0, a1, a2, a3, -, -, -⟩ := hbx
    have hsl := cell_lt s0
    have htl := cell_lt t0
    have hal := cell_lt a0
    by_cases hlt : (k : Int) ≤ a.num
    · have HPr := Lib.hid (HP.out.keep (bThen HB1.out HK.out.low))
      have HQr := Lib.hid (HQ.out.keep (bThen HB1.out HK.out.low))
      have hszr := HK.out.low.size
      have hln := scan_len g k
      have HH := Lib.hid (@scan_hit g k)
      have HM := Lib.hid (@scan_miss g k)
      cases hwo : wordsOf S (numb a k) with
      | none =>
        have HWO := Lib.hid hwo
        cases hvo : wordsOf T (numb a k) with
        | none =>
          have HVO := Lib.hid hvo
          have HG : Hid (g k = false) := Lib.hid (by rw [HGD.out]; simp [hwo, hvo])
          clear hwo hvo
          go_wp2_with (first
            | (go_at_call 24; (with_reducible refine Calls.mono (H24.out k hlt _ ?_) ?_); exact HPr.out.keep (bAlloc (Below.refl _ _) _); rintro e w2 ⟨hq, hb⟩; obtain rfl := RefSpelled.none hq HWO.out; have x0 := keep hb (cell_new (j := 0) rfl); have x1 := keep hb (cell_new (j := 1) rfl); have x2 := keep hb (cell_new (j := 2) rfl); have x3 := keep hb (cell_new (j := 3) rfl); have hbx := bThen (bAlloc (Below.refl _ _) _) hb; replace t0 := keep hbx t0; replace t1 := keep hbx t1; replace t2 := keep hbx t2; replace t3 := keep hbx t3; replace t4 := keep hbx t4; replace t5 := keep hbx t5; replace t6 := keep hbx t6; have htl2 := cell_lt t0; have hxl2 := cell_lt x0; clear hb hq)
            | (go_at_call 24; (with_reducible refine Calls.mono (H24T.out k hlt _ ?_) ?_); exact HQr.out.keep hbx; rintro e w3 ⟨hq, hb⟩; obtain rfl := RefSpelled.none hq HVO.out; replace hbx := bThen hbx hb; have HB := Lib.hid hbx; have HRW := Lib.hid (ownsRow_below HROW.out hbx); have hwc : W1.heap.size ≤ w3.heap.size := Nat.le_trans hszr hbx.size; clear hbx; clear hb hq))
          go_roundw
          case rel => exact ⟨k + 1, by omega, by go_num, Lib.hid (by rw [HM.out HG.out]; exact HRW.out), Lib.hid (HK.out.trans (Kp.of_below HB.out hszr))⟩
          case measure => simp [intOf]; omega
        | some ys =>
          have HVO := Lib.hid hvo
          have HG : Hid (g k = true) := Lib.hid (by rw [HGD.out]; simp [hwo, hvo])
          clear hwo hvo
          go_wp2_with (first
            | (go_at_call 24; (with_reducible refine Calls.mono (H24.out k hlt _ ?_) ?_); exact HPr.out.keep (bAlloc (Below.refl _ _) _); rintro e w2 ⟨hq, hb⟩; obtain rfl := RefSpelled.none hq HWO.out; have x0 := keep hb (cell_new (j := 0) rfl); have x1 := keep hb (cell_new (j := 1) rfl); have x2 := keep hb (cell_new (j := 2) rfl); have x3 := keep hb (cell_new (j := 3) rfl); have hbx := bThen (bAlloc (Below.refl _ _) _) hb; replace t0 := keep hbx t0; replace t1 := keep hbx t1; replace t2 := keep hbx t2; replace t3 := keep hbx t3; replace t4 := keep hbx t4; replace t5 := keep hbx t5; replace t6 := keep hbx t6; have htl2 := cell_lt t0; have hxl2 := cell_lt x0; clear hb hq)
            | (go_at_call 24; (with_reducible refine Calls.mono (H24T.out k hlt _ ?_) ?_); exact HQr.out.keep hbx; rintro e w3 ⟨hq, hb⟩; obtain ⟨ad5, cc5, rfl, HT2⟩ := RefSpelled.some hq HVO.out; replace hbx := bThen hbx hb; have HB := Lib.hid hbx; have HRW := Lib.hid (ownsRow_below HROW.out hbx); have hwc : W1.heap.size ≤ w3.heap.size := Nat.le_trans hszr hbx.size; clear hbx; clear hb hq)
            | (at_builtin; refine wpList_append_lies _ rfl _ _ 63 rfl W1.heap.size 3 i0 (.int .i64 0) 1 8 Try.underlying63 HI.out hz0 hz1 hz2 rfl (by decide) _ _ _ rfl (HRW.out.alloc _) ⟨w3.heap.size, 0, none⟩ 1 1 [.int .i64 (k : Int)] rfl rfl (cells_new _ _ _) (by simp [Value.oneCell']) (by omega) (by unfold maxLen; omega) (by omega) (by simp; omega) _ rfl ?_; intro g6 cap6 w6 hown hgrow hat6 hlt6; have HU := Lib.hid hown; have HKP := Lib.hid ((Kp.of_below (own := own3) (bAlloc (Below.refl _ _) _) hwc).trans (kp_grown hgrow (HRW.out.alloc _) rfl (by simp; omega))); clear hown hgrow hat6))
          go_roundw
          case rel => exact ⟨k + 1, by omega, by go_num, Lib.hid (by rw [HH.out HG.out]; simpa [intsV] using HU.out), Lib.hid (HK.out.trans ((Kp.of_below HB.out hszr).trans HKP.out))⟩
          case measure => simp [intOf]; omega
      | some xs =>
        have HWO := Lib.hid hwo
        cases hvo : wordsOf T (numb a k) with
        | none =>
          have HVO := Lib.hid hvo
          have HG : Hid (g k = true) := Lib.hid (by rw [HGD.out]; simp [hwo, hvo])
          clear hwo hvo
          go_wp2_with (first
            | (go_at_call 24; (with_reducible refine Calls.mono (H24.out k hlt _ ?_) ?_); exact HPr.out.keep (bAlloc (Below.refl _ _) _); rintro e w2 ⟨hq, hb⟩; obtain ⟨ad4, cc4, rfl, HS2⟩ := RefSpelled.some hq HWO.out; have x0 := keep hb (cell_new (j := 0) rfl); have x1 := keep hb (cell_new (j := 1) rfl); have x2 := keep hb (cell_new (j := 2) rfl); have x3 := keep hb (cell_new (j := 3) rfl); have hbx := bThen (bAlloc (Below.refl _ _) _) hb; replace t0 := keep hbx t0; replace t1 := keep hbx t1; replace t2 := keep hbx t2; replace t3 := keep hbx t3; replace t4 := keep hbx t4; replace t5 := keep hbx t5; replace t6 := keep hbx t6; have htl2 := cell_lt t0; have hxl2 := cell_lt x0; clear hb hq)
            | (go_at_call 24; (with_reducible refine Calls.mono (H24T.out k hlt _ ?_) ?_); exact HQr.out.keep hbx; rintro e w3 ⟨hq, hb⟩; obtain rfl := RefSpelled.none hq HVO.out; replace hbx := bThen hbx hb; have HB := Lib.hid hbx; have HRW := Lib.hid (ownsRow_below HROW.out hbx); have hwc : W1.heap.size ≤ w3.heap.size := Nat.le_trans hszr hbx.size; clear hbx; clear hb hq)
            | (at_builtin; refine wpList_append_lies _ rfl _ _ 63 rfl W1.heap.size 3 i0 (.int .i64 0) 1 8 Try.underlying63 HI.out hz0 hz1 hz2 rfl (by decide) _ _ _ rfl (HRW.out.alloc _) ⟨w3.heap.size, 0, none⟩ 1 1 [.int .i64 (k : Int)] rfl rfl (cells_new _ _ _) (by simp [Value.oneCell']) (by omega) (by unfold maxLen; omega) (by omega) (by simp; omega) _ rfl ?_; intro g6 cap6 w6 hown hgrow hat6 hlt6; have HU := Lib.hid hown; have HKP := Lib.hid ((Kp.of_below (own := own3) (bAlloc (Below.refl _ _) _) hwc).trans (kp_grown hgrow (HRW.out.alloc _) rfl (by simp; omega))); clear hown hgrow hat6))
          go_roundw
          case rel => exact ⟨k + 1, by omega, by go_num, Lib.hid (by rw [HH.out HG.out]; simpa [intsV] using HU.out), Lib.hid (HK.out.trans ((Kp.of_below HB.out hszr).trans HKP.out))⟩
          case measure => simp [intOf]; omega
        | some ys =>
          have HVO := Lib.hid hvo
          by_cases he : xs = ys
          · have HG : Hid (g k = false) := Lib.hid (by rw [HGD.out]; simp [hwo, hvo, he])
            have HE : Hid (decide (xs = ys) = true) := Lib.hid (by simp [he])
            clear hwo hvo he
            go_wp2_with (first
              | (go_at_call 24; (with_reducible refine Calls.mono (H24.out k hlt _ ?_) ?_); exact HPr.out.keep (bAlloc (Below.refl _ _) _); rintro e w2 ⟨hq, hb⟩; obtain ⟨ad4, cc4, rfl, HS2⟩ := RefSpelled.some hq HWO.out; have x0 := keep hb (cell_new (j := 0) rfl); have x1 := keep hb (cell_new (j := 1) rfl); have x2 := keep hb (cell_new (j := 2) rfl); have x3 := keep hb (cell_new (j := 3) rfl); have hbx := bThen (bAlloc (Below.refl _ _) _) hb; replace t0 := keep hbx t0; replace t1 := keep hbx t1; replace t2 := keep hbx t2; replace t3 := keep hbx t3; replace t4 := keep hbx t4; replace t5 := keep hbx t5; replace t6 := keep hbx t6; have htl2 := cell_lt t0; have hxl2 := cell_lt x0; clear hb hq)
              | (go_at_call 24; (with_reducible refine Calls.mono (H24T.out k hlt _ ?_) ?_); exact HQr.out.keep hbx; rintro e w3 ⟨hq, hb⟩; obtain ⟨ad5, cc5, rfl, HT2⟩ := RefSpelled.some hq HVO.out; replace hbx := bThen hbx hb; have hb23 := hb; clear hb hq)
              | (go_at_call 25; refine (isB (Same_any xs ys _ _ _ (HS2.out.keep StrAt.stable hb23) HT2.out) HE.out).mono ?_; rintro e w4 ⟨rfl, hb⟩; replace hbx := bThen hbx hb; have HB := Lib.hid hbx; have HRW := Lib.hid (ownsRow_below HROW.out hbx); have hwc : W1.heap.size ≤ w4.heap.size := Nat.le_trans hszr hbx.size; clear hbx; clear hb))
            go_roundw
            case rel => exact ⟨k + 1, by omega, by go_num, Lib.hid (by rw [HM.out HG.out]; exact HRW.out), Lib.hid (HK.out.trans (Kp.of_below HB.out hszr))⟩
            case measure => simp [intOf]; omega
          · have HG : Hid (g k = true) := Lib.hid (by rw [HGD.out]; simp [hwo, hvo, he])
            have HE : Hid (decide (xs = ys) = false) := Lib.hid (by simp [he])
            clear hwo hvo he
            go_wp2_with (first
              | (go_at_call 24; (with_reducible refine Calls.mono (H24.out k hlt _ ?_) ?_); exact HPr.out.keep (bAlloc (Below.refl _ _) _); rintro e w2 ⟨hq, hb⟩; obtain ⟨ad4, cc4, rfl, HS2⟩ := RefSpelled.some hq HWO.out; have x0 := keep hb (cell_new (j := 0) rfl); have x1 := keep hb (cell_new (j := 1) rfl); have x2 := keep hb (cell_new (j := 2) rfl); have x3 := keep hb (cell_new (j := 3) rfl); have hbx := bThen (bAlloc (Below.refl _ _) _) hb; replace t0 := keep hbx t0; replace t1 := keep hbx t1; replace t2 := keep hbx t2; replace t3 := keep hbx t3; replace t4 := keep hbx t4; replace t5 := keep hbx t5; replace t6 := keep hbx t6; have htl2 := cell_lt t0; have hxl2 := cell_lt x0; clear hb hq)
              | (go_at_call 24; (with_reducible refine Calls.mono (H24T.out k hlt _ ?_) ?_); exact HQr.out.keep hbx; rintro e w3 ⟨hq, hb⟩; obtain ⟨ad5, cc5, rfl, HT2⟩ := RefSpelled.some hq HVO.out; replace hbx := bThen hbx hb; have hb23 := hb; clear hb hq)
              | (go_at_call 25; refine (isB (Same_any xs ys _ _ _ (HS2.out.keep StrAt.stable hb23) HT2.out) HE.out).mono ?_; rintro e w4 ⟨rfl, hb⟩; replace hbx := bThen hbx hb; have HB := Lib.hid hbx; have HRW := Lib.hid (ownsRow_below HROW.out hbx); have hwc : W1.heap.size ≤ w4.heap.size := Nat.le_trans hszr hbx.size; clear hbx; clear hb)
              | (at_builtin; refine wpList_append_lies _ rfl _ _ 63 rfl W1.heap.size 3 i0 (.int .i64 0) 1 8 Try.underlying63 HI.out hz0 hz1 hz2 rfl (by decide) _ _ _ rfl (HRW.out.alloc _) ⟨w4.heap.size, 0, none⟩ 1 1 [.int .i64 (k : Int)] rfl rfl (cells_new _ _ _) (by simp [Value.oneCell']) (by omega) (by unfold maxLen; omega) (by omega) (by simp; omega) _ rfl ?_; intro g6 cap6 w6 hown hgrow hat6 hlt6; have HU := Lib.hid hown; have HKP := Lib.hid ((Kp.of_below (own := own3) (bAlloc (Below.refl _ _) _) hwc).trans (kp_grown hgrow (HRW.out.alloc _) rfl (by simp; omega))); clear hown hgrow hat6))
            go_roundw
            case rel => exact ⟨k + 1, by omega, by go_num, Lib.hid (by rw [HH.out HG.out]; simpa [intsV] using HU.out), Lib.hid (HK.out.trans ((Kp.of_below HB.out hszr).trans HKP.out))⟩
            case measure => simp [intOf]; omega
    · have HKK := Lib.hid (show k = a.num.toNat + 1 by omega)
      obtain ⟨ad, cap, rfl⟩ := ownsRow_slice HROW.out
      go_wp2_with fail
      go_ret
      refine ⟨⟨_, rfl, ?_⟩, bThen HB1.out HK.out.low⟩
      have h1 := ints_slice HROW.out (by have := scan_len g k; omega)
      rw [HRES.out, ← HKK.out]
      exact h1
end Go.Proofs.Ytfcopnlpcbbocaa
