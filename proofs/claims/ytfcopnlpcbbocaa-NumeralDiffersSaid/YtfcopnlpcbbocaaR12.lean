/- The law of differences, walked: for any two systems and every ask it answers true. -/
import Derived.Test.YtfcopnlpcbbocaaR11
import Derived.Test.YtfcopnlpcbbocaaR8
set_option linter.unusedSimpArgs false
set_option linter.unusedVariables false
namespace Go.Proofs.Ytfcopnlpcbbocaa
open Go.RowKit

theorem scanErr_one (S : Sys) (a : Ask) : scanErr a [S] = if askOk S a = true then (if 20000 < a.num then 4 else 0) else 2 := by unfold scanErr; simp
theorem scanErr_two (S T : Sys) (a : Ask) : scanErr a [S, T] = if askOk S a = true ∧ askOk T a = true then (if 20000 < a.num then 4 else 0) else 2 := by unfold scanErr; simp
theorem DiffPost.err {S T : Sys} {a : Ask} {e : Ending} {w : World} {n : Int} (h : DiffPost S T a e w) (he : scanErr a [S, T] = n) (hn : n ≠ 0) : e = .returned (.tuple #[.slice none 0 0, .int .i64 n]) := by
  rcases h with ⟨-, h⟩ | ⟨h, -⟩
  · rw [he] at h; exact h
  · exact absurd (he.symm.trans h) hn
theorem DiffPost.some {S T : Sys} {a : Ask} {e : Ending} {w : World} {L : List Nat} (h : DiffPost S T a e w) (he : scanErr a [S, T] = 0) (hL : diffTo S T a a.num.toNat = L) :
    ∃ ad c, e = .returned (.tuple #[.slice ad L.length c, .int .i64 0]) ∧ Hid (SliceV w (.slice ad L.length c) 1 IntAt (L.map fun n : Nat => (n : Int))) := by
  subst hL
  rcases h with ⟨h, -⟩ | ⟨-, ad, c, rfl, hs⟩
  · exact absurd he h
  · exact ⟨ad, c, rfl, Lib.hid hs⟩

set_option maxRecDepth 100000 in
set_option maxHeartbeats 16000000 in
theorem differs_any (S T : Sys) (a : Ask) (vt vp vs ut up us : Value) (w : World) (hp : SysParts w vt vp vs S) (hq : SysParts w ut up us T) :
    Calls Try.prog 9 #[sysVal S vt vp vs, sysVal T ut up us, a.val] w fun e w' => e = .returned (.bool true) ∧ Below w.heap.size w w' := by
  have HPS := Lib.hid hp
  have HQS := Lib.hid hq
  obtain ⟨⟨at_, ct, rfl, -⟩, ⟨ap, cp, rfl, -⟩, ⟨as_, cs, rfl, -⟩⟩ := hp
  obtain ⟨⟨bt_, dt, rfl, -⟩, ⟨bp, dp, rfl, -⟩, ⟨bs_, ds, rfl, -⟩⟩ := hq
  have HSV := Lib.hid (sysVal_eq S (.slice at_ S.terms.length ct) (.slice ap S.plurals.length cp) (.slice as_ S.sets.length cs))
  have HTV := Lib.hid (sysVal_eq T (.slice bt_ T.terms.length dt) (.slice bp T.plurals.length dp) (.slice bs_ T.sets.length ds))
  unfold sysVal Ask.val
  have h34 : ∀ W', SysParts W' (.slice at_ S.terms.length ct) (.slice ap S.plurals.length cp) (.slice as_ S.sets.length cs) S → SysParts W' (.slice bt_ T.terms.length dt) (.slice bp T.plurals.length dp) (.slice bs_ T.sets.length ds) T → Calls Try.prog 34 #[.agg #[.int .i64 S.top, .int .i64 S.genders, .int .i64 S.cases, .int .i64 S.classes, .slice at_ S.terms.length ct, .slice ap S.plurals.length cp, .slice as_ S.sets.length cs], .agg #[.int .i64 T.top, .int .i64 T.genders, .int .i64 T.cases, .int .i64 T.classes, .slice bt_ T.terms.length dt, .slice bp T.plurals.length dp, .slice bs_ T.sets.length ds], .agg #[.int .i64 a.num, .int .i64 a.set, .int .i64 a.gen, .int .i64 a.kas]] W' fun e w' => DiffPost S T a e w' ∧ Below W'.heap.size W' w' := fun W' h h' => Differ_any S T a _ _ _ _ _ _ W' h h'
  have h22 : ∀ W', SysParts W' (.slice at_ S.terms.length ct) (.slice ap S.plurals.length cp) (.slice as_ S.sets.length cs) S → Calls Try.prog 22 #[.agg #[.int .i64 S.top, .int .i64 S.genders, .int .i64 S.cases, .int .i64 S.classes, .slice at_ S.terms.length ct, .slice ap S.plurals.length cp, .slice as_ S.sets.length cs], .agg #[.int .i64 a.num, .int .i64 a.set, .int .i64 a.gen, .int .i64 a.kas], .bool true] W' fun e w' => e = .returned (.int .i64 (refErr S a true)) ∧ Below W'.heap.size W' w' := fun W' h => refused_any S a true _ _ _ W' h
  have h22t : ∀ W', SysParts W' (.slice bt_ T.terms.length dt) (.slice bp T.plurals.length dp) (.slice bs_ T.sets.length ds) T → Calls Try.prog 22 #[.agg #[.int .i64 T.top, .int .i64 T.genders, .int .i64 T.cases, .int .i64 T.classes, .slice bt_ T.terms.length dt, .slice bp T.plurals.length dp, .slice bs_ T.sets.length ds], .agg #[.int .i64 a.num, .int .i64 a.set, .int .i64 a.gen, .int .i64 a.kas], .bool true] W' fun e w' => e = .returned (.int .i64 (refErr T a true)) ∧ Below W'.heap.size W' w' := fun W' h => refused_any T a true _ _ _ W' h
  have H34 := Lib.hid h34
  have H22 := Lib.hid h22
  have H22T := Lib.hid h22t
  clear h34 h22 h22t
  by_cases c1 : 200 < a.num
  · by_cases c1' : a.num ≤ 20000
    · go_enter Try.func9, Try.ntmps9
      go_wp2_with fail
      generalize hW1 : World.alloc (World.alloc (World.alloc w _) _) _ = W1
      have hbn : Below w.heap.size w W1 := by rw [← hW1]; exact bAlloc (bAlloc (bAlloc (Below.refl _ _) _) _) _
      have HBX : Hid (BX3 W1 w.heap.size S T a (.slice at_ S.terms.length ct) (.slice ap S.plurals.length cp) (.slice as_ S.sets.length cs) (.slice bt_ T.terms.length dt) (.slice bp T.plurals.length dp) (.slice bs_ T.sets.length ds)) := Lib.hid (by rw [← hW1]; exact BX3.new _ _ _ _ _ _ _ _ _ _)
      obtain ⟨s0, s1, s2, s3, s4, s5, s6, t0, t1, t2, t3, t4, t5, t6, a0, a1, a2, a3, -, -, -⟩ := HBX.out
      have HB := Lib.hid hbn
      have HPn := Lib.hid (HPS.out.keep hbn)
      have HQn := Lib.hid (HQS.out.keep hbn)
      clear hW1 hbn HBX
      have hsl := cell_lt s0
      have htl := cell_lt t0
      have hal := cell_lt a0
      go_wp2_with (first
        | (go_at_call 14; rw [HSV.out]; refine (small_any S _ _ _ _ HPn.out).mono ?_; rintro e w1 ⟨⟨b, rfl⟩, hb⟩; replace s0 := keep hb s0; replace s1 := keep hb s1; replace s2 := keep hb s2; replace s3 := keep hb s3; replace s4 := keep hb s4; replace s5 := keep hb s5; replace s6 := keep hb s6; replace t0 := keep hb t0; replace t1 := keep hb t1; replace t2 := keep hb t2; replace t3 := keep hb t3; replace t4 := keep hb t4; replace t5 := keep hb t5; replace t6 := keep hb t6; replace a0 := keep hb a0; replace a1 := keep hb a1; replace a2 := keep hb a2; replace a3 := keep hb a3; replace hsl := cell_lt s0; replace htl := cell_lt t0; replace hal := cell_lt a0; replace HPn := Lib.hid (HPn.out.keep hb); replace HQn := Lib.hid (HQn.out.keep hb); replace HB := Lib.hid (bThen HB.out hb); clear hb; cases b)
        | (go_at_call 14; rw [HTV.out]; refine (small_any T _ _ _ _ HQn.out).mono ?_; rintro e w1 ⟨⟨b, rfl⟩, hb⟩; replace s0 := keep hb s0; replace s1 := keep hb s1; replace s2 := keep hb s2; replace s3 := keep hb s3; replace s4 := keep hb s4; replace s5 := keep hb s5; replace s6 := keep hb s6; replace t0 := keep hb t0; replace t1 := keep hb t1; replace t2 := keep hb t2; replace t3 := keep hb t3; replace t4 := keep hb t4; replace t5 := keep hb t5; replace t6 := keep hb t6; replace a0 := keep hb a0; replace a1 := keep hb a1; replace a2 := keep hb a2; replace a3 := keep hb a3; replace hsl := cell_lt s0; replace htl := cell_lt t0; replace hal := cell_lt a0; replace HPn := Lib.hid (HPn.out.keep hb); replace HQn := Lib.hid (HQn.out.keep hb); replace HB := Lib.hid (bThen HB.out hb); clear hb; cases b)
        | (go_at_call 15; refine (known_any _).mono ?_; rintro e wk ⟨rfl, hb⟩; replace HB := Lib.hid (bThen HB.out hb); clear hb))
      all_goals
        first
          | (go_ret; exact ⟨rfl, HB.out⟩)
          | (exfalso; omega)
    cases hs : askOk S a
    · have HEN : Hid (scanErr a [S, T] = 2) := Lib.hid (by rw [scanErr_two]; simp [hs]; try omega)
      have HNZ : Hid ((2 : Int) ≠ 0) := Lib.hid (by decide)
      have HES : Hid (refErr S a true = 2) := Lib.hid (by rw [scanErr_ref, scanErr_one]; simp [hs]; try omega)
      obtain ⟨et, het⟩ : ∃ et, et = refErr T a true := ⟨_, rfl⟩
      have HET : Hid (refErr T a true = et) := Lib.hid het.symm
      clear het
      clear hs
      go_enter Try.func9, Try.ntmps9
      go_wp2_with fail
      generalize hW1 : World.alloc (World.alloc (World.alloc w _) _) _ = W1
      have hbn : Below w.heap.size w W1 := by rw [← hW1]; exact bAlloc (bAlloc (bAlloc (Below.refl _ _) _) _) _
      have HBX : Hid (BX3 W1 w.heap.size S T a (.slice at_ S.terms.length ct) (.slice ap S.plurals.length cp) (.slice as_ S.sets.length cs) (.slice bt_ T.terms.length dt) (.slice bp T.plurals.length dp) (.slice bs_ T.sets.length ds)) := Lib.hid (by rw [← hW1]; exact BX3.new _ _ _ _ _ _ _ _ _ _)
      obtain ⟨s0, s1, s2, s3, s4, s5, s6, t0, t1, t2, t3, t4, t5, t6, a0, a1, a2, a3, -, -, -⟩ := HBX.out
      have HB := Lib.hid hbn
      have HPn := Lib.hid (HPS.out.keep hbn)
      have HQn := Lib.hid (HQS.out.keep hbn)
      clear hW1 hbn HBX
      have hsl := cell_lt s0
      have htl := cell_lt t0
      have hal := cell_lt a0
      go_wp2_with (first
        | (go_at_call 14; rw [HSV.out]; refine (small_any S _ _ _ _ HPn.out).mono ?_; rintro e w1 ⟨⟨b, rfl⟩, hb⟩; replace s0 := keep hb s0; replace s1 := keep hb s1; replace s2 := keep hb s2; replace s3 := keep hb s3; replace s4 := keep hb s4; replace s5 := keep hb s5; replace s6 := keep hb s6; replace t0 := keep hb t0; replace t1 := keep hb t1; replace t2 := keep hb t2; replace t3 := keep hb t3; replace t4 := keep hb t4; replace t5 := keep hb t5; replace t6 := keep hb t6; replace a0 := keep hb a0; replace a1 := keep hb a1; replace a2 := keep hb a2; replace a3 := keep hb a3; replace hsl := cell_lt s0; replace htl := cell_lt t0; replace hal := cell_lt a0; replace HPn := Lib.hid (HPn.out.keep hb); replace HQn := Lib.hid (HQn.out.keep hb); replace HB := Lib.hid (bThen HB.out hb); clear hb; cases b)
        | (go_at_call 14; rw [HTV.out]; refine (small_any T _ _ _ _ HQn.out).mono ?_; rintro e w1 ⟨⟨b, rfl⟩, hb⟩; replace s0 := keep hb s0; replace s1 := keep hb s1; replace s2 := keep hb s2; replace s3 := keep hb s3; replace s4 := keep hb s4; replace s5 := keep hb s5; replace s6 := keep hb s6; replace t0 := keep hb t0; replace t1 := keep hb t1; replace t2 := keep hb t2; replace t3 := keep hb t3; replace t4 := keep hb t4; replace t5 := keep hb t5; replace t6 := keep hb t6; replace a0 := keep hb a0; replace a1 := keep hb a1; replace a2 := keep hb a2; replace a3 := keep hb a3; replace hsl := cell_lt s0; replace htl := cell_lt t0; replace hal := cell_lt a0; replace HPn := Lib.hid (HPn.out.keep hb); replace HQn := Lib.hid (HQn.out.keep hb); replace HB := Lib.hid (bThen HB.out hb); clear hb; cases b)
        | (go_at_call 15; refine (known_any _).mono ?_; rintro e wk ⟨rfl, hb⟩; replace HB := Lib.hid (bThen HB.out hb); clear hb)
        | (go_at_call 34; refine (H34.out _ HPn.out HQn.out).mono ?_; rintro e w2 ⟨hq, hb⟩; obtain rfl := DiffPost.err hq HEN.out HNZ.out; replace s0 := keep hb s0; replace s1 := keep hb s1; replace s2 := keep hb s2; replace s3 := keep hb s3; replace s4 := keep hb s4; replace s5 := keep hb s5; replace s6 := keep hb s6; replace t0 := keep hb t0; replace t1 := keep hb t1; replace t2 := keep hb t2; replace t3 := keep hb t3; replace t4 := keep hb t4; replace t5 := keep hb t5; replace t6 := keep hb t6; replace a0 := keep hb a0; replace a1 := keep hb a1; replace a2 := keep hb a2; replace a3 := keep hb a3; replace hsl := cell_lt s0; replace htl := cell_lt t0; replace hal := cell_lt a0; replace HPn := Lib.hid (HPn.out.keep hb); replace HQn := Lib.hid (HQn.out.keep hb); replace HB := Lib.hid (bThen HB.out hb); clear hb hq)
        | (go_at_call 22; (with_reducible refine Calls.mono (H22.out _ ?_) ?_); exact HPn.out; rintro e w4 ⟨rfl, hb⟩; rw [HES.out]; replace s0 := keep hb s0; replace s1 := keep hb s1; replace s2 := keep hb s2; replace s3 := keep hb s3; replace s4 := keep hb s4; replace s5 := keep hb s5; replace s6 := keep hb s6; replace t0 := keep hb t0; replace t1 := keep hb t1; replace t2 := keep hb t2; replace t3 := keep hb t3; replace t4 := keep hb t4; replace t5 := keep hb t5; replace t6 := keep hb t6; replace a0 := keep hb a0; replace a1 := keep hb a1; replace a2 := keep hb a2; replace a3 := keep hb a3; replace hsl := cell_lt s0; replace htl := cell_lt t0; replace hal := cell_lt a0; replace HPn := Lib.hid (HPn.out.keep hb); replace HQn := Lib.hid (HQn.out.keep hb); replace HB := Lib.hid (bThen HB.out hb); (try (replace HRD := Lib.hid (HRD.out.keep IntAt.stable hb))); clear hb)
        | (go_at_call 22; (with_reducible refine Calls.mono (H22T.out _ ?_) ?_); exact HQn.out; rintro e w4 ⟨rfl, hb⟩; rw [HET.out]; replace s0 := keep hb s0; replace s1 := keep hb s1; replace s2 := keep hb s2; replace s3 := keep hb s3; replace s4 := keep hb s4; replace s5 := keep hb s5; replace s6 := keep hb s6; replace t0 := keep hb t0; replace t1 := keep hb t1; replace t2 := keep hb t2; replace t3 := keep hb t3; replace t4 := keep hb t4; replace t5 := keep hb t5; replace t6 := keep hb t6; replace a0 := keep hb a0; replace a1 := keep hb a1; replace a2 := keep hb a2; replace a3 := keep hb a3; replace hsl := cell_lt s0; replace htl := cell_lt t0; replace hal := cell_lt a0; replace HPn := Lib.hid (HPn.out.keep hb); replace HQn := Lib.hid (HQn.out.keep hb); replace HB := Lib.hid (bThen HB.out hb); (try (replace HRD := Lib.hid (HRD.out.keep IntAt.stable hb))); clear hb))
      all_goals
        first
          | (go_ret; exact ⟨rfl, HB.out⟩)
          | (exfalso; omega)
    cases ht : askOk T a
    · have HEN : Hid (scanErr a [S, T] = 2) := Lib.hid (by rw [scanErr_two]; simp [hs, ht]; try omega)
      have HNZ : Hid ((2 : Int) ≠ 0) := Lib.hid (by decide)
      have HES : Hid (refErr S a true = 4) := Lib.hid (by rw [scanErr_ref, scanErr_one]; simp [hs]; try omega)
      have HET : Hid (refErr T a true = 2) := Lib.hid (by rw [scanErr_ref, scanErr_one]; simp [ht]; try omega)
      clear hs ht
      go_enter Try.func9, Try.ntmps9
      go_wp2_with fail
      generalize hW1 : World.alloc (World.alloc (World.alloc w _) _) _ = W1
      have hbn : Below w.heap.size w W1 := by rw [← hW1]; exact bAlloc (bAlloc (bAlloc (Below.refl _ _) _) _) _
      have HBX : Hid (BX3 W1 w.heap.size S T a (.slice at_ S.terms.length ct) (.slice ap S.plurals.length cp) (.slice as_ S.sets.length cs) (.slice bt_ T.terms.length dt) (.slice bp T.plurals.length dp) (.slice bs_ T.sets.length ds)) := Lib.hid (by rw [← hW1]; exact BX3.new _ _ _ _ _ _ _ _ _ _)
      obtain ⟨s0, s1, s2, s3, s4, s5, s6, t0, t1, t2, t3, t4, t5, t6, a0, a1, a2, a3, -, -, -⟩ := HBX.out
      have HB := Lib.hid hbn
      have HPn := Lib.hid (HPS.out.keep hbn)
      have HQn := Lib.hid (HQS.out.keep hbn)
      clear hW1 hbn HBX
      have hsl := cell_lt s0
      have htl := cell_lt t0
      have hal := cell_lt a0
      go_wp2_with (first
        | (go_at_call 14; rw [HSV.out]; refine (small_any S _ _ _ _ HPn.out).mono ?_; rintro e w1 ⟨⟨b, rfl⟩, hb⟩; replace s0 := keep hb s0; replace s1 := keep hb s1; replace s2 := keep hb s2; replace s3 := keep hb s3; replace s4 := keep hb s4; replace s5 := keep hb s5; replace s6 := keep hb s6; replace t0 := keep hb t0; replace t1 := keep hb t1; replace t2 := keep hb t2; replace t3 := keep hb t3; replace t4 := keep hb t4; replace t5 := keep hb t5; replace t6 := keep hb t6; replace a0 := keep hb a0; replace a1 := keep hb a1; replace a2 := keep hb a2; replace a3 := keep hb a3; replace hsl := cell_lt s0; replace htl := cell_lt t0; replace hal := cell_lt a0; replace HPn := Lib.hid (HPn.out.keep hb); replace HQn := Lib.hid (HQn.out.keep hb); replace HB := Lib.hid (bThen HB.out hb); clear hb; cases b)
        | (go_at_call 14; rw [HTV.out]; refine (small_any T _ _ _ _ HQn.out).mono ?_; rintro e w1 ⟨⟨b, rfl⟩, hb⟩; replace s0 := keep hb s0; replace s1 := keep hb s1; replace s2 := keep hb s2; replace s3 := keep hb s3; replace s4 := keep hb s4; replace s5 := keep hb s5; replace s6 := keep hb s6; replace t0 := keep hb t0; replace t1 := keep hb t1; replace t2 := keep hb t2; replace t3 := keep hb t3; replace t4 := keep hb t4; replace t5 := keep hb t5; replace t6 := keep hb t6; replace a0 := keep hb a0; replace a1 := keep hb a1; replace a2 := keep hb a2; replace a3 := keep hb a3; replace hsl := cell_lt s0; replace htl := cell_lt t0; replace hal := cell_lt a0; replace HPn := Lib.hid (HPn.out.keep hb); replace HQn := Lib.hid (HQn.out.keep hb); replace HB := Lib.hid (bThen HB.out hb); clear hb; cases b)
        | (go_at_call 15; refine (known_any _).mono ?_; rintro e wk ⟨rfl, hb⟩; replace HB := Lib.hid (bThen HB.out hb); clear hb)
        | (go_at_call 34; refine (H34.out _ HPn.out HQn.out).mono ?_; rintro e w2 ⟨hq, hb⟩; obtain rfl := DiffPost.err hq HEN.out HNZ.out; replace s0 := keep hb s0; replace s1 := keep hb s1; replace s2 := keep hb s2; replace s3 := keep hb s3; replace s4 := keep hb s4; replace s5 := keep hb s5; replace s6 := keep hb s6; replace t0 := keep hb t0; replace t1 := keep hb t1; replace t2 := keep hb t2; replace t3 := keep hb t3; replace t4 := keep hb t4; replace t5 := keep hb t5; replace t6 := keep hb t6; replace a0 := keep hb a0; replace a1 := keep hb a1; replace a2 := keep hb a2; replace a3 := keep hb a3; replace hsl := cell_lt s0; replace htl := cell_lt t0; replace hal := cell_lt a0; replace HPn := Lib.hid (HPn.out.keep hb); replace HQn := Lib.hid (HQn.out.keep hb); replace HB := Lib.hid (bThen HB.out hb); clear hb hq)
        | (go_at_call 22; (with_reducible refine Calls.mono (H22.out _ ?_) ?_); exact HPn.out; rintro e w4 ⟨rfl, hb⟩; rw [HES.out]; replace s0 := keep hb s0; replace s1 := keep hb s1; replace s2 := keep hb s2; replace s3 := keep hb s3; replace s4 := keep hb s4; replace s5 := keep hb s5; replace s6 := keep hb s6; replace t0 := keep hb t0; replace t1 := keep hb t1; replace t2 := keep hb t2; replace t3 := keep hb t3; replace t4 := keep hb t4; replace t5 := keep hb t5; replace t6 := keep hb t6; replace a0 := keep hb a0; replace a1 := keep hb a1; replace a2 := keep hb a2; replace a3 := keep hb a3; replace hsl := cell_lt s0; replace htl := cell_lt t0; replace hal := cell_lt a0; replace HPn := Lib.hid (HPn.out.keep hb); replace HQn := Lib.hid (HQn.out.keep hb); replace HB := Lib.hid (bThen HB.out hb); (try (replace HRD := Lib.hid (HRD.out.keep IntAt.stable hb))); clear hb)
        | (go_at_call 22; (with_reducible refine Calls.mono (H22T.out _ ?_) ?_); exact HQn.out; rintro e w4 ⟨rfl, hb⟩; rw [HET.out]; replace s0 := keep hb s0; replace s1 := keep hb s1; replace s2 := keep hb s2; replace s3 := keep hb s3; replace s4 := keep hb s4; replace s5 := keep hb s5; replace s6 := keep hb s6; replace t0 := keep hb t0; replace t1 := keep hb t1; replace t2 := keep hb t2; replace t3 := keep hb t3; replace t4 := keep hb t4; replace t5 := keep hb t5; replace t6 := keep hb t6; replace a0 := keep hb a0; replace a1 := keep hb a1; replace a2 := keep hb a2; replace a3 := keep hb a3; replace hsl := cell_lt s0; replace htl := cell_lt t0; replace hal := cell_lt a0; replace HPn := Lib.hid (HPn.out.keep hb); replace HQn := Lib.hid (HQn.out.keep hb); replace HB := Lib.hid (bThen HB.out hb); (try (replace HRD := Lib.hid (HRD.out.keep IntAt.stable hb))); clear hb))
      all_goals
        first
          | (go_ret; exact ⟨rfl, HB.out⟩)
          | (exfalso; omega)
    have HEN : Hid (scanErr a [S, T] = 4) := Lib.hid (by rw [scanErr_two]; simp [hs, ht]; try omega)
    have HNZ : Hid ((4 : Int) ≠ 0) := Lib.hid (by decide)
    have HES : Hid (refErr S a true = 4) := Lib.hid (by rw [scanErr_ref, scanErr_one]; simp [hs]; try omega)
    have HET : Hid (refErr T a true = 4) := Lib.hid (by rw [scanErr_ref, scanErr_one]; simp [ht]; try omega)
    clear hs ht
    go_enter Try.func9, Try.ntmps9
    go_wp2_with fail
    generalize hW1 : World.alloc (World.alloc (World.alloc w _) _) _ = W1
    have hbn : Below w.heap.size w W1 := by rw [← hW1]; exact bAlloc (bAlloc (bAlloc (Below.refl _ _) _) _) _
    have HBX : Hid (BX3 W1 w.heap.size S T a (.slice at_ S.terms.length ct) (.slice ap S.plurals.length cp) (.slice as_ S.sets.length cs) (.slice bt_ T.terms.length dt) (.slice bp T.plurals.length dp) (.slice bs_ T.sets.length ds)) := Lib.hid (by rw [← hW1]; exact BX3.new _ _ _ _ _ _ _ _ _ _)
    obtain ⟨s0, s1, s2, s3, s4, s5, s6, t0, t1, t2, t3, t4, t5, t6, a0, a1, a2, a3, -, -, -⟩ := HBX.out
    have HB := Lib.hid hbn
    have HPn := Lib.hid (HPS.out.keep hbn)
    have HQn := Lib.hid (HQS.out.keep hbn)
    clear hW1 hbn HBX
    have hsl := cell_lt s0
    have htl := cell_lt t0
    have hal := cell_lt a0
    go_wp2_with (first
      | (go_at_call 14; rw [HSV.out]; refine (small_any S _ _ _ _ HPn.out).mono ?_; rintro e w1 ⟨⟨b, rfl⟩, hb⟩; replace s0 := keep hb s0; replace s1 := keep hb s1; replace s2 := keep hb s2; replace s3 := keep hb s3; replace s4 := keep hb s4; replace s5 := keep hb s5; replace s6 := keep hb s6; replace t0 := keep hb t0; replace t1 := keep hb t1; replace t2 := keep hb t2; replace t3 := keep hb t3; replace t4 := keep hb t4; replace t5 := keep hb t5; replace t6 := keep hb t6; replace a0 := keep hb a0; replace a1 := keep hb a1; replace a2 := keep hb a2; replace a3 := keep hb a3; replace hsl := cell_lt s0; replace htl := cell_lt t0; replace hal := cell_lt a0; replace HPn := Lib.hid (HPn.out.keep hb); replace HQn := Lib.hid (HQn.out.keep hb); replace HB := Lib.hid (bThen HB.out hb); clear hb; cases b)
      | (go_at_call 14; rw [HTV.out]; refine (small_any T _ _ _ _ HQn.out).mono ?_; rintro e w1 ⟨⟨b, rfl⟩, hb⟩; replace s0 := keep hb s0; replace s1 := keep hb s1; replace s2 := keep hb s2; replace s3 := keep hb s3; replace s4 := keep hb s4; replace s5 := keep hb s5; replace s6 := keep hb s6; replace t0 := keep hb t0; replace t1 := keep hb t1; replace t2 := keep hb t2; replace t3 := keep hb t3; replace t4 := keep hb t4; replace t5 := keep hb t5; replace t6 := keep hb t6; replace a0 := keep hb a0; replace a1 := keep hb a1; replace a2 := keep hb a2; replace a3 := keep hb a3; replace hsl := cell_lt s0; replace htl := cell_lt t0; replace hal := cell_lt a0; replace HPn := Lib.hid (HPn.out.keep hb); replace HQn := Lib.hid (HQn.out.keep hb); replace HB := Lib.hid (bThen HB.out hb); clear hb; cases b)
      | (go_at_call 15; refine (known_any _).mono ?_; rintro e wk ⟨rfl, hb⟩; replace HB := Lib.hid (bThen HB.out hb); clear hb)
      | (go_at_call 34; refine (H34.out _ HPn.out HQn.out).mono ?_; rintro e w2 ⟨hq, hb⟩; obtain rfl := DiffPost.err hq HEN.out HNZ.out; replace s0 := keep hb s0; replace s1 := keep hb s1; replace s2 := keep hb s2; replace s3 := keep hb s3; replace s4 := keep hb s4; replace s5 := keep hb s5; replace s6 := keep hb s6; replace t0 := keep hb t0; replace t1 := keep hb t1; replace t2 := keep hb t2; replace t3 := keep hb t3; replace t4 := keep hb t4; replace t5 := keep hb t5; replace t6 := keep hb t6; replace a0 := keep hb a0; replace a1 := keep hb a1; replace a2 := keep hb a2; replace a3 := keep hb a3; replace hsl := cell_lt s0; replace htl := cell_lt t0; replace hal := cell_lt a0; replace HPn := Lib.hid (HPn.out.keep hb); replace HQn := Lib.hid (HQn.out.keep hb); replace HB := Lib.hid (bThen HB.out hb); clear hb hq)
      | (go_at_call 22; (with_reducible refine Calls.mono (H22.out _ ?_) ?_); exact HPn.out; rintro e w4 ⟨rfl, hb⟩; rw [HES.out]; replace s0 := keep hb s0; replace s1 := keep hb s1; replace s2 := keep hb s2; replace s3 := keep hb s3; replace s4 := keep hb s4; replace s5 := keep hb s5; replace s6 := keep hb s6; replace t0 := keep hb t0; replace t1 := keep hb t1; replace t2 := keep hb t2; replace t3 := keep hb t3; replace t4 := keep hb t4; replace t5 := keep hb t5; replace t6 := keep hb t6; replace a0 := keep hb a0; replace a1 := keep hb a1; replace a2 := keep hb a2; replace a3 := keep hb a3; replace hsl := cell_lt s0; replace htl := cell_lt t0; replace hal := cell_lt a0; replace HPn := Lib.hid (HPn.out.keep hb); replace HQn := Lib.hid (HQn.out.keep hb); replace HB := Lib.hid (bThen HB.out hb); (try (replace HRD := Lib.hid (HRD.out.keep IntAt.stable hb))); clear hb)
      | (go_at_call 22; (with_reducible refine Calls.mono (H22T.out _ ?_) ?_); exact HQn.out; rintro e w4 ⟨rfl, hb⟩; rw [HET.out]; replace s0 := keep hb s0; replace s1 := keep hb s1; replace s2 := keep hb s2; replace s3 := keep hb s3; replace s4 := keep hb s4; replace s5 := keep hb s5; replace s6 := keep hb s6; replace t0 := keep hb t0; replace t1 := keep hb t1; replace t2 := keep hb t2; replace t3 := keep hb t3; replace t4 := keep hb t4; replace t5 := keep hb t5; replace t6 := keep hb t6; replace a0 := keep hb a0; replace a1 := keep hb a1; replace a2 := keep hb a2; replace a3 := keep hb a3; replace hsl := cell_lt s0; replace htl := cell_lt t0; replace hal := cell_lt a0; replace HPn := Lib.hid (HPn.out.keep hb); replace HQn := Lib.hid (HQn.out.keep hb); replace HB := Lib.hid (bThen HB.out hb); (try (replace HRD := Lib.hid (HRD.out.keep IntAt.stable hb))); clear hb))
    all_goals
      first
        | (go_ret; exact ⟨rfl, HB.out⟩)
        | (exfalso; omega)
  cases hs : askOk S a
  · have HEN : Hid (scanErr a [S, T] = 2) := Lib.hid (by rw [scanErr_two]; simp [hs]; try omega)
    have HNZ : Hid ((2 : Int) ≠ 0) := Lib.hid (by decide)
    have HES : Hid (refErr S a true = 2) := Lib.hid (by rw [scanErr_ref, scanErr_one]; simp [hs]; try omega)
    obtain ⟨et, het⟩ : ∃ et, et = refErr T a true := ⟨_, rfl⟩
    have HET : Hid (refErr T a true = et) := Lib.hid het.symm
    clear het
    clear hs
    go_enter Try.func9, Try.ntmps9
    go_wp2_with fail
    generalize hW1 : World.alloc (World.alloc (World.alloc w _) _) _ = W1
    have hbn : Below w.heap.size w W1 := by rw [← hW1]; exact bAlloc (bAlloc (bAlloc (Below.refl _ _) _) _) _
    have HBX : Hid (BX3 W1 w.heap.size S T a (.slice at_ S.terms.length ct) (.slice ap S.plurals.length cp) (.slice as_ S.sets.length cs) (.slice bt_ T.terms.length dt) (.slice bp T.plurals.length dp) (.slice bs_ T.sets.length ds)) := Lib.hid (by rw [← hW1]; exact BX3.new _ _ _ _ _ _ _ _ _ _)
    obtain ⟨s0, s1, s2, s3, s4, s5, s6, t0, t1, t2, t3, t4, t5, t6, a0, a1, a2, a3, -, -, -⟩ := HBX.out
    have HB := Lib.hid hbn
    have HPn := Lib.hid (HPS.out.keep hbn)
    have HQn := Lib.hid (HQS.out.keep hbn)
    clear hW1 hbn HBX
    have hsl := cell_lt s0
    have htl := cell_lt t0
    have hal := cell_lt a0
    go_wp2_with (first
      | (go_at_call 14; rw [HSV.out]; refine (small_any S _ _ _ _ HPn.out).mono ?_; rintro e w1 ⟨⟨b, rfl⟩, hb⟩; replace s0 := keep hb s0; replace s1 := keep hb s1; replace s2 := keep hb s2; replace s3 := keep hb s3; replace s4 := keep hb s4; replace s5 := keep hb s5; replace s6 := keep hb s6; replace t0 := keep hb t0; replace t1 := keep hb t1; replace t2 := keep hb t2; replace t3 := keep hb t3; replace t4 := keep hb t4; replace t5 := keep hb t5; replace t6 := keep hb t6; replace a0 := keep hb a0; replace a1 := keep hb a1; replace a2 := keep hb a2; replace a3 := keep hb a3; replace hsl := cell_lt s0; replace htl := cell_lt t0; replace hal := cell_lt a0; replace HPn := Lib.hid (HPn.out.keep hb); replace HQn := Lib.hid (HQn.out.keep hb); replace HB := Lib.hid (bThen HB.out hb); clear hb; cases b)
      | (go_at_call 14; rw [HTV.out]; refine (small_any T _ _ _ _ HQn.out).mono ?_; rintro e w1 ⟨⟨b, rfl⟩, hb⟩; replace s0 := keep hb s0; replace s1 := keep hb s1; replace s2 := keep hb s2; replace s3 := keep hb s3; replace s4 := keep hb s4; replace s5 := keep hb s5; replace s6 := keep hb s6; replace t0 := keep hb t0; replace t1 := keep hb t1; replace t2 := keep hb t2; replace t3 := keep hb t3; replace t4 := keep hb t4; replace t5 := keep hb t5; replace t6 := keep hb t6; replace a0 := keep hb a0; replace a1 := keep hb a1; replace a2 := keep hb a2; replace a3 := keep hb a3; replace hsl := cell_lt s0; replace htl := cell_lt t0; replace hal := cell_lt a0; replace HPn := Lib.hid (HPn.out.keep hb); replace HQn := Lib.hid (HQn.out.keep hb); replace HB := Lib.hid (bThen HB.out hb); clear hb; cases b)
      | (go_at_call 15; refine (known_any _).mono ?_; rintro e wk ⟨rfl, hb⟩; replace HB := Lib.hid (bThen HB.out hb); clear hb)
      | (go_at_call 34; refine (H34.out _ HPn.out HQn.out).mono ?_; rintro e w2 ⟨hq, hb⟩; obtain rfl := DiffPost.err hq HEN.out HNZ.out; replace s0 := keep hb s0; replace s1 := keep hb s1; replace s2 := keep hb s2; replace s3 := keep hb s3; replace s4 := keep hb s4; replace s5 := keep hb s5; replace s6 := keep hb s6; replace t0 := keep hb t0; replace t1 := keep hb t1; replace t2 := keep hb t2; replace t3 := keep hb t3; replace t4 := keep hb t4; replace t5 := keep hb t5; replace t6 := keep hb t6; replace a0 := keep hb a0; replace a1 := keep hb a1; replace a2 := keep hb a2; replace a3 := keep hb a3; replace hsl := cell_lt s0; replace htl := cell_lt t0; replace hal := cell_lt a0; replace HPn := Lib.hid (HPn.out.keep hb); replace HQn := Lib.hid (HQn.out.keep hb); replace HB := Lib.hid (bThen HB.out hb); clear hb hq)
      | (go_at_call 22; (with_reducible refine Calls.mono (H22.out _ ?_) ?_); exact HPn.out; rintro e w4 ⟨rfl, hb⟩; rw [HES.out]; replace s0 := keep hb s0; replace s1 := keep hb s1; replace s2 := keep hb s2; replace s3 := keep hb s3; replace s4 := keep hb s4; replace s5 := keep hb s5; replace s6 := keep hb s6; replace t0 := keep hb t0; replace t1 := keep hb t1; replace t2 := keep hb t2; replace t3 := keep hb t3; replace t4 := keep hb t4; replace t5 := keep hb t5; replace t6 := keep hb t6; replace a0 := keep hb a0; replace a1 := keep hb a1; replace a2 := keep hb a2; replace a3 := keep hb a3; replace hsl := cell_lt s0; replace htl := cell_lt t0; replace hal := cell_lt a0; replace HPn := Lib.hid (HPn.out.keep hb); replace HQn := Lib.hid (HQn.out.keep hb); replace HB := Lib.hid (bThen HB.out hb); (try (replace HRD := Lib.hid (HRD.out.keep IntAt.stable hb))); clear hb)
      | (go_at_call 22; (with_reducible refine Calls.mono (H22T.out _ ?_) ?_); exact HQn.out; rintro e w4 ⟨rfl, hb⟩; rw [HET.out]; replace s0 := keep hb s0; replace s1 := keep hb s1; replace s2 := keep hb s2; replace s3 := keep hb s3; replace s4 := keep hb s4; replace s5 := keep hb s5; replace s6 := keep hb s6; replace t0 := keep hb t0; replace t1 := keep hb t1; replace t2 := keep hb t2; replace t3 := keep hb t3; replace t4 := keep hb t4; replace t5 := keep hb t5; replace t6 := keep hb t6; replace a0 := keep hb a0; replace a1 := keep hb a1; replace a2 := keep hb a2; replace a3 := keep hb a3; replace hsl := cell_lt s0; replace htl := cell_lt t0; replace hal := cell_lt a0; replace HPn := Lib.hid (HPn.out.keep hb); replace HQn := Lib.hid (HQn.out.keep hb); replace HB := Lib.hid (bThen HB.out hb); (try (replace HRD := Lib.hid (HRD.out.keep IntAt.stable hb))); clear hb))
    all_goals
      first
        | (go_ret; exact ⟨rfl, HB.out⟩)
        | (exfalso; omega)
  cases ht : askOk T a
  · have HEN : Hid (scanErr a [S, T] = 2) := Lib.hid (by rw [scanErr_two]; simp [hs, ht]; try omega)
    have HNZ : Hid ((2 : Int) ≠ 0) := Lib.hid (by decide)
    have HES : Hid (refErr S a true = 0) := Lib.hid (by rw [scanErr_ref, scanErr_one]; simp [hs]; try omega)
    have HET : Hid (refErr T a true = 2) := Lib.hid (by rw [scanErr_ref, scanErr_one]; simp [ht]; try omega)
    clear hs ht
    go_enter Try.func9, Try.ntmps9
    go_wp2_with fail
    generalize hW1 : World.alloc (World.alloc (World.alloc w _) _) _ = W1
    have hbn : Below w.heap.size w W1 := by rw [← hW1]; exact bAlloc (bAlloc (bAlloc (Below.refl _ _) _) _) _
    have HBX : Hid (BX3 W1 w.heap.size S T a (.slice at_ S.terms.length ct) (.slice ap S.plurals.length cp) (.slice as_ S.sets.length cs) (.slice bt_ T.terms.length dt) (.slice bp T.plurals.length dp) (.slice bs_ T.sets.length ds)) := Lib.hid (by rw [← hW1]; exact BX3.new _ _ _ _ _ _ _ _ _ _)
    obtain ⟨s0, s1, s2, s3, s4, s5, s6, t0, t1, t2, t3, t4, t5, t6, a0, a1, a2, a3, -, -, -⟩ := HBX.out
    have HB := Lib.hid hbn
    have HPn := Lib.hid (HPS.out.keep hbn)
    have HQn := Lib.hid (HQS.out.keep hbn)
    clear hW1 hbn HBX
    have hsl := cell_lt s0
    have htl := cell_lt t0
    have hal := cell_lt a0
    go_wp2_with (first
      | (go_at_call 14; rw [HSV.out]; refine (small_any S _ _ _ _ HPn.out).mono ?_; rintro e w1 ⟨⟨b, rfl⟩, hb⟩; replace s0 := keep hb s0; replace s1 := keep hb s1; replace s2 := keep hb s2; replace s3 := keep hb s3; replace s4 := keep hb s4; replace s5 := keep hb s5; replace s6 := keep hb s6; replace t0 := keep hb t0; replace t1 := keep hb t1; replace t2 := keep hb t2; replace t3 := keep hb t3; replace t4 := keep hb t4; replace t5 := keep hb t5; replace t6 := keep hb t6; replace a0 := keep hb a0; replace a1 := keep hb a1; replace a2 := keep hb a2; replace a3 := keep hb a3; replace hsl := cell_lt s0; replace htl := cell_lt t0; replace hal := cell_lt a0; replace HPn := Lib.hid (HPn.out.keep hb); replace HQn := Lib.hid (HQn.out.keep hb); replace HB := Lib.hid (bThen HB.out hb); clear hb; cases b)
      | (go_at_call 14; rw [HTV.out]; refine (small_any T _ _ _ _ HQn.out).mono ?_; rintro e w1 ⟨⟨b, rfl⟩, hb⟩; replace s0 := keep hb s0; replace s1 := keep hb s1; replace s2 := keep hb s2; replace s3 := keep hb s3; replace s4 := keep hb s4; replace s5 := keep hb s5; replace s6 := keep hb s6; replace t0 := keep hb t0; replace t1 := keep hb t1; replace t2 := keep hb t2; replace t3 := keep hb t3; replace t4 := keep hb t4; replace t5 := keep hb t5; replace t6 := keep hb t6; replace a0 := keep hb a0; replace a1 := keep hb a1; replace a2 := keep hb a2; replace a3 := keep hb a3; replace hsl := cell_lt s0; replace htl := cell_lt t0; replace hal := cell_lt a0; replace HPn := Lib.hid (HPn.out.keep hb); replace HQn := Lib.hid (HQn.out.keep hb); replace HB := Lib.hid (bThen HB.out hb); clear hb; cases b)
      | (go_at_call 15; refine (known_any _).mono ?_; rintro e wk ⟨rfl, hb⟩; replace HB := Lib.hid (bThen HB.out hb); clear hb)
      | (go_at_call 34; refine (H34.out _ HPn.out HQn.out).mono ?_; rintro e w2 ⟨hq, hb⟩; obtain rfl := DiffPost.err hq HEN.out HNZ.out; replace s0 := keep hb s0; replace s1 := keep hb s1; replace s2 := keep hb s2; replace s3 := keep hb s3; replace s4 := keep hb s4; replace s5 := keep hb s5; replace s6 := keep hb s6; replace t0 := keep hb t0; replace t1 := keep hb t1; replace t2 := keep hb t2; replace t3 := keep hb t3; replace t4 := keep hb t4; replace t5 := keep hb t5; replace t6 := keep hb t6; replace a0 := keep hb a0; replace a1 := keep hb a1; replace a2 := keep hb a2; replace a3 := keep hb a3; replace hsl := cell_lt s0; replace htl := cell_lt t0; replace hal := cell_lt a0; replace HPn := Lib.hid (HPn.out.keep hb); replace HQn := Lib.hid (HQn.out.keep hb); replace HB := Lib.hid (bThen HB.out hb); clear hb hq)
      | (go_at_call 22; (with_reducible refine Calls.mono (H22.out _ ?_) ?_); exact HPn.out; rintro e w4 ⟨rfl, hb⟩; rw [HES.out]; replace s0 := keep hb s0; replace s1 := keep hb s1; replace s2 := keep hb s2; replace s3 := keep hb s3; replace s4 := keep hb s4; replace s5 := keep hb s5; replace s6 := keep hb s6; replace t0 := keep hb t0; replace t1 := keep hb t1; replace t2 := keep hb t2; replace t3 := keep hb t3; replace t4 := keep hb t4; replace t5 := keep hb t5; replace t6 := keep hb t6; replace a0 := keep hb a0; replace a1 := keep hb a1; replace a2 := keep hb a2; replace a3 := keep hb a3; replace hsl := cell_lt s0; replace htl := cell_lt t0; replace hal := cell_lt a0; replace HPn := Lib.hid (HPn.out.keep hb); replace HQn := Lib.hid (HQn.out.keep hb); replace HB := Lib.hid (bThen HB.out hb); (try (replace HRD := Lib.hid (HRD.out.keep IntAt.stable hb))); clear hb)
      | (go_at_call 22; (with_reducible refine Calls.mono (H22T.out _ ?_) ?_); exact HQn.out; rintro e w4 ⟨rfl, hb⟩; rw [HET.out]; replace s0 := keep hb s0; replace s1 := keep hb s1; replace s2 := keep hb s2; replace s3 := keep hb s3; replace s4 := keep hb s4; replace s5 := keep hb s5; replace s6 := keep hb s6; replace t0 := keep hb t0; replace t1 := keep hb t1; replace t2 := keep hb t2; replace t3 := keep hb t3; replace t4 := keep hb t4; replace t5 := keep hb t5; replace t6 := keep hb t6; replace a0 := keep hb a0; replace a1 := keep hb a1; replace a2 := keep hb a2; replace a3 := keep hb a3; replace hsl := cell_lt s0; replace htl := cell_lt t0; replace hal := cell_lt a0; replace HPn := Lib.hid (HPn.out.keep hb); replace HQn := Lib.hid (HQn.out.keep hb); replace HB := Lib.hid (bThen HB.out hb); (try (replace HRD := Lib.hid (HRD.out.keep IntAt.stable hb))); clear hb))
    all_goals
      first
        | (go_ret; exact ⟨rfl, HB.out⟩)
        | (exfalso; omega)
  have HEN : Hid (scanErr a [S, T] = 0) := Lib.hid (by rw [scanErr_two]; simp [hs, ht]; try omega)
  have HES : Hid (refErr S a true = 0) := Lib.hid (by rw [scanErr_ref, scanErr_one]; simp [hs]; try omega)
  have HET : Hid (refErr T a true = 0) := Lib.hid (by rw [scanErr_ref, scanErr_one]; simp [ht]; try omega)
  have HRS := Lib.hid (askRight_of hs)
  have HRT := Lib.hid (askRight_of ht)
  have HMX : Hid (a.num ≤ 20000) := Lib.hid (by omega)
  obtain ⟨L, hL⟩ : ∃ L, L = diffTo S T a a.num.toNat := ⟨_, rfl⟩
  have HL := Lib.hid hL.symm
  have h35 : ∀ W', SysParts W' (.slice at_ S.terms.length ct) (.slice ap S.plurals.length cp) (.slice as_ S.sets.length cs) S → SysParts W' (.slice bt_ T.terms.length dt) (.slice bp T.plurals.length dp) (.slice bs_ T.sets.length ds) T → Calls Try.prog 35 #[.agg #[.int .i64 S.top, .int .i64 S.genders, .int .i64 S.cases, .int .i64 S.classes, .slice at_ S.terms.length ct, .slice ap S.plurals.length cp, .slice as_ S.sets.length cs], .agg #[.int .i64 T.top, .int .i64 T.genders, .int .i64 T.cases, .int .i64 T.classes, .slice bt_ T.terms.length dt, .slice bp T.plurals.length dp, .slice bs_ T.sets.length ds], .agg #[.int .i64 a.num, .int .i64 a.set, .int .i64 a.gen, .int .i64 a.kas]] W' fun e w' => (∃ v, e = .returned v ∧ SliceV w' v 1 IntAt (L.map fun n : Nat => (n : Int))) ∧ Below W'.heap.size W' w' := fun W' h h' => by
    have := refDiffer_any S T HRS.out.1 HRT.out.1 a HRS.out.2 HRT.out.2 HMX.out _ _ _ _ _ _ W' h h'
    rw [HL.out] at this
    exact this
  have H35 := Lib.hid h35
  clear h35 hL hs ht
  go_enter Try.func9, Try.ntmps9
  go_wp2_with fail
  generalize hW1 : World.alloc (World.alloc (World.alloc w _) _) _ = W1
  have hbn : Below w.heap.size w W1 := by rw [← hW1]; exact bAlloc (bAlloc (bAlloc (Below.refl _ _) _) _) _
  have HBX : Hid (BX3 W1 w.heap.size S T a (.slice at_ S.terms.length ct) (.slice ap S.plurals.length cp) (.slice as_ S.sets.length cs) (.slice bt_ T.terms.length dt) (.slice bp T.plurals.length dp) (.slice bs_ T.sets.length ds)) := Lib.hid (by rw [← hW1]; exact BX3.new _ _ _ _ _ _ _ _ _ _)
  obtain ⟨s0, s1, s2, s3, s4, s5, s6, t0, t1, t2, t3, t4, t5, t6, a0, a1, a2, a3, -, -, -⟩ := HBX.out
  have HB := Lib.hid hbn
  have HPn := Lib.hid (HPS.out.keep hbn)
  have HQn := Lib.hid (HQS.out.keep hbn)
  clear hW1 hbn HBX
  have hsl := cell_lt s0
  have htl := cell_lt t0
  have hal := cell_lt a0
  go_wp2_with (first
    | (go_at_call 14; rw [HSV.out]; refine (small_any S _ _ _ _ HPn.out).mono ?_; rintro e w1 ⟨⟨b, rfl⟩, hb⟩; replace s0 := keep hb s0; replace s1 := keep hb s1; replace s2 := keep hb s2; replace s3 := keep hb s3; replace s4 := keep hb s4; replace s5 := keep hb s5; replace s6 := keep hb s6; replace t0 := keep hb t0; replace t1 := keep hb t1; replace t2 := keep hb t2; replace t3 := keep hb t3; replace t4 := keep hb t4; replace t5 := keep hb t5; replace t6 := keep hb t6; replace a0 := keep hb a0; replace a1 := keep hb a1; replace a2 := keep hb a2; replace a3 := keep hb a3; replace hsl := cell_lt s0; replace htl := cell_lt t0; replace hal := cell_lt a0; replace HPn := Lib.hid (HPn.out.keep hb); replace HQn := Lib.hid (HQn.out.keep hb); replace HB := Lib.hid (bThen HB.out hb); clear hb; cases b)
    | (go_at_call 14; rw [HTV.out]; refine (small_any T _ _ _ _ HQn.out).mono ?_; rintro e w1 ⟨⟨b, rfl⟩, hb⟩; replace s0 := keep hb s0; replace s1 := keep hb s1; replace s2 := keep hb s2; replace s3 := keep hb s3; replace s4 := keep hb s4; replace s5 := keep hb s5; replace s6 := keep hb s6; replace t0 := keep hb t0; replace t1 := keep hb t1; replace t2 := keep hb t2; replace t3 := keep hb t3; replace t4 := keep hb t4; replace t5 := keep hb t5; replace t6 := keep hb t6; replace a0 := keep hb a0; replace a1 := keep hb a1; replace a2 := keep hb a2; replace a3 := keep hb a3; replace hsl := cell_lt s0; replace htl := cell_lt t0; replace hal := cell_lt a0; replace HPn := Lib.hid (HPn.out.keep hb); replace HQn := Lib.hid (HQn.out.keep hb); replace HB := Lib.hid (bThen HB.out hb); clear hb; cases b)
    | (go_at_call 15; refine (known_any _).mono ?_; rintro e wk ⟨rfl, hb⟩; replace HB := Lib.hid (bThen HB.out hb); clear hb)
    | (go_at_call 34; refine (H34.out _ HPn.out HQn.out).mono ?_; rintro e w2 ⟨hq, hb⟩; obtain ⟨adr, ccr, rfl, HRD⟩ := DiffPost.some hq HEN.out HL.out; replace s0 := keep hb s0; replace s1 := keep hb s1; replace s2 := keep hb s2; replace s3 := keep hb s3; replace s4 := keep hb s4; replace s5 := keep hb s5; replace s6 := keep hb s6; replace t0 := keep hb t0; replace t1 := keep hb t1; replace t2 := keep hb t2; replace t3 := keep hb t3; replace t4 := keep hb t4; replace t5 := keep hb t5; replace t6 := keep hb t6; replace a0 := keep hb a0; replace a1 := keep hb a1; replace a2 := keep hb a2; replace a3 := keep hb a3; replace hsl := cell_lt s0; replace htl := cell_lt t0; replace hal := cell_lt a0; replace HPn := Lib.hid (HPn.out.keep hb); replace HQn := Lib.hid (HQn.out.keep hb); replace HB := Lib.hid (bThen HB.out hb); clear hb hq)
    | (go_at_call 22; (with_reducible refine Calls.mono (H22.out _ ?_) ?_); exact HPn.out; rintro e w4 ⟨rfl, hb⟩; rw [HES.out]; replace s0 := keep hb s0; replace s1 := keep hb s1; replace s2 := keep hb s2; replace s3 := keep hb s3; replace s4 := keep hb s4; replace s5 := keep hb s5; replace s6 := keep hb s6; replace t0 := keep hb t0; replace t1 := keep hb t1; replace t2 := keep hb t2; replace t3 := keep hb t3; replace t4 := keep hb t4; replace t5 := keep hb t5; replace t6 := keep hb t6; replace a0 := keep hb a0; replace a1 := keep hb a1; replace a2 := keep hb a2; replace a3 := keep hb a3; replace hsl := cell_lt s0; replace htl := cell_lt t0; replace hal := cell_lt a0; replace HPn := Lib.hid (HPn.out.keep hb); replace HQn := Lib.hid (HQn.out.keep hb); replace HB := Lib.hid (bThen HB.out hb); (try (replace HRD := Lib.hid (HRD.out.keep IntAt.stable hb))); clear hb)
    | (go_at_call 22; (with_reducible refine Calls.mono (H22T.out _ ?_) ?_); exact HQn.out; rintro e w4 ⟨rfl, hb⟩; rw [HET.out]; replace s0 := keep hb s0; replace s1 := keep hb s1; replace s2 := keep hb s2; replace s3 := keep hb s3; replace s4 := keep hb s4; replace s5 := keep hb s5; replace s6 := keep hb s6; replace t0 := keep hb t0; replace t1 := keep hb t1; replace t2 := keep hb t2; replace t3 := keep hb t3; replace t4 := keep hb t4; replace t5 := keep hb t5; replace t6 := keep hb t6; replace a0 := keep hb a0; replace a1 := keep hb a1; replace a2 := keep hb a2; replace a3 := keep hb a3; replace hsl := cell_lt s0; replace htl := cell_lt t0; replace hal := cell_lt a0; replace HPn := Lib.hid (HPn.out.keep hb); replace HQn := Lib.hid (HQn.out.keep hb); replace HB := Lib.hid (bThen HB.out hb); (try (replace HRD := Lib.hid (HRD.out.keep IntAt.stable hb))); clear hb)
    | (go_at_call 35; refine (H35.out _ HPn.out HQn.out).mono ?_; rintro e w5 ⟨⟨vq, rfl, hq⟩, hb⟩; obtain ⟨adq, ccq, rfl, -⟩ := id hq; rw [List.length_map] at hq ⊢; have HX := Lib.hid hq; replace s0 := keep hb s0; replace s1 := keep hb s1; replace s2 := keep hb s2; replace s3 := keep hb s3; replace s4 := keep hb s4; replace s5 := keep hb s5; replace s6 := keep hb s6; replace t0 := keep hb t0; replace t1 := keep hb t1; replace t2 := keep hb t2; replace t3 := keep hb t3; replace t4 := keep hb t4; replace t5 := keep hb t5; replace t6 := keep hb t6; replace a0 := keep hb a0; replace a1 := keep hb a1; replace a2 := keep hb a2; replace a3 := keep hb a3; replace hsl := cell_lt s0; replace htl := cell_lt t0; replace hal := cell_lt a0; replace HPn := Lib.hid (HPn.out.keep hb); replace HQn := Lib.hid (HQn.out.keep hb); replace HB := Lib.hid (bThen HB.out hb); (try (replace HRD := Lib.hid (HRD.out.keep IntAt.stable hb))); clear hb hq)
    | (go_at_call 29; refine (isB (Numbers_any (L.map fun n : Nat => (n : Int)) (L.map fun n : Nat => (n : Int)) _ _ _ HRD.out HX.out) (show _ = true by simp)).mono ?_; rintro e w6 ⟨rfl, hb⟩; replace s0 := keep hb s0; replace s1 := keep hb s1; replace s2 := keep hb s2; replace s3 := keep hb s3; replace s4 := keep hb s4; replace s5 := keep hb s5; replace s6 := keep hb s6; replace t0 := keep hb t0; replace t1 := keep hb t1; replace t2 := keep hb t2; replace t3 := keep hb t3; replace t4 := keep hb t4; replace t5 := keep hb t5; replace t6 := keep hb t6; replace a0 := keep hb a0; replace a1 := keep hb a1; replace a2 := keep hb a2; replace a3 := keep hb a3; replace hsl := cell_lt s0; replace htl := cell_lt t0; replace hal := cell_lt a0; replace HPn := Lib.hid (HPn.out.keep hb); replace HQn := Lib.hid (HQn.out.keep hb); replace HB := Lib.hid (bThen HB.out hb); clear hb))
  all_goals
    first
      | (go_ret; exact ⟨rfl, HB.out⟩)
      | (exfalso; omega)
end Go.Proofs.Ytfcopnlpcbbocaa
