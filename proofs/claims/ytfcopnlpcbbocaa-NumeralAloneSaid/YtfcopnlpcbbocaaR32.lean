/- The law of twins, walked: for every system and ask it answers true. -/
import Derived.Test.YtfcopnlpcbbocaaR31
import Derived.Test.YtfcopnlpcbbocaaR22
import Derived.Test.YtfcopnlpcbbocaaR8
set_option linter.unusedSimpArgs false
set_option linter.unusedVariables false
namespace Go.Proofs.Ytfcopnlpcbbocaa
open Go.RowKit

theorem eqTwin (d : Nat) (x : Nat × Nat) (w : World) : (Op.equalIn (d + 1 + 1) 76 (.agg #[.int .i64 (x.1 : Int), .int .i64 (x.2 : Int)]) (.agg #[.int .i64 (x.1 : Int), .int .i64 (x.2 : Int)])).run Try.prog w = .ok true w := by
  have hs : (Try.prog.stoodInHeld 76) = false := by kernel_rfl
  have h3 : ∀ w, (sizeOf 3).run Try.prog w = .ok 1 w := fun _ => by kernel_rfl
  unfold Op.equalIn
  simp only [Sem.run_bind, run_underlying Try.underlying76, Result.andThen, h3]
  simp [go_sem, hs, Try.underlying3]
theorem TwinsPost.err {S : Sys} {a : Ask} {e : Ending} {w : World} {n : Int} (h : TwinsPost S a e w) (he : scanErr a [S] = n) (hn : n ≠ 0) : e = .returned (.tuple #[.slice none 0 0, .int .i64 n]) := by
  rcases h with ⟨-, h⟩ | ⟨h, -⟩
  · rw [he] at h; exact h
  · exact absurd (he.symm.trans h) hn
theorem TwinsPost.some {S : Sys} {a : Ask} {e : Ending} {w : World} {L : List (Nat × Nat)} (h : TwinsPost S a e w) (he : scanErr a [S] = 0) (hL : twinsTo S a a.num.toNat = L) :
    ∃ ad c, e = .returned (.tuple #[.slice ad L.length c, .int .i64 0]) ∧ Hid (SliceV w (.slice ad L.length c) 2 TwAt L) := by
  subst hL
  rcases h with ⟨h, -⟩ | ⟨-, v, rfl, hs⟩
  · exact absurd he h
  · obtain ⟨ad, c, rfl, -⟩ := id hs
    exact ⟨ad, c, rfl, Lib.hid hs⟩
theorem MissPost.err {S : Sys} {a : Ask} {e : Ending} {w : World} {n : Int} (h : MissPost S a e w) (he : scanErr a [S] = n) (hn : n ≠ 0) : e = .returned (.tuple #[.slice none 0 0, .int .i64 n]) := by
  rcases h with ⟨-, h⟩ | ⟨h, -⟩
  · rw [he] at h; exact h
  · exact absurd (he.symm.trans h) hn
theorem MissPost.some {S : Sys} {a : Ask} {e : Ending} {w : World} {L : List Nat} (h : MissPost S a e w) (he : scanErr a [S] = 0) (hL : missTo S a a.num.toNat = L) :
    ∃ ad c, e = .returned (.tuple #[.slice ad L.length c, .int .i64 0]) ∧ Hid (SliceV w (.slice ad L.length c) 1 IntAt (L.map fun n : Nat => (n : Int))) := by
  subst hL
  rcases h with ⟨h, -⟩ | ⟨-, ad, c, rfl, hs⟩
  · exact absurd he h
  · exact ⟨ad, c, rfl, Lib.hid hs⟩

set_option maxRecDepth 100000 in
set_option maxHeartbeats 16000000 in
theorem twins_any (S : Sys) (a : Ask) (vt vp vs : Value) (w : World) (hp : SysParts w vt vp vs S) :
    Calls Try.prog 7 #[sysVal S vt vp vs, a.val] w fun e w' => e = .returned (.bool true) ∧ Below w.heap.size w w' := by
  have HPS := Lib.hid hp
  obtain ⟨⟨at_, ct, rfl, -⟩, ⟨ap, cp, rfl, -⟩, ⟨as_, cs, rfl, -⟩⟩ := hp
  have HSV := Lib.hid (sysVal_eq S (.slice at_ S.terms.length ct) (.slice ap S.plurals.length cp) (.slice as_ S.sets.length cs))
  have HW3 : Hid (scanErr a [S] = 2 ∨ scanErr a [S] = 4 ∨ scanErr a [S] = 0) := Lib.hid (by unfold scanErr; split; split; exact .inr (.inl rfl); exact .inr (.inr rfl); exact .inl rfl)
  unfold sysVal Ask.val
  have h30 : ∀ W', SysParts W' (.slice at_ S.terms.length ct) (.slice ap S.plurals.length cp) (.slice as_ S.sets.length cs) S → Calls Try.prog 30 #[.agg #[.int .i64 S.top, .int .i64 S.genders, .int .i64 S.cases, .int .i64 S.classes, .slice at_ S.terms.length ct, .slice ap S.plurals.length cp, .slice as_ S.sets.length cs], .agg #[.int .i64 a.num, .int .i64 a.set, .int .i64 a.gen, .int .i64 a.kas]] W' fun e w' => TwinsPost S a e w' ∧ Below W'.heap.size W' w' := fun W' h => Twins_any S a _ _ _ W' h
  have h31 : ∀ W', SysParts W' (.slice at_ S.terms.length ct) (.slice ap S.plurals.length cp) (.slice as_ S.sets.length cs) S → Calls Try.prog 31 #[.agg #[.int .i64 S.top, .int .i64 S.genders, .int .i64 S.cases, .int .i64 S.classes, .slice at_ S.terms.length ct, .slice ap S.plurals.length cp, .slice as_ S.sets.length cs], .agg #[.int .i64 a.num, .int .i64 a.set, .int .i64 a.gen, .int .i64 a.kas]] W' fun e w' => MissPost S a e w' ∧ Below W'.heap.size W' w' := fun W' h => Missing_any S a _ _ _ W' h
  have h22 : ∀ W', SysParts W' (.slice at_ S.terms.length ct) (.slice ap S.plurals.length cp) (.slice as_ S.sets.length cs) S → Calls Try.prog 22 #[.agg #[.int .i64 S.top, .int .i64 S.genders, .int .i64 S.cases, .int .i64 S.classes, .slice at_ S.terms.length ct, .slice ap S.plurals.length cp, .slice as_ S.sets.length cs], .agg #[.int .i64 a.num, .int .i64 a.set, .int .i64 a.gen, .int .i64 a.kas], .bool true] W' fun e w' => e = .returned (.int .i64 (refErr S a true)) ∧ Below W'.heap.size W' w' := fun W' h => refused_any S a true _ _ _ W' h
  have H30 := Lib.hid h30
  have H31 := Lib.hid h31
  have H22 := Lib.hid h22
  clear h30 h31 h22
  by_cases c1 : 120 < a.num
  · by_cases c1' : a.num ≤ 20000
    · go_enter Try.func7, Try.ntmps7
      go_wp2_with fail
      generalize hW1 : World.alloc (World.alloc w _) _ = W1
      have hbn : Below w.heap.size w W1 := by rw [← hW1]; exact bAlloc (bAlloc (Below.refl _ _) _) _
      have s0 : W1.cell? ⟨w.heap.size, 0, none⟩ = some (.int .i64 S.top) := by rw [← hW1]; exact keep (bAlloc (Below.refl _ _) _) (cell_new rfl)
      have s1 : W1.cell? ⟨w.heap.size, 1, none⟩ = some (.int .i64 S.genders) := by rw [← hW1]; exact keep (bAlloc (Below.refl _ _) _) (cell_new rfl)
      have s2 : W1.cell? ⟨w.heap.size, 2, none⟩ = some (.int .i64 S.cases) := by rw [← hW1]; exact keep (bAlloc (Below.refl _ _) _) (cell_new rfl)
      have s3 : W1.cell? ⟨w.heap.size, 3, none⟩ = some (.int .i64 S.classes) := by rw [← hW1]; exact keep (bAlloc (Below.refl _ _) _) (cell_new rfl)
      have s4 : W1.cell? ⟨w.heap.size, 4, none⟩ = some (.slice at_ S.terms.length ct) := by rw [← hW1]; exact keep (bAlloc (Below.refl _ _) _) (cell_new rfl)
      have s5 : W1.cell? ⟨w.heap.size, 5, none⟩ = some (.slice ap S.plurals.length cp) := by rw [← hW1]; exact keep (bAlloc (Below.refl _ _) _) (cell_new rfl)
      have s6 : W1.cell? ⟨w.heap.size, 6, none⟩ = some (.slice as_ S.sets.length cs) := by rw [← hW1]; exact keep (bAlloc (Below.refl _ _) _) (cell_new rfl)
      have a0 : W1.cell? ⟨w.heap.size + 1, 0, none⟩ = some (.int .i64 a.num) := by rw [← hW1]; simp
      have a1 : W1.cell? ⟨w.heap.size + 1, 1, none⟩ = some (.int .i64 a.set) := by rw [← hW1]; simp
      have a2 : W1.cell? ⟨w.heap.size + 1, 2, none⟩ = some (.int .i64 a.gen) := by rw [← hW1]; simp
      have a3 : W1.cell? ⟨w.heap.size + 1, 3, none⟩ = some (.int .i64 a.kas) := by rw [← hW1]; simp
      have HB := Lib.hid hbn
      have HPn := Lib.hid (HPS.out.keep hbn)
      have hsl := cell_lt s0
      have hal := cell_lt a0
      clear hW1 hbn
      go_wp2_with (first
        | (go_at_call 14; rw [HSV.out]; refine (small_any S _ _ _ _ HPn.out).mono ?_; rintro e w1 ⟨⟨b, rfl⟩, hb⟩; replace s0 := keep hb s0; replace s1 := keep hb s1; replace s2 := keep hb s2; replace s3 := keep hb s3; replace s4 := keep hb s4; replace s5 := keep hb s5; replace s6 := keep hb s6; replace a0 := keep hb a0; replace a1 := keep hb a1; replace a2 := keep hb a2; replace a3 := keep hb a3; replace hsl := cell_lt s0; replace hal := cell_lt a0; replace HPn := Lib.hid (HPn.out.keep hb); replace HB := Lib.hid (bThen HB.out hb); clear hb; cases b)
        | (go_at_call 15; refine (known_any _).mono ?_; rintro e wk ⟨rfl, hb⟩; replace HB := Lib.hid (bThen HB.out hb); clear hb))
      all_goals
        first
          | (go_ret; exact ⟨rfl, HB.out⟩)
          | (exfalso; omega)
    rcases HW3.out with hsc | hsc | hsc
    · have HEN := Lib.hid hsc
      have HNZ : Hid ((2 : Int) ≠ 0) := Lib.hid (by decide)
      have HER : Hid (refErr S a true = 2) := Lib.hid (by rw [scanErr_ref, hsc])
      clear hsc
      go_enter Try.func7, Try.ntmps7
      go_wp2_with fail
      generalize hW1 : World.alloc (World.alloc w _) _ = W1
      have hbn : Below w.heap.size w W1 := by rw [← hW1]; exact bAlloc (bAlloc (Below.refl _ _) _) _
      have s0 : W1.cell? ⟨w.heap.size, 0, none⟩ = some (.int .i64 S.top) := by rw [← hW1]; exact keep (bAlloc (Below.refl _ _) _) (cell_new rfl)
      have s1 : W1.cell? ⟨w.heap.size, 1, none⟩ = some (.int .i64 S.genders) := by rw [← hW1]; exact keep (bAlloc (Below.refl _ _) _) (cell_new rfl)
      have s2 : W1.cell? ⟨w.heap.size, 2, none⟩ = some (.int .i64 S.cases) := by rw [← hW1]; exact keep (bAlloc (Below.refl _ _) _) (cell_new rfl)
      have s3 : W1.cell? ⟨w.heap.size, 3, none⟩ = some (.int .i64 S.classes) := by rw [← hW1]; exact keep (bAlloc (Below.refl _ _) _) (cell_new rfl)
      have s4 : W1.cell? ⟨w.heap.size, 4, none⟩ = some (.slice at_ S.terms.length ct) := by rw [← hW1]; exact keep (bAlloc (Below.refl _ _) _) (cell_new rfl)
      have s5 : W1.cell? ⟨w.heap.size, 5, none⟩ = some (.slice ap S.plurals.length cp) := by rw [← hW1]; exact keep (bAlloc (Below.refl _ _) _) (cell_new rfl)
      have s6 : W1.cell? ⟨w.heap.size, 6, none⟩ = some (.slice as_ S.sets.length cs) := by rw [← hW1]; exact keep (bAlloc (Below.refl _ _) _) (cell_new rfl)
      have a0 : W1.cell? ⟨w.heap.size + 1, 0, none⟩ = some (.int .i64 a.num) := by rw [← hW1]; simp
      have a1 : W1.cell? ⟨w.heap.size + 1, 1, none⟩ = some (.int .i64 a.set) := by rw [← hW1]; simp
      have a2 : W1.cell? ⟨w.heap.size + 1, 2, none⟩ = some (.int .i64 a.gen) := by rw [← hW1]; simp
      have a3 : W1.cell? ⟨w.heap.size + 1, 3, none⟩ = some (.int .i64 a.kas) := by rw [← hW1]; simp
      have HB := Lib.hid hbn
      have HPn := Lib.hid (HPS.out.keep hbn)
      have hsl := cell_lt s0
      have hal := cell_lt a0
      clear hW1 hbn
      go_wp2_with (first
        | (go_at_call 14; rw [HSV.out]; refine (small_any S _ _ _ _ HPn.out).mono ?_; rintro e w1 ⟨⟨b, rfl⟩, hb⟩; replace s0 := keep hb s0; replace s1 := keep hb s1; replace s2 := keep hb s2; replace s3 := keep hb s3; replace s4 := keep hb s4; replace s5 := keep hb s5; replace s6 := keep hb s6; replace a0 := keep hb a0; replace a1 := keep hb a1; replace a2 := keep hb a2; replace a3 := keep hb a3; replace hsl := cell_lt s0; replace hal := cell_lt a0; replace HPn := Lib.hid (HPn.out.keep hb); replace HB := Lib.hid (bThen HB.out hb); clear hb; cases b)
        | (go_at_call 15; refine (known_any _).mono ?_; rintro e wk ⟨rfl, hb⟩; replace HB := Lib.hid (bThen HB.out hb); clear hb)
        | (go_at_call 30; refine (H30.out _ HPn.out).mono ?_; rintro e w2 ⟨hq, hb⟩; obtain rfl := TwinsPost.err hq HEN.out HNZ.out; replace s0 := keep hb s0; replace s1 := keep hb s1; replace s2 := keep hb s2; replace s3 := keep hb s3; replace s4 := keep hb s4; replace s5 := keep hb s5; replace s6 := keep hb s6; replace a0 := keep hb a0; replace a1 := keep hb a1; replace a2 := keep hb a2; replace a3 := keep hb a3; replace hsl := cell_lt s0; replace hal := cell_lt a0; replace HPn := Lib.hid (HPn.out.keep hb); replace HB := Lib.hid (bThen HB.out hb); clear hb hq)
        | (go_at_call 31; refine (H31.out _ HPn.out).mono ?_; rintro e w3 ⟨hq, hb⟩; obtain rfl := MissPost.err hq HEN.out HNZ.out; replace s0 := keep hb s0; replace s1 := keep hb s1; replace s2 := keep hb s2; replace s3 := keep hb s3; replace s4 := keep hb s4; replace s5 := keep hb s5; replace s6 := keep hb s6; replace a0 := keep hb a0; replace a1 := keep hb a1; replace a2 := keep hb a2; replace a3 := keep hb a3; replace hsl := cell_lt s0; replace hal := cell_lt a0; replace HPn := Lib.hid (HPn.out.keep hb); replace HB := Lib.hid (bThen HB.out hb); (try (replace HTW := Lib.hid (HTW.out.keep TwAt.stable hb))); (try (replace HRX := Lib.hid (HRX.out.keep TwAt.stable hb))); (try (replace HMS := Lib.hid (HMS.out.keep IntAt.stable hb))); clear hb hq)
        | (go_at_call 22; refine (H22.out _ HPn.out).mono ?_; rintro e w4 ⟨rfl, hb⟩; rw [HER.out]; replace s0 := keep hb s0; replace s1 := keep hb s1; replace s2 := keep hb s2; replace s3 := keep hb s3; replace s4 := keep hb s4; replace s5 := keep hb s5; replace s6 := keep hb s6; replace a0 := keep hb a0; replace a1 := keep hb a1; replace a2 := keep hb a2; replace a3 := keep hb a3; replace hsl := cell_lt s0; replace hal := cell_lt a0; replace HPn := Lib.hid (HPn.out.keep hb); replace HB := Lib.hid (bThen HB.out hb); (try (replace HTW := Lib.hid (HTW.out.keep TwAt.stable hb))); (try (replace HRX := Lib.hid (HRX.out.keep TwAt.stable hb))); (try (replace HMS := Lib.hid (HMS.out.keep IntAt.stable hb))); clear hb))
      all_goals
        first
          | (go_ret; exact ⟨rfl, HB.out⟩)
          | (exfalso; omega)
    · have HEN := Lib.hid hsc
      have HNZ : Hid ((4 : Int) ≠ 0) := Lib.hid (by decide)
      have HER : Hid (refErr S a true = 4) := Lib.hid (by rw [scanErr_ref, hsc])
      clear hsc
      go_enter Try.func7, Try.ntmps7
      go_wp2_with fail
      generalize hW1 : World.alloc (World.alloc w _) _ = W1
      have hbn : Below w.heap.size w W1 := by rw [← hW1]; exact bAlloc (bAlloc (Below.refl _ _) _) _
      have s0 : W1.cell? ⟨w.heap.size, 0, none⟩ = some (.int .i64 S.top) := by rw [← hW1]; exact keep (bAlloc (Below.refl _ _) _) (cell_new rfl)
      have s1 : W1.cell? ⟨w.heap.size, 1, none⟩ = some (.int .i64 S.genders) := by rw [← hW1]; exact keep (bAlloc (Below.refl _ _) _) (cell_new rfl)
      have s2 : W1.cell? ⟨w.heap.size, 2, none⟩ = some (.int .i64 S.cases) := by rw [← hW1]; exact keep (bAlloc (Below.refl _ _) _) (cell_new rfl)
      have s3 : W1.cell? ⟨w.heap.size, 3, none⟩ = some (.int .i64 S.classes) := by rw [← hW1]; exact keep (bAlloc (Below.refl _ _) _) (cell_new rfl)
      have s4 : W1.cell? ⟨w.heap.size, 4, none⟩ = some (.slice at_ S.terms.length ct) := by rw [← hW1]; exact keep (bAlloc (Below.refl _ _) _) (cell_new rfl)
      have s5 : W1.cell? ⟨w.heap.size, 5, none⟩ = some (.slice ap S.plurals.length cp) := by rw [← hW1]; exact keep (bAlloc (Below.refl _ _) _) (cell_new rfl)
      have s6 : W1.cell? ⟨w.heap.size, 6, none⟩ = some (.slice as_ S.sets.length cs) := by rw [← hW1]; exact keep (bAlloc (Below.refl _ _) _) (cell_new rfl)
      have a0 : W1.cell? ⟨w.heap.size + 1, 0, none⟩ = some (.int .i64 a.num) := by rw [← hW1]; simp
      have a1 : W1.cell? ⟨w.heap.size + 1, 1, none⟩ = some (.int .i64 a.set) := by rw [← hW1]; simp
      have a2 : W1.cell? ⟨w.heap.size + 1, 2, none⟩ = some (.int .i64 a.gen) := by rw [← hW1]; simp
      have a3 : W1.cell? ⟨w.heap.size + 1, 3, none⟩ = some (.int .i64 a.kas) := by rw [← hW1]; simp
      have HB := Lib.hid hbn
      have HPn := Lib.hid (HPS.out.keep hbn)
      have hsl := cell_lt s0
      have hal := cell_lt a0
      clear hW1 hbn
      go_wp2_with (first
        | (go_at_call 14; rw [HSV.out]; refine (small_any S _ _ _ _ HPn.out).mono ?_; rintro e w1 ⟨⟨b, rfl⟩, hb⟩; replace s0 := keep hb s0; replace s1 := keep hb s1; replace s2 := keep hb s2; replace s3 := keep hb s3; replace s4 := keep hb s4; replace s5 := keep hb s5; replace s6 := keep hb s6; replace a0 := keep hb a0; replace a1 := keep hb a1; replace a2 := keep hb a2; replace a3 := keep hb a3; replace hsl := cell_lt s0; replace hal := cell_lt a0; replace HPn := Lib.hid (HPn.out.keep hb); replace HB := Lib.hid (bThen HB.out hb); clear hb; cases b)
        | (go_at_call 15; refine (known_any _).mono ?_; rintro e wk ⟨rfl, hb⟩; replace HB := Lib.hid (bThen HB.out hb); clear hb)
        | (go_at_call 30; refine (H30.out _ HPn.out).mono ?_; rintro e w2 ⟨hq, hb⟩; obtain rfl := TwinsPost.err hq HEN.out HNZ.out; replace s0 := keep hb s0; replace s1 := keep hb s1; replace s2 := keep hb s2; replace s3 := keep hb s3; replace s4 := keep hb s4; replace s5 := keep hb s5; replace s6 := keep hb s6; replace a0 := keep hb a0; replace a1 := keep hb a1; replace a2 := keep hb a2; replace a3 := keep hb a3; replace hsl := cell_lt s0; replace hal := cell_lt a0; replace HPn := Lib.hid (HPn.out.keep hb); replace HB := Lib.hid (bThen HB.out hb); clear hb hq)
        | (go_at_call 31; refine (H31.out _ HPn.out).mono ?_; rintro e w3 ⟨hq, hb⟩; obtain rfl := MissPost.err hq HEN.out HNZ.out; replace s0 := keep hb s0; replace s1 := keep hb s1; replace s2 := keep hb s2; replace s3 := keep hb s3; replace s4 := keep hb s4; replace s5 := keep hb s5; replace s6 := keep hb s6; replace a0 := keep hb a0; replace a1 := keep hb a1; replace a2 := keep hb a2; replace a3 := keep hb a3; replace hsl := cell_lt s0; replace hal := cell_lt a0; replace HPn := Lib.hid (HPn.out.keep hb); replace HB := Lib.hid (bThen HB.out hb); (try (replace HTW := Lib.hid (HTW.out.keep TwAt.stable hb))); (try (replace HRX := Lib.hid (HRX.out.keep TwAt.stable hb))); (try (replace HMS := Lib.hid (HMS.out.keep IntAt.stable hb))); clear hb hq)
        | (go_at_call 22; refine (H22.out _ HPn.out).mono ?_; rintro e w4 ⟨rfl, hb⟩; rw [HER.out]; replace s0 := keep hb s0; replace s1 := keep hb s1; replace s2 := keep hb s2; replace s3 := keep hb s3; replace s4 := keep hb s4; replace s5 := keep hb s5; replace s6 := keep hb s6; replace a0 := keep hb a0; replace a1 := keep hb a1; replace a2 := keep hb a2; replace a3 := keep hb a3; replace hsl := cell_lt s0; replace hal := cell_lt a0; replace HPn := Lib.hid (HPn.out.keep hb); replace HB := Lib.hid (bThen HB.out hb); (try (replace HTW := Lib.hid (HTW.out.keep TwAt.stable hb))); (try (replace HRX := Lib.hid (HRX.out.keep TwAt.stable hb))); (try (replace HMS := Lib.hid (HMS.out.keep IntAt.stable hb))); clear hb))
      all_goals
        first
          | (go_ret; exact ⟨rfl, HB.out⟩)
          | (exfalso; omega)
    · exfalso
      unfold scanErr at hsc
      split at hsc
      · split at hsc
        · omega
        · omega
      · omega
  rcases HW3.out with hsc | hsc | hsc
  · have HEN := Lib.hid hsc
    have HNZ : Hid ((2 : Int) ≠ 0) := Lib.hid (by decide)
    have HER : Hid (refErr S a true = 2) := Lib.hid (by rw [scanErr_ref, hsc])
    clear hsc
    go_enter Try.func7, Try.ntmps7
    go_wp2_with fail
    generalize hW1 : World.alloc (World.alloc w _) _ = W1
    have hbn : Below w.heap.size w W1 := by rw [← hW1]; exact bAlloc (bAlloc (Below.refl _ _) _) _
    have s0 : W1.cell? ⟨w.heap.size, 0, none⟩ = some (.int .i64 S.top) := by rw [← hW1]; exact keep (bAlloc (Below.refl _ _) _) (cell_new rfl)
    have s1 : W1.cell? ⟨w.heap.size, 1, none⟩ = some (.int .i64 S.genders) := by rw [← hW1]; exact keep (bAlloc (Below.refl _ _) _) (cell_new rfl)
    have s2 : W1.cell? ⟨w.heap.size, 2, none⟩ = some (.int .i64 S.cases) := by rw [← hW1]; exact keep (bAlloc (Below.refl _ _) _) (cell_new rfl)
    have s3 : W1.cell? ⟨w.heap.size, 3, none⟩ = some (.int .i64 S.classes) := by rw [← hW1]; exact keep (bAlloc (Below.refl _ _) _) (cell_new rfl)
    have s4 : W1.cell? ⟨w.heap.size, 4, none⟩ = some (.slice at_ S.terms.length ct) := by rw [← hW1]; exact keep (bAlloc (Below.refl _ _) _) (cell_new rfl)
    have s5 : W1.cell? ⟨w.heap.size, 5, none⟩ = some (.slice ap S.plurals.length cp) := by rw [← hW1]; exact keep (bAlloc (Below.refl _ _) _) (cell_new rfl)
    have s6 : W1.cell? ⟨w.heap.size, 6, none⟩ = some (.slice as_ S.sets.length cs) := by rw [← hW1]; exact keep (bAlloc (Below.refl _ _) _) (cell_new rfl)
    have a0 : W1.cell? ⟨w.heap.size + 1, 0, none⟩ = some (.int .i64 a.num) := by rw [← hW1]; simp
    have a1 : W1.cell? ⟨w.heap.size + 1, 1, none⟩ = some (.int .i64 a.set) := by rw [← hW1]; simp
    have a2 : W1.cell? ⟨w.heap.size + 1, 2, none⟩ = some (.int .i64 a.gen) := by rw [← hW1]; simp
    have a3 : W1.cell? ⟨w.heap.size + 1, 3, none⟩ = some (.int .i64 a.kas) := by rw [← hW1]; simp
    have HB := Lib.hid hbn
    have HPn := Lib.hid (HPS.out.keep hbn)
    have hsl := cell_lt s0
    have hal := cell_lt a0
    clear hW1 hbn
    go_wp2_with (first
      | (go_at_call 14; rw [HSV.out]; refine (small_any S _ _ _ _ HPn.out).mono ?_; rintro e w1 ⟨⟨b, rfl⟩, hb⟩; replace s0 := keep hb s0; replace s1 := keep hb s1; replace s2 := keep hb s2; replace s3 := keep hb s3; replace s4 := keep hb s4; replace s5 := keep hb s5; replace s6 := keep hb s6; replace a0 := keep hb a0; replace a1 := keep hb a1; replace a2 := keep hb a2; replace a3 := keep hb a3; replace hsl := cell_lt s0; replace hal := cell_lt a0; replace HPn := Lib.hid (HPn.out.keep hb); replace HB := Lib.hid (bThen HB.out hb); clear hb; cases b)
      | (go_at_call 15; refine (known_any _).mono ?_; rintro e wk ⟨rfl, hb⟩; replace HB := Lib.hid (bThen HB.out hb); clear hb)
      | (go_at_call 30; refine (H30.out _ HPn.out).mono ?_; rintro e w2 ⟨hq, hb⟩; obtain rfl := TwinsPost.err hq HEN.out HNZ.out; replace s0 := keep hb s0; replace s1 := keep hb s1; replace s2 := keep hb s2; replace s3 := keep hb s3; replace s4 := keep hb s4; replace s5 := keep hb s5; replace s6 := keep hb s6; replace a0 := keep hb a0; replace a1 := keep hb a1; replace a2 := keep hb a2; replace a3 := keep hb a3; replace hsl := cell_lt s0; replace hal := cell_lt a0; replace HPn := Lib.hid (HPn.out.keep hb); replace HB := Lib.hid (bThen HB.out hb); clear hb hq)
      | (go_at_call 31; refine (H31.out _ HPn.out).mono ?_; rintro e w3 ⟨hq, hb⟩; obtain rfl := MissPost.err hq HEN.out HNZ.out; replace s0 := keep hb s0; replace s1 := keep hb s1; replace s2 := keep hb s2; replace s3 := keep hb s3; replace s4 := keep hb s4; replace s5 := keep hb s5; replace s6 := keep hb s6; replace a0 := keep hb a0; replace a1 := keep hb a1; replace a2 := keep hb a2; replace a3 := keep hb a3; replace hsl := cell_lt s0; replace hal := cell_lt a0; replace HPn := Lib.hid (HPn.out.keep hb); replace HB := Lib.hid (bThen HB.out hb); (try (replace HTW := Lib.hid (HTW.out.keep TwAt.stable hb))); (try (replace HRX := Lib.hid (HRX.out.keep TwAt.stable hb))); (try (replace HMS := Lib.hid (HMS.out.keep IntAt.stable hb))); clear hb hq)
      | (go_at_call 22; refine (H22.out _ HPn.out).mono ?_; rintro e w4 ⟨rfl, hb⟩; rw [HER.out]; replace s0 := keep hb s0; replace s1 := keep hb s1; replace s2 := keep hb s2; replace s3 := keep hb s3; replace s4 := keep hb s4; replace s5 := keep hb s5; replace s6 := keep hb s6; replace a0 := keep hb a0; replace a1 := keep hb a1; replace a2 := keep hb a2; replace a3 := keep hb a3; replace hsl := cell_lt s0; replace hal := cell_lt a0; replace HPn := Lib.hid (HPn.out.keep hb); replace HB := Lib.hid (bThen HB.out hb); (try (replace HTW := Lib.hid (HTW.out.keep TwAt.stable hb))); (try (replace HRX := Lib.hid (HRX.out.keep TwAt.stable hb))); (try (replace HMS := Lib.hid (HMS.out.keep IntAt.stable hb))); clear hb))
    all_goals
      first
        | (go_ret; exact ⟨rfl, HB.out⟩)
        | (exfalso; omega)
  · have HEN := Lib.hid hsc
    have HNZ : Hid ((4 : Int) ≠ 0) := Lib.hid (by decide)
    have HER : Hid (refErr S a true = 4) := Lib.hid (by rw [scanErr_ref, hsc])
    clear hsc
    go_enter Try.func7, Try.ntmps7
    go_wp2_with fail
    generalize hW1 : World.alloc (World.alloc w _) _ = W1
    have hbn : Below w.heap.size w W1 := by rw [← hW1]; exact bAlloc (bAlloc (Below.refl _ _) _) _
    have s0 : W1.cell? ⟨w.heap.size, 0, none⟩ = some (.int .i64 S.top) := by rw [← hW1]; exact keep (bAlloc (Below.refl _ _) _) (cell_new rfl)
    have s1 : W1.cell? ⟨w.heap.size, 1, none⟩ = some (.int .i64 S.genders) := by rw [← hW1]; exact keep (bAlloc (Below.refl _ _) _) (cell_new rfl)
    have s2 : W1.cell? ⟨w.heap.size, 2, none⟩ = some (.int .i64 S.cases) := by rw [← hW1]; exact keep (bAlloc (Below.refl _ _) _) (cell_new rfl)
    have s3 : W1.cell? ⟨w.heap.size, 3, none⟩ = some (.int .i64 S.classes) := by rw [← hW1]; exact keep (bAlloc (Below.refl _ _) _) (cell_new rfl)
    have s4 : W1.cell? ⟨w.heap.size, 4, none⟩ = some (.slice at_ S.terms.length ct) := by rw [← hW1]; exact keep (bAlloc (Below.refl _ _) _) (cell_new rfl)
    have s5 : W1.cell? ⟨w.heap.size, 5, none⟩ = some (.slice ap S.plurals.length cp) := by rw [← hW1]; exact keep (bAlloc (Below.refl _ _) _) (cell_new rfl)
    have s6 : W1.cell? ⟨w.heap.size, 6, none⟩ = some (.slice as_ S.sets.length cs) := by rw [← hW1]; exact keep (bAlloc (Below.refl _ _) _) (cell_new rfl)
    have a0 : W1.cell? ⟨w.heap.size + 1, 0, none⟩ = some (.int .i64 a.num) := by rw [← hW1]; simp
    have a1 : W1.cell? ⟨w.heap.size + 1, 1, none⟩ = some (.int .i64 a.set) := by rw [← hW1]; simp
    have a2 : W1.cell? ⟨w.heap.size + 1, 2, none⟩ = some (.int .i64 a.gen) := by rw [← hW1]; simp
    have a3 : W1.cell? ⟨w.heap.size + 1, 3, none⟩ = some (.int .i64 a.kas) := by rw [← hW1]; simp
    have HB := Lib.hid hbn
    have HPn := Lib.hid (HPS.out.keep hbn)
    have hsl := cell_lt s0
    have hal := cell_lt a0
    clear hW1 hbn
    go_wp2_with (first
      | (go_at_call 14; rw [HSV.out]; refine (small_any S _ _ _ _ HPn.out).mono ?_; rintro e w1 ⟨⟨b, rfl⟩, hb⟩; replace s0 := keep hb s0; replace s1 := keep hb s1; replace s2 := keep hb s2; replace s3 := keep hb s3; replace s4 := keep hb s4; replace s5 := keep hb s5; replace s6 := keep hb s6; replace a0 := keep hb a0; replace a1 := keep hb a1; replace a2 := keep hb a2; replace a3 := keep hb a3; replace hsl := cell_lt s0; replace hal := cell_lt a0; replace HPn := Lib.hid (HPn.out.keep hb); replace HB := Lib.hid (bThen HB.out hb); clear hb; cases b)
      | (go_at_call 15; refine (known_any _).mono ?_; rintro e wk ⟨rfl, hb⟩; replace HB := Lib.hid (bThen HB.out hb); clear hb)
      | (go_at_call 30; refine (H30.out _ HPn.out).mono ?_; rintro e w2 ⟨hq, hb⟩; obtain rfl := TwinsPost.err hq HEN.out HNZ.out; replace s0 := keep hb s0; replace s1 := keep hb s1; replace s2 := keep hb s2; replace s3 := keep hb s3; replace s4 := keep hb s4; replace s5 := keep hb s5; replace s6 := keep hb s6; replace a0 := keep hb a0; replace a1 := keep hb a1; replace a2 := keep hb a2; replace a3 := keep hb a3; replace hsl := cell_lt s0; replace hal := cell_lt a0; replace HPn := Lib.hid (HPn.out.keep hb); replace HB := Lib.hid (bThen HB.out hb); clear hb hq)
      | (go_at_call 31; refine (H31.out _ HPn.out).mono ?_; rintro e w3 ⟨hq, hb⟩; obtain rfl := MissPost.err hq HEN.out HNZ.out; replace s0 := keep hb s0; replace s1 := keep hb s1; replace s2 := keep hb s2; replace s3 := keep hb s3; replace s4 := keep hb s4; replace s5 := keep hb s5; replace s6 := keep hb s6; replace a0 := keep hb a0; replace a1 := keep hb a1; replace a2 := keep hb a2; replace a3 := keep hb a3; replace hsl := cell_lt s0; replace hal := cell_lt a0; replace HPn := Lib.hid (HPn.out.keep hb); replace HB := Lib.hid (bThen HB.out hb); (try (replace HTW := Lib.hid (HTW.out.keep TwAt.stable hb))); (try (replace HRX := Lib.hid (HRX.out.keep TwAt.stable hb))); (try (replace HMS := Lib.hid (HMS.out.keep IntAt.stable hb))); clear hb hq)
      | (go_at_call 22; refine (H22.out _ HPn.out).mono ?_; rintro e w4 ⟨rfl, hb⟩; rw [HER.out]; replace s0 := keep hb s0; replace s1 := keep hb s1; replace s2 := keep hb s2; replace s3 := keep hb s3; replace s4 := keep hb s4; replace s5 := keep hb s5; replace s6 := keep hb s6; replace a0 := keep hb a0; replace a1 := keep hb a1; replace a2 := keep hb a2; replace a3 := keep hb a3; replace hsl := cell_lt s0; replace hal := cell_lt a0; replace HPn := Lib.hid (HPn.out.keep hb); replace HB := Lib.hid (bThen HB.out hb); (try (replace HTW := Lib.hid (HTW.out.keep TwAt.stable hb))); (try (replace HRX := Lib.hid (HRX.out.keep TwAt.stable hb))); (try (replace HMS := Lib.hid (HMS.out.keep IntAt.stable hb))); clear hb))
    all_goals
      first
        | (go_ret; exact ⟨rfl, HB.out⟩)
        | (exfalso; omega)
  · have hok : askOk S a = true := by
      cases h : askOk S a
      · unfold scanErr at hsc; simp [h] at hsc
      · rfl
    have HE0 := Lib.hid hsc
    have HER : Hid (refErr S a true = 0) := Lib.hid (by rw [scanErr_ref, hsc])
    have HRT := Lib.hid (askRight_of hok)
    have HMX0 : Hid (a.num ≤ 20000) := Lib.hid (by omega)
    obtain ⟨L, hL⟩ : ∃ L, L = twinsTo S a a.num.toNat := ⟨_, rfl⟩
    obtain ⟨M, hM⟩ : ∃ M, M = missTo S a a.num.toNat := ⟨_, rfl⟩
    have HL := Lib.hid hL.symm
    have HM := Lib.hid hM.symm
    have hlm : L.length ≤ 20001 := by rw [hL]; exact Nat.le_trans (twins_len S a _) (by omega)
    have h32 : ∀ W', SysParts W' (.slice at_ S.terms.length ct) (.slice ap S.plurals.length cp) (.slice as_ S.sets.length cs) S → Calls Try.prog 32 #[.agg #[.int .i64 S.top, .int .i64 S.genders, .int .i64 S.cases, .int .i64 S.classes, .slice at_ S.terms.length ct, .slice ap S.plurals.length cp, .slice as_ S.sets.length cs], .agg #[.int .i64 a.num, .int .i64 a.set, .int .i64 a.gen, .int .i64 a.kas]] W' fun e w' => (∃ v, e = .returned v ∧ SliceV w' v 2 TwAt L) ∧ Below W'.heap.size W' w' := fun W' h => by
      have := refTwins_any S HRT.out.1 a HRT.out.2 HMX0.out _ _ _ W' h
      rw [HL.out] at this
      exact this
    have h33 : ∀ W', SysParts W' (.slice at_ S.terms.length ct) (.slice ap S.plurals.length cp) (.slice as_ S.sets.length cs) S → Calls Try.prog 33 #[.agg #[.int .i64 S.top, .int .i64 S.genders, .int .i64 S.cases, .int .i64 S.classes, .slice at_ S.terms.length ct, .slice ap S.plurals.length cp, .slice as_ S.sets.length cs], .agg #[.int .i64 a.num, .int .i64 a.set, .int .i64 a.gen, .int .i64 a.kas]] W' fun e w' => (∃ v, e = .returned v ∧ SliceV w' v 1 IntAt (M.map fun n : Nat => (n : Int))) ∧ Below W'.heap.size W' w' := fun W' h => by
      have := refMissing_any S HRT.out.1 a HRT.out.2 HMX0.out _ _ _ W' h
      rw [HM.out] at this
      exact this
    have H32 := Lib.hid h32
    have H33 := Lib.hid h33
    clear h32 h33 hL hM hsc hok
    have hle : ((L.length : Int) != (L.length : Int)) = false := by simp
    have tok1 : True := trivial
    go_enter Try.func7, Try.ntmps7
    go_wp2_with fail
    generalize hW1 : World.alloc (World.alloc w _) _ = W1
    have hbn : Below w.heap.size w W1 := by rw [← hW1]; exact bAlloc (bAlloc (Below.refl _ _) _) _
    have s0 : W1.cell? ⟨w.heap.size, 0, none⟩ = some (.int .i64 S.top) := by rw [← hW1]; exact keep (bAlloc (Below.refl _ _) _) (cell_new rfl)
    have s1 : W1.cell? ⟨w.heap.size, 1, none⟩ = some (.int .i64 S.genders) := by rw [← hW1]; exact keep (bAlloc (Below.refl _ _) _) (cell_new rfl)
    have s2 : W1.cell? ⟨w.heap.size, 2, none⟩ = some (.int .i64 S.cases) := by rw [← hW1]; exact keep (bAlloc (Below.refl _ _) _) (cell_new rfl)
    have s3 : W1.cell? ⟨w.heap.size, 3, none⟩ = some (.int .i64 S.classes) := by rw [← hW1]; exact keep (bAlloc (Below.refl _ _) _) (cell_new rfl)
    have s4 : W1.cell? ⟨w.heap.size, 4, none⟩ = some (.slice at_ S.terms.length ct) := by rw [← hW1]; exact keep (bAlloc (Below.refl _ _) _) (cell_new rfl)
    have s5 : W1.cell? ⟨w.heap.size, 5, none⟩ = some (.slice ap S.plurals.length cp) := by rw [← hW1]; exact keep (bAlloc (Below.refl _ _) _) (cell_new rfl)
    have s6 : W1.cell? ⟨w.heap.size, 6, none⟩ = some (.slice as_ S.sets.length cs) := by rw [← hW1]; exact keep (bAlloc (Below.refl _ _) _) (cell_new rfl)
    have a0 : W1.cell? ⟨w.heap.size + 1, 0, none⟩ = some (.int .i64 a.num) := by rw [← hW1]; simp
    have a1 : W1.cell? ⟨w.heap.size + 1, 1, none⟩ = some (.int .i64 a.set) := by rw [← hW1]; simp
    have a2 : W1.cell? ⟨w.heap.size + 1, 2, none⟩ = some (.int .i64 a.gen) := by rw [← hW1]; simp
    have a3 : W1.cell? ⟨w.heap.size + 1, 3, none⟩ = some (.int .i64 a.kas) := by rw [← hW1]; simp
    have HB := Lib.hid hbn
    have HPn := Lib.hid (HPS.out.keep hbn)
    have hsl := cell_lt s0
    have hal := cell_lt a0
    clear hW1 hbn
    go_wp2_with (first
      | (go_at_call 14; rw [HSV.out]; refine (small_any S _ _ _ _ HPn.out).mono ?_; rintro e w1 ⟨⟨b, rfl⟩, hb⟩; replace s0 := keep hb s0; replace s1 := keep hb s1; replace s2 := keep hb s2; replace s3 := keep hb s3; replace s4 := keep hb s4; replace s5 := keep hb s5; replace s6 := keep hb s6; replace a0 := keep hb a0; replace a1 := keep hb a1; replace a2 := keep hb a2; replace a3 := keep hb a3; replace hsl := cell_lt s0; replace hal := cell_lt a0; replace HPn := Lib.hid (HPn.out.keep hb); replace HB := Lib.hid (bThen HB.out hb); clear hb; cases b)
      | (go_at_call 15; refine (known_any _).mono ?_; rintro e wk ⟨rfl, hb⟩; replace HB := Lib.hid (bThen HB.out hb); clear hb)
      | (go_at_call 30; refine (H30.out _ HPn.out).mono ?_; rintro e w2 ⟨hq, hb⟩; obtain ⟨ad1, cc1, rfl, HTW⟩ := TwinsPost.some hq HE0.out HL.out; replace s0 := keep hb s0; replace s1 := keep hb s1; replace s2 := keep hb s2; replace s3 := keep hb s3; replace s4 := keep hb s4; replace s5 := keep hb s5; replace s6 := keep hb s6; replace a0 := keep hb a0; replace a1 := keep hb a1; replace a2 := keep hb a2; replace a3 := keep hb a3; replace hsl := cell_lt s0; replace hal := cell_lt a0; replace HPn := Lib.hid (HPn.out.keep hb); replace HB := Lib.hid (bThen HB.out hb); clear hb hq)
      | (go_at_call 31; refine (H31.out _ HPn.out).mono ?_; rintro e w3 ⟨hq, hb⟩; obtain ⟨ad2, cc2, rfl, HMS⟩ := MissPost.some hq HE0.out HM.out; replace s0 := keep hb s0; replace s1 := keep hb s1; replace s2 := keep hb s2; replace s3 := keep hb s3; replace s4 := keep hb s4; replace s5 := keep hb s5; replace s6 := keep hb s6; replace a0 := keep hb a0; replace a1 := keep hb a1; replace a2 := keep hb a2; replace a3 := keep hb a3; replace hsl := cell_lt s0; replace hal := cell_lt a0; replace HPn := Lib.hid (HPn.out.keep hb); replace HB := Lib.hid (bThen HB.out hb); (try (replace HTW := Lib.hid (HTW.out.keep TwAt.stable hb))); (try (replace HRX := Lib.hid (HRX.out.keep TwAt.stable hb))); (try (replace HMS := Lib.hid (HMS.out.keep IntAt.stable hb))); clear hb hq)
      | (go_at_call 22; refine (H22.out _ HPn.out).mono ?_; rintro e w4 ⟨rfl, hb⟩; rw [HER.out]; replace s0 := keep hb s0; replace s1 := keep hb s1; replace s2 := keep hb s2; replace s3 := keep hb s3; replace s4 := keep hb s4; replace s5 := keep hb s5; replace s6 := keep hb s6; replace a0 := keep hb a0; replace a1 := keep hb a1; replace a2 := keep hb a2; replace a3 := keep hb a3; replace hsl := cell_lt s0; replace hal := cell_lt a0; replace HPn := Lib.hid (HPn.out.keep hb); replace HB := Lib.hid (bThen HB.out hb); (try (replace HTW := Lib.hid (HTW.out.keep TwAt.stable hb))); (try (replace HRX := Lib.hid (HRX.out.keep TwAt.stable hb))); (try (replace HMS := Lib.hid (HMS.out.keep IntAt.stable hb))); clear hb)
      | (go_at_call 32; refine (H32.out _ HPn.out).mono ?_; rintro e w5 ⟨⟨vq, rfl, hq⟩, hb⟩; obtain ⟨adq, ccq, rfl, -⟩ := id hq; have HRX0 := Lib.hid hq; replace s0 := keep hb s0; replace s1 := keep hb s1; replace s2 := keep hb s2; replace s3 := keep hb s3; replace s4 := keep hb s4; replace s5 := keep hb s5; replace s6 := keep hb s6; replace a0 := keep hb a0; replace a1 := keep hb a1; replace a2 := keep hb a2; replace a3 := keep hb a3; replace hsl := cell_lt s0; replace hal := cell_lt a0; replace HPn := Lib.hid (HPn.out.keep hb); replace HB := Lib.hid (bThen HB.out hb); (try (replace HTW := Lib.hid (HTW.out.keep TwAt.stable hb))); (try (replace HRX := Lib.hid (HRX.out.keep TwAt.stable hb))); (try (replace HMS := Lib.hid (HMS.out.keep IntAt.stable hb))); have HRX := HRX0; clear HRX0 hb hq)
      | (go_at_call 33; refine (H33.out _ HPn.out).mono ?_; rintro e w6 ⟨⟨vq, rfl, hq⟩, hb⟩; obtain ⟨adm, ccm, rfl, -⟩ := id hq; rw [List.length_map] at hq ⊢; replace s0 := keep hb s0; replace s1 := keep hb s1; replace s2 := keep hb s2; replace s3 := keep hb s3; replace s4 := keep hb s4; replace s5 := keep hb s5; replace s6 := keep hb s6; replace a0 := keep hb a0; replace a1 := keep hb a1; replace a2 := keep hb a2; replace a3 := keep hb a3; replace hsl := cell_lt s0; replace hal := cell_lt a0; replace HPn := Lib.hid (HPn.out.keep hb); replace HB := Lib.hid (bThen HB.out hb); (try (replace HTW := Lib.hid (HTW.out.keep TwAt.stable hb))); (try (replace HRX := Lib.hid (HRX.out.keep TwAt.stable hb))); (try (replace HMS := Lib.hid (HMS.out.keep IntAt.stable hb))); have HMX := Lib.hid hq; clear hb hq)
      | (go_at_call 29; refine (isB (Numbers_any (M.map fun n : Nat => (n : Int)) (M.map fun n : Nat => (n : Int)) _ _ _ HMS.out HMX.out) (show _ = true by simp)).mono ?_; rintro e w7 ⟨rfl, hb⟩; replace s0 := keep hb s0; replace s1 := keep hb s1; replace s2 := keep hb s2; replace s3 := keep hb s3; replace s4 := keep hb s4; replace s5 := keep hb s5; replace s6 := keep hb s6; replace a0 := keep hb a0; replace a1 := keep hb a1; replace a2 := keep hb a2; replace a3 := keep hb a3; replace hsl := cell_lt s0; replace hal := cell_lt a0; replace HPn := Lib.hid (HPn.out.keep hb); replace HB := Lib.hid (bThen HB.out hb); (try (replace HTW := Lib.hid (HTW.out.keep TwAt.stable hb))); (try (replace HRX := Lib.hid (HRX.out.keep TwAt.stable hb))); (try (replace HMS := Lib.hid (HMS.out.keep IntAt.stable hb))); clear hb))
    · go_ret
      exact ⟨rfl, HB.out⟩
    · clear s0 s1 s2 s3 s4 s5 s6 a0 a1 a2 a3 hsl hal HPn
      go_loopw [11] (fun i wr => ∃ k : Nat, k ≤ L.length ∧ i = .int .i64 k ∧ Hid (Below w.heap.size w wr) ∧ Hid (SliceV wr (.slice ad1 L.length cc1) 2 TwAt L) ∧ Hid (SliceV wr (.slice adq L.length ccq) 2 TwAt L)) (fun i _ => L.length - (intOf i).toNat)
      case atStart => exact ⟨0, Nat.zero_le _, rfl, HB, HTW, HRX⟩
      case round =>
        obtain ⟨k, hk, rfl, HB, HTW, HRX⟩ := hrel
        by_cases hlt : k < L.length
        · have hne : L ≠ [] := by intro h; rw [h] at hlt; simp at hlt
          obtain ⟨tb, to, rfl, hf⟩ := HTW.out.at hne
          obtain ⟨lb, lo, rfl, hf2⟩ := HRX.out.at hne
          obtain ⟨x0, x1⟩ := hf k hlt
          obtain ⟨y0, y1⟩ := hf2 k hlt
          clear hf hf2 hne
          generalize L[k] = x at *
          have hxl := cell_lt x0
          have hyl := cell_lt y0
          have he := fun w => eqTwin 9998 x w
          go_wp2_with fail
          refine wp_opaque fun Q2 hQ2 => ?_
          (refine wp_region_below (by kernel_rfl) (by kernel_rfl) ?_; (repeat (first | go_big_quiet_step (fail) | quiet_step (fail))); (refine wpQuiet_nil ?_; intro _ hw'; obtain ⟨xq, hw''⟩ := hw'; subst hw''))
          refine hQ2 _ _ _ ?_
          have hb := xq.2
          replace HB := Lib.hid (bThen HB.out hb)
          replace HTW := Lib.hid (HTW.out.keep TwAt.stable hb)
          replace HRX := Lib.hid (HRX.out.keep TwAt.stable hb)
          clear he hb
          generalize xq.val = W4 at *
          go_wp2_with fail
          go_roundw
          case rel => exact ⟨k + 1, by omega, by go_num, HB, HTW, HRX⟩
          case measure => simp [intOf]; omega
        · obtain rfl : k = L.length := by omega
          go_wp2_with (go_at_call 15; have _t := tok1; refine (known_any _).mono ?_; rintro e w1 ⟨rfl, hb⟩; replace HB := Lib.hid (bThen HB.out hb); clear hb)
          go_ret
          exact ⟨rfl, HB.out⟩
end Go.Proofs.Ytfcopnlpcbbocaa
