/- Contracts: the chapter's examples, asked of the program. -/
import Derived.Test.YtfcopnlpcbbocaaH2
namespace Go.Proofs.Ytfcopnlpcbbocaa
open Go.RowKit

theorem sysVal_eq (S : Sys) (vt vp vs : Value) : Value.agg #[.int .i64 S.top, .int .i64 S.genders, .int .i64 S.cases, .int .i64 S.classes, vt, vp, vs] = sysVal S vt vp vs := rfl
set_option maxRecDepth 100000 in
set_option maxHeartbeats 8000000 in
theorem known_any (w : World) : Calls Try.prog 15 #[] w fun e w' => e = .returned (.bool true) ∧ Below w.heap.size w w' := by
  go_enter Try.func15, Try.ntmps15
  go_upto_region 2 with (go_at_call 41; refine (english_any _).mono ?_; rintro e w1 ⟨vt, vp, vs, ⟨rfl, hp⟩, hb1⟩; have HP := Lib.hid hp; obtain ⟨⟨at_, ct, rfl, -⟩, ⟨ap, cp, rfl, -⟩, ⟨as_, cs, rfl, -⟩⟩ := hp; unfold sysVal)
  generalize hW1 : World.alloc w1 _ = W1
  have hbn : Below w1.heap.size w1 W1 := by rw [← hW1]; exact bAlloc (Below.refl _ _) _
  have s0 : W1.cell? ⟨w1.heap.size, 0, none⟩ = some (.int .i64 enS.top) := by rw [← hW1]; exact cell_new rfl
  have s1 : W1.cell? ⟨w1.heap.size, 1, none⟩ = some (.int .i64 enS.genders) := by rw [← hW1]; exact cell_new rfl
  have s2 : W1.cell? ⟨w1.heap.size, 2, none⟩ = some (.int .i64 enS.cases) := by rw [← hW1]; exact cell_new rfl
  have s3 : W1.cell? ⟨w1.heap.size, 3, none⟩ = some (.int .i64 enS.classes) := by rw [← hW1]; exact cell_new rfl
  have s4 : W1.cell? ⟨w1.heap.size, 4, none⟩ = some (.slice at_ enS.terms.length ct) := by rw [← hW1]; exact cell_new rfl
  have s5 : W1.cell? ⟨w1.heap.size, 5, none⟩ = some (.slice ap enS.plurals.length cp) := by rw [← hW1]; exact cell_new rfl
  have s6 : W1.cell? ⟨w1.heap.size, 6, none⟩ = some (.slice as_ enS.sets.length cs) := by rw [← hW1]; exact cell_new rfl
  have HB := Lib.hid (bThen hb1 hbn)
  have HPn := Lib.hid (HP.out.keep hbn)
  have hsl := cell_lt s0
  have HSV := Lib.hid (sysVal_eq enS (.slice at_ enS.terms.length ct) (.slice ap enS.plurals.length cp) (.slice as_ enS.sets.length cs))
  clear HP hb1 hbn hW1
  obtain ⟨sb, hsb⟩ : ∃ sb, sb = w1.heap.size := ⟨_, rfl⟩
  rw [← hsb] at s0 s1 s2 s3 s4 s5 s6 hsl ⊢
  clear hsb
  generalize enS.terms.length = lt at *
  generalize enS.plurals.length = lp at *
  generalize enS.sets.length = ls at *
  go_upto_region 3 with (go_at_call 20; rw [HSV.out]; refine (spell_en (by decide) en242 _ _ _ _ HPn.out).mono ?_; rintro e w2 ⟨⟨ad2, cap2, rfl, hs2⟩, hbn⟩)
  have s0 := keep hbn s0
  have s1 := keep hbn s1
  have s2 := keep hbn s2
  have s3 := keep hbn s3
  have s4 := keep hbn s4
  have s5 := keep hbn s5
  have s6 := keep hbn s6
  have hsl := cell_lt s0
  have HPn := Lib.hid (HPn.out.keep hbn)
  have HB := Lib.hid (bThen HB.out hbn)
  have HS2 := Lib.hid hs2
  clear hs2 hbn
  go_upto_region 4 with (go_at_call 20; rw [HSV.out]; refine (spell_en (by decide) en105 _ _ _ _ HPn.out).mono ?_; rintro e w3 ⟨⟨ad3, cap3, rfl, hs3⟩, hbn⟩)
  have s0 := keep hbn s0
  have s1 := keep hbn s1
  have s2 := keep hbn s2
  have s3 := keep hbn s3
  have s4 := keep hbn s4
  have s5 := keep hbn s5
  have s6 := keep hbn s6
  have hsl := cell_lt s0
  have HPn := Lib.hid (HPn.out.keep hbn)
  have HB := Lib.hid (bThen HB.out hbn)
  have HS2 := Lib.hid (HS2.out.keep StrAt.stable hbn)
  have HS3 := Lib.hid hs3
  clear hs3 hbn
  go_upto_region 5 with (go_at_call 16; rw [HSV.out]; refine (class_en _ _ _ _ HPn.out).mono ?_; rintro e w4 ⟨rfl, hbn⟩)
  have s0 := keep hbn s0
  have s1 := keep hbn s1
  have s2 := keep hbn s2
  have s3 := keep hbn s3
  have s4 := keep hbn s4
  have s5 := keep hbn s5
  have s6 := keep hbn s6
  have hsl := cell_lt s0
  have HPn := Lib.hid (HPn.out.keep hbn)
  have HB := Lib.hid (bThen HB.out hbn)
  have HS2 := Lib.hid (HS2.out.keep StrAt.stable hbn)
  have HS3 := Lib.hid (HS3.out.keep StrAt.stable hbn)
  clear hbn
  go_upto_region 6 with (go_at_call 27; rw [HSV.out]; refine (read_en _ _ _ _ _ (HPn.out.keep (bAlloc (Below.refl _ _) _)) (lit_strs _ x30 (by unfold most; decide))).mono ?_; rintro e w5 ⟨⟨ad5, cap5, rfl, hs5⟩, hbn'⟩; have hbn := bThen (bAlloc (Below.refl _ _) _) hbn')
  have s0 := keep hbn s0
  have s1 := keep hbn s1
  have s2 := keep hbn s2
  have s3 := keep hbn s3
  have s4 := keep hbn s4
  have s5 := keep hbn s5
  have s6 := keep hbn s6
  have hsl := cell_lt s0
  have HPn := Lib.hid (HPn.out.keep hbn)
  have HB := Lib.hid (bThen HB.out hbn)
  have HS2 := Lib.hid (HS2.out.keep StrAt.stable hbn)
  have HS3 := Lib.hid (HS3.out.keep StrAt.stable hbn)
  have HS5 := Lib.hid hs5
  clear hbn hbn' hs5
  go_upto_region 7 with (go_at_call 21; rw [HSV.out]; refine (trace_en _ _ _ _ HPn.out).mono ?_; rintro e w6 ⟨⟨tb, to, cap6, rfl, ht0, ht1⟩, hbn⟩)
  have HB := Lib.hid (bThen HB.out hbn)
  have HS2 := Lib.hid (HS2.out.keep StrAt.stable hbn)
  have HS3 := Lib.hid (HS3.out.keep StrAt.stable hbn)
  have HS5 := Lib.hid (HS5.out.keep IntAt.stable hbn)
  have HT0 := Lib.hid ht0
  have HT1 := Lib.hid ht1
  clear s0 s1 s2 s3 s4 s5 s6 hsl HPn HSV hbn ht0 ht1
  have tok1 : True := trivial
  have tok2 : True := trivial
  go_upto_region 9 with fail
  go_wp2_with (first
    | (go_at_call 25; have _t := tok1; refine (same_en (l := x242) (HS2.out.keep StrAt.stable (bAlloc (Below.refl _ _) _)) (lit_strs _ x242 (by unfold most; decide))).mono ?_; rintro e w7 ⟨rfl, hb7⟩; have HB7 := Lib.hid (bThen (bAlloc (Below.refl _ _) _) hb7); clear hb7 tok1)
    | (go_at_call 25; have _t := tok2; refine (same_en (l := x105) (HS3.out.keep StrAt.stable (bThen HB7.out (bAlloc (Below.refl _ _) _))) (lit_strs _ x105 (by unfold most; decide))).mono ?_; rintro e w8 ⟨rfl, hb8⟩; have HB8 := Lib.hid (bThen HB7.out (bThen (bAlloc (Below.refl _ _) _) hb8)); clear hb8 tok2)
    | (go_at_call 29; refine (numbers_en (l := [30]) (HS5.out.keep IntAt.stable (bThen HB8.out (bAlloc (Below.refl _ _) _))) (lit_ints _ [30] (by unfold most; decide))).mono ?_; rintro e w9 ⟨rfl, hb9⟩; have HB9 := Lib.hid (bThen HB8.out (bThen (bAlloc (Below.refl _ _) _) hb9)); clear hb9; obtain ⟨u0, u1, u2, u3, u4, u5⟩ := SaidAt.stable _ _ _ _ _ HB9.out HT0.out; obtain ⟨v0, v1, v2, v3, v4, v5⟩ := SaidAt.stable _ _ _ _ _ HB9.out HT1.out; simp only [Nat.add_zero] at u0 u1 u2 u3 u4 u5; have hul := cell_lt u0))
  go_ret
  exact ⟨rfl, bThen HB.out HB9.out⟩
end Go.Proofs.Ytfcopnlpcbbocaa
