/- The law of checks, walked: for every system and every number it answers true. -/
import Derived.Test.YtfcopnlpcbbocaaI5
import Derived.Test.YtfcopnlpcbbocaaJ1
set_option linter.unusedSimpArgs false
set_option linter.unusedVariables false
namespace Go.Proofs.Ytfcopnlpcbbocaa
open Go.RowKit

set_option maxRecDepth 100000 in
set_option maxHeartbeats 8000000 in
theorem checks_any (S : Sys) (n : Int) (vt vp vs : Value) (w : World) (hp : SysParts w vt vp vs S) :
    Calls Try.prog 3 #[sysVal S vt vp vs, .int .i64 n] w fun e w' => e = .returned (.bool true) ∧ Below w.heap.size w w' := by
  have HPS := Lib.hid hp
  have HMOD : Hid (sysOk S = true → ∀ i (h : i < S.plurals.length), 1 ≤ S.plurals[i].mod) := Lib.hid (plu_mod S)
  obtain ⟨⟨at_, ct, rfl, -⟩, ⟨ap, cp, rfl, -⟩, ⟨as_, cs, rfl, -⟩⟩ := hp
  have HSV := Lib.hid (sysVal_eq S (.slice at_ S.terms.length ct) (.slice ap S.plurals.length cp) (.slice as_ S.sets.length cs))
  unfold sysVal
  cases hok : sysOk S
  · have HOK := Lib.hid hok
    have HCR : Hid (classRes S n = .tuple #[.int .i64 0, .int .i64 2]) := Lib.hid (by unfold classRes; rw [hok]; simp)
    clear hok
    go_enter Try.func3, Try.ntmps3
    go_wp2_with fail
    generalize hW1 : World.alloc w _ = W1
    have hbn : Below w.heap.size w W1 := by rw [← hW1]; exact bAlloc (Below.refl _ _) _
    have s0 : W1.cell? ⟨w.heap.size, 0, none⟩ = some (.int .i64 S.top) := by rw [← hW1]; exact cell_new rfl
    have s1 : W1.cell? ⟨w.heap.size, 1, none⟩ = some (.int .i64 S.genders) := by rw [← hW1]; exact cell_new rfl
    have s2 : W1.cell? ⟨w.heap.size, 2, none⟩ = some (.int .i64 S.cases) := by rw [← hW1]; exact cell_new rfl
    have s3 : W1.cell? ⟨w.heap.size, 3, none⟩ = some (.int .i64 S.classes) := by rw [← hW1]; exact cell_new rfl
    have s4 : W1.cell? ⟨w.heap.size, 4, none⟩ = some (.slice at_ S.terms.length ct) := by rw [← hW1]; exact cell_new rfl
    have s5 : W1.cell? ⟨w.heap.size, 5, none⟩ = some (.slice ap S.plurals.length cp) := by rw [← hW1]; exact cell_new rfl
    have s6 : W1.cell? ⟨w.heap.size, 6, none⟩ = some (.slice as_ S.sets.length cs) := by rw [← hW1]; exact cell_new rfl
    have HB := Lib.hid hbn
    have HPn := Lib.hid (HPS.out.keep hbn)
    have hsl := cell_lt s0
    clear hW1 hbn
    go_wp2_with (first
          | (go_at_call 14; rw [HSV.out]; refine (small_any S _ _ _ _ HPn.out).mono ?_; rintro e w1 ⟨⟨b, rfl⟩, hb⟩; have s0 := keep hb s0; have s1 := keep hb s1; have s2 := keep hb s2; have s3 := keep hb s3; have s4 := keep hb s4; have s5 := keep hb s5; have s6 := keep hb s6; have hsl := cell_lt s0; have HPn := Lib.hid (HPn.out.keep hb); have HB := Lib.hid (bThen HB.out hb); clear hb)
          | (go_at_call 15; refine (known_any _).mono ?_; rintro e w1 ⟨rfl, hb⟩; have s0 := keep hb s0; have s1 := keep hb s1; have s2 := keep hb s2; have s3 := keep hb s3; have s4 := keep hb s4; have s5 := keep hb s5; have s6 := keep hb s6; have hsl := cell_lt s0; have HPn := Lib.hid (HPn.out.keep hb); have HB := Lib.hid (bThen HB.out hb); clear hb)
          | (go_at_call 16; rw [HSV.out]; refine (Class_any S n _ _ _ _ HPn.out).mono ?_; rintro e w1 ⟨rfl, hb⟩; rw [HCR.out]; have s0 := keep hb s0; have s1 := keep hb s1; have s2 := keep hb s2; have s3 := keep hb s3; have s4 := keep hb s4; have s5 := keep hb s5; have s6 := keep hb s6; have hsl := cell_lt s0; have HPn := Lib.hid (HPn.out.keep hb); have HB := Lib.hid (bThen HB.out hb); clear hb)
          | (go_at_call 17; rw [HSV.out]; refine (isB (Valid_any S _ _ _ _ HPn.out) HOK.out).mono ?_; rintro e w1 ⟨rfl, hb⟩; have s0 := keep hb s0; have s1 := keep hb s1; have s2 := keep hb s2; have s3 := keep hb s3; have s4 := keep hb s4; have s5 := keep hb s5; have s6 := keep hb s6; have hsl := cell_lt s0; have HPn := Lib.hid (HPn.out.keep hb); have HB := Lib.hid (bThen HB.out hb); clear hb)
          | (go_at_call 18; rw [HSV.out]; refine (Check_any S _ _ _ _ HPn.out).mono ?_; rintro e w1 ⟨rfl, hb⟩; rw [HOK.out]; have s0 := keep hb s0; have s1 := keep hb s1; have s2 := keep hb s2; have s3 := keep hb s3; have s4 := keep hb s4; have s5 := keep hb s5; have s6 := keep hb s6; have hsl := cell_lt s0; have HPn := Lib.hid (HPn.out.keep hb); have HB := Lib.hid (bThen HB.out hb); clear hb)
          | (go_at_call 19; rw [HSV.out]; refine (refClass_any S n _ _ _ _ HPn.out HN0.out (HMOD.out HOK.out)).mono ?_; rintro e w1 ⟨rfl, hb⟩; have s0 := keep hb s0; have s1 := keep hb s1; have s2 := keep hb s2; have s3 := keep hb s3; have s4 := keep hb s4; have s5 := keep hb s5; have s6 := keep hb s6; have hsl := cell_lt s0; have HPn := Lib.hid (HPn.out.keep hb); have HB := Lib.hid (bThen HB.out hb); clear hb))
    all_goals
      go_ret
      exact ⟨rfl, HB.out⟩
  · by_cases hn : n < 0
    · have HOK := Lib.hid hok
      have HCR : Hid (classRes S n = .tuple #[.int .i64 0, .int .i64 2]) := Lib.hid (by unfold classRes; rw [if_neg]; omega)
      clear hok
      go_enter Try.func3, Try.ntmps3
      go_wp2_with fail
      generalize hW1 : World.alloc w _ = W1
      have hbn : Below w.heap.size w W1 := by rw [← hW1]; exact bAlloc (Below.refl _ _) _
      have s0 : W1.cell? ⟨w.heap.size, 0, none⟩ = some (.int .i64 S.top) := by rw [← hW1]; exact cell_new rfl
      have s1 : W1.cell? ⟨w.heap.size, 1, none⟩ = some (.int .i64 S.genders) := by rw [← hW1]; exact cell_new rfl
      have s2 : W1.cell? ⟨w.heap.size, 2, none⟩ = some (.int .i64 S.cases) := by rw [← hW1]; exact cell_new rfl
      have s3 : W1.cell? ⟨w.heap.size, 3, none⟩ = some (.int .i64 S.classes) := by rw [← hW1]; exact cell_new rfl
      have s4 : W1.cell? ⟨w.heap.size, 4, none⟩ = some (.slice at_ S.terms.length ct) := by rw [← hW1]; exact cell_new rfl
      have s5 : W1.cell? ⟨w.heap.size, 5, none⟩ = some (.slice ap S.plurals.length cp) := by rw [← hW1]; exact cell_new rfl
      have s6 : W1.cell? ⟨w.heap.size, 6, none⟩ = some (.slice as_ S.sets.length cs) := by rw [← hW1]; exact cell_new rfl
      have HB := Lib.hid hbn
      have HPn := Lib.hid (HPS.out.keep hbn)
      have hsl := cell_lt s0
      clear hW1 hbn
      go_wp2_with (first
            | (go_at_call 14; rw [HSV.out]; refine (small_any S _ _ _ _ HPn.out).mono ?_; rintro e w1 ⟨⟨b, rfl⟩, hb⟩; have s0 := keep hb s0; have s1 := keep hb s1; have s2 := keep hb s2; have s3 := keep hb s3; have s4 := keep hb s4; have s5 := keep hb s5; have s6 := keep hb s6; have hsl := cell_lt s0; have HPn := Lib.hid (HPn.out.keep hb); have HB := Lib.hid (bThen HB.out hb); clear hb)
            | (go_at_call 15; refine (known_any _).mono ?_; rintro e w1 ⟨rfl, hb⟩; have s0 := keep hb s0; have s1 := keep hb s1; have s2 := keep hb s2; have s3 := keep hb s3; have s4 := keep hb s4; have s5 := keep hb s5; have s6 := keep hb s6; have hsl := cell_lt s0; have HPn := Lib.hid (HPn.out.keep hb); have HB := Lib.hid (bThen HB.out hb); clear hb)
            | (go_at_call 16; rw [HSV.out]; refine (Class_any S n _ _ _ _ HPn.out).mono ?_; rintro e w1 ⟨rfl, hb⟩; rw [HCR.out]; have s0 := keep hb s0; have s1 := keep hb s1; have s2 := keep hb s2; have s3 := keep hb s3; have s4 := keep hb s4; have s5 := keep hb s5; have s6 := keep hb s6; have hsl := cell_lt s0; have HPn := Lib.hid (HPn.out.keep hb); have HB := Lib.hid (bThen HB.out hb); clear hb)
            | (go_at_call 17; rw [HSV.out]; refine (isB (Valid_any S _ _ _ _ HPn.out) HOK.out).mono ?_; rintro e w1 ⟨rfl, hb⟩; have s0 := keep hb s0; have s1 := keep hb s1; have s2 := keep hb s2; have s3 := keep hb s3; have s4 := keep hb s4; have s5 := keep hb s5; have s6 := keep hb s6; have hsl := cell_lt s0; have HPn := Lib.hid (HPn.out.keep hb); have HB := Lib.hid (bThen HB.out hb); clear hb)
            | (go_at_call 18; rw [HSV.out]; refine (Check_any S _ _ _ _ HPn.out).mono ?_; rintro e w1 ⟨rfl, hb⟩; rw [HOK.out]; have s0 := keep hb s0; have s1 := keep hb s1; have s2 := keep hb s2; have s3 := keep hb s3; have s4 := keep hb s4; have s5 := keep hb s5; have s6 := keep hb s6; have hsl := cell_lt s0; have HPn := Lib.hid (HPn.out.keep hb); have HB := Lib.hid (bThen HB.out hb); clear hb)
            | (go_at_call 19; rw [HSV.out]; refine (refClass_any S n _ _ _ _ HPn.out HN0.out (HMOD.out HOK.out)).mono ?_; rintro e w1 ⟨rfl, hb⟩; have s0 := keep hb s0; have s1 := keep hb s1; have s2 := keep hb s2; have s3 := keep hb s3; have s4 := keep hb s4; have s5 := keep hb s5; have s6 := keep hb s6; have hsl := cell_lt s0; have HPn := Lib.hid (HPn.out.keep hb); have HB := Lib.hid (bThen HB.out hb); clear hb))
      all_goals
        go_ret
        exact ⟨rfl, HB.out⟩
    · have HOK := Lib.hid hok
      have HN0 : Hid (0 ≤ n) := Lib.hid (by omega)
      have HCR : Hid (classRes S n = .tuple #[.int .i64 (classOf n S.plurals), .int .i64 0]) := Lib.hid (by unfold classRes; rw [if_pos ⟨hok, by omega⟩])
      clear hok
      generalize hcl : classOf n S.plurals = cl at HCR
      have HCL := Lib.hid hcl
      clear hcl
      go_enter Try.func3, Try.ntmps3
      go_wp2_with fail
      generalize hW1 : World.alloc w _ = W1
      have hbn : Below w.heap.size w W1 := by rw [← hW1]; exact bAlloc (Below.refl _ _) _
      have s0 : W1.cell? ⟨w.heap.size, 0, none⟩ = some (.int .i64 S.top) := by rw [← hW1]; exact cell_new rfl
      have s1 : W1.cell? ⟨w.heap.size, 1, none⟩ = some (.int .i64 S.genders) := by rw [← hW1]; exact cell_new rfl
      have s2 : W1.cell? ⟨w.heap.size, 2, none⟩ = some (.int .i64 S.cases) := by rw [← hW1]; exact cell_new rfl
      have s3 : W1.cell? ⟨w.heap.size, 3, none⟩ = some (.int .i64 S.classes) := by rw [← hW1]; exact cell_new rfl
      have s4 : W1.cell? ⟨w.heap.size, 4, none⟩ = some (.slice at_ S.terms.length ct) := by rw [← hW1]; exact cell_new rfl
      have s5 : W1.cell? ⟨w.heap.size, 5, none⟩ = some (.slice ap S.plurals.length cp) := by rw [← hW1]; exact cell_new rfl
      have s6 : W1.cell? ⟨w.heap.size, 6, none⟩ = some (.slice as_ S.sets.length cs) := by rw [← hW1]; exact cell_new rfl
      have HB := Lib.hid hbn
      have HPn := Lib.hid (HPS.out.keep hbn)
      have hsl := cell_lt s0
      clear hW1 hbn
      go_wp2_with (first
            | (go_at_call 14; rw [HSV.out]; refine (small_any S _ _ _ _ HPn.out).mono ?_; rintro e w1 ⟨⟨b, rfl⟩, hb⟩; have s0 := keep hb s0; have s1 := keep hb s1; have s2 := keep hb s2; have s3 := keep hb s3; have s4 := keep hb s4; have s5 := keep hb s5; have s6 := keep hb s6; have hsl := cell_lt s0; have HPn := Lib.hid (HPn.out.keep hb); have HB := Lib.hid (bThen HB.out hb); clear hb)
            | (go_at_call 15; refine (known_any _).mono ?_; rintro e w1 ⟨rfl, hb⟩; have s0 := keep hb s0; have s1 := keep hb s1; have s2 := keep hb s2; have s3 := keep hb s3; have s4 := keep hb s4; have s5 := keep hb s5; have s6 := keep hb s6; have hsl := cell_lt s0; have HPn := Lib.hid (HPn.out.keep hb); have HB := Lib.hid (bThen HB.out hb); clear hb)
            | (go_at_call 16; rw [HSV.out]; refine (Class_any S n _ _ _ _ HPn.out).mono ?_; rintro e w1 ⟨rfl, hb⟩; rw [HCR.out]; have s0 := keep hb s0; have s1 := keep hb s1; have s2 := keep hb s2; have s3 := keep hb s3; have s4 := keep hb s4; have s5 := keep hb s5; have s6 := keep hb s6; have hsl := cell_lt s0; have HPn := Lib.hid (HPn.out.keep hb); have HB := Lib.hid (bThen HB.out hb); clear hb)
            | (go_at_call 17; rw [HSV.out]; refine (isB (Valid_any S _ _ _ _ HPn.out) HOK.out).mono ?_; rintro e w1 ⟨rfl, hb⟩; have s0 := keep hb s0; have s1 := keep hb s1; have s2 := keep hb s2; have s3 := keep hb s3; have s4 := keep hb s4; have s5 := keep hb s5; have s6 := keep hb s6; have hsl := cell_lt s0; have HPn := Lib.hid (HPn.out.keep hb); have HB := Lib.hid (bThen HB.out hb); clear hb)
            | (go_at_call 18; rw [HSV.out]; refine (Check_any S _ _ _ _ HPn.out).mono ?_; rintro e w1 ⟨rfl, hb⟩; rw [HOK.out]; have s0 := keep hb s0; have s1 := keep hb s1; have s2 := keep hb s2; have s3 := keep hb s3; have s4 := keep hb s4; have s5 := keep hb s5; have s6 := keep hb s6; have hsl := cell_lt s0; have HPn := Lib.hid (HPn.out.keep hb); have HB := Lib.hid (bThen HB.out hb); clear hb)
            | (go_at_call 19; rw [HSV.out]; refine (refClass_any S n _ _ _ _ HPn.out HN0.out (HMOD.out HOK.out)).mono ?_; rintro e w1 ⟨rfl, hb⟩; have s0 := keep hb s0; have s1 := keep hb s1; have s2 := keep hb s2; have s3 := keep hb s3; have s4 := keep hb s4; have s5 := keep hb s5; have s6 := keep hb s6; have hsl := cell_lt s0; have HPn := Lib.hid (HPn.out.keep hb); have HB := Lib.hid (bThen HB.out hb); clear hb))
      all_goals
        go_ret
        first | exact ⟨rfl, HB.out⟩ | (exact absurd HCL.out.symm ‹_›) | (exfalso; have := HN0.out; omega)
end Go.Proofs.Ytfcopnlpcbbocaa
