/- The law of uses, walked: for every system, ask, set and rule it answers true. -/
import Derived.Test.YtfcopnlpcbbocaaR21
import Derived.Test.YtfcopnlpcbbocaaR8
set_option linter.unusedSimpArgs false
set_option linter.unusedVariables false
namespace Go.Proofs.Ytfcopnlpcbbocaa
open Go.RowKit

theorem UsesPost.bad {S : Sys} {a : Ask} {set rule : Int} {e : Ending} {w : World} (h : UsesPost S a set rule e w) (hr : hasRule S set rule = false) : e = .returned (.tuple #[.slice none 0 0, .int .i64 2]) := by
  rcases h with ⟨-, h⟩ | ⟨h, -⟩ | ⟨h, -⟩
  · exact h
  · rw [hr] at h; cases h
  · rw [hr] at h; cases h
theorem UsesPost.err {S : Sys} {a : Ask} {set rule n : Int} {e : Ending} {w : World} (h : UsesPost S a set rule e w) (hr : hasRule S set rule = true) (he : scanErr a [S] = n) (hn : n ≠ 0) : e = .returned (.tuple #[.slice none 0 0, .int .i64 n]) := by
  rcases h with ⟨h, -⟩ | ⟨-, -, h⟩ | ⟨-, h, -⟩
  · rw [hr] at h; cases h
  · rw [he] at h; exact h
  · exact absurd (he.symm.trans h) hn
theorem UsesPost.some {S : Sys} {a : Ask} {set rule : Int} {e : Ending} {w : World} {L : List Nat} (h : UsesPost S a set rule e w) (hr : hasRule S set rule = true) (he : scanErr a [S] = 0) (hL : usesTo S a a.num.toNat set rule = L) :
    ∃ ad c, e = .returned (.tuple #[.slice ad L.length c, .int .i64 0]) ∧ Hid (SliceV w (.slice ad L.length c) 1 IntAt (L.map fun n : Nat => (n : Int))) := by
  subst hL
  rcases h with ⟨h, -⟩ | ⟨-, h, -⟩ | ⟨-, -, ad, c, rfl, hs⟩
  · rw [hr] at h; cases h
  · exact absurd he h
  · exact ⟨ad, c, rfl, Lib.hid hs⟩
theorem LongestPost.err {S : Sys} {a : Ask} {e : Ending} {n : Int} (h : LongestPost S a e) (he : scanErr a [S] = n) (hn : n ≠ 0) : e = .returned (.tuple #[.int .i64 0, .int .i64 0, .int .i64 n]) := by
  rcases h with ⟨-, h⟩ | ⟨h, -⟩ | ⟨h, -⟩
  · rw [he] at h; exact h
  · exact absurd (he.symm.trans h) hn
  · exact absurd (he.symm.trans h) hn
theorem LongestPost.none {S : Sys} {a : Ask} {e : Ending} (h : LongestPost S a e) (he : scanErr a [S] = 0) (hn : (lngF 0 S a (a.num.toNat + 1)).2 = 0) : e = .returned (.tuple #[.int .i64 0, .int .i64 0, .int .i64 5]) := by
  rcases h with ⟨h, -⟩ | ⟨-, -, h⟩ | ⟨-, h, -⟩
  · exact absurd he h
  · exact h
  · exact absurd hn h
theorem LongestPost.some {S : Sys} {a : Ask} {e : Ending} {x : Int} {y : Nat} (h : LongestPost S a e) (he : scanErr a [S] = 0) (hx : lngF 0 S a (a.num.toNat + 1) = (x, y)) (hn : y ≠ 0) : e = .returned (.tuple #[.int .i64 x, .int .i64 (y : Int), .int .i64 0]) := by
  rcases h with ⟨h, -⟩ | ⟨-, h, -⟩ | ⟨-, -, h⟩
  · exact absurd he h
  · rw [hx] at h; exact absurd h hn
  · rw [hx] at h; exact h

set_option maxRecDepth 100000 in
set_option maxHeartbeats 16000000 in
theorem usesLaw_any (S : Sys) (a : Ask) (set rule : Int) (vt vp vs : Value) (w : World) (hp : SysParts w vt vp vs S) :
    Calls Try.prog 10 #[sysVal S vt vp vs, a.val, .int .i64 set, .int .i64 rule] w fun e w' => e = .returned (.bool true) ∧ Below w.heap.size w w' := by
  have HPS := Lib.hid hp
  obtain ⟨⟨at_, ct, rfl, -⟩, ⟨ap, cp, rfl, -⟩, ⟨as_, cs, rfl, hsl', hx⟩⟩ := hp
  unfold most at hsl'
  have HSV := Lib.hid (sysVal_eq S (.slice at_ S.terms.length ct) (.slice ap S.plurals.length cp) (.slice as_ S.sets.length cs))
  have HXS := Lib.hid hx
  have HW3 : Hid (scanErr a [S] = 2 ∨ scanErr a [S] = 4 ∨ scanErr a [S] = 0) := Lib.hid (by unfold scanErr; split; split; exact .inr (.inl rfl); exact .inr (.inr rfl); exact .inl rfl)
  clear hx
  unfold sysVal Ask.val
  have h36 : ∀ W', SysParts W' (.slice at_ S.terms.length ct) (.slice ap S.plurals.length cp) (.slice as_ S.sets.length cs) S → Calls Try.prog 36 #[.agg #[.int .i64 S.top, .int .i64 S.genders, .int .i64 S.cases, .int .i64 S.classes, .slice at_ S.terms.length ct, .slice ap S.plurals.length cp, .slice as_ S.sets.length cs], .agg #[.int .i64 a.num, .int .i64 a.set, .int .i64 a.gen, .int .i64 a.kas], .int .i64 set, .int .i64 rule] W' fun e w' => UsesPost S a set rule e w' ∧ Below W'.heap.size W' w' := fun W' h => Uses_any S a set rule _ _ _ W' h
  have h37 : ∀ W', SysParts W' (.slice at_ S.terms.length ct) (.slice ap S.plurals.length cp) (.slice as_ S.sets.length cs) S → Calls Try.prog 37 #[.agg #[.int .i64 S.top, .int .i64 S.genders, .int .i64 S.cases, .int .i64 S.classes, .slice at_ S.terms.length ct, .slice ap S.plurals.length cp, .slice as_ S.sets.length cs], .agg #[.int .i64 a.num, .int .i64 a.set, .int .i64 a.gen, .int .i64 a.kas]] W' fun e w' => LongestPost S a e ∧ Below W'.heap.size W' w' := fun W' h => Longest_any S a _ _ _ W' h
  have h22 : ∀ W', SysParts W' (.slice at_ S.terms.length ct) (.slice ap S.plurals.length cp) (.slice as_ S.sets.length cs) S → Calls Try.prog 22 #[.agg #[.int .i64 S.top, .int .i64 S.genders, .int .i64 S.cases, .int .i64 S.classes, .slice at_ S.terms.length ct, .slice ap S.plurals.length cp, .slice as_ S.sets.length cs], .agg #[.int .i64 a.num, .int .i64 a.set, .int .i64 a.gen, .int .i64 a.kas], .bool true] W' fun e w' => e = .returned (.int .i64 (refErr S a true)) ∧ Below W'.heap.size W' w' := fun W' h => refused_any S a true _ _ _ W' h
  have H36 := Lib.hid h36
  have H37 := Lib.hid h37
  have H22 := Lib.hid h22
  clear h36 h37 h22
  by_cases c1 : 300 < a.num
  · by_cases c1' : a.num ≤ 20000
    · go_enter Try.func10, Try.ntmps10
      go_wp2_with fail
      generalize hW1 : World.alloc (World.alloc w _) _ = W1
      have hbn : Below w.heap.size w W1 := by rw [← hW1]; exact bAlloc (bAlloc (Below.refl _ _) _) _
      have s0 : W1.cell? ⟨w.heap.size, 0, none⟩ = some (.int .i64 S.top) := by rw [← hW1]; exact keep (bAlloc (Below.refl _ _) _) (cell_new rfl)
      have s1 : W1.cell? ⟨w.heap.size, 1, none⟩ = some (.int .i64 S.genders) := by rw [← hW1]; exact keep (bAlloc (Below.refl _ _) _) (cell_new rfl)
      have s2 : W1.cell? ⟨w.heap.size, 2, none⟩ = some (.int .i64 S.cases) := by rw [← hW1]; exact keep (bAlloc (Below.refl _ _) _) (cell_new rfl)
      have s3 : W1.cell? ⟨w.heap.size, 3, none⟩ = some (.int .i64 S.classes) := by rw [← hW1]; exact keep (bAlloc (Below.refl _ _) _) (cell_new rfl)
      have s4 : W1.cell? ⟨w.heap.size, 4, none⟩ = some (.slice at_ S.terms.length ct) := by rw [← hW1]; exact keep (bAlloc (Below.refl _ _) _) (cell_new rfl)
      have s5 : W1.cell? ⟨w.heap.size, 5, none⟩ = some (.slice ap S.plurals.length cp) := by rw [← hW1]; exact keep (bAlloc (Below.refl _ _) _) (cell_new rfl)
      have s6 : W1.cell? ⟨w.heap.size, 6, none⟩ = some (.slice as_ S.sets.length cs) := by rw [← hW1]; exact keep (bAlloc (Below.refl _ _) _) (cell_new rfl)
      have a0 : W1.cell? ⟨w.heap.size + 1, 0, none⟩ = some (.int .i64 a.num) := by rw [← hW1]; simp
      have a1 : W1.cell? ⟨w.heap.size + 1, 1, none⟩ = some (.int .i64 a.set) := by rw [← hW1]; simp
      have a2 : W1.cell? ⟨w.heap.size + 1, 2, none⟩ = some (.int .i64 a.gen) := by rw [← hW1]; simp
      have a3 : W1.cell? ⟨w.heap.size + 1, 3, none⟩ = some (.int .i64 a.kas) := by rw [← hW1]; simp
      have HB := Lib.hid hbn
      have HPn := Lib.hid (HPS.out.keep hbn)
      have hsl := cell_lt s0
      have hal := cell_lt a0
      (try (replace c0 := keep hbn c0))
      (try (have hxb := cell_lt c0))
      clear hW1 hbn
      go_wp2_with (first
        | (go_at_call 14; rw [HSV.out]; refine (small_any S _ _ _ _ HPn.out).mono ?_; rintro e w1 ⟨⟨b, rfl⟩, hb⟩; replace s0 := keep hb s0; replace s1 := keep hb s1; replace s2 := keep hb s2; replace s3 := keep hb s3; replace s4 := keep hb s4; replace s5 := keep hb s5; replace s6 := keep hb s6; replace a0 := keep hb a0; replace a1 := keep hb a1; replace a2 := keep hb a2; replace a3 := keep hb a3; replace hsl := cell_lt s0; replace hal := cell_lt a0; replace HPn := Lib.hid (HPn.out.keep hb); replace HB := Lib.hid (bThen HB.out hb); (try (replace c0 := keep hb c0; replace hxb := cell_lt c0)); clear hb; cases b)
        | (go_at_call 15; refine (known_any _).mono ?_; rintro e wk ⟨rfl, hb⟩; replace HB := Lib.hid (bThen HB.out hb); clear hb))
      all_goals
        first
          | (go_ret; exact ⟨rfl, HB.out⟩)
          | (exfalso; omega)
    by_cases hs0 : set < 0
    · have HR : Hid (hasRule S set rule = false) := Lib.hid (by have : ¬ 0 ≤ set := (by omega); simp [hasRule, exst, this])
      rcases HW3.out with h2 | h4 | h0
      · have HEN := Lib.hid h2
        have HNZ : Hid ((2 : Int) ≠ 0) := Lib.hid (by decide)
        have HER : Hid (refErr S a true = 2) := Lib.hid (by rw [scanErr_ref, h2])
        clear h2
        go_enter Try.func10, Try.ntmps10
        go_wp2_with fail
        generalize hW1 : World.alloc (World.alloc w _) _ = W1
        have hbn : Below w.heap.size w W1 := by rw [← hW1]; exact bAlloc (bAlloc (Below.refl _ _) _) _
        have s0 : W1.cell? ⟨w.heap.size, 0, none⟩ = some (.int .i64 S.top) := by rw [← hW1]; exact keep (bAlloc (Below.refl _ _) _) (cell_new rfl)
        have s1 : W1.cell? ⟨w.heap.size, 1, none⟩ = some (.int .i64 S.genders) := by rw [← hW1]; exact keep (bAlloc (Below.refl _ _) _) (cell_new rfl)
        have s2 : W1.cell? ⟨w.heap.size, 2, none⟩ = some (.int .i64 S.cases) := by rw [← hW1]; exact keep (bAlloc (Below.refl _ _) _) (cell_new rfl)
        have s3 : W1.cell? ⟨w.heap.size, 3, none⟩ = some (.int .i64 S.classes) := by rw [← hW1]; exact keep (bAlloc (Below.refl _ _) _) (cell_new rfl)
        have s4 : W1.cell? ⟨w.heap.size, 4, none⟩ = some (.slice at_ S.terms.length ct) := by rw [← hW1]; exact keep (bAlloc (Below.refl _ _) _) (cell_new rfl)
        have s5 : W1.cell? ⟨w.heap.size, 5, none⟩ = some (.slice ap S.plurals.length cp) := by rw [← hW1]; exact keep (bAlloc (Below.refl _ _) _) (cell_new rfl)
        have s6 : W1.cell? ⟨w.heap.size, 6, none⟩ = some (.slice as_ S.sets.length cs) := by rw [← hW1]; exact keep (bAlloc (Below.refl _ _) _) (cell_new rfl)
        have a0 : W1.cell? ⟨w.heap.size + 1, 0, none⟩ = some (.int .i64 a.num) := by rw [← hW1]; simp
        have a1 : W1.cell? ⟨w.heap.size + 1, 1, none⟩ = some (.int .i64 a.set) := by rw [← hW1]; simp
        have a2 : W1.cell? ⟨w.heap.size + 1, 2, none⟩ = some (.int .i64 a.gen) := by rw [← hW1]; simp
        have a3 : W1.cell? ⟨w.heap.size + 1, 3, none⟩ = some (.int .i64 a.kas) := by rw [← hW1]; simp
        have HB := Lib.hid hbn
        have HPn := Lib.hid (HPS.out.keep hbn)
        have hsl := cell_lt s0
        have hal := cell_lt a0
        (try (replace c0 := keep hbn c0))
        (try (have hxb := cell_lt c0))
        clear hW1 hbn
        go_wp2_with (first
          | (go_at_call 14; rw [HSV.out]; refine (small_any S _ _ _ _ HPn.out).mono ?_; rintro e w1 ⟨⟨b, rfl⟩, hb⟩; replace s0 := keep hb s0; replace s1 := keep hb s1; replace s2 := keep hb s2; replace s3 := keep hb s3; replace s4 := keep hb s4; replace s5 := keep hb s5; replace s6 := keep hb s6; replace a0 := keep hb a0; replace a1 := keep hb a1; replace a2 := keep hb a2; replace a3 := keep hb a3; replace hsl := cell_lt s0; replace hal := cell_lt a0; replace HPn := Lib.hid (HPn.out.keep hb); replace HB := Lib.hid (bThen HB.out hb); (try (replace c0 := keep hb c0; replace hxb := cell_lt c0)); clear hb; cases b)
          | (go_at_call 15; refine (known_any _).mono ?_; rintro e wk ⟨rfl, hb⟩; replace HB := Lib.hid (bThen HB.out hb); clear hb)
          | (go_at_call 36; refine (H36.out _ HPn.out).mono ?_; rintro e w2 ⟨hq, hb⟩; obtain rfl := UsesPost.bad hq HR.out; replace s0 := keep hb s0; replace s1 := keep hb s1; replace s2 := keep hb s2; replace s3 := keep hb s3; replace s4 := keep hb s4; replace s5 := keep hb s5; replace s6 := keep hb s6; replace a0 := keep hb a0; replace a1 := keep hb a1; replace a2 := keep hb a2; replace a3 := keep hb a3; replace hsl := cell_lt s0; replace hal := cell_lt a0; replace HPn := Lib.hid (HPn.out.keep hb); replace HB := Lib.hid (bThen HB.out hb); (try (replace c0 := keep hb c0; replace hxb := cell_lt c0)); clear hb hq)
          | (go_at_call 37; refine (H37.out _ HPn.out).mono ?_; rintro e w3 ⟨hq, hb⟩; obtain rfl := LongestPost.err hq HEN.out HNZ.out; replace s0 := keep hb s0; replace s1 := keep hb s1; replace s2 := keep hb s2; replace s3 := keep hb s3; replace s4 := keep hb s4; replace s5 := keep hb s5; replace s6 := keep hb s6; replace a0 := keep hb a0; replace a1 := keep hb a1; replace a2 := keep hb a2; replace a3 := keep hb a3; replace hsl := cell_lt s0; replace hal := cell_lt a0; replace HPn := Lib.hid (HPn.out.keep hb); replace HB := Lib.hid (bThen HB.out hb); (try (replace c0 := keep hb c0; replace hxb := cell_lt c0)); (try (replace HRD := Lib.hid (HRD.out.keep IntAt.stable hb))); clear hb hq)
          | (go_at_call 22; refine (H22.out _ HPn.out).mono ?_; rintro e w4 ⟨rfl, hb⟩; rw [HER.out]; replace s0 := keep hb s0; replace s1 := keep hb s1; replace s2 := keep hb s2; replace s3 := keep hb s3; replace s4 := keep hb s4; replace s5 := keep hb s5; replace s6 := keep hb s6; replace a0 := keep hb a0; replace a1 := keep hb a1; replace a2 := keep hb a2; replace a3 := keep hb a3; replace hsl := cell_lt s0; replace hal := cell_lt a0; replace HPn := Lib.hid (HPn.out.keep hb); replace HB := Lib.hid (bThen HB.out hb); (try (replace c0 := keep hb c0; replace hxb := cell_lt c0)); (try (replace HRD := Lib.hid (HRD.out.keep IntAt.stable hb))); clear hb))
        all_goals
          first
            | (go_ret; exact ⟨rfl, HB.out⟩)
            | (exfalso; omega)
      · have HEN := Lib.hid h4
        have HNZ : Hid ((4 : Int) ≠ 0) := Lib.hid (by decide)
        have HER : Hid (refErr S a true = 4) := Lib.hid (by rw [scanErr_ref, h4])
        clear h4
        go_enter Try.func10, Try.ntmps10
        go_wp2_with fail
        generalize hW1 : World.alloc (World.alloc w _) _ = W1
        have hbn : Below w.heap.size w W1 := by rw [← hW1]; exact bAlloc (bAlloc (Below.refl _ _) _) _
        have s0 : W1.cell? ⟨w.heap.size, 0, none⟩ = some (.int .i64 S.top) := by rw [← hW1]; exact keep (bAlloc (Below.refl _ _) _) (cell_new rfl)
        have s1 : W1.cell? ⟨w.heap.size, 1, none⟩ = some (.int .i64 S.genders) := by rw [← hW1]; exact keep (bAlloc (Below.refl _ _) _) (cell_new rfl)
        have s2 : W1.cell? ⟨w.heap.size, 2, none⟩ = some (.int .i64 S.cases) := by rw [← hW1]; exact keep (bAlloc (Below.refl _ _) _) (cell_new rfl)
        have s3 : W1.cell? ⟨w.heap.size, 3, none⟩ = some (.int .i64 S.classes) := by rw [← hW1]; exact keep (bAlloc (Below.refl _ _) _) (cell_new rfl)
        have s4 : W1.cell? ⟨w.heap.size, 4, none⟩ = some (.slice at_ S.terms.length ct) := by rw [← hW1]; exact keep (bAlloc (Below.refl _ _) _) (cell_new rfl)
        have s5 : W1.cell? ⟨w.heap.size, 5, none⟩ = some (.slice ap S.plurals.length cp) := by rw [← hW1]; exact keep (bAlloc (Below.refl _ _) _) (cell_new rfl)
        have s6 : W1.cell? ⟨w.heap.size, 6, none⟩ = some (.slice as_ S.sets.length cs) := by rw [← hW1]; exact keep (bAlloc (Below.refl _ _) _) (cell_new rfl)
        have a0 : W1.cell? ⟨w.heap.size + 1, 0, none⟩ = some (.int .i64 a.num) := by rw [← hW1]; simp
        have a1 : W1.cell? ⟨w.heap.size + 1, 1, none⟩ = some (.int .i64 a.set) := by rw [← hW1]; simp
        have a2 : W1.cell? ⟨w.heap.size + 1, 2, none⟩ = some (.int .i64 a.gen) := by rw [← hW1]; simp
        have a3 : W1.cell? ⟨w.heap.size + 1, 3, none⟩ = some (.int .i64 a.kas) := by rw [← hW1]; simp
        have HB := Lib.hid hbn
        have HPn := Lib.hid (HPS.out.keep hbn)
        have hsl := cell_lt s0
        have hal := cell_lt a0
        (try (replace c0 := keep hbn c0))
        (try (have hxb := cell_lt c0))
        clear hW1 hbn
        go_wp2_with (first
          | (go_at_call 14; rw [HSV.out]; refine (small_any S _ _ _ _ HPn.out).mono ?_; rintro e w1 ⟨⟨b, rfl⟩, hb⟩; replace s0 := keep hb s0; replace s1 := keep hb s1; replace s2 := keep hb s2; replace s3 := keep hb s3; replace s4 := keep hb s4; replace s5 := keep hb s5; replace s6 := keep hb s6; replace a0 := keep hb a0; replace a1 := keep hb a1; replace a2 := keep hb a2; replace a3 := keep hb a3; replace hsl := cell_lt s0; replace hal := cell_lt a0; replace HPn := Lib.hid (HPn.out.keep hb); replace HB := Lib.hid (bThen HB.out hb); (try (replace c0 := keep hb c0; replace hxb := cell_lt c0)); clear hb; cases b)
          | (go_at_call 15; refine (known_any _).mono ?_; rintro e wk ⟨rfl, hb⟩; replace HB := Lib.hid (bThen HB.out hb); clear hb)
          | (go_at_call 36; refine (H36.out _ HPn.out).mono ?_; rintro e w2 ⟨hq, hb⟩; obtain rfl := UsesPost.bad hq HR.out; replace s0 := keep hb s0; replace s1 := keep hb s1; replace s2 := keep hb s2; replace s3 := keep hb s3; replace s4 := keep hb s4; replace s5 := keep hb s5; replace s6 := keep hb s6; replace a0 := keep hb a0; replace a1 := keep hb a1; replace a2 := keep hb a2; replace a3 := keep hb a3; replace hsl := cell_lt s0; replace hal := cell_lt a0; replace HPn := Lib.hid (HPn.out.keep hb); replace HB := Lib.hid (bThen HB.out hb); (try (replace c0 := keep hb c0; replace hxb := cell_lt c0)); clear hb hq)
          | (go_at_call 37; refine (H37.out _ HPn.out).mono ?_; rintro e w3 ⟨hq, hb⟩; obtain rfl := LongestPost.err hq HEN.out HNZ.out; replace s0 := keep hb s0; replace s1 := keep hb s1; replace s2 := keep hb s2; replace s3 := keep hb s3; replace s4 := keep hb s4; replace s5 := keep hb s5; replace s6 := keep hb s6; replace a0 := keep hb a0; replace a1 := keep hb a1; replace a2 := keep hb a2; replace a3 := keep hb a3; replace hsl := cell_lt s0; replace hal := cell_lt a0; replace HPn := Lib.hid (HPn.out.keep hb); replace HB := Lib.hid (bThen HB.out hb); (try (replace c0 := keep hb c0; replace hxb := cell_lt c0)); (try (replace HRD := Lib.hid (HRD.out.keep IntAt.stable hb))); clear hb hq)
          | (go_at_call 22; refine (H22.out _ HPn.out).mono ?_; rintro e w4 ⟨rfl, hb⟩; rw [HER.out]; replace s0 := keep hb s0; replace s1 := keep hb s1; replace s2 := keep hb s2; replace s3 := keep hb s3; replace s4 := keep hb s4; replace s5 := keep hb s5; replace s6 := keep hb s6; replace a0 := keep hb a0; replace a1 := keep hb a1; replace a2 := keep hb a2; replace a3 := keep hb a3; replace hsl := cell_lt s0; replace hal := cell_lt a0; replace HPn := Lib.hid (HPn.out.keep hb); replace HB := Lib.hid (bThen HB.out hb); (try (replace c0 := keep hb c0; replace hxb := cell_lt c0)); (try (replace HRD := Lib.hid (HRD.out.keep IntAt.stable hb))); clear hb))
        all_goals
          first
            | (go_ret; exact ⟨rfl, HB.out⟩)
            | (exfalso; omega)
      · have hok : askOk S a = true := by
          cases h : askOk S a
          · unfold scanErr at h0; simp [h] at h0
          · rfl
        have hmx : a.num ≤ 20000 := by
          unfold scanErr at h0; simp [hok] at h0; omega
        have HE0 := Lib.hid h0
        have HMX := Lib.hid hmx
        have HER : Hid (refErr S a true = 0) := Lib.hid (by rw [scanErr_ref, h0])
        have HRT := Lib.hid (askRight_of hok)
        clear h0 hok
        exact absurd hmx (by omega)
    by_cases hs1 : (S.sets.length : Int) ≤ set
    · have HR : Hid (hasRule S set rule = false) := Lib.hid (by have : ¬ set < (S.sets.length : Int) := (by omega); simp [hasRule, exst, this])
      rcases HW3.out with h2 | h4 | h0
      · have HEN := Lib.hid h2
        have HNZ : Hid ((2 : Int) ≠ 0) := Lib.hid (by decide)
        have HER : Hid (refErr S a true = 2) := Lib.hid (by rw [scanErr_ref, h2])
        clear h2
        go_enter Try.func10, Try.ntmps10
        go_wp2_with fail
        generalize hW1 : World.alloc (World.alloc w _) _ = W1
        have hbn : Below w.heap.size w W1 := by rw [← hW1]; exact bAlloc (bAlloc (Below.refl _ _) _) _
        have s0 : W1.cell? ⟨w.heap.size, 0, none⟩ = some (.int .i64 S.top) := by rw [← hW1]; exact keep (bAlloc (Below.refl _ _) _) (cell_new rfl)
        have s1 : W1.cell? ⟨w.heap.size, 1, none⟩ = some (.int .i64 S.genders) := by rw [← hW1]; exact keep (bAlloc (Below.refl _ _) _) (cell_new rfl)
        have s2 : W1.cell? ⟨w.heap.size, 2, none⟩ = some (.int .i64 S.cases) := by rw [← hW1]; exact keep (bAlloc (Below.refl _ _) _) (cell_new rfl)
        have s3 : W1.cell? ⟨w.heap.size, 3, none⟩ = some (.int .i64 S.classes) := by rw [← hW1]; exact keep (bAlloc (Below.refl _ _) _) (cell_new rfl)
        have s4 : W1.cell? ⟨w.heap.size, 4, none⟩ = some (.slice at_ S.terms.length ct) := by rw [← hW1]; exact keep (bAlloc (Below.refl _ _) _) (cell_new rfl)
        have s5 : W1.cell? ⟨w.heap.size, 5, none⟩ = some (.slice ap S.plurals.length cp) := by rw [← hW1]; exact keep (bAlloc (Below.refl _ _) _) (cell_new rfl)
        have s6 : W1.cell? ⟨w.heap.size, 6, none⟩ = some (.slice as_ S.sets.length cs) := by rw [← hW1]; exact keep (bAlloc (Below.refl _ _) _) (cell_new rfl)
        have a0 : W1.cell? ⟨w.heap.size + 1, 0, none⟩ = some (.int .i64 a.num) := by rw [← hW1]; simp
        have a1 : W1.cell? ⟨w.heap.size + 1, 1, none⟩ = some (.int .i64 a.set) := by rw [← hW1]; simp
        have a2 : W1.cell? ⟨w.heap.size + 1, 2, none⟩ = some (.int .i64 a.gen) := by rw [← hW1]; simp
        have a3 : W1.cell? ⟨w.heap.size + 1, 3, none⟩ = some (.int .i64 a.kas) := by rw [← hW1]; simp
        have HB := Lib.hid hbn
        have HPn := Lib.hid (HPS.out.keep hbn)
        have hsl := cell_lt s0
        have hal := cell_lt a0
        (try (replace c0 := keep hbn c0))
        (try (have hxb := cell_lt c0))
        clear hW1 hbn
        go_wp2_with (first
          | (go_at_call 14; rw [HSV.out]; refine (small_any S _ _ _ _ HPn.out).mono ?_; rintro e w1 ⟨⟨b, rfl⟩, hb⟩; replace s0 := keep hb s0; replace s1 := keep hb s1; replace s2 := keep hb s2; replace s3 := keep hb s3; replace s4 := keep hb s4; replace s5 := keep hb s5; replace s6 := keep hb s6; replace a0 := keep hb a0; replace a1 := keep hb a1; replace a2 := keep hb a2; replace a3 := keep hb a3; replace hsl := cell_lt s0; replace hal := cell_lt a0; replace HPn := Lib.hid (HPn.out.keep hb); replace HB := Lib.hid (bThen HB.out hb); (try (replace c0 := keep hb c0; replace hxb := cell_lt c0)); clear hb; cases b)
          | (go_at_call 15; refine (known_any _).mono ?_; rintro e wk ⟨rfl, hb⟩; replace HB := Lib.hid (bThen HB.out hb); clear hb)
          | (go_at_call 36; refine (H36.out _ HPn.out).mono ?_; rintro e w2 ⟨hq, hb⟩; obtain rfl := UsesPost.bad hq HR.out; replace s0 := keep hb s0; replace s1 := keep hb s1; replace s2 := keep hb s2; replace s3 := keep hb s3; replace s4 := keep hb s4; replace s5 := keep hb s5; replace s6 := keep hb s6; replace a0 := keep hb a0; replace a1 := keep hb a1; replace a2 := keep hb a2; replace a3 := keep hb a3; replace hsl := cell_lt s0; replace hal := cell_lt a0; replace HPn := Lib.hid (HPn.out.keep hb); replace HB := Lib.hid (bThen HB.out hb); (try (replace c0 := keep hb c0; replace hxb := cell_lt c0)); clear hb hq)
          | (go_at_call 37; refine (H37.out _ HPn.out).mono ?_; rintro e w3 ⟨hq, hb⟩; obtain rfl := LongestPost.err hq HEN.out HNZ.out; replace s0 := keep hb s0; replace s1 := keep hb s1; replace s2 := keep hb s2; replace s3 := keep hb s3; replace s4 := keep hb s4; replace s5 := keep hb s5; replace s6 := keep hb s6; replace a0 := keep hb a0; replace a1 := keep hb a1; replace a2 := keep hb a2; replace a3 := keep hb a3; replace hsl := cell_lt s0; replace hal := cell_lt a0; replace HPn := Lib.hid (HPn.out.keep hb); replace HB := Lib.hid (bThen HB.out hb); (try (replace c0 := keep hb c0; replace hxb := cell_lt c0)); (try (replace HRD := Lib.hid (HRD.out.keep IntAt.stable hb))); clear hb hq)
          | (go_at_call 22; refine (H22.out _ HPn.out).mono ?_; rintro e w4 ⟨rfl, hb⟩; rw [HER.out]; replace s0 := keep hb s0; replace s1 := keep hb s1; replace s2 := keep hb s2; replace s3 := keep hb s3; replace s4 := keep hb s4; replace s5 := keep hb s5; replace s6 := keep hb s6; replace a0 := keep hb a0; replace a1 := keep hb a1; replace a2 := keep hb a2; replace a3 := keep hb a3; replace hsl := cell_lt s0; replace hal := cell_lt a0; replace HPn := Lib.hid (HPn.out.keep hb); replace HB := Lib.hid (bThen HB.out hb); (try (replace c0 := keep hb c0; replace hxb := cell_lt c0)); (try (replace HRD := Lib.hid (HRD.out.keep IntAt.stable hb))); clear hb))
        all_goals
          first
            | (go_ret; exact ⟨rfl, HB.out⟩)
            | (exfalso; omega)
      · have HEN := Lib.hid h4
        have HNZ : Hid ((4 : Int) ≠ 0) := Lib.hid (by decide)
        have HER : Hid (refErr S a true = 4) := Lib.hid (by rw [scanErr_ref, h4])
        clear h4
        go_enter Try.func10, Try.ntmps10
        go_wp2_with fail
        generalize hW1 : World.alloc (World.alloc w _) _ = W1
        have hbn : Below w.heap.size w W1 := by rw [← hW1]; exact bAlloc (bAlloc (Below.refl _ _) _) _
        have s0 : W1.cell? ⟨w.heap.size, 0, none⟩ = some (.int .i64 S.top) := by rw [← hW1]; exact keep (bAlloc (Below.refl _ _) _) (cell_new rfl)
        have s1 : W1.cell? ⟨w.heap.size, 1, none⟩ = some (.int .i64 S.genders) := by rw [← hW1]; exact keep (bAlloc (Below.refl _ _) _) (cell_new rfl)
        have s2 : W1.cell? ⟨w.heap.size, 2, none⟩ = some (.int .i64 S.cases) := by rw [← hW1]; exact keep (bAlloc (Below.refl _ _) _) (cell_new rfl)
        have s3 : W1.cell? ⟨w.heap.size, 3, none⟩ = some (.int .i64 S.classes) := by rw [← hW1]; exact keep (bAlloc (Below.refl _ _) _) (cell_new rfl)
        have s4 : W1.cell? ⟨w.heap.size, 4, none⟩ = some (.slice at_ S.terms.length ct) := by rw [← hW1]; exact keep (bAlloc (Below.refl _ _) _) (cell_new rfl)
        have s5 : W1.cell? ⟨w.heap.size, 5, none⟩ = some (.slice ap S.plurals.length cp) := by rw [← hW1]; exact keep (bAlloc (Below.refl _ _) _) (cell_new rfl)
        have s6 : W1.cell? ⟨w.heap.size, 6, none⟩ = some (.slice as_ S.sets.length cs) := by rw [← hW1]; exact keep (bAlloc (Below.refl _ _) _) (cell_new rfl)
        have a0 : W1.cell? ⟨w.heap.size + 1, 0, none⟩ = some (.int .i64 a.num) := by rw [← hW1]; simp
        have a1 : W1.cell? ⟨w.heap.size + 1, 1, none⟩ = some (.int .i64 a.set) := by rw [← hW1]; simp
        have a2 : W1.cell? ⟨w.heap.size + 1, 2, none⟩ = some (.int .i64 a.gen) := by rw [← hW1]; simp
        have a3 : W1.cell? ⟨w.heap.size + 1, 3, none⟩ = some (.int .i64 a.kas) := by rw [← hW1]; simp
        have HB := Lib.hid hbn
        have HPn := Lib.hid (HPS.out.keep hbn)
        have hsl := cell_lt s0
        have hal := cell_lt a0
        (try (replace c0 := keep hbn c0))
        (try (have hxb := cell_lt c0))
        clear hW1 hbn
        go_wp2_with (first
          | (go_at_call 14; rw [HSV.out]; refine (small_any S _ _ _ _ HPn.out).mono ?_; rintro e w1 ⟨⟨b, rfl⟩, hb⟩; replace s0 := keep hb s0; replace s1 := keep hb s1; replace s2 := keep hb s2; replace s3 := keep hb s3; replace s4 := keep hb s4; replace s5 := keep hb s5; replace s6 := keep hb s6; replace a0 := keep hb a0; replace a1 := keep hb a1; replace a2 := keep hb a2; replace a3 := keep hb a3; replace hsl := cell_lt s0; replace hal := cell_lt a0; replace HPn := Lib.hid (HPn.out.keep hb); replace HB := Lib.hid (bThen HB.out hb); (try (replace c0 := keep hb c0; replace hxb := cell_lt c0)); clear hb; cases b)
          | (go_at_call 15; refine (known_any _).mono ?_; rintro e wk ⟨rfl, hb⟩; replace HB := Lib.hid (bThen HB.out hb); clear hb)
          | (go_at_call 36; refine (H36.out _ HPn.out).mono ?_; rintro e w2 ⟨hq, hb⟩; obtain rfl := UsesPost.bad hq HR.out; replace s0 := keep hb s0; replace s1 := keep hb s1; replace s2 := keep hb s2; replace s3 := keep hb s3; replace s4 := keep hb s4; replace s5 := keep hb s5; replace s6 := keep hb s6; replace a0 := keep hb a0; replace a1 := keep hb a1; replace a2 := keep hb a2; replace a3 := keep hb a3; replace hsl := cell_lt s0; replace hal := cell_lt a0; replace HPn := Lib.hid (HPn.out.keep hb); replace HB := Lib.hid (bThen HB.out hb); (try (replace c0 := keep hb c0; replace hxb := cell_lt c0)); clear hb hq)
          | (go_at_call 37; refine (H37.out _ HPn.out).mono ?_; rintro e w3 ⟨hq, hb⟩; obtain rfl := LongestPost.err hq HEN.out HNZ.out; replace s0 := keep hb s0; replace s1 := keep hb s1; replace s2 := keep hb s2; replace s3 := keep hb s3; replace s4 := keep hb s4; replace s5 := keep hb s5; replace s6 := keep hb s6; replace a0 := keep hb a0; replace a1 := keep hb a1; replace a2 := keep hb a2; replace a3 := keep hb a3; replace hsl := cell_lt s0; replace hal := cell_lt a0; replace HPn := Lib.hid (HPn.out.keep hb); replace HB := Lib.hid (bThen HB.out hb); (try (replace c0 := keep hb c0; replace hxb := cell_lt c0)); (try (replace HRD := Lib.hid (HRD.out.keep IntAt.stable hb))); clear hb hq)
          | (go_at_call 22; refine (H22.out _ HPn.out).mono ?_; rintro e w4 ⟨rfl, hb⟩; rw [HER.out]; replace s0 := keep hb s0; replace s1 := keep hb s1; replace s2 := keep hb s2; replace s3 := keep hb s3; replace s4 := keep hb s4; replace s5 := keep hb s5; replace s6 := keep hb s6; replace a0 := keep hb a0; replace a1 := keep hb a1; replace a2 := keep hb a2; replace a3 := keep hb a3; replace hsl := cell_lt s0; replace hal := cell_lt a0; replace HPn := Lib.hid (HPn.out.keep hb); replace HB := Lib.hid (bThen HB.out hb); (try (replace c0 := keep hb c0; replace hxb := cell_lt c0)); (try (replace HRD := Lib.hid (HRD.out.keep IntAt.stable hb))); clear hb))
        all_goals
          first
            | (go_ret; exact ⟨rfl, HB.out⟩)
            | (exfalso; omega)
      · have hok : askOk S a = true := by
          cases h : askOk S a
          · unfold scanErr at h0; simp [h] at h0
          · rfl
        have hmx : a.num ≤ 20000 := by
          unfold scanErr at h0; simp [hok] at h0; omega
        have HE0 := Lib.hid h0
        have HMX := Lib.hid hmx
        have HER : Hid (refErr S a true = 0) := Lib.hid (by rw [scanErr_ref, h0])
        have HRT := Lib.hid (askRight_of hok)
        clear h0 hok
        exact absurd hmx (by omega)
    have hat : set.toNat < S.sets.length := by omega
    rcases HXS.out with hnil | ⟨xb, xo, rfl, hf⟩
    · simp [hnil] at hat
    obtain ⟨lv, c0, hlv⟩ := hf set.toNat hat
    have hse : S.sets[set.toNat] = setOf S set := by simp [setOf, List.getElem?_eq_getElem hat]
    rw [hse] at hlv
    simp only [Nat.mul_one] at c0
    obtain ⟨la, lc, rfl, hll, -⟩ := hlv
    unfold most at hll
    have hxb := cell_lt c0
    have g1 : exst set S.sets.length = true := by simp [exst]; omega
    have G1 := Lib.hid g1
    clear hf hse g1
    by_cases hr0 : rule < 0
    · have HR : Hid (hasRule S set rule = false) := Lib.hid (by have : ¬ 0 ≤ rule := (by omega); simp [hasRule, exst, this])
      rcases HW3.out with h2 | h4 | h0
      · have HEN := Lib.hid h2
        have HNZ : Hid ((2 : Int) ≠ 0) := Lib.hid (by decide)
        have HER : Hid (refErr S a true = 2) := Lib.hid (by rw [scanErr_ref, h2])
        clear h2
        go_enter Try.func10, Try.ntmps10
        go_wp2_with fail
        generalize hW1 : World.alloc (World.alloc w _) _ = W1
        have hbn : Below w.heap.size w W1 := by rw [← hW1]; exact bAlloc (bAlloc (Below.refl _ _) _) _
        have s0 : W1.cell? ⟨w.heap.size, 0, none⟩ = some (.int .i64 S.top) := by rw [← hW1]; exact keep (bAlloc (Below.refl _ _) _) (cell_new rfl)
        have s1 : W1.cell? ⟨w.heap.size, 1, none⟩ = some (.int .i64 S.genders) := by rw [← hW1]; exact keep (bAlloc (Below.refl _ _) _) (cell_new rfl)
        have s2 : W1.cell? ⟨w.heap.size, 2, none⟩ = some (.int .i64 S.cases) := by rw [← hW1]; exact keep (bAlloc (Below.refl _ _) _) (cell_new rfl)
        have s3 : W1.cell? ⟨w.heap.size, 3, none⟩ = some (.int .i64 S.classes) := by rw [← hW1]; exact keep (bAlloc (Below.refl _ _) _) (cell_new rfl)
        have s4 : W1.cell? ⟨w.heap.size, 4, none⟩ = some (.slice at_ S.terms.length ct) := by rw [← hW1]; exact keep (bAlloc (Below.refl _ _) _) (cell_new rfl)
        have s5 : W1.cell? ⟨w.heap.size, 5, none⟩ = some (.slice ap S.plurals.length cp) := by rw [← hW1]; exact keep (bAlloc (Below.refl _ _) _) (cell_new rfl)
        have s6 : W1.cell? ⟨w.heap.size, 6, none⟩ = some (.slice (some ⟨xb, xo, none⟩) S.sets.length cs) := by rw [← hW1]; exact keep (bAlloc (Below.refl _ _) _) (cell_new rfl)
        have a0 : W1.cell? ⟨w.heap.size + 1, 0, none⟩ = some (.int .i64 a.num) := by rw [← hW1]; simp
        have a1 : W1.cell? ⟨w.heap.size + 1, 1, none⟩ = some (.int .i64 a.set) := by rw [← hW1]; simp
        have a2 : W1.cell? ⟨w.heap.size + 1, 2, none⟩ = some (.int .i64 a.gen) := by rw [← hW1]; simp
        have a3 : W1.cell? ⟨w.heap.size + 1, 3, none⟩ = some (.int .i64 a.kas) := by rw [← hW1]; simp
        have HB := Lib.hid hbn
        have HPn := Lib.hid (HPS.out.keep hbn)
        have hsl := cell_lt s0
        have hal := cell_lt a0
        (try (replace c0 := keep hbn c0))
        (try (have hxb := cell_lt c0))
        clear hW1 hbn
        go_wp2_with (first
          | (go_at_call 14; rw [HSV.out]; refine (small_any S _ _ _ _ HPn.out).mono ?_; rintro e w1 ⟨⟨b, rfl⟩, hb⟩; replace s0 := keep hb s0; replace s1 := keep hb s1; replace s2 := keep hb s2; replace s3 := keep hb s3; replace s4 := keep hb s4; replace s5 := keep hb s5; replace s6 := keep hb s6; replace a0 := keep hb a0; replace a1 := keep hb a1; replace a2 := keep hb a2; replace a3 := keep hb a3; replace hsl := cell_lt s0; replace hal := cell_lt a0; replace HPn := Lib.hid (HPn.out.keep hb); replace HB := Lib.hid (bThen HB.out hb); (try (replace c0 := keep hb c0; replace hxb := cell_lt c0)); clear hb; cases b)
          | (go_at_call 15; refine (known_any _).mono ?_; rintro e wk ⟨rfl, hb⟩; replace HB := Lib.hid (bThen HB.out hb); clear hb)
          | (go_at_call 36; refine (H36.out _ HPn.out).mono ?_; rintro e w2 ⟨hq, hb⟩; obtain rfl := UsesPost.bad hq HR.out; replace s0 := keep hb s0; replace s1 := keep hb s1; replace s2 := keep hb s2; replace s3 := keep hb s3; replace s4 := keep hb s4; replace s5 := keep hb s5; replace s6 := keep hb s6; replace a0 := keep hb a0; replace a1 := keep hb a1; replace a2 := keep hb a2; replace a3 := keep hb a3; replace hsl := cell_lt s0; replace hal := cell_lt a0; replace HPn := Lib.hid (HPn.out.keep hb); replace HB := Lib.hid (bThen HB.out hb); (try (replace c0 := keep hb c0; replace hxb := cell_lt c0)); clear hb hq)
          | (go_at_call 37; refine (H37.out _ HPn.out).mono ?_; rintro e w3 ⟨hq, hb⟩; obtain rfl := LongestPost.err hq HEN.out HNZ.out; replace s0 := keep hb s0; replace s1 := keep hb s1; replace s2 := keep hb s2; replace s3 := keep hb s3; replace s4 := keep hb s4; replace s5 := keep hb s5; replace s6 := keep hb s6; replace a0 := keep hb a0; replace a1 := keep hb a1; replace a2 := keep hb a2; replace a3 := keep hb a3; replace hsl := cell_lt s0; replace hal := cell_lt a0; replace HPn := Lib.hid (HPn.out.keep hb); replace HB := Lib.hid (bThen HB.out hb); (try (replace c0 := keep hb c0; replace hxb := cell_lt c0)); (try (replace HRD := Lib.hid (HRD.out.keep IntAt.stable hb))); clear hb hq)
          | (go_at_call 22; refine (H22.out _ HPn.out).mono ?_; rintro e w4 ⟨rfl, hb⟩; rw [HER.out]; replace s0 := keep hb s0; replace s1 := keep hb s1; replace s2 := keep hb s2; replace s3 := keep hb s3; replace s4 := keep hb s4; replace s5 := keep hb s5; replace s6 := keep hb s6; replace a0 := keep hb a0; replace a1 := keep hb a1; replace a2 := keep hb a2; replace a3 := keep hb a3; replace hsl := cell_lt s0; replace hal := cell_lt a0; replace HPn := Lib.hid (HPn.out.keep hb); replace HB := Lib.hid (bThen HB.out hb); (try (replace c0 := keep hb c0; replace hxb := cell_lt c0)); (try (replace HRD := Lib.hid (HRD.out.keep IntAt.stable hb))); clear hb))
        all_goals
          first
            | (go_ret; exact ⟨rfl, HB.out⟩)
            | (exfalso; omega)
      · have HEN := Lib.hid h4
        have HNZ : Hid ((4 : Int) ≠ 0) := Lib.hid (by decide)
        have HER : Hid (refErr S a true = 4) := Lib.hid (by rw [scanErr_ref, h4])
        clear h4
        go_enter Try.func10, Try.ntmps10
        go_wp2_with fail
        generalize hW1 : World.alloc (World.alloc w _) _ = W1
        have hbn : Below w.heap.size w W1 := by rw [← hW1]; exact bAlloc (bAlloc (Below.refl _ _) _) _
        have s0 : W1.cell? ⟨w.heap.size, 0, none⟩ = some (.int .i64 S.top) := by rw [← hW1]; exact keep (bAlloc (Below.refl _ _) _) (cell_new rfl)
        have s1 : W1.cell? ⟨w.heap.size, 1, none⟩ = some (.int .i64 S.genders) := by rw [← hW1]; exact keep (bAlloc (Below.refl _ _) _) (cell_new rfl)
        have s2 : W1.cell? ⟨w.heap.size, 2, none⟩ = some (.int .i64 S.cases) := by rw [← hW1]; exact keep (bAlloc (Below.refl _ _) _) (cell_new rfl)
        have s3 : W1.cell? ⟨w.heap.size, 3, none⟩ = some (.int .i64 S.classes) := by rw [← hW1]; exact keep (bAlloc (Below.refl _ _) _) (cell_new rfl)
        have s4 : W1.cell? ⟨w.heap.size, 4, none⟩ = some (.slice at_ S.terms.length ct) := by rw [← hW1]; exact keep (bAlloc (Below.refl _ _) _) (cell_new rfl)
        have s5 : W1.cell? ⟨w.heap.size, 5, none⟩ = some (.slice ap S.plurals.length cp) := by rw [← hW1]; exact keep (bAlloc (Below.refl _ _) _) (cell_new rfl)
        have s6 : W1.cell? ⟨w.heap.size, 6, none⟩ = some (.slice (some ⟨xb, xo, none⟩) S.sets.length cs) := by rw [← hW1]; exact keep (bAlloc (Below.refl _ _) _) (cell_new rfl)
        have a0 : W1.cell? ⟨w.heap.size + 1, 0, none⟩ = some (.int .i64 a.num) := by rw [← hW1]; simp
        have a1 : W1.cell? ⟨w.heap.size + 1, 1, none⟩ = some (.int .i64 a.set) := by rw [← hW1]; simp
        have a2 : W1.cell? ⟨w.heap.size + 1, 2, none⟩ = some (.int .i64 a.gen) := by rw [← hW1]; simp
        have a3 : W1.cell? ⟨w.heap.size + 1, 3, none⟩ = some (.int .i64 a.kas) := by rw [← hW1]; simp
        have HB := Lib.hid hbn
        have HPn := Lib.hid (HPS.out.keep hbn)
        have hsl := cell_lt s0
        have hal := cell_lt a0
        (try (replace c0 := keep hbn c0))
        (try (have hxb := cell_lt c0))
        clear hW1 hbn
        go_wp2_with (first
          | (go_at_call 14; rw [HSV.out]; refine (small_any S _ _ _ _ HPn.out).mono ?_; rintro e w1 ⟨⟨b, rfl⟩, hb⟩; replace s0 := keep hb s0; replace s1 := keep hb s1; replace s2 := keep hb s2; replace s3 := keep hb s3; replace s4 := keep hb s4; replace s5 := keep hb s5; replace s6 := keep hb s6; replace a0 := keep hb a0; replace a1 := keep hb a1; replace a2 := keep hb a2; replace a3 := keep hb a3; replace hsl := cell_lt s0; replace hal := cell_lt a0; replace HPn := Lib.hid (HPn.out.keep hb); replace HB := Lib.hid (bThen HB.out hb); (try (replace c0 := keep hb c0; replace hxb := cell_lt c0)); clear hb; cases b)
          | (go_at_call 15; refine (known_any _).mono ?_; rintro e wk ⟨rfl, hb⟩; replace HB := Lib.hid (bThen HB.out hb); clear hb)
          | (go_at_call 36; refine (H36.out _ HPn.out).mono ?_; rintro e w2 ⟨hq, hb⟩; obtain rfl := UsesPost.bad hq HR.out; replace s0 := keep hb s0; replace s1 := keep hb s1; replace s2 := keep hb s2; replace s3 := keep hb s3; replace s4 := keep hb s4; replace s5 := keep hb s5; replace s6 := keep hb s6; replace a0 := keep hb a0; replace a1 := keep hb a1; replace a2 := keep hb a2; replace a3 := keep hb a3; replace hsl := cell_lt s0; replace hal := cell_lt a0; replace HPn := Lib.hid (HPn.out.keep hb); replace HB := Lib.hid (bThen HB.out hb); (try (replace c0 := keep hb c0; replace hxb := cell_lt c0)); clear hb hq)
          | (go_at_call 37; refine (H37.out _ HPn.out).mono ?_; rintro e w3 ⟨hq, hb⟩; obtain rfl := LongestPost.err hq HEN.out HNZ.out; replace s0 := keep hb s0; replace s1 := keep hb s1; replace s2 := keep hb s2; replace s3 := keep hb s3; replace s4 := keep hb s4; replace s5 := keep hb s5; replace s6 := keep hb s6; replace a0 := keep hb a0; replace a1 := keep hb a1; replace a2 := keep hb a2; replace a3 := keep hb a3; replace hsl := cell_lt s0; replace hal := cell_lt a0; replace HPn := Lib.hid (HPn.out.keep hb); replace HB := Lib.hid (bThen HB.out hb); (try (replace c0 := keep hb c0; replace hxb := cell_lt c0)); (try (replace HRD := Lib.hid (HRD.out.keep IntAt.stable hb))); clear hb hq)
          | (go_at_call 22; refine (H22.out _ HPn.out).mono ?_; rintro e w4 ⟨rfl, hb⟩; rw [HER.out]; replace s0 := keep hb s0; replace s1 := keep hb s1; replace s2 := keep hb s2; replace s3 := keep hb s3; replace s4 := keep hb s4; replace s5 := keep hb s5; replace s6 := keep hb s6; replace a0 := keep hb a0; replace a1 := keep hb a1; replace a2 := keep hb a2; replace a3 := keep hb a3; replace hsl := cell_lt s0; replace hal := cell_lt a0; replace HPn := Lib.hid (HPn.out.keep hb); replace HB := Lib.hid (bThen HB.out hb); (try (replace c0 := keep hb c0; replace hxb := cell_lt c0)); (try (replace HRD := Lib.hid (HRD.out.keep IntAt.stable hb))); clear hb))
        all_goals
          first
            | (go_ret; exact ⟨rfl, HB.out⟩)
            | (exfalso; omega)
      · have hok : askOk S a = true := by
          cases h : askOk S a
          · unfold scanErr at h0; simp [h] at h0
          · rfl
        have hmx : a.num ≤ 20000 := by
          unfold scanErr at h0; simp [hok] at h0; omega
        have HE0 := Lib.hid h0
        have HMX := Lib.hid hmx
        have HER : Hid (refErr S a true = 0) := Lib.hid (by rw [scanErr_ref, h0])
        have HRT := Lib.hid (askRight_of hok)
        clear h0 hok
        exact absurd hmx (by omega)
    by_cases hr1 : ((setOf S set).length : Int) ≤ rule
    · have HR : Hid (hasRule S set rule = false) := Lib.hid (by have : ¬ rule < ((setOf S set).length : Int) := (by omega); simp [hasRule, exst, this])
      rcases HW3.out with h2 | h4 | h0
      · have HEN := Lib.hid h2
        have HNZ : Hid ((2 : Int) ≠ 0) := Lib.hid (by decide)
        have HER : Hid (refErr S a true = 2) := Lib.hid (by rw [scanErr_ref, h2])
        clear h2
        go_enter Try.func10, Try.ntmps10
        go_wp2_with fail
        generalize hW1 : World.alloc (World.alloc w _) _ = W1
        have hbn : Below w.heap.size w W1 := by rw [← hW1]; exact bAlloc (bAlloc (Below.refl _ _) _) _
        have s0 : W1.cell? ⟨w.heap.size, 0, none⟩ = some (.int .i64 S.top) := by rw [← hW1]; exact keep (bAlloc (Below.refl _ _) _) (cell_new rfl)
        have s1 : W1.cell? ⟨w.heap.size, 1, none⟩ = some (.int .i64 S.genders) := by rw [← hW1]; exact keep (bAlloc (Below.refl _ _) _) (cell_new rfl)
        have s2 : W1.cell? ⟨w.heap.size, 2, none⟩ = some (.int .i64 S.cases) := by rw [← hW1]; exact keep (bAlloc (Below.refl _ _) _) (cell_new rfl)
        have s3 : W1.cell? ⟨w.heap.size, 3, none⟩ = some (.int .i64 S.classes) := by rw [← hW1]; exact keep (bAlloc (Below.refl _ _) _) (cell_new rfl)
        have s4 : W1.cell? ⟨w.heap.size, 4, none⟩ = some (.slice at_ S.terms.length ct) := by rw [← hW1]; exact keep (bAlloc (Below.refl _ _) _) (cell_new rfl)
        have s5 : W1.cell? ⟨w.heap.size, 5, none⟩ = some (.slice ap S.plurals.length cp) := by rw [← hW1]; exact keep (bAlloc (Below.refl _ _) _) (cell_new rfl)
        have s6 : W1.cell? ⟨w.heap.size, 6, none⟩ = some (.slice (some ⟨xb, xo, none⟩) S.sets.length cs) := by rw [← hW1]; exact keep (bAlloc (Below.refl _ _) _) (cell_new rfl)
        have a0 : W1.cell? ⟨w.heap.size + 1, 0, none⟩ = some (.int .i64 a.num) := by rw [← hW1]; simp
        have a1 : W1.cell? ⟨w.heap.size + 1, 1, none⟩ = some (.int .i64 a.set) := by rw [← hW1]; simp
        have a2 : W1.cell? ⟨w.heap.size + 1, 2, none⟩ = some (.int .i64 a.gen) := by rw [← hW1]; simp
        have a3 : W1.cell? ⟨w.heap.size + 1, 3, none⟩ = some (.int .i64 a.kas) := by rw [← hW1]; simp
        have HB := Lib.hid hbn
        have HPn := Lib.hid (HPS.out.keep hbn)
        have hsl := cell_lt s0
        have hal := cell_lt a0
        (try (replace c0 := keep hbn c0))
        (try (have hxb := cell_lt c0))
        clear hW1 hbn
        go_wp2_with (first
          | (go_at_call 14; rw [HSV.out]; refine (small_any S _ _ _ _ HPn.out).mono ?_; rintro e w1 ⟨⟨b, rfl⟩, hb⟩; replace s0 := keep hb s0; replace s1 := keep hb s1; replace s2 := keep hb s2; replace s3 := keep hb s3; replace s4 := keep hb s4; replace s5 := keep hb s5; replace s6 := keep hb s6; replace a0 := keep hb a0; replace a1 := keep hb a1; replace a2 := keep hb a2; replace a3 := keep hb a3; replace hsl := cell_lt s0; replace hal := cell_lt a0; replace HPn := Lib.hid (HPn.out.keep hb); replace HB := Lib.hid (bThen HB.out hb); (try (replace c0 := keep hb c0; replace hxb := cell_lt c0)); clear hb; cases b)
          | (go_at_call 15; refine (known_any _).mono ?_; rintro e wk ⟨rfl, hb⟩; replace HB := Lib.hid (bThen HB.out hb); clear hb)
          | (go_at_call 36; refine (H36.out _ HPn.out).mono ?_; rintro e w2 ⟨hq, hb⟩; obtain rfl := UsesPost.bad hq HR.out; replace s0 := keep hb s0; replace s1 := keep hb s1; replace s2 := keep hb s2; replace s3 := keep hb s3; replace s4 := keep hb s4; replace s5 := keep hb s5; replace s6 := keep hb s6; replace a0 := keep hb a0; replace a1 := keep hb a1; replace a2 := keep hb a2; replace a3 := keep hb a3; replace hsl := cell_lt s0; replace hal := cell_lt a0; replace HPn := Lib.hid (HPn.out.keep hb); replace HB := Lib.hid (bThen HB.out hb); (try (replace c0 := keep hb c0; replace hxb := cell_lt c0)); clear hb hq)
          | (go_at_call 37; refine (H37.out _ HPn.out).mono ?_; rintro e w3 ⟨hq, hb⟩; obtain rfl := LongestPost.err hq HEN.out HNZ.out; replace s0 := keep hb s0; replace s1 := keep hb s1; replace s2 := keep hb s2; replace s3 := keep hb s3; replace s4 := keep hb s4; replace s5 := keep hb s5; replace s6 := keep hb s6; replace a0 := keep hb a0; replace a1 := keep hb a1; replace a2 := keep hb a2; replace a3 := keep hb a3; replace hsl := cell_lt s0; replace hal := cell_lt a0; replace HPn := Lib.hid (HPn.out.keep hb); replace HB := Lib.hid (bThen HB.out hb); (try (replace c0 := keep hb c0; replace hxb := cell_lt c0)); (try (replace HRD := Lib.hid (HRD.out.keep IntAt.stable hb))); clear hb hq)
          | (go_at_call 22; refine (H22.out _ HPn.out).mono ?_; rintro e w4 ⟨rfl, hb⟩; rw [HER.out]; replace s0 := keep hb s0; replace s1 := keep hb s1; replace s2 := keep hb s2; replace s3 := keep hb s3; replace s4 := keep hb s4; replace s5 := keep hb s5; replace s6 := keep hb s6; replace a0 := keep hb a0; replace a1 := keep hb a1; replace a2 := keep hb a2; replace a3 := keep hb a3; replace hsl := cell_lt s0; replace hal := cell_lt a0; replace HPn := Lib.hid (HPn.out.keep hb); replace HB := Lib.hid (bThen HB.out hb); (try (replace c0 := keep hb c0; replace hxb := cell_lt c0)); (try (replace HRD := Lib.hid (HRD.out.keep IntAt.stable hb))); clear hb))
        all_goals
          first
            | (go_ret; exact ⟨rfl, HB.out⟩)
            | (exfalso; omega)
      · have HEN := Lib.hid h4
        have HNZ : Hid ((4 : Int) ≠ 0) := Lib.hid (by decide)
        have HER : Hid (refErr S a true = 4) := Lib.hid (by rw [scanErr_ref, h4])
        clear h4
        go_enter Try.func10, Try.ntmps10
        go_wp2_with fail
        generalize hW1 : World.alloc (World.alloc w _) _ = W1
        have hbn : Below w.heap.size w W1 := by rw [← hW1]; exact bAlloc (bAlloc (Below.refl _ _) _) _
        have s0 : W1.cell? ⟨w.heap.size, 0, none⟩ = some (.int .i64 S.top) := by rw [← hW1]; exact keep (bAlloc (Below.refl _ _) _) (cell_new rfl)
        have s1 : W1.cell? ⟨w.heap.size, 1, none⟩ = some (.int .i64 S.genders) := by rw [← hW1]; exact keep (bAlloc (Below.refl _ _) _) (cell_new rfl)
        have s2 : W1.cell? ⟨w.heap.size, 2, none⟩ = some (.int .i64 S.cases) := by rw [← hW1]; exact keep (bAlloc (Below.refl _ _) _) (cell_new rfl)
        have s3 : W1.cell? ⟨w.heap.size, 3, none⟩ = some (.int .i64 S.classes) := by rw [← hW1]; exact keep (bAlloc (Below.refl _ _) _) (cell_new rfl)
        have s4 : W1.cell? ⟨w.heap.size, 4, none⟩ = some (.slice at_ S.terms.length ct) := by rw [← hW1]; exact keep (bAlloc (Below.refl _ _) _) (cell_new rfl)
        have s5 : W1.cell? ⟨w.heap.size, 5, none⟩ = some (.slice ap S.plurals.length cp) := by rw [← hW1]; exact keep (bAlloc (Below.refl _ _) _) (cell_new rfl)
        have s6 : W1.cell? ⟨w.heap.size, 6, none⟩ = some (.slice (some ⟨xb, xo, none⟩) S.sets.length cs) := by rw [← hW1]; exact keep (bAlloc (Below.refl _ _) _) (cell_new rfl)
        have a0 : W1.cell? ⟨w.heap.size + 1, 0, none⟩ = some (.int .i64 a.num) := by rw [← hW1]; simp
        have a1 : W1.cell? ⟨w.heap.size + 1, 1, none⟩ = some (.int .i64 a.set) := by rw [← hW1]; simp
        have a2 : W1.cell? ⟨w.heap.size + 1, 2, none⟩ = some (.int .i64 a.gen) := by rw [← hW1]; simp
        have a3 : W1.cell? ⟨w.heap.size + 1, 3, none⟩ = some (.int .i64 a.kas) := by rw [← hW1]; simp
        have HB := Lib.hid hbn
        have HPn := Lib.hid (HPS.out.keep hbn)
        have hsl := cell_lt s0
        have hal := cell_lt a0
        (try (replace c0 := keep hbn c0))
        (try (have hxb := cell_lt c0))
        clear hW1 hbn
        go_wp2_with (first
          | (go_at_call 14; rw [HSV.out]; refine (small_any S _ _ _ _ HPn.out).mono ?_; rintro e w1 ⟨⟨b, rfl⟩, hb⟩; replace s0 := keep hb s0; replace s1 := keep hb s1; replace s2 := keep hb s2; replace s3 := keep hb s3; replace s4 := keep hb s4; replace s5 := keep hb s5; replace s6 := keep hb s6; replace a0 := keep hb a0; replace a1 := keep hb a1; replace a2 := keep hb a2; replace a3 := keep hb a3; replace hsl := cell_lt s0; replace hal := cell_lt a0; replace HPn := Lib.hid (HPn.out.keep hb); replace HB := Lib.hid (bThen HB.out hb); (try (replace c0 := keep hb c0; replace hxb := cell_lt c0)); clear hb; cases b)
          | (go_at_call 15; refine (known_any _).mono ?_; rintro e wk ⟨rfl, hb⟩; replace HB := Lib.hid (bThen HB.out hb); clear hb)
          | (go_at_call 36; refine (H36.out _ HPn.out).mono ?_; rintro e w2 ⟨hq, hb⟩; obtain rfl := UsesPost.bad hq HR.out; replace s0 := keep hb s0; replace s1 := keep hb s1; replace s2 := keep hb s2; replace s3 := keep hb s3; replace s4 := keep hb s4; replace s5 := keep hb s5; replace s6 := keep hb s6; replace a0 := keep hb a0; replace a1 := keep hb a1; replace a2 := keep hb a2; replace a3 := keep hb a3; replace hsl := cell_lt s0; replace hal := cell_lt a0; replace HPn := Lib.hid (HPn.out.keep hb); replace HB := Lib.hid (bThen HB.out hb); (try (replace c0 := keep hb c0; replace hxb := cell_lt c0)); clear hb hq)
          | (go_at_call 37; refine (H37.out _ HPn.out).mono ?_; rintro e w3 ⟨hq, hb⟩; obtain rfl := LongestPost.err hq HEN.out HNZ.out; replace s0 := keep hb s0; replace s1 := keep hb s1; replace s2 := keep hb s2; replace s3 := keep hb s3; replace s4 := keep hb s4; replace s5 := keep hb s5; replace s6 := keep hb s6; replace a0 := keep hb a0; replace a1 := keep hb a1; replace a2 := keep hb a2; replace a3 := keep hb a3; replace hsl := cell_lt s0; replace hal := cell_lt a0; replace HPn := Lib.hid (HPn.out.keep hb); replace HB := Lib.hid (bThen HB.out hb); (try (replace c0 := keep hb c0; replace hxb := cell_lt c0)); (try (replace HRD := Lib.hid (HRD.out.keep IntAt.stable hb))); clear hb hq)
          | (go_at_call 22; refine (H22.out _ HPn.out).mono ?_; rintro e w4 ⟨rfl, hb⟩; rw [HER.out]; replace s0 := keep hb s0; replace s1 := keep hb s1; replace s2 := keep hb s2; replace s3 := keep hb s3; replace s4 := keep hb s4; replace s5 := keep hb s5; replace s6 := keep hb s6; replace a0 := keep hb a0; replace a1 := keep hb a1; replace a2 := keep hb a2; replace a3 := keep hb a3; replace hsl := cell_lt s0; replace hal := cell_lt a0; replace HPn := Lib.hid (HPn.out.keep hb); replace HB := Lib.hid (bThen HB.out hb); (try (replace c0 := keep hb c0; replace hxb := cell_lt c0)); (try (replace HRD := Lib.hid (HRD.out.keep IntAt.stable hb))); clear hb))
        all_goals
          first
            | (go_ret; exact ⟨rfl, HB.out⟩)
            | (exfalso; omega)
      · have hok : askOk S a = true := by
          cases h : askOk S a
          · unfold scanErr at h0; simp [h] at h0
          · rfl
        have hmx : a.num ≤ 20000 := by
          unfold scanErr at h0; simp [hok] at h0; omega
        have HE0 := Lib.hid h0
        have HMX := Lib.hid hmx
        have HER : Hid (refErr S a true = 0) := Lib.hid (by rw [scanErr_ref, h0])
        have HRT := Lib.hid (askRight_of hok)
        clear h0 hok
        exact absurd hmx (by omega)
    have HR : Hid (hasRule S set rule = true) := Lib.hid (by have := G1.out; have h2 : exst rule (setOf S set).length = true := (by simp [exst]; omega); simp [hasRule, this, h2])
    rcases HW3.out with h2 | h4 | h0
    · have HEN := Lib.hid h2
      have HNZ : Hid ((2 : Int) ≠ 0) := Lib.hid (by decide)
      have HER : Hid (refErr S a true = 2) := Lib.hid (by rw [scanErr_ref, h2])
      clear h2
      go_enter Try.func10, Try.ntmps10
      go_wp2_with fail
      generalize hW1 : World.alloc (World.alloc w _) _ = W1
      have hbn : Below w.heap.size w W1 := by rw [← hW1]; exact bAlloc (bAlloc (Below.refl _ _) _) _
      have s0 : W1.cell? ⟨w.heap.size, 0, none⟩ = some (.int .i64 S.top) := by rw [← hW1]; exact keep (bAlloc (Below.refl _ _) _) (cell_new rfl)
      have s1 : W1.cell? ⟨w.heap.size, 1, none⟩ = some (.int .i64 S.genders) := by rw [← hW1]; exact keep (bAlloc (Below.refl _ _) _) (cell_new rfl)
      have s2 : W1.cell? ⟨w.heap.size, 2, none⟩ = some (.int .i64 S.cases) := by rw [← hW1]; exact keep (bAlloc (Below.refl _ _) _) (cell_new rfl)
      have s3 : W1.cell? ⟨w.heap.size, 3, none⟩ = some (.int .i64 S.classes) := by rw [← hW1]; exact keep (bAlloc (Below.refl _ _) _) (cell_new rfl)
      have s4 : W1.cell? ⟨w.heap.size, 4, none⟩ = some (.slice at_ S.terms.length ct) := by rw [← hW1]; exact keep (bAlloc (Below.refl _ _) _) (cell_new rfl)
      have s5 : W1.cell? ⟨w.heap.size, 5, none⟩ = some (.slice ap S.plurals.length cp) := by rw [← hW1]; exact keep (bAlloc (Below.refl _ _) _) (cell_new rfl)
      have s6 : W1.cell? ⟨w.heap.size, 6, none⟩ = some (.slice (some ⟨xb, xo, none⟩) S.sets.length cs) := by rw [← hW1]; exact keep (bAlloc (Below.refl _ _) _) (cell_new rfl)
      have a0 : W1.cell? ⟨w.heap.size + 1, 0, none⟩ = some (.int .i64 a.num) := by rw [← hW1]; simp
      have a1 : W1.cell? ⟨w.heap.size + 1, 1, none⟩ = some (.int .i64 a.set) := by rw [← hW1]; simp
      have a2 : W1.cell? ⟨w.heap.size + 1, 2, none⟩ = some (.int .i64 a.gen) := by rw [← hW1]; simp
      have a3 : W1.cell? ⟨w.heap.size + 1, 3, none⟩ = some (.int .i64 a.kas) := by rw [← hW1]; simp
      have HB := Lib.hid hbn
      have HPn := Lib.hid (HPS.out.keep hbn)
      have hsl := cell_lt s0
      have hal := cell_lt a0
      (try (replace c0 := keep hbn c0))
      (try (have hxb := cell_lt c0))
      clear hW1 hbn
      go_wp2_with (first
        | (go_at_call 14; rw [HSV.out]; refine (small_any S _ _ _ _ HPn.out).mono ?_; rintro e w1 ⟨⟨b, rfl⟩, hb⟩; replace s0 := keep hb s0; replace s1 := keep hb s1; replace s2 := keep hb s2; replace s3 := keep hb s3; replace s4 := keep hb s4; replace s5 := keep hb s5; replace s6 := keep hb s6; replace a0 := keep hb a0; replace a1 := keep hb a1; replace a2 := keep hb a2; replace a3 := keep hb a3; replace hsl := cell_lt s0; replace hal := cell_lt a0; replace HPn := Lib.hid (HPn.out.keep hb); replace HB := Lib.hid (bThen HB.out hb); (try (replace c0 := keep hb c0; replace hxb := cell_lt c0)); clear hb; cases b)
        | (go_at_call 15; refine (known_any _).mono ?_; rintro e wk ⟨rfl, hb⟩; replace HB := Lib.hid (bThen HB.out hb); clear hb)
        | (go_at_call 36; refine (H36.out _ HPn.out).mono ?_; rintro e w2 ⟨hq, hb⟩; obtain rfl := UsesPost.err hq HR.out HEN.out HNZ.out; replace s0 := keep hb s0; replace s1 := keep hb s1; replace s2 := keep hb s2; replace s3 := keep hb s3; replace s4 := keep hb s4; replace s5 := keep hb s5; replace s6 := keep hb s6; replace a0 := keep hb a0; replace a1 := keep hb a1; replace a2 := keep hb a2; replace a3 := keep hb a3; replace hsl := cell_lt s0; replace hal := cell_lt a0; replace HPn := Lib.hid (HPn.out.keep hb); replace HB := Lib.hid (bThen HB.out hb); (try (replace c0 := keep hb c0; replace hxb := cell_lt c0)); clear hb hq)
        | (go_at_call 37; refine (H37.out _ HPn.out).mono ?_; rintro e w3 ⟨hq, hb⟩; obtain rfl := LongestPost.err hq HEN.out HNZ.out; replace s0 := keep hb s0; replace s1 := keep hb s1; replace s2 := keep hb s2; replace s3 := keep hb s3; replace s4 := keep hb s4; replace s5 := keep hb s5; replace s6 := keep hb s6; replace a0 := keep hb a0; replace a1 := keep hb a1; replace a2 := keep hb a2; replace a3 := keep hb a3; replace hsl := cell_lt s0; replace hal := cell_lt a0; replace HPn := Lib.hid (HPn.out.keep hb); replace HB := Lib.hid (bThen HB.out hb); (try (replace c0 := keep hb c0; replace hxb := cell_lt c0)); (try (replace HRD := Lib.hid (HRD.out.keep IntAt.stable hb))); clear hb hq)
        | (go_at_call 22; refine (H22.out _ HPn.out).mono ?_; rintro e w4 ⟨rfl, hb⟩; rw [HER.out]; replace s0 := keep hb s0; replace s1 := keep hb s1; replace s2 := keep hb s2; replace s3 := keep hb s3; replace s4 := keep hb s4; replace s5 := keep hb s5; replace s6 := keep hb s6; replace a0 := keep hb a0; replace a1 := keep hb a1; replace a2 := keep hb a2; replace a3 := keep hb a3; replace hsl := cell_lt s0; replace hal := cell_lt a0; replace HPn := Lib.hid (HPn.out.keep hb); replace HB := Lib.hid (bThen HB.out hb); (try (replace c0 := keep hb c0; replace hxb := cell_lt c0)); (try (replace HRD := Lib.hid (HRD.out.keep IntAt.stable hb))); clear hb))
      all_goals
        first
          | (go_ret; exact ⟨rfl, HB.out⟩)
          | (exfalso; omega)
    · have HEN := Lib.hid h4
      have HNZ : Hid ((4 : Int) ≠ 0) := Lib.hid (by decide)
      have HER : Hid (refErr S a true = 4) := Lib.hid (by rw [scanErr_ref, h4])
      clear h4
      go_enter Try.func10, Try.ntmps10
      go_wp2_with fail
      generalize hW1 : World.alloc (World.alloc w _) _ = W1
      have hbn : Below w.heap.size w W1 := by rw [← hW1]; exact bAlloc (bAlloc (Below.refl _ _) _) _
      have s0 : W1.cell? ⟨w.heap.size, 0, none⟩ = some (.int .i64 S.top) := by rw [← hW1]; exact keep (bAlloc (Below.refl _ _) _) (cell_new rfl)
      have s1 : W1.cell? ⟨w.heap.size, 1, none⟩ = some (.int .i64 S.genders) := by rw [← hW1]; exact keep (bAlloc (Below.refl _ _) _) (cell_new rfl)
      have s2 : W1.cell? ⟨w.heap.size, 2, none⟩ = some (.int .i64 S.cases) := by rw [← hW1]; exact keep (bAlloc (Below.refl _ _) _) (cell_new rfl)
      have s3 : W1.cell? ⟨w.heap.size, 3, none⟩ = some (.int .i64 S.classes) := by rw [← hW1]; exact keep (bAlloc (Below.refl _ _) _) (cell_new rfl)
      have s4 : W1.cell? ⟨w.heap.size, 4, none⟩ = some (.slice at_ S.terms.length ct) := by rw [← hW1]; exact keep (bAlloc (Below.refl _ _) _) (cell_new rfl)
      have s5 : W1.cell? ⟨w.heap.size, 5, none⟩ = some (.slice ap S.plurals.length cp) := by rw [← hW1]; exact keep (bAlloc (Below.refl _ _) _) (cell_new rfl)
      have s6 : W1.cell? ⟨w.heap.size, 6, none⟩ = some (.slice (some ⟨xb, xo, none⟩) S.sets.length cs) := by rw [← hW1]; exact keep (bAlloc (Below.refl _ _) _) (cell_new rfl)
      have a0 : W1.cell? ⟨w.heap.size + 1, 0, none⟩ = some (.int .i64 a.num) := by rw [← hW1]; simp
      have a1 : W1.cell? ⟨w.heap.size + 1, 1, none⟩ = some (.int .i64 a.set) := by rw [← hW1]; simp
      have a2 : W1.cell? ⟨w.heap.size + 1, 2, none⟩ = some (.int .i64 a.gen) := by rw [← hW1]; simp
      have a3 : W1.cell? ⟨w.heap.size + 1, 3, none⟩ = some (.int .i64 a.kas) := by rw [← hW1]; simp
      have HB := Lib.hid hbn
      have HPn := Lib.hid (HPS.out.keep hbn)
      have hsl := cell_lt s0
      have hal := cell_lt a0
      (try (replace c0 := keep hbn c0))
      (try (have hxb := cell_lt c0))
      clear hW1 hbn
      go_wp2_with (first
        | (go_at_call 14; rw [HSV.out]; refine (small_any S _ _ _ _ HPn.out).mono ?_; rintro e w1 ⟨⟨b, rfl⟩, hb⟩; replace s0 := keep hb s0; replace s1 := keep hb s1; replace s2 := keep hb s2; replace s3 := keep hb s3; replace s4 := keep hb s4; replace s5 := keep hb s5; replace s6 := keep hb s6; replace a0 := keep hb a0; replace a1 := keep hb a1; replace a2 := keep hb a2; replace a3 := keep hb a3; replace hsl := cell_lt s0; replace hal := cell_lt a0; replace HPn := Lib.hid (HPn.out.keep hb); replace HB := Lib.hid (bThen HB.out hb); (try (replace c0 := keep hb c0; replace hxb := cell_lt c0)); clear hb; cases b)
        | (go_at_call 15; refine (known_any _).mono ?_; rintro e wk ⟨rfl, hb⟩; replace HB := Lib.hid (bThen HB.out hb); clear hb)
        | (go_at_call 36; refine (H36.out _ HPn.out).mono ?_; rintro e w2 ⟨hq, hb⟩; obtain rfl := UsesPost.err hq HR.out HEN.out HNZ.out; replace s0 := keep hb s0; replace s1 := keep hb s1; replace s2 := keep hb s2; replace s3 := keep hb s3; replace s4 := keep hb s4; replace s5 := keep hb s5; replace s6 := keep hb s6; replace a0 := keep hb a0; replace a1 := keep hb a1; replace a2 := keep hb a2; replace a3 := keep hb a3; replace hsl := cell_lt s0; replace hal := cell_lt a0; replace HPn := Lib.hid (HPn.out.keep hb); replace HB := Lib.hid (bThen HB.out hb); (try (replace c0 := keep hb c0; replace hxb := cell_lt c0)); clear hb hq)
        | (go_at_call 37; refine (H37.out _ HPn.out).mono ?_; rintro e w3 ⟨hq, hb⟩; obtain rfl := LongestPost.err hq HEN.out HNZ.out; replace s0 := keep hb s0; replace s1 := keep hb s1; replace s2 := keep hb s2; replace s3 := keep hb s3; replace s4 := keep hb s4; replace s5 := keep hb s5; replace s6 := keep hb s6; replace a0 := keep hb a0; replace a1 := keep hb a1; replace a2 := keep hb a2; replace a3 := keep hb a3; replace hsl := cell_lt s0; replace hal := cell_lt a0; replace HPn := Lib.hid (HPn.out.keep hb); replace HB := Lib.hid (bThen HB.out hb); (try (replace c0 := keep hb c0; replace hxb := cell_lt c0)); (try (replace HRD := Lib.hid (HRD.out.keep IntAt.stable hb))); clear hb hq)
        | (go_at_call 22; refine (H22.out _ HPn.out).mono ?_; rintro e w4 ⟨rfl, hb⟩; rw [HER.out]; replace s0 := keep hb s0; replace s1 := keep hb s1; replace s2 := keep hb s2; replace s3 := keep hb s3; replace s4 := keep hb s4; replace s5 := keep hb s5; replace s6 := keep hb s6; replace a0 := keep hb a0; replace a1 := keep hb a1; replace a2 := keep hb a2; replace a3 := keep hb a3; replace hsl := cell_lt s0; replace hal := cell_lt a0; replace HPn := Lib.hid (HPn.out.keep hb); replace HB := Lib.hid (bThen HB.out hb); (try (replace c0 := keep hb c0; replace hxb := cell_lt c0)); (try (replace HRD := Lib.hid (HRD.out.keep IntAt.stable hb))); clear hb))
      all_goals
        first
          | (go_ret; exact ⟨rfl, HB.out⟩)
          | (exfalso; omega)
    · have hok : askOk S a = true := by
        cases h : askOk S a
        · unfold scanErr at h0; simp [h] at h0
        · rfl
      have hmx : a.num ≤ 20000 := by
        unfold scanErr at h0; simp [hok] at h0; omega
      have HE0 := Lib.hid h0
      have HMX := Lib.hid hmx
      have HER : Hid (refErr S a true = 0) := Lib.hid (by rw [scanErr_ref, h0])
      have HRT := Lib.hid (askRight_of hok)
      clear h0 hok
      exact absurd hmx (by omega)
  by_cases hs0 : set < 0
  · have HR : Hid (hasRule S set rule = false) := Lib.hid (by have : ¬ 0 ≤ set := (by omega); simp [hasRule, exst, this])
    rcases HW3.out with h2 | h4 | h0
    · have HEN := Lib.hid h2
      have HNZ : Hid ((2 : Int) ≠ 0) := Lib.hid (by decide)
      have HER : Hid (refErr S a true = 2) := Lib.hid (by rw [scanErr_ref, h2])
      clear h2
      go_enter Try.func10, Try.ntmps10
      go_wp2_with fail
      generalize hW1 : World.alloc (World.alloc w _) _ = W1
      have hbn : Below w.heap.size w W1 := by rw [← hW1]; exact bAlloc (bAlloc (Below.refl _ _) _) _
      have s0 : W1.cell? ⟨w.heap.size, 0, none⟩ = some (.int .i64 S.top) := by rw [← hW1]; exact keep (bAlloc (Below.refl _ _) _) (cell_new rfl)
      have s1 : W1.cell? ⟨w.heap.size, 1, none⟩ = some (.int .i64 S.genders) := by rw [← hW1]; exact keep (bAlloc (Below.refl _ _) _) (cell_new rfl)
      have s2 : W1.cell? ⟨w.heap.size, 2, none⟩ = some (.int .i64 S.cases) := by rw [← hW1]; exact keep (bAlloc (Below.refl _ _) _) (cell_new rfl)
      have s3 : W1.cell? ⟨w.heap.size, 3, none⟩ = some (.int .i64 S.classes) := by rw [← hW1]; exact keep (bAlloc (Below.refl _ _) _) (cell_new rfl)
      have s4 : W1.cell? ⟨w.heap.size, 4, none⟩ = some (.slice at_ S.terms.length ct) := by rw [← hW1]; exact keep (bAlloc (Below.refl _ _) _) (cell_new rfl)
      have s5 : W1.cell? ⟨w.heap.size, 5, none⟩ = some (.slice ap S.plurals.length cp) := by rw [← hW1]; exact keep (bAlloc (Below.refl _ _) _) (cell_new rfl)
      have s6 : W1.cell? ⟨w.heap.size, 6, none⟩ = some (.slice as_ S.sets.length cs) := by rw [← hW1]; exact keep (bAlloc (Below.refl _ _) _) (cell_new rfl)
      have a0 : W1.cell? ⟨w.heap.size + 1, 0, none⟩ = some (.int .i64 a.num) := by rw [← hW1]; simp
      have a1 : W1.cell? ⟨w.heap.size + 1, 1, none⟩ = some (.int .i64 a.set) := by rw [← hW1]; simp
      have a2 : W1.cell? ⟨w.heap.size + 1, 2, none⟩ = some (.int .i64 a.gen) := by rw [← hW1]; simp
      have a3 : W1.cell? ⟨w.heap.size + 1, 3, none⟩ = some (.int .i64 a.kas) := by rw [← hW1]; simp
      have HB := Lib.hid hbn
      have HPn := Lib.hid (HPS.out.keep hbn)
      have hsl := cell_lt s0
      have hal := cell_lt a0
      (try (replace c0 := keep hbn c0))
      (try (have hxb := cell_lt c0))
      clear hW1 hbn
      go_wp2_with (first
        | (go_at_call 14; rw [HSV.out]; refine (small_any S _ _ _ _ HPn.out).mono ?_; rintro e w1 ⟨⟨b, rfl⟩, hb⟩; replace s0 := keep hb s0; replace s1 := keep hb s1; replace s2 := keep hb s2; replace s3 := keep hb s3; replace s4 := keep hb s4; replace s5 := keep hb s5; replace s6 := keep hb s6; replace a0 := keep hb a0; replace a1 := keep hb a1; replace a2 := keep hb a2; replace a3 := keep hb a3; replace hsl := cell_lt s0; replace hal := cell_lt a0; replace HPn := Lib.hid (HPn.out.keep hb); replace HB := Lib.hid (bThen HB.out hb); (try (replace c0 := keep hb c0; replace hxb := cell_lt c0)); clear hb; cases b)
        | (go_at_call 15; refine (known_any _).mono ?_; rintro e wk ⟨rfl, hb⟩; replace HB := Lib.hid (bThen HB.out hb); clear hb)
        | (go_at_call 36; refine (H36.out _ HPn.out).mono ?_; rintro e w2 ⟨hq, hb⟩; obtain rfl := UsesPost.bad hq HR.out; replace s0 := keep hb s0; replace s1 := keep hb s1; replace s2 := keep hb s2; replace s3 := keep hb s3; replace s4 := keep hb s4; replace s5 := keep hb s5; replace s6 := keep hb s6; replace a0 := keep hb a0; replace a1 := keep hb a1; replace a2 := keep hb a2; replace a3 := keep hb a3; replace hsl := cell_lt s0; replace hal := cell_lt a0; replace HPn := Lib.hid (HPn.out.keep hb); replace HB := Lib.hid (bThen HB.out hb); (try (replace c0 := keep hb c0; replace hxb := cell_lt c0)); clear hb hq)
        | (go_at_call 37; refine (H37.out _ HPn.out).mono ?_; rintro e w3 ⟨hq, hb⟩; obtain rfl := LongestPost.err hq HEN.out HNZ.out; replace s0 := keep hb s0; replace s1 := keep hb s1; replace s2 := keep hb s2; replace s3 := keep hb s3; replace s4 := keep hb s4; replace s5 := keep hb s5; replace s6 := keep hb s6; replace a0 := keep hb a0; replace a1 := keep hb a1; replace a2 := keep hb a2; replace a3 := keep hb a3; replace hsl := cell_lt s0; replace hal := cell_lt a0; replace HPn := Lib.hid (HPn.out.keep hb); replace HB := Lib.hid (bThen HB.out hb); (try (replace c0 := keep hb c0; replace hxb := cell_lt c0)); (try (replace HRD := Lib.hid (HRD.out.keep IntAt.stable hb))); clear hb hq)
        | (go_at_call 22; refine (H22.out _ HPn.out).mono ?_; rintro e w4 ⟨rfl, hb⟩; rw [HER.out]; replace s0 := keep hb s0; replace s1 := keep hb s1; replace s2 := keep hb s2; replace s3 := keep hb s3; replace s4 := keep hb s4; replace s5 := keep hb s5; replace s6 := keep hb s6; replace a0 := keep hb a0; replace a1 := keep hb a1; replace a2 := keep hb a2; replace a3 := keep hb a3; replace hsl := cell_lt s0; replace hal := cell_lt a0; replace HPn := Lib.hid (HPn.out.keep hb); replace HB := Lib.hid (bThen HB.out hb); (try (replace c0 := keep hb c0; replace hxb := cell_lt c0)); (try (replace HRD := Lib.hid (HRD.out.keep IntAt.stable hb))); clear hb))
      all_goals
        first
          | (go_ret; exact ⟨rfl, HB.out⟩)
          | (exfalso; omega)
    · have HEN := Lib.hid h4
      have HNZ : Hid ((4 : Int) ≠ 0) := Lib.hid (by decide)
      have HER : Hid (refErr S a true = 4) := Lib.hid (by rw [scanErr_ref, h4])
      clear h4
      go_enter Try.func10, Try.ntmps10
      go_wp2_with fail
      generalize hW1 : World.alloc (World.alloc w _) _ = W1
      have hbn : Below w.heap.size w W1 := by rw [← hW1]; exact bAlloc (bAlloc (Below.refl _ _) _) _
      have s0 : W1.cell? ⟨w.heap.size, 0, none⟩ = some (.int .i64 S.top) := by rw [← hW1]; exact keep (bAlloc (Below.refl _ _) _) (cell_new rfl)
      have s1 : W1.cell? ⟨w.heap.size, 1, none⟩ = some (.int .i64 S.genders) := by rw [← hW1]; exact keep (bAlloc (Below.refl _ _) _) (cell_new rfl)
      have s2 : W1.cell? ⟨w.heap.size, 2, none⟩ = some (.int .i64 S.cases) := by rw [← hW1]; exact keep (bAlloc (Below.refl _ _) _) (cell_new rfl)
      have s3 : W1.cell? ⟨w.heap.size, 3, none⟩ = some (.int .i64 S.classes) := by rw [← hW1]; exact keep (bAlloc (Below.refl _ _) _) (cell_new rfl)
      have s4 : W1.cell? ⟨w.heap.size, 4, none⟩ = some (.slice at_ S.terms.length ct) := by rw [← hW1]; exact keep (bAlloc (Below.refl _ _) _) (cell_new rfl)
      have s5 : W1.cell? ⟨w.heap.size, 5, none⟩ = some (.slice ap S.plurals.length cp) := by rw [← hW1]; exact keep (bAlloc (Below.refl _ _) _) (cell_new rfl)
      have s6 : W1.cell? ⟨w.heap.size, 6, none⟩ = some (.slice as_ S.sets.length cs) := by rw [← hW1]; exact keep (bAlloc (Below.refl _ _) _) (cell_new rfl)
      have a0 : W1.cell? ⟨w.heap.size + 1, 0, none⟩ = some (.int .i64 a.num) := by rw [← hW1]; simp
      have a1 : W1.cell? ⟨w.heap.size + 1, 1, none⟩ = some (.int .i64 a.set) := by rw [← hW1]; simp
      have a2 : W1.cell? ⟨w.heap.size + 1, 2, none⟩ = some (.int .i64 a.gen) := by rw [← hW1]; simp
      have a3 : W1.cell? ⟨w.heap.size + 1, 3, none⟩ = some (.int .i64 a.kas) := by rw [← hW1]; simp
      have HB := Lib.hid hbn
      have HPn := Lib.hid (HPS.out.keep hbn)
      have hsl := cell_lt s0
      have hal := cell_lt a0
      (try (replace c0 := keep hbn c0))
      (try (have hxb := cell_lt c0))
      clear hW1 hbn
      go_wp2_with (first
        | (go_at_call 14; rw [HSV.out]; refine (small_any S _ _ _ _ HPn.out).mono ?_; rintro e w1 ⟨⟨b, rfl⟩, hb⟩; replace s0 := keep hb s0; replace s1 := keep hb s1; replace s2 := keep hb s2; replace s3 := keep hb s3; replace s4 := keep hb s4; replace s5 := keep hb s5; replace s6 := keep hb s6; replace a0 := keep hb a0; replace a1 := keep hb a1; replace a2 := keep hb a2; replace a3 := keep hb a3; replace hsl := cell_lt s0; replace hal := cell_lt a0; replace HPn := Lib.hid (HPn.out.keep hb); replace HB := Lib.hid (bThen HB.out hb); (try (replace c0 := keep hb c0; replace hxb := cell_lt c0)); clear hb; cases b)
        | (go_at_call 15; refine (known_any _).mono ?_; rintro e wk ⟨rfl, hb⟩; replace HB := Lib.hid (bThen HB.out hb); clear hb)
        | (go_at_call 36; refine (H36.out _ HPn.out).mono ?_; rintro e w2 ⟨hq, hb⟩; obtain rfl := UsesPost.bad hq HR.out; replace s0 := keep hb s0; replace s1 := keep hb s1; replace s2 := keep hb s2; replace s3 := keep hb s3; replace s4 := keep hb s4; replace s5 := keep hb s5; replace s6 := keep hb s6; replace a0 := keep hb a0; replace a1 := keep hb a1; replace a2 := keep hb a2; replace a3 := keep hb a3; replace hsl := cell_lt s0; replace hal := cell_lt a0; replace HPn := Lib.hid (HPn.out.keep hb); replace HB := Lib.hid (bThen HB.out hb); (try (replace c0 := keep hb c0; replace hxb := cell_lt c0)); clear hb hq)
        | (go_at_call 37; refine (H37.out _ HPn.out).mono ?_; rintro e w3 ⟨hq, hb⟩; obtain rfl := LongestPost.err hq HEN.out HNZ.out; replace s0 := keep hb s0; replace s1 := keep hb s1; replace s2 := keep hb s2; replace s3 := keep hb s3; replace s4 := keep hb s4; replace s5 := keep hb s5; replace s6 := keep hb s6; replace a0 := keep hb a0; replace a1 := keep hb a1; replace a2 := keep hb a2; replace a3 := keep hb a3; replace hsl := cell_lt s0; replace hal := cell_lt a0; replace HPn := Lib.hid (HPn.out.keep hb); replace HB := Lib.hid (bThen HB.out hb); (try (replace c0 := keep hb c0; replace hxb := cell_lt c0)); (try (replace HRD := Lib.hid (HRD.out.keep IntAt.stable hb))); clear hb hq)
        | (go_at_call 22; refine (H22.out _ HPn.out).mono ?_; rintro e w4 ⟨rfl, hb⟩; rw [HER.out]; replace s0 := keep hb s0; replace s1 := keep hb s1; replace s2 := keep hb s2; replace s3 := keep hb s3; replace s4 := keep hb s4; replace s5 := keep hb s5; replace s6 := keep hb s6; replace a0 := keep hb a0; replace a1 := keep hb a1; replace a2 := keep hb a2; replace a3 := keep hb a3; replace hsl := cell_lt s0; replace hal := cell_lt a0; replace HPn := Lib.hid (HPn.out.keep hb); replace HB := Lib.hid (bThen HB.out hb); (try (replace c0 := keep hb c0; replace hxb := cell_lt c0)); (try (replace HRD := Lib.hid (HRD.out.keep IntAt.stable hb))); clear hb))
      all_goals
        first
          | (go_ret; exact ⟨rfl, HB.out⟩)
          | (exfalso; omega)
    · have hok : askOk S a = true := by
        cases h : askOk S a
        · unfold scanErr at h0; simp [h] at h0
        · rfl
      have hmx : a.num ≤ 20000 := by
        unfold scanErr at h0; simp [hok] at h0; omega
      have HE0 := Lib.hid h0
      have HMX := Lib.hid hmx
      have HER : Hid (refErr S a true = 0) := Lib.hid (by rw [scanErr_ref, h0])
      have HRT := Lib.hid (askRight_of hok)
      clear h0 hok
      clear hmx
      by_cases hy0 : (lngF 0 S a (a.num.toNat + 1)).2 = 0
      · have HY := Lib.hid hy0
        have h39 : ∀ W', SysParts W' (.slice at_ S.terms.length ct) (.slice ap S.plurals.length cp) (.slice as_ S.sets.length cs) S → Calls Try.prog 39 #[.agg #[.int .i64 S.top, .int .i64 S.genders, .int .i64 S.cases, .int .i64 S.classes, .slice at_ S.terms.length ct, .slice ap S.plurals.length cp, .slice as_ S.sets.length cs], .agg #[.int .i64 a.num, .int .i64 a.set, .int .i64 a.gen, .int .i64 a.kas]] W' fun e w' => e = .returned (.tuple #[.int .i64 (-1), .int .i64 0]) ∧ Below W'.heap.size W' w' := fun W' h => by
          have := refLongest_any S HRT.out.1 a HRT.out.2 HMX.out _ _ _ W' h
          obtain ⟨h1, -, h3⟩ := lngF_same (-1) 0 S a (a.num.toNat + 1)
          have h0 := h1.trans HY.out
          rw [h3 h0, h0] at this
          exact this
        have H39 := Lib.hid h39
        clear h39 hy0
        go_enter Try.func10, Try.ntmps10
        go_wp2_with fail
        generalize hW1 : World.alloc (World.alloc w _) _ = W1
        have hbn : Below w.heap.size w W1 := by rw [← hW1]; exact bAlloc (bAlloc (Below.refl _ _) _) _
        have s0 : W1.cell? ⟨w.heap.size, 0, none⟩ = some (.int .i64 S.top) := by rw [← hW1]; exact keep (bAlloc (Below.refl _ _) _) (cell_new rfl)
        have s1 : W1.cell? ⟨w.heap.size, 1, none⟩ = some (.int .i64 S.genders) := by rw [← hW1]; exact keep (bAlloc (Below.refl _ _) _) (cell_new rfl)
        have s2 : W1.cell? ⟨w.heap.size, 2, none⟩ = some (.int .i64 S.cases) := by rw [← hW1]; exact keep (bAlloc (Below.refl _ _) _) (cell_new rfl)
        have s3 : W1.cell? ⟨w.heap.size, 3, none⟩ = some (.int .i64 S.classes) := by rw [← hW1]; exact keep (bAlloc (Below.refl _ _) _) (cell_new rfl)
        have s4 : W1.cell? ⟨w.heap.size, 4, none⟩ = some (.slice at_ S.terms.length ct) := by rw [← hW1]; exact keep (bAlloc (Below.refl _ _) _) (cell_new rfl)
        have s5 : W1.cell? ⟨w.heap.size, 5, none⟩ = some (.slice ap S.plurals.length cp) := by rw [← hW1]; exact keep (bAlloc (Below.refl _ _) _) (cell_new rfl)
        have s6 : W1.cell? ⟨w.heap.size, 6, none⟩ = some (.slice as_ S.sets.length cs) := by rw [← hW1]; exact keep (bAlloc (Below.refl _ _) _) (cell_new rfl)
        have a0 : W1.cell? ⟨w.heap.size + 1, 0, none⟩ = some (.int .i64 a.num) := by rw [← hW1]; simp
        have a1 : W1.cell? ⟨w.heap.size + 1, 1, none⟩ = some (.int .i64 a.set) := by rw [← hW1]; simp
        have a2 : W1.cell? ⟨w.heap.size + 1, 2, none⟩ = some (.int .i64 a.gen) := by rw [← hW1]; simp
        have a3 : W1.cell? ⟨w.heap.size + 1, 3, none⟩ = some (.int .i64 a.kas) := by rw [← hW1]; simp
        have HB := Lib.hid hbn
        have HPn := Lib.hid (HPS.out.keep hbn)
        have hsl := cell_lt s0
        have hal := cell_lt a0
        (try (replace c0 := keep hbn c0))
        (try (have hxb := cell_lt c0))
        clear hW1 hbn
        go_wp2_with (first
          | (go_at_call 14; rw [HSV.out]; refine (small_any S _ _ _ _ HPn.out).mono ?_; rintro e w1 ⟨⟨b, rfl⟩, hb⟩; replace s0 := keep hb s0; replace s1 := keep hb s1; replace s2 := keep hb s2; replace s3 := keep hb s3; replace s4 := keep hb s4; replace s5 := keep hb s5; replace s6 := keep hb s6; replace a0 := keep hb a0; replace a1 := keep hb a1; replace a2 := keep hb a2; replace a3 := keep hb a3; replace hsl := cell_lt s0; replace hal := cell_lt a0; replace HPn := Lib.hid (HPn.out.keep hb); replace HB := Lib.hid (bThen HB.out hb); (try (replace c0 := keep hb c0; replace hxb := cell_lt c0)); clear hb; cases b)
          | (go_at_call 15; refine (known_any _).mono ?_; rintro e wk ⟨rfl, hb⟩; replace HB := Lib.hid (bThen HB.out hb); clear hb)
          | (go_at_call 36; refine (H36.out _ HPn.out).mono ?_; rintro e w2 ⟨hq, hb⟩; obtain rfl := UsesPost.bad hq HR.out; replace s0 := keep hb s0; replace s1 := keep hb s1; replace s2 := keep hb s2; replace s3 := keep hb s3; replace s4 := keep hb s4; replace s5 := keep hb s5; replace s6 := keep hb s6; replace a0 := keep hb a0; replace a1 := keep hb a1; replace a2 := keep hb a2; replace a3 := keep hb a3; replace hsl := cell_lt s0; replace hal := cell_lt a0; replace HPn := Lib.hid (HPn.out.keep hb); replace HB := Lib.hid (bThen HB.out hb); (try (replace c0 := keep hb c0; replace hxb := cell_lt c0)); clear hb hq)
          | (go_at_call 37; refine (H37.out _ HPn.out).mono ?_; rintro e w3 ⟨hq, hb⟩; obtain rfl := LongestPost.none hq HE0.out HY.out; replace s0 := keep hb s0; replace s1 := keep hb s1; replace s2 := keep hb s2; replace s3 := keep hb s3; replace s4 := keep hb s4; replace s5 := keep hb s5; replace s6 := keep hb s6; replace a0 := keep hb a0; replace a1 := keep hb a1; replace a2 := keep hb a2; replace a3 := keep hb a3; replace hsl := cell_lt s0; replace hal := cell_lt a0; replace HPn := Lib.hid (HPn.out.keep hb); replace HB := Lib.hid (bThen HB.out hb); (try (replace c0 := keep hb c0; replace hxb := cell_lt c0)); (try (replace HRD := Lib.hid (HRD.out.keep IntAt.stable hb))); clear hb hq)
          | (go_at_call 22; refine (H22.out _ HPn.out).mono ?_; rintro e w4 ⟨rfl, hb⟩; rw [HER.out]; replace s0 := keep hb s0; replace s1 := keep hb s1; replace s2 := keep hb s2; replace s3 := keep hb s3; replace s4 := keep hb s4; replace s5 := keep hb s5; replace s6 := keep hb s6; replace a0 := keep hb a0; replace a1 := keep hb a1; replace a2 := keep hb a2; replace a3 := keep hb a3; replace hsl := cell_lt s0; replace hal := cell_lt a0; replace HPn := Lib.hid (HPn.out.keep hb); replace HB := Lib.hid (bThen HB.out hb); (try (replace c0 := keep hb c0; replace hxb := cell_lt c0)); (try (replace HRD := Lib.hid (HRD.out.keep IntAt.stable hb))); clear hb)
          | (go_at_call 39; refine (H39.out _ HPn.out).mono ?_; rintro e w7 ⟨rfl, hb⟩; replace s0 := keep hb s0; replace s1 := keep hb s1; replace s2 := keep hb s2; replace s3 := keep hb s3; replace s4 := keep hb s4; replace s5 := keep hb s5; replace s6 := keep hb s6; replace a0 := keep hb a0; replace a1 := keep hb a1; replace a2 := keep hb a2; replace a3 := keep hb a3; replace hsl := cell_lt s0; replace hal := cell_lt a0; replace HPn := Lib.hid (HPn.out.keep hb); replace HB := Lib.hid (bThen HB.out hb); (try (replace c0 := keep hb c0; replace hxb := cell_lt c0)); clear hb))
        all_goals
          first
            | (go_ret; exact ⟨rfl, HB.out⟩)
            | (exfalso; omega)
      · obtain ⟨x, hx⟩ : ∃ x, x = (lngF 0 S a (a.num.toNat + 1)).1 := ⟨_, rfl⟩
        obtain ⟨y, hy⟩ : ∃ y, y = (lngF 0 S a (a.num.toNat + 1)).2 := ⟨_, rfl⟩
        have HXY : Hid (lngF 0 S a (a.num.toNat + 1) = (x, y)) := Lib.hid (by rw [hx, hy])
        have HYN : Hid (y ≠ 0) := Lib.hid (by rw [hy]; exact hy0)
        obtain ⟨h1, h2, -⟩ := lngF_same (-1) 0 S a (a.num.toNat + 1)
        have e2 : (lngF (-1) S a (a.num.toNat + 1)).2 = y := by rw [h1, HXY.out]
        have e1 : (lngF (-1) S a (a.num.toNat + 1)).1 = x := by rw [h2 (by rw [e2]; exact HYN.out), HXY.out]
        have hx0 : ¬ x < 0 := by
          have := lngF_nonneg S a (a.num.toNat + 1) (by rw [e2]; exact HYN.out)
          rw [e1] at this
          omega
        have hxx : (x == x) = true := by simp
        have hyy : ((y : Int) == (y : Int)) = true := by simp
        have h39 : ∀ W', SysParts W' (.slice at_ S.terms.length ct) (.slice ap S.plurals.length cp) (.slice as_ S.sets.length cs) S → Calls Try.prog 39 #[.agg #[.int .i64 S.top, .int .i64 S.genders, .int .i64 S.cases, .int .i64 S.classes, .slice at_ S.terms.length ct, .slice ap S.plurals.length cp, .slice as_ S.sets.length cs], .agg #[.int .i64 a.num, .int .i64 a.set, .int .i64 a.gen, .int .i64 a.kas]] W' fun e w' => e = .returned (.tuple #[.int .i64 x, .int .i64 (y : Int)]) ∧ Below W'.heap.size W' w' := fun W' h => by
          have := refLongest_any S HRT.out.1 a HRT.out.2 HMX.out _ _ _ W' h
          rw [e1, e2] at this
          exact this
        have H39 := Lib.hid h39
        clear h39 hy0 hx hy h1 h2 e1 e2
        go_enter Try.func10, Try.ntmps10
        go_wp2_with fail
        generalize hW1 : World.alloc (World.alloc w _) _ = W1
        have hbn : Below w.heap.size w W1 := by rw [← hW1]; exact bAlloc (bAlloc (Below.refl _ _) _) _
        have s0 : W1.cell? ⟨w.heap.size, 0, none⟩ = some (.int .i64 S.top) := by rw [← hW1]; exact keep (bAlloc (Below.refl _ _) _) (cell_new rfl)
        have s1 : W1.cell? ⟨w.heap.size, 1, none⟩ = some (.int .i64 S.genders) := by rw [← hW1]; exact keep (bAlloc (Below.refl _ _) _) (cell_new rfl)
        have s2 : W1.cell? ⟨w.heap.size, 2, none⟩ = some (.int .i64 S.cases) := by rw [← hW1]; exact keep (bAlloc (Below.refl _ _) _) (cell_new rfl)
        have s3 : W1.cell? ⟨w.heap.size, 3, none⟩ = some (.int .i64 S.classes) := by rw [← hW1]; exact keep (bAlloc (Below.refl _ _) _) (cell_new rfl)
        have s4 : W1.cell? ⟨w.heap.size, 4, none⟩ = some (.slice at_ S.terms.length ct) := by rw [← hW1]; exact keep (bAlloc (Below.refl _ _) _) (cell_new rfl)
        have s5 : W1.cell? ⟨w.heap.size, 5, none⟩ = some (.slice ap S.plurals.length cp) := by rw [← hW1]; exact keep (bAlloc (Below.refl _ _) _) (cell_new rfl)
        have s6 : W1.cell? ⟨w.heap.size, 6, none⟩ = some (.slice as_ S.sets.length cs) := by rw [← hW1]; exact keep (bAlloc (Below.refl _ _) _) (cell_new rfl)
        have a0 : W1.cell? ⟨w.heap.size + 1, 0, none⟩ = some (.int .i64 a.num) := by rw [← hW1]; simp
        have a1 : W1.cell? ⟨w.heap.size + 1, 1, none⟩ = some (.int .i64 a.set) := by rw [← hW1]; simp
        have a2 : W1.cell? ⟨w.heap.size + 1, 2, none⟩ = some (.int .i64 a.gen) := by rw [← hW1]; simp
        have a3 : W1.cell? ⟨w.heap.size + 1, 3, none⟩ = some (.int .i64 a.kas) := by rw [← hW1]; simp
        have HB := Lib.hid hbn
        have HPn := Lib.hid (HPS.out.keep hbn)
        have hsl := cell_lt s0
        have hal := cell_lt a0
        (try (replace c0 := keep hbn c0))
        (try (have hxb := cell_lt c0))
        clear hW1 hbn
        go_wp2_with (first
          | (go_at_call 14; rw [HSV.out]; refine (small_any S _ _ _ _ HPn.out).mono ?_; rintro e w1 ⟨⟨b, rfl⟩, hb⟩; replace s0 := keep hb s0; replace s1 := keep hb s1; replace s2 := keep hb s2; replace s3 := keep hb s3; replace s4 := keep hb s4; replace s5 := keep hb s5; replace s6 := keep hb s6; replace a0 := keep hb a0; replace a1 := keep hb a1; replace a2 := keep hb a2; replace a3 := keep hb a3; replace hsl := cell_lt s0; replace hal := cell_lt a0; replace HPn := Lib.hid (HPn.out.keep hb); replace HB := Lib.hid (bThen HB.out hb); (try (replace c0 := keep hb c0; replace hxb := cell_lt c0)); clear hb; cases b)
          | (go_at_call 15; refine (known_any _).mono ?_; rintro e wk ⟨rfl, hb⟩; replace HB := Lib.hid (bThen HB.out hb); clear hb)
          | (go_at_call 36; refine (H36.out _ HPn.out).mono ?_; rintro e w2 ⟨hq, hb⟩; obtain rfl := UsesPost.bad hq HR.out; replace s0 := keep hb s0; replace s1 := keep hb s1; replace s2 := keep hb s2; replace s3 := keep hb s3; replace s4 := keep hb s4; replace s5 := keep hb s5; replace s6 := keep hb s6; replace a0 := keep hb a0; replace a1 := keep hb a1; replace a2 := keep hb a2; replace a3 := keep hb a3; replace hsl := cell_lt s0; replace hal := cell_lt a0; replace HPn := Lib.hid (HPn.out.keep hb); replace HB := Lib.hid (bThen HB.out hb); (try (replace c0 := keep hb c0; replace hxb := cell_lt c0)); clear hb hq)
          | (go_at_call 37; refine (H37.out _ HPn.out).mono ?_; rintro e w3 ⟨hq, hb⟩; obtain rfl := LongestPost.some hq HE0.out HXY.out HYN.out; replace s0 := keep hb s0; replace s1 := keep hb s1; replace s2 := keep hb s2; replace s3 := keep hb s3; replace s4 := keep hb s4; replace s5 := keep hb s5; replace s6 := keep hb s6; replace a0 := keep hb a0; replace a1 := keep hb a1; replace a2 := keep hb a2; replace a3 := keep hb a3; replace hsl := cell_lt s0; replace hal := cell_lt a0; replace HPn := Lib.hid (HPn.out.keep hb); replace HB := Lib.hid (bThen HB.out hb); (try (replace c0 := keep hb c0; replace hxb := cell_lt c0)); (try (replace HRD := Lib.hid (HRD.out.keep IntAt.stable hb))); clear hb hq)
          | (go_at_call 22; refine (H22.out _ HPn.out).mono ?_; rintro e w4 ⟨rfl, hb⟩; rw [HER.out]; replace s0 := keep hb s0; replace s1 := keep hb s1; replace s2 := keep hb s2; replace s3 := keep hb s3; replace s4 := keep hb s4; replace s5 := keep hb s5; replace s6 := keep hb s6; replace a0 := keep hb a0; replace a1 := keep hb a1; replace a2 := keep hb a2; replace a3 := keep hb a3; replace hsl := cell_lt s0; replace hal := cell_lt a0; replace HPn := Lib.hid (HPn.out.keep hb); replace HB := Lib.hid (bThen HB.out hb); (try (replace c0 := keep hb c0; replace hxb := cell_lt c0)); (try (replace HRD := Lib.hid (HRD.out.keep IntAt.stable hb))); clear hb)
          | (go_at_call 39; refine (H39.out _ HPn.out).mono ?_; rintro e w7 ⟨rfl, hb⟩; replace s0 := keep hb s0; replace s1 := keep hb s1; replace s2 := keep hb s2; replace s3 := keep hb s3; replace s4 := keep hb s4; replace s5 := keep hb s5; replace s6 := keep hb s6; replace a0 := keep hb a0; replace a1 := keep hb a1; replace a2 := keep hb a2; replace a3 := keep hb a3; replace hsl := cell_lt s0; replace hal := cell_lt a0; replace HPn := Lib.hid (HPn.out.keep hb); replace HB := Lib.hid (bThen HB.out hb); (try (replace c0 := keep hb c0; replace hxb := cell_lt c0)); clear hb))
        all_goals
          first
            | (go_ret; exact ⟨rfl, HB.out⟩)
            | (exfalso; omega)
  by_cases hs1 : (S.sets.length : Int) ≤ set
  · have HR : Hid (hasRule S set rule = false) := Lib.hid (by have : ¬ set < (S.sets.length : Int) := (by omega); simp [hasRule, exst, this])
    rcases HW3.out with h2 | h4 | h0
    · have HEN := Lib.hid h2
      have HNZ : Hid ((2 : Int) ≠ 0) := Lib.hid (by decide)
      have HER : Hid (refErr S a true = 2) := Lib.hid (by rw [scanErr_ref, h2])
      clear h2
      go_enter Try.func10, Try.ntmps10
      go_wp2_with fail
      generalize hW1 : World.alloc (World.alloc w _) _ = W1
      have hbn : Below w.heap.size w W1 := by rw [← hW1]; exact bAlloc (bAlloc (Below.refl _ _) _) _
      have s0 : W1.cell? ⟨w.heap.size, 0, none⟩ = some (.int .i64 S.top) := by rw [← hW1]; exact keep (bAlloc (Below.refl _ _) _) (cell_new rfl)
      have s1 : W1.cell? ⟨w.heap.size, 1, none⟩ = some (.int .i64 S.genders) := by rw [← hW1]; exact keep (bAlloc (Below.refl _ _) _) (cell_new rfl)
      have s2 : W1.cell? ⟨w.heap.size, 2, none⟩ = some (.int .i64 S.cases) := by rw [← hW1]; exact keep (bAlloc (Below.refl _ _) _) (cell_new rfl)
      have s3 : W1.cell? ⟨w.heap.size, 3, none⟩ = some (.int .i64 S.classes) := by rw [← hW1]; exact keep (bAlloc (Below.refl _ _) _) (cell_new rfl)
      have s4 : W1.cell? ⟨w.heap.size, 4, none⟩ = some (.slice at_ S.terms.length ct) := by rw [← hW1]; exact keep (bAlloc (Below.refl _ _) _) (cell_new rfl)
      have s5 : W1.cell? ⟨w.heap.size, 5, none⟩ = some (.slice ap S.plurals.length cp) := by rw [← hW1]; exact keep (bAlloc (Below.refl _ _) _) (cell_new rfl)
      have s6 : W1.cell? ⟨w.heap.size, 6, none⟩ = some (.slice as_ S.sets.length cs) := by rw [← hW1]; exact keep (bAlloc (Below.refl _ _) _) (cell_new rfl)
      have a0 : W1.cell? ⟨w.heap.size + 1, 0, none⟩ = some (.int .i64 a.num) := by rw [← hW1]; simp
      have a1 : W1.cell? ⟨w.heap.size + 1, 1, none⟩ = some (.int .i64 a.set) := by rw [← hW1]; simp
      have a2 : W1.cell? ⟨w.heap.size + 1, 2, none⟩ = some (.int .i64 a.gen) := by rw [← hW1]; simp
      have a3 : W1.cell? ⟨w.heap.size + 1, 3, none⟩ = some (.int .i64 a.kas) := by rw [← hW1]; simp
      have HB := Lib.hid hbn
      have HPn := Lib.hid (HPS.out.keep hbn)
      have hsl := cell_lt s0
      have hal := cell_lt a0
      (try (replace c0 := keep hbn c0))
      (try (have hxb := cell_lt c0))
      clear hW1 hbn
      go_wp2_with (first
        | (go_at_call 14; rw [HSV.out]; refine (small_any S _ _ _ _ HPn.out).mono ?_; rintro e w1 ⟨⟨b, rfl⟩, hb⟩; replace s0 := keep hb s0; replace s1 := keep hb s1; replace s2 := keep hb s2; replace s3 := keep hb s3; replace s4 := keep hb s4; replace s5 := keep hb s5; replace s6 := keep hb s6; replace a0 := keep hb a0; replace a1 := keep hb a1; replace a2 := keep hb a2; replace a3 := keep hb a3; replace hsl := cell_lt s0; replace hal := cell_lt a0; replace HPn := Lib.hid (HPn.out.keep hb); replace HB := Lib.hid (bThen HB.out hb); (try (replace c0 := keep hb c0; replace hxb := cell_lt c0)); clear hb; cases b)
        | (go_at_call 15; refine (known_any _).mono ?_; rintro e wk ⟨rfl, hb⟩; replace HB := Lib.hid (bThen HB.out hb); clear hb)
        | (go_at_call 36; refine (H36.out _ HPn.out).mono ?_; rintro e w2 ⟨hq, hb⟩; obtain rfl := UsesPost.bad hq HR.out; replace s0 := keep hb s0; replace s1 := keep hb s1; replace s2 := keep hb s2; replace s3 := keep hb s3; replace s4 := keep hb s4; replace s5 := keep hb s5; replace s6 := keep hb s6; replace a0 := keep hb a0; replace a1 := keep hb a1; replace a2 := keep hb a2; replace a3 := keep hb a3; replace hsl := cell_lt s0; replace hal := cell_lt a0; replace HPn := Lib.hid (HPn.out.keep hb); replace HB := Lib.hid (bThen HB.out hb); (try (replace c0 := keep hb c0; replace hxb := cell_lt c0)); clear hb hq)
        | (go_at_call 37; refine (H37.out _ HPn.out).mono ?_; rintro e w3 ⟨hq, hb⟩; obtain rfl := LongestPost.err hq HEN.out HNZ.out; replace s0 := keep hb s0; replace s1 := keep hb s1; replace s2 := keep hb s2; replace s3 := keep hb s3; replace s4 := keep hb s4; replace s5 := keep hb s5; replace s6 := keep hb s6; replace a0 := keep hb a0; replace a1 := keep hb a1; replace a2 := keep hb a2; replace a3 := keep hb a3; replace hsl := cell_lt s0; replace hal := cell_lt a0; replace HPn := Lib.hid (HPn.out.keep hb); replace HB := Lib.hid (bThen HB.out hb); (try (replace c0 := keep hb c0; replace hxb := cell_lt c0)); (try (replace HRD := Lib.hid (HRD.out.keep IntAt.stable hb))); clear hb hq)
        | (go_at_call 22; refine (H22.out _ HPn.out).mono ?_; rintro e w4 ⟨rfl, hb⟩; rw [HER.out]; replace s0 := keep hb s0; replace s1 := keep hb s1; replace s2 := keep hb s2; replace s3 := keep hb s3; replace s4 := keep hb s4; replace s5 := keep hb s5; replace s6 := keep hb s6; replace a0 := keep hb a0; replace a1 := keep hb a1; replace a2 := keep hb a2; replace a3 := keep hb a3; replace hsl := cell_lt s0; replace hal := cell_lt a0; replace HPn := Lib.hid (HPn.out.keep hb); replace HB := Lib.hid (bThen HB.out hb); (try (replace c0 := keep hb c0; replace hxb := cell_lt c0)); (try (replace HRD := Lib.hid (HRD.out.keep IntAt.stable hb))); clear hb))
      all_goals
        first
          | (go_ret; exact ⟨rfl, HB.out⟩)
          | (exfalso; omega)
    · have HEN := Lib.hid h4
      have HNZ : Hid ((4 : Int) ≠ 0) := Lib.hid (by decide)
      have HER : Hid (refErr S a true = 4) := Lib.hid (by rw [scanErr_ref, h4])
      clear h4
      go_enter Try.func10, Try.ntmps10
      go_wp2_with fail
      generalize hW1 : World.alloc (World.alloc w _) _ = W1
      have hbn : Below w.heap.size w W1 := by rw [← hW1]; exact bAlloc (bAlloc (Below.refl _ _) _) _
      have s0 : W1.cell? ⟨w.heap.size, 0, none⟩ = some (.int .i64 S.top) := by rw [← hW1]; exact keep (bAlloc (Below.refl _ _) _) (cell_new rfl)
      have s1 : W1.cell? ⟨w.heap.size, 1, none⟩ = some (.int .i64 S.genders) := by rw [← hW1]; exact keep (bAlloc (Below.refl _ _) _) (cell_new rfl)
      have s2 : W1.cell? ⟨w.heap.size, 2, none⟩ = some (.int .i64 S.cases) := by rw [← hW1]; exact keep (bAlloc (Below.refl _ _) _) (cell_new rfl)
      have s3 : W1.cell? ⟨w.heap.size, 3, none⟩ = some (.int .i64 S.classes) := by rw [← hW1]; exact keep (bAlloc (Below.refl _ _) _) (cell_new rfl)
      have s4 : W1.cell? ⟨w.heap.size, 4, none⟩ = some (.slice at_ S.terms.length ct) := by rw [← hW1]; exact keep (bAlloc (Below.refl _ _) _) (cell_new rfl)
      have s5 : W1.cell? ⟨w.heap.size, 5, none⟩ = some (.slice ap S.plurals.length cp) := by rw [← hW1]; exact keep (bAlloc (Below.refl _ _) _) (cell_new rfl)
      have s6 : W1.cell? ⟨w.heap.size, 6, none⟩ = some (.slice as_ S.sets.length cs) := by rw [← hW1]; exact keep (bAlloc (Below.refl _ _) _) (cell_new rfl)
      have a0 : W1.cell? ⟨w.heap.size + 1, 0, none⟩ = some (.int .i64 a.num) := by rw [← hW1]; simp
      have a1 : W1.cell? ⟨w.heap.size + 1, 1, none⟩ = some (.int .i64 a.set) := by rw [← hW1]; simp
      have a2 : W1.cell? ⟨w.heap.size + 1, 2, none⟩ = some (.int .i64 a.gen) := by rw [← hW1]; simp
      have a3 : W1.cell? ⟨w.heap.size + 1, 3, none⟩ = some (.int .i64 a.kas) := by rw [← hW1]; simp
      have HB := Lib.hid hbn
      have HPn := Lib.hid (HPS.out.keep hbn)
      have hsl := cell_lt s0
      have hal := cell_lt a0
      (try (replace c0 := keep hbn c0))
      (try (have hxb := cell_lt c0))
      clear hW1 hbn
      go_wp2_with (first
        | (go_at_call 14; rw [HSV.out]; refine (small_any S _ _ _ _ HPn.out).mono ?_; rintro e w1 ⟨⟨b, rfl⟩, hb⟩; replace s0 := keep hb s0; replace s1 := keep hb s1; replace s2 := keep hb s2; replace s3 := keep hb s3; replace s4 := keep hb s4; replace s5 := keep hb s5; replace s6 := keep hb s6; replace a0 := keep hb a0; replace a1 := keep hb a1; replace a2 := keep hb a2; replace a3 := keep hb a3; replace hsl := cell_lt s0; replace hal := cell_lt a0; replace HPn := Lib.hid (HPn.out.keep hb); replace HB := Lib.hid (bThen HB.out hb); (try (replace c0 := keep hb c0; replace hxb := cell_lt c0)); clear hb; cases b)
        | (go_at_call 15; refine (known_any _).mono ?_; rintro e wk ⟨rfl, hb⟩; replace HB := Lib.hid (bThen HB.out hb); clear hb)
        | (go_at_call 36; refine (H36.out _ HPn.out).mono ?_; rintro e w2 ⟨hq, hb⟩; obtain rfl := UsesPost.bad hq HR.out; replace s0 := keep hb s0; replace s1 := keep hb s1; replace s2 := keep hb s2; replace s3 := keep hb s3; replace s4 := keep hb s4; replace s5 := keep hb s5; replace s6 := keep hb s6; replace a0 := keep hb a0; replace a1 := keep hb a1; replace a2 := keep hb a2; replace a3 := keep hb a3; replace hsl := cell_lt s0; replace hal := cell_lt a0; replace HPn := Lib.hid (HPn.out.keep hb); replace HB := Lib.hid (bThen HB.out hb); (try (replace c0 := keep hb c0; replace hxb := cell_lt c0)); clear hb hq)
        | (go_at_call 37; refine (H37.out _ HPn.out).mono ?_; rintro e w3 ⟨hq, hb⟩; obtain rfl := LongestPost.err hq HEN.out HNZ.out; replace s0 := keep hb s0; replace s1 := keep hb s1; replace s2 := keep hb s2; replace s3 := keep hb s3; replace s4 := keep hb s4; replace s5 := keep hb s5; replace s6 := keep hb s6; replace a0 := keep hb a0; replace a1 := keep hb a1; replace a2 := keep hb a2; replace a3 := keep hb a3; replace hsl := cell_lt s0; replace hal := cell_lt a0; replace HPn := Lib.hid (HPn.out.keep hb); replace HB := Lib.hid (bThen HB.out hb); (try (replace c0 := keep hb c0; replace hxb := cell_lt c0)); (try (replace HRD := Lib.hid (HRD.out.keep IntAt.stable hb))); clear hb hq)
        | (go_at_call 22; refine (H22.out _ HPn.out).mono ?_; rintro e w4 ⟨rfl, hb⟩; rw [HER.out]; replace s0 := keep hb s0; replace s1 := keep hb s1; replace s2 := keep hb s2; replace s3 := keep hb s3; replace s4 := keep hb s4; replace s5 := keep hb s5; replace s6 := keep hb s6; replace a0 := keep hb a0; replace a1 := keep hb a1; replace a2 := keep hb a2; replace a3 := keep hb a3; replace hsl := cell_lt s0; replace hal := cell_lt a0; replace HPn := Lib.hid (HPn.out.keep hb); replace HB := Lib.hid (bThen HB.out hb); (try (replace c0 := keep hb c0; replace hxb := cell_lt c0)); (try (replace HRD := Lib.hid (HRD.out.keep IntAt.stable hb))); clear hb))
      all_goals
        first
          | (go_ret; exact ⟨rfl, HB.out⟩)
          | (exfalso; omega)
    · have hok : askOk S a = true := by
        cases h : askOk S a
        · unfold scanErr at h0; simp [h] at h0
        · rfl
      have hmx : a.num ≤ 20000 := by
        unfold scanErr at h0; simp [hok] at h0; omega
      have HE0 := Lib.hid h0
      have HMX := Lib.hid hmx
      have HER : Hid (refErr S a true = 0) := Lib.hid (by rw [scanErr_ref, h0])
      have HRT := Lib.hid (askRight_of hok)
      clear h0 hok
      clear hmx
      by_cases hy0 : (lngF 0 S a (a.num.toNat + 1)).2 = 0
      · have HY := Lib.hid hy0
        have h39 : ∀ W', SysParts W' (.slice at_ S.terms.length ct) (.slice ap S.plurals.length cp) (.slice as_ S.sets.length cs) S → Calls Try.prog 39 #[.agg #[.int .i64 S.top, .int .i64 S.genders, .int .i64 S.cases, .int .i64 S.classes, .slice at_ S.terms.length ct, .slice ap S.plurals.length cp, .slice as_ S.sets.length cs], .agg #[.int .i64 a.num, .int .i64 a.set, .int .i64 a.gen, .int .i64 a.kas]] W' fun e w' => e = .returned (.tuple #[.int .i64 (-1), .int .i64 0]) ∧ Below W'.heap.size W' w' := fun W' h => by
          have := refLongest_any S HRT.out.1 a HRT.out.2 HMX.out _ _ _ W' h
          obtain ⟨h1, -, h3⟩ := lngF_same (-1) 0 S a (a.num.toNat + 1)
          have h0 := h1.trans HY.out
          rw [h3 h0, h0] at this
          exact this
        have H39 := Lib.hid h39
        clear h39 hy0
        go_enter Try.func10, Try.ntmps10
        go_wp2_with fail
        generalize hW1 : World.alloc (World.alloc w _) _ = W1
        have hbn : Below w.heap.size w W1 := by rw [← hW1]; exact bAlloc (bAlloc (Below.refl _ _) _) _
        have s0 : W1.cell? ⟨w.heap.size, 0, none⟩ = some (.int .i64 S.top) := by rw [← hW1]; exact keep (bAlloc (Below.refl _ _) _) (cell_new rfl)
        have s1 : W1.cell? ⟨w.heap.size, 1, none⟩ = some (.int .i64 S.genders) := by rw [← hW1]; exact keep (bAlloc (Below.refl _ _) _) (cell_new rfl)
        have s2 : W1.cell? ⟨w.heap.size, 2, none⟩ = some (.int .i64 S.cases) := by rw [← hW1]; exact keep (bAlloc (Below.refl _ _) _) (cell_new rfl)
        have s3 : W1.cell? ⟨w.heap.size, 3, none⟩ = some (.int .i64 S.classes) := by rw [← hW1]; exact keep (bAlloc (Below.refl _ _) _) (cell_new rfl)
        have s4 : W1.cell? ⟨w.heap.size, 4, none⟩ = some (.slice at_ S.terms.length ct) := by rw [← hW1]; exact keep (bAlloc (Below.refl _ _) _) (cell_new rfl)
        have s5 : W1.cell? ⟨w.heap.size, 5, none⟩ = some (.slice ap S.plurals.length cp) := by rw [← hW1]; exact keep (bAlloc (Below.refl _ _) _) (cell_new rfl)
        have s6 : W1.cell? ⟨w.heap.size, 6, none⟩ = some (.slice as_ S.sets.length cs) := by rw [← hW1]; exact keep (bAlloc (Below.refl _ _) _) (cell_new rfl)
        have a0 : W1.cell? ⟨w.heap.size + 1, 0, none⟩ = some (.int .i64 a.num) := by rw [← hW1]; simp
        have a1 : W1.cell? ⟨w.heap.size + 1, 1, none⟩ = some (.int .i64 a.set) := by rw [← hW1]; simp
        have a2 : W1.cell? ⟨w.heap.size + 1, 2, none⟩ = some (.int .i64 a.gen) := by rw [← hW1]; simp
        have a3 : W1.cell? ⟨w.heap.size + 1, 3, none⟩ = some (.int .i64 a.kas) := by rw [← hW1]; simp
        have HB := Lib.hid hbn
        have HPn := Lib.hid (HPS.out.keep hbn)
        have hsl := cell_lt s0
        have hal := cell_lt a0
        (try (replace c0 := keep hbn c0))
        (try (have hxb := cell_lt c0))
        clear hW1 hbn
        go_wp2_with (first
          | (go_at_call 14; rw [HSV.out]; refine (small_any S _ _ _ _ HPn.out).mono ?_; rintro e w1 ⟨⟨b, rfl⟩, hb⟩; replace s0 := keep hb s0; replace s1 := keep hb s1; replace s2 := keep hb s2; replace s3 := keep hb s3; replace s4 := keep hb s4; replace s5 := keep hb s5; replace s6 := keep hb s6; replace a0 := keep hb a0; replace a1 := keep hb a1; replace a2 := keep hb a2; replace a3 := keep hb a3; replace hsl := cell_lt s0; replace hal := cell_lt a0; replace HPn := Lib.hid (HPn.out.keep hb); replace HB := Lib.hid (bThen HB.out hb); (try (replace c0 := keep hb c0; replace hxb := cell_lt c0)); clear hb; cases b)
          | (go_at_call 15; refine (known_any _).mono ?_; rintro e wk ⟨rfl, hb⟩; replace HB := Lib.hid (bThen HB.out hb); clear hb)
          | (go_at_call 36; refine (H36.out _ HPn.out).mono ?_; rintro e w2 ⟨hq, hb⟩; obtain rfl := UsesPost.bad hq HR.out; replace s0 := keep hb s0; replace s1 := keep hb s1; replace s2 := keep hb s2; replace s3 := keep hb s3; replace s4 := keep hb s4; replace s5 := keep hb s5; replace s6 := keep hb s6; replace a0 := keep hb a0; replace a1 := keep hb a1; replace a2 := keep hb a2; replace a3 := keep hb a3; replace hsl := cell_lt s0; replace hal := cell_lt a0; replace HPn := Lib.hid (HPn.out.keep hb); replace HB := Lib.hid (bThen HB.out hb); (try (replace c0 := keep hb c0; replace hxb := cell_lt c0)); clear hb hq)
          | (go_at_call 37; refine (H37.out _ HPn.out).mono ?_; rintro e w3 ⟨hq, hb⟩; obtain rfl := LongestPost.none hq HE0.out HY.out; replace s0 := keep hb s0; replace s1 := keep hb s1; replace s2 := keep hb s2; replace s3 := keep hb s3; replace s4 := keep hb s4; replace s5 := keep hb s5; replace s6 := keep hb s6; replace a0 := keep hb a0; replace a1 := keep hb a1; replace a2 := keep hb a2; replace a3 := keep hb a3; replace hsl := cell_lt s0; replace hal := cell_lt a0; replace HPn := Lib.hid (HPn.out.keep hb); replace HB := Lib.hid (bThen HB.out hb); (try (replace c0 := keep hb c0; replace hxb := cell_lt c0)); (try (replace HRD := Lib.hid (HRD.out.keep IntAt.stable hb))); clear hb hq)
          | (go_at_call 22; refine (H22.out _ HPn.out).mono ?_; rintro e w4 ⟨rfl, hb⟩; rw [HER.out]; replace s0 := keep hb s0; replace s1 := keep hb s1; replace s2 := keep hb s2; replace s3 := keep hb s3; replace s4 := keep hb s4; replace s5 := keep hb s5; replace s6 := keep hb s6; replace a0 := keep hb a0; replace a1 := keep hb a1; replace a2 := keep hb a2; replace a3 := keep hb a3; replace hsl := cell_lt s0; replace hal := cell_lt a0; replace HPn := Lib.hid (HPn.out.keep hb); replace HB := Lib.hid (bThen HB.out hb); (try (replace c0 := keep hb c0; replace hxb := cell_lt c0)); (try (replace HRD := Lib.hid (HRD.out.keep IntAt.stable hb))); clear hb)
          | (go_at_call 39; refine (H39.out _ HPn.out).mono ?_; rintro e w7 ⟨rfl, hb⟩; replace s0 := keep hb s0; replace s1 := keep hb s1; replace s2 := keep hb s2; replace s3 := keep hb s3; replace s4 := keep hb s4; replace s5 := keep hb s5; replace s6 := keep hb s6; replace a0 := keep hb a0; replace a1 := keep hb a1; replace a2 := keep hb a2; replace a3 := keep hb a3; replace hsl := cell_lt s0; replace hal := cell_lt a0; replace HPn := Lib.hid (HPn.out.keep hb); replace HB := Lib.hid (bThen HB.out hb); (try (replace c0 := keep hb c0; replace hxb := cell_lt c0)); clear hb))
        all_goals
          first
            | (go_ret; exact ⟨rfl, HB.out⟩)
            | (exfalso; omega)
      · obtain ⟨x, hx⟩ : ∃ x, x = (lngF 0 S a (a.num.toNat + 1)).1 := ⟨_, rfl⟩
        obtain ⟨y, hy⟩ : ∃ y, y = (lngF 0 S a (a.num.toNat + 1)).2 := ⟨_, rfl⟩
        have HXY : Hid (lngF 0 S a (a.num.toNat + 1) = (x, y)) := Lib.hid (by rw [hx, hy])
        have HYN : Hid (y ≠ 0) := Lib.hid (by rw [hy]; exact hy0)
        obtain ⟨h1, h2, -⟩ := lngF_same (-1) 0 S a (a.num.toNat + 1)
        have e2 : (lngF (-1) S a (a.num.toNat + 1)).2 = y := by rw [h1, HXY.out]
        have e1 : (lngF (-1) S a (a.num.toNat + 1)).1 = x := by rw [h2 (by rw [e2]; exact HYN.out), HXY.out]
        have hx0 : ¬ x < 0 := by
          have := lngF_nonneg S a (a.num.toNat + 1) (by rw [e2]; exact HYN.out)
          rw [e1] at this
          omega
        have hxx : (x == x) = true := by simp
        have hyy : ((y : Int) == (y : Int)) = true := by simp
        have h39 : ∀ W', SysParts W' (.slice at_ S.terms.length ct) (.slice ap S.plurals.length cp) (.slice as_ S.sets.length cs) S → Calls Try.prog 39 #[.agg #[.int .i64 S.top, .int .i64 S.genders, .int .i64 S.cases, .int .i64 S.classes, .slice at_ S.terms.length ct, .slice ap S.plurals.length cp, .slice as_ S.sets.length cs], .agg #[.int .i64 a.num, .int .i64 a.set, .int .i64 a.gen, .int .i64 a.kas]] W' fun e w' => e = .returned (.tuple #[.int .i64 x, .int .i64 (y : Int)]) ∧ Below W'.heap.size W' w' := fun W' h => by
          have := refLongest_any S HRT.out.1 a HRT.out.2 HMX.out _ _ _ W' h
          rw [e1, e2] at this
          exact this
        have H39 := Lib.hid h39
        clear h39 hy0 hx hy h1 h2 e1 e2
        go_enter Try.func10, Try.ntmps10
        go_wp2_with fail
        generalize hW1 : World.alloc (World.alloc w _) _ = W1
        have hbn : Below w.heap.size w W1 := by rw [← hW1]; exact bAlloc (bAlloc (Below.refl _ _) _) _
        have s0 : W1.cell? ⟨w.heap.size, 0, none⟩ = some (.int .i64 S.top) := by rw [← hW1]; exact keep (bAlloc (Below.refl _ _) _) (cell_new rfl)
        have s1 : W1.cell? ⟨w.heap.size, 1, none⟩ = some (.int .i64 S.genders) := by rw [← hW1]; exact keep (bAlloc (Below.refl _ _) _) (cell_new rfl)
        have s2 : W1.cell? ⟨w.heap.size, 2, none⟩ = some (.int .i64 S.cases) := by rw [← hW1]; exact keep (bAlloc (Below.refl _ _) _) (cell_new rfl)
        have s3 : W1.cell? ⟨w.heap.size, 3, none⟩ = some (.int .i64 S.classes) := by rw [← hW1]; exact keep (bAlloc (Below.refl _ _) _) (cell_new rfl)
        have s4 : W1.cell? ⟨w.heap.size, 4, none⟩ = some (.slice at_ S.terms.length ct) := by rw [← hW1]; exact keep (bAlloc (Below.refl _ _) _) (cell_new rfl)
        have s5 : W1.cell? ⟨w.heap.size, 5, none⟩ = some (.slice ap S.plurals.length cp) := by rw [← hW1]; exact keep (bAlloc (Below.refl _ _) _) (cell_new rfl)
        have s6 : W1.cell? ⟨w.heap.size, 6, none⟩ = some (.slice as_ S.sets.length cs) := by rw [← hW1]; exact keep (bAlloc (Below.refl _ _) _) (cell_new rfl)
        have a0 : W1.cell? ⟨w.heap.size + 1, 0, none⟩ = some (.int .i64 a.num) := by rw [← hW1]; simp
        have a1 : W1.cell? ⟨w.heap.size + 1, 1, none⟩ = some (.int .i64 a.set) := by rw [← hW1]; simp
        have a2 : W1.cell? ⟨w.heap.size + 1, 2, none⟩ = some (.int .i64 a.gen) := by rw [← hW1]; simp
        have a3 : W1.cell? ⟨w.heap.size + 1, 3, none⟩ = some (.int .i64 a.kas) := by rw [← hW1]; simp
        have HB := Lib.hid hbn
        have HPn := Lib.hid (HPS.out.keep hbn)
        have hsl := cell_lt s0
        have hal := cell_lt a0
        (try (replace c0 := keep hbn c0))
        (try (have hxb := cell_lt c0))
        clear hW1 hbn
        go_wp2_with (first
          | (go_at_call 14; rw [HSV.out]; refine (small_any S _ _ _ _ HPn.out).mono ?_; rintro e w1 ⟨⟨b, rfl⟩, hb⟩; replace s0 := keep hb s0; replace s1 := keep hb s1; replace s2 := keep hb s2; replace s3 := keep hb s3; replace s4 := keep hb s4; replace s5 := keep hb s5; replace s6 := keep hb s6; replace a0 := keep hb a0; replace a1 := keep hb a1; replace a2 := keep hb a2; replace a3 := keep hb a3; replace hsl := cell_lt s0; replace hal := cell_lt a0; replace HPn := Lib.hid (HPn.out.keep hb); replace HB := Lib.hid (bThen HB.out hb); (try (replace c0 := keep hb c0; replace hxb := cell_lt c0)); clear hb; cases b)
          | (go_at_call 15; refine (known_any _).mono ?_; rintro e wk ⟨rfl, hb⟩; replace HB := Lib.hid (bThen HB.out hb); clear hb)
          | (go_at_call 36; refine (H36.out _ HPn.out).mono ?_; rintro e w2 ⟨hq, hb⟩; obtain rfl := UsesPost.bad hq HR.out; replace s0 := keep hb s0; replace s1 := keep hb s1; replace s2 := keep hb s2; replace s3 := keep hb s3; replace s4 := keep hb s4; replace s5 := keep hb s5; replace s6 := keep hb s6; replace a0 := keep hb a0; replace a1 := keep hb a1; replace a2 := keep hb a2; replace a3 := keep hb a3; replace hsl := cell_lt s0; replace hal := cell_lt a0; replace HPn := Lib.hid (HPn.out.keep hb); replace HB := Lib.hid (bThen HB.out hb); (try (replace c0 := keep hb c0; replace hxb := cell_lt c0)); clear hb hq)
          | (go_at_call 37; refine (H37.out _ HPn.out).mono ?_; rintro e w3 ⟨hq, hb⟩; obtain rfl := LongestPost.some hq HE0.out HXY.out HYN.out; replace s0 := keep hb s0; replace s1 := keep hb s1; replace s2 := keep hb s2; replace s3 := keep hb s3; replace s4 := keep hb s4; replace s5 := keep hb s5; replace s6 := keep hb s6; replace a0 := keep hb a0; replace a1 := keep hb a1; replace a2 := keep hb a2; replace a3 := keep hb a3; replace hsl := cell_lt s0; replace hal := cell_lt a0; replace HPn := Lib.hid (HPn.out.keep hb); replace HB := Lib.hid (bThen HB.out hb); (try (replace c0 := keep hb c0; replace hxb := cell_lt c0)); (try (replace HRD := Lib.hid (HRD.out.keep IntAt.stable hb))); clear hb hq)
          | (go_at_call 22; refine (H22.out _ HPn.out).mono ?_; rintro e w4 ⟨rfl, hb⟩; rw [HER.out]; replace s0 := keep hb s0; replace s1 := keep hb s1; replace s2 := keep hb s2; replace s3 := keep hb s3; replace s4 := keep hb s4; replace s5 := keep hb s5; replace s6 := keep hb s6; replace a0 := keep hb a0; replace a1 := keep hb a1; replace a2 := keep hb a2; replace a3 := keep hb a3; replace hsl := cell_lt s0; replace hal := cell_lt a0; replace HPn := Lib.hid (HPn.out.keep hb); replace HB := Lib.hid (bThen HB.out hb); (try (replace c0 := keep hb c0; replace hxb := cell_lt c0)); (try (replace HRD := Lib.hid (HRD.out.keep IntAt.stable hb))); clear hb)
          | (go_at_call 39; refine (H39.out _ HPn.out).mono ?_; rintro e w7 ⟨rfl, hb⟩; replace s0 := keep hb s0; replace s1 := keep hb s1; replace s2 := keep hb s2; replace s3 := keep hb s3; replace s4 := keep hb s4; replace s5 := keep hb s5; replace s6 := keep hb s6; replace a0 := keep hb a0; replace a1 := keep hb a1; replace a2 := keep hb a2; replace a3 := keep hb a3; replace hsl := cell_lt s0; replace hal := cell_lt a0; replace HPn := Lib.hid (HPn.out.keep hb); replace HB := Lib.hid (bThen HB.out hb); (try (replace c0 := keep hb c0; replace hxb := cell_lt c0)); clear hb))
        all_goals
          first
            | (go_ret; exact ⟨rfl, HB.out⟩)
            | (exfalso; omega)
  have hat : set.toNat < S.sets.length := by omega
  rcases HXS.out with hnil | ⟨xb, xo, rfl, hf⟩
  · simp [hnil] at hat
  obtain ⟨lv, c0, hlv⟩ := hf set.toNat hat
  have hse : S.sets[set.toNat] = setOf S set := by simp [setOf, List.getElem?_eq_getElem hat]
  rw [hse] at hlv
  simp only [Nat.mul_one] at c0
  obtain ⟨la, lc, rfl, hll, -⟩ := hlv
  unfold most at hll
  have hxb := cell_lt c0
  have g1 : exst set S.sets.length = true := by simp [exst]; omega
  have G1 := Lib.hid g1
  clear hf hse g1
  by_cases hr0 : rule < 0
  · have HR : Hid (hasRule S set rule = false) := Lib.hid (by have : ¬ 0 ≤ rule := (by omega); simp [hasRule, exst, this])
    rcases HW3.out with h2 | h4 | h0
    · have HEN := Lib.hid h2
      have HNZ : Hid ((2 : Int) ≠ 0) := Lib.hid (by decide)
      have HER : Hid (refErr S a true = 2) := Lib.hid (by rw [scanErr_ref, h2])
      clear h2
      go_enter Try.func10, Try.ntmps10
      go_wp2_with fail
      generalize hW1 : World.alloc (World.alloc w _) _ = W1
      have hbn : Below w.heap.size w W1 := by rw [← hW1]; exact bAlloc (bAlloc (Below.refl _ _) _) _
      have s0 : W1.cell? ⟨w.heap.size, 0, none⟩ = some (.int .i64 S.top) := by rw [← hW1]; exact keep (bAlloc (Below.refl _ _) _) (cell_new rfl)
      have s1 : W1.cell? ⟨w.heap.size, 1, none⟩ = some (.int .i64 S.genders) := by rw [← hW1]; exact keep (bAlloc (Below.refl _ _) _) (cell_new rfl)
      have s2 : W1.cell? ⟨w.heap.size, 2, none⟩ = some (.int .i64 S.cases) := by rw [← hW1]; exact keep (bAlloc (Below.refl _ _) _) (cell_new rfl)
      have s3 : W1.cell? ⟨w.heap.size, 3, none⟩ = some (.int .i64 S.classes) := by rw [← hW1]; exact keep (bAlloc (Below.refl _ _) _) (cell_new rfl)
      have s4 : W1.cell? ⟨w.heap.size, 4, none⟩ = some (.slice at_ S.terms.length ct) := by rw [← hW1]; exact keep (bAlloc (Below.refl _ _) _) (cell_new rfl)
      have s5 : W1.cell? ⟨w.heap.size, 5, none⟩ = some (.slice ap S.plurals.length cp) := by rw [← hW1]; exact keep (bAlloc (Below.refl _ _) _) (cell_new rfl)
      have s6 : W1.cell? ⟨w.heap.size, 6, none⟩ = some (.slice (some ⟨xb, xo, none⟩) S.sets.length cs) := by rw [← hW1]; exact keep (bAlloc (Below.refl _ _) _) (cell_new rfl)
      have a0 : W1.cell? ⟨w.heap.size + 1, 0, none⟩ = some (.int .i64 a.num) := by rw [← hW1]; simp
      have a1 : W1.cell? ⟨w.heap.size + 1, 1, none⟩ = some (.int .i64 a.set) := by rw [← hW1]; simp
      have a2 : W1.cell? ⟨w.heap.size + 1, 2, none⟩ = some (.int .i64 a.gen) := by rw [← hW1]; simp
      have a3 : W1.cell? ⟨w.heap.size + 1, 3, none⟩ = some (.int .i64 a.kas) := by rw [← hW1]; simp
      have HB := Lib.hid hbn
      have HPn := Lib.hid (HPS.out.keep hbn)
      have hsl := cell_lt s0
      have hal := cell_lt a0
      (try (replace c0 := keep hbn c0))
      (try (have hxb := cell_lt c0))
      clear hW1 hbn
      go_wp2_with (first
        | (go_at_call 14; rw [HSV.out]; refine (small_any S _ _ _ _ HPn.out).mono ?_; rintro e w1 ⟨⟨b, rfl⟩, hb⟩; replace s0 := keep hb s0; replace s1 := keep hb s1; replace s2 := keep hb s2; replace s3 := keep hb s3; replace s4 := keep hb s4; replace s5 := keep hb s5; replace s6 := keep hb s6; replace a0 := keep hb a0; replace a1 := keep hb a1; replace a2 := keep hb a2; replace a3 := keep hb a3; replace hsl := cell_lt s0; replace hal := cell_lt a0; replace HPn := Lib.hid (HPn.out.keep hb); replace HB := Lib.hid (bThen HB.out hb); (try (replace c0 := keep hb c0; replace hxb := cell_lt c0)); clear hb; cases b)
        | (go_at_call 15; refine (known_any _).mono ?_; rintro e wk ⟨rfl, hb⟩; replace HB := Lib.hid (bThen HB.out hb); clear hb)
        | (go_at_call 36; refine (H36.out _ HPn.out).mono ?_; rintro e w2 ⟨hq, hb⟩; obtain rfl := UsesPost.bad hq HR.out; replace s0 := keep hb s0; replace s1 := keep hb s1; replace s2 := keep hb s2; replace s3 := keep hb s3; replace s4 := keep hb s4; replace s5 := keep hb s5; replace s6 := keep hb s6; replace a0 := keep hb a0; replace a1 := keep hb a1; replace a2 := keep hb a2; replace a3 := keep hb a3; replace hsl := cell_lt s0; replace hal := cell_lt a0; replace HPn := Lib.hid (HPn.out.keep hb); replace HB := Lib.hid (bThen HB.out hb); (try (replace c0 := keep hb c0; replace hxb := cell_lt c0)); clear hb hq)
        | (go_at_call 37; refine (H37.out _ HPn.out).mono ?_; rintro e w3 ⟨hq, hb⟩; obtain rfl := LongestPost.err hq HEN.out HNZ.out; replace s0 := keep hb s0; replace s1 := keep hb s1; replace s2 := keep hb s2; replace s3 := keep hb s3; replace s4 := keep hb s4; replace s5 := keep hb s5; replace s6 := keep hb s6; replace a0 := keep hb a0; replace a1 := keep hb a1; replace a2 := keep hb a2; replace a3 := keep hb a3; replace hsl := cell_lt s0; replace hal := cell_lt a0; replace HPn := Lib.hid (HPn.out.keep hb); replace HB := Lib.hid (bThen HB.out hb); (try (replace c0 := keep hb c0; replace hxb := cell_lt c0)); (try (replace HRD := Lib.hid (HRD.out.keep IntAt.stable hb))); clear hb hq)
        | (go_at_call 22; refine (H22.out _ HPn.out).mono ?_; rintro e w4 ⟨rfl, hb⟩; rw [HER.out]; replace s0 := keep hb s0; replace s1 := keep hb s1; replace s2 := keep hb s2; replace s3 := keep hb s3; replace s4 := keep hb s4; replace s5 := keep hb s5; replace s6 := keep hb s6; replace a0 := keep hb a0; replace a1 := keep hb a1; replace a2 := keep hb a2; replace a3 := keep hb a3; replace hsl := cell_lt s0; replace hal := cell_lt a0; replace HPn := Lib.hid (HPn.out.keep hb); replace HB := Lib.hid (bThen HB.out hb); (try (replace c0 := keep hb c0; replace hxb := cell_lt c0)); (try (replace HRD := Lib.hid (HRD.out.keep IntAt.stable hb))); clear hb))
      all_goals
        first
          | (go_ret; exact ⟨rfl, HB.out⟩)
          | (exfalso; omega)
    · have HEN := Lib.hid h4
      have HNZ : Hid ((4 : Int) ≠ 0) := Lib.hid (by decide)
      have HER : Hid (refErr S a true = 4) := Lib.hid (by rw [scanErr_ref, h4])
      clear h4
      go_enter Try.func10, Try.ntmps10
      go_wp2_with fail
      generalize hW1 : World.alloc (World.alloc w _) _ = W1
      have hbn : Below w.heap.size w W1 := by rw [← hW1]; exact bAlloc (bAlloc (Below.refl _ _) _) _
      have s0 : W1.cell? ⟨w.heap.size, 0, none⟩ = some (.int .i64 S.top) := by rw [← hW1]; exact keep (bAlloc (Below.refl _ _) _) (cell_new rfl)
      have s1 : W1.cell? ⟨w.heap.size, 1, none⟩ = some (.int .i64 S.genders) := by rw [← hW1]; exact keep (bAlloc (Below.refl _ _) _) (cell_new rfl)
      have s2 : W1.cell? ⟨w.heap.size, 2, none⟩ = some (.int .i64 S.cases) := by rw [← hW1]; exact keep (bAlloc (Below.refl _ _) _) (cell_new rfl)
      have s3 : W1.cell? ⟨w.heap.size, 3, none⟩ = some (.int .i64 S.classes) := by rw [← hW1]; exact keep (bAlloc (Below.refl _ _) _) (cell_new rfl)
      have s4 : W1.cell? ⟨w.heap.size, 4, none⟩ = some (.slice at_ S.terms.length ct) := by rw [← hW1]; exact keep (bAlloc (Below.refl _ _) _) (cell_new rfl)
      have s5 : W1.cell? ⟨w.heap.size, 5, none⟩ = some (.slice ap S.plurals.length cp) := by rw [← hW1]; exact keep (bAlloc (Below.refl _ _) _) (cell_new rfl)
      have s6 : W1.cell? ⟨w.heap.size, 6, none⟩ = some (.slice (some ⟨xb, xo, none⟩) S.sets.length cs) := by rw [← hW1]; exact keep (bAlloc (Below.refl _ _) _) (cell_new rfl)
      have a0 : W1.cell? ⟨w.heap.size + 1, 0, none⟩ = some (.int .i64 a.num) := by rw [← hW1]; simp
      have a1 : W1.cell? ⟨w.heap.size + 1, 1, none⟩ = some (.int .i64 a.set) := by rw [← hW1]; simp
      have a2 : W1.cell? ⟨w.heap.size + 1, 2, none⟩ = some (.int .i64 a.gen) := by rw [← hW1]; simp
      have a3 : W1.cell? ⟨w.heap.size + 1, 3, none⟩ = some (.int .i64 a.kas) := by rw [← hW1]; simp
      have HB := Lib.hid hbn
      have HPn := Lib.hid (HPS.out.keep hbn)
      have hsl := cell_lt s0
      have hal := cell_lt a0
      (try (replace c0 := keep hbn c0))
      (try (have hxb := cell_lt c0))
      clear hW1 hbn
      go_wp2_with (first
        | (go_at_call 14; rw [HSV.out]; refine (small_any S _ _ _ _ HPn.out).mono ?_; rintro e w1 ⟨⟨b, rfl⟩, hb⟩; replace s0 := keep hb s0; replace s1 := keep hb s1; replace s2 := keep hb s2; replace s3 := keep hb s3; replace s4 := keep hb s4; replace s5 := keep hb s5; replace s6 := keep hb s6; replace a0 := keep hb a0; replace a1 := keep hb a1; replace a2 := keep hb a2; replace a3 := keep hb a3; replace hsl := cell_lt s0; replace hal := cell_lt a0; replace HPn := Lib.hid (HPn.out.keep hb); replace HB := Lib.hid (bThen HB.out hb); (try (replace c0 := keep hb c0; replace hxb := cell_lt c0)); clear hb; cases b)
        | (go_at_call 15; refine (known_any _).mono ?_; rintro e wk ⟨rfl, hb⟩; replace HB := Lib.hid (bThen HB.out hb); clear hb)
        | (go_at_call 36; refine (H36.out _ HPn.out).mono ?_; rintro e w2 ⟨hq, hb⟩; obtain rfl := UsesPost.bad hq HR.out; replace s0 := keep hb s0; replace s1 := keep hb s1; replace s2 := keep hb s2; replace s3 := keep hb s3; replace s4 := keep hb s4; replace s5 := keep hb s5; replace s6 := keep hb s6; replace a0 := keep hb a0; replace a1 := keep hb a1; replace a2 := keep hb a2; replace a3 := keep hb a3; replace hsl := cell_lt s0; replace hal := cell_lt a0; replace HPn := Lib.hid (HPn.out.keep hb); replace HB := Lib.hid (bThen HB.out hb); (try (replace c0 := keep hb c0; replace hxb := cell_lt c0)); clear hb hq)
        | (go_at_call 37; refine (H37.out _ HPn.out).mono ?_; rintro e w3 ⟨hq, hb⟩; obtain rfl := LongestPost.err hq HEN.out HNZ.out; replace s0 := keep hb s0; replace s1 := keep hb s1; replace s2 := keep hb s2; replace s3 := keep hb s3; replace s4 := keep hb s4; replace s5 := keep hb s5; replace s6 := keep hb s6; replace a0 := keep hb a0; replace a1 := keep hb a1; replace a2 := keep hb a2; replace a3 := keep hb a3; replace hsl := cell_lt s0; replace hal := cell_lt a0; replace HPn := Lib.hid (HPn.out.keep hb); replace HB := Lib.hid (bThen HB.out hb); (try (replace c0 := keep hb c0; replace hxb := cell_lt c0)); (try (replace HRD := Lib.hid (HRD.out.keep IntAt.stable hb))); clear hb hq)
        | (go_at_call 22; refine (H22.out _ HPn.out).mono ?_; rintro e w4 ⟨rfl, hb⟩; rw [HER.out]; replace s0 := keep hb s0; replace s1 := keep hb s1; replace s2 := keep hb s2; replace s3 := keep hb s3; replace s4 := keep hb s4; replace s5 := keep hb s5; replace s6 := keep hb s6; replace a0 := keep hb a0; replace a1 := keep hb a1; replace a2 := keep hb a2; replace a3 := keep hb a3; replace hsl := cell_lt s0; replace hal := cell_lt a0; replace HPn := Lib.hid (HPn.out.keep hb); replace HB := Lib.hid (bThen HB.out hb); (try (replace c0 := keep hb c0; replace hxb := cell_lt c0)); (try (replace HRD := Lib.hid (HRD.out.keep IntAt.stable hb))); clear hb))
      all_goals
        first
          | (go_ret; exact ⟨rfl, HB.out⟩)
          | (exfalso; omega)
    · have hok : askOk S a = true := by
        cases h : askOk S a
        · unfold scanErr at h0; simp [h] at h0
        · rfl
      have hmx : a.num ≤ 20000 := by
        unfold scanErr at h0; simp [hok] at h0; omega
      have HE0 := Lib.hid h0
      have HMX := Lib.hid hmx
      have HER : Hid (refErr S a true = 0) := Lib.hid (by rw [scanErr_ref, h0])
      have HRT := Lib.hid (askRight_of hok)
      clear h0 hok
      clear hmx
      by_cases hy0 : (lngF 0 S a (a.num.toNat + 1)).2 = 0
      · have HY := Lib.hid hy0
        have h39 : ∀ W', SysParts W' (.slice at_ S.terms.length ct) (.slice ap S.plurals.length cp) (.slice (some ⟨xb, xo, none⟩) S.sets.length cs) S → Calls Try.prog 39 #[.agg #[.int .i64 S.top, .int .i64 S.genders, .int .i64 S.cases, .int .i64 S.classes, .slice at_ S.terms.length ct, .slice ap S.plurals.length cp, .slice (some ⟨xb, xo, none⟩) S.sets.length cs], .agg #[.int .i64 a.num, .int .i64 a.set, .int .i64 a.gen, .int .i64 a.kas]] W' fun e w' => e = .returned (.tuple #[.int .i64 (-1), .int .i64 0]) ∧ Below W'.heap.size W' w' := fun W' h => by
          have := refLongest_any S HRT.out.1 a HRT.out.2 HMX.out _ _ _ W' h
          obtain ⟨h1, -, h3⟩ := lngF_same (-1) 0 S a (a.num.toNat + 1)
          have h0 := h1.trans HY.out
          rw [h3 h0, h0] at this
          exact this
        have H39 := Lib.hid h39
        clear h39 hy0
        go_enter Try.func10, Try.ntmps10
        go_wp2_with fail
        generalize hW1 : World.alloc (World.alloc w _) _ = W1
        have hbn : Below w.heap.size w W1 := by rw [← hW1]; exact bAlloc (bAlloc (Below.refl _ _) _) _
        have s0 : W1.cell? ⟨w.heap.size, 0, none⟩ = some (.int .i64 S.top) := by rw [← hW1]; exact keep (bAlloc (Below.refl _ _) _) (cell_new rfl)
        have s1 : W1.cell? ⟨w.heap.size, 1, none⟩ = some (.int .i64 S.genders) := by rw [← hW1]; exact keep (bAlloc (Below.refl _ _) _) (cell_new rfl)
        have s2 : W1.cell? ⟨w.heap.size, 2, none⟩ = some (.int .i64 S.cases) := by rw [← hW1]; exact keep (bAlloc (Below.refl _ _) _) (cell_new rfl)
        have s3 : W1.cell? ⟨w.heap.size, 3, none⟩ = some (.int .i64 S.classes) := by rw [← hW1]; exact keep (bAlloc (Below.refl _ _) _) (cell_new rfl)
        have s4 : W1.cell? ⟨w.heap.size, 4, none⟩ = some (.slice at_ S.terms.length ct) := by rw [← hW1]; exact keep (bAlloc (Below.refl _ _) _) (cell_new rfl)
        have s5 : W1.cell? ⟨w.heap.size, 5, none⟩ = some (.slice ap S.plurals.length cp) := by rw [← hW1]; exact keep (bAlloc (Below.refl _ _) _) (cell_new rfl)
        have s6 : W1.cell? ⟨w.heap.size, 6, none⟩ = some (.slice (some ⟨xb, xo, none⟩) S.sets.length cs) := by rw [← hW1]; exact keep (bAlloc (Below.refl _ _) _) (cell_new rfl)
        have a0 : W1.cell? ⟨w.heap.size + 1, 0, none⟩ = some (.int .i64 a.num) := by rw [← hW1]; simp
        have a1 : W1.cell? ⟨w.heap.size + 1, 1, none⟩ = some (.int .i64 a.set) := by rw [← hW1]; simp
        have a2 : W1.cell? ⟨w.heap.size + 1, 2, none⟩ = some (.int .i64 a.gen) := by rw [← hW1]; simp
        have a3 : W1.cell? ⟨w.heap.size + 1, 3, none⟩ = some (.int .i64 a.kas) := by rw [← hW1]; simp
        have HB := Lib.hid hbn
        have HPn := Lib.hid (HPS.out.keep hbn)
        have hsl := cell_lt s0
        have hal := cell_lt a0
        (try (replace c0 := keep hbn c0))
        (try (have hxb := cell_lt c0))
        clear hW1 hbn
        go_wp2_with (first
          | (go_at_call 14; rw [HSV.out]; refine (small_any S _ _ _ _ HPn.out).mono ?_; rintro e w1 ⟨⟨b, rfl⟩, hb⟩; replace s0 := keep hb s0; replace s1 := keep hb s1; replace s2 := keep hb s2; replace s3 := keep hb s3; replace s4 := keep hb s4; replace s5 := keep hb s5; replace s6 := keep hb s6; replace a0 := keep hb a0; replace a1 := keep hb a1; replace a2 := keep hb a2; replace a3 := keep hb a3; replace hsl := cell_lt s0; replace hal := cell_lt a0; replace HPn := Lib.hid (HPn.out.keep hb); replace HB := Lib.hid (bThen HB.out hb); (try (replace c0 := keep hb c0; replace hxb := cell_lt c0)); clear hb; cases b)
          | (go_at_call 15; refine (known_any _).mono ?_; rintro e wk ⟨rfl, hb⟩; replace HB := Lib.hid (bThen HB.out hb); clear hb)
          | (go_at_call 36; refine (H36.out _ HPn.out).mono ?_; rintro e w2 ⟨hq, hb⟩; obtain rfl := UsesPost.bad hq HR.out; replace s0 := keep hb s0; replace s1 := keep hb s1; replace s2 := keep hb s2; replace s3 := keep hb s3; replace s4 := keep hb s4; replace s5 := keep hb s5; replace s6 := keep hb s6; replace a0 := keep hb a0; replace a1 := keep hb a1; replace a2 := keep hb a2; replace a3 := keep hb a3; replace hsl := cell_lt s0; replace hal := cell_lt a0; replace HPn := Lib.hid (HPn.out.keep hb); replace HB := Lib.hid (bThen HB.out hb); (try (replace c0 := keep hb c0; replace hxb := cell_lt c0)); clear hb hq)
          | (go_at_call 37; refine (H37.out _ HPn.out).mono ?_; rintro e w3 ⟨hq, hb⟩; obtain rfl := LongestPost.none hq HE0.out HY.out; replace s0 := keep hb s0; replace s1 := keep hb s1; replace s2 := keep hb s2; replace s3 := keep hb s3; replace s4 := keep hb s4; replace s5 := keep hb s5; replace s6 := keep hb s6; replace a0 := keep hb a0; replace a1 := keep hb a1; replace a2 := keep hb a2; replace a3 := keep hb a3; replace hsl := cell_lt s0; replace hal := cell_lt a0; replace HPn := Lib.hid (HPn.out.keep hb); replace HB := Lib.hid (bThen HB.out hb); (try (replace c0 := keep hb c0; replace hxb := cell_lt c0)); (try (replace HRD := Lib.hid (HRD.out.keep IntAt.stable hb))); clear hb hq)
          | (go_at_call 22; refine (H22.out _ HPn.out).mono ?_; rintro e w4 ⟨rfl, hb⟩; rw [HER.out]; replace s0 := keep hb s0; replace s1 := keep hb s1; replace s2 := keep hb s2; replace s3 := keep hb s3; replace s4 := keep hb s4; replace s5 := keep hb s5; replace s6 := keep hb s6; replace a0 := keep hb a0; replace a1 := keep hb a1; replace a2 := keep hb a2; replace a3 := keep hb a3; replace hsl := cell_lt s0; replace hal := cell_lt a0; replace HPn := Lib.hid (HPn.out.keep hb); replace HB := Lib.hid (bThen HB.out hb); (try (replace c0 := keep hb c0; replace hxb := cell_lt c0)); (try (replace HRD := Lib.hid (HRD.out.keep IntAt.stable hb))); clear hb)
          | (go_at_call 39; refine (H39.out _ HPn.out).mono ?_; rintro e w7 ⟨rfl, hb⟩; replace s0 := keep hb s0; replace s1 := keep hb s1; replace s2 := keep hb s2; replace s3 := keep hb s3; replace s4 := keep hb s4; replace s5 := keep hb s5; replace s6 := keep hb s6; replace a0 := keep hb a0; replace a1 := keep hb a1; replace a2 := keep hb a2; replace a3 := keep hb a3; replace hsl := cell_lt s0; replace hal := cell_lt a0; replace HPn := Lib.hid (HPn.out.keep hb); replace HB := Lib.hid (bThen HB.out hb); (try (replace c0 := keep hb c0; replace hxb := cell_lt c0)); clear hb))
        all_goals
          first
            | (go_ret; exact ⟨rfl, HB.out⟩)
            | (exfalso; omega)
      · obtain ⟨x, hx⟩ : ∃ x, x = (lngF 0 S a (a.num.toNat + 1)).1 := ⟨_, rfl⟩
        obtain ⟨y, hy⟩ : ∃ y, y = (lngF 0 S a (a.num.toNat + 1)).2 := ⟨_, rfl⟩
        have HXY : Hid (lngF 0 S a (a.num.toNat + 1) = (x, y)) := Lib.hid (by rw [hx, hy])
        have HYN : Hid (y ≠ 0) := Lib.hid (by rw [hy]; exact hy0)
        obtain ⟨h1, h2, -⟩ := lngF_same (-1) 0 S a (a.num.toNat + 1)
        have e2 : (lngF (-1) S a (a.num.toNat + 1)).2 = y := by rw [h1, HXY.out]
        have e1 : (lngF (-1) S a (a.num.toNat + 1)).1 = x := by rw [h2 (by rw [e2]; exact HYN.out), HXY.out]
        have hx0 : ¬ x < 0 := by
          have := lngF_nonneg S a (a.num.toNat + 1) (by rw [e2]; exact HYN.out)
          rw [e1] at this
          omega
        have hxx : (x == x) = true := by simp
        have hyy : ((y : Int) == (y : Int)) = true := by simp
        have h39 : ∀ W', SysParts W' (.slice at_ S.terms.length ct) (.slice ap S.plurals.length cp) (.slice (some ⟨xb, xo, none⟩) S.sets.length cs) S → Calls Try.prog 39 #[.agg #[.int .i64 S.top, .int .i64 S.genders, .int .i64 S.cases, .int .i64 S.classes, .slice at_ S.terms.length ct, .slice ap S.plurals.length cp, .slice (some ⟨xb, xo, none⟩) S.sets.length cs], .agg #[.int .i64 a.num, .int .i64 a.set, .int .i64 a.gen, .int .i64 a.kas]] W' fun e w' => e = .returned (.tuple #[.int .i64 x, .int .i64 (y : Int)]) ∧ Below W'.heap.size W' w' := fun W' h => by
          have := refLongest_any S HRT.out.1 a HRT.out.2 HMX.out _ _ _ W' h
          rw [e1, e2] at this
          exact this
        have H39 := Lib.hid h39
        clear h39 hy0 hx hy h1 h2 e1 e2
        go_enter Try.func10, Try.ntmps10
        go_wp2_with fail
        generalize hW1 : World.alloc (World.alloc w _) _ = W1
        have hbn : Below w.heap.size w W1 := by rw [← hW1]; exact bAlloc (bAlloc (Below.refl _ _) _) _
        have s0 : W1.cell? ⟨w.heap.size, 0, none⟩ = some (.int .i64 S.top) := by rw [← hW1]; exact keep (bAlloc (Below.refl _ _) _) (cell_new rfl)
        have s1 : W1.cell? ⟨w.heap.size, 1, none⟩ = some (.int .i64 S.genders) := by rw [← hW1]; exact keep (bAlloc (Below.refl _ _) _) (cell_new rfl)
        have s2 : W1.cell? ⟨w.heap.size, 2, none⟩ = some (.int .i64 S.cases) := by rw [← hW1]; exact keep (bAlloc (Below.refl _ _) _) (cell_new rfl)
        have s3 : W1.cell? ⟨w.heap.size, 3, none⟩ = some (.int .i64 S.classes) := by rw [← hW1]; exact keep (bAlloc (Below.refl _ _) _) (cell_new rfl)
        have s4 : W1.cell? ⟨w.heap.size, 4, none⟩ = some (.slice at_ S.terms.length ct) := by rw [← hW1]; exact keep (bAlloc (Below.refl _ _) _) (cell_new rfl)
        have s5 : W1.cell? ⟨w.heap.size, 5, none⟩ = some (.slice ap S.plurals.length cp) := by rw [← hW1]; exact keep (bAlloc (Below.refl _ _) _) (cell_new rfl)
        have s6 : W1.cell? ⟨w.heap.size, 6, none⟩ = some (.slice (some ⟨xb, xo, none⟩) S.sets.length cs) := by rw [← hW1]; exact keep (bAlloc (Below.refl _ _) _) (cell_new rfl)
        have a0 : W1.cell? ⟨w.heap.size + 1, 0, none⟩ = some (.int .i64 a.num) := by rw [← hW1]; simp
        have a1 : W1.cell? ⟨w.heap.size + 1, 1, none⟩ = some (.int .i64 a.set) := by rw [← hW1]; simp
        have a2 : W1.cell? ⟨w.heap.size + 1, 2, none⟩ = some (.int .i64 a.gen) := by rw [← hW1]; simp
        have a3 : W1.cell? ⟨w.heap.size + 1, 3, none⟩ = some (.int .i64 a.kas) := by rw [← hW1]; simp
        have HB := Lib.hid hbn
        have HPn := Lib.hid (HPS.out.keep hbn)
        have hsl := cell_lt s0
        have hal := cell_lt a0
        (try (replace c0 := keep hbn c0))
        (try (have hxb := cell_lt c0))
        clear hW1 hbn
        go_wp2_with (first
          | (go_at_call 14; rw [HSV.out]; refine (small_any S _ _ _ _ HPn.out).mono ?_; rintro e w1 ⟨⟨b, rfl⟩, hb⟩; replace s0 := keep hb s0; replace s1 := keep hb s1; replace s2 := keep hb s2; replace s3 := keep hb s3; replace s4 := keep hb s4; replace s5 := keep hb s5; replace s6 := keep hb s6; replace a0 := keep hb a0; replace a1 := keep hb a1; replace a2 := keep hb a2; replace a3 := keep hb a3; replace hsl := cell_lt s0; replace hal := cell_lt a0; replace HPn := Lib.hid (HPn.out.keep hb); replace HB := Lib.hid (bThen HB.out hb); (try (replace c0 := keep hb c0; replace hxb := cell_lt c0)); clear hb; cases b)
          | (go_at_call 15; refine (known_any _).mono ?_; rintro e wk ⟨rfl, hb⟩; replace HB := Lib.hid (bThen HB.out hb); clear hb)
          | (go_at_call 36; refine (H36.out _ HPn.out).mono ?_; rintro e w2 ⟨hq, hb⟩; obtain rfl := UsesPost.bad hq HR.out; replace s0 := keep hb s0; replace s1 := keep hb s1; replace s2 := keep hb s2; replace s3 := keep hb s3; replace s4 := keep hb s4; replace s5 := keep hb s5; replace s6 := keep hb s6; replace a0 := keep hb a0; replace a1 := keep hb a1; replace a2 := keep hb a2; replace a3 := keep hb a3; replace hsl := cell_lt s0; replace hal := cell_lt a0; replace HPn := Lib.hid (HPn.out.keep hb); replace HB := Lib.hid (bThen HB.out hb); (try (replace c0 := keep hb c0; replace hxb := cell_lt c0)); clear hb hq)
          | (go_at_call 37; refine (H37.out _ HPn.out).mono ?_; rintro e w3 ⟨hq, hb⟩; obtain rfl := LongestPost.some hq HE0.out HXY.out HYN.out; replace s0 := keep hb s0; replace s1 := keep hb s1; replace s2 := keep hb s2; replace s3 := keep hb s3; replace s4 := keep hb s4; replace s5 := keep hb s5; replace s6 := keep hb s6; replace a0 := keep hb a0; replace a1 := keep hb a1; replace a2 := keep hb a2; replace a3 := keep hb a3; replace hsl := cell_lt s0; replace hal := cell_lt a0; replace HPn := Lib.hid (HPn.out.keep hb); replace HB := Lib.hid (bThen HB.out hb); (try (replace c0 := keep hb c0; replace hxb := cell_lt c0)); (try (replace HRD := Lib.hid (HRD.out.keep IntAt.stable hb))); clear hb hq)
          | (go_at_call 22; refine (H22.out _ HPn.out).mono ?_; rintro e w4 ⟨rfl, hb⟩; rw [HER.out]; replace s0 := keep hb s0; replace s1 := keep hb s1; replace s2 := keep hb s2; replace s3 := keep hb s3; replace s4 := keep hb s4; replace s5 := keep hb s5; replace s6 := keep hb s6; replace a0 := keep hb a0; replace a1 := keep hb a1; replace a2 := keep hb a2; replace a3 := keep hb a3; replace hsl := cell_lt s0; replace hal := cell_lt a0; replace HPn := Lib.hid (HPn.out.keep hb); replace HB := Lib.hid (bThen HB.out hb); (try (replace c0 := keep hb c0; replace hxb := cell_lt c0)); (try (replace HRD := Lib.hid (HRD.out.keep IntAt.stable hb))); clear hb)
          | (go_at_call 39; refine (H39.out _ HPn.out).mono ?_; rintro e w7 ⟨rfl, hb⟩; replace s0 := keep hb s0; replace s1 := keep hb s1; replace s2 := keep hb s2; replace s3 := keep hb s3; replace s4 := keep hb s4; replace s5 := keep hb s5; replace s6 := keep hb s6; replace a0 := keep hb a0; replace a1 := keep hb a1; replace a2 := keep hb a2; replace a3 := keep hb a3; replace hsl := cell_lt s0; replace hal := cell_lt a0; replace HPn := Lib.hid (HPn.out.keep hb); replace HB := Lib.hid (bThen HB.out hb); (try (replace c0 := keep hb c0; replace hxb := cell_lt c0)); clear hb))
        all_goals
          first
            | (go_ret; exact ⟨rfl, HB.out⟩)
            | (exfalso; omega)
  by_cases hr1 : ((setOf S set).length : Int) ≤ rule
  · have HR : Hid (hasRule S set rule = false) := Lib.hid (by have : ¬ rule < ((setOf S set).length : Int) := (by omega); simp [hasRule, exst, this])
    rcases HW3.out with h2 | h4 | h0
    · have HEN := Lib.hid h2
      have HNZ : Hid ((2 : Int) ≠ 0) := Lib.hid (by decide)
      have HER : Hid (refErr S a true = 2) := Lib.hid (by rw [scanErr_ref, h2])
      clear h2
      go_enter Try.func10, Try.ntmps10
      go_wp2_with fail
      generalize hW1 : World.alloc (World.alloc w _) _ = W1
      have hbn : Below w.heap.size w W1 := by rw [← hW1]; exact bAlloc (bAlloc (Below.refl _ _) _) _
      have s0 : W1.cell? ⟨w.heap.size, 0, none⟩ = some (.int .i64 S.top) := by rw [← hW1]; exact keep (bAlloc (Below.refl _ _) _) (cell_new rfl)
      have s1 : W1.cell? ⟨w.heap.size, 1, none⟩ = some (.int .i64 S.genders) := by rw [← hW1]; exact keep (bAlloc (Below.refl _ _) _) (cell_new rfl)
      have s2 : W1.cell? ⟨w.heap.size, 2, none⟩ = some (.int .i64 S.cases) := by rw [← hW1]; exact keep (bAlloc (Below.refl _ _) _) (cell_new rfl)
      have s3 : W1.cell? ⟨w.heap.size, 3, none⟩ = some (.int .i64 S.classes) := by rw [← hW1]; exact keep (bAlloc (Below.refl _ _) _) (cell_new rfl)
      have s4 : W1.cell? ⟨w.heap.size, 4, none⟩ = some (.slice at_ S.terms.length ct) := by rw [← hW1]; exact keep (bAlloc (Below.refl _ _) _) (cell_new rfl)
      have s5 : W1.cell? ⟨w.heap.size, 5, none⟩ = some (.slice ap S.plurals.length cp) := by rw [← hW1]; exact keep (bAlloc (Below.refl _ _) _) (cell_new rfl)
      have s6 : W1.cell? ⟨w.heap.size, 6, none⟩ = some (.slice (some ⟨xb, xo, none⟩) S.sets.length cs) := by rw [← hW1]; exact keep (bAlloc (Below.refl _ _) _) (cell_new rfl)
      have a0 : W1.cell? ⟨w.heap.size + 1, 0, none⟩ = some (.int .i64 a.num) := by rw [← hW1]; simp
      have a1 : W1.cell? ⟨w.heap.size + 1, 1, none⟩ = some (.int .i64 a.set) := by rw [← hW1]; simp
      have a2 : W1.cell? ⟨w.heap.size + 1, 2, none⟩ = some (.int .i64 a.gen) := by rw [← hW1]; simp
      have a3 : W1.cell? ⟨w.heap.size + 1, 3, none⟩ = some (.int .i64 a.kas) := by rw [← hW1]; simp
      have HB := Lib.hid hbn
      have HPn := Lib.hid (HPS.out.keep hbn)
      have hsl := cell_lt s0
      have hal := cell_lt a0
      (try (replace c0 := keep hbn c0))
      (try (have hxb := cell_lt c0))
      clear hW1 hbn
      go_wp2_with (first
        | (go_at_call 14; rw [HSV.out]; refine (small_any S _ _ _ _ HPn.out).mono ?_; rintro e w1 ⟨⟨b, rfl⟩, hb⟩; replace s0 := keep hb s0; replace s1 := keep hb s1; replace s2 := keep hb s2; replace s3 := keep hb s3; replace s4 := keep hb s4; replace s5 := keep hb s5; replace s6 := keep hb s6; replace a0 := keep hb a0; replace a1 := keep hb a1; replace a2 := keep hb a2; replace a3 := keep hb a3; replace hsl := cell_lt s0; replace hal := cell_lt a0; replace HPn := Lib.hid (HPn.out.keep hb); replace HB := Lib.hid (bThen HB.out hb); (try (replace c0 := keep hb c0; replace hxb := cell_lt c0)); clear hb; cases b)
        | (go_at_call 15; refine (known_any _).mono ?_; rintro e wk ⟨rfl, hb⟩; replace HB := Lib.hid (bThen HB.out hb); clear hb)
        | (go_at_call 36; refine (H36.out _ HPn.out).mono ?_; rintro e w2 ⟨hq, hb⟩; obtain rfl := UsesPost.bad hq HR.out; replace s0 := keep hb s0; replace s1 := keep hb s1; replace s2 := keep hb s2; replace s3 := keep hb s3; replace s4 := keep hb s4; replace s5 := keep hb s5; replace s6 := keep hb s6; replace a0 := keep hb a0; replace a1 := keep hb a1; replace a2 := keep hb a2; replace a3 := keep hb a3; replace hsl := cell_lt s0; replace hal := cell_lt a0; replace HPn := Lib.hid (HPn.out.keep hb); replace HB := Lib.hid (bThen HB.out hb); (try (replace c0 := keep hb c0; replace hxb := cell_lt c0)); clear hb hq)
        | (go_at_call 37; refine (H37.out _ HPn.out).mono ?_; rintro e w3 ⟨hq, hb⟩; obtain rfl := LongestPost.err hq HEN.out HNZ.out; replace s0 := keep hb s0; replace s1 := keep hb s1; replace s2 := keep hb s2; replace s3 := keep hb s3; replace s4 := keep hb s4; replace s5 := keep hb s5; replace s6 := keep hb s6; replace a0 := keep hb a0; replace a1 := keep hb a1; replace a2 := keep hb a2; replace a3 := keep hb a3; replace hsl := cell_lt s0; replace hal := cell_lt a0; replace HPn := Lib.hid (HPn.out.keep hb); replace HB := Lib.hid (bThen HB.out hb); (try (replace c0 := keep hb c0; replace hxb := cell_lt c0)); (try (replace HRD := Lib.hid (HRD.out.keep IntAt.stable hb))); clear hb hq)
        | (go_at_call 22; refine (H22.out _ HPn.out).mono ?_; rintro e w4 ⟨rfl, hb⟩; rw [HER.out]; replace s0 := keep hb s0; replace s1 := keep hb s1; replace s2 := keep hb s2; replace s3 := keep hb s3; replace s4 := keep hb s4; replace s5 := keep hb s5; replace s6 := keep hb s6; replace a0 := keep hb a0; replace a1 := keep hb a1; replace a2 := keep hb a2; replace a3 := keep hb a3; replace hsl := cell_lt s0; replace hal := cell_lt a0; replace HPn := Lib.hid (HPn.out.keep hb); replace HB := Lib.hid (bThen HB.out hb); (try (replace c0 := keep hb c0; replace hxb := cell_lt c0)); (try (replace HRD := Lib.hid (HRD.out.keep IntAt.stable hb))); clear hb))
      all_goals
        first
          | (go_ret; exact ⟨rfl, HB.out⟩)
          | (exfalso; omega)
    · have HEN := Lib.hid h4
      have HNZ : Hid ((4 : Int) ≠ 0) := Lib.hid (by decide)
      have HER : Hid (refErr S a true = 4) := Lib.hid (by rw [scanErr_ref, h4])
      clear h4
      go_enter Try.func10, Try.ntmps10
      go_wp2_with fail
      generalize hW1 : World.alloc (World.alloc w _) _ = W1
      have hbn : Below w.heap.size w W1 := by rw [← hW1]; exact bAlloc (bAlloc (Below.refl _ _) _) _
      have s0 : W1.cell? ⟨w.heap.size, 0, none⟩ = some (.int .i64 S.top) := by rw [← hW1]; exact keep (bAlloc (Below.refl _ _) _) (cell_new rfl)
      have s1 : W1.cell? ⟨w.heap.size, 1, none⟩ = some (.int .i64 S.genders) := by rw [← hW1]; exact keep (bAlloc (Below.refl _ _) _) (cell_new rfl)
      have s2 : W1.cell? ⟨w.heap.size, 2, none⟩ = some (.int .i64 S.cases) := by rw [← hW1]; exact keep (bAlloc (Below.refl _ _) _) (cell_new rfl)
      have s3 : W1.cell? ⟨w.heap.size, 3, none⟩ = some (.int .i64 S.classes) := by rw [← hW1]; exact keep (bAlloc (Below.refl _ _) _) (cell_new rfl)
      have s4 : W1.cell? ⟨w.heap.size, 4, none⟩ = some (.slice at_ S.terms.length ct) := by rw [← hW1]; exact keep (bAlloc (Below.refl _ _) _) (cell_new rfl)
      have s5 : W1.cell? ⟨w.heap.size, 5, none⟩ = some (.slice ap S.plurals.length cp) := by rw [← hW1]; exact keep (bAlloc (Below.refl _ _) _) (cell_new rfl)
      have s6 : W1.cell? ⟨w.heap.size, 6, none⟩ = some (.slice (some ⟨xb, xo, none⟩) S.sets.length cs) := by rw [← hW1]; exact keep (bAlloc (Below.refl _ _) _) (cell_new rfl)
      have a0 : W1.cell? ⟨w.heap.size + 1, 0, none⟩ = some (.int .i64 a.num) := by rw [← hW1]; simp
      have a1 : W1.cell? ⟨w.heap.size + 1, 1, none⟩ = some (.int .i64 a.set) := by rw [← hW1]; simp
      have a2 : W1.cell? ⟨w.heap.size + 1, 2, none⟩ = some (.int .i64 a.gen) := by rw [← hW1]; simp
      have a3 : W1.cell? ⟨w.heap.size + 1, 3, none⟩ = some (.int .i64 a.kas) := by rw [← hW1]; simp
      have HB := Lib.hid hbn
      have HPn := Lib.hid (HPS.out.keep hbn)
      have hsl := cell_lt s0
      have hal := cell_lt a0
      (try (replace c0 := keep hbn c0))
      (try (have hxb := cell_lt c0))
      clear hW1 hbn
      go_wp2_with (first
        | (go_at_call 14; rw [HSV.out]; refine (small_any S _ _ _ _ HPn.out).mono ?_; rintro e w1 ⟨⟨b, rfl⟩, hb⟩; replace s0 := keep hb s0; replace s1 := keep hb s1; replace s2 := keep hb s2; replace s3 := keep hb s3; replace s4 := keep hb s4; replace s5 := keep hb s5; replace s6 := keep hb s6; replace a0 := keep hb a0; replace a1 := keep hb a1; replace a2 := keep hb a2; replace a3 := keep hb a3; replace hsl := cell_lt s0; replace hal := cell_lt a0; replace HPn := Lib.hid (HPn.out.keep hb); replace HB := Lib.hid (bThen HB.out hb); (try (replace c0 := keep hb c0; replace hxb := cell_lt c0)); clear hb; cases b)
        | (go_at_call 15; refine (known_any _).mono ?_; rintro e wk ⟨rfl, hb⟩; replace HB := Lib.hid (bThen HB.out hb); clear hb)
        | (go_at_call 36; refine (H36.out _ HPn.out).mono ?_; rintro e w2 ⟨hq, hb⟩; obtain rfl := UsesPost.bad hq HR.out; replace s0 := keep hb s0; replace s1 := keep hb s1; replace s2 := keep hb s2; replace s3 := keep hb s3; replace s4 := keep hb s4; replace s5 := keep hb s5; replace s6 := keep hb s6; replace a0 := keep hb a0; replace a1 := keep hb a1; replace a2 := keep hb a2; replace a3 := keep hb a3; replace hsl := cell_lt s0; replace hal := cell_lt a0; replace HPn := Lib.hid (HPn.out.keep hb); replace HB := Lib.hid (bThen HB.out hb); (try (replace c0 := keep hb c0; replace hxb := cell_lt c0)); clear hb hq)
        | (go_at_call 37; refine (H37.out _ HPn.out).mono ?_; rintro e w3 ⟨hq, hb⟩; obtain rfl := LongestPost.err hq HEN.out HNZ.out; replace s0 := keep hb s0; replace s1 := keep hb s1; replace s2 := keep hb s2; replace s3 := keep hb s3; replace s4 := keep hb s4; replace s5 := keep hb s5; replace s6 := keep hb s6; replace a0 := keep hb a0; replace a1 := keep hb a1; replace a2 := keep hb a2; replace a3 := keep hb a3; replace hsl := cell_lt s0; replace hal := cell_lt a0; replace HPn := Lib.hid (HPn.out.keep hb); replace HB := Lib.hid (bThen HB.out hb); (try (replace c0 := keep hb c0; replace hxb := cell_lt c0)); (try (replace HRD := Lib.hid (HRD.out.keep IntAt.stable hb))); clear hb hq)
        | (go_at_call 22; refine (H22.out _ HPn.out).mono ?_; rintro e w4 ⟨rfl, hb⟩; rw [HER.out]; replace s0 := keep hb s0; replace s1 := keep hb s1; replace s2 := keep hb s2; replace s3 := keep hb s3; replace s4 := keep hb s4; replace s5 := keep hb s5; replace s6 := keep hb s6; replace a0 := keep hb a0; replace a1 := keep hb a1; replace a2 := keep hb a2; replace a3 := keep hb a3; replace hsl := cell_lt s0; replace hal := cell_lt a0; replace HPn := Lib.hid (HPn.out.keep hb); replace HB := Lib.hid (bThen HB.out hb); (try (replace c0 := keep hb c0; replace hxb := cell_lt c0)); (try (replace HRD := Lib.hid (HRD.out.keep IntAt.stable hb))); clear hb))
      all_goals
        first
          | (go_ret; exact ⟨rfl, HB.out⟩)
          | (exfalso; omega)
    · have hok : askOk S a = true := by
        cases h : askOk S a
        · unfold scanErr at h0; simp [h] at h0
        · rfl
      have hmx : a.num ≤ 20000 := by
        unfold scanErr at h0; simp [hok] at h0; omega
      have HE0 := Lib.hid h0
      have HMX := Lib.hid hmx
      have HER : Hid (refErr S a true = 0) := Lib.hid (by rw [scanErr_ref, h0])
      have HRT := Lib.hid (askRight_of hok)
      clear h0 hok
      clear hmx
      by_cases hy0 : (lngF 0 S a (a.num.toNat + 1)).2 = 0
      · have HY := Lib.hid hy0
        have h39 : ∀ W', SysParts W' (.slice at_ S.terms.length ct) (.slice ap S.plurals.length cp) (.slice (some ⟨xb, xo, none⟩) S.sets.length cs) S → Calls Try.prog 39 #[.agg #[.int .i64 S.top, .int .i64 S.genders, .int .i64 S.cases, .int .i64 S.classes, .slice at_ S.terms.length ct, .slice ap S.plurals.length cp, .slice (some ⟨xb, xo, none⟩) S.sets.length cs], .agg #[.int .i64 a.num, .int .i64 a.set, .int .i64 a.gen, .int .i64 a.kas]] W' fun e w' => e = .returned (.tuple #[.int .i64 (-1), .int .i64 0]) ∧ Below W'.heap.size W' w' := fun W' h => by
          have := refLongest_any S HRT.out.1 a HRT.out.2 HMX.out _ _ _ W' h
          obtain ⟨h1, -, h3⟩ := lngF_same (-1) 0 S a (a.num.toNat + 1)
          have h0 := h1.trans HY.out
          rw [h3 h0, h0] at this
          exact this
        have H39 := Lib.hid h39
        clear h39 hy0
        go_enter Try.func10, Try.ntmps10
        go_wp2_with fail
        generalize hW1 : World.alloc (World.alloc w _) _ = W1
        have hbn : Below w.heap.size w W1 := by rw [← hW1]; exact bAlloc (bAlloc (Below.refl _ _) _) _
        have s0 : W1.cell? ⟨w.heap.size, 0, none⟩ = some (.int .i64 S.top) := by rw [← hW1]; exact keep (bAlloc (Below.refl _ _) _) (cell_new rfl)
        have s1 : W1.cell? ⟨w.heap.size, 1, none⟩ = some (.int .i64 S.genders) := by rw [← hW1]; exact keep (bAlloc (Below.refl _ _) _) (cell_new rfl)
        have s2 : W1.cell? ⟨w.heap.size, 2, none⟩ = some (.int .i64 S.cases) := by rw [← hW1]; exact keep (bAlloc (Below.refl _ _) _) (cell_new rfl)
        have s3 : W1.cell? ⟨w.heap.size, 3, none⟩ = some (.int .i64 S.classes) := by rw [← hW1]; exact keep (bAlloc (Below.refl _ _) _) (cell_new rfl)
        have s4 : W1.cell? ⟨w.heap.size, 4, none⟩ = some (.slice at_ S.terms.length ct) := by rw [← hW1]; exact keep (bAlloc (Below.refl _ _) _) (cell_new rfl)
        have s5 : W1.cell? ⟨w.heap.size, 5, none⟩ = some (.slice ap S.plurals.length cp) := by rw [← hW1]; exact keep (bAlloc (Below.refl _ _) _) (cell_new rfl)
        have s6 : W1.cell? ⟨w.heap.size, 6, none⟩ = some (.slice (some ⟨xb, xo, none⟩) S.sets.length cs) := by rw [← hW1]; exact keep (bAlloc (Below.refl _ _) _) (cell_new rfl)
        have a0 : W1.cell? ⟨w.heap.size + 1, 0, none⟩ = some (.int .i64 a.num) := by rw [← hW1]; simp
        have a1 : W1.cell? ⟨w.heap.size + 1, 1, none⟩ = some (.int .i64 a.set) := by rw [← hW1]; simp
        have a2 : W1.cell? ⟨w.heap.size + 1, 2, none⟩ = some (.int .i64 a.gen) := by rw [← hW1]; simp
        have a3 : W1.cell? ⟨w.heap.size + 1, 3, none⟩ = some (.int .i64 a.kas) := by rw [← hW1]; simp
        have HB := Lib.hid hbn
        have HPn := Lib.hid (HPS.out.keep hbn)
        have hsl := cell_lt s0
        have hal := cell_lt a0
        (try (replace c0 := keep hbn c0))
        (try (have hxb := cell_lt c0))
        clear hW1 hbn
        go_wp2_with (first
          | (go_at_call 14; rw [HSV.out]; refine (small_any S _ _ _ _ HPn.out).mono ?_; rintro e w1 ⟨⟨b, rfl⟩, hb⟩; replace s0 := keep hb s0; replace s1 := keep hb s1; replace s2 := keep hb s2; replace s3 := keep hb s3; replace s4 := keep hb s4; replace s5 := keep hb s5; replace s6 := keep hb s6; replace a0 := keep hb a0; replace a1 := keep hb a1; replace a2 := keep hb a2; replace a3 := keep hb a3; replace hsl := cell_lt s0; replace hal := cell_lt a0; replace HPn := Lib.hid (HPn.out.keep hb); replace HB := Lib.hid (bThen HB.out hb); (try (replace c0 := keep hb c0; replace hxb := cell_lt c0)); clear hb; cases b)
          | (go_at_call 15; refine (known_any _).mono ?_; rintro e wk ⟨rfl, hb⟩; replace HB := Lib.hid (bThen HB.out hb); clear hb)
          | (go_at_call 36; refine (H36.out _ HPn.out).mono ?_; rintro e w2 ⟨hq, hb⟩; obtain rfl := UsesPost.bad hq HR.out; replace s0 := keep hb s0; replace s1 := keep hb s1; replace s2 := keep hb s2; replace s3 := keep hb s3; replace s4 := keep hb s4; replace s5 := keep hb s5; replace s6 := keep hb s6; replace a0 := keep hb a0; replace a1 := keep hb a1; replace a2 := keep hb a2; replace a3 := keep hb a3; replace hsl := cell_lt s0; replace hal := cell_lt a0; replace HPn := Lib.hid (HPn.out.keep hb); replace HB := Lib.hid (bThen HB.out hb); (try (replace c0 := keep hb c0; replace hxb := cell_lt c0)); clear hb hq)
          | (go_at_call 37; refine (H37.out _ HPn.out).mono ?_; rintro e w3 ⟨hq, hb⟩; obtain rfl := LongestPost.none hq HE0.out HY.out; replace s0 := keep hb s0; replace s1 := keep hb s1; replace s2 := keep hb s2; replace s3 := keep hb s3; replace s4 := keep hb s4; replace s5 := keep hb s5; replace s6 := keep hb s6; replace a0 := keep hb a0; replace a1 := keep hb a1; replace a2 := keep hb a2; replace a3 := keep hb a3; replace hsl := cell_lt s0; replace hal := cell_lt a0; replace HPn := Lib.hid (HPn.out.keep hb); replace HB := Lib.hid (bThen HB.out hb); (try (replace c0 := keep hb c0; replace hxb := cell_lt c0)); (try (replace HRD := Lib.hid (HRD.out.keep IntAt.stable hb))); clear hb hq)
          | (go_at_call 22; refine (H22.out _ HPn.out).mono ?_; rintro e w4 ⟨rfl, hb⟩; rw [HER.out]; replace s0 := keep hb s0; replace s1 := keep hb s1; replace s2 := keep hb s2; replace s3 := keep hb s3; replace s4 := keep hb s4; replace s5 := keep hb s5; replace s6 := keep hb s6; replace a0 := keep hb a0; replace a1 := keep hb a1; replace a2 := keep hb a2; replace a3 := keep hb a3; replace hsl := cell_lt s0; replace hal := cell_lt a0; replace HPn := Lib.hid (HPn.out.keep hb); replace HB := Lib.hid (bThen HB.out hb); (try (replace c0 := keep hb c0; replace hxb := cell_lt c0)); (try (replace HRD := Lib.hid (HRD.out.keep IntAt.stable hb))); clear hb)
          | (go_at_call 39; refine (H39.out _ HPn.out).mono ?_; rintro e w7 ⟨rfl, hb⟩; replace s0 := keep hb s0; replace s1 := keep hb s1; replace s2 := keep hb s2; replace s3 := keep hb s3; replace s4 := keep hb s4; replace s5 := keep hb s5; replace s6 := keep hb s6; replace a0 := keep hb a0; replace a1 := keep hb a1; replace a2 := keep hb a2; replace a3 := keep hb a3; replace hsl := cell_lt s0; replace hal := cell_lt a0; replace HPn := Lib.hid (HPn.out.keep hb); replace HB := Lib.hid (bThen HB.out hb); (try (replace c0 := keep hb c0; replace hxb := cell_lt c0)); clear hb))
        all_goals
          first
            | (go_ret; exact ⟨rfl, HB.out⟩)
            | (exfalso; omega)
      · obtain ⟨x, hx⟩ : ∃ x, x = (lngF 0 S a (a.num.toNat + 1)).1 := ⟨_, rfl⟩
        obtain ⟨y, hy⟩ : ∃ y, y = (lngF 0 S a (a.num.toNat + 1)).2 := ⟨_, rfl⟩
        have HXY : Hid (lngF 0 S a (a.num.toNat + 1) = (x, y)) := Lib.hid (by rw [hx, hy])
        have HYN : Hid (y ≠ 0) := Lib.hid (by rw [hy]; exact hy0)
        obtain ⟨h1, h2, -⟩ := lngF_same (-1) 0 S a (a.num.toNat + 1)
        have e2 : (lngF (-1) S a (a.num.toNat + 1)).2 = y := by rw [h1, HXY.out]
        have e1 : (lngF (-1) S a (a.num.toNat + 1)).1 = x := by rw [h2 (by rw [e2]; exact HYN.out), HXY.out]
        have hx0 : ¬ x < 0 := by
          have := lngF_nonneg S a (a.num.toNat + 1) (by rw [e2]; exact HYN.out)
          rw [e1] at this
          omega
        have hxx : (x == x) = true := by simp
        have hyy : ((y : Int) == (y : Int)) = true := by simp
        have h39 : ∀ W', SysParts W' (.slice at_ S.terms.length ct) (.slice ap S.plurals.length cp) (.slice (some ⟨xb, xo, none⟩) S.sets.length cs) S → Calls Try.prog 39 #[.agg #[.int .i64 S.top, .int .i64 S.genders, .int .i64 S.cases, .int .i64 S.classes, .slice at_ S.terms.length ct, .slice ap S.plurals.length cp, .slice (some ⟨xb, xo, none⟩) S.sets.length cs], .agg #[.int .i64 a.num, .int .i64 a.set, .int .i64 a.gen, .int .i64 a.kas]] W' fun e w' => e = .returned (.tuple #[.int .i64 x, .int .i64 (y : Int)]) ∧ Below W'.heap.size W' w' := fun W' h => by
          have := refLongest_any S HRT.out.1 a HRT.out.2 HMX.out _ _ _ W' h
          rw [e1, e2] at this
          exact this
        have H39 := Lib.hid h39
        clear h39 hy0 hx hy h1 h2 e1 e2
        go_enter Try.func10, Try.ntmps10
        go_wp2_with fail
        generalize hW1 : World.alloc (World.alloc w _) _ = W1
        have hbn : Below w.heap.size w W1 := by rw [← hW1]; exact bAlloc (bAlloc (Below.refl _ _) _) _
        have s0 : W1.cell? ⟨w.heap.size, 0, none⟩ = some (.int .i64 S.top) := by rw [← hW1]; exact keep (bAlloc (Below.refl _ _) _) (cell_new rfl)
        have s1 : W1.cell? ⟨w.heap.size, 1, none⟩ = some (.int .i64 S.genders) := by rw [← hW1]; exact keep (bAlloc (Below.refl _ _) _) (cell_new rfl)
        have s2 : W1.cell? ⟨w.heap.size, 2, none⟩ = some (.int .i64 S.cases) := by rw [← hW1]; exact keep (bAlloc (Below.refl _ _) _) (cell_new rfl)
        have s3 : W1.cell? ⟨w.heap.size, 3, none⟩ = some (.int .i64 S.classes) := by rw [← hW1]; exact keep (bAlloc (Below.refl _ _) _) (cell_new rfl)
        have s4 : W1.cell? ⟨w.heap.size, 4, none⟩ = some (.slice at_ S.terms.length ct) := by rw [← hW1]; exact keep (bAlloc (Below.refl _ _) _) (cell_new rfl)
        have s5 : W1.cell? ⟨w.heap.size, 5, none⟩ = some (.slice ap S.plurals.length cp) := by rw [← hW1]; exact keep (bAlloc (Below.refl _ _) _) (cell_new rfl)
        have s6 : W1.cell? ⟨w.heap.size, 6, none⟩ = some (.slice (some ⟨xb, xo, none⟩) S.sets.length cs) := by rw [← hW1]; exact keep (bAlloc (Below.refl _ _) _) (cell_new rfl)
        have a0 : W1.cell? ⟨w.heap.size + 1, 0, none⟩ = some (.int .i64 a.num) := by rw [← hW1]; simp
        have a1 : W1.cell? ⟨w.heap.size + 1, 1, none⟩ = some (.int .i64 a.set) := by rw [← hW1]; simp
        have a2 : W1.cell? ⟨w.heap.size + 1, 2, none⟩ = some (.int .i64 a.gen) := by rw [← hW1]; simp
        have a3 : W1.cell? ⟨w.heap.size + 1, 3, none⟩ = some (.int .i64 a.kas) := by rw [← hW1]; simp
        have HB := Lib.hid hbn
        have HPn := Lib.hid (HPS.out.keep hbn)
        have hsl := cell_lt s0
        have hal := cell_lt a0
        (try (replace c0 := keep hbn c0))
        (try (have hxb := cell_lt c0))
        clear hW1 hbn
        go_wp2_with (first
          | (go_at_call 14; rw [HSV.out]; refine (small_any S _ _ _ _ HPn.out).mono ?_; rintro e w1 ⟨⟨b, rfl⟩, hb⟩; replace s0 := keep hb s0; replace s1 := keep hb s1; replace s2 := keep hb s2; replace s3 := keep hb s3; replace s4 := keep hb s4; replace s5 := keep hb s5; replace s6 := keep hb s6; replace a0 := keep hb a0; replace a1 := keep hb a1; replace a2 := keep hb a2; replace a3 := keep hb a3; replace hsl := cell_lt s0; replace hal := cell_lt a0; replace HPn := Lib.hid (HPn.out.keep hb); replace HB := Lib.hid (bThen HB.out hb); (try (replace c0 := keep hb c0; replace hxb := cell_lt c0)); clear hb; cases b)
          | (go_at_call 15; refine (known_any _).mono ?_; rintro e wk ⟨rfl, hb⟩; replace HB := Lib.hid (bThen HB.out hb); clear hb)
          | (go_at_call 36; refine (H36.out _ HPn.out).mono ?_; rintro e w2 ⟨hq, hb⟩; obtain rfl := UsesPost.bad hq HR.out; replace s0 := keep hb s0; replace s1 := keep hb s1; replace s2 := keep hb s2; replace s3 := keep hb s3; replace s4 := keep hb s4; replace s5 := keep hb s5; replace s6 := keep hb s6; replace a0 := keep hb a0; replace a1 := keep hb a1; replace a2 := keep hb a2; replace a3 := keep hb a3; replace hsl := cell_lt s0; replace hal := cell_lt a0; replace HPn := Lib.hid (HPn.out.keep hb); replace HB := Lib.hid (bThen HB.out hb); (try (replace c0 := keep hb c0; replace hxb := cell_lt c0)); clear hb hq)
          | (go_at_call 37; refine (H37.out _ HPn.out).mono ?_; rintro e w3 ⟨hq, hb⟩; obtain rfl := LongestPost.some hq HE0.out HXY.out HYN.out; replace s0 := keep hb s0; replace s1 := keep hb s1; replace s2 := keep hb s2; replace s3 := keep hb s3; replace s4 := keep hb s4; replace s5 := keep hb s5; replace s6 := keep hb s6; replace a0 := keep hb a0; replace a1 := keep hb a1; replace a2 := keep hb a2; replace a3 := keep hb a3; replace hsl := cell_lt s0; replace hal := cell_lt a0; replace HPn := Lib.hid (HPn.out.keep hb); replace HB := Lib.hid (bThen HB.out hb); (try (replace c0 := keep hb c0; replace hxb := cell_lt c0)); (try (replace HRD := Lib.hid (HRD.out.keep IntAt.stable hb))); clear hb hq)
          | (go_at_call 22; refine (H22.out _ HPn.out).mono ?_; rintro e w4 ⟨rfl, hb⟩; rw [HER.out]; replace s0 := keep hb s0; replace s1 := keep hb s1; replace s2 := keep hb s2; replace s3 := keep hb s3; replace s4 := keep hb s4; replace s5 := keep hb s5; replace s6 := keep hb s6; replace a0 := keep hb a0; replace a1 := keep hb a1; replace a2 := keep hb a2; replace a3 := keep hb a3; replace hsl := cell_lt s0; replace hal := cell_lt a0; replace HPn := Lib.hid (HPn.out.keep hb); replace HB := Lib.hid (bThen HB.out hb); (try (replace c0 := keep hb c0; replace hxb := cell_lt c0)); (try (replace HRD := Lib.hid (HRD.out.keep IntAt.stable hb))); clear hb)
          | (go_at_call 39; refine (H39.out _ HPn.out).mono ?_; rintro e w7 ⟨rfl, hb⟩; replace s0 := keep hb s0; replace s1 := keep hb s1; replace s2 := keep hb s2; replace s3 := keep hb s3; replace s4 := keep hb s4; replace s5 := keep hb s5; replace s6 := keep hb s6; replace a0 := keep hb a0; replace a1 := keep hb a1; replace a2 := keep hb a2; replace a3 := keep hb a3; replace hsl := cell_lt s0; replace hal := cell_lt a0; replace HPn := Lib.hid (HPn.out.keep hb); replace HB := Lib.hid (bThen HB.out hb); (try (replace c0 := keep hb c0; replace hxb := cell_lt c0)); clear hb))
        all_goals
          first
            | (go_ret; exact ⟨rfl, HB.out⟩)
            | (exfalso; omega)
  have HR : Hid (hasRule S set rule = true) := Lib.hid (by have := G1.out; have h2 : exst rule (setOf S set).length = true := (by simp [exst]; omega); simp [hasRule, this, h2])
  rcases HW3.out with h2 | h4 | h0
  · have HEN := Lib.hid h2
    have HNZ : Hid ((2 : Int) ≠ 0) := Lib.hid (by decide)
    have HER : Hid (refErr S a true = 2) := Lib.hid (by rw [scanErr_ref, h2])
    clear h2
    go_enter Try.func10, Try.ntmps10
    go_wp2_with fail
    generalize hW1 : World.alloc (World.alloc w _) _ = W1
    have hbn : Below w.heap.size w W1 := by rw [← hW1]; exact bAlloc (bAlloc (Below.refl _ _) _) _
    have s0 : W1.cell? ⟨w.heap.size, 0, none⟩ = some (.int .i64 S.top) := by rw [← hW1]; exact keep (bAlloc (Below.refl _ _) _) (cell_new rfl)
    have s1 : W1.cell? ⟨w.heap.size, 1, none⟩ = some (.int .i64 S.genders) := by rw [← hW1]; exact keep (bAlloc (Below.refl _ _) _) (cell_new rfl)
    have s2 : W1.cell? ⟨w.heap.size, 2, none⟩ = some (.int .i64 S.cases) := by rw [← hW1]; exact keep (bAlloc (Below.refl _ _) _) (cell_new rfl)
    have s3 : W1.cell? ⟨w.heap.size, 3, none⟩ = some (.int .i64 S.classes) := by rw [← hW1]; exact keep (bAlloc (Below.refl _ _) _) (cell_new rfl)
    have s4 : W1.cell? ⟨w.heap.size, 4, none⟩ = some (.slice at_ S.terms.length ct) := by rw [← hW1]; exact keep (bAlloc (Below.refl _ _) _) (cell_new rfl)
    have s5 : W1.cell? ⟨w.heap.size, 5, none⟩ = some (.slice ap S.plurals.length cp) := by rw [← hW1]; exact keep (bAlloc (Below.refl _ _) _) (cell_new rfl)
    have s6 : W1.cell? ⟨w.heap.size, 6, none⟩ = some (.slice (some ⟨xb, xo, none⟩) S.sets.length cs) := by rw [← hW1]; exact keep (bAlloc (Below.refl _ _) _) (cell_new rfl)
    have a0 : W1.cell? ⟨w.heap.size + 1, 0, none⟩ = some (.int .i64 a.num) := by rw [← hW1]; simp
    have a1 : W1.cell? ⟨w.heap.size + 1, 1, none⟩ = some (.int .i64 a.set) := by rw [← hW1]; simp
    have a2 : W1.cell? ⟨w.heap.size + 1, 2, none⟩ = some (.int .i64 a.gen) := by rw [← hW1]; simp
    have a3 : W1.cell? ⟨w.heap.size + 1, 3, none⟩ = some (.int .i64 a.kas) := by rw [← hW1]; simp
    have HB := Lib.hid hbn
    have HPn := Lib.hid (HPS.out.keep hbn)
    have hsl := cell_lt s0
    have hal := cell_lt a0
    (try (replace c0 := keep hbn c0))
    (try (have hxb := cell_lt c0))
    clear hW1 hbn
    go_wp2_with (first
      | (go_at_call 14; rw [HSV.out]; refine (small_any S _ _ _ _ HPn.out).mono ?_; rintro e w1 ⟨⟨b, rfl⟩, hb⟩; replace s0 := keep hb s0; replace s1 := keep hb s1; replace s2 := keep hb s2; replace s3 := keep hb s3; replace s4 := keep hb s4; replace s5 := keep hb s5; replace s6 := keep hb s6; replace a0 := keep hb a0; replace a1 := keep hb a1; replace a2 := keep hb a2; replace a3 := keep hb a3; replace hsl := cell_lt s0; replace hal := cell_lt a0; replace HPn := Lib.hid (HPn.out.keep hb); replace HB := Lib.hid (bThen HB.out hb); (try (replace c0 := keep hb c0; replace hxb := cell_lt c0)); clear hb; cases b)
      | (go_at_call 15; refine (known_any _).mono ?_; rintro e wk ⟨rfl, hb⟩; replace HB := Lib.hid (bThen HB.out hb); clear hb)
      | (go_at_call 36; refine (H36.out _ HPn.out).mono ?_; rintro e w2 ⟨hq, hb⟩; obtain rfl := UsesPost.err hq HR.out HEN.out HNZ.out; replace s0 := keep hb s0; replace s1 := keep hb s1; replace s2 := keep hb s2; replace s3 := keep hb s3; replace s4 := keep hb s4; replace s5 := keep hb s5; replace s6 := keep hb s6; replace a0 := keep hb a0; replace a1 := keep hb a1; replace a2 := keep hb a2; replace a3 := keep hb a3; replace hsl := cell_lt s0; replace hal := cell_lt a0; replace HPn := Lib.hid (HPn.out.keep hb); replace HB := Lib.hid (bThen HB.out hb); (try (replace c0 := keep hb c0; replace hxb := cell_lt c0)); clear hb hq)
      | (go_at_call 37; refine (H37.out _ HPn.out).mono ?_; rintro e w3 ⟨hq, hb⟩; obtain rfl := LongestPost.err hq HEN.out HNZ.out; replace s0 := keep hb s0; replace s1 := keep hb s1; replace s2 := keep hb s2; replace s3 := keep hb s3; replace s4 := keep hb s4; replace s5 := keep hb s5; replace s6 := keep hb s6; replace a0 := keep hb a0; replace a1 := keep hb a1; replace a2 := keep hb a2; replace a3 := keep hb a3; replace hsl := cell_lt s0; replace hal := cell_lt a0; replace HPn := Lib.hid (HPn.out.keep hb); replace HB := Lib.hid (bThen HB.out hb); (try (replace c0 := keep hb c0; replace hxb := cell_lt c0)); (try (replace HRD := Lib.hid (HRD.out.keep IntAt.stable hb))); clear hb hq)
      | (go_at_call 22; refine (H22.out _ HPn.out).mono ?_; rintro e w4 ⟨rfl, hb⟩; rw [HER.out]; replace s0 := keep hb s0; replace s1 := keep hb s1; replace s2 := keep hb s2; replace s3 := keep hb s3; replace s4 := keep hb s4; replace s5 := keep hb s5; replace s6 := keep hb s6; replace a0 := keep hb a0; replace a1 := keep hb a1; replace a2 := keep hb a2; replace a3 := keep hb a3; replace hsl := cell_lt s0; replace hal := cell_lt a0; replace HPn := Lib.hid (HPn.out.keep hb); replace HB := Lib.hid (bThen HB.out hb); (try (replace c0 := keep hb c0; replace hxb := cell_lt c0)); (try (replace HRD := Lib.hid (HRD.out.keep IntAt.stable hb))); clear hb))
    all_goals
      first
        | (go_ret; exact ⟨rfl, HB.out⟩)
        | (exfalso; omega)
  · have HEN := Lib.hid h4
    have HNZ : Hid ((4 : Int) ≠ 0) := Lib.hid (by decide)
    have HER : Hid (refErr S a true = 4) := Lib.hid (by rw [scanErr_ref, h4])
    clear h4
    go_enter Try.func10, Try.ntmps10
    go_wp2_with fail
    generalize hW1 : World.alloc (World.alloc w _) _ = W1
    have hbn : Below w.heap.size w W1 := by rw [← hW1]; exact bAlloc (bAlloc (Below.refl _ _) _) _
    have s0 : W1.cell? ⟨w.heap.size, 0, none⟩ = some (.int .i64 S.top) := by rw [← hW1]; exact keep (bAlloc (Below.refl _ _) _) (cell_new rfl)
    have s1 : W1.cell? ⟨w.heap.size, 1, none⟩ = some (.int .i64 S.genders) := by rw [← hW1]; exact keep (bAlloc (Below.refl _ _) _) (cell_new rfl)
    have s2 : W1.cell? ⟨w.heap.size, 2, none⟩ = some (.int .i64 S.cases) := by rw [← hW1]; exact keep (bAlloc (Below.refl _ _) _) (cell_new rfl)
    have s3 : W1.cell? ⟨w.heap.size, 3, none⟩ = some (.int .i64 S.classes) := by rw [← hW1]; exact keep (bAlloc (Below.refl _ _) _) (cell_new rfl)
    have s4 : W1.cell? ⟨w.heap.size, 4, none⟩ = some (.slice at_ S.terms.length ct) := by rw [← hW1]; exact keep (bAlloc (Below.refl _ _) _) (cell_new rfl)
    have s5 : W1.cell? ⟨w.heap.size, 5, none⟩ = some (.slice ap S.plurals.length cp) := by rw [← hW1]; exact keep (bAlloc (Below.refl _ _) _) (cell_new rfl)
    have s6 : W1.cell? ⟨w.heap.size, 6, none⟩ = some (.slice (some ⟨xb, xo, none⟩) S.sets.length cs) := by rw [← hW1]; exact keep (bAlloc (Below.refl _ _) _) (cell_new rfl)
    have a0 : W1.cell? ⟨w.heap.size + 1, 0, none⟩ = some (.int .i64 a.num) := by rw [← hW1]; simp
    have a1 : W1.cell? ⟨w.heap.size + 1, 1, none⟩ = some (.int .i64 a.set) := by rw [← hW1]; simp
    have a2 : W1.cell? ⟨w.heap.size + 1, 2, none⟩ = some (.int .i64 a.gen) := by rw [← hW1]; simp
    have a3 : W1.cell? ⟨w.heap.size + 1, 3, none⟩ = some (.int .i64 a.kas) := by rw [← hW1]; simp
    have HB := Lib.hid hbn
    have HPn := Lib.hid (HPS.out.keep hbn)
    have hsl := cell_lt s0
    have hal := cell_lt a0
    (try (replace c0 := keep hbn c0))
    (try (have hxb := cell_lt c0))
    clear hW1 hbn
    go_wp2_with (first
      | (go_at_call 14; rw [HSV.out]; refine (small_any S _ _ _ _ HPn.out).mono ?_; rintro e w1 ⟨⟨b, rfl⟩, hb⟩; replace s0 := keep hb s0; replace s1 := keep hb s1; replace s2 := keep hb s2; replace s3 := keep hb s3; replace s4 := keep hb s4; replace s5 := keep hb s5; replace s6 := keep hb s6; replace a0 := keep hb a0; replace a1 := keep hb a1; replace a2 := keep hb a2; replace a3 := keep hb a3; replace hsl := cell_lt s0; replace hal := cell_lt a0; replace HPn := Lib.hid (HPn.out.keep hb); replace HB := Lib.hid (bThen HB.out hb); (try (replace c0 := keep hb c0; replace hxb := cell_lt c0)); clear hb; cases b)
      | (go_at_call 15; refine (known_any _).mono ?_; rintro e wk ⟨rfl, hb⟩; replace HB := Lib.hid (bThen HB.out hb); clear hb)
      | (go_at_call 36; refine (H36.out _ HPn.out).mono ?_; rintro e w2 ⟨hq, hb⟩; obtain rfl := UsesPost.err hq HR.out HEN.out HNZ.out; replace s0 := keep hb s0; replace s1 := keep hb s1; replace s2 := keep hb s2; replace s3 := keep hb s3; replace s4 := keep hb s4; replace s5 := keep hb s5; replace s6 := keep hb s6; replace a0 := keep hb a0; replace a1 := keep hb a1; replace a2 := keep hb a2; replace a3 := keep hb a3; replace hsl := cell_lt s0; replace hal := cell_lt a0; replace HPn := Lib.hid (HPn.out.keep hb); replace HB := Lib.hid (bThen HB.out hb); (try (replace c0 := keep hb c0; replace hxb := cell_lt c0)); clear hb hq)
      | (go_at_call 37; refine (H37.out _ HPn.out).mono ?_; rintro e w3 ⟨hq, hb⟩; obtain rfl := LongestPost.err hq HEN.out HNZ.out; replace s0 := keep hb s0; replace s1 := keep hb s1; replace s2 := keep hb s2; replace s3 := keep hb s3; replace s4 := keep hb s4; replace s5 := keep hb s5; replace s6 := keep hb s6; replace a0 := keep hb a0; replace a1 := keep hb a1; replace a2 := keep hb a2; replace a3 := keep hb a3; replace hsl := cell_lt s0; replace hal := cell_lt a0; replace HPn := Lib.hid (HPn.out.keep hb); replace HB := Lib.hid (bThen HB.out hb); (try (replace c0 := keep hb c0; replace hxb := cell_lt c0)); (try (replace HRD := Lib.hid (HRD.out.keep IntAt.stable hb))); clear hb hq)
      | (go_at_call 22; refine (H22.out _ HPn.out).mono ?_; rintro e w4 ⟨rfl, hb⟩; rw [HER.out]; replace s0 := keep hb s0; replace s1 := keep hb s1; replace s2 := keep hb s2; replace s3 := keep hb s3; replace s4 := keep hb s4; replace s5 := keep hb s5; replace s6 := keep hb s6; replace a0 := keep hb a0; replace a1 := keep hb a1; replace a2 := keep hb a2; replace a3 := keep hb a3; replace hsl := cell_lt s0; replace hal := cell_lt a0; replace HPn := Lib.hid (HPn.out.keep hb); replace HB := Lib.hid (bThen HB.out hb); (try (replace c0 := keep hb c0; replace hxb := cell_lt c0)); (try (replace HRD := Lib.hid (HRD.out.keep IntAt.stable hb))); clear hb))
    all_goals
      first
        | (go_ret; exact ⟨rfl, HB.out⟩)
        | (exfalso; omega)
  · have hok : askOk S a = true := by
      cases h : askOk S a
      · unfold scanErr at h0; simp [h] at h0
      · rfl
    have hmx : a.num ≤ 20000 := by
      unfold scanErr at h0; simp [hok] at h0; omega
    have HE0 := Lib.hid h0
    have HMX := Lib.hid hmx
    have HER : Hid (refErr S a true = 0) := Lib.hid (by rw [scanErr_ref, h0])
    have HRT := Lib.hid (askRight_of hok)
    clear h0 hok
    obtain ⟨L, hL⟩ : ∃ L, L = usesTo S a a.num.toNat set rule := ⟨_, rfl⟩
    have HL := Lib.hid hL.symm
    have h38 : ∀ W', SysParts W' (.slice at_ S.terms.length ct) (.slice ap S.plurals.length cp) (.slice (some ⟨xb, xo, none⟩) S.sets.length cs) S → Calls Try.prog 38 #[.agg #[.int .i64 S.top, .int .i64 S.genders, .int .i64 S.cases, .int .i64 S.classes, .slice at_ S.terms.length ct, .slice ap S.plurals.length cp, .slice (some ⟨xb, xo, none⟩) S.sets.length cs], .agg #[.int .i64 a.num, .int .i64 a.set, .int .i64 a.gen, .int .i64 a.kas], .int .i64 set, .int .i64 rule] W' fun e w' => (∃ v, e = .returned v ∧ SliceV w' v 1 IntAt (L.map fun n : Nat => (n : Int))) ∧ Below W'.heap.size W' w' := fun W' h => by
      have := refUses_any S HRT.out.1 a HRT.out.2 HMX.out set rule _ _ _ W' h
      rw [HL.out] at this
      exact this
    have H38 := Lib.hid h38
    clear h38 hL hmx
    by_cases hy0 : (lngF 0 S a (a.num.toNat + 1)).2 = 0
    · have HY := Lib.hid hy0
      have h39 : ∀ W', SysParts W' (.slice at_ S.terms.length ct) (.slice ap S.plurals.length cp) (.slice (some ⟨xb, xo, none⟩) S.sets.length cs) S → Calls Try.prog 39 #[.agg #[.int .i64 S.top, .int .i64 S.genders, .int .i64 S.cases, .int .i64 S.classes, .slice at_ S.terms.length ct, .slice ap S.plurals.length cp, .slice (some ⟨xb, xo, none⟩) S.sets.length cs], .agg #[.int .i64 a.num, .int .i64 a.set, .int .i64 a.gen, .int .i64 a.kas]] W' fun e w' => e = .returned (.tuple #[.int .i64 (-1), .int .i64 0]) ∧ Below W'.heap.size W' w' := fun W' h => by
        have := refLongest_any S HRT.out.1 a HRT.out.2 HMX.out _ _ _ W' h
        obtain ⟨h1, -, h3⟩ := lngF_same (-1) 0 S a (a.num.toNat + 1)
        have h0 := h1.trans HY.out
        rw [h3 h0, h0] at this
        exact this
      have H39 := Lib.hid h39
      clear h39 hy0
      go_enter Try.func10, Try.ntmps10
      go_wp2_with fail
      generalize hW1 : World.alloc (World.alloc w _) _ = W1
      have hbn : Below w.heap.size w W1 := by rw [← hW1]; exact bAlloc (bAlloc (Below.refl _ _) _) _
      have s0 : W1.cell? ⟨w.heap.size, 0, none⟩ = some (.int .i64 S.top) := by rw [← hW1]; exact keep (bAlloc (Below.refl _ _) _) (cell_new rfl)
      have s1 : W1.cell? ⟨w.heap.size, 1, none⟩ = some (.int .i64 S.genders) := by rw [← hW1]; exact keep (bAlloc (Below.refl _ _) _) (cell_new rfl)
      have s2 : W1.cell? ⟨w.heap.size, 2, none⟩ = some (.int .i64 S.cases) := by rw [← hW1]; exact keep (bAlloc (Below.refl _ _) _) (cell_new rfl)
      have s3 : W1.cell? ⟨w.heap.size, 3, none⟩ = some (.int .i64 S.classes) := by rw [← hW1]; exact keep (bAlloc (Below.refl _ _) _) (cell_new rfl)
      have s4 : W1.cell? ⟨w.heap.size, 4, none⟩ = some (.slice at_ S.terms.length ct) := by rw [← hW1]; exact keep (bAlloc (Below.refl _ _) _) (cell_new rfl)
      have s5 : W1.cell? ⟨w.heap.size, 5, none⟩ = some (.slice ap S.plurals.length cp) := by rw [← hW1]; exact keep (bAlloc (Below.refl _ _) _) (cell_new rfl)
      have s6 : W1.cell? ⟨w.heap.size, 6, none⟩ = some (.slice (some ⟨xb, xo, none⟩) S.sets.length cs) := by rw [← hW1]; exact keep (bAlloc (Below.refl _ _) _) (cell_new rfl)
      have a0 : W1.cell? ⟨w.heap.size + 1, 0, none⟩ = some (.int .i64 a.num) := by rw [← hW1]; simp
      have a1 : W1.cell? ⟨w.heap.size + 1, 1, none⟩ = some (.int .i64 a.set) := by rw [← hW1]; simp
      have a2 : W1.cell? ⟨w.heap.size + 1, 2, none⟩ = some (.int .i64 a.gen) := by rw [← hW1]; simp
      have a3 : W1.cell? ⟨w.heap.size + 1, 3, none⟩ = some (.int .i64 a.kas) := by rw [← hW1]; simp
      have HB := Lib.hid hbn
      have HPn := Lib.hid (HPS.out.keep hbn)
      have hsl := cell_lt s0
      have hal := cell_lt a0
      (try (replace c0 := keep hbn c0))
      (try (have hxb := cell_lt c0))
      clear hW1 hbn
      go_wp2_with (first
        | (go_at_call 14; rw [HSV.out]; refine (small_any S _ _ _ _ HPn.out).mono ?_; rintro e w1 ⟨⟨b, rfl⟩, hb⟩; replace s0 := keep hb s0; replace s1 := keep hb s1; replace s2 := keep hb s2; replace s3 := keep hb s3; replace s4 := keep hb s4; replace s5 := keep hb s5; replace s6 := keep hb s6; replace a0 := keep hb a0; replace a1 := keep hb a1; replace a2 := keep hb a2; replace a3 := keep hb a3; replace hsl := cell_lt s0; replace hal := cell_lt a0; replace HPn := Lib.hid (HPn.out.keep hb); replace HB := Lib.hid (bThen HB.out hb); (try (replace c0 := keep hb c0; replace hxb := cell_lt c0)); clear hb; cases b)
        | (go_at_call 15; refine (known_any _).mono ?_; rintro e wk ⟨rfl, hb⟩; replace HB := Lib.hid (bThen HB.out hb); clear hb)
        | (go_at_call 36; refine (H36.out _ HPn.out).mono ?_; rintro e w2 ⟨hq, hb⟩; obtain ⟨adr, ccr, rfl, HRD⟩ := UsesPost.some hq HR.out HE0.out HL.out; replace s0 := keep hb s0; replace s1 := keep hb s1; replace s2 := keep hb s2; replace s3 := keep hb s3; replace s4 := keep hb s4; replace s5 := keep hb s5; replace s6 := keep hb s6; replace a0 := keep hb a0; replace a1 := keep hb a1; replace a2 := keep hb a2; replace a3 := keep hb a3; replace hsl := cell_lt s0; replace hal := cell_lt a0; replace HPn := Lib.hid (HPn.out.keep hb); replace HB := Lib.hid (bThen HB.out hb); (try (replace c0 := keep hb c0; replace hxb := cell_lt c0)); clear hb hq)
        | (go_at_call 37; refine (H37.out _ HPn.out).mono ?_; rintro e w3 ⟨hq, hb⟩; obtain rfl := LongestPost.none hq HE0.out HY.out; replace s0 := keep hb s0; replace s1 := keep hb s1; replace s2 := keep hb s2; replace s3 := keep hb s3; replace s4 := keep hb s4; replace s5 := keep hb s5; replace s6 := keep hb s6; replace a0 := keep hb a0; replace a1 := keep hb a1; replace a2 := keep hb a2; replace a3 := keep hb a3; replace hsl := cell_lt s0; replace hal := cell_lt a0; replace HPn := Lib.hid (HPn.out.keep hb); replace HB := Lib.hid (bThen HB.out hb); (try (replace c0 := keep hb c0; replace hxb := cell_lt c0)); (try (replace HRD := Lib.hid (HRD.out.keep IntAt.stable hb))); clear hb hq)
        | (go_at_call 22; refine (H22.out _ HPn.out).mono ?_; rintro e w4 ⟨rfl, hb⟩; rw [HER.out]; replace s0 := keep hb s0; replace s1 := keep hb s1; replace s2 := keep hb s2; replace s3 := keep hb s3; replace s4 := keep hb s4; replace s5 := keep hb s5; replace s6 := keep hb s6; replace a0 := keep hb a0; replace a1 := keep hb a1; replace a2 := keep hb a2; replace a3 := keep hb a3; replace hsl := cell_lt s0; replace hal := cell_lt a0; replace HPn := Lib.hid (HPn.out.keep hb); replace HB := Lib.hid (bThen HB.out hb); (try (replace c0 := keep hb c0; replace hxb := cell_lt c0)); (try (replace HRD := Lib.hid (HRD.out.keep IntAt.stable hb))); clear hb)
        | (go_at_call 39; refine (H39.out _ HPn.out).mono ?_; rintro e w7 ⟨rfl, hb⟩; replace s0 := keep hb s0; replace s1 := keep hb s1; replace s2 := keep hb s2; replace s3 := keep hb s3; replace s4 := keep hb s4; replace s5 := keep hb s5; replace s6 := keep hb s6; replace a0 := keep hb a0; replace a1 := keep hb a1; replace a2 := keep hb a2; replace a3 := keep hb a3; replace hsl := cell_lt s0; replace hal := cell_lt a0; replace HPn := Lib.hid (HPn.out.keep hb); replace HB := Lib.hid (bThen HB.out hb); (try (replace c0 := keep hb c0; replace hxb := cell_lt c0)); clear hb)
        | (go_at_call 38; refine (H38.out _ HPn.out).mono ?_; rintro e w5 ⟨⟨vq, rfl, hq⟩, hb⟩; obtain ⟨adq, ccq, rfl, -⟩ := id hq; rw [List.length_map] at hq ⊢; have HX := Lib.hid hq; replace s0 := keep hb s0; replace s1 := keep hb s1; replace s2 := keep hb s2; replace s3 := keep hb s3; replace s4 := keep hb s4; replace s5 := keep hb s5; replace s6 := keep hb s6; replace a0 := keep hb a0; replace a1 := keep hb a1; replace a2 := keep hb a2; replace a3 := keep hb a3; replace hsl := cell_lt s0; replace hal := cell_lt a0; replace HPn := Lib.hid (HPn.out.keep hb); replace HB := Lib.hid (bThen HB.out hb); (try (replace c0 := keep hb c0; replace hxb := cell_lt c0)); replace HRD := Lib.hid (HRD.out.keep IntAt.stable hb); clear hb hq)
        | (go_at_call 29; refine (isB (Numbers_any (L.map fun n : Nat => (n : Int)) (L.map fun n : Nat => (n : Int)) _ _ _ HRD.out HX.out) (show _ = true by simp)).mono ?_; rintro e w6 ⟨rfl, hb⟩; replace s0 := keep hb s0; replace s1 := keep hb s1; replace s2 := keep hb s2; replace s3 := keep hb s3; replace s4 := keep hb s4; replace s5 := keep hb s5; replace s6 := keep hb s6; replace a0 := keep hb a0; replace a1 := keep hb a1; replace a2 := keep hb a2; replace a3 := keep hb a3; replace hsl := cell_lt s0; replace hal := cell_lt a0; replace HPn := Lib.hid (HPn.out.keep hb); replace HB := Lib.hid (bThen HB.out hb); (try (replace c0 := keep hb c0; replace hxb := cell_lt c0)); clear hb))
      all_goals
        first
          | (go_ret; exact ⟨rfl, HB.out⟩)
          | (exfalso; omega)
    · obtain ⟨x, hx⟩ : ∃ x, x = (lngF 0 S a (a.num.toNat + 1)).1 := ⟨_, rfl⟩
      obtain ⟨y, hy⟩ : ∃ y, y = (lngF 0 S a (a.num.toNat + 1)).2 := ⟨_, rfl⟩
      have HXY : Hid (lngF 0 S a (a.num.toNat + 1) = (x, y)) := Lib.hid (by rw [hx, hy])
      have HYN : Hid (y ≠ 0) := Lib.hid (by rw [hy]; exact hy0)
      obtain ⟨h1, h2, -⟩ := lngF_same (-1) 0 S a (a.num.toNat + 1)
      have e2 : (lngF (-1) S a (a.num.toNat + 1)).2 = y := by rw [h1, HXY.out]
      have e1 : (lngF (-1) S a (a.num.toNat + 1)).1 = x := by rw [h2 (by rw [e2]; exact HYN.out), HXY.out]
      have hx0 : ¬ x < 0 := by
        have := lngF_nonneg S a (a.num.toNat + 1) (by rw [e2]; exact HYN.out)
        rw [e1] at this
        omega
      have hxx : (x == x) = true := by simp
      have hyy : ((y : Int) == (y : Int)) = true := by simp
      have h39 : ∀ W', SysParts W' (.slice at_ S.terms.length ct) (.slice ap S.plurals.length cp) (.slice (some ⟨xb, xo, none⟩) S.sets.length cs) S → Calls Try.prog 39 #[.agg #[.int .i64 S.top, .int .i64 S.genders, .int .i64 S.cases, .int .i64 S.classes, .slice at_ S.terms.length ct, .slice ap S.plurals.length cp, .slice (some ⟨xb, xo, none⟩) S.sets.length cs], .agg #[.int .i64 a.num, .int .i64 a.set, .int .i64 a.gen, .int .i64 a.kas]] W' fun e w' => e = .returned (.tuple #[.int .i64 x, .int .i64 (y : Int)]) ∧ Below W'.heap.size W' w' := fun W' h => by
        have := refLongest_any S HRT.out.1 a HRT.out.2 HMX.out _ _ _ W' h
        rw [e1, e2] at this
        exact this
      have H39 := Lib.hid h39
      clear h39 hy0 hx hy h1 h2 e1 e2
      go_enter Try.func10, Try.ntmps10
      go_wp2_with fail
      generalize hW1 : World.alloc (World.alloc w _) _ = W1
      have hbn : Below w.heap.size w W1 := by rw [← hW1]; exact bAlloc (bAlloc (Below.refl _ _) _) _
      have s0 : W1.cell? ⟨w.heap.size, 0, none⟩ = some (.int .i64 S.top) := by rw [← hW1]; exact keep (bAlloc (Below.refl _ _) _) (cell_new rfl)
      have s1 : W1.cell? ⟨w.heap.size, 1, none⟩ = some (.int .i64 S.genders) := by rw [← hW1]; exact keep (bAlloc (Below.refl _ _) _) (cell_new rfl)
      have s2 : W1.cell? ⟨w.heap.size, 2, none⟩ = some (.int .i64 S.cases) := by rw [← hW1]; exact keep (bAlloc (Below.refl _ _) _) (cell_new rfl)
      have s3 : W1.cell? ⟨w.heap.size, 3, none⟩ = some (.int .i64 S.classes) := by rw [← hW1]; exact keep (bAlloc (Below.refl _ _) _) (cell_new rfl)
      have s4 : W1.cell? ⟨w.heap.size, 4, none⟩ = some (.slice at_ S.terms.length ct) := by rw [← hW1]; exact keep (bAlloc (Below.refl _ _) _) (cell_new rfl)
      have s5 : W1.cell? ⟨w.heap.size, 5, none⟩ = some (.slice ap S.plurals.length cp) := by rw [← hW1]; exact keep (bAlloc (Below.refl _ _) _) (cell_new rfl)
      have s6 : W1.cell? ⟨w.heap.size, 6, none⟩ = some (.slice (some ⟨xb, xo, none⟩) S.sets.length cs) := by rw [← hW1]; exact keep (bAlloc (Below.refl _ _) _) (cell_new rfl)
      have a0 : W1.cell? ⟨w.heap.size + 1, 0, none⟩ = some (.int .i64 a.num) := by rw [← hW1]; simp
      have a1 : W1.cell? ⟨w.heap.size + 1, 1, none⟩ = some (.int .i64 a.set) := by rw [← hW1]; simp
      have a2 : W1.cell? ⟨w.heap.size + 1, 2, none⟩ = some (.int .i64 a.gen) := by rw [← hW1]; simp
      have a3 : W1.cell? ⟨w.heap.size + 1, 3, none⟩ = some (.int .i64 a.kas) := by rw [← hW1]; simp
      have HB := Lib.hid hbn
      have HPn := Lib.hid (HPS.out.keep hbn)
      have hsl := cell_lt s0
      have hal := cell_lt a0
      (try (replace c0 := keep hbn c0))
      (try (have hxb := cell_lt c0))
      clear hW1 hbn
      go_wp2_with (first
        | (go_at_call 14; rw [HSV.out]; refine (small_any S _ _ _ _ HPn.out).mono ?_; rintro e w1 ⟨⟨b, rfl⟩, hb⟩; replace s0 := keep hb s0; replace s1 := keep hb s1; replace s2 := keep hb s2; replace s3 := keep hb s3; replace s4 := keep hb s4; replace s5 := keep hb s5; replace s6 := keep hb s6; replace a0 := keep hb a0; replace a1 := keep hb a1; replace a2 := keep hb a2; replace a3 := keep hb a3; replace hsl := cell_lt s0; replace hal := cell_lt a0; replace HPn := Lib.hid (HPn.out.keep hb); replace HB := Lib.hid (bThen HB.out hb); (try (replace c0 := keep hb c0; replace hxb := cell_lt c0)); clear hb; cases b)
        | (go_at_call 15; refine (known_any _).mono ?_; rintro e wk ⟨rfl, hb⟩; replace HB := Lib.hid (bThen HB.out hb); clear hb)
        | (go_at_call 36; refine (H36.out _ HPn.out).mono ?_; rintro e w2 ⟨hq, hb⟩; obtain ⟨adr, ccr, rfl, HRD⟩ := UsesPost.some hq HR.out HE0.out HL.out; replace s0 := keep hb s0; replace s1 := keep hb s1; replace s2 := keep hb s2; replace s3 := keep hb s3; replace s4 := keep hb s4; replace s5 := keep hb s5; replace s6 := keep hb s6; replace a0 := keep hb a0; replace a1 := keep hb a1; replace a2 := keep hb a2; replace a3 := keep hb a3; replace hsl := cell_lt s0; replace hal := cell_lt a0; replace HPn := Lib.hid (HPn.out.keep hb); replace HB := Lib.hid (bThen HB.out hb); (try (replace c0 := keep hb c0; replace hxb := cell_lt c0)); clear hb hq)
        | (go_at_call 37; refine (H37.out _ HPn.out).mono ?_; rintro e w3 ⟨hq, hb⟩; obtain rfl := LongestPost.some hq HE0.out HXY.out HYN.out; replace s0 := keep hb s0; replace s1 := keep hb s1; replace s2 := keep hb s2; replace s3 := keep hb s3; replace s4 := keep hb s4; replace s5 := keep hb s5; replace s6 := keep hb s6; replace a0 := keep hb a0; replace a1 := keep hb a1; replace a2 := keep hb a2; replace a3 := keep hb a3; replace hsl := cell_lt s0; replace hal := cell_lt a0; replace HPn := Lib.hid (HPn.out.keep hb); replace HB := Lib.hid (bThen HB.out hb); (try (replace c0 := keep hb c0; replace hxb := cell_lt c0)); (try (replace HRD := Lib.hid (HRD.out.keep IntAt.stable hb))); clear hb hq)
        | (go_at_call 22; refine (H22.out _ HPn.out).mono ?_; rintro e w4 ⟨rfl, hb⟩; rw [HER.out]; replace s0 := keep hb s0; replace s1 := keep hb s1; replace s2 := keep hb s2; replace s3 := keep hb s3; replace s4 := keep hb s4; replace s5 := keep hb s5; replace s6 := keep hb s6; replace a0 := keep hb a0; replace a1 := keep hb a1; replace a2 := keep hb a2; replace a3 := keep hb a3; replace hsl := cell_lt s0; replace hal := cell_lt a0; replace HPn := Lib.hid (HPn.out.keep hb); replace HB := Lib.hid (bThen HB.out hb); (try (replace c0 := keep hb c0; replace hxb := cell_lt c0)); (try (replace HRD := Lib.hid (HRD.out.keep IntAt.stable hb))); clear hb)
        | (go_at_call 39; refine (H39.out _ HPn.out).mono ?_; rintro e w7 ⟨rfl, hb⟩; replace s0 := keep hb s0; replace s1 := keep hb s1; replace s2 := keep hb s2; replace s3 := keep hb s3; replace s4 := keep hb s4; replace s5 := keep hb s5; replace s6 := keep hb s6; replace a0 := keep hb a0; replace a1 := keep hb a1; replace a2 := keep hb a2; replace a3 := keep hb a3; replace hsl := cell_lt s0; replace hal := cell_lt a0; replace HPn := Lib.hid (HPn.out.keep hb); replace HB := Lib.hid (bThen HB.out hb); (try (replace c0 := keep hb c0; replace hxb := cell_lt c0)); clear hb)
        | (go_at_call 38; refine (H38.out _ HPn.out).mono ?_; rintro e w5 ⟨⟨vq, rfl, hq⟩, hb⟩; obtain ⟨adq, ccq, rfl, -⟩ := id hq; rw [List.length_map] at hq ⊢; have HX := Lib.hid hq; replace s0 := keep hb s0; replace s1 := keep hb s1; replace s2 := keep hb s2; replace s3 := keep hb s3; replace s4 := keep hb s4; replace s5 := keep hb s5; replace s6 := keep hb s6; replace a0 := keep hb a0; replace a1 := keep hb a1; replace a2 := keep hb a2; replace a3 := keep hb a3; replace hsl := cell_lt s0; replace hal := cell_lt a0; replace HPn := Lib.hid (HPn.out.keep hb); replace HB := Lib.hid (bThen HB.out hb); (try (replace c0 := keep hb c0; replace hxb := cell_lt c0)); replace HRD := Lib.hid (HRD.out.keep IntAt.stable hb); clear hb hq)
        | (go_at_call 29; refine (isB (Numbers_any (L.map fun n : Nat => (n : Int)) (L.map fun n : Nat => (n : Int)) _ _ _ HRD.out HX.out) (show _ = true by simp)).mono ?_; rintro e w6 ⟨rfl, hb⟩; replace s0 := keep hb s0; replace s1 := keep hb s1; replace s2 := keep hb s2; replace s3 := keep hb s3; replace s4 := keep hb s4; replace s5 := keep hb s5; replace s6 := keep hb s6; replace a0 := keep hb a0; replace a1 := keep hb a1; replace a2 := keep hb a2; replace a3 := keep hb a3; replace hsl := cell_lt s0; replace hal := cell_lt a0; replace HPn := Lib.hid (HPn.out.keep hb); replace HB := Lib.hid (bThen HB.out hb); (try (replace c0 := keep hb c0; replace hxb := cell_lt c0)); clear hb))
      all_goals
        first
          | (go_ret; exact ⟨rfl, HB.out⟩)
          | (exfalso; omega)
end Go.Proofs.Ytfcopnlpcbbocaa
