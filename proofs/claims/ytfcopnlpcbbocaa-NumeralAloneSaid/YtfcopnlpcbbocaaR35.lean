/- The law of what is read alone, walked: for every system, ask and number it answers true. -/
import Derived.Test.YtfcopnlpcbbocaaR32
import Derived.Test.YtfcopnlpcbbocaaR34
set_option linter.unusedSimpArgs false
set_option linter.unusedVariables false
namespace Go.Proofs.Ytfcopnlpcbbocaa
open Go.RowKit

theorem scanErr_ref' (S : Sys) (a : Ask) : refErr S a true = scanErr a [S] := by
  unfold refErr scanErr; simp
theorem scanErr_one' (S : Sys) (a : Ask) : scanErr a [S] = if askOk S a = true then (if 20000 < a.num then 4 else 0) else 2 := by unfold scanErr; simp
theorem off2 {W : World} {b j o : Nat} {v x : Value} (h : j ≠ o) (hc : W.cell? ⟨b, j, none⟩ = some v) : (W.setCell ⟨b, o, none⟩ x).cell? ⟨b, j, none⟩ = some v :=
  (World.cell?_setCell_other W ⟨b, o, none⟩ ⟨b, j, none⟩ x (fun e => h (congrArg Addr.off e).symm)).trans hc
theorem bSet {B : Nat} {w a : World} {b o : Nat} {v : Value} (h : Below B w a) (hb : B ≤ b) : Below B w (a.setCell ⟨b, o, none⟩ v) := h.setCell hb v
theorem one_int (W : World) (m : Nat) : SliceV (W.alloc (.cells #[.int .i64 (m : Int)] 3)) (.slice (some ⟨W.heap.size, 0, none⟩) 1 1) 1 IntAt [(m : Int)] := lit_ints W [(m : Int)] (by simp [most])
theorem SliceV.off {W : World} {v : Value} {ws : List ByteArray} {B : Nat} {x : Int} {y : Value} (h : SliceV W v 1 StrAt ws) (hb : W.cell? ⟨B, 0, none⟩ = some (.int .i64 x)) : SliceV (W.setCell ⟨B, 0, none⟩ y) v 1 StrAt ws := by
  obtain ⟨a, c, rfl, hl, hx⟩ := h
  refine ⟨a, c, rfl, hl, hx.imp id ?_⟩
  rintro ⟨b, o, rfl, hf⟩
  refine ⟨b, o, rfl, fun i hi => ?_⟩
  have h1 := hf i hi
  unfold StrAt at h1 ⊢
  rw [World.cell?_setCell_other W ⟨B, 0, none⟩ ⟨b, o + i * 1, none⟩ y (fun e => by rw [← e, hb] at h1; simp at h1)]
  exact h1
theorem ReadPost.one {S : Sys} {a : Ask} {ws : List ByteArray} {e : Ending} {w : World} {m : Nat} (h : ReadPost S a ws e w) (he : scanErr a [S] = 0) (hL : readsTo S a a.num.toNat ws = [m]) :
    ∃ ad c, e = .returned (.tuple #[.slice ad 1 c, .int .i64 0]) ∧ Hid (SliceV w (.slice ad 1 c) 1 IntAt [(m : Int)]) := ReadPost.some h he hL (by simp)

set_option maxRecDepth 100000 in
set_option maxHeartbeats 16000000 in
theorem alone_any (S : Sys) (a : Ask) (n : Int) (vt vp vs : Value) (w : World) (hp : SysParts w vt vp vs S) :
    Calls Try.prog 8 #[sysVal S vt vp vs, a.val, .int .i64 n] w fun e w' => e = .returned (.bool true) ∧ Below w.heap.size w w' := by
  have HPS := Lib.hid hp
  obtain ⟨⟨at_, ct, rfl, -⟩, ⟨ap, cp, rfl, -⟩, ⟨as_, cs, rfl, -⟩⟩ := hp
  have HSV := Lib.hid (sysVal_eq S (.slice at_ S.terms.length ct) (.slice ap S.plurals.length cp) (.slice as_ S.sets.length cs))
  unfold sysVal Ask.val
  have h20 : ∀ (k : Int) W', SysParts W' (.slice at_ S.terms.length ct) (.slice ap S.plurals.length cp) (.slice as_ S.sets.length cs) S → Calls Try.prog 20 #[.agg #[.int .i64 S.top, .int .i64 S.genders, .int .i64 S.cases, .int .i64 S.classes, .slice at_ S.terms.length ct, .slice ap S.plurals.length cp, .slice as_ S.sets.length cs], .agg #[.int .i64 k, .int .i64 a.set, .int .i64 a.gen, .int .i64 a.kas]] W' fun e w' => SpellPost S (numb a k) e w' ∧ Below W'.heap.size W' w' := fun k W' h => Spell_any S (numb a k) _ _ _ W' h
  have h30 : ∀ W', SysParts W' (.slice at_ S.terms.length ct) (.slice ap S.plurals.length cp) (.slice as_ S.sets.length cs) S → Calls Try.prog 30 #[.agg #[.int .i64 S.top, .int .i64 S.genders, .int .i64 S.cases, .int .i64 S.classes, .slice at_ S.terms.length ct, .slice ap S.plurals.length cp, .slice as_ S.sets.length cs], .agg #[.int .i64 a.num, .int .i64 a.set, .int .i64 a.gen, .int .i64 a.kas]] W' fun e w' => TwinsPost S a e w' ∧ Below W'.heap.size W' w' := fun W' h => Twins_any S a _ _ _ W' h
  have h27 : ∀ (ws : List ByteArray) vw W', SysParts W' (.slice at_ S.terms.length ct) (.slice ap S.plurals.length cp) (.slice as_ S.sets.length cs) S → SliceV W' vw 1 StrAt ws → Calls Try.prog 27 #[.agg #[.int .i64 S.top, .int .i64 S.genders, .int .i64 S.cases, .int .i64 S.classes, .slice at_ S.terms.length ct, .slice ap S.plurals.length cp, .slice as_ S.sets.length cs], .agg #[.int .i64 a.num, .int .i64 a.set, .int .i64 a.gen, .int .i64 a.kas], vw] W' fun e w' => ReadPost S a ws e w' ∧ Below W'.heap.size W' w' := fun ws vw W' h hv => Read_any S a _ _ _ _ vw W' h hv
  have h22 : ∀ W', SysParts W' (.slice at_ S.terms.length ct) (.slice ap S.plurals.length cp) (.slice as_ S.sets.length cs) S → Calls Try.prog 22 #[.agg #[.int .i64 S.top, .int .i64 S.genders, .int .i64 S.cases, .int .i64 S.classes, .slice at_ S.terms.length ct, .slice ap S.plurals.length cp, .slice as_ S.sets.length cs], .agg #[.int .i64 a.num, .int .i64 a.set, .int .i64 a.gen, .int .i64 a.kas], .bool true] W' fun e w' => e = .returned (.int .i64 (refErr S a true)) ∧ Below W'.heap.size W' w' := fun W' h => refused_any S a true _ _ _ W' h
  have H20 := Lib.hid h20
  have H30 := Lib.hid h30
  have H22 := Lib.hid h22
  have H27 := Lib.hid h27
  clear h27 h20 h30 h22
  by_cases c1 : 120 < a.num
  · go_enter Try.func8, Try.ntmps8
    go_wp2_with fail
    generalize hW1 : World.alloc (World.alloc w _) _ = W1
    have hbn : Below w.heap.size w W1 := by rw [← hW1]; exact bAlloc (bAlloc (Below.refl _ _) _) _
    have s0 : W1.cell? ⟨w.heap.size, 0, none⟩ = some (.int .i64 S.top) := by rw [← hW1]; exact keep (bAlloc (Below.refl _ _) _) (cell_new rfl)
    have s1 : W1.cell? ⟨w.heap.size, 1, none⟩ = some (.int .i64 S.genders) := by rw [← hW1]; exact keep (bAlloc (Below.refl _ _) _) (cell_new rfl)
    have s2 : W1.cell? ⟨w.heap.size, 2, none⟩ = some (.int .i64 S.cases) := by rw [← hW1]; exact keep (bAlloc (Below.refl _ _) _) (cell_new rfl)
    have s3 : W1.cell? ⟨w.heap.size, 3, none⟩ = some (.int .i64 S.classes) := by rw [← hW1]; exact keep (bAlloc (Below.refl _ _) _) (cell_new rfl)
    have s4 : W1.cell? ⟨w.heap.size, 4, none⟩ = some (.slice at_ S.terms.length ct) := by rw [← hW1]; exact keep (bAlloc (Below.refl _ _) _) (cell_new rfl)
    have s5 : W1.cell? ⟨w.heap.size, 5, none⟩ = some (.slice ap S.plurals.length cp) := by rw [← hW1]; exact keep (bAlloc (Below.refl _ _) _) (cell_new rfl)
    have s6 : W1.cell? ⟨w.heap.size, 6, none⟩ = some (.slice as_ S.sets.length cs) := by rw [← hW1]; exact keep (bAlloc (Below.refl _ _) _) (cell_new rfl)
    have a0 : W1.cell? ⟨w.heap.size + 1, 0, none⟩ = some (.int .i64 a.num) := by rw [← hW1]; simp
    have a1 : W1.cell? ⟨w.heap.size + 1, 1, none⟩ = some (.int .i64 a.set) := by rw [← hW1]; simp
    have a2 : W1.cell? ⟨w.heap.size + 1, 2, none⟩ = some (.int .i64 a.gen) := by rw [← hW1]; simp
    have a3 : W1.cell? ⟨w.heap.size + 1, 3, none⟩ = some (.int .i64 a.kas) := by rw [← hW1]; simp
    have HB := Lib.hid hbn
    have HPn := Lib.hid (HPS.out.keep hbn)
    have hsl := cell_lt s0
    have hal := cell_lt a0
    clear hW1 hbn
    go_wp2_with (first
      | (go_at_call 14; rw [HSV.out]; refine (small_any S _ _ _ _ HPn.out).mono ?_; rintro e w1 ⟨⟨b, rfl⟩, hb⟩; replace s0 := keep hb s0; replace s1 := keep hb s1; replace s2 := keep hb s2; replace s3 := keep hb s3; replace s4 := keep hb s4; replace s5 := keep hb s5; replace s6 := keep hb s6; replace a0 := keep hb a0; replace a1 := keep hb a1; replace a2 := keep hb a2; replace a3 := keep hb a3; replace hsl := cell_lt s0; replace hal := cell_lt a0; replace HPn := Lib.hid (HPn.out.keep hb); replace HB := Lib.hid (bThen HB.out hb); clear hb; cases b)
      | (go_at_call 15; refine (known_any _).mono ?_; rintro e wk ⟨rfl, hb⟩; replace HB := Lib.hid (bThen HB.out hb); clear hb))
    all_goals
      first
        | (go_ret; exact ⟨rfl, HB.out⟩)
        | (exfalso; omega)
  cases hok : askOk S a
  · have HER : Hid (refErr S a true = 2) := Lib.hid (by rw [scanErr_ref', scanErr_one']; simp [hok])
    clear hok
    go_enter Try.func8, Try.ntmps8
    go_wp2_with fail
    generalize hW1 : World.alloc (World.alloc w _) _ = W1
    have hbn : Below w.heap.size w W1 := by rw [← hW1]; exact bAlloc (bAlloc (Below.refl _ _) _) _
    have s0 : W1.cell? ⟨w.heap.size, 0, none⟩ = some (.int .i64 S.top) := by rw [← hW1]; exact keep (bAlloc (Below.refl _ _) _) (cell_new rfl)
    have s1 : W1.cell? ⟨w.heap.size, 1, none⟩ = some (.int .i64 S.genders) := by rw [← hW1]; exact keep (bAlloc (Below.refl _ _) _) (cell_new rfl)
    have s2 : W1.cell? ⟨w.heap.size, 2, none⟩ = some (.int .i64 S.cases) := by rw [← hW1]; exact keep (bAlloc (Below.refl _ _) _) (cell_new rfl)
    have s3 : W1.cell? ⟨w.heap.size, 3, none⟩ = some (.int .i64 S.classes) := by rw [← hW1]; exact keep (bAlloc (Below.refl _ _) _) (cell_new rfl)
    have s4 : W1.cell? ⟨w.heap.size, 4, none⟩ = some (.slice at_ S.terms.length ct) := by rw [← hW1]; exact keep (bAlloc (Below.refl _ _) _) (cell_new rfl)
    have s5 : W1.cell? ⟨w.heap.size, 5, none⟩ = some (.slice ap S.plurals.length cp) := by rw [← hW1]; exact keep (bAlloc (Below.refl _ _) _) (cell_new rfl)
    have s6 : W1.cell? ⟨w.heap.size, 6, none⟩ = some (.slice as_ S.sets.length cs) := by rw [← hW1]; exact keep (bAlloc (Below.refl _ _) _) (cell_new rfl)
    have a0 : W1.cell? ⟨w.heap.size + 1, 0, none⟩ = some (.int .i64 a.num) := by rw [← hW1]; simp
    have a1 : W1.cell? ⟨w.heap.size + 1, 1, none⟩ = some (.int .i64 a.set) := by rw [← hW1]; simp
    have a2 : W1.cell? ⟨w.heap.size + 1, 2, none⟩ = some (.int .i64 a.gen) := by rw [← hW1]; simp
    have a3 : W1.cell? ⟨w.heap.size + 1, 3, none⟩ = some (.int .i64 a.kas) := by rw [← hW1]; simp
    have HB := Lib.hid hbn
    have HPn := Lib.hid (HPS.out.keep hbn)
    have hsl := cell_lt s0
    have hal := cell_lt a0
    clear hW1 hbn
    go_wp2_with (first
      | (go_at_call 14; rw [HSV.out]; refine (small_any S _ _ _ _ HPn.out).mono ?_; rintro e w1 ⟨⟨b, rfl⟩, hb⟩; replace s0 := keep hb s0; replace s1 := keep hb s1; replace s2 := keep hb s2; replace s3 := keep hb s3; replace s4 := keep hb s4; replace s5 := keep hb s5; replace s6 := keep hb s6; replace a0 := keep hb a0; replace a1 := keep hb a1; replace a2 := keep hb a2; replace a3 := keep hb a3; replace hsl := cell_lt s0; replace hal := cell_lt a0; replace HPn := Lib.hid (HPn.out.keep hb); replace HB := Lib.hid (bThen HB.out hb); clear hb; cases b)
      | (go_at_call 22; refine (H22.out _ HPn.out).mono ?_; rintro e w4 ⟨rfl, hb⟩; rw [HER.out]; replace s0 := keep hb s0; replace s1 := keep hb s1; replace s2 := keep hb s2; replace s3 := keep hb s3; replace s4 := keep hb s4; replace s5 := keep hb s5; replace s6 := keep hb s6; replace a0 := keep hb a0; replace a1 := keep hb a1; replace a2 := keep hb a2; replace a3 := keep hb a3; replace hsl := cell_lt s0; replace hal := cell_lt a0; replace HPn := Lib.hid (HPn.out.keep hb); replace HB := Lib.hid (bThen HB.out hb); clear hb)
      | (go_at_call 15; refine (known_any _).mono ?_; rintro e wk ⟨rfl, hb⟩; replace HB := Lib.hid (bThen HB.out hb); clear hb))
    all_goals
      first
        | (go_ret; exact ⟨rfl, HB.out⟩)
        | (exfalso; omega)
  have hsc : scanErr a [S] = 0 := by rw [scanErr_one']; simp [hok]; omega
  have HE0 := Lib.hid hsc
  have HER : Hid (refErr S a true = 0) := Lib.hid (by rw [scanErr_ref', hsc])
  have HOK := Lib.hid hok
  clear hok hsc
  by_cases hn0 : n < 0
  · go_enter Try.func8, Try.ntmps8
    go_wp2_with fail
    generalize hW1 : World.alloc (World.alloc w _) _ = W1
    have hbn : Below w.heap.size w W1 := by rw [← hW1]; exact bAlloc (bAlloc (Below.refl _ _) _) _
    have s0 : W1.cell? ⟨w.heap.size, 0, none⟩ = some (.int .i64 S.top) := by rw [← hW1]; exact keep (bAlloc (Below.refl _ _) _) (cell_new rfl)
    have s1 : W1.cell? ⟨w.heap.size, 1, none⟩ = some (.int .i64 S.genders) := by rw [← hW1]; exact keep (bAlloc (Below.refl _ _) _) (cell_new rfl)
    have s2 : W1.cell? ⟨w.heap.size, 2, none⟩ = some (.int .i64 S.cases) := by rw [← hW1]; exact keep (bAlloc (Below.refl _ _) _) (cell_new rfl)
    have s3 : W1.cell? ⟨w.heap.size, 3, none⟩ = some (.int .i64 S.classes) := by rw [← hW1]; exact keep (bAlloc (Below.refl _ _) _) (cell_new rfl)
    have s4 : W1.cell? ⟨w.heap.size, 4, none⟩ = some (.slice at_ S.terms.length ct) := by rw [← hW1]; exact keep (bAlloc (Below.refl _ _) _) (cell_new rfl)
    have s5 : W1.cell? ⟨w.heap.size, 5, none⟩ = some (.slice ap S.plurals.length cp) := by rw [← hW1]; exact keep (bAlloc (Below.refl _ _) _) (cell_new rfl)
    have s6 : W1.cell? ⟨w.heap.size, 6, none⟩ = some (.slice as_ S.sets.length cs) := by rw [← hW1]; exact keep (bAlloc (Below.refl _ _) _) (cell_new rfl)
    have a0 : W1.cell? ⟨w.heap.size + 1, 0, none⟩ = some (.int .i64 a.num) := by rw [← hW1]; simp
    have a1 : W1.cell? ⟨w.heap.size + 1, 1, none⟩ = some (.int .i64 a.set) := by rw [← hW1]; simp
    have a2 : W1.cell? ⟨w.heap.size + 1, 2, none⟩ = some (.int .i64 a.gen) := by rw [← hW1]; simp
    have a3 : W1.cell? ⟨w.heap.size + 1, 3, none⟩ = some (.int .i64 a.kas) := by rw [← hW1]; simp
    have HB := Lib.hid hbn
    have HPn := Lib.hid (HPS.out.keep hbn)
    have hsl := cell_lt s0
    have hal := cell_lt a0
    clear hW1 hbn
    go_wp2_with (first
      | (go_at_call 14; rw [HSV.out]; refine (small_any S _ _ _ _ HPn.out).mono ?_; rintro e w1 ⟨⟨b, rfl⟩, hb⟩; replace s0 := keep hb s0; replace s1 := keep hb s1; replace s2 := keep hb s2; replace s3 := keep hb s3; replace s4 := keep hb s4; replace s5 := keep hb s5; replace s6 := keep hb s6; replace a0 := keep hb a0; replace a1 := keep hb a1; replace a2 := keep hb a2; replace a3 := keep hb a3; replace hsl := cell_lt s0; replace hal := cell_lt a0; replace HPn := Lib.hid (HPn.out.keep hb); replace HB := Lib.hid (bThen HB.out hb); clear hb; cases b)
      | (go_at_call 22; refine (H22.out _ HPn.out).mono ?_; rintro e w4 ⟨rfl, hb⟩; rw [HER.out]; replace s0 := keep hb s0; replace s1 := keep hb s1; replace s2 := keep hb s2; replace s3 := keep hb s3; replace s4 := keep hb s4; replace s5 := keep hb s5; replace s6 := keep hb s6; replace a0 := keep hb a0; replace a1 := keep hb a1; replace a2 := keep hb a2; replace a3 := keep hb a3; replace hsl := cell_lt s0; replace hal := cell_lt a0; replace HPn := Lib.hid (HPn.out.keep hb); replace HB := Lib.hid (bThen HB.out hb); clear hb)
      | (go_at_call 15; refine (known_any _).mono ?_; rintro e wk ⟨rfl, hb⟩; replace HB := Lib.hid (bThen HB.out hb); clear hb))
    all_goals
      first
        | (go_ret; exact ⟨rfl, HB.out⟩)
        | (exfalso; omega)
  by_cases hn1 : a.num < n
  · go_enter Try.func8, Try.ntmps8
    go_wp2_with fail
    generalize hW1 : World.alloc (World.alloc w _) _ = W1
    have hbn : Below w.heap.size w W1 := by rw [← hW1]; exact bAlloc (bAlloc (Below.refl _ _) _) _
    have s0 : W1.cell? ⟨w.heap.size, 0, none⟩ = some (.int .i64 S.top) := by rw [← hW1]; exact keep (bAlloc (Below.refl _ _) _) (cell_new rfl)
    have s1 : W1.cell? ⟨w.heap.size, 1, none⟩ = some (.int .i64 S.genders) := by rw [← hW1]; exact keep (bAlloc (Below.refl _ _) _) (cell_new rfl)
    have s2 : W1.cell? ⟨w.heap.size, 2, none⟩ = some (.int .i64 S.cases) := by rw [← hW1]; exact keep (bAlloc (Below.refl _ _) _) (cell_new rfl)
    have s3 : W1.cell? ⟨w.heap.size, 3, none⟩ = some (.int .i64 S.classes) := by rw [← hW1]; exact keep (bAlloc (Below.refl _ _) _) (cell_new rfl)
    have s4 : W1.cell? ⟨w.heap.size, 4, none⟩ = some (.slice at_ S.terms.length ct) := by rw [← hW1]; exact keep (bAlloc (Below.refl _ _) _) (cell_new rfl)
    have s5 : W1.cell? ⟨w.heap.size, 5, none⟩ = some (.slice ap S.plurals.length cp) := by rw [← hW1]; exact keep (bAlloc (Below.refl _ _) _) (cell_new rfl)
    have s6 : W1.cell? ⟨w.heap.size, 6, none⟩ = some (.slice as_ S.sets.length cs) := by rw [← hW1]; exact keep (bAlloc (Below.refl _ _) _) (cell_new rfl)
    have a0 : W1.cell? ⟨w.heap.size + 1, 0, none⟩ = some (.int .i64 a.num) := by rw [← hW1]; simp
    have a1 : W1.cell? ⟨w.heap.size + 1, 1, none⟩ = some (.int .i64 a.set) := by rw [← hW1]; simp
    have a2 : W1.cell? ⟨w.heap.size + 1, 2, none⟩ = some (.int .i64 a.gen) := by rw [← hW1]; simp
    have a3 : W1.cell? ⟨w.heap.size + 1, 3, none⟩ = some (.int .i64 a.kas) := by rw [← hW1]; simp
    have HB := Lib.hid hbn
    have HPn := Lib.hid (HPS.out.keep hbn)
    have hsl := cell_lt s0
    have hal := cell_lt a0
    clear hW1 hbn
    go_wp2_with (first
      | (go_at_call 14; rw [HSV.out]; refine (small_any S _ _ _ _ HPn.out).mono ?_; rintro e w1 ⟨⟨b, rfl⟩, hb⟩; replace s0 := keep hb s0; replace s1 := keep hb s1; replace s2 := keep hb s2; replace s3 := keep hb s3; replace s4 := keep hb s4; replace s5 := keep hb s5; replace s6 := keep hb s6; replace a0 := keep hb a0; replace a1 := keep hb a1; replace a2 := keep hb a2; replace a3 := keep hb a3; replace hsl := cell_lt s0; replace hal := cell_lt a0; replace HPn := Lib.hid (HPn.out.keep hb); replace HB := Lib.hid (bThen HB.out hb); clear hb; cases b)
      | (go_at_call 22; refine (H22.out _ HPn.out).mono ?_; rintro e w4 ⟨rfl, hb⟩; rw [HER.out]; replace s0 := keep hb s0; replace s1 := keep hb s1; replace s2 := keep hb s2; replace s3 := keep hb s3; replace s4 := keep hb s4; replace s5 := keep hb s5; replace s6 := keep hb s6; replace a0 := keep hb a0; replace a1 := keep hb a1; replace a2 := keep hb a2; replace a3 := keep hb a3; replace hsl := cell_lt s0; replace hal := cell_lt a0; replace HPn := Lib.hid (HPn.out.keep hb); replace HB := Lib.hid (bThen HB.out hb); clear hb)
      | (go_at_call 15; refine (known_any _).mono ?_; rintro e wk ⟨rfl, hb⟩; replace HB := Lib.hid (bThen HB.out hb); clear hb))
    all_goals
      first
        | (go_ret; exact ⟨rfl, HB.out⟩)
        | (exfalso; omega)
  obtain ⟨m, rfl⟩ : ∃ m : Nat, n = (m : Int) := ⟨n.toNat, by omega⟩
  obtain ⟨L, hL⟩ : ∃ L, L = twinsTo S a a.num.toNat := ⟨_, rfl⟩
  have HL := Lib.hid hL.symm
  have hlm : L.length ≤ 121 := by rw [hL]; exact Nat.le_trans (twins_len S a _) (by omega)
  clear hL
  have HOKM : Hid (askOk S (numb a (m : Int)) = true) := Lib.hid (askOk_numb HOK.out (by omega) (by omega))
  cases hw : wordsOf S (numb a (m : Int)) with
  | none =>
    have HW := Lib.hid hw
    clear hw
    go_enter Try.func8, Try.ntmps8
    go_wp2_with fail
    generalize hW1 : World.alloc (World.alloc w _) _ = W1
    have hbn : Below w.heap.size w W1 := by rw [← hW1]; exact bAlloc (bAlloc (Below.refl _ _) _) _
    have s0 : W1.cell? ⟨w.heap.size, 0, none⟩ = some (.int .i64 S.top) := by rw [← hW1]; exact keep (bAlloc (Below.refl _ _) _) (cell_new rfl)
    have s1 : W1.cell? ⟨w.heap.size, 1, none⟩ = some (.int .i64 S.genders) := by rw [← hW1]; exact keep (bAlloc (Below.refl _ _) _) (cell_new rfl)
    have s2 : W1.cell? ⟨w.heap.size, 2, none⟩ = some (.int .i64 S.cases) := by rw [← hW1]; exact keep (bAlloc (Below.refl _ _) _) (cell_new rfl)
    have s3 : W1.cell? ⟨w.heap.size, 3, none⟩ = some (.int .i64 S.classes) := by rw [← hW1]; exact keep (bAlloc (Below.refl _ _) _) (cell_new rfl)
    have s4 : W1.cell? ⟨w.heap.size, 4, none⟩ = some (.slice at_ S.terms.length ct) := by rw [← hW1]; exact keep (bAlloc (Below.refl _ _) _) (cell_new rfl)
    have s5 : W1.cell? ⟨w.heap.size, 5, none⟩ = some (.slice ap S.plurals.length cp) := by rw [← hW1]; exact keep (bAlloc (Below.refl _ _) _) (cell_new rfl)
    have s6 : W1.cell? ⟨w.heap.size, 6, none⟩ = some (.slice as_ S.sets.length cs) := by rw [← hW1]; exact keep (bAlloc (Below.refl _ _) _) (cell_new rfl)
    have a0 : W1.cell? ⟨w.heap.size + 1, 0, none⟩ = some (.int .i64 a.num) := by rw [← hW1]; simp
    have a1 : W1.cell? ⟨w.heap.size + 1, 1, none⟩ = some (.int .i64 a.set) := by rw [← hW1]; simp
    have a2 : W1.cell? ⟨w.heap.size + 1, 2, none⟩ = some (.int .i64 a.gen) := by rw [← hW1]; simp
    have a3 : W1.cell? ⟨w.heap.size + 1, 3, none⟩ = some (.int .i64 a.kas) := by rw [← hW1]; simp
    have HB := Lib.hid hbn
    have HPn := Lib.hid (HPS.out.keep hbn)
    have hsl := cell_lt s0
    have hal := cell_lt a0
    clear hW1 hbn
    have tok1 : True := trivial
    go_wp2_with (first
      | (go_at_call 14; rw [HSV.out]; refine (small_any S _ _ _ _ HPn.out).mono ?_; rintro e w1 ⟨⟨b, rfl⟩, hb⟩; replace s0 := keep hb s0; replace s1 := keep hb s1; replace s2 := keep hb s2; replace s3 := keep hb s3; replace s4 := keep hb s4; replace s5 := keep hb s5; replace s6 := keep hb s6; replace a0 := keep hb a0; replace a1 := keep hb a1; replace a2 := keep hb a2; replace a3 := keep hb a3; replace hsl := cell_lt s0; replace hal := cell_lt a0; replace HPn := Lib.hid (HPn.out.keep hb); replace HB := Lib.hid (bThen HB.out hb); clear hb; cases b)
      | (go_at_call 22; refine (H22.out _ HPn.out).mono ?_; rintro e w4 ⟨rfl, hb⟩; rw [HER.out]; replace s0 := keep hb s0; replace s1 := keep hb s1; replace s2 := keep hb s2; replace s3 := keep hb s3; replace s4 := keep hb s4; replace s5 := keep hb s5; replace s6 := keep hb s6; replace a0 := keep hb a0; replace a1 := keep hb a1; replace a2 := keep hb a2; replace a3 := keep hb a3; replace hsl := cell_lt s0; replace hal := cell_lt a0; replace HPn := Lib.hid (HPn.out.keep hb); replace HB := Lib.hid (bThen HB.out hb); clear hb)
      | (go_at_call 15; refine (known_any _).mono ?_; rintro e wk ⟨rfl, hb⟩; replace HB := Lib.hid (bThen HB.out hb); clear hb)
      | (go_at_call 30; refine (H30.out _ HPn.out).mono ?_; rintro e w2 ⟨hq, hb⟩; obtain ⟨ad1, cc1, rfl, HTW⟩ := TwinsPost.some hq HE0.out HL.out; replace s0 := keep hb s0; replace s1 := keep hb s1; replace s2 := keep hb s2; replace s3 := keep hb s3; replace s4 := keep hb s4; replace s5 := keep hb s5; replace s6 := keep hb s6; replace a0 := keep hb a0; replace a1 := keep hb a1; replace a2 := keep hb a2; replace a3 := keep hb a3; replace hsl := cell_lt s0; replace hal := cell_lt a0; replace HPn := Lib.hid (HPn.out.keep hb); replace HB := Lib.hid (bThen HB.out hb); clear hb hq))
    · go_ret
      exact ⟨rfl, HB.out⟩
    · go_ret
      exact ⟨rfl, HB.out⟩
    · generalize hV : World.alloc w2 _ = V
      have S0 := Lib.hid s0
      have S1 := Lib.hid s1
      have S2 := Lib.hid s2
      have S3 := Lib.hid s3
      have S4 := Lib.hid s4
      have S5 := Lib.hid s5
      have S6 := Lib.hid s6
      have A0 := Lib.hid a0
      have A1 := Lib.hid a1
      have A2 := Lib.hid a2
      have A3 := Lib.hid a3
      have HBW := HB
      have HB2 := Lib.hid (show Below w2.heap.size w2 V by rw [← hV]; exact bAlloc (Below.refl _ _) _)
      have b0 : V.cell? ⟨w2.heap.size, 0, none⟩ = some (.int .i64 (m : Int)) := by rw [← hV]; exact cell_new rfl
      have b1 : V.cell? ⟨w2.heap.size, 1, none⟩ = some (.int .i64 a.set) := by rw [← hV]; exact cell_new rfl
      have b2 : V.cell? ⟨w2.heap.size, 2, none⟩ = some (.int .i64 a.gen) := by rw [← hV]; exact cell_new rfl
      have b3 : V.cell? ⟨w2.heap.size, 3, none⟩ = some (.int .i64 a.kas) := by rw [← hV]; exact cell_new rfl
      have fr : V.frozen? ⟨w2.heap.size, 0, none⟩ = false := by rw [← hV]; simp
      have hbl := cell_lt b0
      clear hV
      replace s0 := keep HB2.out S0.out
      replace s1 := keep HB2.out S1.out
      replace s2 := keep HB2.out S2.out
      replace s3 := keep HB2.out S3.out
      replace s4 := keep HB2.out S4.out
      replace s5 := keep HB2.out S5.out
      replace s6 := keep HB2.out S6.out
      replace a0 := keep HB2.out A0.out
      replace a1 := keep HB2.out A1.out
      replace a2 := keep HB2.out A2.out
      replace a3 := keep HB2.out A3.out
      replace hsl := cell_lt s0
      replace hal := cell_lt a0
      replace HB := Lib.hid (bThen HBW.out HB2.out)
      replace HPn := Lib.hid (HPS.out.keep HB.out)
      go_wp2_with (first
        | (go_at_call 20; have _t := tok1; refine (H20.out m _ HPn.out).mono ?_; rintro e w3 ⟨hq, hb⟩; obtain rfl := SpellPost.none hq HOKM.out HW.out; have hbl0 := cell_lt b0; replace s0 := keep hb s0; replace s1 := keep hb s1; replace s2 := keep hb s2; replace s3 := keep hb s3; replace s4 := keep hb s4; replace s5 := keep hb s5; replace s6 := keep hb s6; replace a0 := keep hb a0; replace a1 := keep hb a1; replace a2 := keep hb a2; replace a3 := keep hb a3; replace b0 := keep hb b0; replace b1 := keep hb b1; replace b2 := keep hb b2; replace b3 := keep hb b3; replace hsl := cell_lt s0; replace hal := cell_lt a0; replace hbl := cell_lt b0; replace fr := (hb.frozen (p := ⟨w2.heap.size, 0, none⟩) hbl0).trans fr; replace HB2 := Lib.hid (bThen HB2.out hb); replace HB := Lib.hid (bThen HB.out hb); replace HPn := Lib.hid (HPn.out.keep hb); clear hb hq hbl0 tok1))
      clear s0 s1 s2 s3 s4 s5 s6 a0 a1 a2 a3 hsl hal HPn
      go_loopw [12] (fun i wr => ∃ k : Nat, k ≤ L.length ∧ i = .int .i64 k ∧ Hid (Below w2.heap.size w2 wr) ∧ Hid (∃ x : Int, wr.cell? ⟨w2.heap.size, 0, none⟩ = some (.int .i64 x)) ∧ Hid (wr.cell? ⟨w2.heap.size, 1, none⟩ = some (.int .i64 a.set)) ∧ Hid (wr.cell? ⟨w2.heap.size, 2, none⟩ = some (.int .i64 a.gen)) ∧ Hid (wr.cell? ⟨w2.heap.size, 3, none⟩ = some (.int .i64 a.kas)) ∧ Hid (wr.frozen? ⟨w2.heap.size, 0, none⟩ = false)) (fun i _ => L.length - (intOf i).toNat)
      case atStart => exact ⟨0, Nat.zero_le _, rfl, HB2, Lib.hid ⟨_, b0⟩, Lib.hid b1, Lib.hid b2, Lib.hid b3, Lib.hid fr⟩
      case round =>
        obtain ⟨k, hk, rfl, HB2, HX, HB1', HB2', HB3', HF⟩ := hrel
        by_cases hlt : k < L.length
        · have hne : L ≠ [] := by intro h; rw [h] at hlt; simp at hlt
          obtain ⟨tb, to, rfl, hf⟩ := HTW.out.at hne
          obtain ⟨x0', x1'⟩ := hf k hlt
          obtain ⟨h12, h2n, us, hw1, hw2⟩ := twin_mem (S := S) (a := a) (N := a.num.toNat) (t := L[k]) (by rw [HL.out]; exact List.getElem_mem hlt)
          clear hf hne
          generalize L[k] = x at *
          have X0 := Lib.hid x0'
          have X1 := Lib.hid x1'
          have HW1 := Lib.hid hw1
          have HW2 := Lib.hid hw2
          have HO1 : Hid (askOk S (numb a (x.1 : Int)) = true) := Lib.hid (askOk_numb HOK.out (by omega) (by omega))
          have HO2 : Hid (askOk S (numb a (x.2 : Int)) = true) := Lib.hid (askOk_numb HOK.out (by omega) (by omega))
          have hge : ¬ ((x.1 : Int) ≥ (x.2 : Int)) := by omega
          have hgb : decide ((x.1 : Int) ≥ (x.2 : Int)) = false := by simp; omega
          clear x0' x1' hw1 hw2 h2n
          obtain ⟨xo, b0⟩ := HX.out
          have b1 := HB1'.out
          have b2 := HB2'.out
          have b3 := HB3'.out
          have fr := HF.out
          have hbl := cell_lt b0
          have x0 := keep HB2.out X0.out
          have x1 := keep HB2.out X1.out
          have hxl := cell_lt x0
          clear HX HB1' HB2' HB3' HF
          have s0 := keep HB2.out S0.out
          have s1 := keep HB2.out S1.out
          have s2 := keep HB2.out S2.out
          have s3 := keep HB2.out S3.out
          have s4 := keep HB2.out S4.out
          have s5 := keep HB2.out S5.out
          have s6 := keep HB2.out S6.out
          have a0 := keep HB2.out A0.out
          have a1 := keep HB2.out A1.out
          have a2 := keep HB2.out A2.out
          have a3 := keep HB2.out A3.out
          have hsl := cell_lt s0
          have hal := cell_lt a0
          have hs2 := cell_lt S0.out
          have ha2 := cell_lt A0.out
          have HB := Lib.hid (bThen HBW.out HB2.out)
          have HPn := Lib.hid (HPS.out.keep HB.out)
          have tok1 : True := trivial
          have tok2 : True := trivial
          go_wp2_with fail
          generalize hV1 : World.setCell _ _ _ = V1
          replace HB2 := Lib.hid (show Below w2.heap.size w2 V1 by rw [← hV1]; exact bSet HB2.out (Nat.le_refl _))
          replace b1 : V1.cell? ⟨w2.heap.size, 1, none⟩ = some (.int .i64 a.set) := by rw [← hV1]; exact off2 (by decide) b1
          replace b2 : V1.cell? ⟨w2.heap.size, 2, none⟩ = some (.int .i64 a.gen) := by rw [← hV1]; exact off2 (by decide) b2
          replace b3 : V1.cell? ⟨w2.heap.size, 3, none⟩ = some (.int .i64 a.kas) := by rw [← hV1]; exact off2 (by decide) b3
          replace b0 : V1.cell? ⟨w2.heap.size, 0, none⟩ = some (.int .i64 (x.1 : Int)) := by rw [← hV1]; exact World.cell?_setCell_same _ _ _ b0
          replace fr : V1.frozen? ⟨w2.heap.size, 0, none⟩ = false := by rw [← hV1]; simpa using fr
          replace hbl := cell_lt b0
          clear hV1
          replace s0 := keep HB2.out S0.out
          replace s1 := keep HB2.out S1.out
          replace s2 := keep HB2.out S2.out
          replace s3 := keep HB2.out S3.out
          replace s4 := keep HB2.out S4.out
          replace s5 := keep HB2.out S5.out
          replace s6 := keep HB2.out S6.out
          replace a0 := keep HB2.out A0.out
          replace a1 := keep HB2.out A1.out
          replace a2 := keep HB2.out A2.out
          replace a3 := keep HB2.out A3.out
          replace hsl := cell_lt s0
          replace hal := cell_lt a0
          replace HB := Lib.hid (bThen HBW.out HB2.out)
          replace HPn := Lib.hid (HPS.out.keep HB.out)
          replace x0 := keep HB2.out X0.out
          replace x1 := keep HB2.out X1.out
          replace hxl := cell_lt x0
          go_wp2_with (first
            | (go_at_call 20; have _t := tok1; refine (H20.out x.1 _ HPn.out).mono ?_; rintro e w5 ⟨hq, hb⟩; obtain ⟨adx, ccx, rfl, HY1⟩ := SpellPost.some hq HO1.out HW1.out; have hbl0 := cell_lt b0; replace s0 := keep hb s0; replace s1 := keep hb s1; replace s2 := keep hb s2; replace s3 := keep hb s3; replace s4 := keep hb s4; replace s5 := keep hb s5; replace s6 := keep hb s6; replace a0 := keep hb a0; replace a1 := keep hb a1; replace a2 := keep hb a2; replace a3 := keep hb a3; replace b0 := keep hb b0; replace b1 := keep hb b1; replace b2 := keep hb b2; replace b3 := keep hb b3; replace hsl := cell_lt s0; replace hal := cell_lt a0; replace hbl := cell_lt b0; replace fr := (hb.frozen (p := ⟨w2.heap.size, 0, none⟩) hbl0).trans fr; replace HB2 := Lib.hid (bThen HB2.out hb); replace HB := Lib.hid (bThen HB.out hb); replace HPn := Lib.hid (HPn.out.keep hb); replace x0 := keep hb x0; replace x1 := keep hb x1; replace hxl := cell_lt x0; clear hb hq hbl0 tok1))
          generalize hV2 : World.setCell _ _ _ = V2
          replace HB2 := Lib.hid (show Below w2.heap.size w2 V2 by rw [← hV2]; exact bSet HB2.out (Nat.le_refl _))
          replace HY1 := Lib.hid (show SliceV V2 (.slice adx us.length ccx) 1 StrAt us by rw [← hV2]; exact HY1.out.off b0)
          replace b1 : V2.cell? ⟨w2.heap.size, 1, none⟩ = some (.int .i64 a.set) := by rw [← hV2]; exact off2 (by decide) b1
          replace b2 : V2.cell? ⟨w2.heap.size, 2, none⟩ = some (.int .i64 a.gen) := by rw [← hV2]; exact off2 (by decide) b2
          replace b3 : V2.cell? ⟨w2.heap.size, 3, none⟩ = some (.int .i64 a.kas) := by rw [← hV2]; exact off2 (by decide) b3
          replace b0 : V2.cell? ⟨w2.heap.size, 0, none⟩ = some (.int .i64 (x.2 : Int)) := by rw [← hV2]; exact World.cell?_setCell_same _ _ _ b0
          replace fr : V2.frozen? ⟨w2.heap.size, 0, none⟩ = false := by rw [← hV2]; simpa using fr
          replace hbl := cell_lt b0
          clear hV2
          replace s0 := keep HB2.out S0.out
          replace s1 := keep HB2.out S1.out
          replace s2 := keep HB2.out S2.out
          replace s3 := keep HB2.out S3.out
          replace s4 := keep HB2.out S4.out
          replace s5 := keep HB2.out S5.out
          replace s6 := keep HB2.out S6.out
          replace a0 := keep HB2.out A0.out
          replace a1 := keep HB2.out A1.out
          replace a2 := keep HB2.out A2.out
          replace a3 := keep HB2.out A3.out
          replace hsl := cell_lt s0
          replace hal := cell_lt a0
          replace HB := Lib.hid (bThen HBW.out HB2.out)
          replace HPn := Lib.hid (HPS.out.keep HB.out)
          replace x0 := keep HB2.out X0.out
          replace x1 := keep HB2.out X1.out
          replace hxl := cell_lt x0
          go_wp2_with (first
            | (go_at_call 20; have _t := tok2; refine (H20.out x.2 _ HPn.out).mono ?_; rintro e w6 ⟨hq, hb⟩; obtain ⟨ady, ccy, rfl, HY2⟩ := SpellPost.some hq HO2.out HW2.out; have hbl0 := cell_lt b0; replace s0 := keep hb s0; replace s1 := keep hb s1; replace s2 := keep hb s2; replace s3 := keep hb s3; replace s4 := keep hb s4; replace s5 := keep hb s5; replace s6 := keep hb s6; replace a0 := keep hb a0; replace a1 := keep hb a1; replace a2 := keep hb a2; replace a3 := keep hb a3; replace b0 := keep hb b0; replace b1 := keep hb b1; replace b2 := keep hb b2; replace b3 := keep hb b3; replace hsl := cell_lt s0; replace hal := cell_lt a0; replace hbl := cell_lt b0; replace fr := (hb.frozen (p := ⟨w2.heap.size, 0, none⟩) hbl0).trans fr; replace HB2 := Lib.hid (bThen HB2.out hb); replace HB := Lib.hid (bThen HB.out hb); replace HPn := Lib.hid (HPn.out.keep hb); replace x0 := keep hb x0; replace x1 := keep hb x1; replace hxl := cell_lt x0; replace HY1 := Lib.hid (HY1.out.keep StrAt.stable hb); clear hb hq hbl0 tok2))
          have hsame : ∀ xq : BW w6, Calls Try.prog 25 #[.slice adx us.length ccx, .slice ady us.length ccy] xq.val fun e w' => e = .returned (.bool true) ∧ Below xq.val.heap.size xq.val w' := fun xq => isB (Same_any us us _ _ _ (HY1.out.keep StrAt.stable xq.2) (HY2.out.keep StrAt.stable xq.2)) (by simp)
          refine wp_opaque fun Q2 hQ2 => ?_
          (refine wp_region_below (by kernel_rfl) (by kernel_rfl) ?_; (repeat (first | go_big_quiet_step ((go_at_call 25; exact toB hsame _)) | quiet_step ((go_at_call 25; exact toB hsame _)))); (refine wpQuiet_nil ?_; intro _ hw'; obtain ⟨xq, hw''⟩ := hw'; subst hw''))
          refine hQ2 _ _ _ ?_
          have hb := xq.2
          replace b0 := keep hb b0
          replace b1 := keep hb b1
          replace b2 := keep hb b2
          replace b3 := keep hb b3
          replace fr := (hb.frozen (p := ⟨w2.heap.size, 0, none⟩) hbl).trans fr
          replace HB2 := Lib.hid (bThen HB2.out hb)
          clear hsame hb
          generalize xq.val = W4 at *
          go_wp2_with fail
          go_roundw
          case rel => exact ⟨k + 1, by omega, by go_num, HB2, Lib.hid ⟨_, b0⟩, Lib.hid b1, Lib.hid b2, Lib.hid b3, Lib.hid fr⟩
          case measure => simp [intOf]; omega
        · obtain rfl : k = L.length := by omega
          have s0 := keep HB2.out S0.out
          have s1 := keep HB2.out S1.out
          have s2 := keep HB2.out S2.out
          have s3 := keep HB2.out S3.out
          have s4 := keep HB2.out S4.out
          have s5 := keep HB2.out S5.out
          have s6 := keep HB2.out S6.out
          have a0 := keep HB2.out A0.out
          have a1 := keep HB2.out A1.out
          have a2 := keep HB2.out A2.out
          have a3 := keep HB2.out A3.out
          have hsl := cell_lt s0
          have hal := cell_lt a0
          have hs2 := cell_lt S0.out
          have ha2 := cell_lt A0.out
          have HB := Lib.hid (bThen HBW.out HB2.out)
          have HPn := Lib.hid (HPS.out.keep HB.out)
          have tokK : True := trivial
          go_wp2_with (first
            | (go_at_call 15; have _t := tokK; refine (known_any _).mono ?_; rintro e wk ⟨rfl, hb⟩; replace HB := Lib.hid (bThen HB.out hb); clear hb))
          go_ret
          exact ⟨rfl, HB.out⟩
  | some ws =>
    have HW := Lib.hid hw
    have HNER : Hid (readsTo S a a.num.toNat ws ≠ []) := Lib.hid (List.ne_nil_of_mem (reads_mem (n := (m : Int)) (by omega) (by omega) hw))
    clear hw
    go_enter Try.func8, Try.ntmps8
    go_wp2_with fail
    generalize hW1 : World.alloc (World.alloc w _) _ = W1
    have hbn : Below w.heap.size w W1 := by rw [← hW1]; exact bAlloc (bAlloc (Below.refl _ _) _) _
    have s0 : W1.cell? ⟨w.heap.size, 0, none⟩ = some (.int .i64 S.top) := by rw [← hW1]; exact keep (bAlloc (Below.refl _ _) _) (cell_new rfl)
    have s1 : W1.cell? ⟨w.heap.size, 1, none⟩ = some (.int .i64 S.genders) := by rw [← hW1]; exact keep (bAlloc (Below.refl _ _) _) (cell_new rfl)
    have s2 : W1.cell? ⟨w.heap.size, 2, none⟩ = some (.int .i64 S.cases) := by rw [← hW1]; exact keep (bAlloc (Below.refl _ _) _) (cell_new rfl)
    have s3 : W1.cell? ⟨w.heap.size, 3, none⟩ = some (.int .i64 S.classes) := by rw [← hW1]; exact keep (bAlloc (Below.refl _ _) _) (cell_new rfl)
    have s4 : W1.cell? ⟨w.heap.size, 4, none⟩ = some (.slice at_ S.terms.length ct) := by rw [← hW1]; exact keep (bAlloc (Below.refl _ _) _) (cell_new rfl)
    have s5 : W1.cell? ⟨w.heap.size, 5, none⟩ = some (.slice ap S.plurals.length cp) := by rw [← hW1]; exact keep (bAlloc (Below.refl _ _) _) (cell_new rfl)
    have s6 : W1.cell? ⟨w.heap.size, 6, none⟩ = some (.slice as_ S.sets.length cs) := by rw [← hW1]; exact keep (bAlloc (Below.refl _ _) _) (cell_new rfl)
    have a0 : W1.cell? ⟨w.heap.size + 1, 0, none⟩ = some (.int .i64 a.num) := by rw [← hW1]; simp
    have a1 : W1.cell? ⟨w.heap.size + 1, 1, none⟩ = some (.int .i64 a.set) := by rw [← hW1]; simp
    have a2 : W1.cell? ⟨w.heap.size + 1, 2, none⟩ = some (.int .i64 a.gen) := by rw [← hW1]; simp
    have a3 : W1.cell? ⟨w.heap.size + 1, 3, none⟩ = some (.int .i64 a.kas) := by rw [← hW1]; simp
    have HB := Lib.hid hbn
    have HPn := Lib.hid (HPS.out.keep hbn)
    have hsl := cell_lt s0
    have hal := cell_lt a0
    clear hW1 hbn
    have tok1 : True := trivial
    go_wp2_with (first
      | (go_at_call 14; rw [HSV.out]; refine (small_any S _ _ _ _ HPn.out).mono ?_; rintro e w1 ⟨⟨b, rfl⟩, hb⟩; replace s0 := keep hb s0; replace s1 := keep hb s1; replace s2 := keep hb s2; replace s3 := keep hb s3; replace s4 := keep hb s4; replace s5 := keep hb s5; replace s6 := keep hb s6; replace a0 := keep hb a0; replace a1 := keep hb a1; replace a2 := keep hb a2; replace a3 := keep hb a3; replace hsl := cell_lt s0; replace hal := cell_lt a0; replace HPn := Lib.hid (HPn.out.keep hb); replace HB := Lib.hid (bThen HB.out hb); clear hb; cases b)
      | (go_at_call 22; refine (H22.out _ HPn.out).mono ?_; rintro e w4 ⟨rfl, hb⟩; rw [HER.out]; replace s0 := keep hb s0; replace s1 := keep hb s1; replace s2 := keep hb s2; replace s3 := keep hb s3; replace s4 := keep hb s4; replace s5 := keep hb s5; replace s6 := keep hb s6; replace a0 := keep hb a0; replace a1 := keep hb a1; replace a2 := keep hb a2; replace a3 := keep hb a3; replace hsl := cell_lt s0; replace hal := cell_lt a0; replace HPn := Lib.hid (HPn.out.keep hb); replace HB := Lib.hid (bThen HB.out hb); clear hb)
      | (go_at_call 15; refine (known_any _).mono ?_; rintro e wk ⟨rfl, hb⟩; replace HB := Lib.hid (bThen HB.out hb); clear hb)
      | (go_at_call 30; refine (H30.out _ HPn.out).mono ?_; rintro e w2 ⟨hq, hb⟩; obtain ⟨ad1, cc1, rfl, HTW⟩ := TwinsPost.some hq HE0.out HL.out; replace s0 := keep hb s0; replace s1 := keep hb s1; replace s2 := keep hb s2; replace s3 := keep hb s3; replace s4 := keep hb s4; replace s5 := keep hb s5; replace s6 := keep hb s6; replace a0 := keep hb a0; replace a1 := keep hb a1; replace a2 := keep hb a2; replace a3 := keep hb a3; replace hsl := cell_lt s0; replace hal := cell_lt a0; replace HPn := Lib.hid (HPn.out.keep hb); replace HB := Lib.hid (bThen HB.out hb); clear hb hq))
    · go_ret
      exact ⟨rfl, HB.out⟩
    · go_ret
      exact ⟨rfl, HB.out⟩
    · generalize hV : World.alloc w2 _ = V
      have S0 := Lib.hid s0
      have S1 := Lib.hid s1
      have S2 := Lib.hid s2
      have S3 := Lib.hid s3
      have S4 := Lib.hid s4
      have S5 := Lib.hid s5
      have S6 := Lib.hid s6
      have A0 := Lib.hid a0
      have A1 := Lib.hid a1
      have A2 := Lib.hid a2
      have A3 := Lib.hid a3
      have HBW := HB
      have HB2 := Lib.hid (show Below w2.heap.size w2 V by rw [← hV]; exact bAlloc (Below.refl _ _) _)
      have b0 : V.cell? ⟨w2.heap.size, 0, none⟩ = some (.int .i64 (m : Int)) := by rw [← hV]; exact cell_new rfl
      have b1 : V.cell? ⟨w2.heap.size, 1, none⟩ = some (.int .i64 a.set) := by rw [← hV]; exact cell_new rfl
      have b2 : V.cell? ⟨w2.heap.size, 2, none⟩ = some (.int .i64 a.gen) := by rw [← hV]; exact cell_new rfl
      have b3 : V.cell? ⟨w2.heap.size, 3, none⟩ = some (.int .i64 a.kas) := by rw [← hV]; exact cell_new rfl
      have fr : V.frozen? ⟨w2.heap.size, 0, none⟩ = false := by rw [← hV]; simp
      have hbl := cell_lt b0
      clear hV
      replace s0 := keep HB2.out S0.out
      replace s1 := keep HB2.out S1.out
      replace s2 := keep HB2.out S2.out
      replace s3 := keep HB2.out S3.out
      replace s4 := keep HB2.out S4.out
      replace s5 := keep HB2.out S5.out
      replace s6 := keep HB2.out S6.out
      replace a0 := keep HB2.out A0.out
      replace a1 := keep HB2.out A1.out
      replace a2 := keep HB2.out A2.out
      replace a3 := keep HB2.out A3.out
      replace hsl := cell_lt s0
      replace hal := cell_lt a0
      replace HB := Lib.hid (bThen HBW.out HB2.out)
      replace HPn := Lib.hid (HPS.out.keep HB.out)
      go_wp2_with (first
        | (go_at_call 20; have _t := tok1; refine (H20.out m _ HPn.out).mono ?_; rintro e w3 ⟨hq, hb⟩; obtain ⟨ad3, cc3, rfl, HWS⟩ := SpellPost.some hq HOKM.out HW.out; have hbl0 := cell_lt b0; replace s0 := keep hb s0; replace s1 := keep hb s1; replace s2 := keep hb s2; replace s3 := keep hb s3; replace s4 := keep hb s4; replace s5 := keep hb s5; replace s6 := keep hb s6; replace a0 := keep hb a0; replace a1 := keep hb a1; replace a2 := keep hb a2; replace a3 := keep hb a3; replace b0 := keep hb b0; replace b1 := keep hb b1; replace b2 := keep hb b2; replace b3 := keep hb b3; replace hsl := cell_lt s0; replace hal := cell_lt a0; replace hbl := cell_lt b0; replace fr := (hb.frozen (p := ⟨w2.heap.size, 0, none⟩) hbl0).trans fr; replace HB2 := Lib.hid (bThen HB2.out hb); replace HB := Lib.hid (bThen HB.out hb); replace HPn := Lib.hid (HPn.out.keep hb); clear hb hq hbl0 tok1))
      clear s0 s1 s2 s3 s4 s5 s6 a0 a1 a2 a3 hsl hal HPn
      go_loopw [12] (fun i wr => ∃ k : Nat, k ≤ L.length ∧ i = .int .i64 k ∧ Hid (Below w2.heap.size w2 wr) ∧ Hid (∃ x : Int, wr.cell? ⟨w2.heap.size, 0, none⟩ = some (.int .i64 x)) ∧ Hid (wr.cell? ⟨w2.heap.size, 1, none⟩ = some (.int .i64 a.set)) ∧ Hid (wr.cell? ⟨w2.heap.size, 2, none⟩ = some (.int .i64 a.gen)) ∧ Hid (wr.cell? ⟨w2.heap.size, 3, none⟩ = some (.int .i64 a.kas)) ∧ Hid (wr.frozen? ⟨w2.heap.size, 0, none⟩ = false) ∧ Hid (SliceV wr (.slice ad3 ws.length cc3) 1 StrAt ws)) (fun i _ => L.length - (intOf i).toNat)
      case atStart => exact ⟨0, Nat.zero_le _, rfl, HB2, Lib.hid ⟨_, b0⟩, Lib.hid b1, Lib.hid b2, Lib.hid b3, Lib.hid fr, HWS⟩
      case round =>
        obtain ⟨k, hk, rfl, HB2, HX, HB1', HB2', HB3', HF, HWS⟩ := hrel
        by_cases hlt : k < L.length
        · have hne : L ≠ [] := by intro h; rw [h] at hlt; simp at hlt
          obtain ⟨tb, to, rfl, hf⟩ := HTW.out.at hne
          obtain ⟨x0', x1'⟩ := hf k hlt
          obtain ⟨h12, h2n, us, hw1, hw2⟩ := twin_mem (S := S) (a := a) (N := a.num.toNat) (t := L[k]) (by rw [HL.out]; exact List.getElem_mem hlt)
          clear hf hne
          generalize L[k] = x at *
          have X0 := Lib.hid x0'
          have X1 := Lib.hid x1'
          have HW1 := Lib.hid hw1
          have HW2 := Lib.hid hw2
          have HO1 : Hid (askOk S (numb a (x.1 : Int)) = true) := Lib.hid (askOk_numb HOK.out (by omega) (by omega))
          have HO2 : Hid (askOk S (numb a (x.2 : Int)) = true) := Lib.hid (askOk_numb HOK.out (by omega) (by omega))
          have hge : ¬ ((x.1 : Int) ≥ (x.2 : Int)) := by omega
          have hgb : decide ((x.1 : Int) ≥ (x.2 : Int)) = false := by simp; omega
          clear x0' x1' hw1 hw2 h2n
          obtain ⟨xo, b0⟩ := HX.out
          have b1 := HB1'.out
          have b2 := HB2'.out
          have b3 := HB3'.out
          have fr := HF.out
          have hbl := cell_lt b0
          have x0 := keep HB2.out X0.out
          have x1 := keep HB2.out X1.out
          have hxl := cell_lt x0
          clear HX HB1' HB2' HB3' HF
          have s0 := keep HB2.out S0.out
          have s1 := keep HB2.out S1.out
          have s2 := keep HB2.out S2.out
          have s3 := keep HB2.out S3.out
          have s4 := keep HB2.out S4.out
          have s5 := keep HB2.out S5.out
          have s6 := keep HB2.out S6.out
          have a0 := keep HB2.out A0.out
          have a1 := keep HB2.out A1.out
          have a2 := keep HB2.out A2.out
          have a3 := keep HB2.out A3.out
          have hsl := cell_lt s0
          have hal := cell_lt a0
          have hs2 := cell_lt S0.out
          have ha2 := cell_lt A0.out
          have HB := Lib.hid (bThen HBW.out HB2.out)
          have HPn := Lib.hid (HPS.out.keep HB.out)
          have tok1 : True := trivial
          have tok2 : True := trivial
          go_wp2_with fail
          generalize hV1 : World.setCell _ _ _ = V1
          replace HB2 := Lib.hid (show Below w2.heap.size w2 V1 by rw [← hV1]; exact bSet HB2.out (Nat.le_refl _))
          replace HWS := Lib.hid (show SliceV V1 (.slice ad3 ws.length cc3) 1 StrAt ws by rw [← hV1]; exact HWS.out.off b0)
          replace b1 : V1.cell? ⟨w2.heap.size, 1, none⟩ = some (.int .i64 a.set) := by rw [← hV1]; exact off2 (by decide) b1
          replace b2 : V1.cell? ⟨w2.heap.size, 2, none⟩ = some (.int .i64 a.gen) := by rw [← hV1]; exact off2 (by decide) b2
          replace b3 : V1.cell? ⟨w2.heap.size, 3, none⟩ = some (.int .i64 a.kas) := by rw [← hV1]; exact off2 (by decide) b3
          replace b0 : V1.cell? ⟨w2.heap.size, 0, none⟩ = some (.int .i64 (x.1 : Int)) := by rw [← hV1]; exact World.cell?_setCell_same _ _ _ b0
          replace fr : V1.frozen? ⟨w2.heap.size, 0, none⟩ = false := by rw [← hV1]; simpa using fr
          replace hbl := cell_lt b0
          clear hV1
          replace s0 := keep HB2.out S0.out
          replace s1 := keep HB2.out S1.out
          replace s2 := keep HB2.out S2.out
          replace s3 := keep HB2.out S3.out
          replace s4 := keep HB2.out S4.out
          replace s5 := keep HB2.out S5.out
          replace s6 := keep HB2.out S6.out
          replace a0 := keep HB2.out A0.out
          replace a1 := keep HB2.out A1.out
          replace a2 := keep HB2.out A2.out
          replace a3 := keep HB2.out A3.out
          replace hsl := cell_lt s0
          replace hal := cell_lt a0
          replace HB := Lib.hid (bThen HBW.out HB2.out)
          replace HPn := Lib.hid (HPS.out.keep HB.out)
          replace x0 := keep HB2.out X0.out
          replace x1 := keep HB2.out X1.out
          replace hxl := cell_lt x0
          go_wp2_with (first
            | (go_at_call 20; have _t := tok1; refine (H20.out x.1 _ HPn.out).mono ?_; rintro e w5 ⟨hq, hb⟩; obtain ⟨adx, ccx, rfl, HY1⟩ := SpellPost.some hq HO1.out HW1.out; have hbl0 := cell_lt b0; replace s0 := keep hb s0; replace s1 := keep hb s1; replace s2 := keep hb s2; replace s3 := keep hb s3; replace s4 := keep hb s4; replace s5 := keep hb s5; replace s6 := keep hb s6; replace a0 := keep hb a0; replace a1 := keep hb a1; replace a2 := keep hb a2; replace a3 := keep hb a3; replace b0 := keep hb b0; replace b1 := keep hb b1; replace b2 := keep hb b2; replace b3 := keep hb b3; replace hsl := cell_lt s0; replace hal := cell_lt a0; replace hbl := cell_lt b0; replace fr := (hb.frozen (p := ⟨w2.heap.size, 0, none⟩) hbl0).trans fr; replace HB2 := Lib.hid (bThen HB2.out hb); replace HB := Lib.hid (bThen HB.out hb); replace HPn := Lib.hid (HPn.out.keep hb); replace x0 := keep hb x0; replace x1 := keep hb x1; replace hxl := cell_lt x0; replace HWS := Lib.hid (HWS.out.keep StrAt.stable hb); clear hb hq hbl0 tok1))
          generalize hV2 : World.setCell _ _ _ = V2
          replace HB2 := Lib.hid (show Below w2.heap.size w2 V2 by rw [← hV2]; exact bSet HB2.out (Nat.le_refl _))
          replace HWS := Lib.hid (show SliceV V2 (.slice ad3 ws.length cc3) 1 StrAt ws by rw [← hV2]; exact HWS.out.off b0)
          replace HY1 := Lib.hid (show SliceV V2 (.slice adx us.length ccx) 1 StrAt us by rw [← hV2]; exact HY1.out.off b0)
          replace b1 : V2.cell? ⟨w2.heap.size, 1, none⟩ = some (.int .i64 a.set) := by rw [← hV2]; exact off2 (by decide) b1
          replace b2 : V2.cell? ⟨w2.heap.size, 2, none⟩ = some (.int .i64 a.gen) := by rw [← hV2]; exact off2 (by decide) b2
          replace b3 : V2.cell? ⟨w2.heap.size, 3, none⟩ = some (.int .i64 a.kas) := by rw [← hV2]; exact off2 (by decide) b3
          replace b0 : V2.cell? ⟨w2.heap.size, 0, none⟩ = some (.int .i64 (x.2 : Int)) := by rw [← hV2]; exact World.cell?_setCell_same _ _ _ b0
          replace fr : V2.frozen? ⟨w2.heap.size, 0, none⟩ = false := by rw [← hV2]; simpa using fr
          replace hbl := cell_lt b0
          clear hV2
          replace s0 := keep HB2.out S0.out
          replace s1 := keep HB2.out S1.out
          replace s2 := keep HB2.out S2.out
          replace s3 := keep HB2.out S3.out
          replace s4 := keep HB2.out S4.out
          replace s5 := keep HB2.out S5.out
          replace s6 := keep HB2.out S6.out
          replace a0 := keep HB2.out A0.out
          replace a1 := keep HB2.out A1.out
          replace a2 := keep HB2.out A2.out
          replace a3 := keep HB2.out A3.out
          replace hsl := cell_lt s0
          replace hal := cell_lt a0
          replace HB := Lib.hid (bThen HBW.out HB2.out)
          replace HPn := Lib.hid (HPS.out.keep HB.out)
          replace x0 := keep HB2.out X0.out
          replace x1 := keep HB2.out X1.out
          replace hxl := cell_lt x0
          go_wp2_with (first
            | (go_at_call 20; have _t := tok2; refine (H20.out x.2 _ HPn.out).mono ?_; rintro e w6 ⟨hq, hb⟩; obtain ⟨ady, ccy, rfl, HY2⟩ := SpellPost.some hq HO2.out HW2.out; have hbl0 := cell_lt b0; replace s0 := keep hb s0; replace s1 := keep hb s1; replace s2 := keep hb s2; replace s3 := keep hb s3; replace s4 := keep hb s4; replace s5 := keep hb s5; replace s6 := keep hb s6; replace a0 := keep hb a0; replace a1 := keep hb a1; replace a2 := keep hb a2; replace a3 := keep hb a3; replace b0 := keep hb b0; replace b1 := keep hb b1; replace b2 := keep hb b2; replace b3 := keep hb b3; replace hsl := cell_lt s0; replace hal := cell_lt a0; replace hbl := cell_lt b0; replace fr := (hb.frozen (p := ⟨w2.heap.size, 0, none⟩) hbl0).trans fr; replace HB2 := Lib.hid (bThen HB2.out hb); replace HB := Lib.hid (bThen HB.out hb); replace HPn := Lib.hid (HPn.out.keep hb); replace x0 := keep hb x0; replace x1 := keep hb x1; replace hxl := cell_lt x0; replace HWS := Lib.hid (HWS.out.keep StrAt.stable hb); replace HY1 := Lib.hid (HY1.out.keep StrAt.stable hb); clear hb hq hbl0 tok2))
          have hsame : ∀ xq : BW w6, Calls Try.prog 25 #[.slice adx us.length ccx, .slice ady us.length ccy] xq.val fun e w' => e = .returned (.bool true) ∧ Below xq.val.heap.size xq.val w' := fun xq => isB (Same_any us us _ _ _ (HY1.out.keep StrAt.stable xq.2) (HY2.out.keep StrAt.stable xq.2)) (by simp)
          refine wp_opaque fun Q2 hQ2 => ?_
          (refine wp_region_below (by kernel_rfl) (by kernel_rfl) ?_; (repeat (first | go_big_quiet_step ((go_at_call 25; exact toB hsame _)) | quiet_step ((go_at_call 25; exact toB hsame _)))); (refine wpQuiet_nil ?_; intro _ hw'; obtain ⟨xq, hw''⟩ := hw'; subst hw''))
          refine hQ2 _ _ _ ?_
          have hb := xq.2
          replace b0 := keep hb b0
          replace b1 := keep hb b1
          replace b2 := keep hb b2
          replace b3 := keep hb b3
          replace fr := (hb.frozen (p := ⟨w2.heap.size, 0, none⟩) hbl).trans fr
          replace HB2 := Lib.hid (bThen HB2.out hb)
          replace HWS := Lib.hid (HWS.out.keep StrAt.stable hb)
          clear hsame hb
          generalize xq.val = W4 at *
          go_wp2_with fail
          go_roundw
          case rel => exact ⟨k + 1, by omega, by go_num, HB2, Lib.hid ⟨_, b0⟩, Lib.hid b1, Lib.hid b2, Lib.hid b3, Lib.hid fr, HWS⟩
          case measure => simp [intOf]; omega
        · obtain rfl : k = L.length := by omega
          have s0 := keep HB2.out S0.out
          have s1 := keep HB2.out S1.out
          have s2 := keep HB2.out S2.out
          have s3 := keep HB2.out S3.out
          have s4 := keep HB2.out S4.out
          have s5 := keep HB2.out S5.out
          have s6 := keep HB2.out S6.out
          have a0 := keep HB2.out A0.out
          have a1 := keep HB2.out A1.out
          have a2 := keep HB2.out A2.out
          have a3 := keep HB2.out A3.out
          have hsl := cell_lt s0
          have hal := cell_lt a0
          have hs2 := cell_lt S0.out
          have ha2 := cell_lt A0.out
          have HB := Lib.hid (bThen HBW.out HB2.out)
          have HPn := Lib.hid (HPS.out.keep HB.out)
          have tokK : True := trivial
          by_cases hl0 : 0 < L.length
          · have hlb : decide (((L.length : Nat) : Int) > 0) = true := by simp; omega
            have hlp : ((L.length : Nat) : Int) > 0 := by omega
            go_wp2_with (first
              | (go_at_call 27; refine (H27.out _ _ _ HPn.out HWS.out).mono ?_; rintro e w7 ⟨hq, hb⟩; obtain ⟨adr, ccr, rfl, HRD⟩ := ReadPost.some hq HE0.out rfl (HNER.out); replace HB := Lib.hid (bThen HB.out hb); clear hb hq)
              | (go_at_call 15; have _t := tokK; refine (known_any _).mono ?_; rintro e wk ⟨rfl, hb⟩; replace HB := Lib.hid (bThen HB.out hb); clear hb))
            all_goals
              go_ret
              exact ⟨rfl, HB.out⟩
          · have hlb : decide (((L.length : Nat) : Int) > 0) = false := decide_eq_false (by omega)
            have hlp : ¬ ((L.length : Nat) : Int) > 0 := by omega
            have HONE : Hid (readsTo S a a.num.toNat ws = [m]) := Lib.hid (alone (HL.out.trans (List.length_eq_zero_iff.1 (by omega))) (by omega) HW.out)
            go_wp2_with (first
              | (go_at_call 27; refine (H27.out _ _ _ HPn.out HWS.out).mono ?_; rintro e w7 ⟨hq, hb⟩; obtain ⟨adr, ccr, rfl, HRD⟩ := ReadPost.one hq HE0.out HONE.out; replace HB := Lib.hid (bThen HB.out hb); clear hb hq)
              | (go_at_call 29; refine (isB (Numbers_any [(m : Int)] [(m : Int)] _ _ _ (HRD.out.keep IntAt.stable (bAlloc (Below.refl _ _) _)) (one_int _ m)) (show _ = true by simp)).mono ?_; rintro e w8 ⟨rfl, hb⟩; replace HB := Lib.hid (bThen (bAlloc HB.out _) hb); clear hb)
              | (go_at_call 15; have _t := tokK; refine (known_any _).mono ?_; rintro e wk ⟨rfl, hb⟩; replace HB := Lib.hid (bThen HB.out hb); clear hb))
            all_goals
              go_ret
              exact ⟨rfl, HB.out⟩
end Go.Proofs.Ytfcopnlpcbbocaa
