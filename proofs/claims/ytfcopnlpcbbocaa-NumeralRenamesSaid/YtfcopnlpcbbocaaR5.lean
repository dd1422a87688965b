/- The law of spelling, walked: for every system and every ask it answers true. -/
import Derived.Test.YtfcopnlpcbbocaaR4
set_option linter.unusedSimpArgs false
set_option linter.unusedVariables false
namespace Go.Proofs.Ytfcopnlpcbbocaa
open Go.RowKit

/-- A word with its reason is equal to itself. -/
theorem eqSaid (d : Nat) (x : Said) (w : World) : (Op.equalIn (d + 1 + 1) 50 (.agg #[.string x.txt, .int .i64 x.num, .int .i64 x.set, .int .i64 x.rule, .int .i64 x.piece, .int .i64 x.depth]) (.agg #[.string x.txt, .int .i64 x.num, .int .i64 x.set, .int .i64 x.rule, .int .i64 x.piece, .int .i64 x.depth])).run Try.prog w = .ok true w := by
  have hs : (Try.prog.stoodInHeld 50) = false := by kernel_rfl
  have h3 : ∀ w, (sizeOf 3).run Try.prog w = .ok 1 w := fun _ => by kernel_rfl
  have h9 : ∀ w, (sizeOf 9).run Try.prog w = .ok 1 w := fun _ => by kernel_rfl
  unfold Op.equalIn
  simp only [Sem.run_bind, run_underlying Try.underlying50, Result.andThen, h3, h9]
  simp [go_sem, hs, Try.underlying3, Try.underlying9]
-- X
theorem SliceV.at {α : Type} {w : World} {ad : Option Addr} {n c sz : Nat} {R : World → Nat → Nat → α → Prop} {xs : List α} (h : SliceV w (.slice ad n c) sz R xs) (hne : xs ≠ []) : ∃ b o, ad = some ⟨b, o, none⟩ ∧ ∀ i (hi : i < xs.length), R w b (o + i * sz) xs[i] := by
  obtain ⟨a, c', hv, -, hx⟩ := h
  rcases hx with hx | ⟨b, o, ha, hf⟩
  · exact absurd hx hne
  · simp at hv
    exact ⟨b, o, hv.1.trans ha, hf⟩
theorem SliceV.len {α : Type} {w : World} {ad : Option Addr} {n c sz : Nat} {R : World → Nat → Nat → α → Prop} {xs : List α} (h : SliceV w (.slice ad n c) sz R xs) : n = xs.length := by
  obtain ⟨a, c', hv, -⟩ := h
  simp at hv
  exact hv.2.1
theorem SpellPost.bad {S : Sys} {a : Ask} {e : Ending} {w : World} (h : SpellPost S a e w) (hok : askOk S a = false) : e = .returned (.tuple #[.slice none 0 0, .int .i64 2]) := by
  rcases h with ⟨-, h⟩ | ⟨h, -⟩ | ⟨h, -⟩
  · exact h
  · rw [hok] at h; cases h
  · rw [hok] at h; cases h
theorem TracePost.bad {S : Sys} {a : Ask} {e : Ending} {w : World} (h : TracePost S a e w) (hok : askOk S a = false) : e = .returned (.tuple #[.slice none 0 0, .int .i64 2]) := by
  rcases h with ⟨-, h⟩ | ⟨h, -⟩ | ⟨h, -⟩
  · exact h
  · rw [hok] at h; cases h
  · rw [hok] at h; cases h
theorem SpellPost.none {S : Sys} {a : Ask} {e : Ending} {w : World} (h : SpellPost S a e w) (hok : askOk S a = true) (hw : wordsOf S a = none) : e = .returned (.tuple #[.slice none 0 0, .int .i64 5]) := by
  rcases h with ⟨h, -⟩ | ⟨-, -, h⟩ | ⟨-, ws, v, h, -⟩
  · rw [hok] at h; cases h
  · exact h
  · rw [hw] at h; cases h
theorem TracePost.none {S : Sys} {a : Ask} {e : Ending} {w : World} (h : TracePost S a e w) (hok : askOk S a = true) (hw : saidOf S a = none) : e = .returned (.tuple #[.slice none 0 0, .int .i64 5]) := by
  rcases h with ⟨h, -⟩ | ⟨-, -, h⟩ | ⟨-, ws, v, h, -⟩
  · rw [hok] at h; cases h
  · exact h
  · rw [hw] at h; cases h
theorem SpellPost.some {S : Sys} {a : Ask} {e : Ending} {w : World} {ws : List ByteArray} (h : SpellPost S a e w) (hok : askOk S a = true) (hw : wordsOf S a = some ws) :
    ∃ ad c, e = .returned (.tuple #[.slice ad ws.length c, .int .i64 0]) ∧ Hid (SliceV w (.slice ad ws.length c) 1 StrAt ws) := by
  rcases h with ⟨h, -⟩ | ⟨-, h, -⟩ | ⟨-, ws', v, h, rfl, hs⟩
  · rw [hok] at h; cases h
  · rw [hw] at h; cases h
  · rw [hw] at h; cases h
    obtain ⟨ad, c, rfl, -⟩ := id hs
    exact ⟨ad, c, rfl, Lib.hid hs⟩
theorem TracePost.some {S : Sys} {a : Ask} {e : Ending} {w : World} {ws : List Said} (h : TracePost S a e w) (hok : askOk S a = true) (hw : saidOf S a = some ws) :
    ∃ ad c, e = .returned (.tuple #[.slice ad ws.length c, .int .i64 0]) ∧ Hid (SliceV w (.slice ad ws.length c) 6 SaidAt ws) := by
  rcases h with ⟨h, -⟩ | ⟨-, h, -⟩ | ⟨-, ws', v, h, rfl, hs⟩
  · rw [hok] at h; cases h
  · rw [hw] at h; cases h
  · rw [hw] at h; cases h
    obtain ⟨ad, c, rfl, -⟩ := id hs
    exact ⟨ad, c, rfl, Lib.hid hs⟩
theorem RefTraced.none {l : List Item} {e : Ending} {w : World} (h : RefTraced l e w) (hl : l.all Prod.snd = false) : ∃ ad c, e = .returned (.tuple #[.slice ad 0 c, .bool false]) := by
  obtain ⟨ad, n, c, t, rfl, ⟨rfl, h1, -⟩ | ⟨rfl, -, rfl⟩⟩ := h
  · rw [hl] at h1; cases h1
  · exact ⟨ad, c, rfl⟩
theorem RefTraced.some {l : List Item} {e : Ending} {w : World} (h : RefTraced l e w) (hl : l.all Prod.snd = true) : ∃ ad c, e = .returned (.tuple #[.slice ad (l.map Prod.fst).length c, .bool true]) ∧ Hid (SliceV w (.slice ad (l.map Prod.fst).length c) 6 SaidAt (l.map Prod.fst)) := by
  obtain ⟨ad, n, c, t, rfl, ⟨rfl, -, h2⟩ | ⟨rfl, h1, rfl⟩⟩ := h
  · obtain rfl := h2.len
    exact ⟨ad, c, rfl, Lib.hid h2⟩
  · rw [hl] at h1; cases h1
theorem RefSpelled.some {S : Sys} {a : Ask} {e : Ending} {w : World} {ws : List ByteArray} (h : RefSpelled S a e w) (hw : wordsOf S a = some ws) : ∃ ad c, e = .returned (.tuple #[.slice ad ws.length c, .bool true]) ∧ Hid (SliceV w (.slice ad ws.length c) 1 StrAt ws) := by
  rcases h with ⟨ad, n, c, ws', rfl, h⟩ | ⟨rfl, h⟩
  · obtain ⟨h1, h2⟩ := h.out
    rw [hw] at h1; cases h1
    obtain rfl := h2.len
    exact ⟨ad, c, rfl, Lib.hid h2⟩
  · rw [hw] at h; cases h.out
set_option maxRecDepth 100000 in
set_option maxHeartbeats 8000000 in
theorem spells_any (S : Sys) (a : Ask) (vt vp vs : Value) (w : World) (hp : SysParts w vt vp vs S) :
    Calls Try.prog 4 #[sysVal S vt vp vs, a.val] w fun e w' => e = .returned (.bool true) ∧ Below w.heap.size w w' := by
  have HPS := Lib.hid hp
  obtain ⟨⟨at_, ct, rfl, -⟩, ⟨ap, cp, rfl, -⟩, ⟨as_, cs, rfl, -⟩⟩ := hp
  have HSV := Lib.hid (sysVal_eq S (.slice at_ S.terms.length ct) (.slice ap S.plurals.length cp) (.slice as_ S.sets.length cs))
  unfold sysVal Ask.val
  have h20 : ∀ W', SysParts W' (.slice at_ S.terms.length ct) (.slice ap S.plurals.length cp) (.slice as_ S.sets.length cs) S → Calls Try.prog 20 #[.agg #[.int .i64 S.top, .int .i64 S.genders, .int .i64 S.cases, .int .i64 S.classes, .slice at_ S.terms.length ct, .slice ap S.plurals.length cp, .slice as_ S.sets.length cs], .agg #[.int .i64 a.num, .int .i64 a.set, .int .i64 a.gen, .int .i64 a.kas]] W' fun e w' => SpellPost S a e w' ∧ Below W'.heap.size W' w' := fun W' h => Spell_any S a _ _ _ W' h
  have h21 : ∀ W', SysParts W' (.slice at_ S.terms.length ct) (.slice ap S.plurals.length cp) (.slice as_ S.sets.length cs) S → Calls Try.prog 21 #[.agg #[.int .i64 S.top, .int .i64 S.genders, .int .i64 S.cases, .int .i64 S.classes, .slice at_ S.terms.length ct, .slice ap S.plurals.length cp, .slice as_ S.sets.length cs], .agg #[.int .i64 a.num, .int .i64 a.set, .int .i64 a.gen, .int .i64 a.kas]] W' fun e w' => TracePost S a e w' ∧ Below W'.heap.size W' w' := fun W' h => Trace_any S a _ _ _ W' h
  have h22 : ∀ W', SysParts W' (.slice at_ S.terms.length ct) (.slice ap S.plurals.length cp) (.slice as_ S.sets.length cs) S → Calls Try.prog 22 #[.agg #[.int .i64 S.top, .int .i64 S.genders, .int .i64 S.cases, .int .i64 S.classes, .slice at_ S.terms.length ct, .slice ap S.plurals.length cp, .slice as_ S.sets.length cs], .agg #[.int .i64 a.num, .int .i64 a.set, .int .i64 a.gen, .int .i64 a.kas], .bool false] W' fun e w' => e = .returned (.int .i64 (refErr S a false)) ∧ Below W'.heap.size W' w' := fun W' h => refused_any S a false _ _ _ W' h
  have H20 := Lib.hid h20
  have H21 := Lib.hid h21
  have H22 := Lib.hid h22
  clear h20 h21 h22
  cases hok : askOk S a
  · have HOK := Lib.hid hok
    have HE : Hid (refErr S a false = 2) := Lib.hid (by rw [refErr, HOK.out]; simp)
    clear hok
    go_enter Try.func4, Try.ntmps4
    go_wp2_with fail
    generalize hW1 : World.alloc (World.alloc w _) _ = W1
    have hbn : Below w.heap.size w W1 := by rw [← hW1]; exact bAlloc (bAlloc (Below.refl _ _) _) _
    have s0 : W1.cell? ⟨w.heap.size, 0, none⟩ = some (.int .i64 S.top) := by rw [← hW1]; exact keep (bAlloc (Below.refl _ _) _) (cell_new rfl)
    have s1 : W1.cell? ⟨w.heap.size, 1, none⟩ = some (.int .i64 S.genders) := by rw [← hW1]; exact keep (bAlloc (Below.refl _ _) _) (cell_new rfl)
    have s2 : W1.cell? ⟨w.heap.size, 2, none⟩ = some (.int .i64 S.cases) := by rw [← hW1]; exact keep (bAlloc (Below.refl _ _) _) (cell_new rfl)
    have s3 : W1.cell? ⟨w.heap.size, 3, none⟩ = some (.int .i64 S.classes) := by rw [← hW1]; exact keep (bAlloc (Below.refl _ _) _) (cell_new rfl)
    have s4 : W1.cell? ⟨w.heap.size, 4, none⟩ = some (.slice at_ S.terms.length ct) := by rw [← hW1]; exact keep (bAlloc (Below.refl _ _) _) (cell_new rfl)
    have s5 : W1.cell? ⟨w.heap.size, 5, none⟩ = some (.slice ap S.plurals.length cp) := by rw [← hW1]; exact keep (bAlloc (Below.refl _ _) _) (cell_new rfl)
    have s6 : W1.cell? ⟨w.heap.size, 6, none⟩ = some (.slice as_ S.sets.length cs) := by rw [← hW1]; exact keep (bAlloc (Below.refl _ _) _) (cell_new rfl)
    have a0 : W1.cell? ⟨w.heap.size + 1, 0, none⟩ = some (.int .i64 a.num) := by rw [← hW1]; simp
    have a1 : W1.cell? ⟨w.heap.size + 1, 1, none⟩ = some (.int .i64 a.set) := by rw [← hW1]; simp
    have a2 : W1.cell? ⟨w.heap.size + 1, 2, none⟩ = some (.int .i64 a.gen) := by rw [← hW1]; simp
    have a3 : W1.cell? ⟨w.heap.size + 1, 3, none⟩ = some (.int .i64 a.kas) := by rw [← hW1]; simp
    have HB := Lib.hid hbn
    have HPn := Lib.hid (HPS.out.keep hbn)
    have hsl := cell_lt s0
    have hal := cell_lt a0
    clear hW1 hbn
    go_wp2_with (first
      | (go_at_call 14; rw [HSV.out]; refine (small_any S _ _ _ _ HPn.out).mono ?_; rintro e w1 ⟨⟨b, rfl⟩, hb⟩; replace s0 := keep hb s0; replace s1 := keep hb s1; replace s2 := keep hb s2; replace s3 := keep hb s3; replace s4 := keep hb s4; replace s5 := keep hb s5; replace s6 := keep hb s6; replace a0 := keep hb a0; replace a1 := keep hb a1; replace a2 := keep hb a2; replace a3 := keep hb a3; replace hsl := cell_lt s0; replace hal := cell_lt a0; replace HPn := Lib.hid (HPn.out.keep hb); replace HB := Lib.hid (bThen HB.out hb); clear hb)
      | (go_at_call 15; refine (known_any _).mono ?_; rintro e w1 ⟨rfl, hb⟩; replace s0 := keep hb s0; replace s1 := keep hb s1; replace s2 := keep hb s2; replace s3 := keep hb s3; replace s4 := keep hb s4; replace s5 := keep hb s5; replace s6 := keep hb s6; replace a0 := keep hb a0; replace a1 := keep hb a1; replace a2 := keep hb a2; replace a3 := keep hb a3; replace hsl := cell_lt s0; replace hal := cell_lt a0; replace HPn := Lib.hid (HPn.out.keep hb); replace HB := Lib.hid (bThen HB.out hb); clear hb)
      | (go_at_call 20; refine (H20.out _ HPn.out).mono ?_; rintro e w1 ⟨hq, hb⟩; obtain rfl := SpellPost.bad hq HOK.out; replace s0 := keep hb s0; replace s1 := keep hb s1; replace s2 := keep hb s2; replace s3 := keep hb s3; replace s4 := keep hb s4; replace s5 := keep hb s5; replace s6 := keep hb s6; replace a0 := keep hb a0; replace a1 := keep hb a1; replace a2 := keep hb a2; replace a3 := keep hb a3; replace hsl := cell_lt s0; replace hal := cell_lt a0; replace HPn := Lib.hid (HPn.out.keep hb); replace HB := Lib.hid (bThen HB.out hb); clear hb hq)
      | (go_at_call 21; refine (H21.out _ HPn.out).mono ?_; rintro e w1 ⟨hq, hb⟩; obtain rfl := TracePost.bad hq HOK.out; replace s0 := keep hb s0; replace s1 := keep hb s1; replace s2 := keep hb s2; replace s3 := keep hb s3; replace s4 := keep hb s4; replace s5 := keep hb s5; replace s6 := keep hb s6; replace a0 := keep hb a0; replace a1 := keep hb a1; replace a2 := keep hb a2; replace a3 := keep hb a3; replace hsl := cell_lt s0; replace hal := cell_lt a0; replace HPn := Lib.hid (HPn.out.keep hb); replace HB := Lib.hid (bThen HB.out hb); clear hb hq)
      | (go_at_call 22; refine (H22.out _ HPn.out).mono ?_; rintro e w1 ⟨rfl, hb⟩; rw [HE.out]; replace s0 := keep hb s0; replace s1 := keep hb s1; replace s2 := keep hb s2; replace s3 := keep hb s3; replace s4 := keep hb s4; replace s5 := keep hb s5; replace s6 := keep hb s6; replace a0 := keep hb a0; replace a1 := keep hb a1; replace a2 := keep hb a2; replace a3 := keep hb a3; replace hsl := cell_lt s0; replace hal := cell_lt a0; replace HPn := Lib.hid (HPn.out.keep hb); replace HB := Lib.hid (bThen HB.out hb); clear hb))
    all_goals
      go_ret
      exact ⟨rfl, HB.out⟩
  · have hR := askRight_of hok
    have HR := Lib.hid hR.1
    have hk0 : a.num < ((a.num.toNat + 1 : Nat) : Int) := by have := hR.2.num; omega
    have h23 : ∀ W', SysParts W' (.slice at_ S.terms.length ct) (.slice ap S.plurals.length cp) (.slice as_ S.sets.length cs) S → Calls Try.prog 23 #[.agg #[.int .i64 S.top, .int .i64 S.genders, .int .i64 S.cases, .int .i64 S.classes, .slice at_ S.terms.length ct, .slice ap S.plurals.length cp, .slice as_ S.sets.length cs], .agg #[.int .i64 a.num, .int .i64 a.set, .int .i64 a.gen, .int .i64 a.kas], .int .i64 0] W' fun e w' => RefTraced (items S a 0) e w' ∧ Below W'.heap.size W' w' := fun W' h => refTrace_any S hR.1 (a.num.toNat + 1) a 0 hR.2 hk0 (by omega) (by have := hR.2.top; omega) _ _ _ W' h
    have h24 : ∀ W', SysParts W' (.slice at_ S.terms.length ct) (.slice ap S.plurals.length cp) (.slice as_ S.sets.length cs) S → Calls Try.prog 24 #[.agg #[.int .i64 S.top, .int .i64 S.genders, .int .i64 S.cases, .int .i64 S.classes, .slice at_ S.terms.length ct, .slice ap S.plurals.length cp, .slice as_ S.sets.length cs], .agg #[.int .i64 a.num, .int .i64 a.set, .int .i64 a.gen, .int .i64 a.kas]] W' fun e w' => RefSpelled S a e w' ∧ Below W'.heap.size W' w' := fun W' h => refSpell_any S hR.1 a hR.2 _ _ _ W' h
    have H23 := Lib.hid h23
    have H24 := Lib.hid h24
    have HNE : Hid (items S a 0 ≠ []) := Lib.hid (itemsF_ne hR.1 (a.num.toNat + 1) a 0 hR.2 hk0)
    have HFEW := Lib.hid (items_few hR.1 hR.2 0)
    have HOK := Lib.hid hok
    have HE : Hid (refErr S a false = 0) := Lib.hid (by rw [refErr, HOK.out]; simp)
    have HWO : Hid (∀ b, (items S a 0).all Prod.snd = b → saidOf S a = if b = true then some ((items S a 0).map Prod.fst) else none) := Lib.hid fun b h => by
      subst h; unfold saidOf; split <;> simp
    have HWW : Hid (∀ b, (items S a 0).all Prod.snd = b → wordsOf S a = if b = true then some ((items S a 0).map fun x => x.1.txt) else none) := Lib.hid fun b h => by
      subst h; unfold wordsOf saidOf; split <;> simp
    clear hok hR h23 h24 hk0
    generalize items S a 0 = l at *
    cases hall : l.all Prod.snd
    · have HALL := Lib.hid hall
      have HS0 : Hid (saidOf S a = none) := Lib.hid ((HWO.out false hall).trans rfl)
      have HW0 : Hid (wordsOf S a = none) := Lib.hid ((HWW.out false hall).trans rfl)
      clear hall
      go_enter Try.func4, Try.ntmps4
      go_wp2_with fail
      generalize hW1 : World.alloc (World.alloc w _) _ = W1
      have hbn : Below w.heap.size w W1 := by rw [← hW1]; exact bAlloc (bAlloc (Below.refl _ _) _) _
      have s0 : W1.cell? ⟨w.heap.size, 0, none⟩ = some (.int .i64 S.top) := by rw [← hW1]; exact keep (bAlloc (Below.refl _ _) _) (cell_new rfl)
      have s1 : W1.cell? ⟨w.heap.size, 1, none⟩ = some (.int .i64 S.genders) := by rw [← hW1]; exact keep (bAlloc (Below.refl _ _) _) (cell_new rfl)
      have s2 : W1.cell? ⟨w.heap.size, 2, none⟩ = some (.int .i64 S.cases) := by rw [← hW1]; exact keep (bAlloc (Below.refl _ _) _) (cell_new rfl)
      have s3 : W1.cell? ⟨w.heap.size, 3, none⟩ = some (.int .i64 S.classes) := by rw [← hW1]; exact keep (bAlloc (Below.refl _ _) _) (cell_new rfl)
      have s4 : W1.cell? ⟨w.heap.size, 4, none⟩ = some (.slice at_ S.terms.length ct) := by rw [← hW1]; exact keep (bAlloc (Below.refl _ _) _) (cell_new rfl)
      have s5 : W1.cell? ⟨w.heap.size, 5, none⟩ = some (.slice ap S.plurals.length cp) := by rw [← hW1]; exact keep (bAlloc (Below.refl _ _) _) (cell_new rfl)
      have s6 : W1.cell? ⟨w.heap.size, 6, none⟩ = some (.slice as_ S.sets.length cs) := by rw [← hW1]; exact keep (bAlloc (Below.refl _ _) _) (cell_new rfl)
      have a0 : W1.cell? ⟨w.heap.size + 1, 0, none⟩ = some (.int .i64 a.num) := by rw [← hW1]; simp
      have a1 : W1.cell? ⟨w.heap.size + 1, 1, none⟩ = some (.int .i64 a.set) := by rw [← hW1]; simp
      have a2 : W1.cell? ⟨w.heap.size + 1, 2, none⟩ = some (.int .i64 a.gen) := by rw [← hW1]; simp
      have a3 : W1.cell? ⟨w.heap.size + 1, 3, none⟩ = some (.int .i64 a.kas) := by rw [← hW1]; simp
      have HB := Lib.hid hbn
      have HPn := Lib.hid (HPS.out.keep hbn)
      have hsl := cell_lt s0
      have hal := cell_lt a0
      clear hW1 hbn
      go_wp2_with (first
        | (go_at_call 14; rw [HSV.out]; refine (small_any S _ _ _ _ HPn.out).mono ?_; rintro e w1 ⟨⟨b, rfl⟩, hb⟩; replace s0 := keep hb s0; replace s1 := keep hb s1; replace s2 := keep hb s2; replace s3 := keep hb s3; replace s4 := keep hb s4; replace s5 := keep hb s5; replace s6 := keep hb s6; replace a0 := keep hb a0; replace a1 := keep hb a1; replace a2 := keep hb a2; replace a3 := keep hb a3; replace hsl := cell_lt s0; replace hal := cell_lt a0; replace HPn := Lib.hid (HPn.out.keep hb); replace HB := Lib.hid (bThen HB.out hb); clear hb)
        | (go_at_call 15; refine (known_any _).mono ?_; rintro e w1 ⟨rfl, hb⟩; replace s0 := keep hb s0; replace s1 := keep hb s1; replace s2 := keep hb s2; replace s3 := keep hb s3; replace s4 := keep hb s4; replace s5 := keep hb s5; replace s6 := keep hb s6; replace a0 := keep hb a0; replace a1 := keep hb a1; replace a2 := keep hb a2; replace a3 := keep hb a3; replace hsl := cell_lt s0; replace hal := cell_lt a0; replace HPn := Lib.hid (HPn.out.keep hb); replace HB := Lib.hid (bThen HB.out hb); clear hb)
        | (go_at_call 20; refine (H20.out _ HPn.out).mono ?_; rintro e w1 ⟨hq, hb⟩; obtain rfl := SpellPost.none hq HOK.out HW0.out; replace s0 := keep hb s0; replace s1 := keep hb s1; replace s2 := keep hb s2; replace s3 := keep hb s3; replace s4 := keep hb s4; replace s5 := keep hb s5; replace s6 := keep hb s6; replace a0 := keep hb a0; replace a1 := keep hb a1; replace a2 := keep hb a2; replace a3 := keep hb a3; replace hsl := cell_lt s0; replace hal := cell_lt a0; replace HPn := Lib.hid (HPn.out.keep hb); replace HB := Lib.hid (bThen HB.out hb); clear hb hq)
        | (go_at_call 21; refine (H21.out _ HPn.out).mono ?_; rintro e w1 ⟨hq, hb⟩; obtain rfl := TracePost.none hq HOK.out HS0.out; replace s0 := keep hb s0; replace s1 := keep hb s1; replace s2 := keep hb s2; replace s3 := keep hb s3; replace s4 := keep hb s4; replace s5 := keep hb s5; replace s6 := keep hb s6; replace a0 := keep hb a0; replace a1 := keep hb a1; replace a2 := keep hb a2; replace a3 := keep hb a3; replace hsl := cell_lt s0; replace hal := cell_lt a0; replace HPn := Lib.hid (HPn.out.keep hb); replace HB := Lib.hid (bThen HB.out hb); clear hb hq)
        | (go_at_call 22; refine (H22.out _ HPn.out).mono ?_; rintro e w1 ⟨rfl, hb⟩; rw [HE.out]; replace s0 := keep hb s0; replace s1 := keep hb s1; replace s2 := keep hb s2; replace s3 := keep hb s3; replace s4 := keep hb s4; replace s5 := keep hb s5; replace s6 := keep hb s6; replace a0 := keep hb a0; replace a1 := keep hb a1; replace a2 := keep hb a2; replace a3 := keep hb a3; replace hsl := cell_lt s0; replace hal := cell_lt a0; replace HPn := Lib.hid (HPn.out.keep hb); replace HB := Lib.hid (bThen HB.out hb); clear hb)
        | (go_at_call 23; refine (H23.out _ HPn.out).mono ?_; rintro e w1 ⟨hq, hb⟩; obtain ⟨ad, cc, rfl⟩ := RefTraced.none hq HALL.out; replace s0 := keep hb s0; replace s1 := keep hb s1; replace s2 := keep hb s2; replace s3 := keep hb s3; replace s4 := keep hb s4; replace s5 := keep hb s5; replace s6 := keep hb s6; replace a0 := keep hb a0; replace a1 := keep hb a1; replace a2 := keep hb a2; replace a3 := keep hb a3; replace hsl := cell_lt s0; replace hal := cell_lt a0; replace HPn := Lib.hid (HPn.out.keep hb); replace HB := Lib.hid (bThen HB.out hb); clear hb hq))
      all_goals
        go_ret
        exact ⟨rfl, HB.out⟩
    · have HALL := Lib.hid hall
      have HS0 : Hid (saidOf S a = some (l.map Prod.fst)) := Lib.hid ((HWO.out true hall).trans rfl)
      have HW0 : Hid (wordsOf S a = some (l.map fun x => x.1.txt)) := Lib.hid ((HWW.out true hall).trans rfl)
      have hpos : 0 < l.length := List.length_pos_iff.2 HNE.out
      have hl1 : ¬ ((l.length : Int) < 1) := by omega
      have hle : ((l.length : Int) != (l.length : Int)) = false := by simp
      have hlf : (l.length : Int) ≤ 1000000 := by have := HFEW.out; omega
      have tok1 : True := trivial
      have tok2 : True := trivial
      clear hall
      go_enter Try.func4, Try.ntmps4
      go_wp2_with fail
      generalize hW1 : World.alloc (World.alloc w _) _ = W1
      have hbn : Below w.heap.size w W1 := by rw [← hW1]; exact bAlloc (bAlloc (Below.refl _ _) _) _
      have s0 : W1.cell? ⟨w.heap.size, 0, none⟩ = some (.int .i64 S.top) := by rw [← hW1]; exact keep (bAlloc (Below.refl _ _) _) (cell_new rfl)
      have s1 : W1.cell? ⟨w.heap.size, 1, none⟩ = some (.int .i64 S.genders) := by rw [← hW1]; exact keep (bAlloc (Below.refl _ _) _) (cell_new rfl)
      have s2 : W1.cell? ⟨w.heap.size, 2, none⟩ = some (.int .i64 S.cases) := by rw [← hW1]; exact keep (bAlloc (Below.refl _ _) _) (cell_new rfl)
      have s3 : W1.cell? ⟨w.heap.size, 3, none⟩ = some (.int .i64 S.classes) := by rw [← hW1]; exact keep (bAlloc (Below.refl _ _) _) (cell_new rfl)
      have s4 : W1.cell? ⟨w.heap.size, 4, none⟩ = some (.slice at_ S.terms.length ct) := by rw [← hW1]; exact keep (bAlloc (Below.refl _ _) _) (cell_new rfl)
      have s5 : W1.cell? ⟨w.heap.size, 5, none⟩ = some (.slice ap S.plurals.length cp) := by rw [← hW1]; exact keep (bAlloc (Below.refl _ _) _) (cell_new rfl)
      have s6 : W1.cell? ⟨w.heap.size, 6, none⟩ = some (.slice as_ S.sets.length cs) := by rw [← hW1]; exact keep (bAlloc (Below.refl _ _) _) (cell_new rfl)
      have a0 : W1.cell? ⟨w.heap.size + 1, 0, none⟩ = some (.int .i64 a.num) := by rw [← hW1]; simp
      have a1 : W1.cell? ⟨w.heap.size + 1, 1, none⟩ = some (.int .i64 a.set) := by rw [← hW1]; simp
      have a2 : W1.cell? ⟨w.heap.size + 1, 2, none⟩ = some (.int .i64 a.gen) := by rw [← hW1]; simp
      have a3 : W1.cell? ⟨w.heap.size + 1, 3, none⟩ = some (.int .i64 a.kas) := by rw [← hW1]; simp
      have HB := Lib.hid hbn
      have HPn := Lib.hid (HPS.out.keep hbn)
      have hsl := cell_lt s0
      have hal := cell_lt a0
      clear hW1 hbn
      go_wp2_with (first
        | (go_at_call 14; rw [HSV.out]; refine (small_any S _ _ _ _ HPn.out).mono ?_; rintro e w1 ⟨⟨b, rfl⟩, hb⟩; replace s0 := keep hb s0; replace s1 := keep hb s1; replace s2 := keep hb s2; replace s3 := keep hb s3; replace s4 := keep hb s4; replace s5 := keep hb s5; replace s6 := keep hb s6; replace a0 := keep hb a0; replace a1 := keep hb a1; replace a2 := keep hb a2; replace a3 := keep hb a3; replace hsl := cell_lt s0; replace hal := cell_lt a0; replace HPn := Lib.hid (HPn.out.keep hb); replace HB := Lib.hid (bThen HB.out hb); clear hb)
        | (go_at_call 15; have _t := tok1; refine (known_any _).mono ?_; rintro e w1 ⟨rfl, hb⟩; replace s0 := keep hb s0; replace s1 := keep hb s1; replace s2 := keep hb s2; replace s3 := keep hb s3; replace s4 := keep hb s4; replace s5 := keep hb s5; replace s6 := keep hb s6; replace a0 := keep hb a0; replace a1 := keep hb a1; replace a2 := keep hb a2; replace a3 := keep hb a3; replace hsl := cell_lt s0; replace hal := cell_lt a0; replace HPn := Lib.hid (HPn.out.keep hb); replace HB := Lib.hid (bThen HB.out hb); clear hb)
        | (go_at_call 20; refine (H20.out _ HPn.out).mono ?_; rintro e w1 ⟨hq, hb⟩; obtain ⟨ad1, cc1, rfl, HS1⟩ := SpellPost.some hq HOK.out HW0.out; rw [List.length_map]; replace s0 := keep hb s0; replace s1 := keep hb s1; replace s2 := keep hb s2; replace s3 := keep hb s3; replace s4 := keep hb s4; replace s5 := keep hb s5; replace s6 := keep hb s6; replace a0 := keep hb a0; replace a1 := keep hb a1; replace a2 := keep hb a2; replace a3 := keep hb a3; replace hsl := cell_lt s0; replace hal := cell_lt a0; replace HPn := Lib.hid (HPn.out.keep hb); replace HB := Lib.hid (bThen HB.out hb); clear hb hq)
        | (go_at_call 21; refine (H21.out _ HPn.out).mono ?_; rintro e w1 ⟨hq, hb⟩; obtain ⟨ad2, cc2, rfl, HT1⟩ := TracePost.some hq HOK.out HS0.out; rw [List.length_map]; replace s0 := keep hb s0; replace s1 := keep hb s1; replace s2 := keep hb s2; replace s3 := keep hb s3; replace s4 := keep hb s4; replace s5 := keep hb s5; replace s6 := keep hb s6; replace a0 := keep hb a0; replace a1 := keep hb a1; replace a2 := keep hb a2; replace a3 := keep hb a3; replace hsl := cell_lt s0; replace hal := cell_lt a0; replace HPn := Lib.hid (HPn.out.keep hb); replace HB := Lib.hid (bThen HB.out hb); replace HS1 := Lib.hid (HS1.out.keep StrAt.stable hb); clear hb hq)
        | (go_at_call 22; refine (H22.out _ HPn.out).mono ?_; rintro e w1 ⟨rfl, hb⟩; rw [HE.out]; replace s0 := keep hb s0; replace s1 := keep hb s1; replace s2 := keep hb s2; replace s3 := keep hb s3; replace s4 := keep hb s4; replace s5 := keep hb s5; replace s6 := keep hb s6; replace a0 := keep hb a0; replace a1 := keep hb a1; replace a2 := keep hb a2; replace a3 := keep hb a3; replace hsl := cell_lt s0; replace hal := cell_lt a0; replace HPn := Lib.hid (HPn.out.keep hb); replace HB := Lib.hid (bThen HB.out hb); replace HS1 := Lib.hid (HS1.out.keep StrAt.stable hb); replace HT1 := Lib.hid (HT1.out.keep SaidAt.stable hb); clear hb)
        | (go_at_call 23; refine (H23.out _ HPn.out).mono ?_; rintro e w1 ⟨hq, hb⟩; obtain ⟨ad3, cc3, rfl, HT2⟩ := RefTraced.some hq HALL.out; rw [List.length_map]; replace s0 := keep hb s0; replace s1 := keep hb s1; replace s2 := keep hb s2; replace s3 := keep hb s3; replace s4 := keep hb s4; replace s5 := keep hb s5; replace s6 := keep hb s6; replace a0 := keep hb a0; replace a1 := keep hb a1; replace a2 := keep hb a2; replace a3 := keep hb a3; replace hsl := cell_lt s0; replace hal := cell_lt a0; replace HPn := Lib.hid (HPn.out.keep hb); replace HB := Lib.hid (bThen HB.out hb); replace HS1 := Lib.hid (HS1.out.keep StrAt.stable hb); replace HT1 := Lib.hid (HT1.out.keep SaidAt.stable hb); clear hb hq)
        | (go_at_call 24; refine (H24.out _ HPn.out).mono ?_; rintro e w1 ⟨hq, hb⟩; obtain ⟨ad4, cc4, rfl, HS2⟩ := RefSpelled.some hq HW0.out; rw [List.length_map]; replace s0 := keep hb s0; replace s1 := keep hb s1; replace s2 := keep hb s2; replace s3 := keep hb s3; replace s4 := keep hb s4; replace s5 := keep hb s5; replace s6 := keep hb s6; replace a0 := keep hb a0; replace a1 := keep hb a1; replace a2 := keep hb a2; replace a3 := keep hb a3; replace hsl := cell_lt s0; replace hal := cell_lt a0; replace HPn := Lib.hid (HPn.out.keep hb); replace HB := Lib.hid (bThen HB.out hb); replace HS1 := Lib.hid (HS1.out.keep StrAt.stable hb); replace HT1 := Lib.hid (HT1.out.keep SaidAt.stable hb); replace HT2 := Lib.hid (HT2.out.keep SaidAt.stable hb); clear hb hq)
        | (go_at_call 25; refine (isB (Same_any (l.map fun x => x.1.txt) (l.map fun x => x.1.txt) _ _ _ (by have h := HS1.out; rw [List.length_map] at h; exact h) (by have h := HS2.out; rw [List.length_map] at h; exact h)) (show _ = true by simp)).mono ?_; rintro e w1 ⟨rfl, hb⟩; replace s0 := keep hb s0; replace s1 := keep hb s1; replace s2 := keep hb s2; replace s3 := keep hb s3; replace s4 := keep hb s4; replace s5 := keep hb s5; replace s6 := keep hb s6; replace a0 := keep hb a0; replace a1 := keep hb a1; replace a2 := keep hb a2; replace a3 := keep hb a3; replace hsl := cell_lt s0; replace hal := cell_lt a0; replace HPn := Lib.hid (HPn.out.keep hb); replace HB := Lib.hid (bThen HB.out hb); replace HS1 := Lib.hid (HS1.out.keep StrAt.stable hb); replace HT1 := Lib.hid (HT1.out.keep SaidAt.stable hb); replace HT2 := Lib.hid (HT2.out.keep SaidAt.stable hb); replace HS2 := Lib.hid (HS2.out.keep StrAt.stable hb); clear hb))
      · go_ret
        exact ⟨rfl, HB.out⟩
      · have hne : l.map Prod.fst ≠ [] := by intro h; have h2 := List.map_eq_nil_iff.1 h; rw [h2] at hpos; simp at hpos
        have HNEM := Lib.hid hne
        obtain ⟨tb, to, rfl, -⟩ := HT1.out.at hne
        obtain ⟨lb, lo, rfl, -⟩ := HT2.out.at hne
        clear hne s0 s1 s2 s3 s4 s5 s6 a0 a1 a2 a3 hsl hal HPn
        go_loopw [14] (fun i wr => ∃ k : Nat, k ≤ l.length ∧ i = .int .i64 k ∧ Hid (Below w.heap.size w wr) ∧ Hid (SliceV wr (.slice (some ⟨tb, to, none⟩) (l.map Prod.fst).length cc2) 6 SaidAt (l.map Prod.fst)) ∧ Hid (SliceV wr (.slice (some ⟨lb, lo, none⟩) (l.map Prod.fst).length cc3) 6 SaidAt (l.map Prod.fst))) (fun i _ => l.length - (intOf i).toNat)
        case atStart => exact ⟨0, Nat.zero_le _, rfl, HB, HT1, HT2⟩
        case round =>
          obtain ⟨k, hk, rfl, HB, HT1, HT2⟩ := hrel
          by_cases hlt : k < l.length
          · obtain ⟨tb', to', ht', hf⟩ := HT1.out.at HNEM.out
            obtain ⟨rfl, rfl⟩ : tb = tb' ∧ to = to' := by simpa using ht'
            obtain ⟨lb', lo', hl', hf2⟩ := HT2.out.at HNEM.out
            obtain ⟨rfl, rfl⟩ : lb = lb' ∧ lo = lo' := by simpa using hl'
            have hkm : k < (l.map Prod.fst).length := by rw [List.length_map]; exact hlt
            obtain ⟨x0, x1, x2, x3, x4, x5⟩ := hf k hkm
            obtain ⟨y0, y1, y2, y3, y4, y5⟩ := hf2 k hkm
            clear hf hf2 ht' hl'
            generalize (l.map Prod.fst)[k] = x at *
            have hxl := cell_lt x0
            have hyl := cell_lt y0
            have he := fun w => eqSaid 9998 x w
            go_wp2_with fail
            refine wp_opaque fun Q2 hQ2 => ?_
            (refine wp_region_below (by kernel_rfl) (by kernel_rfl) ?_; (repeat (first | go_big_quiet_step (fail) | quiet_step (fail))); (refine wpQuiet_nil ?_; intro _ hw'; obtain ⟨xq, hw''⟩ := hw'; subst hw''))
            refine hQ2 _ _ _ ?_
            have hb := xq.2
            replace HB := Lib.hid (bThen HB.out hb)
            replace HT1 := Lib.hid (HT1.out.keep SaidAt.stable hb)
            replace HT2 := Lib.hid (HT2.out.keep SaidAt.stable hb)
            clear he hb
            generalize xq.val = W4 at *
            go_wp2_with fail
            go_roundw
            case rel => exact ⟨k + 1, by omega, by go_num, HB, HT1, HT2⟩
            case measure => simp [intOf]; omega
          · obtain rfl : k = l.length := by omega
            go_wp2_with (go_at_call 15; have _t := tok1; refine (known_any _).mono ?_; rintro e w1 ⟨rfl, hb⟩; replace HB := Lib.hid (bThen HB.out hb); clear hb)
            go_ret
            exact ⟨rfl, HB.out⟩
end Go.Proofs.Ytfcopnlpcbbocaa
