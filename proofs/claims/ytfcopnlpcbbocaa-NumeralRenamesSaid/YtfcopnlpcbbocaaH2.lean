/- Contracts: the chapter's examples hold. -/
import Derived.Test.YtfcopnlpcbbocaaH1
import Derived.KernelRfl
set_option linter.unusedSimpArgs false
set_option linter.unusedVariables false
namespace Go.Proofs.Ytfcopnlpcbbocaa
open Go.RowKit

abbrev x242 : List ByteArray := [⟨#[116, 119, 111]⟩, ⟨#[104, 117, 110, 100, 114, 101, 100, 115]⟩, ⟨#[102, 111, 117, 114]⟩, ⟨#[116, 121]⟩, ⟨#[116, 119, 111]⟩]
abbrev x105 : List ByteArray := [⟨#[111, 110, 101]⟩, ⟨#[104, 117, 110, 100, 114, 101, 100]⟩, ⟨#[97, 110, 100]⟩, ⟨#[102, 105, 118, 101]⟩]
abbrev x30 : List ByteArray := [⟨#[116, 104, 114, 101, 101]⟩, ⟨#[116, 121]⟩]
abbrev t30 : List Said := [⟨⟨#[116, 104, 114, 101, 101]⟩, 3, 0, 3, 0, 1⟩, ⟨⟨#[116, 121]⟩, 30, 0, 10, 1, 0⟩]
theorem en_ok : sysOk enS = true := by kernel_rfl
theorem en_ask (n : Int) (h : betw n 0 999 = true) : askOk enS ⟨n, 0, 0, 0⟩ = true := by
  unfold askOk
  rw [en_ok, show enS.top = 999 from rfl, h]
  rfl
theorem en242 : wordsOf enS ⟨242, 0, 0, 0⟩ = some x242 := by kernel_rfl
theorem en105 : wordsOf enS ⟨105, 0, 0, 0⟩ = some x105 := by kernel_rfl
theorem en30 : saidOf enS ⟨30, 0, 0, 0⟩ = some t30 := by kernel_rfl
theorem en99 : readsTo enS ⟨99, 0, 0, 0⟩ (Int.toNat 99) x30 = [30] := by kernel_rfl
theorem enC : classRes enS 1000001 = .tuple #[.int .i64 1, .int .i64 0] := by
  unfold classRes
  rw [if_pos ⟨en_ok, by decide⟩, show classOf 1000001 enS.plurals = 1 by kernel_rfl]
theorem lit_strs (W : World) (l : List ByteArray) (hl : l.length ≤ most) : SliceV (W.alloc (.cells (strs l) 9)) (.slice (some ⟨W.heap.size, 0, none⟩) l.length l.length) 1 StrAt l :=
  ⟨_, l.length, rfl, hl, .inr ⟨W.heap.size, 0, rfl, fun i hi => by
    have := cell_new (V := W) (cs := strs l) (t := 9) (j := 0 + i * 1) (v := .string l[i]) (by simp [hi])
    exact this⟩⟩
theorem lit_ints (W : World) (l : List Int) (hl : l.length ≤ most) : SliceV (W.alloc (.cells (l.map (Value.int .i64)).toArray 3)) (.slice (some ⟨W.heap.size, 0, none⟩) l.length l.length) 1 IntAt l :=
  ⟨_, l.length, rfl, hl, .inr ⟨W.heap.size, 0, rfl, fun i hi => by
    have := cell_new (V := W) (cs := (l.map (Value.int .i64)).toArray) (t := 3) (j := 0 + i * 1) (v := .int .i64 l[i]) (by simp [hi])
    exact this⟩⟩

theorem spell_en {n : Int} {ws : List ByteArray} (hn : betw n 0 999 = true) (hw : wordsOf enS ⟨n, 0, 0, 0⟩ = some ws) (vt vp vs : Value) (W : World) (hp : SysParts W vt vp vs enS) :
    Calls Try.prog 20 #[sysVal enS vt vp vs, .agg #[.int .i64 n, .int .i64 0, .int .i64 0, .int .i64 0]] W fun e w' => (∃ ad cap, e = .returned (.tuple #[.slice ad ws.length cap, .int .i64 0]) ∧ SliceV w' (.slice ad ws.length cap) 1 StrAt ws) ∧ Below W.heap.size W w' := by
  refine (Spell_any enS ⟨n, 0, 0, 0⟩ vt vp vs W hp).mono ?_
  rintro e w' ⟨⟨h, -⟩ | ⟨-, h, -⟩ | ⟨-, xs, v, h, rfl, hs⟩, hb⟩
  · rw [en_ask n hn] at h; cases h
  · rw [hw] at h; cases h
  · rw [hw] at h
    obtain rfl := Option.some.inj h
    obtain ⟨ad, cap, rfl, -⟩ := id hs
    exact ⟨⟨ad, cap, rfl, hs⟩, hb⟩
theorem trace_en (vt vp vs : Value) (W : World) (hp : SysParts W vt vp vs enS) :
    Calls Try.prog 21 #[sysVal enS vt vp vs, .agg #[.int .i64 30, .int .i64 0, .int .i64 0, .int .i64 0]] W fun e w' => (∃ b o cap, e = .returned (.tuple #[.slice (some ⟨b, o, none⟩) 2 cap, .int .i64 0]) ∧ SaidAt w' b (o + 0) ⟨⟨#[116, 104, 114, 101, 101]⟩, 3, 0, 3, 0, 1⟩ ∧ SaidAt w' b (o + 6) ⟨⟨#[116, 121]⟩, 30, 0, 10, 1, 0⟩) ∧ Below W.heap.size W w' := by
  refine (Trace_any enS ⟨30, 0, 0, 0⟩ vt vp vs W hp).mono ?_
  rintro e w' ⟨⟨h, -⟩ | ⟨-, h, -⟩ | ⟨-, xs, v, h, rfl, hs⟩, hb⟩
  · rw [en_ask 30 (by decide)] at h; cases h
  · rw [en30] at h; cases h
  · rw [en30] at h
    obtain rfl := Option.some.inj h
    obtain ⟨ad, cap, rfl, -, hnil | ⟨b, o, rfl, hx⟩⟩ := hs
    · cases hnil
    · exact ⟨⟨b, o, cap, rfl, hx 0 (by decide), hx 1 (by decide)⟩, hb⟩
theorem read_en (vt vp vs vw : Value) (W : World) (hp : SysParts W vt vp vs enS) (hw : SliceV W vw 1 StrAt x30) :
    Calls Try.prog 27 #[sysVal enS vt vp vs, .agg #[.int .i64 99, .int .i64 0, .int .i64 0, .int .i64 0], vw] W fun e w' => (∃ ad cap, e = .returned (.tuple #[.slice ad 1 cap, .int .i64 0]) ∧ SliceV w' (.slice ad 1 cap) 1 IntAt [30]) ∧ Below W.heap.size W w' := by
  refine (Read_any enS ⟨99, 0, 0, 0⟩ x30 vt vp vs vw W hp hw).mono ?_
  have hz : scanErr ⟨99, 0, 0, 0⟩ [enS] = 0 := by
    unfold scanErr
    simp only [List.all_cons, List.all_nil, Bool.and_true]
    rw [if_pos (en_ask 99 (by decide))]
    rfl
  rintro e w' ⟨⟨h, -⟩ | ⟨-, h, -⟩ | ⟨-, -, v, rfl, hs⟩, hb⟩
  · exact absurd hz h
  · rw [show readsTo enS ⟨99, 0, 0, 0⟩ (Ask.num ⟨99, 0, 0, 0⟩).toNat x30 = [30] from en99] at h; cases h
  · rw [show readsTo enS ⟨99, 0, 0, 0⟩ (Ask.num ⟨99, 0, 0, 0⟩).toNat x30 = [30] from en99] at hs
    obtain ⟨ad, cap, rfl, -⟩ := id hs
    exact ⟨⟨ad, cap, rfl, hs⟩, hb⟩
theorem class_en (vt vp vs : Value) (W : World) (hp : SysParts W vt vp vs enS) : Calls Try.prog 16 #[sysVal enS vt vp vs, .int .i64 1000001] W fun e w' => e = .returned (.tuple #[.int .i64 1, .int .i64 0]) ∧ Below W.heap.size W w' := by
  have := Class_any enS 1000001 vt vp vs W hp
  rw [enC] at this
  exact this
theorem same_en {l : List ByteArray} {v u : Value} {W : World} (hv : SliceV W v 1 StrAt l) (hu : SliceV W u 1 StrAt l) : Calls Try.prog 25 #[v, u] W fun e w' => e = .returned (.bool true) ∧ Below W.heap.size W w' :=
  isB (Same_any l l v u W hv hu) (by simp)
theorem numbers_en {l : List Int} {v u : Value} {W : World} (hv : SliceV W v 1 IntAt l) (hu : SliceV W u 1 IntAt l) : Calls Try.prog 29 #[v, u] W fun e w' => e = .returned (.bool true) ∧ Below W.heap.size W w' :=
  isB (Numbers_any l l v u W hv hu) (by simp)
end Go.Proofs.Ytfcopnlpcbbocaa
/- Contracts: the chapter's examples, asked of the program. -/
namespace Go.Proofs.Ytfcopnlpcbbocaa
open Go.RowKit

theorem sysVal_eq (S : Sys) (vt vp vs : Value) : Value.agg #[.int .i64 S.top, .int .i64 S.genders, .int .i64 S.cases, .int .i64 S.classes, vt, vp, vs] = sysVal S vt vp vs := rfl
set_option maxRecDepth 100000 in
set_option maxHeartbeats 8000000 in
theorem known_any (w : World) : Calls Try.prog 15 #[] w fun e w' => e = .returned (.bool true) ∧ Below w.heap.size w w' := by
  go_enter Try.func15, Try.ntmps15
  go_upto_region 2 with (go_at_call 41; refine (english_any _).mono ?_; rintro e w1 ⟨vt, vp, vs, ⟨rfl, hp⟩, hb1⟩; have HP := Lib.hid hp; obtain ⟨⟨at_, ct, rfl, -⟩, ⟨ap, cp, rfl, -⟩, ⟨as_, cs, rfl, -⟩⟩ := hp; unfold sysVal)
  generalize hW1 : World.alloc w1 _ = W1
  have hbn : Below w1.heap.size w1 W1 := by rw [← hW1]; exact bAlloc (Below.refl _ _) _
  have s0 : W1.cell? ⟨w1.heap.size, 0, none⟩ = some (.int .i64 enS.top) := by rw [← hW1]; exact cell_new rfl
  have s1 : W1.cell? ⟨w1.heap.size, 1, none⟩ = some (.int .i64 enS.genders) := by rw [← hW1]; exact cell_new rfl
  have s2 : W1.cell? ⟨w1.heap.size, 2, none⟩ = some (.int .i64 enS.cases) := by rw [← hW1]; exact cell_new rfl
  have s3 : W1.cell? ⟨w1.heap.size, 3, none⟩ = some (.int .i64 enS.classes) := by rw [← hW1]; exact cell_new rfl
  have s4 : W1.cell? ⟨w1.heap.size, 4, none⟩ = some (.slice at_ enS.terms.length ct) := by rw [← hW1]; exact cell_new rfl
  have s5 : W1.cell? ⟨w1.heap.size, 5, none⟩ = some (.slice ap enS.plurals.length cp) := by rw [← hW1]; exact cell_new rfl
  have s6 : W1.cell? ⟨w1.heap.size, 6, none⟩ = some (.slice as_ enS.sets.length cs) := by rw [← hW1]; exact cell_new rfl
  have HB := Lib.hid (bThen hb1 hbn)
  have HPn := Lib.hid (HP.out.keep hbn)
  have hsl := cell_lt s0
  have HSV := Lib.hid (sysVal_eq enS (.slice at_ enS.terms.length ct) (.slice ap enS.plurals.length cp) (.slice as_ enS.sets.length cs))
  clear HP hb1 hbn hW1
  obtain ⟨sb, hsb⟩ : ∃ sb, sb = w1.heap.size := ⟨_, rfl⟩
  rw [← hsb] at s0 s1 s2 s3 s4 s5 s6 hsl ⊢
  clear hsb
  generalize enS.terms.length = lt at *
  generalize enS.plurals.length = lp at *
  generalize enS.sets.length = ls at *
  go_upto_region 3 with (go_at_call 20; rw [HSV.out]; refine (spell_en (by decide) en242 _ _ _ _ HPn.out).mono ?_; rintro e w2 ⟨⟨ad2, cap2, rfl, hs2⟩, hbn⟩)
  have s0 := keep hbn s0
  have s1 := keep hbn s1
  have s2 := keep hbn s2
  have s3 := keep hbn s3
  have s4 := keep hbn s4
  have s5 := keep hbn s5
  have s6 := keep hbn s6
  have hsl := cell_lt s0
  have HPn := Lib.hid (HPn.out.keep hbn)
  have HB := Lib.hid (bThen HB.out hbn)
  have HS2 := Lib.hid hs2
  clear hs2 hbn
  go_upto_region 4 with (go_at_call 20; rw [HSV.out]; refine (spell_en (by decide) en105 _ _ _ _ HPn.out).mono ?_; rintro e w3 ⟨⟨ad3, cap3, rfl, hs3⟩, hbn⟩)
  have s0 := keep hbn s0
  have s1 := keep hbn s1
  have s2 := keep hbn s2
  have s3 := keep hbn s3
  have s4 := keep hbn s4
  have s5 := keep hbn s5
  have s6 := keep hbn s6
  have hsl := cell_lt s0
  have HPn := Lib.hid (HPn.out.keep hbn)
  have HB := Lib.hid (bThen HB.out hbn)
  have HS2 := Lib.hid (HS2.out.keep StrAt.stable hbn)
  have HS3 := Lib.hid hs3
  clear hs3 hbn
  go_upto_region 5 with (go_at_call 16; rw [HSV.out]; refine (class_en _ _ _ _ HPn.out).mono ?_; rintro e w4 ⟨rfl, hbn⟩)
  have s0 := keep hbn s0
  have s1 := keep hbn s1
  have s2 := keep hbn s2
  have s3 := keep hbn s3
  have s4 := keep hbn s4
  have s5 := keep hbn s5
  have s6 := keep hbn s6
  have hsl := cell_lt s0
  have HPn := Lib.hid (HPn.out.keep hbn)
  have HB := Lib.hid (bThen HB.out hbn)
  have HS2 := Lib.hid (HS2.out.keep StrAt.stable hbn)
  have HS3 := Lib.hid (HS3.out.keep StrAt.stable hbn)
  clear hbn
  go_upto_region 6 with (go_at_call 27; rw [HSV.out]; refine (read_en _ _ _ _ _ (HPn.out.keep (bAlloc (Below.refl _ _) _)) (lit_strs _ x30 (by unfold most; decide))).mono ?_; rintro e w5 ⟨⟨ad5, cap5, rfl, hs5⟩, hbn'⟩; have hbn := bThen (bAlloc (Below.refl _ _) _) hbn')
  have s0 := keep hbn s0
  have s1 := keep hbn s1
  have s2 := keep hbn s2
  have s3 := keep hbn s3
  have s4 := keep hbn s4
  have s5 := keep hbn s5
  have s6 := keep hbn s6
  have hsl := cell_lt s0
  have HPn := Lib.hid (HPn.out.keep hbn)
  have HB := Lib.hid (bThen HB.out hbn)
  have HS2 := Lib.hid (HS2.out.keep StrAt.stable hbn)
  have HS3 := Lib.hid (HS3.out.keep StrAt.stable hbn)
  have HS5 := Lib.hid hs5
  clear hbn hbn' hs5
  go_upto_region 7 with (go_at_call 21; rw [HSV.out]; refine (trace_en _ _ _ _ HPn.out).mono ?_; rintro e w6 ⟨⟨tb, to, cap6, rfl, ht0, ht1⟩, hbn⟩)
  have HB := Lib.hid (bThen HB.out hbn)
  have HS2 := Lib.hid (HS2.out.keep StrAt.stable hbn)
  have HS3 := Lib.hid (HS3.out.keep StrAt.stable hbn)
  have HS5 := Lib.hid (HS5.out.keep IntAt.stable hbn)
  have HT0 := Lib.hid ht0
  have HT1 := Lib.hid ht1
  clear s0 s1 s2 s3 s4 s5 s6 hsl HPn HSV hbn ht0 ht1
  have tok1 : True := trivial
  have tok2 : True := trivial
  go_upto_region 9 with fail
  go_wp2_with (first
    | (go_at_call 25; have _t := tok1; refine (same_en (l := x242) (HS2.out.keep StrAt.stable (bAlloc (Below.refl _ _) _)) (lit_strs _ x242 (by unfold most; decide))).mono ?_; rintro e w7 ⟨rfl, hb7⟩; have HB7 := Lib.hid (bThen (bAlloc (Below.refl _ _) _) hb7); clear hb7 tok1)
    | (go_at_call 25; have _t := tok2; refine (same_en (l := x105) (HS3.out.keep StrAt.stable (bThen HB7.out (bAlloc (Below.refl _ _) _))) (lit_strs _ x105 (by unfold most; decide))).mono ?_; rintro e w8 ⟨rfl, hb8⟩; have HB8 := Lib.hid (bThen HB7.out (bThen (bAlloc (Below.refl _ _) _) hb8)); clear hb8 tok2)
    | (go_at_call 29; refine (numbers_en (l := [30]) (HS5.out.keep IntAt.stable (bThen HB8.out (bAlloc (Below.refl _ _) _))) (lit_ints _ [30] (by unfold most; decide))).mono ?_; rintro e w9 ⟨rfl, hb9⟩; have HB9 := Lib.hid (bThen HB8.out (bThen (bAlloc (Below.refl _ _) _) hb9)); clear hb9; obtain ⟨u0, u1, u2, u3, u4, u5⟩ := SaidAt.stable _ _ _ _ _ HB9.out HT0.out; obtain ⟨v0, v1, v2, v3, v4, v5⟩ := SaidAt.stable _ _ _ _ _ HB9.out HT1.out; simp only [Nat.add_zero] at u0 u1 u2 u3 u4 u5; have hul := cell_lt u0))
  go_ret
  exact ⟨rfl, bThen HB.out HB9.out⟩
end Go.Proofs.Ytfcopnlpcbbocaa
