/- Contracts of the specification: the numbers with some words, and those without. -/
import Derived.Test.YtfcopnlpcbbocaaR5
set_option linter.unusedSimpArgs false
set_option linter.unusedVariables false
namespace Go.Proofs.Ytfcopnlpcbbocaa
open Go.RowKit

/-- Two boxes: a system and an ask. -/
structure BX (W : World) (n : Nat) (S : Sys) (a : Ask) (vt vp vs : Value) : Prop where
  s0 : W.cell? ⟨n, 0, none⟩ = some (.int .i64 S.top)
  s1 : W.cell? ⟨n, 1, none⟩ = some (.int .i64 S.genders)
  s2 : W.cell? ⟨n, 2, none⟩ = some (.int .i64 S.cases)
  s3 : W.cell? ⟨n, 3, none⟩ = some (.int .i64 S.classes)
  s4 : W.cell? ⟨n, 4, none⟩ = some vt
  s5 : W.cell? ⟨n, 5, none⟩ = some vp
  s6 : W.cell? ⟨n, 6, none⟩ = some vs
  a0 : W.cell? ⟨n + 1, 0, none⟩ = some (.int .i64 a.num)
  a1 : W.cell? ⟨n + 1, 1, none⟩ = some (.int .i64 a.set)
  a2 : W.cell? ⟨n + 1, 2, none⟩ = some (.int .i64 a.gen)
  a3 : W.cell? ⟨n + 1, 3, none⟩ = some (.int .i64 a.kas)
  t0 : TypAt W n 26
  t1 : TypAt W (n + 1) 36
theorem BX.kp {W W' : World} {m n : Nat} {S : Sys} {a : Ask} {vt vp vs : Value} {own : Nat → Bool} (h : BX W n S a vt vp vs) (hk : Kp m own W W') (h0 : own 26 = false) (h1 : own 36 = false) : BX W' n S a vt vp vs :=
  ⟨hk.cell h.t0 h0 h.s0, hk.cell h.t0 h0 h.s1, hk.cell h.t0 h0 h.s2, hk.cell h.t0 h0 h.s3, hk.cell h.t0 h0 h.s4, hk.cell h.t0 h0 h.s5, hk.cell h.t0 h0 h.s6,
    hk.cell h.t1 h1 h.a0, hk.cell h.t1 h1 h.a1, hk.cell h.t1 h1 h.a2, hk.cell h.t1 h1 h.a3, hk.typ h.t0 h0, hk.typ h.t1 h1⟩
theorem BX.new (w : World) (S : Sys) (a : Ask) (vt vp vs : Value) : BX ((w.alloc (.cells #[.int .i64 S.top, .int .i64 S.genders, .int .i64 S.cases, .int .i64 S.classes, vt, vp, vs] 26)).alloc (.cells #[.int .i64 a.num, .int .i64 a.set, .int .i64 a.gen, .int .i64 a.kas] 36)) w.heap.size S a vt vp vs :=
  have k : ∀ {j : Nat} {v : Value}, (#[.int .i64 a.num, .int .i64 a.set, .int .i64 a.gen, .int .i64 a.kas] : Array Value)[j]? = some v → ((w.alloc (.cells #[.int .i64 S.top, .int .i64 S.genders, .int .i64 S.cases, .int .i64 S.classes, vt, vp, vs] 26)).alloc (.cells #[.int .i64 a.num, .int .i64 a.set, .int .i64 a.gen, .int .i64 a.kas] 36)).cell? ⟨w.heap.size + 1, j, none⟩ = some v := fun h => by
    have := cell_new (V := w.alloc (.cells #[.int .i64 S.top, .int .i64 S.genders, .int .i64 S.cases, .int .i64 S.classes, vt, vp, vs] 26)) (t := 36) h
    rw [World.size_alloc] at this; exact this
  ⟨keep (bAlloc (Below.refl _ _) _) (cell_new rfl), keep (bAlloc (Below.refl _ _) _) (cell_new rfl), keep (bAlloc (Below.refl _ _) _) (cell_new rfl), keep (bAlloc (Below.refl _ _) _) (cell_new rfl), keep (bAlloc (Below.refl _ _) _) (cell_new rfl), keep (bAlloc (Below.refl _ _) _) (cell_new rfl), keep (bAlloc (Below.refl _ _) _) (cell_new rfl),
    k rfl, k rfl, k rfl, k rfl, (typ_two _ _ _ _ _).1, (typ_two _ _ _ _ _).2⟩
def own3 (t : Nat) : Bool := t == 3
theorem scan_hit {g : Nat → Bool} {k : Nat} (h : g k = true) : (List.range (k + 1)).filter g = (List.range k).filter g ++ [k] := by rw [List.range_succ, List.filter_append]; simp [h]
theorem scan_miss {g : Nat → Bool} {k : Nat} (h : g k = false) : (List.range (k + 1)).filter g = (List.range k).filter g := by rw [List.range_succ, List.filter_append]; simp [h]
theorem scan_len (g : Nat → Bool) (k : Nat) : ((List.range k).filter g).length ≤ k := by have := List.length_filter_le g (List.range k); rwa [List.length_range] at this
abbrev intsV (l : List Nat) : List Value := l.map fun n : Nat => Value.int .i64 (n : Int)
theorem RefSpelled.none {S : Sys} {a : Ask} {e : Ending} {w : World} (h : RefSpelled S a e w) (hw : wordsOf S a = none) : e = .returned (.tuple #[.slice none 0 0, .bool false]) := by
  rcases h with ⟨ad, n, c, ws', rfl, h⟩ | ⟨rfl, -⟩
  · obtain ⟨h1, -⟩ := h.out
    rw [hw] at h1; cases h1
  · rfl
def missTo (S : Sys) (a : Ask) (N : Nat) : List Nat := (List.range (N + 1)).filter fun n => decide (wordsOf S (numb a n) = none)
set_option maxRecDepth 100000 in
set_option maxHeartbeats 4000000 in
theorem refRead_any (S : Sys) (hS : Right S) (a : Ask) (ha : AskRight S a) (hm : a.num ≤ 20000) (ws : List ByteArray) (vw : Value) (vt vp vs : Value) (w : World) (hp : SysParts w vt vp vs S) (hvw : SliceV w vw 1 StrAt ws) :
    Calls Try.prog 28 #[sysVal S vt vp vs, a.val, vw] w fun e w' => (∃ v, e = .returned v ∧ SliceV w' v 1 IntAt ((readsTo S a a.num.toNat ws).map fun n : Nat => (n : Int))) ∧ Below w.heap.size w w' := by
  have HV := Lib.hid hvw
  obtain ⟨wa, wc, rfl, -⟩ := hvw
  obtain ⟨g, hg⟩ : ∃ g : Nat → Bool, g = fun n : Nat => decide (wordsOf S (numb a n) = some ws) := ⟨_, rfl⟩
  have HGD : Hid (∀ k, g k = (fun n : Nat => decide (wordsOf S (numb a n) = some ws)) k) := Lib.hid fun k => by rw [hg]
  have HRES : Hid (readsTo S a a.num.toNat ws = (List.range (a.num.toNat + 1)).filter g) := Lib.hid (by rw [hg]; rfl)
  clear hg
  have HP := Lib.hid hp
  have hnum := ha.num
  obtain ⟨i0, hi, hz0, hz1, hz2⟩ := info_parts info3
  have HI := Lib.hid hi
  clear hi
  obtain ⟨⟨at_, ct, rfl, -⟩, ⟨ap, cp, rfl, -⟩, ⟨as_, cs, rfl, -⟩⟩ := hp
  unfold sysVal Ask.val
  have h24 : ∀ n : Nat, (n : Int) ≤ a.num → ∀ W', SysParts W' (.slice at_ S.terms.length ct) (.slice ap S.plurals.length cp) (.slice as_ S.sets.length cs) S → Calls Try.prog 24 #[.agg #[.int .i64 S.top, .int .i64 S.genders, .int .i64 S.cases, .int .i64 S.classes, .slice at_ S.terms.length ct, .slice ap S.plurals.length cp, .slice as_ S.sets.length cs], .agg #[.int .i64 (n : Int), .int .i64 a.set, .int .i64 a.gen, .int .i64 a.kas]] W' fun e w' => RefSpelled S (numb a n) e w' ∧ Below W'.heap.size W' w' := fun n hn W' h => refSpell_any S hS (numb a n) (numb_right ha hn) _ _ _ W' h
  have H24 := Lib.hid h24
  clear h24
  have HAR := Lib.hid ha
  clear ha
  go_enter Try.func28, Try.ntmps28
  go_wp2_with fail
  generalize hW1 : World.alloc (World.alloc w _) _ = W1
  have hbn : Below w.heap.size w W1 := by rw [← hW1]; exact bAlloc (bAlloc (Below.refl _ _) _) _
  have HBX : Hid (BX W1 w.heap.size S a (.slice at_ S.terms.length ct) (.slice ap S.plurals.length cp) (.slice as_ S.sets.length cs)) := Lib.hid (by rw [← hW1]; exact BX.new _ _ _ _ _ _)
  have HB1 := Lib.hid hbn
  clear hW1 hbn
  go_loopw [7, 8] (fun v i wr => ∃ k : Nat, (k : Int) ≤ a.num + 1 ∧ i = .int .i64 k ∧ Hid (wr.ownsRow W1.heap.size 3 1 v ((List.range k).filter g).length (intsV ((List.range k).filter g))) ∧ Hid (Kp W1.heap.size own3 W1 wr)) (fun _ i _ => a.num.toNat + 1 - (intOf i).toNat)
  case atStart => exact ⟨0, by omega, rfl, Lib.hid (World.ownsRow_nil _ _ _ _), Lib.hid (Kp.refl _ _ _)⟩
  case round =>
    obtain ⟨k, hk, rfl, HROW, HK⟩ := hrel
    have hbx := HBX.out.kp HK.out rfl rfl
    obtain ⟨s0, s1, s2, s3, s4, s5, s6, a0, a1, a2, a3, -, -⟩ := hbx
    have hsl := cell_lt s0
    have hal := cell_lt a0
    by_cases hlt : (k : Int) ≤ a.num
    · have HPr := Lib.hid (HP.out.keep (bThen HB1.out HK.out.low))
      have hszr := HK.out.low.size
      have hln := scan_len g k
      have HH := Lib.hid (@scan_hit g k)
      have HM := Lib.hid (@scan_miss g k)
      cases hwo : wordsOf S (numb a k) with
      | none =>
        have HWO := Lib.hid hwo
        have HG : Hid (g k = false) := Lib.hid (by rw [HGD.out]; simp [hwo])
        clear hwo
        go_wp2_with (first
          | (go_at_call 24; refine (H24.out k hlt _ (by exact HPr.out.keep (bAlloc (Below.refl _ _) _))).mono ?_; rintro e w2 ⟨hq, hb⟩; obtain rfl := RefSpelled.none hq HWO.out; have hbx := bThen (bAlloc (Below.refl _ _) _) hb; have HB := Lib.hid hbx; have HRW := Lib.hid (ownsRow_below HROW.out hbx); have hwc : W1.heap.size ≤ w2.heap.size := Nat.le_trans hszr hbx.size; clear hbx; clear hb hq))
        go_roundw
        case rel => exact ⟨k + 1, by omega, by go_num, Lib.hid (by rw [HM.out HG.out]; exact HRW.out), Lib.hid (HK.out.trans (Kp.of_below HB.out hszr))⟩
        case measure => simp [intOf]; omega
      | some xs =>
        have HWO := Lib.hid hwo
        by_cases he : xs = ws
        · have HG : Hid (g k = true) := Lib.hid (by rw [HGD.out]; simp [hwo, he])
          have HE : Hid (decide (xs = ws) = true) := Lib.hid (by simp [he])
          clear hwo he
          go_wp2_with (first
            | (go_at_call 24; refine (H24.out k hlt _ (by exact HPr.out.keep (bAlloc (Below.refl _ _) _))).mono ?_; rintro e w2 ⟨hq, hb⟩; obtain ⟨ad4, cc4, rfl, HS2⟩ := RefSpelled.some hq HWO.out; have hbx := bThen (bAlloc (Below.refl _ _) _) hb; clear hb hq)
            | (go_at_call 25; refine (isB (Same_any xs ws _ _ _ HS2.out (HV.out.keep StrAt.stable (bThen (bThen HB1.out HK.out.low) hbx))) HE.out).mono ?_; rintro e w3 ⟨rfl, hb⟩; replace hbx := bThen hbx hb; have HB := Lib.hid hbx; have HRW := Lib.hid (ownsRow_below HROW.out hbx); have hwc : W1.heap.size ≤ w3.heap.size := Nat.le_trans hszr hbx.size; clear hbx; clear hb)
            | (at_builtin; refine wpList_append_lies _ rfl _ _ 63 rfl W1.heap.size 3 i0 (.int .i64 0) 1 8 Try.underlying63 HI.out hz0 hz1 hz2 rfl (by decide) _ _ _ rfl (HRW.out.alloc _) ⟨w3.heap.size, 0, none⟩ 1 1 [.int .i64 (k : Int)] rfl rfl (cells_new _ _ _) (by simp [Value.oneCell']) (by omega) (by unfold maxLen; omega) (by omega) (by simp; omega) _ rfl ?_; intro g6 cap6 w6 hown hgrow hat6 hlt6; have HU := Lib.hid hown; have HKP := Lib.hid ((Kp.of_below (own := own3) (bAlloc (Below.refl _ _) _) hwc).trans (kp_grown hgrow (HRW.out.alloc _) rfl (by simp; omega))); clear hown hgrow hat6))
          go_roundw
          case rel => exact ⟨k + 1, by omega, by go_num, Lib.hid (by rw [HH.out HG.out]; simpa [intsV] using HU.out), Lib.hid (HK.out.trans ((Kp.of_below HB.out hszr).trans HKP.out))⟩
          case measure => simp [intOf]; omega
        · have HG : Hid (g k = false) := Lib.hid (by rw [HGD.out]; simp [hwo, he])
          have HE : Hid (decide (xs = ws) = false) := Lib.hid (by simp [he])
          clear hwo he
          go_wp2_with (first
            | (go_at_call 24; refine (H24.out k hlt _ (by exact HPr.out.keep (bAlloc (Below.refl _ _) _))).mono ?_; rintro e w2 ⟨hq, hb⟩; obtain ⟨ad4, cc4, rfl, HS2⟩ := RefSpelled.some hq HWO.out; have hbx := bThen (bAlloc (Below.refl _ _) _) hb; clear hb hq)
            | (go_at_call 25; refine (isB (Same_any xs ws _ _ _ HS2.out (HV.out.keep StrAt.stable (bThen (bThen HB1.out HK.out.low) hbx))) HE.out).mono ?_; rintro e w3 ⟨rfl, hb⟩; replace hbx := bThen hbx hb; have HB := Lib.hid hbx; have HRW := Lib.hid (ownsRow_below HROW.out hbx); have hwc : W1.heap.size ≤ w3.heap.size := Nat.le_trans hszr hbx.size; clear hbx; clear hb))
          go_roundw
          case rel => exact ⟨k + 1, by omega, by go_num, Lib.hid (by rw [HM.out HG.out]; exact HRW.out), Lib.hid (HK.out.trans (Kp.of_below HB.out hszr))⟩
          case measure => simp [intOf]; omega
    · have HKK := Lib.hid (show k = a.num.toNat + 1 by omega)
      obtain ⟨ad, cap, rfl⟩ := ownsRow_slice HROW.out
      go_wp2_with fail
      go_ret
      refine ⟨⟨_, rfl, ?_⟩, bThen HB1.out HK.out.low⟩
      have h1 := ints_slice HROW.out (by have := scan_len g k; omega)
      rw [HRES.out, ← HKK.out]
      exact h1
set_option maxRecDepth 100000 in
set_option maxHeartbeats 4000000 in
theorem refMissing_any (S : Sys) (hS : Right S) (a : Ask) (ha : AskRight S a) (hm : a.num ≤ 20000) (vt vp vs : Value) (w : World) (hp : SysParts w vt vp vs S) :
    Calls Try.prog 33 #[sysVal S vt vp vs, a.val] w fun e w' => (∃ v, e = .returned v ∧ SliceV w' v 1 IntAt ((missTo S a a.num.toNat).map fun n : Nat => (n : Int))) ∧ Below w.heap.size w w' := by
  obtain ⟨g, hg⟩ : ∃ g : Nat → Bool, g = fun n : Nat => decide (wordsOf S (numb a n) = none) := ⟨_, rfl⟩
  have HGD : Hid (∀ k, g k = (fun n : Nat => decide (wordsOf S (numb a n) = none)) k) := Lib.hid fun k => by rw [hg]
  have HRES : Hid (missTo S a a.num.toNat = (List.range (a.num.toNat + 1)).filter g) := Lib.hid (by rw [hg]; rfl)
  clear hg
  have HP := Lib.hid hp
  have hnum := ha.num
  obtain ⟨i0, hi, hz0, hz1, hz2⟩ := info_parts info3
  have HI := Lib.hid hi
  clear hi
  obtain ⟨⟨at_, ct, rfl, -⟩, ⟨ap, cp, rfl, -⟩, ⟨as_, cs, rfl, -⟩⟩ := hp
  unfold sysVal Ask.val
  have h24 : ∀ n : Nat, (n : Int) ≤ a.num → ∀ W', SysParts W' (.slice at_ S.terms.length ct) (.slice ap S.plurals.length cp) (.slice as_ S.sets.length cs) S → Calls Try.prog 24 #[.agg #[.int .i64 S.top, .int .i64 S.genders, .int .i64 S.cases, .int .i64 S.classes, .slice at_ S.terms.length ct, .slice ap S.plurals.length cp, .slice as_ S.sets.length cs], .agg #[.int .i64 (n : Int), .int .i64 a.set, .int .i64 a.gen, .int .i64 a.kas]] W' fun e w' => RefSpelled S (numb a n) e w' ∧ Below W'.heap.size W' w' := fun n hn W' h => refSpell_any S hS (numb a n) (numb_right ha hn) _ _ _ W' h
  have H24 := Lib.hid h24
  clear h24
  have HAR := Lib.hid ha
  clear ha
  go_enter Try.func33, Try.ntmps33
  go_wp2_with fail
  generalize hW1 : World.alloc (World.alloc w _) _ = W1
  have hbn : Below w.heap.size w W1 := by rw [← hW1]; exact bAlloc (bAlloc (Below.refl _ _) _) _
  have HBX : Hid (BX W1 w.heap.size S a (.slice at_ S.terms.length ct) (.slice ap S.plurals.length cp) (.slice as_ S.sets.length cs)) := Lib.hid (by rw [← hW1]; exact BX.new _ _ _ _ _ _)
  have HB1 := Lib.hid hbn
  clear hW1 hbn
  go_loopw [5, 6] (fun v i wr => ∃ k : Nat, (k : Int) ≤ a.num + 1 ∧ i = .int .i64 k ∧ Hid (wr.ownsRow W1.heap.size 3 1 v ((List.range k).filter g).length (intsV ((List.range k).filter g))) ∧ Hid (Kp W1.heap.size own3 W1 wr)) (fun _ i _ => a.num.toNat + 1 - (intOf i).toNat)
  case atStart => exact ⟨0, by omega, rfl, Lib.hid (World.ownsRow_nil _ _ _ _), Lib.hid (Kp.refl _ _ _)⟩
  case round =>
    obtain ⟨k, hk, rfl, HROW, HK⟩ := hrel
    have hbx := HBX.out.kp HK.out rfl rfl
    obtain ⟨s0, s1, s2, s3, s4, s5, s6, a0, a1, a2, a3, -, -⟩ := hbx
    have hsl := cell_lt s0
    have hal := cell_lt a0
    by_cases hlt : (k : Int) ≤ a.num
    · have HPr := Lib.hid (HP.out.keep (bThen HB1.out HK.out.low))
      have hszr := HK.out.low.size
      have hln := scan_len g k
      have HH := Lib.hid (@scan_hit g k)
      have HM := Lib.hid (@scan_miss g k)
      cases hwo : wordsOf S (numb a k) with
      | none =>
        have HWO := Lib.hid hwo
        have HG : Hid (g k = true) := Lib.hid (by rw [HGD.out]; simp [hwo])
        clear hwo
        go_wp2_with (first
          | (go_at_call 24; refine (H24.out k hlt _ (by exact HPr.out.keep (bAlloc (Below.refl _ _) _))).mono ?_; rintro e w2 ⟨hq, hb⟩; obtain rfl := RefSpelled.none hq HWO.out; have hbx := bThen (bAlloc (Below.refl _ _) _) hb; have HB := Lib.hid hbx; have HRW := Lib.hid (ownsRow_below HROW.out hbx); have hwc : W1.heap.size ≤ w2.heap.size := Nat.le_trans hszr hbx.size; clear hbx; clear hb hq)
          | (at_builtin; refine wpList_append_lies _ rfl _ _ 63 rfl W1.heap.size 3 i0 (.int .i64 0) 1 8 Try.underlying63 HI.out hz0 hz1 hz2 rfl (by decide) _ _ _ rfl (HRW.out.alloc _) ⟨w2.heap.size, 0, none⟩ 1 1 [.int .i64 (k : Int)] rfl rfl (cells_new _ _ _) (by simp [Value.oneCell']) (by omega) (by unfold maxLen; omega) (by omega) (by simp; omega) _ rfl ?_; intro g6 cap6 w6 hown hgrow hat6 hlt6; have HU := Lib.hid hown; have HKP := Lib.hid ((Kp.of_below (own := own3) (bAlloc (Below.refl _ _) _) hwc).trans (kp_grown hgrow (HRW.out.alloc _) rfl (by simp; omega))); clear hown hgrow hat6))
        go_roundw
        case rel => exact ⟨k + 1, by omega, by go_num, Lib.hid (by rw [HH.out HG.out]; simpa [intsV] using HU.out), Lib.hid (HK.out.trans ((Kp.of_below HB.out hszr).trans HKP.out))⟩
        case measure => simp [intOf]; omega
      | some xs =>
        have HWO := Lib.hid hwo
        have HG : Hid (g k = false) := Lib.hid (by rw [HGD.out]; simp [hwo])
        clear hwo
        go_wp2_with (first
          | (go_at_call 24; refine (H24.out k hlt _ (by exact HPr.out.keep (bAlloc (Below.refl _ _) _))).mono ?_; rintro e w2 ⟨hq, hb⟩; obtain ⟨ad4, cc4, rfl, HS2⟩ := RefSpelled.some hq HWO.out; have hbx := bThen (bAlloc (Below.refl _ _) _) hb; have HB := Lib.hid hbx; have HRW := Lib.hid (ownsRow_below HROW.out hbx); have hwc : W1.heap.size ≤ w2.heap.size := Nat.le_trans hszr hbx.size; clear hbx; clear hb hq))
        go_roundw
        case rel => exact ⟨k + 1, by omega, by go_num, Lib.hid (by rw [HM.out HG.out]; exact HRW.out), Lib.hid (HK.out.trans (Kp.of_below HB.out hszr))⟩
        case measure => simp [intOf]; omega
    · have HKK := Lib.hid (show k = a.num.toNat + 1 by omega)
      obtain ⟨ad, cap, rfl⟩ := ownsRow_slice HROW.out
      go_wp2_with fail
      go_ret
      refine ⟨⟨_, rfl, ?_⟩, bThen HB1.out HK.out.low⟩
      have h1 := ints_slice HROW.out (by have := scan_len g k; omega)
      rw [HRES.out, ← HKK.out]
      exact h1
end Go.Proofs.Ytfcopnlpcbbocaa
