/- Contracts of the specification: the numbers that use a rule, the number with the most words. -/
import Derived.Test.YtfcopnlpcbbocaaR18
set_option linter.unusedSimpArgs false
set_option linter.unusedVariables false
namespace Go.Proofs.Ytfcopnlpcbbocaa
open Go.RowKit

def usesTo (S : Sys) (a : Ask) (N : Nat) (set rule : Int) : List Nat := (List.range (N + 1)).filter fun n : Nat => usedF (a.num.toNat + 1) S (numb a n) set rule
set_option maxRecDepth 100000 in
set_option maxHeartbeats 4000000 in
theorem refUses_any (S : Sys) (hS : Right S) (a : Ask) (ha : AskRight S a) (hm : a.num ≤ 20000) (set rule : Int) (vt vp vs : Value) (w : World) (hp : SysParts w vt vp vs S) :
    Calls Try.prog 38 #[sysVal S vt vp vs, a.val, .int .i64 set, .int .i64 rule] w fun e w' => (∃ v, e = .returned v ∧ SliceV w' v 1 IntAt ((usesTo S a a.num.toNat set rule).map fun n : Nat => (n : Int))) ∧ Below w.heap.size w w' := by
  obtain ⟨g, hg⟩ : ∃ g : Nat → Bool, g = fun n : Nat => usedF (a.num.toNat + 1) S (numb a n) set rule := ⟨_, rfl⟩
  have HGD : Hid (∀ k, g k = usedF (a.num.toNat + 1) S (numb a k) set rule) := Lib.hid fun k => by rw [hg]
  have HRES : Hid (usesTo S a a.num.toNat set rule = (List.range (a.num.toNat + 1)).filter g) := Lib.hid (by rw [hg]; rfl)
  clear hg
  have HP := Lib.hid hp
  have hnum := ha.num
  obtain ⟨i0, hi, hz0, hz1, hz2⟩ := info_parts info3
  have HI := Lib.hid hi
  clear hi
  obtain ⟨⟨at_, ct, rfl, -⟩, ⟨ap, cp, rfl, -⟩, ⟨as_, cs, rfl, -⟩⟩ := hp
  unfold sysVal Ask.val
  have h65 : ∀ n : Nat, (n : Int) ≤ a.num → ∀ W', SysParts W' (.slice at_ S.terms.length ct) (.slice ap S.plurals.length cp) (.slice as_ S.sets.length cs) S → Calls Try.prog 65 #[.agg #[.int .i64 S.top, .int .i64 S.genders, .int .i64 S.cases, .int .i64 S.classes, .slice at_ S.terms.length ct, .slice ap S.plurals.length cp, .slice as_ S.sets.length cs], .int .i64 a.set, .int .i64 (n : Int), .int .i64 set, .int .i64 rule] W' fun e w' => e = .returned (.bool (usedF (a.num.toNat + 1) S (numb a n) set rule)) ∧ Below W'.heap.size W' w' := fun n hn W' h => used_any S hS set rule (a.num.toNat + 1) (numb a n) (numb_right ha hn) (by simp only [numb]; omega) _ _ _ W' h
  have H65 := Lib.hid h65
  clear h65
  have HAR := Lib.hid ha
  clear ha
  go_enter Try.func38, Try.ntmps38
  go_wp2_with fail
  generalize hW1 : World.alloc (World.alloc w _) _ = W1
  have hbn : Below w.heap.size w W1 := by rw [← hW1]; exact bAlloc (bAlloc (Below.refl _ _) _) _
  have HBX : Hid (BX W1 w.heap.size S a (.slice at_ S.terms.length ct) (.slice ap S.plurals.length cp) (.slice as_ S.sets.length cs)) := Lib.hid (by rw [← hW1]; exact BX.new _ _ _ _ _ _)
  have HB1 := Lib.hid hbn
  clear hW1 hbn
  go_loopw [9, 10] (fun v i wr => ∃ k : Nat, (k : Int) ≤ a.num + 1 ∧ i = .int .i64 k ∧ Hid (wr.ownsRow W1.heap.size 3 1 v ((List.range k).filter g).length (intsV ((List.range k).filter g))) ∧ Hid (Kp W1.heap.size own3 W1 wr)) (fun _ i _ => a.num.toNat + 1 - (intOf i).toNat)
  case atStart => exact ⟨0, by omega, rfl, Lib.hid (World.ownsRow_nil _ _ _ _), Lib.hid (Kp.refl _ _ _)⟩
  case round =>
    obtain ⟨k, hk, rfl, HROW, HK⟩ := hrel
    have hbx := HBX.out.kp HK.out rfl rfl
    obtain ⟨s0, s1, s2, s3, s4, s5, s6, a0, a1, a2, a3, -, -⟩ := hbx
    have hsl := cell_lt s0
    have hal := cell_lt a0
    by_cases hlt : (k : Int) ≤ a.num
    · have HPr := Lib.hid (HP.out.keep (bThen HB1.out HK.out.low))
      have hszr := HK.out.low.size
      have hln := scan_len g k
      have HH := Lib.hid (@scan_hit g k)
      have HM := Lib.hid (@scan_miss g k)
      cases hu : usedF (a.num.toNat + 1) S (numb a k) set rule
      · have HU0 := Lib.hid hu
        have HG : Hid (g k = false) := Lib.hid (by rw [HGD.out]; exact hu)
        clear hu
        go_wp2_with (go_at_call 65; refine (isB (H65.out k hlt _ HPr.out) HU0.out).mono ?_; rintro e w2 ⟨rfl, hb⟩; have hbx := hb; have HB := Lib.hid hbx; have HRW := Lib.hid (ownsRow_below HROW.out hbx); have hwc : W1.heap.size ≤ w2.heap.size := Nat.le_trans hszr hbx.size; clear hbx; clear hb)
        go_roundw
        case rel => exact ⟨k + 1, by omega, by go_num, Lib.hid (by rw [HM.out HG.out]; exact HRW.out), Lib.hid (HK.out.trans (Kp.of_below HB.out hszr))⟩
        case measure => simp [intOf]; omega
      · have HU0 := Lib.hid hu
        have HG : Hid (g k = true) := Lib.hid (by rw [HGD.out]; exact hu)
        clear hu
        go_wp2_with (first
          | (go_at_call 65; refine (isB (H65.out k hlt _ HPr.out) HU0.out).mono ?_; rintro e w2 ⟨rfl, hb⟩; have hbx := hb; have HB := Lib.hid hbx; have HRW := Lib.hid (ownsRow_below HROW.out hbx); have hwc : W1.heap.size ≤ w2.heap.size := Nat.le_trans hszr hbx.size; clear hbx; clear hb)
          | (at_builtin; refine wpList_append_lies _ rfl _ _ 63 rfl W1.heap.size 3 i0 (.int .i64 0) 1 8 Try.underlying63 HI.out hz0 hz1 hz2 rfl (by decide) _ _ _ rfl (HRW.out.alloc _) ⟨w2.heap.size, 0, none⟩ 1 1 [.int .i64 (k : Int)] rfl rfl (cells_new _ _ _) (by simp [Value.oneCell']) (by omega) (by unfold maxLen; omega) (by omega) (by simp; omega) _ rfl ?_; intro g6 cap6 w6 hown hgrow hat6 hlt6; have HU := Lib.hid hown; have HKP := Lib.hid ((Kp.of_below (own := own3) (bAlloc (Below.refl _ _) _) hwc).trans (kp_grown hgrow (HRW.out.alloc _) rfl (by simp; omega))); clear hown hgrow hat6))
        go_roundw
        case rel => exact ⟨k + 1, by omega, by go_num, Lib.hid (by rw [HH.out HG.out]; simpa [intsV] using HU.out), Lib.hid (HK.out.trans ((Kp.of_below HB.out hszr).trans HKP.out))⟩
        case measure => simp [intOf]; omega
    · have HKK := Lib.hid (show k = a.num.toNat + 1 by omega)
      obtain ⟨ad, cap, rfl⟩ := ownsRow_slice HROW.out
      go_wp2_with fail
      go_ret
      refine ⟨⟨_, rfl, ?_⟩, bThen HB1.out HK.out.low⟩
      have h1 := ints_slice HROW.out (by have := scan_len g k; omega)
      rw [HRES.out, ← HKK.out]
      exact h1
/-- The first number below k with the most words, and how many; at first n0 and none. -/
def lngF (n0 : Int) (S : Sys) (a : Ask) : Nat → Int × Nat
  | 0 => (n0, 0)
  | k + 1 => match wordsOf S (numb a k) with
    | some ws => if (lngF n0 S a k).2 < ws.length then ((k : Int), ws.length) else lngF n0 S a k
    | none => lngF n0 S a k
theorem lngF_same (n0 n1 : Int) (S : Sys) (a : Ask) : ∀ k, (lngF n0 S a k).2 = (lngF n1 S a k).2 ∧ ((lngF n0 S a k).2 ≠ 0 → (lngF n0 S a k).1 = (lngF n1 S a k).1) ∧ ((lngF n0 S a k).2 = 0 → (lngF n0 S a k).1 = n0)
  | 0 => ⟨rfl, fun h => (h rfl).elim, fun _ => rfl⟩
  | k + 1 => by
    obtain ⟨h1, h2, h3⟩ := lngF_same n0 n1 S a k
    unfold lngF
    split
    · rename_i ws _
      by_cases hc : (lngF n0 S a k).2 < ws.length
      · rw [if_pos hc, if_pos (h1 ▸ hc)]
        exact ⟨rfl, fun _ => rfl, fun h => by simp only at h; omega⟩
      · rw [if_neg hc, if_neg (h1 ▸ hc)]
        exact ⟨h1, h2, h3⟩
    · exact ⟨h1, h2, h3⟩
theorem lngF_nonneg (S : Sys) (a : Ask) : ∀ k, (lngF (-1) S a k).2 ≠ 0 → 0 ≤ (lngF (-1) S a k).1
  | 0, h => (h rfl).elim
  | k + 1, h => by
    unfold lngF at h ⊢
    split
    · split
      · simp
      · rename_i hw hc
        rw [hw] at h; simp only [if_neg hc] at h
        exact lngF_nonneg S a k h
    · rename_i hw
      rw [hw] at h
      exact lngF_nonneg S a k h
theorem words_len {S : Sys} (hS : Right S) {a : Ask} (ha : AskRight S a) {ws : List ByteArray} (h : wordsOf S a = some ws) : ws.length ≤ 1000000 := by
  have hf := items_few hS ha 0
  unfold wordsOf saidOf at h
  split at h
  · simp at h; subst h; simpa using hf
  · simp at h
set_option maxRecDepth 100000 in
set_option maxHeartbeats 4000000 in
theorem refLongest_any (S : Sys) (hS : Right S) (a : Ask) (ha : AskRight S a) (hm : a.num ≤ 20000) (vt vp vs : Value) (w : World) (hp : SysParts w vt vp vs S) :
    Calls Try.prog 39 #[sysVal S vt vp vs, a.val] w fun e w' => e = .returned (.tuple #[.int .i64 (lngF (-1) S a (a.num.toNat + 1)).1, .int .i64 ((lngF (-1) S a (a.num.toNat + 1)).2 : Int)]) ∧ Below w.heap.size w w' := by
  have HP := Lib.hid hp
  have hnum := ha.num
  obtain ⟨⟨at_, ct, rfl, -⟩, ⟨ap, cp, rfl, -⟩, ⟨as_, cs, rfl, -⟩⟩ := hp
  unfold sysVal Ask.val
  have h24 : ∀ n : Nat, (n : Int) ≤ a.num → ∀ W', SysParts W' (.slice at_ S.terms.length ct) (.slice ap S.plurals.length cp) (.slice as_ S.sets.length cs) S → Calls Try.prog 24 #[.agg #[.int .i64 S.top, .int .i64 S.genders, .int .i64 S.cases, .int .i64 S.classes, .slice at_ S.terms.length ct, .slice ap S.plurals.length cp, .slice as_ S.sets.length cs], .agg #[.int .i64 (n : Int), .int .i64 a.set, .int .i64 a.gen, .int .i64 a.kas]] W' fun e w' => RefSpelled S (numb a n) e w' ∧ Below W'.heap.size W' w' := fun n hn W' h => refSpell_any S hS (numb a n) (numb_right ha hn) _ _ _ W' h
  have H24 := Lib.hid h24
  clear h24
  have HAR := Lib.hid ha
  clear ha
  go_enter Try.func39, Try.ntmps39
  go_wp2_with fail
  generalize hW1 : World.alloc (World.alloc w _) _ = W1
  have hbn : Below w.heap.size w W1 := by rw [← hW1]; exact bAlloc (bAlloc (Below.refl _ _) _) _
  have HBX : Hid (BX W1 w.heap.size S a (.slice at_ S.terms.length ct) (.slice ap S.plurals.length cp) (.slice as_ S.sets.length cs)) := Lib.hid (by rw [← hW1]; exact BX.new _ _ _ _ _ _)
  have HB1 := Lib.hid hbn
  clear hW1 hbn
  go_loopw [6, 7, 8] (fun x y i wr => ∃ k : Nat, (k : Int) ≤ a.num + 1 ∧ i = .int .i64 k ∧ x = .int .i64 (lngF (-1) S a k).1 ∧ y = .int .i64 ((lngF (-1) S a k).2 : Int) ∧ Hid (Below W1.heap.size W1 wr)) (fun _ _ i _ => a.num.toNat + 1 - (intOf i).toNat)
  case atStart => exact ⟨0, by omega, rfl, rfl, rfl, Lib.hid (Below.refl _ _)⟩
  case round =>
    obtain ⟨k, hk, rfl, rfl, rfl, HK⟩ := hrel
    have hbx := HBX.out.kp (Kp.of_below (own := fun _ => false) HK.out (Nat.le_refl _)) rfl rfl
    obtain ⟨s0, s1, s2, s3, s4, s5, s6, a0, a1, a2, a3, -, -⟩ := hbx
    have hsl := cell_lt s0
    have hal := cell_lt a0
    by_cases hlt : (k : Int) ≤ a.num
    · have HPr := Lib.hid (HP.out.keep (bThen HB1.out HK.out))
      cases hwo : wordsOf S (numb a k) with
      | none =>
        have HWO := Lib.hid hwo
        have HLS : Hid (lngF (-1) S a (k + 1) = lngF (-1) S a k) := Lib.hid (by rw [lngF, hwo])
        clear hwo
        go_wp2_with (first
          | (go_at_call 24; refine (H24.out k hlt _ (by exact HPr.out.keep (bAlloc (Below.refl _ _) _))).mono ?_; rintro e w2 ⟨hq, hb⟩; obtain rfl := RefSpelled.none hq HWO.out; have hbx := bThen (bAlloc (Below.refl _ _) _) hb; have HB := Lib.hid hbx; clear hbx; clear hb hq))
        go_roundw
        case rel => exact ⟨k + 1, by omega, by go_num, by rw [HLS.out], by rw [HLS.out], Lib.hid (bThen HK.out HB.out)⟩
        case measure => simp [intOf]; omega
      | some xs =>
        have HWO := Lib.hid hwo
        have HXL : xs.length ≤ 1000000 := by
          have := words_len hS (numb_right HAR.out hlt) hwo
          exact this
        by_cases hc : (lngF (-1) S a k).2 < xs.length
        · have HLS : Hid (lngF (-1) S a (k + 1) = ((k : Int), xs.length)) := Lib.hid (by rw [lngF, hwo]; simp [hc])
          have hcz : ((lngF (-1) S a k).2 : Int) < (xs.length : Int) := by omega
          clear hwo hc
          go_wp2_with (first
            | (go_at_call 24; refine (H24.out k hlt _ (by exact HPr.out.keep (bAlloc (Below.refl _ _) _))).mono ?_; rintro e w2 ⟨hq, hb⟩; obtain ⟨ad4, cc4, rfl, -⟩ := RefSpelled.some hq HWO.out; have hbx := bThen (bAlloc (Below.refl _ _) _) hb; have HB := Lib.hid hbx; clear hbx; clear hb hq))
          go_roundw
          case rel => exact ⟨k + 1, by omega, by go_num, by rw [HLS.out], by rw [HLS.out], Lib.hid (bThen HK.out HB.out)⟩
          case measure => simp [intOf]; omega
        · have HLS : Hid (lngF (-1) S a (k + 1) = lngF (-1) S a k) := Lib.hid (by rw [lngF, hwo]; simp [hc])
          have hcz : ¬ (((lngF (-1) S a k).2 : Int) < (xs.length : Int)) := by omega
          clear hwo hc
          go_wp2_with (first
            | (go_at_call 24; refine (H24.out k hlt _ (by exact HPr.out.keep (bAlloc (Below.refl _ _) _))).mono ?_; rintro e w2 ⟨hq, hb⟩; obtain ⟨ad4, cc4, rfl, -⟩ := RefSpelled.some hq HWO.out; have hbx := bThen (bAlloc (Below.refl _ _) _) hb; have HB := Lib.hid hbx; clear hbx; clear hb hq))
          go_roundw
          case rel => exact ⟨k + 1, by omega, by go_num, by rw [HLS.out], by rw [HLS.out], Lib.hid (bThen HK.out HB.out)⟩
          case measure => simp [intOf]; omega
    · have HKK := Lib.hid (show k = a.num.toNat + 1 by omega)
      go_wp2_with fail
      go_ret2
      exact ⟨by rw [← HKK.out]; rfl, bThen HB1.out HK.out⟩
end Go.Proofs.Ytfcopnlpcbbocaa
