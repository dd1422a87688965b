/- The maths of twins; contracts of the specification: the numbers that sound like smaller ones. -/
import Derived.Test.YtfcopnlpcbbocaaR7
set_option linter.unusedSimpArgs false
set_option linter.unusedVariables false
namespace Go.Proofs.Ytfcopnlpcbbocaa
open Go.RowKit

/-- The least number with the words of a number. -/
def lst (S : Sys) (a : Ask) (n : Nat) : Nat := ((List.range (n + 1)).find? fun m : Nat => decide (wordsOf S (numb a m) = wordsOf S (numb a n))).getD n
def twin (S : Sys) (a : Ask) (n : Nat) : Option (Nat × Nat) := if wordsOf S (numb a n) = none then none else if lst S a n < n then some (lst S a n, n) else none
/-- The twins up to a number. -/
def twinsTo (S : Sys) (a : Ask) (N : Nat) : List (Nat × Nat) := (List.range (N + 1)).filterMap (twin S a)
def TwAt (w : World) (b o : Nat) (t : Nat × Nat) : Prop := w.cell? ⟨b, o, none⟩ = some (.int .i64 (t.1 : Int)) ∧ w.cell? ⟨b, o + 1, none⟩ = some (.int .i64 (t.2 : Int))
theorem TwAt.stable : Stable TwAt := fun _ _ _ _ _ hB ⟨h0, h1⟩ => ⟨keep hB h0, keep hB h1⟩
def twC (l : List (Nat × Nat)) : List Value := l.flatMap fun t => [.int .i64 (t.1 : Int), .int .i64 (t.2 : Int)]
theorem twC_append (l m : List (Nat × Nat)) : twC (l ++ m) = twC l ++ twC m := by simp [twC]
theorem twins_snoc (S : Sys) (a : Ask) (k : Nat) : (List.range (k + 1)).filterMap (twin S a) = (List.range k).filterMap (twin S a) ++ (twin S a k).toList := by
  rw [List.range_succ, List.filterMap_append]
  cases h : twin S a k <;> simp [h]
theorem twins_len (S : Sys) (a : Ask) (k : Nat) : ((List.range k).filterMap (twin S a)).length ≤ k := by
  have := List.length_filterMap_le (twin S a) (List.range k)
  rwa [List.length_range] at this
theorem find_le {p : Nat → Bool} {n m : Nat} (h : (List.range (n + 1)).find? p = some m) : m ≤ n := by
  have := List.mem_of_find?_eq_some h
  simp at this; omega
theorem lst_le (S : Sys) (a : Ask) (n : Nat) : lst S a n ≤ n := by
  unfold lst
  cases h : (List.range (n + 1)).find? fun m : Nat => decide (wordsOf S (numb a m) = wordsOf S (numb a n)) with
  | none => simp
  | some m => simpa using find_le h
theorem lst_find (S : Sys) (a : Ask) (n : Nat) : (List.range (n + 1)).find? (fun m : Nat => decide (wordsOf S (numb a m) = wordsOf S (numb a n))) = some (lst S a n) := by
  unfold lst
  cases h : (List.range (n + 1)).find? fun m : Nat => decide (wordsOf S (numb a m) = wordsOf S (numb a n)) with
  | none =>
    have := List.find?_eq_none.1 h n (by simp)
    simp at this
  | some m => rfl
theorem lst_words (S : Sys) (a : Ask) (n : Nat) : wordsOf S (numb a (lst S a n)) = wordsOf S (numb a n) := by
  have := List.find?_some (lst_find S a n)
  simpa using this
theorem readsTo_head {S : Sys} {a : Ask} {k : Nat} {ws : List ByteArray} (h : wordsOf S (numb a k) = some ws) : ∃ rest, readsTo S (numb a k) k ws = lst S a k :: rest := by
  have e : (List.range (k + 1)).find? (fun m : Nat => decide (wordsOf S (numb (numb a k) m) = some ws)) = some (lst S a k) := by
    have := lst_find S a k
    rw [h] at this
    exact this
  unfold readsTo
  rw [← List.head?_filter] at e
  cases hl : (List.range (k + 1)).filter (fun m : Nat => decide (wordsOf S (numb (numb a k) m) = some ws)) with
  | nil => rw [hl] at e; cases e
  | cons x l => rw [hl] at e; injection e with e; subst e; exact ⟨l, rfl⟩
theorem twC_get (l : List (Nat × Nat)) : ∀ (i : Nat) (hi : i < l.length) (j : Nat), j < 2 → (twC l)[i * 2 + j]? = ([.int .i64 ((l[i]'hi).1 : Int), .int .i64 ((l[i]'hi).2 : Int)] : List Value)[j]? := by
  induction l with
  | nil => intro i hi; simp at hi
  | cons x l ih =>
    intro i hi j hj
    have e : twC (x :: l) = [.int .i64 (x.1 : Int), .int .i64 (x.2 : Int)] ++ twC l := by simp [twC]
    rw [e]
    cases i with
    | zero => rw [List.getElem?_append_left (by simp; omega)]; simp
    | succ i =>
      rw [List.getElem?_append_right (by simp; omega)]
      have := ih i (by simpa using hi) j hj
      simp only [List.getElem_cons_succ]
      rw [← this]
      congr 1
      simp; omega
theorem tw_slice {W : World} {base : Nat} {v : Value} {l : List (Nat × Nat)} (h : W.ownsRow base 76 2 v l.length (twC l)) (hl : l.length ≤ 1000000) : SliceV W v 2 TwAt l := by
  by_cases h0 : 0 < l.length
  · obtain ⟨g, cap, rfl, hc⟩ := row_cell h h0
    refine ⟨_, cap, rfl, by unfold most; omega, .inr ⟨g, 0, rfl, fun i hi => ?_⟩⟩
    have hg := twC_get l i hi
    rw [Nat.zero_add]
    exact ⟨hc _ _ ((hg 0 (by omega)).trans rfl), hc _ _ ((hg 1 (by omega)).trans rfl)⟩
  · have : l = [] := by cases l; rfl; simp at h0
    subst this
    obtain ⟨ad, cap, rfl⟩ := ownsRow_slice h
    exact ⟨_, cap, rfl, by simp, .inl rfl⟩
theorem info76 : (Try.prog.info? 76).map (fun i => (i.zero, i.size, i.bytes)) = some (some (.agg #[.int .i64 0, .int .i64 0]), 2, 16) := by kernel_rfl
def own76 (t : Nat) : Bool := t == 76

set_option maxRecDepth 100000 in
set_option maxHeartbeats 8000000 in
theorem refTwins_any (S : Sys) (hS : Right S) (a : Ask) (ha : AskRight S a) (hm : a.num ≤ 20000) (vt vp vs : Value) (w : World) (hp : SysParts w vt vp vs S) :
    Calls Try.prog 32 #[sysVal S vt vp vs, a.val] w fun e w' => (∃ v, e = .returned v ∧ SliceV w' v 2 TwAt (twinsTo S a a.num.toNat)) ∧ Below w.heap.size w w' := by
  have HP := Lib.hid hp
  have hnum := ha.num
  obtain ⟨i0, hi, hz0, hz1, hz2⟩ := info_parts info76
  have HI := Lib.hid hi
  clear hi
  obtain ⟨⟨at_, ct, rfl, -⟩, ⟨ap, cp, rfl, -⟩, ⟨as_, cs, rfl, -⟩⟩ := hp
  unfold sysVal Ask.val
  have h24 : ∀ n : Nat, (n : Int) ≤ a.num → ∀ W', SysParts W' (.slice at_ S.terms.length ct) (.slice ap S.plurals.length cp) (.slice as_ S.sets.length cs) S → Calls Try.prog 24 #[.agg #[.int .i64 S.top, .int .i64 S.genders, .int .i64 S.cases, .int .i64 S.classes, .slice at_ S.terms.length ct, .slice ap S.plurals.length cp, .slice as_ S.sets.length cs], .agg #[.int .i64 (n : Int), .int .i64 a.set, .int .i64 a.gen, .int .i64 a.kas]] W' fun e w' => RefSpelled S (numb a n) e w' ∧ Below W'.heap.size W' w' := fun n hn W' h => refSpell_any S hS (numb a n) (numb_right ha hn) _ _ _ W' h
  have H24 := Lib.hid h24
  clear h24
  have h28 : ∀ n : Nat, (n : Int) ≤ a.num → ∀ (ws : List ByteArray) (vw : Value) W', SysParts W' (.slice at_ S.terms.length ct) (.slice ap S.plurals.length cp) (.slice as_ S.sets.length cs) S → SliceV W' vw 1 StrAt ws → Calls Try.prog 28 #[.agg #[.int .i64 S.top, .int .i64 S.genders, .int .i64 S.cases, .int .i64 S.classes, .slice at_ S.terms.length ct, .slice ap S.plurals.length cp, .slice as_ S.sets.length cs], .agg #[.int .i64 (n : Int), .int .i64 a.set, .int .i64 a.gen, .int .i64 a.kas], vw] W' fun e w' => (∃ v, e = .returned v ∧ SliceV w' v 1 IntAt ((readsTo S (numb a n) (numb a n).num.toNat ws).map fun n : Nat => (n : Int))) ∧ Below W'.heap.size W' w' := fun n hn ws vw W' h hv => refRead_any S hS (numb a n) (numb_right ha hn) (by simp only [numb]; omega) ws vw _ _ _ W' h hv
  have H28 := Lib.hid h28
  clear h28
  have HAR := Lib.hid ha
  clear ha
  go_enter Try.func32, Try.ntmps32
  go_wp2_with fail
  generalize hW1 : World.alloc (World.alloc w _) _ = W1
  have hbn : Below w.heap.size w W1 := by rw [← hW1]; exact bAlloc (bAlloc (Below.refl _ _) _) _
  have HBX : Hid (BX W1 w.heap.size S a (.slice at_ S.terms.length ct) (.slice ap S.plurals.length cp) (.slice as_ S.sets.length cs)) := Lib.hid (by rw [← hW1]; exact BX.new _ _ _ _ _ _)
  have HB1 := Lib.hid hbn
  clear hW1 hbn
  go_loopw [5, 6] (fun v i wr => ∃ k : Nat, (k : Int) ≤ a.num + 1 ∧ i = .int .i64 k ∧ Hid (wr.ownsRow W1.heap.size 76 2 v ((List.range k).filterMap (twin S a)).length (twC ((List.range k).filterMap (twin S a)))) ∧ Hid (Kp W1.heap.size own76 W1 wr)) (fun _ i _ => a.num.toNat + 1 - (intOf i).toNat)
  case atStart => exact ⟨0, by omega, rfl, Lib.hid (World.ownsRow_nil _ _ _ _), Lib.hid (Kp.refl _ _ _)⟩
  case round =>
    obtain ⟨k, hk, rfl, HROW, HK⟩ := hrel
    have hbx := HBX.out.kp HK.out rfl rfl
    obtain ⟨s0, s1, s2, s3, s4, s5, s6, a0, a1, a2, a3, -, -⟩ := hbx
    have hsl := cell_lt s0
    have hal := cell_lt a0
    by_cases hlt : (k : Int) ≤ a.num
    · have HPr := Lib.hid (HP.out.keep (bThen HB1.out HK.out.low))
      have hszr := HK.out.low.size
      have hln := twins_len S a k
      have HM := Lib.hid (twins_snoc S a k)
      cases hwo : wordsOf S (numb a k) with
      | none =>
        have HWO := Lib.hid hwo
        have HG : Hid ((twin S a k).toList = []) := Lib.hid (by simp [twin, hwo])
        clear hwo
        go_wp2_with (first
          | (go_at_call 24; (with_reducible refine Calls.mono (H24.out k hlt _ ?_) ?_); exact HPr.out.keep (bAlloc (Below.refl _ _) _); rintro e w2 ⟨hq, hb⟩; obtain rfl := RefSpelled.none hq HWO.out; have x0 := keep hb (cell_new (j := 0) rfl); have x1 := keep hb (cell_new (j := 1) rfl); have x2 := keep hb (cell_new (j := 2) rfl); have x3 := keep hb (cell_new (j := 3) rfl); have hxl := cell_lt x0; have hbx := bThen (bAlloc (Below.refl _ _) _) hb; replace s0 := keep hbx s0; replace s1 := keep hbx s1; replace s2 := keep hbx s2; replace s3 := keep hbx s3; replace s4 := keep hbx s4; replace s5 := keep hbx s5; replace s6 := keep hbx s6; replace hsl := cell_lt s0; have HB := Lib.hid hbx; have HRW := Lib.hid (ownsRow_below HROW.out hbx); have hwc : W1.heap.size ≤ w2.heap.size := Nat.le_trans hszr hbx.size; clear hbx; clear hb hq))
        go_roundw
        case rel => exact ⟨k + 1, by omega, by go_num, Lib.hid (by rw [HM.out, HG.out, List.append_nil]; exact HRW.out), Lib.hid (HK.out.trans (Kp.of_below HB.out hszr))⟩
        case measure => simp [intOf]; omega
      | some ws =>
        have HWO := Lib.hid hwo
        obtain ⟨f, rest, hf, hrd⟩ : ∃ f rest, lst S a k = f ∧ readsTo S (numb a k) k ws = f :: rest := ⟨_, (readsTo_head hwo).choose, rfl, (readsTo_head hwo).choose_spec⟩
        have HRT : Hid (readsTo S (numb a k) (numb a k).num.toNat ws = f :: rest) := Lib.hid (by simpa [numb] using hrd)
        have hfk : f ≤ k := by rw [← hf]; exact lst_le S a k
        by_cases hfl : f < k
        · have HG : Hid ((twin S a k).toList = [(f, k)]) := Lib.hid (by simp [twin, hwo, hf, hfl])
          have hfi : (f : Int) < (k : Int) := by omega
          clear hwo hf hrd
          go_wp2_with (first
            | (go_at_call 24; (with_reducible refine Calls.mono (H24.out k hlt _ ?_) ?_); exact HPr.out.keep (bAlloc (Below.refl _ _) _); rintro e w2 ⟨hq, hb⟩; obtain ⟨ad4, cc4, rfl, HS2⟩ := RefSpelled.some hq HWO.out; have x0 := keep hb (cell_new (j := 0) rfl); have x1 := keep hb (cell_new (j := 1) rfl); have x2 := keep hb (cell_new (j := 2) rfl); have x3 := keep hb (cell_new (j := 3) rfl); have hxl := cell_lt x0; have hbx := bThen (bAlloc (Below.refl _ _) _) hb; replace s0 := keep hbx s0; replace s1 := keep hbx s1; replace s2 := keep hbx s2; replace s3 := keep hbx s3; replace s4 := keep hbx s4; replace s5 := keep hbx s5; replace s6 := keep hbx s6; replace hsl := cell_lt s0; clear hb hq)
            | (go_at_call 28; refine (H28.out k hlt ws _ _ (HPr.out.keep hbx) HS2.out).mono ?_; rintro e w3 ⟨⟨vq, rfl, hq⟩, hb⟩; rw [HRT.out] at hq; obtain ⟨qa, qc, rfl, hql, hqx⟩ := hq; obtain ⟨qb, qo, rfl, hqf⟩ := hqx.resolve_left (by simp); have q0 : w3.cell? ⟨qb, qo, none⟩ = some (.int .i64 (f : Int)) := (by simpa [IntAt] using hqf 0 (by simp)); have hqp : 0 < (List.map (fun n : Nat => (n : Int)) (f :: rest)).length := (by simp); have hqb := cell_lt q0; replace hbx := bThen hbx hb; have HB := Lib.hid hbx; have HRW := Lib.hid (ownsRow_below HROW.out hbx); have hwc : W1.heap.size ≤ w3.heap.size := Nat.le_trans hszr hbx.size; clear hbx; clear hb hqx hqf)
            | (at_builtin; refine wpList_append_lies _ rfl _ _ 69 rfl W1.heap.size 76 i0 (.agg #[.int .i64 0, .int .i64 0]) 2 16 Try.underlying69 HI.out hz0 hz1 hz2 rfl (by decide) _ _ _ rfl (HRW.out.alloc _) ⟨w3.heap.size, 0, none⟩ 1 1 [.int .i64 (f : Int), .int .i64 (k : Int)] rfl rfl (cells_new _ _ _) (by simp [Value.oneCell']) (by omega) (by unfold maxLen; omega) (by omega) (by simp; omega) _ rfl ?_; intro g6 cap6 w6 hown hgrow hat6 hlt6; have HU := Lib.hid hown; have HKP := Lib.hid ((Kp.of_below (own := own76) (bAlloc (Below.refl _ _) _) hwc).trans (kp_grown hgrow (HRW.out.alloc _) rfl (by simp; omega))); clear hown hgrow hat6))
          go_roundw
          case rel => exact ⟨k + 1, by omega, by go_num, Lib.hid (by rw [HM.out, HG.out, List.length_append, twC_append]; simpa [twC] using HU.out), Lib.hid (HK.out.trans ((Kp.of_below HB.out hszr).trans HKP.out))⟩
          case measure => simp [intOf]; omega
        · have HG : Hid ((twin S a k).toList = []) := Lib.hid (by simp [twin, hwo, hf, hfl])
          have hfi : ¬ (f : Int) < (k : Int) := by omega
          clear hwo hf hrd
          go_wp2_with (first
            | (go_at_call 24; (with_reducible refine Calls.mono (H24.out k hlt _ ?_) ?_); exact HPr.out.keep (bAlloc (Below.refl _ _) _); rintro e w2 ⟨hq, hb⟩; obtain ⟨ad4, cc4, rfl, HS2⟩ := RefSpelled.some hq HWO.out; have x0 := keep hb (cell_new (j := 0) rfl); have x1 := keep hb (cell_new (j := 1) rfl); have x2 := keep hb (cell_new (j := 2) rfl); have x3 := keep hb (cell_new (j := 3) rfl); have hxl := cell_lt x0; have hbx := bThen (bAlloc (Below.refl _ _) _) hb; replace s0 := keep hbx s0; replace s1 := keep hbx s1; replace s2 := keep hbx s2; replace s3 := keep hbx s3; replace s4 := keep hbx s4; replace s5 := keep hbx s5; replace s6 := keep hbx s6; replace hsl := cell_lt s0; clear hb hq)
            | (go_at_call 28; refine (H28.out k hlt ws _ _ (HPr.out.keep hbx) HS2.out).mono ?_; rintro e w3 ⟨⟨vq, rfl, hq⟩, hb⟩; rw [HRT.out] at hq; obtain ⟨qa, qc, rfl, hql, hqx⟩ := hq; obtain ⟨qb, qo, rfl, hqf⟩ := hqx.resolve_left (by simp); have q0 : w3.cell? ⟨qb, qo, none⟩ = some (.int .i64 (f : Int)) := (by simpa [IntAt] using hqf 0 (by simp)); have hqp : 0 < (List.map (fun n : Nat => (n : Int)) (f :: rest)).length := (by simp); have hqb := cell_lt q0; replace hbx := bThen hbx hb; have HB := Lib.hid hbx; have HRW := Lib.hid (ownsRow_below HROW.out hbx); have hwc : W1.heap.size ≤ w3.heap.size := Nat.le_trans hszr hbx.size; clear hbx; clear hb hqx hqf))
          go_roundw
          case rel => exact ⟨k + 1, by omega, by go_num, Lib.hid (by rw [HM.out, HG.out, List.append_nil]; exact HRW.out), Lib.hid (HK.out.trans (Kp.of_below HB.out hszr))⟩
          case measure => simp [intOf]; omega
    · have HKK := Lib.hid (show k = a.num.toNat + 1 by omega)
      obtain ⟨ad, cap, rfl⟩ := ownsRow_slice HROW.out
      go_wp2_with fail
      go_ret
      refine ⟨⟨_, rfl, ?_⟩, bThen HB1.out HK.out.low⟩
      have h1 := tw_slice HROW.out (by have := twins_len S a k; omega)
      unfold twinsTo
      rw [← HKK.out]
      exact h1
end Go.Proofs.Ytfcopnlpcbbocaa
