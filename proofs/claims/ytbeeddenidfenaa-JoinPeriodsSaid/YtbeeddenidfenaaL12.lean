/- The law of periods, given the examples. -/
import Derived.Test.YtbeeddenidfenaaP7
import Derived.Test.YtbeeddenidfenaaG71
import Derived.Test.YtbeeddenidfenaaE9
import Derived.Test.YtbeeddenidfenaaF1
set_option linter.unusedSimpArgs false
set_option linter.unusedVariables false
namespace Go.Proofs.Ytbeeddenidfenaa
open Go.RowKit

theorem tf_outP {er : Int} {r : Mk} {e : Ending} {w' : World} (h : TfPost er r e w') : ∃ ra rc qa qc, e = .returned (.tuple #[.agg #[.slice ra r.sam.length rc, .slice qa r.marks.length qc], .int .i64 er]) ∧ MkV w' (.slice ra r.sam.length rc) (.slice qa r.marks.length qc) r := by
  obtain ⟨rs, rm, rfl, h3, h4⟩ := h
  obtain ⟨ra, rc, rfl, h5⟩ := id h3
  obtain ⟨qa, qc, rfl, h6⟩ := id h4
  exact ⟨ra, rc, qa, qc, rfl, h3, h4⟩
theorem cap_of {W : World} {a : Option Addr} {n c : Nat} {l : List Int} (h : SliceV W (.slice a n c) 1 IntAt l) : n ≤ c ∧ n = l.length := by
  obtain ⟨_, _, he, hl, -⟩ := h
  cases he
  exact ⟨hl.2, rfl⟩
theorem mark_cell {W : World} {b o n c : Nat} {m : Mk} (hm : MkR m) (h : SliceV W (.slice (some ⟨b, o, none⟩) n c) 1 IntAt m.marks) {i : Nat} (hi : i < m.marks.length) : W.cell? ⟨b, o + i, none⟩ = some (.int .i64 (mkI m i : Int)) := by
  obtain ⟨b', o', he, hf⟩ := h.at (by intro e; rw [e] at hi; simp at hi)
  cases he
  have := hf i hi
  unfold IntAt at this
  rwa [hm.get hi, Nat.mul_one] at this
theorem head_slice {W : World} {b o c : Nat} {m : Mk} (hm : MkR m) (h : SliceV W (.slice (some ⟨b, o, none⟩) m.sam.length c) 1 IntAt m.sam) : SliceV W (.slice (some ⟨b, o, none⟩) (mkI m 0) c) 1 IntAt (headL m) := by
  have h0 := h.part 0 (mkI m 0) c (by have := hm.le (i := 0) (by have := hm.two; omega); omega) (by have := hm.le (i := 0) (by have := hm.two; omega); have := (cap_of h).1; omega)
  rw [List.drop_zero, Nat.add_zero] at h0
  exact h0
theorem tail_slice {W : World} {b o c : Nat} {m : Mk} (hm : MkR m) (h : SliceV W (.slice (some ⟨b, o, none⟩) m.sam.length c) 1 IntAt m.sam) : SliceV W (.slice (if c = mkI m (pN m) then some ⟨b, o, none⟩ else some ⟨b, o + mkI m (pN m), none⟩) (m.sam.length - mkI m (pN m)) (c - mkI m (pN m))) 1 IntAt (tailL m) :=
  h.from (mkI m (pN m)) (hm.le (by have := hm.pN_in; omega))
set_option maxRecDepth 10000 in
set_option maxHeartbeats 8000000 in
theorem law12_any (m : Mk) (num den : Int) (vs vm : Value) (w : World) (hK : Known) (hv : MkV w vs vm m) :
    Calls Try.prog 12 #[.agg #[vs, vm], .int .i64 num, .int .i64 den] w fun e w' => e = .returned (.bool true) ∧ Below w.heap.size w w' := by
  have HK : Hid (∀ W, Calls Try.prog 18 #[] W fun e w' => e = .returned (.bool true) ∧ Below W.heap.size W w') := Lib.hid hK
  have HV := Lib.hid (fun W (hB : Below w.heap.size w W) => hv.keep hB)
  obtain ⟨⟨a0, c, rfl, hl, -⟩, ⟨am, cm, rfl, hlm, -⟩⟩ := id hv
  have HB := Lib.hid (bAlloc (Below.refl w.heap.size w) (.cells #[.slice a0 m.sam.length c, .slice am m.marks.length cm] 24))
  have c0 : (w.alloc (.cells #[.slice a0 m.sam.length c, .slice am m.marks.length cm] 24)).cell? ⟨w.heap.size, 0, none⟩ = some (.slice a0 m.sam.length c) := cell_new rfl
  have c1 : (w.alloc (.cells #[.slice a0 m.sam.length c, .slice am m.marks.length cm] 24)).cell? ⟨w.heap.size, 1, none⟩ = some (.slice am m.marks.length cm) := cell_new rfl
  have cl := cell_lt c0
  unfold most at hl hlm
  clear hv hK
  have HRA : Hid (∀ W, Calls Try.prog 44 #[.int .i64 num, .int .i64 den] W fun e w' => e = .returned (.bool (ratOk num den)) ∧ W = w') := Lib.hid (Ratio_any num den)
  by_cases g1 : (400 : Int) < m.sam.length
  · have HMA : Hid True := Lib.hid trivial
    go_enter Try.func12, Try.ntmps12
    go_wp2_with (first
      | (go_at_call 20; with_reducible refine Calls.mono (HMA.out _ HB.out) ?_; rintro e w6 ⟨rfl, hb⟩; replace HB := Lib.hid (bThen HB.out hb); clear hb)
      | (go_at_call 44; with_reducible refine Calls.mono (HRA.out _) ?_; rintro e w7 ⟨rfl, rfl⟩)
      | (go_at_call 18; with_reducible refine Calls.mono (HK.out _) ?_; rintro e wk ⟨rfl, hb⟩; have HBK := Lib.hid (bThen HB.out hb); clear hb))
    all_goals first
      | (exfalso; omega)
      | (go_ret; exact ⟨rfl, HBK.out⟩)
  by_cases g2 : (400 : Int) < m.marks.length
  · have HMA : Hid True := Lib.hid trivial
    go_enter Try.func12, Try.ntmps12
    go_wp2_with (first
      | (go_at_call 20; with_reducible refine Calls.mono (HMA.out _ HB.out) ?_; rintro e w6 ⟨rfl, hb⟩; replace HB := Lib.hid (bThen HB.out hb); clear hb)
      | (go_at_call 44; with_reducible refine Calls.mono (HRA.out _) ?_; rintro e w7 ⟨rfl, rfl⟩)
      | (go_at_call 18; with_reducible refine Calls.mono (HK.out _) ?_; rintro e wk ⟨rfl, hb⟩; have HBK := Lib.hid (bThen HB.out hb); clear hb))
    all_goals first
      | (exfalso; omega)
      | (go_ret; exact ⟨rfl, HBK.out⟩)
  have hn : m.sam.length ≤ 1000000 := by omega
  obtain ⟨ev, hev⟩ : ∃ ev, ev = mkErr true m := ⟨_, rfl⟩
  have HMA : Hid (∀ W, Below w.heap.size w W → Calls Try.prog 20 #[.agg #[.slice a0 m.sam.length c, .slice am m.marks.length cm]] W fun e w' => e = .returned (.int .i64 ev) ∧ Below W.heap.size W w') := Lib.hid fun W hB => by
    have h := Marked_any m _ _ W (HV.out W hB) hn
    rwa [← hev] at h
  by_cases g3 : ev = 0
  case neg =>
    have hb0 : (ev == 0) = false := beq_eq_false_iff_ne.2 g3
    clear hev HV
    go_enter Try.func12, Try.ntmps12
    go_wp2_with (first
      | (go_at_call 20; with_reducible refine Calls.mono (HMA.out _ HB.out) ?_; rintro e w6 ⟨rfl, hb⟩; replace HB := Lib.hid (bThen HB.out hb); clear hb)
      | (go_at_call 44; with_reducible refine Calls.mono (HRA.out _) ?_; rintro e w7 ⟨rfl, rfl⟩)
      | (go_at_call 18; with_reducible refine Calls.mono (HK.out _) ?_; rintro e wk ⟨rfl, hb⟩; have HBK := Lib.hid (bThen HB.out hb); clear hb))
    all_goals first
      | (exfalso; omega)
      | (go_ret; exact ⟨rfl, HBK.out⟩)
  subst g3
  cases g4 : ratOk num den
  · rw [g4] at HRA
    clear hev HV g4
    go_enter Try.func12, Try.ntmps12
    go_wp2_with (first
      | (go_at_call 20; with_reducible refine Calls.mono (HMA.out _ HB.out) ?_; rintro e w6 ⟨rfl, hb⟩; replace HB := Lib.hid (bThen HB.out hb); clear hb)
      | (go_at_call 44; with_reducible refine Calls.mono (HRA.out _) ?_; rintro e w7 ⟨rfl, rfl⟩)
      | (go_at_call 18; with_reducible refine Calls.mono (HK.out _) ?_; rintro e wk ⟨rfl, hb⟩; have HBK := Lib.hid (bThen HB.out hb); clear hb))
    all_goals first
      | (exfalso; omega)
      | (go_ret; exact ⟨rfl, HBK.out⟩)
  rw [g4] at HRA
  obtain ⟨-, hmr, hsm⟩ := mkErr_ok hev.symm
  have hri := ratOk_in g4
  obtain ⟨nn, rfl⟩ : ∃ nn : Nat, num = (nn : Int) := ⟨num.toNat, by omega⟩
  obtain ⟨dd, rfl⟩ : ∃ dd : Nat, den = (dd : Int) := ⟨den.toNat, by omega⟩
  have h400 : m.sam.length ≤ 400 := by omega
  have hrn := rat_self (a := (nn : Int)) (by omega) (by omega)
  have hrd := rat_self (a := (dd : Int)) (by omega) (by omega)
  have hEr : ∀ r, r = true → mkErr r m = 0 := fun r hr => by rw [hr]; exact hev.symm
  have b1 := reb_short hmr h400 (gs := gsStr m nn dd) (fun i hi => str_count hmr g4 hi)
  have b2 := reb_short hmr h400 (gs := gsTra nn dd) (fun i hi => tra_count hmr g4 hi)
  have b3 := reb_short hmr h400 (gs := gsStr m nn nn) (fun i hi => str_count hmr hrn hi)
  have b4 := reb_short hmr h400 (gs := gsTra dd dd) (fun i hi => tra_count hmr hrd hi)
  have te : ∀ (x y : Int) gs, ratOk x y = true → rebLen m gs ≤ 7000 → tfErr m x y gs = 0 := fun x y gs hr h => by unfold tfErr; rw [if_pos (hEr _ hr), if_neg (by omega)]
  have tv : ∀ (x y : Int) gs, ratOk x y = true → rebLen m gs ≤ 7000 → tfV m x y gs = bldM m (said m gs) := fun x y gs hr h => by unfold tfV; rw [if_pos (te x y gs hr h)]
  have hp := hmr.pN_in
  have hA := strA_in hmr g4
  have n1 : 1 ≤ (said m (gsStr m nn dd)).length := by rw [said_str hmr g4, strL_len]; exact hA.2.1
  have n2 : 1 ≤ (said m (gsTra nn dd)).length := by rw [said_tra, traL_len]; exact hp.1
  have v1 := said_right hmr hsm (fin_str hmr g4) n1 (by omega)
  have v2 := said_right hmr hsm (fin_tra hmr g4) n2 (by omega)
  have len1 := bld_len hmr (gsStr m nn dd)
  have len2 := bld_len hmr (gsTra nn dd)
  have hs1 := fun W (hB : Below w.heap.size w W) => (Stretch_any m nn nn _ _ W (HV.out W hB) hn).mono fun e w' (h : _ ∧ _) => (⟨tf_outP h.1, h.2⟩ : _ ∧ _)
  have ht1 := fun W (hB : Below w.heap.size w W) => (Transpose_any m dd dd _ _ W (HV.out W hB) hn).mono fun e w' (h : _ ∧ _) => (⟨tf_outP h.1, h.2⟩ : _ ∧ _)
  have hsx := fun W (hB : Below w.heap.size w W) => (Stretch_any m nn dd _ _ W (HV.out W hB) hn).mono fun e w' (h : _ ∧ _) => (⟨tf_outP h.1, h.2⟩ : _ ∧ _)
  have hty := fun W (hB : Below w.heap.size w W) => (Transpose_any m nn dd _ _ W (HV.out W hB) hn).mono fun e w' (h : _ ∧ _) => (⟨tf_outP h.1, h.2⟩ : _ ∧ _)
  rw [te _ _ _ hrn b3.1, tv _ _ _ hrn b3.1, str_self hmr (by omega) (by omega)] at hs1
  rw [te _ _ _ hrd b4.1, tv _ _ _ hrd b4.1, tra_self hmr (by omega) (by omega)] at ht1
  obtain ⟨X, hX⟩ : ∃ X : Mk, X = bldM m (said m (gsStr m nn dd)) := ⟨_, rfl⟩
  obtain ⟨Y, hY⟩ : ∃ Y : Mk, Y = bldM m (said m (gsTra nn dd)) := ⟨_, rfl⟩
  rw [te _ _ _ g4 b1.1, tv _ _ _ g4 b1.1, ← hX] at hsx
  rw [te _ _ _ g4 b2.1, tv _ _ _ g4 b2.1, ← hY] at hty
  have HXR := Lib.hid (show MkR X ∧ Sm X.sam by rw [hX]; exact v1)
  have HYR := Lib.hid (show MkR Y ∧ Sm Y.sam by rw [hY]; exact v2)
  have HXL : Hid (X.sam.length ≤ 7000 ∧ Y.sam.length ≤ 7000) := Lib.hid (by rw [hX, hY, len1, len2]; omega)
  obtain ⟨A, hAe⟩ : ∃ A, A = strA m nn dd := ⟨_, rfl⟩
  have HXP : Hid (pers X = strL m A ∧ pN X = A) := Lib.hid (by rw [hX, pers_bld, bldM_pN, said_str hmr g4, strL_len, hAe]; exact ⟨rfl, rfl⟩)
  have HYP : Hid (pers Y = traL m nn dd ∧ pN Y = pN m) := Lib.hid (by rw [hY, pers_bld, bldM_pN, said_tra, traL_len]; exact ⟨rfl, rfl⟩)
  have HXH : Hid (headL X = headL m ∧ tailL X = tailL m ∧ mkI X 0 = mkI m 0) := Lib.hid (by rw [hX]; exact ⟨bldM_head hmr _, bldM_tail hmr _, by rw [bldM_mkI m _ (Nat.zero_le _), List.take_zero, List.flatten_nil, List.length_nil, Nat.add_zero, head_len hmr]⟩)
  have HYH : Hid (headL Y = headL m ∧ tailL Y = tailL m ∧ mkI Y 0 = mkI m 0) := Lib.hid (by rw [hY]; exact ⟨bldM_head hmr _, bldM_tail hmr _, by rw [bldM_mkI m _ (Nat.zero_le _), List.take_zero, List.flatten_nil, List.length_nil, Nat.add_zero, head_len hmr]⟩)
  have HTN : Hid (∀ i, i < pN m → traN m nn dd i ≤ 16 * pL m i) := Lib.hid fun i hi => (traN_in hmr g4 hi).2.2
  rw [← hAe] at hA
  have hA1 := hA.2.1
  have hA16 := hA.2.2
  have HMR := Lib.hid (And.intro hmr hsm)
  have HPN := Lib.hid hp.2.2
  have hN1 := hp.1
  have hN2 : pN m ≤ 400 := by omega
  have HSM : Hid (∀ W ra rc qa qc sa sc ta tc, MkV W (.slice ra m.sam.length rc) (.slice qa m.marks.length qc) m → MkV W (.slice sa m.sam.length sc) (.slice ta m.marks.length tc) m → Calls Try.prog 48 #[.agg #[.slice ra m.sam.length rc, .slice qa m.marks.length qc], .agg #[.slice sa m.sam.length sc, .slice ta m.marks.length tc]] W fun e w' => e = .returned (.bool true) ∧ Below W.heap.size W w') := Lib.hid fun W ra rc qa qc sa sc ta tc h1 h2 => by
    have h0 := SameMarked_any m m _ _ _ _ W h1 h2
    rwa [decide_eq_true rfl] at h0
  have hmk : ∀ M : Mk, MkR M ∧ Sm M.sam → M.sam.length ≤ 7000 → ∀ W ra rc qa qc, MkV W (.slice ra M.sam.length rc) (.slice qa M.marks.length qc) M → Calls Try.prog 20 #[.agg #[.slice ra M.sam.length rc, .slice qa M.marks.length qc]] W fun e w' => e = .returned (.int .i64 0) ∧ Below W.heap.size W w' := fun M h1 h3 W ra rc qa qc h => by
    have h0 := Marked_any M _ _ W h (by omega)
    rwa [mk_fine h1.1 h1.2] at h0
  have HKX := Lib.hid (hmk X HXR.out HXL.out.1)
  have HKY := Lib.hid (hmk Y HYR.out HXL.out.2)
  have HS1 := Lib.hid hs1
  have HT1 := Lib.hid ht1
  have HSX := Lib.hid hsx
  have HTY := Lib.hid hty
  clear hp hev hs1 ht1 hsx hty hmk te tv hEr hX hY hAe hA b1 b2 b3 b4 n1 n2 v1 v2 len1 len2 hrn hrd hri hmr hsm g4
  go_enter Try.func12, Try.ntmps12
  go_upto_region 7 with (first
  | (go_at_call 20; with_reducible refine Calls.mono (HMA.out _ HB.out) ?_; rintro e w6 ⟨rfl, hb⟩; replace HB := Lib.hid (bThen HB.out hb); replace c0 := keep hb c0; replace c1 := keep hb c1; replace cl := cell_lt c0; clear hb)
  | (go_at_call 44; with_reducible refine Calls.mono (HRA.out _) ?_; rintro e w7 ⟨rfl, rfl⟩)
  | (go_at_call 41; with_reducible refine Calls.mono (HS1.out _ HB.out) ?_; rintro e w2 ⟨⟨fa, fc, fb, fd, rfl, hmv⟩, hb⟩; have HMf := Lib.hid (hmv.keep (bAlloc (Below.refl _ _) (.cells #[.slice fa m.sam.length fc, .slice fb m.marks.length fd] 24))); have f0 := (cell_new (V := w2) (cs := #[.slice fa m.sam.length fc, .slice fb m.marks.length fd]) (t := 24) (j := 0) (v := .slice fa m.sam.length fc) rfl); have f1 := (cell_new (V := w2) (cs := #[.slice fa m.sam.length fc, .slice fb m.marks.length fd]) (t := 24) (j := 1) (v := .slice fb m.marks.length fd) rfl); have fl := cell_lt f0; replace HB := Lib.hid (bAlloc (bThen HB.out hb) (.cells #[.slice fa m.sam.length fc, .slice fb m.marks.length fd] 24)); replace c0 := keep (bAlloc (Below.refl _ _) (.cells #[.slice fa m.sam.length fc, .slice fb m.marks.length fd] 24)) (keep hb c0); replace c1 := keep (bAlloc (Below.refl _ _) (.cells #[.slice fa m.sam.length fc, .slice fb m.marks.length fd] 24)) (keep hb c1); replace cl := cell_lt c0; clear hb hmv)
  | (go_at_call 42; with_reducible refine Calls.mono (HT1.out _ HB.out) ?_; rintro e w3 ⟨⟨ga, gc, gb, gd, rfl, hmv⟩, hb⟩; replace HMf := Lib.hid ((HMf.out.keep hb).keep (bAlloc (Below.refl _ _) (.cells #[.slice ga m.sam.length gc, .slice gb m.marks.length gd] 24))); replace f0 := keep (bAlloc (Below.refl _ _) (.cells #[.slice ga m.sam.length gc, .slice gb m.marks.length gd] 24)) (keep hb f0); replace f1 := keep (bAlloc (Below.refl _ _) (.cells #[.slice ga m.sam.length gc, .slice gb m.marks.length gd] 24)) (keep hb f1); replace fl := cell_lt f0; have HMg := Lib.hid (hmv.keep (bAlloc (Below.refl _ _) (.cells #[.slice ga m.sam.length gc, .slice gb m.marks.length gd] 24))); have g0 := (cell_new (V := w3) (cs := #[.slice ga m.sam.length gc, .slice gb m.marks.length gd]) (t := 24) (j := 0) (v := .slice ga m.sam.length gc) rfl); have g1 := (cell_new (V := w3) (cs := #[.slice ga m.sam.length gc, .slice gb m.marks.length gd]) (t := 24) (j := 1) (v := .slice gb m.marks.length gd) rfl); have gl := cell_lt g0; replace HB := Lib.hid (bAlloc (bThen HB.out hb) (.cells #[.slice ga m.sam.length gc, .slice gb m.marks.length gd] 24)); replace c0 := keep (bAlloc (Below.refl _ _) (.cells #[.slice ga m.sam.length gc, .slice gb m.marks.length gd] 24)) (keep hb c0); replace c1 := keep (bAlloc (Below.refl _ _) (.cells #[.slice ga m.sam.length gc, .slice gb m.marks.length gd] 24)) (keep hb c1); replace cl := cell_lt c0; clear hb hmv)
  | (go_at_call 41; with_reducible refine Calls.mono (HSX.out _ HB.out) ?_; rintro e w4 ⟨⟨xa, xc, xb, xd, rfl, hmv⟩, hb⟩; replace HMf := Lib.hid ((HMf.out.keep hb).keep (bAlloc (Below.refl _ _) (.cells #[.slice xa X.sam.length xc, .slice xb X.marks.length xd] 24))); replace f0 := keep (bAlloc (Below.refl _ _) (.cells #[.slice xa X.sam.length xc, .slice xb X.marks.length xd] 24)) (keep hb f0); replace f1 := keep (bAlloc (Below.refl _ _) (.cells #[.slice xa X.sam.length xc, .slice xb X.marks.length xd] 24)) (keep hb f1); replace fl := cell_lt f0; replace HMg := Lib.hid ((HMg.out.keep hb).keep (bAlloc (Below.refl _ _) (.cells #[.slice xa X.sam.length xc, .slice xb X.marks.length xd] 24))); replace g0 := keep (bAlloc (Below.refl _ _) (.cells #[.slice xa X.sam.length xc, .slice xb X.marks.length xd] 24)) (keep hb g0); replace g1 := keep (bAlloc (Below.refl _ _) (.cells #[.slice xa X.sam.length xc, .slice xb X.marks.length xd] 24)) (keep hb g1); replace gl := cell_lt g0; have HMx := Lib.hid (hmv.keep (bAlloc (Below.refl _ _) (.cells #[.slice xa X.sam.length xc, .slice xb X.marks.length xd] 24))); have x0 := (cell_new (V := w4) (cs := #[.slice xa X.sam.length xc, .slice xb X.marks.length xd]) (t := 24) (j := 0) (v := .slice xa X.sam.length xc) rfl); have x1 := (cell_new (V := w4) (cs := #[.slice xa X.sam.length xc, .slice xb X.marks.length xd]) (t := 24) (j := 1) (v := .slice xb X.marks.length xd) rfl); have xl := cell_lt x0; replace HB := Lib.hid (bAlloc (bThen HB.out hb) (.cells #[.slice xa X.sam.length xc, .slice xb X.marks.length xd] 24)); replace c0 := keep (bAlloc (Below.refl _ _) (.cells #[.slice xa X.sam.length xc, .slice xb X.marks.length xd] 24)) (keep hb c0); replace c1 := keep (bAlloc (Below.refl _ _) (.cells #[.slice xa X.sam.length xc, .slice xb X.marks.length xd] 24)) (keep hb c1); replace cl := cell_lt c0; clear hb hmv)
  | (go_at_call 42; with_reducible refine Calls.mono (HTY.out _ HB.out) ?_; rintro e w5 ⟨⟨ya, yc, yb, yd, rfl, hmv⟩, hb⟩; replace HMf := Lib.hid ((HMf.out.keep hb).keep (bAlloc (Below.refl _ _) (.cells #[.slice ya Y.sam.length yc, .slice yb Y.marks.length yd] 24))); replace f0 := keep (bAlloc (Below.refl _ _) (.cells #[.slice ya Y.sam.length yc, .slice yb Y.marks.length yd] 24)) (keep hb f0); replace f1 := keep (bAlloc (Below.refl _ _) (.cells #[.slice ya Y.sam.length yc, .slice yb Y.marks.length yd] 24)) (keep hb f1); replace fl := cell_lt f0; replace HMg := Lib.hid ((HMg.out.keep hb).keep (bAlloc (Below.refl _ _) (.cells #[.slice ya Y.sam.length yc, .slice yb Y.marks.length yd] 24))); replace g0 := keep (bAlloc (Below.refl _ _) (.cells #[.slice ya Y.sam.length yc, .slice yb Y.marks.length yd] 24)) (keep hb g0); replace g1 := keep (bAlloc (Below.refl _ _) (.cells #[.slice ya Y.sam.length yc, .slice yb Y.marks.length yd] 24)) (keep hb g1); replace gl := cell_lt g0; replace HMx := Lib.hid ((HMx.out.keep hb).keep (bAlloc (Below.refl _ _) (.cells #[.slice ya Y.sam.length yc, .slice yb Y.marks.length yd] 24))); replace x0 := keep (bAlloc (Below.refl _ _) (.cells #[.slice ya Y.sam.length yc, .slice yb Y.marks.length yd] 24)) (keep hb x0); replace x1 := keep (bAlloc (Below.refl _ _) (.cells #[.slice ya Y.sam.length yc, .slice yb Y.marks.length yd] 24)) (keep hb x1); replace xl := cell_lt x0; have HMy := Lib.hid (hmv.keep (bAlloc (Below.refl _ _) (.cells #[.slice ya Y.sam.length yc, .slice yb Y.marks.length yd] 24))); have y0 := (cell_new (V := w5) (cs := #[.slice ya Y.sam.length yc, .slice yb Y.marks.length yd]) (t := 24) (j := 0) (v := .slice ya Y.sam.length yc) rfl); have y1 := (cell_new (V := w5) (cs := #[.slice ya Y.sam.length yc, .slice yb Y.marks.length yd]) (t := 24) (j := 1) (v := .slice yb Y.marks.length yd) rfl); have yl := cell_lt y0; replace HB := Lib.hid (bAlloc (bThen HB.out hb) (.cells #[.slice ya Y.sam.length yc, .slice yb Y.marks.length yd] 24)); replace c0 := keep (bAlloc (Below.refl _ _) (.cells #[.slice ya Y.sam.length yc, .slice yb Y.marks.length yd] 24)) (keep hb c0); replace c1 := keep (bAlloc (Below.refl _ _) (.cells #[.slice ya Y.sam.length yc, .slice yb Y.marks.length yd] 24)) (keep hb c1); replace cl := cell_lt c0; clear hb hmv))
  generalize World.alloc w5 _ = W6 at *
  go_upto_region 9 with (first
  | (go_at_call 48; with_reducible refine Calls.mono (HSM.out _ _ _ _ _ _ _ _ _ HMf.out (HV.out _ HB.out)) ?_; rintro e w8 ⟨rfl, hb⟩; replace HB := Lib.hid (bThen HB.out hb); replace HMf := Lib.hid (HMf.out.keep hb); replace f0 := keep hb f0; replace f1 := keep hb f1; replace fl := cell_lt f0; replace HMg := Lib.hid (HMg.out.keep hb); replace g0 := keep hb g0; replace g1 := keep hb g1; replace gl := cell_lt g0; replace HMx := Lib.hid (HMx.out.keep hb); replace x0 := keep hb x0; replace x1 := keep hb x1; replace xl := cell_lt x0; replace HMy := Lib.hid (HMy.out.keep hb); replace y0 := keep hb y0; replace y1 := keep hb y1; replace yl := cell_lt y0; replace c0 := keep hb c0; replace c1 := keep hb c1; replace cl := cell_lt c0; clear hb)
  | (go_at_call 48; with_reducible refine Calls.mono (HSM.out _ _ _ _ _ _ _ _ _ HMg.out (HV.out _ HB.out)) ?_; rintro e w8 ⟨rfl, hb⟩; replace HB := Lib.hid (bThen HB.out hb); replace HMf := Lib.hid (HMf.out.keep hb); replace f0 := keep hb f0; replace f1 := keep hb f1; replace fl := cell_lt f0; replace HMg := Lib.hid (HMg.out.keep hb); replace g0 := keep hb g0; replace g1 := keep hb g1; replace gl := cell_lt g0; replace HMx := Lib.hid (HMx.out.keep hb); replace x0 := keep hb x0; replace x1 := keep hb x1; replace xl := cell_lt x0; replace HMy := Lib.hid (HMy.out.keep hb); replace y0 := keep hb y0; replace y1 := keep hb y1; replace yl := cell_lt y0; replace c0 := keep hb c0; replace c1 := keep hb c1; replace cl := cell_lt c0; clear hb)
  | (go_at_call 20; with_reducible refine Calls.mono (HKX.out _ _ _ _ _ HMx.out) ?_; rintro e w8 ⟨rfl, hb⟩; replace HB := Lib.hid (bThen HB.out hb); replace HMf := Lib.hid (HMf.out.keep hb); replace f0 := keep hb f0; replace f1 := keep hb f1; replace fl := cell_lt f0; replace HMg := Lib.hid (HMg.out.keep hb); replace g0 := keep hb g0; replace g1 := keep hb g1; replace gl := cell_lt g0; replace HMx := Lib.hid (HMx.out.keep hb); replace x0 := keep hb x0; replace x1 := keep hb x1; replace xl := cell_lt x0; replace HMy := Lib.hid (HMy.out.keep hb); replace y0 := keep hb y0; replace y1 := keep hb y1; replace yl := cell_lt y0; replace c0 := keep hb c0; replace c1 := keep hb c1; replace cl := cell_lt c0; clear hb)
  | (go_at_call 20; with_reducible refine Calls.mono (HKY.out _ _ _ _ _ HMy.out) ?_; rintro e w8 ⟨rfl, hb⟩; replace HB := Lib.hid (bThen HB.out hb); replace HMf := Lib.hid (HMf.out.keep hb); replace f0 := keep hb f0; replace f1 := keep hb f1; replace fl := cell_lt f0; replace HMg := Lib.hid (HMg.out.keep hb); replace g0 := keep hb g0; replace g1 := keep hb g1; replace gl := cell_lt g0; replace HMx := Lib.hid (HMx.out.keep hb); replace x0 := keep hb x0; replace x1 := keep hb x1; replace xl := cell_lt x0; replace HMy := Lib.hid (HMy.out.keep hb); replace y0 := keep hb y0; replace y1 := keep hb y1; replace yl := cell_lt y0; replace c0 := keep hb c0; replace c1 := keep hb c1; replace cl := cell_lt c0; clear hb))
  have hmne : m.marks ≠ [] := fun e => by have := HPN.out; rw [e] at this; simp at this
  have hv0 := HV.out w8 HB.out
  obtain ⟨sb, so, rfl, -⟩ := hv0.1.at HMR.out.1.ne
  obtain ⟨mb, mo, rfl, -⟩ := hv0.2.at hmne
  obtain ⟨xsb, xso, rfl, -⟩ := HMx.out.1.at HXR.out.1.ne
  obtain ⟨xmb, xmo, rfl, -⟩ := HMx.out.2.at (fun e => by have := HXR.out.1.two; rw [e] at this; simp at this)
  obtain ⟨ysb, yso, rfl, -⟩ := HMy.out.1.at HYR.out.1.ne
  obtain ⟨ymb, ymo, rfl, -⟩ := HMy.out.2.at (fun e => by have := HYR.out.1.two; rw [e] at this; simp at this)
  have hXm : X.marks.length = A + 1 := by have h1 := HXR.out.1.pN_in; have h2 := HXP.out.2; omega
  have hYm : Y.marks.length = pN m + 1 := by have h1 := HYR.out.1.pN_in; have h2 := HYP.out.2; omega
  have hcap := (cap_of hv0.1).1
  have hxcap := (cap_of HMx.out.1).1
  have hycap := (cap_of HMy.out.1).1
  have ha := HMR.out.1.le (i := 0) (by have := HPN.out; omega)
  have hb := HMR.out.1.le (i := pN m) (by have := HPN.out; omega)
  have hxa := HXR.out.1.le (i := 0) (by omega)
  have hxb := HXR.out.1.le (i := pN X) (by have := HXP.out.2; omega)
  have hya := HYR.out.1.le (i := 0) (by omega)
  have hyb := HYR.out.1.le (i := pN Y) (by have := HYP.out.2; omega)
  have hxl := HXL.out
  have HC : Hid (∀ W, Below w8.heap.size w8 W → ((W.cell? ⟨w.heap.size, 0, none⟩ = some (.slice (some ⟨sb, so, none⟩) m.sam.length c) ∧ W.cell? ⟨w.heap.size, 1, none⟩ = some (.slice (some ⟨mb, mo, none⟩) m.marks.length cm) ∧ W.cell? ⟨mb, mo, none⟩ = some (.int .i64 (mkI m 0 : Int)) ∧ W.cell? ⟨mb, mo + pN m, none⟩ = some (.int .i64 (mkI m (pN m) : Int))) ∧
      (W.cell? ⟨w4.heap.size, 0, none⟩ = some (.slice (some ⟨xsb, xso, none⟩) X.sam.length xc) ∧ W.cell? ⟨w4.heap.size, 1, none⟩ = some (.slice (some ⟨xmb, xmo, none⟩) X.marks.length xd) ∧ W.cell? ⟨xmb, xmo, none⟩ = some (.int .i64 (mkI X 0 : Int)) ∧ W.cell? ⟨xmb, xmo + A, none⟩ = some (.int .i64 (mkI X (pN X) : Int))) ∧
      (W.cell? ⟨w5.heap.size, 0, none⟩ = some (.slice (some ⟨ysb, yso, none⟩) Y.sam.length yc) ∧ W.cell? ⟨w5.heap.size, 1, none⟩ = some (.slice (some ⟨ymb, ymo, none⟩) Y.marks.length yd) ∧ W.cell? ⟨ymb, ymo, none⟩ = some (.int .i64 (mkI Y 0 : Int)) ∧ W.cell? ⟨ymb, ymo + pN m, none⟩ = some (.int .i64 (mkI Y (pN Y) : Int))))) := Lib.hid fun W hB => by
    have m0 := mark_cell HMR.out.1 hv0.2 (i := 0) (by have := HPN.out; omega)
    have mN := mark_cell HMR.out.1 hv0.2 (i := pN m) (by have := HPN.out; omega)
    have x00 := mark_cell HXR.out.1 HMx.out.2 (i := 0) (by omega)
    have xN := mark_cell HXR.out.1 HMx.out.2 (i := pN X) (by have := HXP.out.2; omega)
    have y00 := mark_cell HYR.out.1 HMy.out.2 (i := 0) (by omega)
    have yN := mark_cell HYR.out.1 HMy.out.2 (i := pN Y) (by have := HYP.out.2; omega)
    rw [Nat.add_zero] at m0 x00 y00
    have e1 := HXP.out.2
    have e2 := HYP.out.2
    refine ⟨⟨keep hB c0, keep hB c1, keep hB m0, keep hB mN⟩, ⟨keep hB x0, keep hB x1, keep hB x00, ?_⟩, ⟨keep hB y0, keep hB y1, keep hB y00, ?_⟩⟩
    · have := keep hB xN; rwa [show xmo + pN X = xmo + A by omega] at this
    · have := keep hB yN; rwa [show ymo + pN Y = ymo + pN m by omega] at this
  have HM3 : Hid (∀ W, Below w8.heap.size w8 W → MkV W (.slice (some ⟨sb, so, none⟩) m.sam.length c) (.slice (some ⟨mb, mo, none⟩) m.marks.length cm) m ∧ MkV W (.slice (some ⟨xsb, xso, none⟩) X.sam.length xc) (.slice (some ⟨xmb, xmo, none⟩) X.marks.length xd) X ∧ MkV W (.slice (some ⟨ysb, yso, none⟩) Y.sam.length yc) (.slice (some ⟨ymb, ymo, none⟩) Y.marks.length yd) Y) := Lib.hid fun W hB => ⟨HV.out W (bThen HB.out hB), HMx.out.keep hB, HMy.out.keep hB⟩
  have HBW := HB
  have HPNE := HPN
  clear HMf HMg HMx HMy f0 f1 fl g0 g1 gl x0 x1 xl y0 y1 yl c0 c1 cl hv0 hmne HS1 HT1 HSX HTY HSM HKX HKY HMA HRA HB
  obtain ⟨⟨c0, c1, k0, kN⟩, -⟩ := HC.out w8 (Below.refl _ _)
  have cl := cell_lt c0
  have kl := cell_lt k0
  have i1 : IntKind.i64.wrap ((m.marks.length : Int) - 1) = (pN m : Int) := by rw [show (m.marks.length : Int) - 1 = (pN m : Int) by have := HPN.out; omega]; exact IntWalk.i64_in _ (by omega)
  have i2 : (0 : Int) < (m.marks.length : Int) := by have := HPN.out; omega
  have i3 : (pN m : Int) < (m.marks.length : Int) := by have := HPN.out; omega
  have i4 : (mkI m 0 : Int) ≤ (m.sam.length : Int) := by omega
  have i5 : (mkI m (pN m) : Int) ≤ (m.sam.length : Int) := by omega
  have i6 : (m.sam.length : Int) ≤ (c : Int) := by omega
  have i7 : (mkI m 0 : Int) ≤ (c : Int) := by omega
  have HHS : Hid (∀ W, Below w8.heap.size w8 W → SliceV W (.slice (some ⟨sb, so, none⟩) (mkI m 0) c) 1 IntAt (headL m)) := Lib.hid fun W hB => head_slice HMR.out.1 (HM3.out W hB).1.1
  have HTS := Lib.hid (tail_slice HMR.out.1 (HM3.out w8 (Below.refl _ _)).1.1)
  obtain ⟨a0, ha0⟩ : ∃ a0, a0 = mkI m 0 := ⟨_, rfl⟩
  obtain ⟨bN, hbN⟩ : ∃ bN, bN = mkI m (pN m) := ⟨_, rfl⟩
  have HA0 := Lib.hid ha0
  rw [← ha0] at k0 i4 i7 HHS
  rw [← hbN] at kN i5 HTS hb
  clear ha0 hbN
  go_cut [15, 16] from 24 (fun s15 s16 wc => s15 = .slice (some ⟨sb, so, none⟩) a0 c ∧ (∃ ta tn tc, s16 = .slice ta tn tc ∧ Hid (SliceV w8 (.slice ta tn tc) 1 IntAt (tailL m))) ∧ Hid (Below w8.heap.size w8 wc))
  case first =>
    obtain ⟨TM, hTM⟩ : ∃ TM : Addr, (if c = bN then some (⟨sb, so, none⟩ : Addr) else some ⟨sb, so + bN, none⟩) = some TM := by
      by_cases h : c = bN
      · exact ⟨_, if_pos h⟩
      · exact ⟨_, if_neg h⟩
    rw [hTM] at HTS
    (refine wp_region_below (by kernel_rfl) (by kernel_rfl) ?_; (repeat (first | go_big_quiet_step (fail) | quiet_step (fail))); (refine wpQuiet_nil ?_; intro _ hw'; obtain ⟨xq, hw''⟩ := hw'; subst hw''))
    go_wp2_with fail
    go_meet
    case rel => exact ⟨rfl, ⟨_, _, _, rfl, HTS⟩, Lib.hid xq.2⟩
  case rest =>
    clear c0 c1 k0 kN cl kl i1 i2 i3 i4 i5 i6 i7 HTS
    obtain ⟨rfl, ⟨ta, tn, tc, rfl, HTS⟩, HB9⟩ := hcut
    obtain ⟨wq, hwq⟩ : ∃ wq, wq = wc := ⟨_, rfl⟩
    subst hwq
    obtain ⟨-, ⟨x0, x1, xk0, xkN⟩, ⟨y0, y1, yk0, ykN⟩⟩ := HC.out wq HB9.out
    have xl := cell_lt x0
    have xkl := cell_lt xk0
    have yl := cell_lt y0
    have ykl := cell_lt yk0
    have HX0 := HXH.out.2.2
    have HY0 := HYH.out.2.2
    rw [HX0, ← HA0.out] at xk0 hxa
    rw [HY0, ← HA0.out] at yk0 hya
    rw [← HA0.out] at ha
    have HA1 : Hid (∀ W, Below wq.heap.size wq W → Calls Try.prog 31 #[.slice (some ⟨xsb, xso, none⟩) a0 xc, .slice (some ⟨sb, so, none⟩) a0 c] W fun e w' => e = .returned (.bool true) ∧ Below W.heap.size W w') := Lib.hid fun W hB => by
      have h1 := head_slice HXR.out.1 (HM3.out W (bThen HB9.out hB)).2.1.1
      rw [HX0, ← HA0.out, HXH.out.1] at h1
      have h := Same_any _ _ _ _ W h1 (HHS.out W (bThen HB9.out hB))
      rwa [decide_eq_true rfl] at h
    have HA2 : Hid (∀ W, Below wq.heap.size wq W → Calls Try.prog 31 #[.slice (some ⟨ysb, yso, none⟩) a0 yc, .slice (some ⟨sb, so, none⟩) a0 c] W fun e w' => e = .returned (.bool true) ∧ Below W.heap.size W w') := Lib.hid fun W hB => by
      have h1 := head_slice HYR.out.1 (HM3.out W (bThen HB9.out hB)).2.2.1
      rw [HY0, ← HA0.out, HYH.out.1] at h1
      have h := Same_any _ _ _ _ W h1 (HHS.out W (bThen HB9.out hB))
      rwa [decide_eq_true rfl] at h
    have HA3 : Hid (∀ W, Below wq.heap.size wq W → Calls Try.prog 31 #[.slice (if xc = mkI X (pN X) then some ⟨xsb, xso, none⟩ else some ⟨xsb, xso + mkI X (pN X), none⟩) (X.sam.length - mkI X (pN X)) (xc - mkI X (pN X)), .slice ta tn tc] W fun e w' => e = .returned (.bool true) ∧ Below W.heap.size W w') := Lib.hid fun W hB => by
      have h1 := tail_slice HXR.out.1 (HM3.out W (bThen HB9.out hB)).2.1.1
      rw [HXH.out.2.1] at h1
      have h := Same_any _ _ _ _ W h1 (HTS.out.keep IntAt.stable (bThen HB9.out hB))
      rwa [decide_eq_true rfl] at h
    have HA4 : Hid (∀ W, Below wq.heap.size wq W → Calls Try.prog 31 #[.slice (if yc = mkI Y (pN Y) then some ⟨ysb, yso, none⟩ else some ⟨ysb, yso + mkI Y (pN Y), none⟩) (Y.sam.length - mkI Y (pN Y)) (yc - mkI Y (pN Y)), .slice ta tn tc] W fun e w' => e = .returned (.bool true) ∧ Below W.heap.size W w') := Lib.hid fun W hB => by
      have h1 := tail_slice HYR.out.1 (HM3.out W (bThen HB9.out hB)).2.2.1
      rw [HYH.out.2.1] at h1
      have h := Same_any _ _ _ _ W h1 (HTS.out.keep IntAt.stable (bThen HB9.out hB))
      rwa [decide_eq_true rfl] at h
    clear HX0 HY0
    obtain ⟨bx, hbx⟩ : ∃ bx, bx = mkI X (pN X) := ⟨_, rfl⟩
    obtain ⟨bY, hbY⟩ : ∃ bY, bY = mkI Y (pN Y) := ⟨_, rfl⟩
    rw [← hbx] at xkN HA3 hxb
    rw [← hbY] at ykN HA4 hyb
    clear hbx hbY
    have HXm := Lib.hid hXm
    have HYm := Lib.hid hYm
    have i1 : IntKind.i64.wrap ((X.marks.length : Int) - 1) = (A : Int) := by rw [show (X.marks.length : Int) - 1 = (A : Int) by omega]; exact IntWalk.i64_in _ (by omega)
    have i2 : (0 : Int) < (X.marks.length : Int) := by omega
    have i3 : (A : Int) < (X.marks.length : Int) := by omega
    have i4 : (a0 : Int) ≤ (X.sam.length : Int) := by omega
    have i5 : (bx : Int) ≤ (X.sam.length : Int) := by omega
    have i6 : (X.sam.length : Int) ≤ (xc : Int) := by omega
    have i7 : (a0 : Int) ≤ (xc : Int) := by omega
    have j1 : IntKind.i64.wrap ((Y.marks.length : Int) - 1) = (pN m : Int) := by rw [show (Y.marks.length : Int) - 1 = (pN m : Int) by omega]; exact IntWalk.i64_in _ (by omega)
    have j2 : (0 : Int) < (Y.marks.length : Int) := by omega
    have j3 : (pN m : Int) < (Y.marks.length : Int) := by omega
    have j4 : (a0 : Int) ≤ (Y.sam.length : Int) := by omega
    have j5 : (bY : Int) ≤ (Y.sam.length : Int) := by omega
    have j6 : (Y.sam.length : Int) ≤ (yc : Int) := by omega
    have j7 : (a0 : Int) ≤ (yc : Int) := by omega
    clear hXm hYm hxl
    go_wp2_with fail
    go_cut [181] from 128 (fun b wd => b = .bool false ∧ Hid (Below wq.heap.size wq wd))
    case first =>
      obtain ⟨TX, hTX⟩ : ∃ TX : Addr, (if xc = bx then some (⟨xsb, xso, none⟩ : Addr) else some ⟨xsb, xso + bx, none⟩) = some TX := by
        by_cases h : xc = bx
        · exact ⟨_, if_pos h⟩
        · exact ⟨_, if_neg h⟩
      obtain ⟨TY, hTY⟩ : ∃ TY : Addr, (if yc = bY then some (⟨ysb, yso, none⟩ : Addr) else some ⟨ysb, yso + bY, none⟩) = some TY := by
        by_cases h : yc = bY
        · exact ⟨_, if_pos h⟩
        · exact ⟨_, if_neg h⟩
      rw [hTX] at HA3
      rw [hTY] at HA4
      (refine wp_region_below (by kernel_rfl) (by kernel_rfl) ?_; (repeat (first | go_big_quiet_step ((first | (with_reducible exact toB (fun x => HA1.out _ x.2) _) | (with_reducible exact toB (fun x => HA2.out _ x.2) _) | (with_reducible exact toB (fun x => HA3.out _ x.2) _) | (with_reducible exact toB (fun x => HA4.out _ x.2) _))) | quiet_step ((first | (with_reducible exact toB (fun x => HA1.out _ x.2) _) | (with_reducible exact toB (fun x => HA2.out _ x.2) _) | (with_reducible exact toB (fun x => HA3.out _ x.2) _) | (with_reducible exact toB (fun x => HA4.out _ x.2) _))))); (refine wpQuiet_nil ?_; intro _ hw'; obtain ⟨xq, hw''⟩ := hw'; subst hw''))
      go_wp2_with fail
      go_meet
      case rel => exact ⟨rfl, Lib.hid xq.2⟩
    case rest =>
      clear x0 x1 xk0 xkN y0 y1 yk0 ykN xl xkl yl ykl i1 i2 i3 i4 i5 i6 i7 j1 j2 j3 j4 j5 j6 j7 HA1 HA2 HA3 HA4 HTS HHS
      obtain ⟨rfl, HB10⟩ := hcut
      obtain ⟨wp, hwp⟩ : ∃ wp, wp = wc := ⟨_, rfl⟩
      subst hwp
      have HBP := Lib.hid (bThen HB9.out HB10.out)
      clear HB9 HB10
      obtain ⟨⟨c0, c1, -, -⟩, ⟨x0, x1, -, -⟩, ⟨y0, y1, -, -⟩⟩ := HC.out wp HBP.out
      have cl := cell_lt c0
      have xl := cell_lt x0
      have yl := cell_lt y0
      have HKC : Hid (∀ W, Below wp.heap.size wp W → (W.cell? ⟨w.heap.size, 0, none⟩ = some (.slice (some ⟨sb, so, none⟩) m.sam.length c) ∧ W.cell? ⟨w.heap.size, 1, none⟩ = some (.slice (some ⟨mb, mo, none⟩) m.marks.length cm) ∧ W.cell? ⟨w4.heap.size, 0, none⟩ = some (.slice (some ⟨xsb, xso, none⟩) X.sam.length xc) ∧ W.cell? ⟨w4.heap.size, 1, none⟩ = some (.slice (some ⟨xmb, xmo, none⟩) X.marks.length xd) ∧ W.cell? ⟨w5.heap.size, 0, none⟩ = some (.slice (some ⟨ysb, yso, none⟩) Y.sam.length yc) ∧ W.cell? ⟨w5.heap.size, 1, none⟩ = some (.slice (some ⟨ymb, ymo, none⟩) Y.marks.length yd))) := Lib.hid fun W hB => ⟨keep hB c0, keep hB c1, keep hB x0, keep hB x1, keep hB y0, keep hB y1⟩
      have HPm : Hid (∀ W, Below wp.heap.size wp W → Calls Try.prog 49 #[.agg #[.slice (some ⟨sb, so, none⟩) m.sam.length c, .slice (some ⟨mb, mo, none⟩) m.marks.length cm]] W fun e w' => (∃ r cr, e = .returned (.slice r (pN m) cr) ∧ SliceV w' (.slice r (pN m) cr) 1 WaveAt (pers m)) ∧ Below W.heap.size W w') := Lib.hid fun W hB => Periods_any m _ _ W (HM3.out W (bThen HBP.out hB)).1 HMR.out.1
      have HPX : Hid (∀ W, Below wp.heap.size wp W → Calls Try.prog 49 #[.agg #[.slice (some ⟨xsb, xso, none⟩) X.sam.length xc, .slice (some ⟨xmb, xmo, none⟩) X.marks.length xd]] W fun e w' => (∃ r cr, e = .returned (.slice r A cr) ∧ SliceV w' (.slice r A cr) 1 WaveAt (strL m A)) ∧ Below W.heap.size W w') := Lib.hid fun W hB => by
        have h := Periods_any X _ _ W (HM3.out W (bThen HBP.out hB)).2.1 HXR.out.1
        rw [HXP.out.1, HXP.out.2] at h
        exact h
      have HPY : Hid (∀ W, Below wp.heap.size wp W → Calls Try.prog 49 #[.agg #[.slice (some ⟨ysb, yso, none⟩) Y.sam.length yc, .slice (some ⟨ymb, ymo, none⟩) Y.marks.length yd]] W fun e w' => (∃ r cr, e = .returned (.slice r (pN m) cr) ∧ SliceV w' (.slice r (pN m) cr) 1 WaveAt (traL m nn dd)) ∧ Below W.heap.size W w') := Lib.hid fun W hB => by
        have h := Periods_any Y _ _ W (HM3.out W (bThen HBP.out hB)).2.2 HYR.out.1
        rw [HYP.out.1, HYP.out.2] at h
        exact h
      go_wp2_with fail
      go_cut [17, 18, 19] from 182 (fun p q u we => ∃ (pr qr ur : Option Addr) (pc qc uc : Nat), p = .slice pr (pN m) pc ∧ q = .slice qr A qc ∧ u = .slice ur (pN m) uc ∧ Hid (SliceV we (.slice pr (pN m) pc) 1 WaveAt (pers m) ∧ SliceV we (.slice qr A qc) 1 WaveAt (strL m A) ∧ SliceV we (.slice ur (pN m) uc) 1 WaveAt (traL m nn dd) ∧ Below wp.heap.size wp we))
      case first =>
        go_region_held3 (fun W => (W.cell? ⟨w.heap.size, 0, none⟩ = some (.slice (some ⟨sb, so, none⟩) m.sam.length c) ∧ W.cell? ⟨w.heap.size, 1, none⟩ = some (.slice (some ⟨mb, mo, none⟩) m.marks.length cm) ∧ W.cell? ⟨w4.heap.size, 0, none⟩ = some (.slice (some ⟨xsb, xso, none⟩) X.sam.length xc) ∧ W.cell? ⟨w4.heap.size, 1, none⟩ = some (.slice (some ⟨xmb, xmo, none⟩) X.marks.length xd) ∧ W.cell? ⟨w5.heap.size, 0, none⟩ = some (.slice (some ⟨ysb, yso, none⟩) Y.sam.length yc) ∧ W.cell? ⟨w5.heap.size, 1, none⟩ = some (.slice (some ⟨ymb, ymo, none⟩) Y.marks.length yd))) (((try dsimp only); exact HKC.out _ (by (repeat (first | exact Below.refl _ _ | exact hbU | exact hbQ | exact hbP | refine Below.drew ?_))))) (first
          | (go_at_call 49; (with_reducible refine Calls.mono (HPm.out _ (by first | exact Below.drew (Below.refl _ _))) ?_); rintro e u1 ⟨⟨pr, pc, rfl, hps⟩, hb1⟩; have hbP : Below wp.heap.size wp u1 := bThen (Below.drew (Below.refl _ _)) hb1; have HP1 := Lib.hid hps; clear hps)
          | (go_at_call 49; (with_reducible refine Calls.mono (HPX.out _ (by first | exact hbP)) ?_); rintro e u2 ⟨⟨qr, qc, rfl, hps⟩, hb2⟩; have hbQ : Below wp.heap.size wp u2 := bThen hbP hb2; have HP2 := Lib.hid hps; clear hps)
          | (go_at_call 49; (with_reducible refine Calls.mono (HPY.out _ (by first | exact hbQ)) ?_); rintro e u3 ⟨⟨ur, uc, rfl, hps⟩, hb3⟩; have hbU : Below wp.heap.size wp u3 := bThen hbQ hb3; have HP3 := Lib.hid hps; clear hps))
        all_goals
          go_wp2_with fail
          go_meet
          case rel => exact ⟨pr, qr, ur, pc, qc, uc, rfl, rfl, rfl, Lib.hid ⟨(HP1.out.keep WaveAt.stable hb2).keep WaveAt.stable hb3, HP2.out.keep WaveAt.stable hb3, HP3.out, hbU⟩⟩
      case rest =>
        clear c0 c1 cl x0 x1 xl y0 y1 yl HKC HPm HPX HPY
        obtain ⟨pr, qr, ur, pc, qc, uc, rfl, rfl, rfl, HPQ⟩ := hcut
        obtain ⟨wz, hwz⟩ : ∃ wz, wz = wc := ⟨_, rfl⟩
        subst hwz
        have HWZ := Lib.hid (bThen HBW.out (bThen HBP.out HPQ.out.2.2.2))
        have hlp := pers_len m
        have hlq := strL_len m A
        have hlu := traL_len m nn dd
        obtain ⟨pb, po, rfl, -⟩ := HPQ.out.1.at (fun e => by rw [e] at hlp; simp at hlp; omega)
        obtain ⟨qb, qo, rfl, -⟩ := HPQ.out.2.1.at (fun e => by rw [e] at hlq; simp at hlq; omega)
        obtain ⟨ub, uo, rfl, -⟩ := HPQ.out.2.2.1.at (fun e => by rw [e] at hlu; simp at hlu; omega)
        have HPG : Hid (∀ k, k < pN m → ∃ va vc vn, vn = pL m k ∧ wz.cell? ⟨pb, po + k, none⟩ = some (.slice va vn vc) ∧ SliceV wz (.slice va vn vc) 1 IntAt (per m k)) := Lib.hid fun k hk => by
          obtain ⟨va, vc, h1, h2⟩ := wave_get HPQ.out.1 (j := k) (by rw [hlp]; exact hk)
          rw [pers_get m (by rw [hlp]; exact hk), per_len HMR.out.1 hk] at h1 h2
          exact ⟨va, vc, _, rfl, h1, h2⟩
        have HQG : Hid (∀ k, k < A → ∃ va vc vn, wz.cell? ⟨qb, qo + k, none⟩ = some (.slice va vn vc) ∧ SliceV wz (.slice va vn vc) 1 IntAt (per m (sIx (pN m) A k))) := Lib.hid fun k hk => by
          obtain ⟨va, vc, h1, h2⟩ := wave_get HPQ.out.2.1 (j := k) (by rw [hlq]; exact hk)
          rw [strL_get m A (by rw [hlq]; exact hk)] at h1 h2
          exact ⟨va, vc, _, h1, h2⟩
        have HUG : Hid (∀ k, k < pN m → ∃ va vc, wz.cell? ⟨ub, uo + k, none⟩ = some (.slice va (traN m nn dd k) vc) ∧ SliceV wz (.slice va (traN m nn dd k) vc) 1 IntAt (perL (per m k) (traN m nn dd k))) := Lib.hid fun k hk => by
          obtain ⟨va, vc, h1, h2⟩ := wave_get HPQ.out.2.2.1 (j := k) (by rw [hlu]; exact hk)
          rw [traL_get m nn dd (by rw [hlu]; exact hk), perL_len] at h1 h2
          exact ⟨va, vc, h1, h2⟩
        clear hlp hlq hlu HPQ HM3 HC HV HXR HYR HXL HXP HYP HXH HYH HBW HBP
        have hA6400 : A ≤ 6400 := by omega
        go_wp2_with fail
        go_loopw [20, 21] (fun at_ i wr => ∃ (k j : Nat), j ≤ A ∧ k < pN m ∧ i = .int .i64 j ∧ at_ = .int .i64 k ∧ Hid (j < A → k ≤ sIx (pN m) A j) ∧ Hid (Below wz.heap.size wz wr)) (fun _ i _ => A - (intOf i).toNat)
        case atStart => exact ⟨0, 0, Nat.zero_le _, hN1, rfl, rfl, Lib.hid fun _ => Nat.zero_le _, Lib.hid (Below.refl _ _)⟩
        case round =>
          obtain ⟨k, j, hj, hk, rfl, rfl, HKJ, HBR⟩ := hrel
          by_cases hlt : j < A
          · have e1 : (j : Int) < (A : Int) := by omega
            have hkj := HKJ.out hlt
            have hsx := sIx_lt hN1 hlt
            have HSU := Lib.hid (sIx_mono (pN m) A j)
            obtain ⟨ix, hix⟩ : ∃ ix, ix = sIx (pN m) A j := ⟨_, rfl⟩
            have HIX := Lib.hid hix
            obtain ⟨qva, qvc, qvn, hq1, hq2⟩ := HQG.out j hlt
            rw [← hix] at hkj hsx hq2 HSU
            have HQ2 := Lib.hid hq2
            have HQ1 := Lib.hid hq1
            clear hix hq1 hq2 HKJ
            go_wp2_with fail
            go_loopw [20] (fun at_ wr => ∃ k : Nat, k ≤ ix ∧ at_ = .int .i64 k ∧ Hid (Below wz.heap.size wz wr)) (fun at_ _ => ix - (intOf at_).toNat)
            case atStart => exact ⟨k, hkj, rfl, HBR⟩
            case round =>
              obtain ⟨k, hk, rfl, HBI⟩ := hrel
              obtain ⟨pva, pvc, pvn, -, hp1, hp2⟩ := HPG.out k (by omega)
              have q0 := keep HBI.out HQ1.out
              have p0 := keep HBI.out hp1
              have ql := cell_lt q0
              have pl := cell_lt p0
              have e2 : (k : Int) < (pN m : Int) := by omega
              have e3 : IntKind.i64.wrap ((k : Int) + 1) = (k : Int) + 1 := IntWalk.i64_in _ (by omega)
              have HSA : Hid (∀ W, Below wr.heap.size wr W → Calls Try.prog 31 #[.slice qva qvn qvc, .slice pva pvn pvc] W fun e w' => e = .returned (.bool (decide (per m ix = per m k))) ∧ Below W.heap.size W w') := Lib.hid fun W hB => Same_any _ _ _ _ W (HQ2.out.keep IntAt.stable (bThen HBI.out hB)) (hp2.keep IntAt.stable (bThen HBI.out hB))
              have hdk : decide (per m ix = per m k) = false → k < ix := fun h => by
                have := of_decide_eq_false h
                rcases Nat.lt_or_ge k ix with h1 | h1
                · exact h1
                · obtain rfl : k = ix := by omega
                  exact absurd rfl this
              obtain ⟨dc, hdc⟩ : ∃ dc, dc = decide (per m ix = per m k) := ⟨_, rfl⟩
              rw [← hdc] at HSA hdk
              clear hdc hp1 hp2
              cases dc
              · have hkl := hdk rfl
                clear hdk
                go_wp2_with fail
                refine wp_opaque fun Q2 hQ2 => ?_
                (refine wp_region_below (by kernel_rfl) (by kernel_rfl) ?_; (repeat (first | go_big_quiet_step ((with_reducible exact toB (fun x => HSA.out _ x.2) _)) | quiet_step ((with_reducible exact toB (fun x => HSA.out _ x.2) _)))); (refine wpQuiet_nil ?_; intro _ hw'; obtain ⟨xq, hw''⟩ := hw'; subst hw''))
                refine hQ2 _ _ _ ?_
                have HBX := Lib.hid (bThen HBI.out xq.2)
                generalize xq.val = wx at HBX ⊢
                go_wp2_with fail
                go_roundw
                case rel =>
                  first
                    | exact ⟨k + 1, by omega, by go_num, HBX⟩
                    | ((repeat apply Exists.intro); refine ⟨?_, rfl⟩; exact ⟨k + 1, by omega, by go_num, HBX⟩)
                    | fail
                case measure => simp [intOf]; omega
              · clear hdk
                have e4 : ((k : Int) == (pN m : Int)) = false := by simp; omega
                have e5 : ¬ (k : Int) = (pN m : Int) := by omega
                have e6 : IntKind.i64.wrap ((j : Int) + 1) = (j : Int) + 1 := IntWalk.i64_in _ (by omega)
                go_wp2_with fail
                refine wp_opaque fun Q2 hQ2 => ?_
                (refine wp_region_below (by kernel_rfl) (by kernel_rfl) ?_; (repeat (first | go_big_quiet_step ((with_reducible exact toB (fun x => HSA.out _ x.2) _)) | quiet_step ((with_reducible exact toB (fun x => HSA.out _ x.2) _)))); (refine wpQuiet_nil ?_; intro _ hw'; obtain ⟨xq, hw''⟩ := hw'; subst hw''))
                refine hQ2 _ _ _ ?_
                have HBX := Lib.hid (bThen HBI.out xq.2)
                generalize xq.val = wx at HBX ⊢
                have HKJ2 : Hid (j + 1 < A → k ≤ sIx (pN m) A (j + 1)) := Lib.hid fun _ => by have := HSU.out; omega
                go_wp2_with fail
                go_roundw
                case rel =>
                  first
                    | exact ⟨k, j + 1, by omega, by omega, by go_num, by go_num, HKJ2, HBX⟩
                    | ((repeat apply Exists.intro); refine ⟨?_, rfl⟩; exact ⟨k, j + 1, by omega, by omega, by go_num, by go_num, HKJ2, HBX⟩)
                    | fail
                case measure => simp [intOf]; omega
          · have e1 : ¬ (j : Int) < (A : Int) := by omega
            clear HKJ hlt hj hk
            go_wp2_with fail
            go_loopw [22] (fun i wr => ∃ j : Nat, j ≤ pN m ∧ i = .int .i64 j ∧ Hid (Below wz.heap.size wz wr)) (fun i _ => pN m - (intOf i).toNat)
            case atStart => exact ⟨0, Nat.zero_le _, rfl, HBR⟩
            case round =>
              obtain ⟨j, hj, rfl, HBI⟩ := hrel
              by_cases hlt : j < pN m
              · have e2 : (j : Int) < (pN m : Int) := by omega
                have e6 : IntKind.i64.wrap ((j : Int) + 1) = (j : Int) + 1 := IntWalk.i64_in _ (by omega)
                obtain ⟨uva, uvc, hu1, hu2⟩ := HUG.out j hlt
                obtain ⟨pva, pvc, pvn, hpvn, hp1, hp2⟩ := HPG.out j hlt
                have htn := HTN.out j hlt
                have hpl := HMR.out.1.pL_in hlt
                have HPL := Lib.hid (per_len HMR.out.1 hlt)
                obtain ⟨tn, htn2⟩ : ∃ tn, tn = traN m nn dd j := ⟨_, rfl⟩
                rw [← htn2] at hu1 hu2 htn
                obtain ⟨pvb, pvo, rfl, -⟩ := hp2.at (fun e => by have := HPL.out; rw [e] at this; simp at this; omega)
                rw [← hpvn] at hpl HPL htn
                have HU1 := Lib.hid hu1
                have HU2 := Lib.hid hu2
                have HP1 := Lib.hid hp1
                have HP2 := Lib.hid hp2
                clear hu1 hu2 hp1 hp2 htn2 hpvn
                go_wp2_with fail
                go_loopw [23] (fun z wr => ∃ t : Nat, t ≤ tn ∧ z = .int .i64 t ∧ Hid (Below wz.heap.size wz wr)) (fun z _ => tn - (intOf z).toNat)
                case atStart => exact ⟨0, Nat.zero_le _, rfl, HBI⟩
                case round =>
                  obtain ⟨t, ht, rfl, HBT⟩ := hrel
                  have u0 := keep HBT.out HU1.out
                  have ul := cell_lt u0
                  by_cases htl : t < tn
                  · obtain ⟨uvb, uvo, rfl, huf⟩ := (HU2.out.keep IntAt.stable HBT.out).at (fun e => by have := perL_len (per m j) tn; rw [e] at this; simp at this; omega)
                    have u1 := huf t (by rw [perL_len]; exact htl)
                    unfold IntAt at u1
                    have p0 := keep HBT.out HP1.out
                    have pl := cell_lt p0
                    obtain ⟨mi, hmi⟩ : ∃ mi, mi = min t (pvn - 1) := ⟨_, rfl⟩
                    have p1 : wr.cell? ⟨pvb, pvo + mi, none⟩ = some (.int .i64 ((per m j).getD mi 0)) := by
                      obtain ⟨b', o', he, hf⟩ := (HP2.out.keep IntAt.stable HBT.out).at (fun e => by have := HPL.out; rw [e] at this; simp at this; omega)
                      cases he
                      have h1 := hf mi (by rw [HPL.out]; omega)
                      unfold IntAt at h1
                      rwa [Nat.mul_one, ← gI (by rw [HPL.out]; omega)] at h1
                    have hxx : (perL (per m j) tn)[t]'(by rw [perL_len]; exact htl) = (per m j).getD mi 0 := by
                      rw [← gI (by rw [perL_len]; exact htl), perL_get _ _ htl]
                      unfold hold
                      rw [HPL.out, hmi]
                    rw [hxx, Nat.mul_one] at u1
                    generalize (per m j).getD mi 0 = x at u1 p1
                    have u1l := cell_lt u1
                    have p1l := cell_lt p1
                    have e7 : (t : Int) < (tn : Int) := by omega
                    have e8 : IntKind.i64.wrap ((pvn : Int) - 1) = (pvn : Int) - 1 := IntWalk.i64_in _ (by omega)
                    have hmn : min (t : Int) ((pvn : Int) - 1) = (mi : Int) := by omega
                    have f2 : (mi : Int) < (pvn : Int) := by omega
                    have e9 : IntKind.i64.wrap ((t : Int) + 1) = (t : Int) + 1 := IntWalk.i64_in _ (by omega)
                    clear hmi hxx huf
                    go_wp2_with fail
                    refine wp_opaque fun Q2 hQ2 => ?_
                    (refine wp_region_below (by kernel_rfl) (by kernel_rfl) ?_; (repeat (first | go_big_quiet_step (fail) | quiet_step (fail))); (refine wpQuiet_nil ?_; intro _ hw'; obtain ⟨xq, hw''⟩ := hw'; subst hw''))
                    refine hQ2 _ _ _ ?_
                    have HBX := Lib.hid (bThen HBT.out xq.2)
                    generalize xq.val = wx at HBX ⊢
                    go_wp2_with fail
                    go_roundw
                    case rel =>
                      first
                        | exact ⟨t + 1, by omega, by go_num, HBX⟩
                        | ((repeat apply Exists.intro); refine ⟨?_, rfl⟩; exact ⟨t + 1, by omega, by go_num, HBX⟩)
                        | fail
                    case measure => simp [intOf]; omega
                  · have e7 : ¬ (t : Int) < (tn : Int) := by omega
                    go_wp2_with fail
                    go_roundw
                    case rel =>
                      first
                        | exact ⟨j + 1, by omega, by go_num, HBT⟩
                        | ((repeat apply Exists.intro); refine ⟨?_, rfl⟩; exact ⟨j + 1, by omega, by go_num, HBT⟩)
                        | fail
                    case measure => simp [intOf]; omega
              · have e2 : ¬ (j : Int) < (pN m : Int) := by omega
                go_wp2_with (go_at_call 18; with_reducible refine Calls.mono (HK.out _) ?_; rintro e wk ⟨rfl, hb⟩; have HBK := Lib.hid (bThen HBI.out hb); clear hb)
                go_ret
                exact ⟨rfl, bThen HWZ.out HBK.out⟩
end Go.Proofs.Ytbeeddenidfenaa
