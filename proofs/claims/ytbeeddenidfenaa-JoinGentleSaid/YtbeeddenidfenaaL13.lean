/- The law of smoothing, given the examples. -/
import Derived.Test.YtbeeddenidfenaaH4
import Derived.Test.YtbeeddenidfenaaH5
import Derived.Test.YtbeeddenidfenaaE9
import Derived.Test.YtbeeddenidfenaaF1
set_option linter.unusedSimpArgs false
set_option linter.unusedVariables false
namespace Go.Proofs.Ytbeeddenidfenaa
open Go.RowKit

theorem mkErr_any {m : Mk} (h : mkErr true m ≠ 0) (b : Bool) : mkErr b m = mkErr true m := by
  unfold mkErr at h ⊢
  rw [Bool.true_and] at h ⊢
  rw [chk_one] at h ⊢
  rw [chk_one]
  by_cases h1 : 100000 < (m.sam.length : Int)
  · rw [if_pos h1, if_pos h1]
  · rw [if_neg h1] at h ⊢
    rw [if_neg h1]
    by_cases h2 : marksOk m.marks m.sam.length = true ∧ waveOk m.sam = true
    · rw [if_pos h2] at h; exact absurd rfl h
    · rw [if_neg h2, if_neg (fun e => h2 ⟨by have := e.1; rw [Bool.and_eq_true] at this; exact this.2, e.2⟩)]
theorem mkErr_true {m : Mk} (h : mkErr true m = 0) (b : Bool) : mkErr b m = if b = true then 0 else 2 := by
  cases b
  · unfold mkErr at h ⊢
    rw [chk_one] at h ⊢
    by_cases h1 : 100000 < (m.sam.length : Int)
    · rw [if_pos h1] at h; cases h
    · rw [if_neg h1]; simp
  · simpa using h
theorem mk_right {m : Mk} (h : MkR m) (hs : Sm m.sam) : mkErr true m = 0 := by
  unfold mkErr
  rw [chk_one, if_neg (by have := h.len; omega), if_pos]
  refine ⟨?_, ?_⟩
  · rw [Bool.true_and]
    unfold marksOk
    rw [Bool.and_eq_true]
    refine ⟨?_, by simpa using h.two⟩
    have key : ∀ k, k ≤ m.marks.length → ∀ f : Int, f ≤ (if k < m.marks.length then (mkI m k : Int) else f) → mOk (m.marks.drop k) f m.sam.length = true := by
      intro k
      induction hd : m.marks.length - k generalizing k with
      | zero => intro hk f _; rw [List.drop_of_length_le (by omega)]; rfl
      | succ d ih =>
        intro hk f hf
        have hlt : k < m.marks.length := by omega
        rw [if_pos hlt] at hf
        rw [mOk_drop hlt, h.get hlt, ih (k + 1) (by omega) (by omega), Bool.and_true]
        · simp only [betw, Bool.and_eq_true, decide_eq_true_eq]
          exact ⟨hf, by have := h.le hlt; omega⟩
        · split
          · have := h.lt (i := k) (by unfold pN; omega); omega
          · exact Int.le_refl _
    have := key 0 (Nat.zero_le _) 0 (by split; omega; exact Int.le_refl _)
    rwa [List.drop_zero] at this
  · unfold waveOk
    rw [List.all_eq_true]
    intro x hx
    have := hs x hx
    simp only [samOk, betw, Bool.and_eq_true, decide_eq_true_eq]
    omega
theorem smV_right {m : Mk} {W : Nat} (h : MkR m) (hs : Sm m.sam) : mkErr true (smV m W) = 0 := by
  refine mk_right ?_ ?_
  · have e : (smV m W).sam.length = m.sam.length := smL_len m W
    exact ⟨h.two, by rw [e]; exact h.len, h.many, h.low, fun i hi => by rw [e]; exact h.high i hi, h.grow⟩
  · intro x hx
    simp only [smV, smL, List.mem_map] at hx
    obtain ⟨j, -, rfl⟩ := hx
    exact smF_in (fun j => sm_dflt hs j) W _ _ j
set_option maxRecDepth 10000 in
set_option maxHeartbeats 4000000 in
theorem law13_any (m : Mk) (x : Int) (vs vm : Value) (w : World) (hK : Known) (hv : MkV w vs vm m) (hx : -9223372036854775808 ≤ x ∧ x ≤ 9223372036854775807) :
    Calls Try.prog 13 #[.agg #[vs, vm], .int .i64 x] w fun e w' => e = .returned (.bool true) ∧ Below w.heap.size w w' := by
  have HK : Hid (∀ W, Calls Try.prog 18 #[] W fun e w' => e = .returned (.bool true) ∧ Below W.heap.size W w') := Lib.hid hK
  have HV := Lib.hid (fun W (hB : Below w.heap.size w W) => hv.keep hB)
  have HMG := Lib.hid (fun W (hB : Below w.heap.size w W) => marked_any m vs vm W (HV.out W hB))
  obtain ⟨⟨a, c, rfl, hl, -⟩, ⟨am, cm, rfl, hlm, -⟩⟩ := id hv
  have HB := Lib.hid (bAlloc (Below.refl w.heap.size w) (.cells #[.slice a m.sam.length c, .slice am m.marks.length cm] 24))
  have c0 : (w.alloc (.cells #[.slice a m.sam.length c, .slice am m.marks.length cm] 24)).cell? ⟨w.heap.size, 0, none⟩ = some (.slice a m.sam.length c) := cell_new rfl
  have c1 : (w.alloc (.cells #[.slice a m.sam.length c, .slice am m.marks.length cm] 24)).cell? ⟨w.heap.size, 1, none⟩ = some (.slice am m.marks.length cm) := cell_new rfl
  have cl := cell_lt c0
  clear hv hK
  cases h1 : mkShort m
  · rw [h1] at HMG
    clear HV h1
    go_enter Try.func13, Try.ntmps13
    go_wp2_with (first
      | (go_at_call 40; with_reducible refine Calls.mono (HMG.out _ HB.out) ?_; rintro e w1 ⟨rfl, hb⟩; have HB2 := Lib.hid (bThen HB.out hb); clear hb)
      | (go_at_call 18; with_reducible refine Calls.mono (HK.out _) ?_; rintro e wk ⟨rfl, hb⟩; have HBK := Lib.hid (bThen HB2.out hb); clear hb))
    go_ret
    exact ⟨rfl, HBK.out⟩
  · have hn : m.sam.length ≤ 1000000 := by simp [mkShort, shrt] at h1; omega
    have hmn : m.marks.length ≤ 1000000 := by simp [mkShort] at h1; omega
    rw [h1] at HMG
    obtain ⟨ev, hev⟩ : ∃ ev, ev = mkErr true m := ⟨_, rfl⟩
    have HMA : Hid (∀ W, Below w.heap.size w W → Calls Try.prog 20 #[.agg #[.slice a m.sam.length c, .slice am m.marks.length cm]] W fun e w' => e = .returned (.int .i64 ev) ∧ Below W.heap.size W w') := Lib.hid fun W hB => by
      have h := Marked_any m _ _ W (HV.out W hB) hn
      rwa [← hev] at h
    have HEV := Lib.hid hev
    have HSO : Hid (∀ W, Below w.heap.size w W → Calls Try.prog 50 #[.agg #[.slice a m.sam.length c, .slice am m.marks.length cm], .int .i64 x] W fun e w' => (∃ ra rc qa qc, e = .returned (.tuple #[.agg #[.slice ra (smR m x).sam.length rc, .slice qa (smR m x).marks.length qc], .int .i64 (smE m x)]) ∧ MkV w' (.slice ra (smR m x).sam.length rc) (.slice qa (smR m x).marks.length qc) (smR m x)) ∧ Below W.heap.size W w') := Lib.hid fun W hB => (Smooth_any m x _ _ W (HV.out W hB) hn).mono fun e w' ⟨h, hb⟩ => by
      obtain ⟨rs, rm, rfl, h3, h4⟩ := h
      obtain ⟨ra, rc, rfl, h5⟩ := id h3
      obtain ⟨qa, qc, rfl, h6⟩ := id h4
      exact ⟨⟨ra, rc, qa, qc, rfl, h3, h4⟩, hb⟩
    by_cases hE : smE m x = 0
    · have hbt : betw x 1 1000 = true ∧ mkErr true m = 0 := by
        have h0 : mkErr true m = 0 := Classical.byContradiction fun h => by unfold smE at hE; rw [mkErr_any h] at hE; exact h hE
        refine ⟨?_, h0⟩
        unfold smE at hE
        rw [mkErr_true h0] at hE
        by_cases hb : betw x 1 1000 = true
        · exact hb
        · rw [if_neg hb] at hE; cases hE
      obtain ⟨-, hmr, hsm⟩ := mkErr_ok (r := true) hbt.2
      have hb := hbt.1
      simp only [betw, Bool.and_eq_true, decide_eq_true_eq] at hb
      obtain ⟨W, rfl⟩ : ∃ W : Nat, x = (W : Int) := ⟨x.toNat, by omega⟩
      obtain rfl : ev = 0 := by rw [hev]; exact hbt.2
      have hr : smR m (W : Int) = smV m W := by unfold smR; rw [if_pos hE, Int.toNat_natCast]
      have hsl : (smV m W).sam.length = m.sam.length := smL_len m W
      have hml : (smV m W).marks.length = m.marks.length := rfl
      rw [hE, hr, hsl, hml] at HSO
      have HRS : Hid (∀ X, Below w.heap.size w X → Calls Try.prog 51 #[.agg #[.slice a m.sam.length c, .slice am m.marks.length cm], .int .i64 (W : Int)] X _) := Lib.hid fun X hB => refSmooth_any m W _ _ X (HV.out X hB) hmr hsm (by omega) (by omega)
      have HVA : Hid (∀ X vs vm, MkV X vs vm (smV m W) → Calls Try.prog 19 #[.agg #[vs, vm]] X fun e w' => e = .returned (.bool true) ∧ Below X.heap.size X w') := Lib.hid fun X vs vm h => by
        have h0 := Valid_any (smV m W) vs vm X h (by rw [hsl]; omega)
        rwa [smV_right hmr hsm, decide_eq_true rfl] at h0
      have HSA : Hid (∀ X vs vm us um, MkV X vs vm (smV m W) → MkV X us um (smV m W) → Calls Try.prog 48 #[.agg #[vs, vm], .agg #[us, um]] X fun e w' => e = .returned (.bool true) ∧ Below X.heap.size X w') := Lib.hid fun X vs vm us um h1 h2 => by
        have h0 := SameMarked_any (smV m W) (smV m W) vs vm us um X h1 h2
        rwa [decide_eq_true rfl] at h0
      have t1 : ¬ (W : Int) < 1 := by omega
      have t2 : ¬ 1000 < (W : Int) := by omega
      clear hE hr hev h1 HEV HV hmr hsm hbt hb hsl hml
      go_enter Try.func13, Try.ntmps13
      go_wp2_with (first
        | (go_at_call 40; with_reducible refine Calls.mono (HMG.out _ HB.out) ?_; rintro e w1 ⟨rfl, hb⟩; have HB2 := Lib.hid (bThen HB.out hb); replace c0 := keep hb c0; replace c1 := keep hb c1; replace cl := cell_lt c0; clear hb)
        | (go_at_call 50; with_reducible refine Calls.mono (HSO.out _ HB2.out) ?_; rintro e w2 ⟨⟨ra, rc, qa, qc, rfl, hmv⟩, hb⟩; have HMV := Lib.hid hmv; have HB3 := Lib.hid (bThen HB2.out hb); replace c0 := keep hb c0; replace c1 := keep hb c1; replace cl := cell_lt c0; clear hb hmv)
        | (go_at_call 20; with_reducible refine Calls.mono (HMA.out _ (bAlloc HB3.out _)) ?_; rintro e w3 ⟨rfl, hb⟩; have s0 := keep hb (cell_new (j := 0) rfl); have s1 := keep hb (cell_new (j := 1) rfl); have sl := cell_lt s0; replace c0 := keep (bThen (bAlloc (Below.refl _ _) _) hb) c0; replace c1 := keep (bThen (bAlloc (Below.refl _ _) _) hb) c1; replace cl := cell_lt c0; have HMV2 := Lib.hid ((HMV.out.keep (bAlloc (Below.refl _ _) _)).keep hb); have HB4 := Lib.hid (bThen (bAlloc HB3.out _) hb); clear hb))
      simp only [List.getElem_toArray, List.getElem_cons_zero, List.getElem_cons_succ] at s0 s1
      have HKS : Hid (∀ X, Below w3.heap.size w3 X → (X.cell? ⟨w2.heap.size, 0, none⟩ = some (.slice ra m.sam.length rc) ∧ X.cell? ⟨w2.heap.size, 1, none⟩ = some (.slice qa m.marks.length qc) ∧ X.cell? ⟨w.heap.size, 0, none⟩ = some (.slice a m.sam.length c) ∧ X.cell? ⟨w.heap.size, 1, none⟩ = some (.slice am m.marks.length cm))) := Lib.hid fun X hB => ⟨keep hB s0, keep hB s1, keep hB c0, keep hB c1⟩
      go_region_held3 (fun X => (X.cell? ⟨w2.heap.size, 0, none⟩ = some (.slice ra m.sam.length rc) ∧ X.cell? ⟨w2.heap.size, 1, none⟩ = some (.slice qa m.marks.length qc) ∧ X.cell? ⟨w.heap.size, 0, none⟩ = some (.slice a m.sam.length c) ∧ X.cell? ⟨w.heap.size, 1, none⟩ = some (.slice am m.marks.length cm))) (((try dsimp only); exact HKS.out _ (by (repeat (first | exact Below.refl _ _ | exact hb6 | exact hb7 | exact hb8 | exact hbk | refine Below.drew ?_))))) (first
        | (go_at_call 51; with_reducible refine Calls.mono (HRS.out _ (Below.drew HB4.out)) ?_; rintro e w6 ⟨⟨ua, uc, ta, tc, rfl, hmw⟩, hb⟩; have HMW := Lib.hid hmw; have hb6 : Below w3.heap.size w3 w6 := bThen (Below.drew (Below.refl _ _)) hb; have HMV4 := Lib.hid (HMV2.out.keep hb6); clear hb hmw)
        | (go_at_call 48; with_reducible refine Calls.mono (HSA.out _ _ _ _ _ HMV4.out HMW.out) ?_; rintro e w7 ⟨rfl, hb⟩; have hb7 : Below w3.heap.size w3 w7 := bThen hb6 hb; have HMV5 := Lib.hid (HMV4.out.keep hb); clear hb)
        | (go_at_call 19; with_reducible refine Calls.mono (HVA.out _ _ _ HMV5.out) ?_; rintro e w8 ⟨rfl, hb⟩; have hb8 : Below w3.heap.size w3 w8 := bThen hb7 hb; clear hb)
        | (go_at_call 18; with_reducible refine Calls.mono (HK.out _) ?_; rintro e wk ⟨rfl, hb⟩; have hbk : Below w3.heap.size w3 wk := bThen hb8 hb; have HBK := Lib.hid (bThen HB4.out hbk); clear hb))
      go_wp2_with fail
      go_ret
      exact ⟨rfl, HBK.out⟩
    · have hr : smR m x = ⟨[], []⟩ := by unfold smR; rw [if_neg hE]
      rw [hr] at HSO
      simp only [List.length_nil] at HSO
      have HNO : Hid (∀ W ra rc qa qc, MkV W (.slice ra 0 rc) (.slice qa 0 qc) ⟨[], []⟩ → Calls Try.prog 45 #[.agg #[.slice ra 0 rc, .slice qa 0 qc]] W fun e w' => e = .returned (.bool true) ∧ Below W.heap.size W w') := Lib.hid fun W ra rc qa qc h => none_any ⟨[], []⟩ _ _ W h (by show 0 ≤ 1000000; omega) (by show 0 ≤ 1000000; omega)
      have he : (ev ≠ 0 ∧ smE m x = ev) ∨ (ev = 0 ∧ smE m x = 2 ∧ (x < 1 ∨ (1 ≤ x ∧ 1000 < x))) := by
        by_cases h0 : ev = 0
        · refine .inr ⟨h0, ?_⟩
          unfold smE at hE ⊢
          rw [mkErr_true (by rw [← hev]; exact h0)] at hE ⊢
          by_cases hb : betw x 1 1000 = true
          · rw [if_pos hb] at hE; exact absurd rfl hE
          · rw [if_neg hb]
            simp only [betw, Bool.and_eq_true, decide_eq_true_eq] at hb
            exact ⟨rfl, by omega⟩
        · refine .inl ⟨h0, ?_⟩
          unfold smE
          rw [mkErr_any (by rw [← hev]; exact h0), hev]
      clear hE hr hev h1 HEV HV
      obtain ⟨es, hes⟩ : ∃ es, es = smE m x := ⟨_, rfl⟩
      rw [← hes] at he HSO
      clear hes
      rcases he with ⟨h0, rfl⟩ | ⟨rfl, rfl, h0⟩
      · have hb0 : (es == 0) = false := beq_eq_false_iff_ne.2 h0
        go_enter Try.func13, Try.ntmps13
        go_wp2_with (first
          | (go_at_call 40; with_reducible refine Calls.mono (HMG.out _ HB.out) ?_; rintro e w1 ⟨rfl, hb⟩; have HB2 := Lib.hid (bThen HB.out hb); replace c0 := keep hb c0; replace c1 := keep hb c1; replace cl := cell_lt c0; clear hb)
          | (go_at_call 50; with_reducible refine Calls.mono (HSO.out _ HB2.out) ?_; rintro e w2 ⟨⟨ra, rc, qa, qc, rfl, hmv⟩, hb⟩; have HMV := Lib.hid hmv; have HB3 := Lib.hid (bThen HB2.out hb); replace c0 := keep hb c0; replace c1 := keep hb c1; replace cl := cell_lt c0; clear hb hmv)
          | (go_at_call 20; with_reducible refine Calls.mono (HMA.out _ (bAlloc HB3.out _)) ?_; rintro e w3 ⟨rfl, hb⟩; have s0 := keep hb (cell_new (j := 0) rfl); have s1 := keep hb (cell_new (j := 1) rfl); have sl := cell_lt s0; have HMV2 := Lib.hid ((HMV.out.keep (bAlloc (Below.refl _ _) _)).keep hb); have HB4 := Lib.hid (bThen (bAlloc HB3.out _) hb); clear hb)
          | (go_at_call 45; with_reducible refine Calls.mono (HNO.out _ _ _ _ _ HMV2.out) ?_; rintro e w4 ⟨rfl, hb⟩; have HB5 := Lib.hid (bThen HB4.out hb); clear hb)
          | (go_at_call 18; with_reducible refine Calls.mono (HK.out _) ?_; rintro e wk ⟨rfl, hb⟩; have HBK := Lib.hid (bThen HB5.out hb); clear hb))
        all_goals first
          | (exfalso; omega)
          | (go_ret; exact ⟨rfl, HBK.out⟩)
      · rcases h0 with h0 | ⟨h0, h00⟩
        · go_enter Try.func13, Try.ntmps13
          go_wp2_with (first
            | (go_at_call 40; with_reducible refine Calls.mono (HMG.out _ HB.out) ?_; rintro e w1 ⟨rfl, hb⟩; have HB2 := Lib.hid (bThen HB.out hb); replace c0 := keep hb c0; replace c1 := keep hb c1; replace cl := cell_lt c0; clear hb)
            | (go_at_call 50; with_reducible refine Calls.mono (HSO.out _ HB2.out) ?_; rintro e w2 ⟨⟨ra, rc, qa, qc, rfl, hmv⟩, hb⟩; have HMV := Lib.hid hmv; have HB3 := Lib.hid (bThen HB2.out hb); replace c0 := keep hb c0; replace c1 := keep hb c1; replace cl := cell_lt c0; clear hb hmv)
            | (go_at_call 20; with_reducible refine Calls.mono (HMA.out _ (bAlloc HB3.out _)) ?_; rintro e w3 ⟨rfl, hb⟩; have s0 := keep hb (cell_new (j := 0) rfl); have s1 := keep hb (cell_new (j := 1) rfl); have sl := cell_lt s0; have HMV2 := Lib.hid ((HMV.out.keep (bAlloc (Below.refl _ _) _)).keep hb); have HB4 := Lib.hid (bThen (bAlloc HB3.out _) hb); clear hb)
            | (go_at_call 45; with_reducible refine Calls.mono (HNO.out _ _ _ _ _ HMV2.out) ?_; rintro e w4 ⟨rfl, hb⟩; have HB5 := Lib.hid (bThen HB4.out hb); clear hb)
            | (go_at_call 18; with_reducible refine Calls.mono (HK.out _) ?_; rintro e wk ⟨rfl, hb⟩; have HBK := Lib.hid (bThen HB5.out hb); clear hb))
          all_goals first
            | (exfalso; omega)
            | (go_ret; exact ⟨rfl, HBK.out⟩)
        · have h000 : ¬ x < 1 := by omega
          go_enter Try.func13, Try.ntmps13
          go_wp2_with (first
            | (go_at_call 40; with_reducible refine Calls.mono (HMG.out _ HB.out) ?_; rintro e w1 ⟨rfl, hb⟩; have HB2 := Lib.hid (bThen HB.out hb); replace c0 := keep hb c0; replace c1 := keep hb c1; replace cl := cell_lt c0; clear hb)
            | (go_at_call 50; with_reducible refine Calls.mono (HSO.out _ HB2.out) ?_; rintro e w2 ⟨⟨ra, rc, qa, qc, rfl, hmv⟩, hb⟩; have HMV := Lib.hid hmv; have HB3 := Lib.hid (bThen HB2.out hb); replace c0 := keep hb c0; replace c1 := keep hb c1; replace cl := cell_lt c0; clear hb hmv)
            | (go_at_call 20; with_reducible refine Calls.mono (HMA.out _ (bAlloc HB3.out _)) ?_; rintro e w3 ⟨rfl, hb⟩; have s0 := keep hb (cell_new (j := 0) rfl); have s1 := keep hb (cell_new (j := 1) rfl); have sl := cell_lt s0; have HMV2 := Lib.hid ((HMV.out.keep (bAlloc (Below.refl _ _) _)).keep hb); have HB4 := Lib.hid (bThen (bAlloc HB3.out _) hb); clear hb)
            | (go_at_call 45; with_reducible refine Calls.mono (HNO.out _ _ _ _ _ HMV2.out) ?_; rintro e w4 ⟨rfl, hb⟩; have HB5 := Lib.hid (bThen HB4.out hb); clear hb)
            | (go_at_call 18; with_reducible refine Calls.mono (HK.out _) ?_; rintro e wk ⟨rfl, hb⟩; have HBK := Lib.hid (bThen HB5.out hb); clear hb))
          all_goals first
            | (exfalso; omega)
            | (go_ret; exact ⟨rfl, HBK.out⟩)
end Go.Proofs.Ytbeeddenidfenaa
