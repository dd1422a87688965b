/- The law of sources. -/
import Derived.Test.YtbmbcbknoflpgaaL12a
import Derived.Test.YtbmbcbknoflpgaaA7
import Derived.Test.YtbmbcbknoflpgaaB3
set_option linter.unusedSimpArgs false
set_option linter.unusedVariables false
namespace Go.Proofs.Ytbmbcbknoflpgaa
open Go.RowKit

/-- What Pulses and Noise hand back, in one form. -/
abbrev TwoP (w : World) (PN : Nat) (PE : Int) (PL : List Int) (e : Ending) (w' : World) : Prop :=
  (∃ pa pc, e = .returned (.tuple #[.slice pa PN pc, .int .i64 PE]) ∧ SliceV w' (.slice pa PN pc) 1 IntAt PL) ∧ Below w.heap.size w w'
theorem twoP {P : Program} {f : FuncId} {args : Array Value} {w : World} {PE : Int} {PL : List Int} (h : Calls P f args w fun e w' => (∃ r, e = .returned (.tuple #[r, .int .i64 PE]) ∧ SliceV w' r 1 IntAt PL) ∧ Below w.heap.size w w') (PN : Nat) (hn : PL.length = PN) : Calls P f args w (TwoP w PN PE PL) :=
  h.mono fun e w' ⟨⟨r, he, hs⟩, hb⟩ => by
    obtain ⟨a, c, rfl, h2⟩ := id hs
    rw [hn] at he hs
    exact ⟨⟨a, c, he, hs⟩, hb⟩
set_option maxRecDepth 10000 in
set_option maxHeartbeats 8000000 in
theorem law12_any (l : List Glo) (sd ht n : Int) (v : Value) (w : World) (hk : ∀ w, Calls Try.prog 17 #[] w fun e w' => e = .returned (.bool true) ∧ Below w.heap.size w w') (hv : SliceV w v 4 GloAt l) :
    Calls Try.prog 12 #[v, .int .i64 sd, .int .i64 ht, .int .i64 n] w fun e w' => e = .returned (.bool true) ∧ Below w.heap.size w w' := by
  have HK := Lib.hid hk
  have HST := Lib.hid (refStretches_any l v w hv)
  have HPU0 := Lib.hid (fun W (hB : Below w.heap.size w W) => Pulses_any l v W (hv.keep GloAt.stable hB))
  have HRP0 := Lib.hid (fun (h1 : l.length ≤ 200) (h2 : l.all gloOk = true) (h3 : smp l ≤ 100000) W (hB : Below w.heap.size w W) => refPulses_any l v W (hv.keep GloAt.stable hB) h1 h2 h3)
  have HSI := Lib.hid (fun h => smp_in (l := l) h)
  have HPLL := Lib.hid (fun h => pulL_len (l := l) h)
  obtain ⟨a, c, rfl, hl, -⟩ := hv
  unfold most at hl
  clear hk
  have hL : Hid (strOk l = true → l.length ≤ 200 ∧ l.all gloOk = true) := Lib.hid str_parts
  by_cases e1 : (l.length : Int) > 10 ∧ (l.length : Int) ≤ 200
  · generalize l.length = L at *
    obtain ⟨e11, e12⟩ := e1
    go_enter Try.func12, Try.ntmps12
    go_wp2_with (go_at_call 17; with_reducible refine Calls.mono (HK.out _) ?_; rintro e w1 ⟨rfl, hb⟩; have HB := Lib.hid hb; clear hb)
    all_goals first
      | (exfalso; omega)
      | (go_ret; exact ⟨rfl, HB.out⟩)
  by_cases e1b : (l.length : Int) > 300
  · generalize l.length = L at *
    go_enter Try.func12, Try.ntmps12
    go_wp2_with (go_at_call 17; with_reducible refine Calls.mono (HK.out _) ?_; rintro e w1 ⟨rfl, hb⟩; have HB := Lib.hid hb; clear hb)
    all_goals first
      | (exfalso; omega)
      | (go_ret; exact ⟨rfl, HB.out⟩)
  by_cases e1c : n > 500 ∧ n ≤ 100000
  · generalize l.length = L at *
    obtain ⟨e11, e12⟩ := e1c
    go_enter Try.func12, Try.ntmps12
    go_wp2_with (go_at_call 17; with_reducible refine Calls.mono (HK.out _) ?_; rintro e w1 ⟨rfl, hb⟩; have HB := Lib.hid hb; clear hb)
    all_goals first
      | (exfalso; omega)
      | (go_ret; exact ⟨rfl, HB.out⟩)
  · cases hok : strOk l
    · rw [hok] at HST
      simp only [Bool.false_eq_true, if_false] at HST
      have HPU : Hid (∀ W, Below w.heap.size w W → Calls Try.prog 44 #[.slice a l.length c] W (TwoP W 0 2 [])) := Lib.hid (fun W hB => twoP (by have := HPU0.out W hB; rwa [show pulErr l = 2 by unfold pulErr; rw [hok]; rfl, if_neg (by omega)] at this) 0 rfl)
      clear HPU0 HRP0 hok hL HSI HPLL
      generalize l.length = L at *
      by_cases hno : 0 ≤ sd ∧ sd ≤ 4294967295 ∧ 0 ≤ ht ∧ ht ≤ 500 ∧ 0 ≤ n
      · have hbe : (betw sd 0 4294967295 && betw ht 0 500 && decide (0 ≤ n)) = true := by simp only [Bool.and_eq_true, betw_iff, decide_eq_true_eq]; omega
        by_cases hn5 : 100000 < n
        · have HNO : Hid (∀ W, Calls Try.prog 45 #[.int .i64 sd, .int .i64 ht, .int .i64 n] W (TwoP W 0 4 [])) := Lib.hid (fun W => twoP (by have := Noise_any sd ht n W; rwa [show noiErr sd ht n = 4 by unfold noiErr; rw [if_pos hbe, if_pos hn5], if_neg (by omega)] at this) 0 rfl)
          clear hbe
          go_enter Try.func12, Try.ntmps12
          go_wp2_with (first
            | (go_at_call 43; with_reducible refine Calls.mono HST.out ?_; rintro e w1 ⟨rfl, hb⟩; have HB1 := Lib.hid hb; clear hb)
            | (go_at_call 44; with_reducible refine Calls.mono (HPU.out _ HB1.out) ?_; rintro e w2 ht; obtain ⟨⟨pa, pc, rfl, hs⟩, hb⟩ := ht; have HB2 := Lib.hid (bThen HB1.out hb); have HSP := Lib.hid hs; clear hb hs)
            | (go_at_call 45; with_reducible refine Calls.mono (HNO.out _) ?_; rintro e w3 ht; obtain ⟨⟨na, nc, rfl, hs⟩, hb⟩ := ht; have HB3 := Lib.hid (bThen HB2.out hb); have HSP3 := Lib.hid (HSP.out.keep IntAt.stable hb); have HSN := Lib.hid hs; clear hb hs)
            | (go_at_call 46; with_reducible refine Calls.mono (HRP.out _ HB3.out) ?_; rintro e w4 ⟨⟨r4, rfl, hs4⟩, hb4⟩; have HB4 := Lib.hid (bThen HB3.out hb4); have HSP4 := Lib.hid (HSP3.out.keep IntAt.stable hb4); have HSN4 := Lib.hid (HSN.out.keep IntAt.stable hb4); have hsm := Same_any _ _ _ _ _ HSP4.out hs4; rw [decide_eq_true rfl] at hsm; have HSM := Lib.hid hsm; clear hb4 hs4 hsm)
            | (go_at_call 21; with_reducible refine Calls.mono HSM.out ?_; rintro e w5 ⟨rfl, hb5⟩; have HB5 := Lib.hid (bThen HB4.out hb5); have HSN5 := Lib.hid (HSN4.out.keep IntAt.stable hb5); have hlo := low_any _ _ _ (HSP4.out.keep IntAt.stable hb5) (by have := HPL.out; omega); rw [HPM.out] at hlo; have HLO := Lib.hid hlo; clear hb5 HSM hlo)
            | (go_at_call 47; with_reducible refine Calls.mono HLO.out ?_; rintro e w6 ⟨rfl, hb6⟩; have HB6 := Lib.hid (bThen HB5.out hb6); have HSN6 := Lib.hid (HSN5.out.keep IntAt.stable hb6); clear hb6 HLO)
            | (go_at_call 48; with_reducible refine Calls.mono (HRN.out _) ?_; rintro e w7 ⟨⟨r7, rfl, hs7⟩, hb7⟩; (first | (have HB7 := Lib.hid (bThen HB6.out hb7); have HSN7 := Lib.hid (HSN6.out.keep IntAt.stable hb7)) | (have HB7 := Lib.hid (bThen HB3.out hb7); have HSN7 := Lib.hid (HSN.out.keep IntAt.stable hb7))); have hsm := Same_any _ _ _ _ _ HSN7.out hs7; rw [decide_eq_true rfl] at hsm; have HSN8 := Lib.hid hsm; clear hb7 hs7 hsm)
            | (go_at_call 21; with_reducible refine Calls.mono HSN8.out ?_; rintro e w8 ⟨rfl, hb8⟩; have HB8 := Lib.hid (bThen HB7.out hb8); have hlo := low_any _ _ _ (HSN7.out.keep IntAt.stable hb8) HNL.out; rw [HNM.out] at hlo; have HLN := Lib.hid hlo; clear hb8 HSN8 hlo)
            | (go_at_call 47; with_reducible refine Calls.mono HLN.out ?_; rintro e w9 ⟨rfl, hb9⟩; have HB9 := Lib.hid (bThen HB8.out hb9); clear hb9 HLN)
            | (go_at_call 17; with_reducible refine Calls.mono (HK.out _) ?_; rintro e wk ⟨rfl, hb⟩; have HB := Lib.hid hb; clear hb))
          all_goals first
            | (exfalso; omega)
            | (go_ret; exact ⟨rfl, by first | exact bThen HB9.out HB.out | exact bThen HB6.out HB.out | exact bThen HB3.out HB.out | exact bThen HB1.out HB.out⟩)
        · obtain ⟨m, rfl⟩ : ∃ m : Nat, n = (m : Int) := ⟨n.toNat, by omega⟩
          have HNO : Hid (∀ W, Calls Try.prog 45 #[.int .i64 sd, .int .i64 ht, .int .i64 (m : Int)] W (TwoP W m 0 (noiL sd ht m))) := Lib.hid (fun W => twoP (by have := Noise_any sd ht m W; rwa [show noiErr sd ht m = 0 by unfold noiErr; rw [if_pos hbe, if_neg hn5], if_pos rfl, show ((m : Int)).toNat = m by omega] at this) m (noiL_len _ _ _))
          have HRN := Lib.hid (fun W => refNoise_any sd ht m W (by omega) (by omega) (by omega))
          have HNL : Hid ((noiL sd ht m).length ≤ 1000000) := Lib.hid (by rw [noiL_len]; omega)
          have HNM := Lib.hid (noiL_low (s := sd) (h := ht) (by omega) (by omega) m)
          clear hbe
          go_enter Try.func12, Try.ntmps12
          go_wp2_with (first
            | (go_at_call 43; with_reducible refine Calls.mono HST.out ?_; rintro e w1 ⟨rfl, hb⟩; have HB1 := Lib.hid hb; clear hb)
            | (go_at_call 44; with_reducible refine Calls.mono (HPU.out _ HB1.out) ?_; rintro e w2 ht; obtain ⟨⟨pa, pc, rfl, hs⟩, hb⟩ := ht; have HB2 := Lib.hid (bThen HB1.out hb); have HSP := Lib.hid hs; clear hb hs)
            | (go_at_call 45; with_reducible refine Calls.mono (HNO.out _) ?_; rintro e w3 ht; obtain ⟨⟨na, nc, rfl, hs⟩, hb⟩ := ht; have HB3 := Lib.hid (bThen HB2.out hb); have HSP3 := Lib.hid (HSP.out.keep IntAt.stable hb); have HSN := Lib.hid hs; clear hb hs)
            | (go_at_call 46; with_reducible refine Calls.mono (HRP.out _ HB3.out) ?_; rintro e w4 ⟨⟨r4, rfl, hs4⟩, hb4⟩; have HB4 := Lib.hid (bThen HB3.out hb4); have HSP4 := Lib.hid (HSP3.out.keep IntAt.stable hb4); have HSN4 := Lib.hid (HSN.out.keep IntAt.stable hb4); have hsm := Same_any _ _ _ _ _ HSP4.out hs4; rw [decide_eq_true rfl] at hsm; have HSM := Lib.hid hsm; clear hb4 hs4 hsm)
            | (go_at_call 21; with_reducible refine Calls.mono HSM.out ?_; rintro e w5 ⟨rfl, hb5⟩; have HB5 := Lib.hid (bThen HB4.out hb5); have HSN5 := Lib.hid (HSN4.out.keep IntAt.stable hb5); have hlo := low_any _ _ _ (HSP4.out.keep IntAt.stable hb5) (by have := HPL.out; omega); rw [HPM.out] at hlo; have HLO := Lib.hid hlo; clear hb5 HSM hlo)
            | (go_at_call 47; with_reducible refine Calls.mono HLO.out ?_; rintro e w6 ⟨rfl, hb6⟩; have HB6 := Lib.hid (bThen HB5.out hb6); have HSN6 := Lib.hid (HSN5.out.keep IntAt.stable hb6); clear hb6 HLO)
            | (go_at_call 48; with_reducible refine Calls.mono (HRN.out _) ?_; rintro e w7 ⟨⟨r7, rfl, hs7⟩, hb7⟩; (first | (have HB7 := Lib.hid (bThen HB6.out hb7); have HSN7 := Lib.hid (HSN6.out.keep IntAt.stable hb7)) | (have HB7 := Lib.hid (bThen HB3.out hb7); have HSN7 := Lib.hid (HSN.out.keep IntAt.stable hb7))); have hsm := Same_any _ _ _ _ _ HSN7.out hs7; rw [decide_eq_true rfl] at hsm; have HSN8 := Lib.hid hsm; clear hb7 hs7 hsm)
            | (go_at_call 21; with_reducible refine Calls.mono HSN8.out ?_; rintro e w8 ⟨rfl, hb8⟩; have HB8 := Lib.hid (bThen HB7.out hb8); have hlo := low_any _ _ _ (HSN7.out.keep IntAt.stable hb8) HNL.out; rw [HNM.out] at hlo; have HLN := Lib.hid hlo; clear hb8 HSN8 hlo)
            | (go_at_call 47; with_reducible refine Calls.mono HLN.out ?_; rintro e w9 ⟨rfl, hb9⟩; have HB9 := Lib.hid (bThen HB8.out hb9); clear hb9 HLN)
            | (go_at_call 17; with_reducible refine Calls.mono (HK.out _) ?_; rintro e wk ⟨rfl, hb⟩; have HB := Lib.hid hb; clear hb))
          all_goals first
            | (exfalso; omega)
            | (go_ret; exact ⟨rfl, by first | exact bThen HB9.out HB.out | exact bThen HB6.out HB.out | exact bThen HB3.out HB.out | exact bThen HB1.out HB.out⟩)
      · have hbe : ¬ (betw sd 0 4294967295 && betw ht 0 500 && decide (0 ≤ n)) = true := by simp only [Bool.and_eq_true, betw_iff, decide_eq_true_eq]; omega
        have HNO : Hid (∀ W, Calls Try.prog 45 #[.int .i64 sd, .int .i64 ht, .int .i64 n] W (TwoP W 0 2 [])) := Lib.hid (fun W => twoP (by have := Noise_any sd ht n W; rwa [show noiErr sd ht n = 2 by unfold noiErr; rw [if_neg hbe], if_neg (by omega)] at this) 0 rfl)
        clear hbe
        go_enter Try.func12, Try.ntmps12
        go_wp2_with (first
          | (go_at_call 43; with_reducible refine Calls.mono HST.out ?_; rintro e w1 ⟨rfl, hb⟩; have HB1 := Lib.hid hb; clear hb)
          | (go_at_call 44; with_reducible refine Calls.mono (HPU.out _ HB1.out) ?_; rintro e w2 ht; obtain ⟨⟨pa, pc, rfl, hs⟩, hb⟩ := ht; have HB2 := Lib.hid (bThen HB1.out hb); have HSP := Lib.hid hs; clear hb hs)
          | (go_at_call 45; with_reducible refine Calls.mono (HNO.out _) ?_; rintro e w3 ht; obtain ⟨⟨na, nc, rfl, hs⟩, hb⟩ := ht; have HB3 := Lib.hid (bThen HB2.out hb); have HSP3 := Lib.hid (HSP.out.keep IntAt.stable hb); have HSN := Lib.hid hs; clear hb hs)
          | (go_at_call 46; with_reducible refine Calls.mono (HRP.out _ HB3.out) ?_; rintro e w4 ⟨⟨r4, rfl, hs4⟩, hb4⟩; have HB4 := Lib.hid (bThen HB3.out hb4); have HSP4 := Lib.hid (HSP3.out.keep IntAt.stable hb4); have HSN4 := Lib.hid (HSN.out.keep IntAt.stable hb4); have hsm := Same_any _ _ _ _ _ HSP4.out hs4; rw [decide_eq_true rfl] at hsm; have HSM := Lib.hid hsm; clear hb4 hs4 hsm)
          | (go_at_call 21; with_reducible refine Calls.mono HSM.out ?_; rintro e w5 ⟨rfl, hb5⟩; have HB5 := Lib.hid (bThen HB4.out hb5); have HSN5 := Lib.hid (HSN4.out.keep IntAt.stable hb5); have hlo := low_any _ _ _ (HSP4.out.keep IntAt.stable hb5) (by have := HPL.out; omega); rw [HPM.out] at hlo; have HLO := Lib.hid hlo; clear hb5 HSM hlo)
          | (go_at_call 47; with_reducible refine Calls.mono HLO.out ?_; rintro e w6 ⟨rfl, hb6⟩; have HB6 := Lib.hid (bThen HB5.out hb6); have HSN6 := Lib.hid (HSN5.out.keep IntAt.stable hb6); clear hb6 HLO)
          | (go_at_call 48; with_reducible refine Calls.mono (HRN.out _) ?_; rintro e w7 ⟨⟨r7, rfl, hs7⟩, hb7⟩; (first | (have HB7 := Lib.hid (bThen HB6.out hb7); have HSN7 := Lib.hid (HSN6.out.keep IntAt.stable hb7)) | (have HB7 := Lib.hid (bThen HB3.out hb7); have HSN7 := Lib.hid (HSN.out.keep IntAt.stable hb7))); have hsm := Same_any _ _ _ _ _ HSN7.out hs7; rw [decide_eq_true rfl] at hsm; have HSN8 := Lib.hid hsm; clear hb7 hs7 hsm)
          | (go_at_call 21; with_reducible refine Calls.mono HSN8.out ?_; rintro e w8 ⟨rfl, hb8⟩; have HB8 := Lib.hid (bThen HB7.out hb8); have hlo := low_any _ _ _ (HSN7.out.keep IntAt.stable hb8) HNL.out; rw [HNM.out] at hlo; have HLN := Lib.hid hlo; clear hb8 HSN8 hlo)
          | (go_at_call 47; with_reducible refine Calls.mono HLN.out ?_; rintro e w9 ⟨rfl, hb9⟩; have HB9 := Lib.hid (bThen HB8.out hb9); clear hb9 HLN)
          | (go_at_call 17; with_reducible refine Calls.mono (HK.out _) ?_; rintro e wk ⟨rfl, hb⟩; have HB := Lib.hid hb; clear hb))
        all_goals first
          | (exfalso; omega)
          | (go_ret; exact ⟨rfl, by first | exact bThen HB9.out HB.out | exact bThen HB6.out HB.out | exact bThen HB3.out HB.out | exact bThen HB1.out HB.out⟩)
    · rw [hok] at HST
      simp only [if_true] at HST
      obtain ⟨g1, g2⟩ := hL.out hok
      by_cases e2 : smp l > 3000 ∧ smp l ≤ 100000
      · clear HPU0 HRP0 hok hL HSI HPLL
        obtain ⟨e21, e22⟩ := e2
        generalize l.length = L at *
        generalize smp l = M at *
        go_enter Try.func12, Try.ntmps12
        go_wp2_with (first
          | (go_at_call 43; with_reducible refine Calls.mono HST.out ?_; rintro e w1 ⟨rfl, hb⟩; have HB1 := Lib.hid hb; clear hb)
          | (go_at_call 17; with_reducible refine Calls.mono (HK.out _) ?_; rintro e wk ⟨rfl, hb⟩; have HB := Lib.hid hb; clear hb))
        all_goals first
          | (exfalso; omega)
          | (go_ret; exact ⟨rfl, bThen HB1.out HB.out⟩)
      · by_cases e3 : 100000 < smp l
        · have HPU : Hid (∀ W, Below w.heap.size w W → Calls Try.prog 44 #[.slice a l.length c] W (TwoP W 0 4 [])) := Lib.hid (fun W hB => twoP (by have := HPU0.out W hB; rwa [show pulErr l = 4 by unfold pulErr; rw [hok, if_pos rfl, if_pos e3], if_neg (by omega)] at this) 0 rfl)
          clear HPU0 HRP0 hok hL HSI HPLL e2
          generalize l.length = L at *
          generalize smp l = M at *
          by_cases hno : 0 ≤ sd ∧ sd ≤ 4294967295 ∧ 0 ≤ ht ∧ ht ≤ 500 ∧ 0 ≤ n
          · have hbe : (betw sd 0 4294967295 && betw ht 0 500 && decide (0 ≤ n)) = true := by simp only [Bool.and_eq_true, betw_iff, decide_eq_true_eq]; omega
            by_cases hn5 : 100000 < n
            · have HNO : Hid (∀ W, Calls Try.prog 45 #[.int .i64 sd, .int .i64 ht, .int .i64 n] W (TwoP W 0 4 [])) := Lib.hid (fun W => twoP (by have := Noise_any sd ht n W; rwa [show noiErr sd ht n = 4 by unfold noiErr; rw [if_pos hbe, if_pos hn5], if_neg (by omega)] at this) 0 rfl)
              clear hbe
              go_enter Try.func12, Try.ntmps12
              go_wp2_with (first
                | (go_at_call 43; with_reducible refine Calls.mono HST.out ?_; rintro e w1 ⟨rfl, hb⟩; have HB1 := Lib.hid hb; clear hb)
                | (go_at_call 44; with_reducible refine Calls.mono (HPU.out _ HB1.out) ?_; rintro e w2 ht; obtain ⟨⟨pa, pc, rfl, hs⟩, hb⟩ := ht; have HB2 := Lib.hid (bThen HB1.out hb); have HSP := Lib.hid hs; clear hb hs)
                | (go_at_call 45; with_reducible refine Calls.mono (HNO.out _) ?_; rintro e w3 ht; obtain ⟨⟨na, nc, rfl, hs⟩, hb⟩ := ht; have HB3 := Lib.hid (bThen HB2.out hb); have HSP3 := Lib.hid (HSP.out.keep IntAt.stable hb); have HSN := Lib.hid hs; clear hb hs)
                | (go_at_call 46; with_reducible refine Calls.mono (HRP.out _ HB3.out) ?_; rintro e w4 ⟨⟨r4, rfl, hs4⟩, hb4⟩; have HB4 := Lib.hid (bThen HB3.out hb4); have HSP4 := Lib.hid (HSP3.out.keep IntAt.stable hb4); have HSN4 := Lib.hid (HSN.out.keep IntAt.stable hb4); have hsm := Same_any _ _ _ _ _ HSP4.out hs4; rw [decide_eq_true rfl] at hsm; have HSM := Lib.hid hsm; clear hb4 hs4 hsm)
                | (go_at_call 21; with_reducible refine Calls.mono HSM.out ?_; rintro e w5 ⟨rfl, hb5⟩; have HB5 := Lib.hid (bThen HB4.out hb5); have HSN5 := Lib.hid (HSN4.out.keep IntAt.stable hb5); have hlo := low_any _ _ _ (HSP4.out.keep IntAt.stable hb5) (by have := HPL.out; omega); rw [HPM.out] at hlo; have HLO := Lib.hid hlo; clear hb5 HSM hlo)
                | (go_at_call 47; with_reducible refine Calls.mono HLO.out ?_; rintro e w6 ⟨rfl, hb6⟩; have HB6 := Lib.hid (bThen HB5.out hb6); have HSN6 := Lib.hid (HSN5.out.keep IntAt.stable hb6); clear hb6 HLO)
                | (go_at_call 48; with_reducible refine Calls.mono (HRN.out _) ?_; rintro e w7 ⟨⟨r7, rfl, hs7⟩, hb7⟩; (first | (have HB7 := Lib.hid (bThen HB6.out hb7); have HSN7 := Lib.hid (HSN6.out.keep IntAt.stable hb7)) | (have HB7 := Lib.hid (bThen HB3.out hb7); have HSN7 := Lib.hid (HSN.out.keep IntAt.stable hb7))); have hsm := Same_any _ _ _ _ _ HSN7.out hs7; rw [decide_eq_true rfl] at hsm; have HSN8 := Lib.hid hsm; clear hb7 hs7 hsm)
                | (go_at_call 21; with_reducible refine Calls.mono HSN8.out ?_; rintro e w8 ⟨rfl, hb8⟩; have HB8 := Lib.hid (bThen HB7.out hb8); have hlo := low_any _ _ _ (HSN7.out.keep IntAt.stable hb8) HNL.out; rw [HNM.out] at hlo; have HLN := Lib.hid hlo; clear hb8 HSN8 hlo)
                | (go_at_call 47; with_reducible refine Calls.mono HLN.out ?_; rintro e w9 ⟨rfl, hb9⟩; have HB9 := Lib.hid (bThen HB8.out hb9); clear hb9 HLN)
                | (go_at_call 17; with_reducible refine Calls.mono (HK.out _) ?_; rintro e wk ⟨rfl, hb⟩; have HB := Lib.hid hb; clear hb))
              all_goals first
                | (exfalso; omega)
                | (go_ret; exact ⟨rfl, by first | exact bThen HB9.out HB.out | exact bThen HB6.out HB.out | exact bThen HB3.out HB.out | exact bThen HB1.out HB.out⟩)
            · obtain ⟨m, rfl⟩ : ∃ m : Nat, n = (m : Int) := ⟨n.toNat, by omega⟩
              have HNO : Hid (∀ W, Calls Try.prog 45 #[.int .i64 sd, .int .i64 ht, .int .i64 (m : Int)] W (TwoP W m 0 (noiL sd ht m))) := Lib.hid (fun W => twoP (by have := Noise_any sd ht m W; rwa [show noiErr sd ht m = 0 by unfold noiErr; rw [if_pos hbe, if_neg hn5], if_pos rfl, show ((m : Int)).toNat = m by omega] at this) m (noiL_len _ _ _))
              have HRN := Lib.hid (fun W => refNoise_any sd ht m W (by omega) (by omega) (by omega))
              have HNL : Hid ((noiL sd ht m).length ≤ 1000000) := Lib.hid (by rw [noiL_len]; omega)
              have HNM := Lib.hid (noiL_low (s := sd) (h := ht) (by omega) (by omega) m)
              clear hbe
              go_enter Try.func12, Try.ntmps12
              go_wp2_with (first
                | (go_at_call 43; with_reducible refine Calls.mono HST.out ?_; rintro e w1 ⟨rfl, hb⟩; have HB1 := Lib.hid hb; clear hb)
                | (go_at_call 44; with_reducible refine Calls.mono (HPU.out _ HB1.out) ?_; rintro e w2 ht; obtain ⟨⟨pa, pc, rfl, hs⟩, hb⟩ := ht; have HB2 := Lib.hid (bThen HB1.out hb); have HSP := Lib.hid hs; clear hb hs)
                | (go_at_call 45; with_reducible refine Calls.mono (HNO.out _) ?_; rintro e w3 ht; obtain ⟨⟨na, nc, rfl, hs⟩, hb⟩ := ht; have HB3 := Lib.hid (bThen HB2.out hb); have HSP3 := Lib.hid (HSP.out.keep IntAt.stable hb); have HSN := Lib.hid hs; clear hb hs)
                | (go_at_call 46; with_reducible refine Calls.mono (HRP.out _ HB3.out) ?_; rintro e w4 ⟨⟨r4, rfl, hs4⟩, hb4⟩; have HB4 := Lib.hid (bThen HB3.out hb4); have HSP4 := Lib.hid (HSP3.out.keep IntAt.stable hb4); have HSN4 := Lib.hid (HSN.out.keep IntAt.stable hb4); have hsm := Same_any _ _ _ _ _ HSP4.out hs4; rw [decide_eq_true rfl] at hsm; have HSM := Lib.hid hsm; clear hb4 hs4 hsm)
                | (go_at_call 21; with_reducible refine Calls.mono HSM.out ?_; rintro e w5 ⟨rfl, hb5⟩; have HB5 := Lib.hid (bThen HB4.out hb5); have HSN5 := Lib.hid (HSN4.out.keep IntAt.stable hb5); have hlo := low_any _ _ _ (HSP4.out.keep IntAt.stable hb5) (by have := HPL.out; omega); rw [HPM.out] at hlo; have HLO := Lib.hid hlo; clear hb5 HSM hlo)
                | (go_at_call 47; with_reducible refine Calls.mono HLO.out ?_; rintro e w6 ⟨rfl, hb6⟩; have HB6 := Lib.hid (bThen HB5.out hb6); have HSN6 := Lib.hid (HSN5.out.keep IntAt.stable hb6); clear hb6 HLO)
                | (go_at_call 48; with_reducible refine Calls.mono (HRN.out _) ?_; rintro e w7 ⟨⟨r7, rfl, hs7⟩, hb7⟩; (first | (have HB7 := Lib.hid (bThen HB6.out hb7); have HSN7 := Lib.hid (HSN6.out.keep IntAt.stable hb7)) | (have HB7 := Lib.hid (bThen HB3.out hb7); have HSN7 := Lib.hid (HSN.out.keep IntAt.stable hb7))); have hsm := Same_any _ _ _ _ _ HSN7.out hs7; rw [decide_eq_true rfl] at hsm; have HSN8 := Lib.hid hsm; clear hb7 hs7 hsm)
                | (go_at_call 21; with_reducible refine Calls.mono HSN8.out ?_; rintro e w8 ⟨rfl, hb8⟩; have HB8 := Lib.hid (bThen HB7.out hb8); have hlo := low_any _ _ _ (HSN7.out.keep IntAt.stable hb8) HNL.out; rw [HNM.out] at hlo; have HLN := Lib.hid hlo; clear hb8 HSN8 hlo)
                | (go_at_call 47; with_reducible refine Calls.mono HLN.out ?_; rintro e w9 ⟨rfl, hb9⟩; have HB9 := Lib.hid (bThen HB8.out hb9); clear hb9 HLN)
                | (go_at_call 17; with_reducible refine Calls.mono (HK.out _) ?_; rintro e wk ⟨rfl, hb⟩; have HB := Lib.hid hb; clear hb))
              all_goals first
                | (exfalso; omega)
                | (go_ret; exact ⟨rfl, by first | exact bThen HB9.out HB.out | exact bThen HB6.out HB.out | exact bThen HB3.out HB.out | exact bThen HB1.out HB.out⟩)
          · have hbe : ¬ (betw sd 0 4294967295 && betw ht 0 500 && decide (0 ≤ n)) = true := by simp only [Bool.and_eq_true, betw_iff, decide_eq_true_eq]; omega
            have HNO : Hid (∀ W, Calls Try.prog 45 #[.int .i64 sd, .int .i64 ht, .int .i64 n] W (TwoP W 0 2 [])) := Lib.hid (fun W => twoP (by have := Noise_any sd ht n W; rwa [show noiErr sd ht n = 2 by unfold noiErr; rw [if_neg hbe], if_neg (by omega)] at this) 0 rfl)
            clear hbe
            go_enter Try.func12, Try.ntmps12
            go_wp2_with (first
              | (go_at_call 43; with_reducible refine Calls.mono HST.out ?_; rintro e w1 ⟨rfl, hb⟩; have HB1 := Lib.hid hb; clear hb)
              | (go_at_call 44; with_reducible refine Calls.mono (HPU.out _ HB1.out) ?_; rintro e w2 ht; obtain ⟨⟨pa, pc, rfl, hs⟩, hb⟩ := ht; have HB2 := Lib.hid (bThen HB1.out hb); have HSP := Lib.hid hs; clear hb hs)
              | (go_at_call 45; with_reducible refine Calls.mono (HNO.out _) ?_; rintro e w3 ht; obtain ⟨⟨na, nc, rfl, hs⟩, hb⟩ := ht; have HB3 := Lib.hid (bThen HB2.out hb); have HSP3 := Lib.hid (HSP.out.keep IntAt.stable hb); have HSN := Lib.hid hs; clear hb hs)
              | (go_at_call 46; with_reducible refine Calls.mono (HRP.out _ HB3.out) ?_; rintro e w4 ⟨⟨r4, rfl, hs4⟩, hb4⟩; have HB4 := Lib.hid (bThen HB3.out hb4); have HSP4 := Lib.hid (HSP3.out.keep IntAt.stable hb4); have HSN4 := Lib.hid (HSN.out.keep IntAt.stable hb4); have hsm := Same_any _ _ _ _ _ HSP4.out hs4; rw [decide_eq_true rfl] at hsm; have HSM := Lib.hid hsm; clear hb4 hs4 hsm)
              | (go_at_call 21; with_reducible refine Calls.mono HSM.out ?_; rintro e w5 ⟨rfl, hb5⟩; have HB5 := Lib.hid (bThen HB4.out hb5); have HSN5 := Lib.hid (HSN4.out.keep IntAt.stable hb5); have hlo := low_any _ _ _ (HSP4.out.keep IntAt.stable hb5) (by have := HPL.out; omega); rw [HPM.out] at hlo; have HLO := Lib.hid hlo; clear hb5 HSM hlo)
              | (go_at_call 47; with_reducible refine Calls.mono HLO.out ?_; rintro e w6 ⟨rfl, hb6⟩; have HB6 := Lib.hid (bThen HB5.out hb6); have HSN6 := Lib.hid (HSN5.out.keep IntAt.stable hb6); clear hb6 HLO)
              | (go_at_call 48; with_reducible refine Calls.mono (HRN.out _) ?_; rintro e w7 ⟨⟨r7, rfl, hs7⟩, hb7⟩; (first | (have HB7 := Lib.hid (bThen HB6.out hb7); have HSN7 := Lib.hid (HSN6.out.keep IntAt.stable hb7)) | (have HB7 := Lib.hid (bThen HB3.out hb7); have HSN7 := Lib.hid (HSN.out.keep IntAt.stable hb7))); have hsm := Same_any _ _ _ _ _ HSN7.out hs7; rw [decide_eq_true rfl] at hsm; have HSN8 := Lib.hid hsm; clear hb7 hs7 hsm)
              | (go_at_call 21; with_reducible refine Calls.mono HSN8.out ?_; rintro e w8 ⟨rfl, hb8⟩; have HB8 := Lib.hid (bThen HB7.out hb8); have hlo := low_any _ _ _ (HSN7.out.keep IntAt.stable hb8) HNL.out; rw [HNM.out] at hlo; have HLN := Lib.hid hlo; clear hb8 HSN8 hlo)
              | (go_at_call 47; with_reducible refine Calls.mono HLN.out ?_; rintro e w9 ⟨rfl, hb9⟩; have HB9 := Lib.hid (bThen HB8.out hb9); clear hb9 HLN)
              | (go_at_call 17; with_reducible refine Calls.mono (HK.out _) ?_; rintro e wk ⟨rfl, hb⟩; have HB := Lib.hid hb; clear hb))
            all_goals first
              | (exfalso; omega)
              | (go_ret; exact ⟨rfl, by first | exact bThen HB9.out HB.out | exact bThen HB6.out HB.out | exact bThen HB3.out HB.out | exact bThen HB1.out HB.out⟩)
        · have hpe : pulErr l = 0 := by unfold pulErr; rw [hok, if_pos rfl, if_neg e3]
          have hm : smp l ≤ 3000 := by omega
          have hlen := HPLL.out g2
          have hps : ((pulL l).length : Int) ≤ 3000 := by rw [hlen]; exact hm
          have HPU : Hid (∀ W, Below w.heap.size w W → Calls Try.prog 44 #[.slice a l.length c] W (TwoP W (pulL l).length 0 (pulL l))) := Lib.hid (fun W hB => twoP (by have := HPU0.out W hB; rwa [hpe, if_pos rfl] at this) _ rfl)
          have HRP : Hid (∀ W, Below w.heap.size w W → Calls Try.prog 46 #[.slice a l.length c] W fun e w' => (∃ r, e = .returned r ∧ SliceV w' r 1 IntAt (pulL l)) ∧ Below W.heap.size W w') := Lib.hid (fun W hB => HRP0.out g1 g2 (by omega) W hB)
          have HPL : Hid ((pulL l).length ≤ 1000000) := Lib.hid (by omega)
          have HPM := Lib.hid (pulL_low g2)
          clear HPU0 HRP0 hok hL HSI HPLL e2 hlen hpe
          generalize l.length = L at *
          generalize smp l = M at *
          generalize hPN : (pulL l).length = PN at *
          by_cases hno : 0 ≤ sd ∧ sd ≤ 4294967295 ∧ 0 ≤ ht ∧ ht ≤ 500 ∧ 0 ≤ n
          · have hbe : (betw sd 0 4294967295 && betw ht 0 500 && decide (0 ≤ n)) = true := by simp only [Bool.and_eq_true, betw_iff, decide_eq_true_eq]; omega
            by_cases hn5 : 100000 < n
            · have HNO : Hid (∀ W, Calls Try.prog 45 #[.int .i64 sd, .int .i64 ht, .int .i64 n] W (TwoP W 0 4 [])) := Lib.hid (fun W => twoP (by have := Noise_any sd ht n W; rwa [show noiErr sd ht n = 4 by unfold noiErr; rw [if_pos hbe, if_pos hn5], if_neg (by omega)] at this) 0 rfl)
              clear hbe
              go_enter Try.func12, Try.ntmps12
              go_wp2_with (first
                | (go_at_call 43; with_reducible refine Calls.mono HST.out ?_; rintro e w1 ⟨rfl, hb⟩; have HB1 := Lib.hid hb; clear hb)
                | (go_at_call 44; with_reducible refine Calls.mono (HPU.out _ HB1.out) ?_; rintro e w2 ht; obtain ⟨⟨pa, pc, rfl, hs⟩, hb⟩ := ht; have HB2 := Lib.hid (bThen HB1.out hb); have HSP := Lib.hid hs; clear hb hs)
                | (go_at_call 45; with_reducible refine Calls.mono (HNO.out _) ?_; rintro e w3 ht; obtain ⟨⟨na, nc, rfl, hs⟩, hb⟩ := ht; have HB3 := Lib.hid (bThen HB2.out hb); have HSP3 := Lib.hid (HSP.out.keep IntAt.stable hb); have HSN := Lib.hid hs; clear hb hs)
                | (go_at_call 46; with_reducible refine Calls.mono (HRP.out _ HB3.out) ?_; rintro e w4 ⟨⟨r4, rfl, hs4⟩, hb4⟩; have HB4 := Lib.hid (bThen HB3.out hb4); have HSP4 := Lib.hid (HSP3.out.keep IntAt.stable hb4); have HSN4 := Lib.hid (HSN.out.keep IntAt.stable hb4); have hsm := Same_any _ _ _ _ _ HSP4.out hs4; rw [decide_eq_true rfl] at hsm; have HSM := Lib.hid hsm; clear hb4 hs4 hsm)
                | (go_at_call 21; with_reducible refine Calls.mono HSM.out ?_; rintro e w5 ⟨rfl, hb5⟩; have HB5 := Lib.hid (bThen HB4.out hb5); have HSN5 := Lib.hid (HSN4.out.keep IntAt.stable hb5); have hlo := low_any _ _ _ (HSP4.out.keep IntAt.stable hb5) (by have := HPL.out; omega); rw [HPM.out] at hlo; have HLO := Lib.hid hlo; clear hb5 HSM hlo)
                | (go_at_call 47; with_reducible refine Calls.mono HLO.out ?_; rintro e w6 ⟨rfl, hb6⟩; have HB6 := Lib.hid (bThen HB5.out hb6); have HSN6 := Lib.hid (HSN5.out.keep IntAt.stable hb6); clear hb6 HLO)
                | (go_at_call 48; with_reducible refine Calls.mono (HRN.out _) ?_; rintro e w7 ⟨⟨r7, rfl, hs7⟩, hb7⟩; (first | (have HB7 := Lib.hid (bThen HB6.out hb7); have HSN7 := Lib.hid (HSN6.out.keep IntAt.stable hb7)) | (have HB7 := Lib.hid (bThen HB3.out hb7); have HSN7 := Lib.hid (HSN.out.keep IntAt.stable hb7))); have hsm := Same_any _ _ _ _ _ HSN7.out hs7; rw [decide_eq_true rfl] at hsm; have HSN8 := Lib.hid hsm; clear hb7 hs7 hsm)
                | (go_at_call 21; with_reducible refine Calls.mono HSN8.out ?_; rintro e w8 ⟨rfl, hb8⟩; have HB8 := Lib.hid (bThen HB7.out hb8); have hlo := low_any _ _ _ (HSN7.out.keep IntAt.stable hb8) HNL.out; rw [HNM.out] at hlo; have HLN := Lib.hid hlo; clear hb8 HSN8 hlo)
                | (go_at_call 47; with_reducible refine Calls.mono HLN.out ?_; rintro e w9 ⟨rfl, hb9⟩; have HB9 := Lib.hid (bThen HB8.out hb9); clear hb9 HLN)
                | (go_at_call 17; with_reducible refine Calls.mono (HK.out _) ?_; rintro e wk ⟨rfl, hb⟩; have HB := Lib.hid hb; clear hb))
              all_goals first
                | (exfalso; omega)
                | (go_ret; exact ⟨rfl, by first | exact bThen HB9.out HB.out | exact bThen HB6.out HB.out | exact bThen HB3.out HB.out | exact bThen HB1.out HB.out⟩)
            · obtain ⟨m, rfl⟩ : ∃ m : Nat, n = (m : Int) := ⟨n.toNat, by omega⟩
              have HNO : Hid (∀ W, Calls Try.prog 45 #[.int .i64 sd, .int .i64 ht, .int .i64 (m : Int)] W (TwoP W m 0 (noiL sd ht m))) := Lib.hid (fun W => twoP (by have := Noise_any sd ht m W; rwa [show noiErr sd ht m = 0 by unfold noiErr; rw [if_pos hbe, if_neg hn5], if_pos rfl, show ((m : Int)).toNat = m by omega] at this) m (noiL_len _ _ _))
              have HRN := Lib.hid (fun W => refNoise_any sd ht m W (by omega) (by omega) (by omega))
              have HNL : Hid ((noiL sd ht m).length ≤ 1000000) := Lib.hid (by rw [noiL_len]; omega)
              have HNM := Lib.hid (noiL_low (s := sd) (h := ht) (by omega) (by omega) m)
              clear hbe
              go_enter Try.func12, Try.ntmps12
              go_wp2_with (first
                | (go_at_call 43; with_reducible refine Calls.mono HST.out ?_; rintro e w1 ⟨rfl, hb⟩; have HB1 := Lib.hid hb; clear hb)
                | (go_at_call 44; with_reducible refine Calls.mono (HPU.out _ HB1.out) ?_; rintro e w2 ht; obtain ⟨⟨pa, pc, rfl, hs⟩, hb⟩ := ht; have HB2 := Lib.hid (bThen HB1.out hb); have HSP := Lib.hid hs; clear hb hs)
                | (go_at_call 45; with_reducible refine Calls.mono (HNO.out _) ?_; rintro e w3 ht; obtain ⟨⟨na, nc, rfl, hs⟩, hb⟩ := ht; have HB3 := Lib.hid (bThen HB2.out hb); have HSP3 := Lib.hid (HSP.out.keep IntAt.stable hb); have HSN := Lib.hid hs; clear hb hs)
                | (go_at_call 46; with_reducible refine Calls.mono (HRP.out _ HB3.out) ?_; rintro e w4 ⟨⟨r4, rfl, hs4⟩, hb4⟩; have HB4 := Lib.hid (bThen HB3.out hb4); have HSP4 := Lib.hid (HSP3.out.keep IntAt.stable hb4); have HSN4 := Lib.hid (HSN.out.keep IntAt.stable hb4); have hsm := Same_any _ _ _ _ _ HSP4.out hs4; rw [decide_eq_true rfl] at hsm; have HSM := Lib.hid hsm; clear hb4 hs4 hsm)
                | (go_at_call 21; with_reducible refine Calls.mono HSM.out ?_; rintro e w5 ⟨rfl, hb5⟩; have HB5 := Lib.hid (bThen HB4.out hb5); have HSN5 := Lib.hid (HSN4.out.keep IntAt.stable hb5); have hlo := low_any _ _ _ (HSP4.out.keep IntAt.stable hb5) (by have := HPL.out; omega); rw [HPM.out] at hlo; have HLO := Lib.hid hlo; clear hb5 HSM hlo)
                | (go_at_call 47; with_reducible refine Calls.mono HLO.out ?_; rintro e w6 ⟨rfl, hb6⟩; have HB6 := Lib.hid (bThen HB5.out hb6); have HSN6 := Lib.hid (HSN5.out.keep IntAt.stable hb6); clear hb6 HLO)
                | (go_at_call 48; with_reducible refine Calls.mono (HRN.out _) ?_; rintro e w7 ⟨⟨r7, rfl, hs7⟩, hb7⟩; (first | (have HB7 := Lib.hid (bThen HB6.out hb7); have HSN7 := Lib.hid (HSN6.out.keep IntAt.stable hb7)) | (have HB7 := Lib.hid (bThen HB3.out hb7); have HSN7 := Lib.hid (HSN.out.keep IntAt.stable hb7))); have hsm := Same_any _ _ _ _ _ HSN7.out hs7; rw [decide_eq_true rfl] at hsm; have HSN8 := Lib.hid hsm; clear hb7 hs7 hsm)
                | (go_at_call 21; with_reducible refine Calls.mono HSN8.out ?_; rintro e w8 ⟨rfl, hb8⟩; have HB8 := Lib.hid (bThen HB7.out hb8); have hlo := low_any _ _ _ (HSN7.out.keep IntAt.stable hb8) HNL.out; rw [HNM.out] at hlo; have HLN := Lib.hid hlo; clear hb8 HSN8 hlo)
                | (go_at_call 47; with_reducible refine Calls.mono HLN.out ?_; rintro e w9 ⟨rfl, hb9⟩; have HB9 := Lib.hid (bThen HB8.out hb9); clear hb9 HLN)
                | (go_at_call 17; with_reducible refine Calls.mono (HK.out _) ?_; rintro e wk ⟨rfl, hb⟩; have HB := Lib.hid hb; clear hb))
              all_goals first
                | (exfalso; omega)
                | (go_ret; exact ⟨rfl, by first | exact bThen HB9.out HB.out | exact bThen HB6.out HB.out | exact bThen HB3.out HB.out | exact bThen HB1.out HB.out⟩)
          · have hbe : ¬ (betw sd 0 4294967295 && betw ht 0 500 && decide (0 ≤ n)) = true := by simp only [Bool.and_eq_true, betw_iff, decide_eq_true_eq]; omega
            have HNO : Hid (∀ W, Calls Try.prog 45 #[.int .i64 sd, .int .i64 ht, .int .i64 n] W (TwoP W 0 2 [])) := Lib.hid (fun W => twoP (by have := Noise_any sd ht n W; rwa [show noiErr sd ht n = 2 by unfold noiErr; rw [if_neg hbe], if_neg (by omega)] at this) 0 rfl)
            clear hbe
            go_enter Try.func12, Try.ntmps12
            go_wp2_with (first
              | (go_at_call 43; with_reducible refine Calls.mono HST.out ?_; rintro e w1 ⟨rfl, hb⟩; have HB1 := Lib.hid hb; clear hb)
              | (go_at_call 44; with_reducible refine Calls.mono (HPU.out _ HB1.out) ?_; rintro e w2 ht; obtain ⟨⟨pa, pc, rfl, hs⟩, hb⟩ := ht; have HB2 := Lib.hid (bThen HB1.out hb); have HSP := Lib.hid hs; clear hb hs)
              | (go_at_call 45; with_reducible refine Calls.mono (HNO.out _) ?_; rintro e w3 ht; obtain ⟨⟨na, nc, rfl, hs⟩, hb⟩ := ht; have HB3 := Lib.hid (bThen HB2.out hb); have HSP3 := Lib.hid (HSP.out.keep IntAt.stable hb); have HSN := Lib.hid hs; clear hb hs)
              | (go_at_call 46; with_reducible refine Calls.mono (HRP.out _ HB3.out) ?_; rintro e w4 ⟨⟨r4, rfl, hs4⟩, hb4⟩; have HB4 := Lib.hid (bThen HB3.out hb4); have HSP4 := Lib.hid (HSP3.out.keep IntAt.stable hb4); have HSN4 := Lib.hid (HSN.out.keep IntAt.stable hb4); have hsm := Same_any _ _ _ _ _ HSP4.out hs4; rw [decide_eq_true rfl] at hsm; have HSM := Lib.hid hsm; clear hb4 hs4 hsm)
              | (go_at_call 21; with_reducible refine Calls.mono HSM.out ?_; rintro e w5 ⟨rfl, hb5⟩; have HB5 := Lib.hid (bThen HB4.out hb5); have HSN5 := Lib.hid (HSN4.out.keep IntAt.stable hb5); have hlo := low_any _ _ _ (HSP4.out.keep IntAt.stable hb5) (by have := HPL.out; omega); rw [HPM.out] at hlo; have HLO := Lib.hid hlo; clear hb5 HSM hlo)
              | (go_at_call 47; with_reducible refine Calls.mono HLO.out ?_; rintro e w6 ⟨rfl, hb6⟩; have HB6 := Lib.hid (bThen HB5.out hb6); have HSN6 := Lib.hid (HSN5.out.keep IntAt.stable hb6); clear hb6 HLO)
              | (go_at_call 48; with_reducible refine Calls.mono (HRN.out _) ?_; rintro e w7 ⟨⟨r7, rfl, hs7⟩, hb7⟩; (first | (have HB7 := Lib.hid (bThen HB6.out hb7); have HSN7 := Lib.hid (HSN6.out.keep IntAt.stable hb7)) | (have HB7 := Lib.hid (bThen HB3.out hb7); have HSN7 := Lib.hid (HSN.out.keep IntAt.stable hb7))); have hsm := Same_any _ _ _ _ _ HSN7.out hs7; rw [decide_eq_true rfl] at hsm; have HSN8 := Lib.hid hsm; clear hb7 hs7 hsm)
              | (go_at_call 21; with_reducible refine Calls.mono HSN8.out ?_; rintro e w8 ⟨rfl, hb8⟩; have HB8 := Lib.hid (bThen HB7.out hb8); have hlo := low_any _ _ _ (HSN7.out.keep IntAt.stable hb8) HNL.out; rw [HNM.out] at hlo; have HLN := Lib.hid hlo; clear hb8 HSN8 hlo)
              | (go_at_call 47; with_reducible refine Calls.mono HLN.out ?_; rintro e w9 ⟨rfl, hb9⟩; have HB9 := Lib.hid (bThen HB8.out hb9); clear hb9 HLN)
              | (go_at_call 17; with_reducible refine Calls.mono (HK.out _) ?_; rintro e wk ⟨rfl, hb⟩; have HB := Lib.hid hb; clear hb))
            all_goals first
              | (exfalso; omega)
              | (go_ret; exact ⟨rfl, by first | exact bThen HB9.out HB.out | exact bThen HB6.out HB.out | exact bThen HB3.out HB.out | exact bThen HB1.out HB.out⟩)
end Go.Proofs.Ytbmbcbknoflpgaa
