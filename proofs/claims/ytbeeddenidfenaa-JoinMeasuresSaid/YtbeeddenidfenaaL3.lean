/- The law of measures, given the examples. -/
import Derived.Test.YtbeeddenidfenaaE9
import Derived.Test.YtbeeddenidfenaaA11
import Derived.Test.YtbeeddenidfenaaF1
set_option linter.unusedSimpArgs false
set_option linter.unusedVariables false
namespace Go.Proofs.Ytbeeddenidfenaa
open Go.RowKit

theorem rtN_le2 (n : Int) : ∀ k, rtN n k ≤ k
  | 0 => Nat.le_refl _
  | k + 1 => by
    rw [rtN]
    split
    · exact Nat.le_refl _
    · have := rtN_le2 n k
      omega
theorem rtN_mono2 {n m : Int} (h : n ≤ m) : ∀ k, rtN n k ≤ rtN m k
  | 0 => Nat.le_refl _
  | k + 1 => by
    have h1 := rtN_le2 n k
    have h2 := rtN_mono2 h k
    rw [rtN, rtN]
    by_cases ha : ((k + 1 : Nat) : Int) * ((k + 1 : Nat) : Int) ≤ n
    · rw [if_pos ha, if_pos (by omega)]; exact Nat.le_refl _
    · rw [if_neg ha]
      by_cases hb : ((k + 1 : Nat) : Int) * ((k + 1 : Nat) : Int) ≤ m
      · rw [if_pos hb]; omega
      · rw [if_neg hb]; exact h2
theorem rt_mono2 {n m : Int} (h : n ≤ m) : rt n ≤ rt m := by
  unfold rt
  have := rtN_mono2 h 32768
  omega
/-- The greatest absolute value. -/
def mxS (m x : Int) : Int := max (max m x) (-x)
def mxA (l : List Int) : Int := l.foldl mxS 0
theorem mxA_snoc (l : List Int) (x : Int) : mxA (l ++ [x]) = mxS (mxA l) x := by simp [mxA, List.foldl_append]
theorem mxS_le (m x : Int) : m ≤ mxS m x ∧ x ≤ mxS m x ∧ -x ≤ mxS m x := by unfold mxS; omega
theorem mxA_ge (l : List Int) (x : Int) (h : x ∈ l) : x ≤ mxA l ∧ -x ≤ mxA l := by
  have key : ∀ (l : List Int) (m : Int), m ≤ l.foldl mxS m ∧ ∀ y ∈ l, y ≤ l.foldl mxS m ∧ -y ≤ l.foldl mxS m := by
    intro l
    induction l with
    | nil => intro m; exact ⟨Int.le_refl _, fun y hy => by simp at hy⟩
    | cons z l ih =>
      intro m
      obtain ⟨h1, h2⟩ := ih (mxS m z)
      obtain ⟨k1, k2, k3⟩ := mxS_le m z
      simp only [List.foldl_cons]
      refine ⟨Int.le_trans k1 h1, fun y hy => ?_⟩
      rcases List.mem_cons.1 hy with rfl | hy
      · exact ⟨Int.le_trans k2 h1, Int.le_trans k3 h1⟩
      · exact h2 y hy
  exact (key l 0).2 x h
theorem mxA_in {l : List Int} (h : Sm l) : 0 ≤ mxA l ∧ mxA l ≤ 32768 := by
  have key : ∀ (l : List Int) (m : Int), (∀ x ∈ l, -32768 ≤ x ∧ x ≤ 32767) → 0 ≤ m → m ≤ 32768 → 0 ≤ l.foldl mxS m ∧ l.foldl mxS m ≤ 32768 := by
    intro l
    induction l with
    | nil => intro m _ h0 h1; exact ⟨h0, h1⟩
    | cons z l ih =>
      intro m hl h0 h1
      have hz := hl z (by simp)
      simp only [List.foldl_cons]
      exact ih (mxS m z) (fun x hx => hl x (by simp [hx])) (by unfold mxS; omega) (by unfold mxS; omega)
  exact key l 0 h (by omega) (by omega)
theorem sq_abs {x M : Int} (h1 : x ≤ M) (h2 : -x ≤ M) : 0 ≤ x * x ∧ x * x ≤ M * M := by
  have h0 : 0 ≤ M := by omega
  constructor
  · rcases Int.le_total 0 x with h | h
    · exact Int.mul_nonneg h h
    · have := Int.mul_nonneg (show 0 ≤ -x by omega) (show 0 ≤ -x by omega)
      rwa [Int.neg_mul_neg] at this
  · rcases Int.le_total 0 x with h | h
    · exact Int.mul_le_mul h1 h1 h h0
    · have := Int.mul_le_mul h2 h2 (show 0 ≤ -x by omega) h0
      rwa [Int.neg_mul_neg] at this
theorem loud_le {l : List Int} (h : Sm l) (h0 : 0 < l.length) : loud l ≤ mxA l := by
  have hm := mxA_in h
  have hs := sqs_in (l := l) (B := mxA l * mxA l) (fun x hx => sq_abs (mxA_ge l x hx).1 (mxA_ge l x hx).2)
  have hd : sqs l / (l.length : Int) ≤ mxA l * mxA l := by
    refine Int.ediv_le_of_le_mul (by omega) ?_
    rw [Int.mul_comm]; exact hs.2
  have h1 := rt_mono2 hd
  obtain ⟨r, hr⟩ : ∃ r : Nat, mxA l = r := ⟨(mxA l).toNat, by omega⟩
  have h2 : rt (mxA l * mxA l) = r := by
    rw [hr]
    refine rt_eq (by omega) (Int.le_refl _) ?_
    rw [Int.natCast_add, Int.natCast_one, Int.add_mul, Int.mul_add, Int.mul_add]
    omega
  unfold loud
  rw [hr, ← h2]; exact h1
theorem chk1_any {x : List Int} (h : chk true [x] ≠ 0) (b : Bool) : chk b [x] = chk true [x] := by
  rw [chk_one] at h ⊢
  rw [chk_one]
  by_cases h1 : 100000 < (x.length : Int)
  · rw [if_pos h1, if_pos h1]
  · rw [if_neg h1] at h ⊢
    rw [if_neg h1]
    by_cases h2 : waveOk x = true
    · rw [if_pos ⟨rfl, h2⟩] at h; exact absurd rfl h
    · rw [if_neg (fun e => h2 e.2), if_neg (fun e => h2 e.2)]
theorem chk1_ok {x : List Int} (h : chk true [x] = 0) : x.length ≤ 100000 ∧ Sm x := by
  rw [chk_one] at h
  by_cases h1 : 100000 < (x.length : Int)
  · rw [if_pos h1] at h; cases h
  · rw [if_neg h1] at h
    by_cases h2 : true = true ∧ waveOk x = true
    · exact ⟨by omega, sm_of h2.2⟩
    · rw [if_neg h2] at h; cases h
theorem chk1_true {x : List Int} (h : chk true [x] = 0) (b : Bool) : chk b [x] = if b = true then 0 else 2 := by
  have h0 := h
  rw [chk_one] at h ⊢
  by_cases h1 : 100000 < (x.length : Int)
  · rw [if_pos h1] at h; cases h
  · rw [if_neg h1] at h ⊢
    by_cases h2 : waveOk x = true
    · cases b <;> simp [h2]
    · rw [if_neg (fun e => h2 e.2)] at h; cases h

set_option maxRecDepth 10000 in
set_option maxHeartbeats 4000000 in
theorem law3_any (m : Mk) (vs vm : Value) (w : World) (hK : Known) (hv : MkV w vs vm m) :
    Calls Try.prog 3 #[.agg #[vs, vm]] w fun e w' => e = .returned (.bool true) ∧ Below w.heap.size w w' := by
  have HK : Hid (∀ W, Calls Try.prog 18 #[] W fun e w' => e = .returned (.bool true) ∧ Below W.heap.size W w') := Lib.hid hK
  have HV := Lib.hid (fun W (hB : Below w.heap.size w W) => hv.keep hB)
  have HSH := Lib.hid (fun W (hB : Below w.heap.size w W) => short_any m.sam vs W (HV.out W hB).1)
  have HST := Lib.hid (fun W (hB : Below w.heap.size w W) => Step_any m.sam vs W (HV.out W hB).1)
  have HLO := Lib.hid (fun W (hB : Below w.heap.size w W) => Loudness_any m.sam vs W (HV.out W hB).1)
  have HWA := Lib.hid (fun W (hB : Below w.heap.size w W) => Wave_any m.sam vs W (HV.out W hB).1)
  obtain ⟨⟨a, c, rfl, hl, -⟩, ⟨am, cm, rfl, hlm, -⟩⟩ := id hv
  unfold most at hl hlm
  have HB := Lib.hid (bAlloc (Below.refl w.heap.size w) (.cells #[.slice a m.sam.length c, .slice am m.marks.length cm] 24))
  have c0 : (w.alloc (.cells #[.slice a m.sam.length c, .slice am m.marks.length cm] 24)).cell? ⟨w.heap.size, 0, none⟩ = some (.slice a m.sam.length c) := cell_new rfl
  have c1 : (w.alloc (.cells #[.slice a m.sam.length c, .slice am m.marks.length cm] 24)).cell? ⟨w.heap.size, 1, none⟩ = some (.slice am m.marks.length cm) := cell_new rfl
  clear hv hK
  cases h1 : shrt m.sam.length
  · rw [h1] at HSH
    clear HST HLO HWA HV c0 c1
    go_enter Try.func3, Try.ntmps3
    go_wp2_with (first
      | (go_at_call 17; with_reducible refine Calls.mono (HSH.out _ HB.out) ?_; rintro e w1 ⟨rfl, rfl⟩)
      | (go_at_call 18; with_reducible refine Calls.mono (HK.out _) ?_; rintro e wk ⟨rfl, hb⟩; have HB2 := Lib.hid (bThen HB.out hb); clear hb))
    go_ret
    exact ⟨rfl, HB2.out⟩
  · rw [h1] at HSH
    by_cases h2 : (500 : Int) < m.marks.length
    · clear HST HLO HWA HV c0 c1
      go_enter Try.func3, Try.ntmps3
      go_wp2_with (first
        | (go_at_call 17; with_reducible refine Calls.mono (HSH.out _ HB.out) ?_; rintro e w1 ⟨rfl, rfl⟩)
        | (go_at_call 18; with_reducible refine Calls.mono (HK.out _) ?_; rintro e wk ⟨rfl, hb⟩; have HB2 := Lib.hid (bThen HB.out hb); clear hb))
      go_ret
      exact ⟨rfl, HB2.out⟩
    · have hn : m.sam.length ≤ 1000000 := by simp [shrt] at h1; omega
      obtain ⟨ev, hev⟩ : ∃ ev, ev = mkErr true m := ⟨_, rfl⟩
      have hva : ∀ W, Below w.heap.size w W → Calls Try.prog 19 #[.agg #[.slice a m.sam.length c, .slice am m.marks.length cm]] W fun e w' => e = .returned (.bool (ev == 0)) ∧ Below W.heap.size W w' := fun W hB => by
        have h := Valid_any m _ _ W (HV.out W hB) hn
        have e : decide (mkErr true m = 0) = (ev == 0) := by rw [hev]; rfl
        rwa [e] at h
      have hma : ∀ W, Below w.heap.size w W → Calls Try.prog 20 #[.agg #[.slice a m.sam.length c, .slice am m.marks.length cm]] W fun e w' => e = .returned (.int .i64 ev) ∧ Below W.heap.size W w' := fun W hB => by
        have h := Marked_any m _ _ W (HV.out W hB) hn
        rwa [← hev] at h
      have HVA := Lib.hid hva
      have HMA := Lib.hid hma
      clear hva hma hev
      have HS2 := Lib.hid h1
      have hlen : m.sam.length ≤ 110000 := by simp [shrt] at h1; omega
      by_cases hc : chk true [m.sam] = 0
      · have hok := chk1_ok hc
        have hfl := chk1_true hc (ldOk m.sam)
        rw [hfl] at HLO
        rw [if_pos hc, hc] at HST
        rw [hc] at HWA
        have HRS := Lib.hid (fun W (hB : Below w.heap.size w W) => refStep_any m.sam _ W (HV.out W hB).1 hok.2 hn)
        by_cases h0 : m.sam.length = 0
        · have hld : ldOk m.sam = false := by unfold ldOk; rw [h0]; rfl
          rw [hld, if_neg (by decide : ¬ false = true), if_neg (by decide : ¬ (2 : Int) = 0)] at HLO
          rw [h0] at HLO HST HWA HRS HSH HVA HMA HB c0 c1 ⊢
          clear hok hfl h1 hc hld h0 HV
          go_enter Try.func3, Try.ntmps3
          go_wp2_with (go_at_call 17; with_reducible refine Calls.mono (HSH.out _ HB.out) ?_; rintro e w1 ⟨rfl, rfl⟩)
          generalize hW1 : World.alloc w _ = W1 at *
          clear hW1
          have hcl := cell_lt c0
          (refine wp_region_below (by kernel_rfl) (by kernel_rfl) ?_; (repeat (first | go_big_quiet_step ((first | (with_reducible exact toB (fun x => HVA.out _ (bThen HB.out x.2)) _) | (with_reducible exact toB (fun x => HMA.out _ (bThen HB.out x.2)) _))) | quiet_step ((first | (with_reducible exact toB (fun x => HVA.out _ (bThen HB.out x.2)) _) | (with_reducible exact toB (fun x => HMA.out _ (bThen HB.out x.2)) _))))); (refine wpQuiet_nil ?_; intro _ hw'; obtain ⟨xq, hw''⟩ := hw'; subst hw''))
          have hb2 := xq.2
          have HB2 := Lib.hid (bThen HB.out hb2)
          replace c0 := keep hb2 c0
          replace c1 := keep hb2 c1
          generalize xq.val = W2 at *
          clear hb2
          replace hcl := cell_lt c0
          go_wp2_with (first
            | (go_at_call 21; with_reducible refine Calls.mono (HST.out _ HB2.out) ?_; rintro e w3 ⟨rfl, hb⟩; have HB3 := Lib.hid (bThen HB2.out hb); replace c0 := keep hb c0; replace c1 := keep hb c1; replace hcl := cell_lt c0; clear hb)
            | (go_at_call 22; with_reducible refine Calls.mono (HLO.out _ HB3.out) ?_; rintro e w4 ⟨rfl, hb⟩; have HB4 := Lib.hid (bThen HB3.out hb); replace c0 := keep hb c0; replace c1 := keep hb c1; replace hcl := cell_lt c0; clear hb)
            | (go_at_call 23; with_reducible refine Calls.mono (HWA.out _ HB4.out) ?_; rintro e w5 ⟨rfl, rfl⟩)
            | (go_at_call 24; with_reducible refine Calls.mono (HRS.out _ HB4.out) ?_; rintro e w6 ⟨rfl, hb⟩; have HB5 := Lib.hid (bThen HB4.out hb); replace c0 := keep hb c0; replace c1 := keep hb c1; replace hcl := cell_lt c0; clear hb)
            | (go_at_call 18; with_reducible refine Calls.mono (HK.out _) ?_; rintro e wk ⟨rfl, hb⟩; have HBK := Lib.hid (bThen HB5.out hb); clear hb))
          go_ret
          exact ⟨rfl, HBK.out⟩
        · have hld : ldOk m.sam = true := by unfold ldOk; exact decide_eq_true (by omega)
          rw [hld, if_pos rfl, if_pos rfl] at HLO
          have HRL := Lib.hid (fun W (hB : Below w.heap.size w W) => refLoud_any m.sam _ W (HV.out W hB).1 hok.2 (by omega) hn)
          have hll := loud_le hok.2 (show 0 < m.sam.length by omega)
          have HSMM := Lib.hid hok.2
          have hsv := (HV.out w (Below.refl _ _)).1
          obtain ⟨sb, so, rfl, -⟩ := hsv.at (by intro e; rw [e] at h0; exact h0 rfl)
          have HSV := Lib.hid hsv
          clear hok hfl h1 hc hld hsv
          obtain ⟨l, hle⟩ : ∃ l, l = m.sam := ⟨_, rfl⟩
          rw [← hle] at HST HLO HWA HRS HRL HSMM HSV HSH HVA HMA h0 hll hl c0 c1 hlen HB ⊢
          clear hle
          have h00 : ((l.length : Int) == 0) = false := by simp; intro e; rw [e] at h0; exact h0 rfl
          clear HV
          go_enter Try.func3, Try.ntmps3
          go_wp2_with (go_at_call 17; with_reducible refine Calls.mono (HSH.out _ HB.out) ?_; rintro e w1 ⟨rfl, rfl⟩)
          generalize hW1 : World.alloc w _ = W1 at *
          clear hW1
          have hcl := cell_lt c0
          (refine wp_region_below (by kernel_rfl) (by kernel_rfl) ?_; (repeat (first | go_big_quiet_step ((first | (with_reducible exact toB (fun x => HVA.out _ (bThen HB.out x.2)) _) | (with_reducible exact toB (fun x => HMA.out _ (bThen HB.out x.2)) _))) | quiet_step ((first | (with_reducible exact toB (fun x => HVA.out _ (bThen HB.out x.2)) _) | (with_reducible exact toB (fun x => HMA.out _ (bThen HB.out x.2)) _))))); (refine wpQuiet_nil ?_; intro _ hw'; obtain ⟨xq, hw''⟩ := hw'; subst hw''))
          have hb2 := xq.2
          have HB2 := Lib.hid (bThen HB.out hb2)
          replace c0 := keep hb2 c0
          replace c1 := keep hb2 c1
          generalize xq.val = W2 at *
          clear hb2
          replace hcl := cell_lt c0
          go_wp2_with (first
            | (go_at_call 21; with_reducible refine Calls.mono (HST.out _ HB2.out) ?_; rintro e w3 ⟨rfl, hb⟩; have HB3 := Lib.hid (bThen HB2.out hb); replace c0 := keep hb c0; replace c1 := keep hb c1; replace hcl := cell_lt c0; clear hb)
            | (go_at_call 22; with_reducible refine Calls.mono (HLO.out _ HB3.out) ?_; rintro e w4 ⟨rfl, hb⟩; have HB4 := Lib.hid (bThen HB3.out hb); replace c0 := keep hb c0; replace c1 := keep hb c1; replace hcl := cell_lt c0; clear hb)
            | (go_at_call 23; with_reducible refine Calls.mono (HWA.out _ HB4.out) ?_; rintro e w5 ⟨rfl, rfl⟩)
            | (go_at_call 24; with_reducible refine Calls.mono (HRS.out _ HB4.out) ?_; rintro e w6 ⟨rfl, hb⟩; have HB5 := Lib.hid (bThen HB4.out hb); replace c0 := keep hb c0; replace c1 := keep hb c1; replace hcl := cell_lt c0; clear hb))
          go_loopw [8, 9] (fun s8 i wr => ∃ k : Nat, k ≤ l.length ∧ i = .int .i64 k ∧ s8 = .int .i64 (mxA (l.take k)) ∧ Hid (Below w.heap.size w wr) ∧ Hid (wr.cell? ⟨w.heap.size, 0, none⟩ = some (.slice (some ⟨sb, so, none⟩) l.length c))) (fun _ i _ => l.length - (intOf i).toNat)
          case atStart => exact ⟨0, Nat.zero_le _, rfl, rfl, HB5, Lib.hid c0⟩
          case round =>
            obtain ⟨k, hk, rfl, rfl, HBR, HCR⟩ := hrel
            have d0 := HCR.out
            have dl := cell_lt d0
            by_cases hlt : k < l.length
            · have k0 := (HSV.out.keep IntAt.stable HBR.out).at (by intro h; rw [h] at hlt; simp at hlt)
              obtain ⟨b', o', he, hf⟩ := k0
              obtain ⟨rfl, rfl⟩ : sb = b' ∧ so = o' := by simpa using he
              have k1 := hf k hlt
              unfold IntAt at k1
              rw [Nat.mul_one] at k1
              have kl := cell_lt k1
              have hp := HSMM.out _ (List.getElem_mem hlt)
              have HT := Lib.hid (show mxA (l.take (k + 1)) = mxS (mxA (l.take k)) l[k] by rw [take_succ l k hlt, mxA_snoc])
              have hmi := mxA_in (l := l.take k) (fun x hx => HSMM.out x (List.mem_of_mem_take hx))
              clear he hf
              generalize l[k] = x at *
              obtain ⟨mo, hmo⟩ : ∃ mo, mo = mxA (l.take k) := ⟨_, rfl⟩
              rw [← hmo] at hmi HT ⊢
              clear hmo
              by_cases q1 : x ≤ mo
              · by_cases q2 : -x ≤ mo
                · rw [show mxS mo x = mo by unfold mxS; omega] at HT
                  go_wp2_with fail
                  refine wp_opaque fun Q2 hQ2 => ?_
                  (refine wp_region_below (by kernel_rfl) (by kernel_rfl) ?_; (repeat (first | go_big_quiet_step (fail) | quiet_step (fail))); (refine wpQuiet_nil ?_; intro _ hw'; obtain ⟨xq, hw''⟩ := hw'; subst hw''))
                  refine hQ2 _ _ _ ?_
                  have hbx := xq.2
                  go_wp2_with fail
                  go_roundw
                  case rel =>
                    first
                      | exact ⟨k + 1, by omega, by go_num, by rw [HT.out], Lib.hid (bThen HBR.out hbx), Lib.hid (keep hbx HCR.out)⟩
                      | ((repeat apply Exists.intro); refine ⟨?_, rfl⟩; exact ⟨k + 1, by omega, by go_num, by rw [HT.out], Lib.hid (bThen HBR.out hbx), Lib.hid (keep hbx HCR.out)⟩)
                      | fail
                  case measure => simp [intOf]; omega
                · rw [show mxS mo x = -x by unfold mxS; omega] at HT
                  go_wp2_with fail
                  refine wp_opaque fun Q2 hQ2 => ?_
                  (refine wp_region_below (by kernel_rfl) (by kernel_rfl) ?_; (repeat (first | go_big_quiet_step (fail) | quiet_step (fail))); (refine wpQuiet_nil ?_; intro _ hw'; obtain ⟨xq, hw''⟩ := hw'; subst hw''))
                  refine hQ2 _ _ _ ?_
                  have hbx := xq.2
                  go_wp2_with fail
                  go_roundw
                  case rel =>
                    first
                      | exact ⟨k + 1, by omega, by go_num, by rw [HT.out], Lib.hid (bThen HBR.out hbx), Lib.hid (keep hbx HCR.out)⟩
                      | ((repeat apply Exists.intro); refine ⟨?_, rfl⟩; exact ⟨k + 1, by omega, by go_num, by rw [HT.out], Lib.hid (bThen HBR.out hbx), Lib.hid (keep hbx HCR.out)⟩)
                      | fail
                  case measure => simp [intOf]; omega
              · by_cases q2 : -x ≤ x
                · rw [show mxS mo x = x by unfold mxS; omega] at HT
                  go_wp2_with fail
                  refine wp_opaque fun Q2 hQ2 => ?_
                  (refine wp_region_below (by kernel_rfl) (by kernel_rfl) ?_; (repeat (first | go_big_quiet_step (fail) | quiet_step (fail))); (refine wpQuiet_nil ?_; intro _ hw'; obtain ⟨xq, hw''⟩ := hw'; subst hw''))
                  refine hQ2 _ _ _ ?_
                  have hbx := xq.2
                  go_wp2_with fail
                  go_roundw
                  case rel =>
                    first
                      | exact ⟨k + 1, by omega, by go_num, by rw [HT.out], Lib.hid (bThen HBR.out hbx), Lib.hid (keep hbx HCR.out)⟩
                      | ((repeat apply Exists.intro); refine ⟨?_, rfl⟩; exact ⟨k + 1, by omega, by go_num, by rw [HT.out], Lib.hid (bThen HBR.out hbx), Lib.hid (keep hbx HCR.out)⟩)
                      | fail
                  case measure => simp [intOf]; omega
                · exfalso; omega
            · obtain rfl : k = l.length := by omega
              rw [List.take_length]
              have HB5 := HBR
              have c0 := d0
              clear d0
              have hcl := dl
              go_wp2_with (first
                | (go_at_call 25; with_reducible refine Calls.mono (HRL.out _ HB5.out) ?_; rintro e w7 ⟨rfl, hb⟩; have HB6 := Lib.hid (bThen HB5.out hb); clear hb)
                | (go_at_call 18; with_reducible refine Calls.mono (HK.out _) ?_; rintro e wk ⟨rfl, hb⟩; have HBK := Lib.hid (bThen HB6.out hb); clear hb))
              go_ret
              exact ⟨rfl, HBK.out⟩
      · have hf := chk1_any hc (ldOk m.sam)
        rw [if_neg hc] at HST
        rw [hf, if_neg hc] at HLO
        obtain ⟨er, her⟩ : ∃ er, er = chk true [m.sam] := ⟨_, rfl⟩
        rw [← her] at HST HLO HWA hc
        have hb0 : (er == 0) = false := beq_eq_false_iff_ne.2 hc
        clear her hf hc h1
        go_enter Try.func3, Try.ntmps3
        go_wp2_with (go_at_call 17; with_reducible refine Calls.mono (HSH.out _ HB.out) ?_; rintro e w1 ⟨rfl, rfl⟩)
        generalize hW1 : World.alloc w _ = W1 at *
        clear hW1
        have hcl := cell_lt c0
        (refine wp_region_below (by kernel_rfl) (by kernel_rfl) ?_; (repeat (first | go_big_quiet_step ((first | (with_reducible exact toB (fun x => HVA.out _ (bThen HB.out x.2)) _) | (with_reducible exact toB (fun x => HMA.out _ (bThen HB.out x.2)) _))) | quiet_step ((first | (with_reducible exact toB (fun x => HVA.out _ (bThen HB.out x.2)) _) | (with_reducible exact toB (fun x => HMA.out _ (bThen HB.out x.2)) _))))); (refine wpQuiet_nil ?_; intro _ hw'; obtain ⟨xq, hw''⟩ := hw'; subst hw''))
        have hb2 := xq.2
        have HB2 := Lib.hid (bThen HB.out hb2)
        replace c0 := keep hb2 c0
        replace c1 := keep hb2 c1
        generalize xq.val = W2 at *
        clear hb2
        replace hcl := cell_lt c0
        go_wp2_with (first
          | (go_at_call 21; with_reducible refine Calls.mono (HST.out _ HB2.out) ?_; rintro e w3 ⟨rfl, hb⟩; have HB3 := Lib.hid (bThen HB2.out hb); replace c0 := keep hb c0; replace c1 := keep hb c1; replace hcl := cell_lt c0; clear hb)
          | (go_at_call 22; with_reducible refine Calls.mono (HLO.out _ HB3.out) ?_; rintro e w4 ⟨rfl, hb⟩; have HB4 := Lib.hid (bThen HB3.out hb); replace c0 := keep hb c0; replace c1 := keep hb c1; replace hcl := cell_lt c0; clear hb)
          | (go_at_call 23; with_reducible refine Calls.mono (HWA.out _ HB4.out) ?_; rintro e w5 ⟨rfl, rfl⟩)
          | (go_at_call 18; with_reducible refine Calls.mono (HK.out _) ?_; rintro e wk ⟨rfl, hb⟩; have HBK := Lib.hid (bThen HB4.out hb); clear hb))
        go_ret
        exact ⟨rfl, HBK.out⟩
end Go.Proofs.Ytbeeddenidfenaa
