/- The law of gains, given the chapter's examples. -/
import Derived.Test.YtbeeddenidfenaaF1
import Derived.Test.YtbeeddenidfenaaE3
set_option linter.unusedSimpArgs false
set_option linter.unusedVariables false
namespace Go.Proofs.Ytbeeddenidfenaa
open Go.RowKit

theorem ltop_le2 {l : List Int} {den : Int} {r : Nat} (h : LTop l den r) : r ≤ 1000000 := h.1

theorem chk1_any {x : List Int} (h : chk true [x] ≠ 0) (b : Bool) : chk b [x] = chk true [x] := by
  rw [chk_one] at h ⊢
  rw [chk_one]
  by_cases h1 : 100000 < (x.length : Int)
  · rw [if_pos h1, if_pos h1]
  · rw [if_neg h1] at h ⊢
    rw [if_neg h1]
    by_cases h2 : waveOk x = true
    · rw [if_pos ⟨rfl, h2⟩] at h; exact absurd rfl h
    · rw [if_neg (fun e => h2 e.2), if_neg (fun e => h2 e.2)]
theorem chk1_false {x : List Int} (h : chk true [x] = 0) : chk false [x] = 2 := by
  have h2 := chk_ok h
  rw [chk_one, if_neg (by omega), if_neg (by simp)]
theorem out_gain {f : FuncId} {args : Array Value} {w : World} {l : List Int} {t u : Value} (h : Calls Try.prog f args w fun e w' => (∃ r, e = .returned (.tuple #[r, t, u]) ∧ SliceV w' r 1 IntAt l) ∧ Below w.heap.size w w') :
    Calls Try.prog f args w fun e w' => (∃ ra rc, e = .returned (.tuple #[.slice ra l.length rc, t, u]) ∧ SliceV w' (.slice ra l.length rc) 1 IntAt l) ∧ Below w.heap.size w w' :=
  h.mono fun e w' ⟨⟨r, he, hs⟩, hb⟩ => by
    obtain ⟨ra, rc, rfl, h⟩ := id hs
    exact ⟨⟨ra, rc, he, hs⟩, hb⟩
theorem out_pair {f : FuncId} {args : Array Value} {w : World} {l : List Int} {t : Value} (h : Calls Try.prog f args w fun e w' => (∃ r, e = .returned (.tuple #[r, t]) ∧ SliceV w' r 1 IntAt l) ∧ Below w.heap.size w w') :
    Calls Try.prog f args w fun e w' => (∃ ra rc, e = .returned (.tuple #[.slice ra l.length rc, t]) ∧ SliceV w' (.slice ra l.length rc) 1 IntAt l) ∧ Below w.heap.size w w' :=
  h.mono fun e w' ⟨⟨r, he, hs⟩, hb⟩ => by
    obtain ⟨ra, rc, rfl, h⟩ := id hs
    exact ⟨⟨ra, rc, he, hs⟩, hb⟩
set_option maxRecDepth 10000 in
set_option maxHeartbeats 4000000 in
theorem law15_bad (x : List Int) (num den : Int) (v : Value) (w : World) (hK : Known) (hv : SliceV w v 1 IntAt x) (hn : -9223372036854775808 ≤ num ∧ num ≤ 9223372036854775807) (hd : -9223372036854775808 ≤ den ∧ den ≤ 9223372036854775807) (hbad : shrt x.length = false ∨ chk true [x] ≠ 0 ∨ ¬ (1 ≤ den ∧ den ≤ 1000000)) :
    Calls Try.prog 15 #[v, .int .i64 num, .int .i64 den] w fun e w' => e = .returned (.bool true) ∧ Below w.heap.size w w' := by
  have HK : Hid (∀ W, Calls Try.prog 18 #[] W fun e w' => e = .returned (.bool true) ∧ Below W.heap.size W w') := Lib.hid hK
  have HB := Lib.hid (Below.refl w.heap.size w)
  have HSX := Lib.hid (short_any x v w hv)
  have HV := Lib.hid (fun W (hB : Below w.heap.size w W) => hv.keep IntAt.stable hB)
  have HWA := Lib.hid (fun W (hB : Below w.heap.size w W) => Wave_any x v W (HV.out W hB))
  obtain ⟨a, c, rfl, hl, -⟩ := id hv
  cases h1 : shrt x.length
  · rw [h1] at HSX
    clear hbad hv
    go_enter Try.func15, Try.ntmps15
    go_wp2_with (first
      | (go_at_call 17; with_reducible refine Calls.mono HSX.out ?_; rintro e w1 ⟨rfl, rfl⟩)
      | (go_at_call 52; with_reducible refine Calls.mono (HGA.out _ HB.out) ?_; rintro e w1 ⟨⟨ra, rc, rfl, hs⟩, hb⟩; have HS := Lib.hid hs; replace HB := Lib.hid (bThen HB.out hb); clear hb hs)
      | (go_at_call 53; with_reducible refine Calls.mono (HLO.out _ HB.out) ?_; rintro e w1 ⟨rfl, hb⟩; replace HB := Lib.hid (bThen HB.out hb); clear hb)
      | (go_at_call 23; with_reducible refine Calls.mono (HWA.out _ HB.out) ?_; rintro e w1 ⟨rfl, rfl⟩)
      | (go_at_call 18; with_reducible refine Calls.mono (HK.out _) ?_; rintro e wk ⟨rfl, hb⟩; replace HB := Lib.hid (bThen HB.out hb); clear hb)
      | fail)
    go_ret
    exact ⟨rfl, HB.out⟩
  · rw [h1] at HSX
    by_cases hc : chk true [x] = 0
    · have hdb : ¬ (1 ≤ den ∧ den ≤ 1000000) := by
        rcases hbad with h | h | h
        · rw [h1] at h; cases h
        · exact absurd hc h
        · exact h
      have hbt : betw den 1 1000000 = false := by
        unfold betw
        by_cases h : 1 ≤ den
        · rw [decide_eq_false (show ¬ den ≤ 1000000 from fun e => hdb ⟨h, e⟩), Bool.and_false]
        · rw [decide_eq_false h, Bool.false_and]
      have hgo : gainOk num den = false := by unfold gainOk; rw [hbt, Bool.and_false]
      have hcf := chk1_false hc
      have HGA := Lib.hid (fun W (hB : Below w.heap.size w W) => out_gain (Gain_any x num den (.slice a x.length c) W (HV.out W hB)))
      rw [hgo, hcf, if_neg (by decide), if_neg (by decide), List.length_nil] at HGA
      have HLO : Hid (∀ W, Below w.heap.size w W → Calls Try.prog 53 #[.slice a x.length c, .int .i64 den] W fun e w' => e = .returned (.tuple #[.int .i64 0, .int .i64 2]) ∧ Below W.heap.size W w') := Lib.hid (fun W hB => (Loudest_any x den (.slice a x.length c) W (HV.out W hB)).mono fun e w' ⟨⟨r, he, h0, _⟩, hb⟩ => by
        rw [hbt, hcf] at he h0
        have := h0 (by decide)
        subst this
        exact ⟨he, hb⟩)
      rw [hc] at HWA
      clear hbad hv hc h1 hgo hcf hbt
      by_cases g1 : den < 1
      · go_enter Try.func15, Try.ntmps15
        go_wp2_with (first
          | (go_at_call 17; with_reducible refine Calls.mono HSX.out ?_; rintro e w1 ⟨rfl, rfl⟩)
          | (go_at_call 52; with_reducible refine Calls.mono (HGA.out _ HB.out) ?_; rintro e w1 ⟨⟨ra, rc, rfl, hs⟩, hb⟩; have HS := Lib.hid hs; replace HB := Lib.hid (bThen HB.out hb); clear hb hs)
          | (go_at_call 53; with_reducible refine Calls.mono (HLO.out _ HB.out) ?_; rintro e w1 ⟨rfl, hb⟩; replace HB := Lib.hid (bThen HB.out hb); clear hb)
          | (go_at_call 23; with_reducible refine Calls.mono (HWA.out _ HB.out) ?_; rintro e w1 ⟨rfl, rfl⟩)
          | (go_at_call 18; with_reducible refine Calls.mono (HK.out _) ?_; rintro e wk ⟨rfl, hb⟩; replace HB := Lib.hid (bThen HB.out hb); clear hb)
          | fail)
        go_ret
        exact ⟨rfl, HB.out⟩
      · have g2 : 1000000 < den := by omega
        go_enter Try.func15, Try.ntmps15
        go_wp2_with (first
          | (go_at_call 17; with_reducible refine Calls.mono HSX.out ?_; rintro e w1 ⟨rfl, rfl⟩)
          | (go_at_call 52; with_reducible refine Calls.mono (HGA.out _ HB.out) ?_; rintro e w1 ⟨⟨ra, rc, rfl, hs⟩, hb⟩; have HS := Lib.hid hs; replace HB := Lib.hid (bThen HB.out hb); clear hb hs)
          | (go_at_call 53; with_reducible refine Calls.mono (HLO.out _ HB.out) ?_; rintro e w1 ⟨rfl, hb⟩; replace HB := Lib.hid (bThen HB.out hb); clear hb)
          | (go_at_call 23; with_reducible refine Calls.mono (HWA.out _ HB.out) ?_; rintro e w1 ⟨rfl, rfl⟩)
          | (go_at_call 18; with_reducible refine Calls.mono (HK.out _) ?_; rintro e wk ⟨rfl, hb⟩; replace HB := Lib.hid (bThen HB.out hb); clear hb)
          | fail)
        go_ret
        exact ⟨rfl, HB.out⟩
    · have HGA := Lib.hid (fun W (hB : Below w.heap.size w W) => out_gain (Gain_any x num den (.slice a x.length c) W (HV.out W hB)))
      rw [chk1_any hc, if_neg hc, if_neg hc, List.length_nil] at HGA
      have HLO : Hid (∀ W, Below w.heap.size w W → Calls Try.prog 53 #[.slice a x.length c, .int .i64 den] W fun e w' => e = .returned (.tuple #[.int .i64 0, .int .i64 (chk true [x])]) ∧ Below W.heap.size W w') := Lib.hid (fun W hB => (Loudest_any x den (.slice a x.length c) W (HV.out W hB)).mono fun e w' ⟨⟨r, he, h0, _⟩, hb⟩ => by
        rw [chk1_any hc] at he h0
        have := h0 hc
        subst this
        exact ⟨he, hb⟩)
      obtain ⟨er, her⟩ : ∃ er, er = chk true [x] := ⟨_, rfl⟩
      rw [← her] at HGA HLO HWA hc
      have hb0 : (er == 0) = false := beq_eq_false_iff_ne.2 hc
      clear her hbad hv h1
      go_enter Try.func15, Try.ntmps15
      go_wp2_with (first
        | (go_at_call 17; with_reducible refine Calls.mono HSX.out ?_; rintro e w1 ⟨rfl, rfl⟩)
        | (go_at_call 52; with_reducible refine Calls.mono (HGA.out _ HB.out) ?_; rintro e w1 ⟨⟨ra, rc, rfl, hs⟩, hb⟩; have HS := Lib.hid hs; replace HB := Lib.hid (bThen HB.out hb); clear hb hs)
        | (go_at_call 53; with_reducible refine Calls.mono (HLO.out _ HB.out) ?_; rintro e w1 ⟨rfl, hb⟩; replace HB := Lib.hid (bThen HB.out hb); clear hb)
        | (go_at_call 23; with_reducible refine Calls.mono (HWA.out _ HB.out) ?_; rintro e w1 ⟨rfl, rfl⟩)
        | (go_at_call 18; with_reducible refine Calls.mono (HK.out _) ?_; rintro e wk ⟨rfl, hb⟩; replace HB := Lib.hid (bThen HB.out hb); clear hb)
        | fail)
      go_ret
      exact ⟨rfl, HB.out⟩
set_option maxRecDepth 10000 in
set_option maxHeartbeats 4000000 in
theorem law15_good (x : List Int) (num den : Int) (v : Value) (w : World) (hK : Known) (hv : SliceV w v 1 IntAt x) (hn : -9223372036854775808 ≤ num ∧ num ≤ 9223372036854775807) (h1 : shrt x.length = true) (hc : chk true [x] = 0) (hd : 1 ≤ den ∧ den ≤ 1000000) :
    Calls Try.prog 15 #[v, .int .i64 num, .int .i64 den] w fun e w' => e = .returned (.bool true) ∧ Below w.heap.size w w' := by
  have HK : Hid (∀ W, Calls Try.prog 18 #[] W fun e w' => e = .returned (.bool true) ∧ Below W.heap.size W w') := Lib.hid hK
  have HB := Lib.hid (Below.refl w.heap.size w)
  have HSX := Lib.hid (short_any x v w hv)
  have HV := Lib.hid (fun W (hB : Below w.heap.size w W) => hv.keep IntAt.stable hB)
  have HWA := Lib.hid (fun W (hB : Below w.heap.size w W) => Wave_any x v W (HV.out W hB))
  obtain ⟨a, c, rfl, hl, -⟩ := id hv
  have h2c := chk_ok hc
  have sx := sm_of h2c.2.1
  have hbt : betw den 1 1000000 = true := by unfold betw; rw [decide_eq_true hd.1, decide_eq_true hd.2]; rfl
  have HRG0 : Hid (∀ (k : Int) W, 0 ≤ k → k ≤ 1000001 → Below w.heap.size w W → Calls Try.prog 54 #[.slice a x.length c, .int .i64 k, .int .i64 den] W fun e w' => (∃ ra rc, e = .returned (.tuple #[.slice ra (gainL x k den).length rc, .int .i64 (clips x k den : Nat)]) ∧ SliceV w' (.slice ra (gainL x k den).length rc) 1 IntAt (gainL x k den)) ∧ Below W.heap.size W w') := Lib.hid (fun k W h0 h1 hB => out_pair (refGain_any x k den _ W (HV.out W hB) sx (by omega) h0 h1 hd.1 hd.2))
  have HLO : Hid (∀ W, Below w.heap.size w W → Calls Try.prog 53 #[.slice a x.length c, .int .i64 den] W fun e w' => ((∃ n2 : Nat, e = .returned (.tuple #[.int .i64 1000000, .int .i64 0]) ∧
      (∀ W, Below w.heap.size w W → Calls Try.prog 54 #[.slice a x.length c, .int .i64 1000000, .int .i64 den] W fun e w' => (∃ ra rc, e = .returned (.tuple #[.slice ra x.length rc, .int .i64 0])) ∧ Below W.heap.size W w') ∧
      (∀ W, Below w.heap.size w W → Calls Try.prog 54 #[.slice a x.length c, .int .i64 1000001, .int .i64 den] W fun e w' => (∃ ra rc, e = .returned (.tuple #[.slice ra x.length rc, .int .i64 (n2 : Int)])) ∧ Below W.heap.size W w')) ∨
      (∃ r : Nat, (0 ≤ (r : Int) ∧ (r : Int) ≤ 1000000) ∧ IntKind.i64.wrap ((r : Int) + 1) = (r : Int) + 1 ∧ e = .returned (.tuple #[.int .i64 (r : Int), .int .i64 0]) ∧ ∃ n2 : Nat, ((r : Int) == 1000000) = false ∧ 0 < (n2 : Int) ∧
      (∀ W, Below w.heap.size w W → Calls Try.prog 54 #[.slice a x.length c, .int .i64 (r : Int), .int .i64 den] W fun e w' => (∃ ra rc, e = .returned (.tuple #[.slice ra x.length rc, .int .i64 0])) ∧ Below W.heap.size W w') ∧
      (∀ W, Below w.heap.size w W → Calls Try.prog 54 #[.slice a x.length c, .int .i64 ((r : Int) + 1), .int .i64 den] W fun e w' => (∃ ra rc, e = .returned (.tuple #[.slice ra x.length rc, .int .i64 (n2 : Int)])) ∧ Below W.heap.size W w'))) ∧ Below W.heap.size W w') := Lib.hid (fun W hB => (Loudest_any x den (.slice a x.length c) W (HV.out W hB)).mono fun e w' ⟨⟨r, he, _, h0⟩, hb⟩ => by
    rw [hbt, hc] at he h0
    have ht := h0 rfl
    have hr := ltop_le2 ht
    have k1 : ∀ W, Below w.heap.size w W → Calls Try.prog 54 #[.slice a x.length c, .int .i64 (r : Int), .int .i64 den] W fun e w' => (∃ ra rc, e = .returned (.tuple #[.slice ra x.length rc, .int .i64 0])) ∧ Below W.heap.size W w' := fun W hB => by
      refine (HRG0.out r W (by omega) (by omega) hB).mono fun e w' ⟨⟨ra, rc, he, _⟩, hb⟩ => ⟨⟨ra, rc, ?_⟩, hb⟩
      rw [he, gainL_len, ht.2.1]
      rfl
    have k2 : ∀ W, Below w.heap.size w W → Calls Try.prog 54 #[.slice a x.length c, .int .i64 ((r : Int) + 1), .int .i64 den] W fun e w' => (∃ ra rc, e = .returned (.tuple #[.slice ra x.length rc, .int .i64 (clips x ((r : Int) + 1) den : Nat)])) ∧ Below W.heap.size W w' := fun W hB => by
      refine (HRG0.out ((r : Int) + 1) W (by omega) (by omega) hB).mono fun e w' ⟨⟨ra, rc, he, _⟩, hb⟩ => ⟨⟨ra, rc, ?_⟩, hb⟩
      rw [he, gainL_len]
    refine ⟨?_, hb⟩
    by_cases hz : r = 1000000
    · subst hz
      exact .inl ⟨_, he, k1, k2⟩
    · refine .inr ⟨r, by omega, IntWalk.i64_in _ (by omega), he, _, beq_eq_false_iff_ne.2 (by omega), ?_, k1, k2⟩
      have := (ht.2.2.resolve_left hz) ((r : Int) + 1) (by omega)
      omega)
  have HSM : Hid (∀ W v u, SliceV W v 1 IntAt (gainL x num den) → SliceV W u 1 IntAt (gainL x num den) → Calls Try.prog 31 #[v, u] W fun e w' => e = .returned (.bool true) ∧ Below W.heap.size W w') := Lib.hid (fun W v u hv hu => (Same_any _ _ v u W hv hu).mono fun e w' ⟨he, hb⟩ => ⟨by rw [he, decide_eq_true rfl], hb⟩)
  have HGA0 := Lib.hid (fun W (hB : Below w.heap.size w W) => out_gain (Gain_any x num den (.slice a x.length c) W (HV.out W hB)))
  rw [h1] at HSX
  rw [hc] at HWA
  have hd1 := hd.1
  have hd2 := hd.2
  have d1 : ¬ den < 1 := by omega
  have d2 : ¬ 1000000 < den := by omega
  have hcf := chk1_false hc
  by_cases hnum : 0 ≤ num ∧ num ≤ 1000000
  · have hgo : gainOk num den = true := by unfold gainOk; rw [hbt, Bool.and_true]; unfold betw; rw [decide_eq_true hnum.1, decide_eq_true hnum.2]; rfl
    have HGA := HGA0
    rw [hgo, hc, if_pos rfl, if_pos rfl] at HGA
    have HRG := Lib.hid (fun W hB => HRG0.out num W hnum.1 (by omega) hB)
    have n1 : ¬ num < 0 := by omega
    have n3 : ¬ 1000000 < num := by omega
    obtain ⟨cl, hcl⟩ : ∃ cl, cl = clips x num den := ⟨_, rfl⟩
    rw [← hcl] at HGA HRG
    clear hv hcf hc h1 h2c sx hbt HRG0 HGA0 hgo hcl hd hnum
    go_enter Try.func15, Try.ntmps15
    go_wp2_with (first
      | (go_at_call 17; with_reducible refine Calls.mono HSX.out ?_; rintro e w1 ⟨rfl, rfl⟩)
      | (go_at_call 52; with_reducible refine Calls.mono (HGA.out _ HB.out) ?_; rintro e w1 ⟨⟨ra, rc, rfl, hs⟩, hb⟩; have HS := Lib.hid hs; replace HB := Lib.hid (bThen HB.out hb); clear hb hs)
      | (go_at_call 53; with_reducible refine Calls.mono (HLO.out _ HB.out) ?_; rintro e w2 ⟨(⟨n2, rfl, q1, q3⟩ | ⟨r, hrl, e1, rfl, n2, q2, q4, q1, q3⟩), hb⟩; all_goals (have HR1 := Lib.hid q1; have HR2 := Lib.hid q3; (try have HS2 := Lib.hid (HS.out.keep IntAt.stable hb)); replace HB := Lib.hid (bThen HB.out hb); clear hb q1 q3))
      | (go_at_call 23; with_reducible refine Calls.mono (HWA.out _ HB.out) ?_; rintro e w3 ⟨rfl, rfl⟩)
      | (go_at_call 54; with_reducible refine Calls.mono (HR1.out _ HB.out) ?_; rintro e w5 ⟨⟨ka, kc, rfl⟩, hb⟩; replace HB := Lib.hid (bThen HB.out hb); clear hb)
      | (go_at_call 54; with_reducible refine Calls.mono (HR2.out _ HB.out) ?_; rintro e w6 ⟨⟨la, lc, rfl⟩, hb⟩; replace HB := Lib.hid (bThen HB.out hb); clear hb)
      | (go_at_call 54; with_reducible refine Calls.mono (HRG.out _ HB.out) ?_; rintro e w4 ⟨⟨ja, jc, rfl, hs⟩, hb⟩; have HS4 := Lib.hid hs; have HS3 := Lib.hid (HS2.out.keep IntAt.stable hb); replace HB := Lib.hid (bThen HB.out hb); clear hb hs)
      | (go_at_call 31; with_reducible refine Calls.mono (HSM.out _ _ _ HS3.out HS4.out) ?_; rintro e w7 ⟨rfl, hb⟩; replace HB := Lib.hid (bThen HB.out hb); clear hb)
      | (go_at_call 18; with_reducible refine Calls.mono (HK.out _) ?_; rintro e wk ⟨rfl, hb⟩; replace HB := Lib.hid (bThen HB.out hb); clear hb)
      | fail)
    all_goals first
      | (exfalso; omega)
      | (go_ret; exact ⟨rfl, HB.out⟩)
      | fail
  · have hgo : gainOk num den = false := by
      unfold gainOk betw
      by_cases h : 0 ≤ num
      · rw [decide_eq_false (show ¬ num ≤ 1000000 from fun e => hnum ⟨h, e⟩)]; simp
      · rw [decide_eq_false h]; simp
    have HGA := HGA0
    rw [hgo, hcf, if_neg (by decide), if_neg (by decide), List.length_nil] at HGA
    clear hv hcf hc h1 h2c sx hbt HRG0 HGA0 hgo hd
    by_cases n1 : num < 0
    · clear hnum
      go_enter Try.func15, Try.ntmps15
      go_wp2_with (first
        | (go_at_call 17; with_reducible refine Calls.mono HSX.out ?_; rintro e w1 ⟨rfl, rfl⟩)
        | (go_at_call 52; with_reducible refine Calls.mono (HGA.out _ HB.out) ?_; rintro e w1 ⟨⟨ra, rc, rfl, hs⟩, hb⟩; have HS := Lib.hid hs; replace HB := Lib.hid (bThen HB.out hb); clear hb hs)
        | (go_at_call 53; with_reducible refine Calls.mono (HLO.out _ HB.out) ?_; rintro e w2 ⟨(⟨n2, rfl, q1, q3⟩ | ⟨r, hrl, e1, rfl, n2, q2, q4, q1, q3⟩), hb⟩; all_goals (have HR1 := Lib.hid q1; have HR2 := Lib.hid q3; (try have HS2 := Lib.hid (HS.out.keep IntAt.stable hb)); replace HB := Lib.hid (bThen HB.out hb); clear hb q1 q3))
        | (go_at_call 23; with_reducible refine Calls.mono (HWA.out _ HB.out) ?_; rintro e w3 ⟨rfl, rfl⟩)
        | (go_at_call 54; with_reducible refine Calls.mono (HR1.out _ HB.out) ?_; rintro e w5 ⟨⟨ka, kc, rfl⟩, hb⟩; replace HB := Lib.hid (bThen HB.out hb); clear hb)
        | (go_at_call 54; with_reducible refine Calls.mono (HR2.out _ HB.out) ?_; rintro e w6 ⟨⟨la, lc, rfl⟩, hb⟩; replace HB := Lib.hid (bThen HB.out hb); clear hb)
        | (go_at_call 54; with_reducible refine Calls.mono (HRG.out _ HB.out) ?_; rintro e w4 ⟨⟨ja, jc, rfl, hs⟩, hb⟩; have HS4 := Lib.hid hs; have HS3 := Lib.hid (HS2.out.keep IntAt.stable hb); replace HB := Lib.hid (bThen HB.out hb); clear hb hs)
        | (go_at_call 31; with_reducible refine Calls.mono (HSM.out _ _ _ HS3.out HS4.out) ?_; rintro e w7 ⟨rfl, hb⟩; replace HB := Lib.hid (bThen HB.out hb); clear hb)
        | (go_at_call 18; with_reducible refine Calls.mono (HK.out _) ?_; rintro e wk ⟨rfl, hb⟩; replace HB := Lib.hid (bThen HB.out hb); clear hb)
        | fail)
      all_goals first
        | (exfalso; omega)
        | (go_ret; exact ⟨rfl, HB.out⟩)
        | fail
    · have n3 : 1000000 < num := by omega
      clear hnum
      go_enter Try.func15, Try.ntmps15
      go_wp2_with (first
        | (go_at_call 17; with_reducible refine Calls.mono HSX.out ?_; rintro e w1 ⟨rfl, rfl⟩)
        | (go_at_call 52; with_reducible refine Calls.mono (HGA.out _ HB.out) ?_; rintro e w1 ⟨⟨ra, rc, rfl, hs⟩, hb⟩; have HS := Lib.hid hs; replace HB := Lib.hid (bThen HB.out hb); clear hb hs)
        | (go_at_call 53; with_reducible refine Calls.mono (HLO.out _ HB.out) ?_; rintro e w2 ⟨(⟨n2, rfl, q1, q3⟩ | ⟨r, hrl, e1, rfl, n2, q2, q4, q1, q3⟩), hb⟩; all_goals (have HR1 := Lib.hid q1; have HR2 := Lib.hid q3; (try have HS2 := Lib.hid (HS.out.keep IntAt.stable hb)); replace HB := Lib.hid (bThen HB.out hb); clear hb q1 q3))
        | (go_at_call 23; with_reducible refine Calls.mono (HWA.out _ HB.out) ?_; rintro e w3 ⟨rfl, rfl⟩)
        | (go_at_call 54; with_reducible refine Calls.mono (HR1.out _ HB.out) ?_; rintro e w5 ⟨⟨ka, kc, rfl⟩, hb⟩; replace HB := Lib.hid (bThen HB.out hb); clear hb)
        | (go_at_call 54; with_reducible refine Calls.mono (HR2.out _ HB.out) ?_; rintro e w6 ⟨⟨la, lc, rfl⟩, hb⟩; replace HB := Lib.hid (bThen HB.out hb); clear hb)
        | (go_at_call 54; with_reducible refine Calls.mono (HRG.out _ HB.out) ?_; rintro e w4 ⟨⟨ja, jc, rfl, hs⟩, hb⟩; have HS4 := Lib.hid hs; have HS3 := Lib.hid (HS2.out.keep IntAt.stable hb); replace HB := Lib.hid (bThen HB.out hb); clear hb hs)
        | (go_at_call 31; with_reducible refine Calls.mono (HSM.out _ _ _ HS3.out HS4.out) ?_; rintro e w7 ⟨rfl, hb⟩; replace HB := Lib.hid (bThen HB.out hb); clear hb)
        | (go_at_call 18; with_reducible refine Calls.mono (HK.out _) ?_; rintro e wk ⟨rfl, hb⟩; replace HB := Lib.hid (bThen HB.out hb); clear hb)
        | fail)
      all_goals first
        | (exfalso; omega)
        | (go_ret; exact ⟨rfl, HB.out⟩)
        | fail
end Go.Proofs.Ytbeeddenidfenaa
