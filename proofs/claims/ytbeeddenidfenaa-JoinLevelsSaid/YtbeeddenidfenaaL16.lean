/- The law of levels, given the examples. -/
import Derived.Test.YtbeeddenidfenaaF1
import Derived.Test.YtbeeddenidfenaaEL
set_option linter.unusedSimpArgs false
set_option linter.unusedVariables false
namespace Go.Proofs.Ytbeeddenidfenaa
open Go.RowKit
theorem chk1_any {x : List Int} (h : chk true [x] ≠ 0) (b : Bool) : chk b [x] = chk true [x] := by
  rw [chk_one] at h ⊢
  rw [chk_one]
  by_cases h1 : 100000 < (x.length : Int)
  · rw [if_pos h1, if_pos h1]
  · rw [if_neg h1] at h ⊢
    rw [if_neg h1]
    by_cases h2 : waveOk x = true
    · rw [if_pos ⟨rfl, h2⟩] at h; exact absurd rfl h
    · rw [if_neg (fun e => h2 e.2), if_neg (fun e => h2 e.2)]
theorem chk1_false {x : List Int} (h : chk true [x] = 0) : chk false [x] = 2 := by
  have h2 := chk_ok h
  rw [chk_one, if_neg (by omega), if_neg (by simp)]
theorem out_pair {f : FuncId} {args : Array Value} {w : World} {l : List Int} {t : Value} (h : Calls Try.prog f args w fun e w' => (∃ r, e = .returned (.tuple #[r, t]) ∧ SliceV w' r 1 IntAt l) ∧ Below w.heap.size w w') :
    Calls Try.prog f args w fun e w' => (∃ ra rc, e = .returned (.tuple #[.slice ra l.length rc, t]) ∧ SliceV w' (.slice ra l.length rc) 1 IntAt l) ∧ Below w.heap.size w w' :=
  h.mono fun e w' ⟨⟨r, he, hs⟩, hb⟩ => by
    obtain ⟨ra, rc, rfl, h⟩ := id hs
    exact ⟨⟨ra, rc, he, hs⟩, hb⟩

set_option maxRecDepth 10000 in
set_option maxHeartbeats 4000000 in
theorem law16_any (x : List Int) (mo : Int) (v : Value) (w : World) (hK : Known) (hv : SliceV w v 1 IntAt x) (hmo : -9223372036854775808 ≤ mo ∧ mo ≤ 9223372036854775807) :
    Calls Try.prog 16 #[v, .int .i64 mo] w fun e w' => e = .returned (.bool true) ∧ Below w.heap.size w w' := by
  have HK : Hid (∀ W, Calls Try.prog 18 #[] W fun e w' => e = .returned (.bool true) ∧ Below W.heap.size W w') := Lib.hid hK
  have HB := Lib.hid (Below.refl w.heap.size w)
  have HSX := Lib.hid (short_any x v w hv)
  have HV := Lib.hid (fun W (hB : Below w.heap.size w W) => hv.keep IntAt.stable hB)
  have HWA := Lib.hid (fun W (hB : Below w.heap.size w W) => Wave_any x v W (HV.out W hB))
  have HLE0 := Lib.hid (Level_any x mo v w hv)
  obtain ⟨a, c, rfl, hl, -⟩ := id hv
  unfold most at hl
  clear hv hK
  cases h1 : shrt x.length
  · rw [h1] at HSX
    clear HLE0
    have HLE : Hid True := Lib.hid trivial
    go_enter Try.func16, Try.ntmps16
    go_wp2_with (first
      | (go_at_call 17; with_reducible refine Calls.mono HSX.out ?_; rintro e w1 ⟨rfl, rfl⟩)
      | (go_at_call 18; with_reducible refine Calls.mono (HK.out _) ?_; rintro e wk ⟨rfl, hb⟩; replace HB := Lib.hid (bThen HB.out hb); clear hb))
    go_ret
    exact ⟨rfl, HB.out⟩
  · rw [h1] at HSX
    by_cases hg : chk (levOk x mo) [x] = 0
    · have h2c := chk_ok hg
      have hok := h2c.2.2
      rw [hok] at hg
      have sx := sm_of h2c.2.1
      have hok2 := hok
      simp only [levOk, betw, Bool.and_eq_true, decide_eq_true_eq] at hok2
      have hxl := hok2.2
      have g1 := hok2.1.1
      have g2 := hok2.1.2
      have hxs := h2c.1
      have HLE : Hid (Calls Try.prog 55 #[.slice a x.length c, .int .i64 mo] w fun e w' => (∃ ra rc r, e = .returned (.tuple #[.slice ra x.length rc, .int .i64 0]) ∧ Hid (r ≤ 1000000 ∧ LevP x mo r ∧ (r = 1000000 ∨ ¬ LevP x mo (r + 1))) ∧ SliceV w' (.slice ra x.length rc) 1 IntAt (gainL x (r : Nat) 1000)) ∧ Below w.heap.size w w') := Lib.hid (HLE0.out.mono fun e w' ⟨⟨u, he, _, h⟩, hb⟩ => by
        rw [hok, hg] at h he
        obtain ⟨r, ht, hs⟩ := h rfl
        obtain ⟨ra, rc, rfl, -⟩ := id hs
        rw [gainL_len] at he hs
        exact ⟨⟨ra, rc, r, he, Lib.hid (ht.top hxl g1), hs⟩, hb⟩)
      have HRG : Hid (∀ (k : Nat) W, k ≤ 1000001 → Below w.heap.size w W → Calls Try.prog 54 #[.slice a x.length c, .int .i64 (k : Int), .int .i64 1000] W fun e w' => (∃ ra rc, e = .returned (.tuple #[.slice ra x.length rc, .int .i64 (clips x k 1000 : Nat)]) ∧ SliceV w' (.slice ra x.length rc) 1 IntAt (gainL x k 1000)) ∧ Below W.heap.size W w') := Lib.hid (fun k W h1 hB => by
        have h := out_pair (refGain_any x k 1000 _ W (HV.out W hB) sx (by omega) (by omega) (by omega) (by decide) (by decide))
        rw [gainL_len] at h
        exact h)
      have HRL : Hid (∀ (k : Nat) u W, SliceV W u 1 IntAt (gainL x k 1000) → Calls Try.prog 25 #[u] W fun e w' => e = .returned (.int .i64 (loud (gainL x k 1000))) ∧ Below W.heap.size W w') := Lib.hid (fun k u W hu => refLoud_any _ u W hu (gain_sm _ _ _) (by rw [gainL_len]; exact hxl) (by rw [gainL_len]; omega))
      have HSM : Hid (∀ (k : Nat) W v u, SliceV W v 1 IntAt (gainL x k 1000) → SliceV W u 1 IntAt (gainL x k 1000) → Calls Try.prog 31 #[v, u] W fun e w' => e = .returned (.bool true) ∧ Below W.heap.size W w') := Lib.hid (fun k W v u hv hu => (Same_any _ _ v u W hv hu).mono fun e w' ⟨he, hb⟩ => ⟨by rw [he, decide_eq_true rfl], hb⟩)
      have HXL := Lib.hid hxl
      have HG1 := Lib.hid g1
      rw [hg] at HWA
      have z1 : ¬ x.length = 0 := by omega
      clear hok hok2 h2c sx hg HLE0 h1
      go_enter Try.func16, Try.ntmps16
      go_wp2_with (first
        | (go_at_call 17; with_reducible refine Calls.mono HSX.out ?_; rintro e w1 ⟨rfl, rfl⟩)
        | (go_at_call 55; with_reducible refine Calls.mono HLE.out ?_; rintro e w1 ⟨⟨ra, rc, r, rfl, HTOP, hs⟩, hb⟩; replace HB := Lib.hid hb; have HS := Lib.hid hs; clear hb hs)
        | (go_at_call 23; with_reducible refine Calls.mono (HWA.out _ HB.out) ?_; rintro e w2 ⟨rfl, rfl⟩))
      all_goals first
        | (exfalso; omega)
        | skip
      go_loopw [8, 9] (fun i j wr => ∃ lo hi : Nat, lo < hi ∧ hi ≤ 1000001 ∧ i = .int .i64 lo ∧ j = .int .i64 hi ∧ Hid (LevP x mo lo) ∧ Hid (hi = 1000001 ∨ ¬ LevP x mo hi) ∧ Hid (SliceV wr (.slice ra x.length rc) 1 IntAt (gainL x (r : Nat) 1000)) ∧ Hid (Below w.heap.size w wr)) (fun i j _ => (intOf j).toNat - (intOf i).toNat)
      case atStart => exact ⟨0, 1000001, by omega, by omega, rfl, rfl, Lib.hid (LevP.zero HXL.out HG1.out), Lib.hid (.inl rfl), HS, HB⟩
      case round =>
        obtain ⟨lo, hi, hlh, hhi, rfl, rfl, HLO, HHI, HSR, HBR⟩ := hrel
        by_cases m1 : lo + 1 = hi
        · subst m1
          have hlr : lo = r := lev_one HXL.out ⟨by omega, HLO.out, by
            rcases HHI.out with h | h
            · exact .inl (by omega)
            · exact .inr h⟩ HTOP.out
          subst hlr
          have m2 : ((lo + 1 : Nat) : Int) - lo = 1 := by omega
          go_wp2_with (first
            | (go_at_call 54; with_reducible refine Calls.mono (HRG.out lo _ (by omega) HBR.out) ?_; rintro e w3 ⟨⟨ga, gc, rfl, hs⟩, hb⟩; have HGS := Lib.hid hs; have HS2 := Lib.hid (HSR.out.keep IntAt.stable hb); have HB3 := Lib.hid (bThen HBR.out hb); clear hb hs)
            | (go_at_call 31; with_reducible refine Calls.mono (HSM.out lo _ _ _ HS2.out HGS.out) ?_; rintro e w4 ⟨rfl, hb⟩; have HB4 := Lib.hid (bThen HB3.out hb); clear hb)
            | (go_at_call 18; with_reducible refine Calls.mono (HK.out _) ?_; rintro e wk ⟨rfl, hb⟩; have HB5 := Lib.hid (bThen HB4.out hb); clear hb))
          all_goals first
            | (exfalso; omega)
            | (go_ret; exact ⟨rfl, HB5.out⟩)
        · have m2 : lo + 1 < hi := by omega
          obtain ⟨mid, hmid⟩ : ∃ mid : Nat, mid = (lo + hi) / 2 := ⟨_, rfl⟩
          have p1 : lo < mid := by omega
          have p2 : mid < hi := by omega
          have e0 : Int.tdiv ((lo : Int) + hi) 2 = (mid : Int) := by rw [Int.tdiv_eq_ediv_of_nonneg (by omega)]; omega
          have HC := Lib.hid (HRG.out mid wr (by omega) HBR.out)
          have HLD := Lib.hid (HRL.out mid)
          have HLP : Hid (LevP x mo mid ↔ clips x mid 1000 = 0 ∧ loud (gainL x mid 1000) ≤ mo) := Lib.hid Iff.rfl
          obtain ⟨cl, hcl⟩ : ∃ cl, cl = clips x mid 1000 := ⟨_, rfl⟩
          obtain ⟨ld, hld⟩ : ∃ ld, ld = loud (gainL x mid 1000) := ⟨_, rfl⟩
          rw [← hcl] at HC HLP
          rw [← hld] at HLD HLP
          clear hcl hld
          have HMI := Lib.hid hmid
          clear hmid m1
          by_cases n1 : cl = 0
          · subst n1
            by_cases n2 : ld ≤ mo
            · go_wp2_with (first
                | (go_at_call 54; with_reducible refine Calls.mono HC.out ?_; rintro e w3 ⟨⟨ga, gc, rfl, hs⟩, hb⟩; have HGS := Lib.hid hs; have HB3 := Lib.hid (bThen HBR.out hb); have HS3 := Lib.hid (HSR.out.keep IntAt.stable hb); clear hb hs)
                | (go_at_call 25; with_reducible refine Calls.mono (HLD.out _ _ HGS.out) ?_; rintro e w4 ⟨rfl, hb⟩; have HB4 := Lib.hid (bThen HB3.out hb); have HS4 := Lib.hid (HS3.out.keep IntAt.stable hb); clear hb))
              go_roundw
              case rel => exact ⟨mid, hi, by omega, by omega, by first | rfl | go_num, rfl, Lib.hid (HLP.out.2 (by first | exact ⟨rfl, n2⟩ | exact ⟨trivial, n2⟩)), HHI, HS4, HB4⟩
              case measure => simp [intOf]; omega
            · go_wp2_with (first
                | (go_at_call 54; with_reducible refine Calls.mono HC.out ?_; rintro e w3 ⟨⟨ga, gc, rfl, hs⟩, hb⟩; have HGS := Lib.hid hs; have HB3 := Lib.hid (bThen HBR.out hb); have HS3 := Lib.hid (HSR.out.keep IntAt.stable hb); clear hb hs)
                | (go_at_call 25; with_reducible refine Calls.mono (HLD.out _ _ HGS.out) ?_; rintro e w4 ⟨rfl, hb⟩; have HB4 := Lib.hid (bThen HB3.out hb); have HS4 := Lib.hid (HS3.out.keep IntAt.stable hb); clear hb))
              go_roundw
              case rel => exact ⟨lo, mid, by omega, by omega, rfl, by first | rfl | go_num, HLO, Lib.hid (.inr fun h => by have := (HLP.out.1 h).2; omega), HS4, HB4⟩
              case measure => simp [intOf]; omega
          · have n2 : ¬ (cl : Int) = 0 := by omega
            go_wp2_with (first
              | (go_at_call 54; with_reducible refine Calls.mono HC.out ?_; rintro e w3 ⟨⟨ga, gc, rfl, hs⟩, hb⟩; have HGS := Lib.hid hs; have HB3 := Lib.hid (bThen HBR.out hb); have HS3 := Lib.hid (HSR.out.keep IntAt.stable hb); clear hb hs))
            go_roundw
            case rel => exact ⟨lo, mid, by omega, by omega, rfl, by first | rfl | go_num, HLO, Lib.hid (.inr fun h => by have := (HLP.out.1 h).1; omega), HS3, HB3⟩
            case measure => simp [intOf]; omega
    · have hbad : chk true [x] ≠ 0 ∨ levOk x mo = false := by
        by_cases h : chk true [x] = 0
        · refine .inr (Bool.eq_false_iff.2 fun e => hg ?_)
          rw [e]; exact h
        · exact .inl h
      by_cases hc : chk true [x] = 0
      · have hlo := hbad.resolve_left (fun h => h hc)
        have hcf := chk1_false hc
        have HLE : Hid (Calls Try.prog 55 #[.slice a x.length c, .int .i64 mo] w fun e w' => (∃ ra rc, e = .returned (.tuple #[.slice ra 0 rc, .int .i64 2])) ∧ Below w.heap.size w w') := Lib.hid (HLE0.out.mono fun e w' ⟨⟨u, he, h, _⟩, hb⟩ => by
          rw [hlo, hcf] at h he
          obtain ⟨ra, rc, rfl, -⟩ := h (by decide)
          exact ⟨⟨ra, rc, he⟩, hb⟩)
        rw [hc] at HWA
        have hlo2 : x.length = 0 ∨ mo < 0 ∨ 32768 < mo := by
          simp only [levOk, betw, Bool.and_eq_false_iff, decide_eq_false_iff_not] at hlo
          omega
        clear hbad hg hc hcf HLE0 hlo h1
        by_cases k1 : x.length = 0
        · rw [k1] at HSX HWA HLE HV hl ⊢
          go_enter Try.func16, Try.ntmps16
          go_wp2_with (first
            | (go_at_call 17; with_reducible refine Calls.mono HSX.out ?_; rintro e w1 ⟨rfl, rfl⟩)
            | (go_at_call 55; with_reducible refine Calls.mono HLE.out ?_; rintro e w1 ⟨⟨ra, rc, rfl⟩, hb⟩; replace HB := Lib.hid hb; clear hb)
            | (go_at_call 23; with_reducible refine Calls.mono (HWA.out _ HB.out) ?_; rintro e w1 ⟨rfl, rfl⟩)
            | (go_at_call 18; with_reducible refine Calls.mono (HK.out _) ?_; rintro e wk ⟨rfl, hb⟩; replace HB := Lib.hid (bThen HB.out hb); clear hb))
          all_goals first
            | (exfalso; omega)
            | (go_ret; exact ⟨rfl, HB.out⟩)
        · by_cases k2 : mo < 0
          · go_enter Try.func16, Try.ntmps16
            go_wp2_with (first
              | (go_at_call 17; with_reducible refine Calls.mono HSX.out ?_; rintro e w1 ⟨rfl, rfl⟩)
              | (go_at_call 55; with_reducible refine Calls.mono HLE.out ?_; rintro e w1 ⟨⟨ra, rc, rfl⟩, hb⟩; replace HB := Lib.hid hb; clear hb)
              | (go_at_call 23; with_reducible refine Calls.mono (HWA.out _ HB.out) ?_; rintro e w1 ⟨rfl, rfl⟩)
              | (go_at_call 18; with_reducible refine Calls.mono (HK.out _) ?_; rintro e wk ⟨rfl, hb⟩; replace HB := Lib.hid (bThen HB.out hb); clear hb))
            all_goals first
              | (exfalso; omega)
              | (go_ret; exact ⟨rfl, HB.out⟩)
          · have k3 : 32768 < mo := by omega
            go_enter Try.func16, Try.ntmps16
            go_wp2_with (first
              | (go_at_call 17; with_reducible refine Calls.mono HSX.out ?_; rintro e w1 ⟨rfl, rfl⟩)
              | (go_at_call 55; with_reducible refine Calls.mono HLE.out ?_; rintro e w1 ⟨⟨ra, rc, rfl⟩, hb⟩; replace HB := Lib.hid hb; clear hb)
              | (go_at_call 23; with_reducible refine Calls.mono (HWA.out _ HB.out) ?_; rintro e w1 ⟨rfl, rfl⟩)
              | (go_at_call 18; with_reducible refine Calls.mono (HK.out _) ?_; rintro e wk ⟨rfl, hb⟩; replace HB := Lib.hid (bThen HB.out hb); clear hb))
            all_goals first
              | (exfalso; omega)
              | (go_ret; exact ⟨rfl, HB.out⟩)
      · have hca := chk1_any hc (levOk x mo)
        have HLE : Hid (Calls Try.prog 55 #[.slice a x.length c, .int .i64 mo] w fun e w' => (∃ ra rc, e = .returned (.tuple #[.slice ra 0 rc, .int .i64 (chk true [x])])) ∧ Below w.heap.size w w') := Lib.hid (HLE0.out.mono fun e w' ⟨⟨u, he, h, _⟩, hb⟩ => by
          rw [hca] at h he
          obtain ⟨ra, rc, rfl, -⟩ := h hc
          exact ⟨⟨ra, rc, he⟩, hb⟩)
        obtain ⟨er, her⟩ : ∃ er, er = chk true [x] := ⟨_, rfl⟩
        rw [← her] at HLE HWA hc
        have hb0 : (er == 0) = false := beq_eq_false_iff_ne.2 hc
        clear her hca hbad hg hc HLE0 h1
        go_enter Try.func16, Try.ntmps16
        go_wp2_with (first
          | (go_at_call 17; with_reducible refine Calls.mono HSX.out ?_; rintro e w1 ⟨rfl, rfl⟩)
          | (go_at_call 55; with_reducible refine Calls.mono HLE.out ?_; rintro e w1 ⟨⟨ra, rc, rfl⟩, hb⟩; replace HB := Lib.hid hb; clear hb)
          | (go_at_call 23; with_reducible refine Calls.mono (HWA.out _ HB.out) ?_; rintro e w1 ⟨rfl, rfl⟩)
          | (go_at_call 18; with_reducible refine Calls.mono (HK.out _) ?_; rintro e wk ⟨rfl, hb⟩; replace HB := Lib.hid (bThen HB.out hb); clear hb))
        all_goals first
          | (exfalso; omega)
          | (go_ret; exact ⟨rfl, HB.out⟩)
end Go.Proofs.Ytbeeddenidfenaa
