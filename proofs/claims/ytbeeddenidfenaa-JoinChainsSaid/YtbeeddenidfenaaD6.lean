/- Contracts: Chain by the specification. -/
import Derived.Test.YtbeeddenidfenaaD5
set_option linter.unusedSimpArgs false
set_option linter.unusedVariables false
namespace Go.Proofs.Ytbeeddenidfenaa
open Go.RowKit

set_option maxRecDepth 10000 in
set_option maxHeartbeats 4000000 in
theorem refChain_any (n r : Int) (x : List Int) (l : List (List Int)) (v : Value) (w : World) (hv : SliceV w v 1 WaveAt (x :: l)) (hn : 1 ≤ n ∧ n ≤ 9223372036854775807) (hr : 0 ≤ r ∧ r ≤ 9223372036854775807) (hlong : (x :: l).length ≤ 500) (hsm : ∀ y ∈ x :: l, Sm y) (hlen : ∀ y ∈ x :: l, y.length ≤ 100000) :
    Calls Try.prog 39 #[.int .i64 n, .int .i64 r, v] w fun e w' => (∃ r1 r2, e = .returned (.tuple #[r1, r2, .int .i64 (chGo n r x l).1]) ∧ SliceV w' r1 1 IntAt (chGo n r x l).2.1 ∧ SliceV w' r2 1 IntAt (chGo n r x l).2.2) ∧ Below w.heap.size w w' := by
  have hxl := hlen x (by simp)
  have HSMX := Lib.hid (hsm x (by simp))
  have HSML := Lib.hid (fun y (h : y ∈ l) => hsm y (by simp [h]))
  have HLEN := Lib.hid (fun y (h : y ∈ l) => hlen y (by simp [h]))
  obtain ⟨a, c, rfl, hl, -⟩ := id hv
  obtain ⟨b, o, rfl, ⟨v0, c0, s0⟩, hw⟩ := waves_tail hv
  have HW := Lib.hid hw
  have HS0 := Lib.hid s0
  have HSRC : Hid (∀ ad n' c', v0 = .slice ad n' c' → SrcI w ad x) := Lib.hid (fun ad n' c' h => by rw [h] at s0; exact src_of s0)
  obtain ⟨xa, xc, rfl, -⟩ := id s0
  have HSR0 := Lib.hid (HSRC.out _ _ _ rfl)
  rw [List.length_cons] at hlong hl ⊢
  unfold most at hl
  clear hw s0 hv hsm hlen HSRC
  have hbl := cell_lt c0
  obtain ⟨V, hV⟩ : ∃ V, V = chGo n r x l := ⟨_, rfl⟩
  rw [← hV]
  have HV := Lib.hid hV
  clear hV
  obtain ⟨m, hm⟩ : ∃ m, m = l.length := ⟨_, rfl⟩
  rw [← hm] at hlong hl ⊢
  have HM := Lib.hid hm
  clear hm
  obtain ⟨xl, hxe⟩ : ∃ xl, x.length = xl := ⟨_, rfl⟩
  have HXL := Lib.hid hxe
  rw [hxe] at hxl c0 HS0
  clear hxe
  have h6 : (0 : Int) < (m : Int) + 1 := by omega
  obtain ⟨i3, hi, hz0, hz1, hz2⟩ := info_parts infoI
  have HI := Lib.hid hi
  clear hi
  go_enter Try.func39, Try.ntmps39
  go_wp2_with (at_builtin; refine wpList_append_ints rfl _ _ rfl w.heap.size (.slice none 0 0) 0 [] (by rfl) (World.ownsRow_nil _ _ _ _) xa xl xc x (by rfl) HXL.out HSR0.out (by omega) (Nat.le_refl _) ?_; intro v1 w1 hown1 hb1; have HO1 : Hid (w1.ownsRow w.heap.size 3 1 v1 x.length (intV x)) := Lib.hid (by rw [HXL.out]; simpa using hown1); have HB1 := Lib.hid hb1; clear hown1 hb1)
  go_loopw [9, 10, 11] (fun ch bg i wr => ∃ (j : Nat) (out bgs : List Int), 1 ≤ j ∧ j ≤ m + 1 ∧ i = .int .i64 j ∧ Hid (chGo n r x (l.take (j - 1)) = (0, out, bgs)) ∧ Hid (out.length ≤ 100000) ∧ Hid (Sm out) ∧ Hid (SliceV wr ch 1 IntAt out) ∧ Hid (wr.ownsRow w.heap.size 3 1 bg j (intV bgs)) ∧ Hid (∀ g, ch.ownBlock = some g → bg.ownBlock ≠ some g) ∧ Hid (Below w.heap.size w wr)) (fun _ _ i _ => m + 1 - (intOf i).toNat)
  case atStart =>
    refine ⟨1, x, [0], Nat.le_refl _, by omega, rfl, Lib.hid rfl, Lib.hid (by rw [HXL.out]; exact hxl), HSMX, Lib.hid ((own_slice HO1.out (by rw [HXL.out]; omega)).keep IntAt.stable (bAlloc (Below.refl _ _) _)), Lib.hid (World.ownsRow_lit _ _ 1 HB1.out.size (by decide) (by rfl)), Lib.hid (fun g h e => by cases e; exact absurd (HO1.out.lt _ h).2 (Nat.lt_irrefl _)), Lib.hid (bAlloc HB1.out _)⟩
  case round =>
    obtain ⟨j, out, bgs, hj1, hj, rfl, HGO, HOL, HSMO, HCH, HBG, HNE, HB⟩ := hrel
    by_cases hlt : j < m + 1
    · obtain ⟨k, hk⟩ : ∃ k, k = j - 1 := ⟨_, rfl⟩
      rw [← hk] at HGO
      have hkl : k < l.length := by have := HM.out; omega
      obtain ⟨vx, hcx0, sx0⟩ := HW.out k hkl
      rw [show o + 1 + k = o + j by omega] at hcx0
      have hgs := chGo_succ (n := n) (r := r) (x := x) hkl
      have hml : l[k] ∈ l := List.getElem_mem hkl
      obtain ⟨y, hy⟩ : ∃ y, y = l[k] := ⟨_, rfl⟩
      rw [← hy] at sx0 hgs hml
      rw [HGO.out] at hgs
      have HGS := Lib.hid hgs
      have hcx := keep HB.out hcx0
      have HSX := Lib.hid (sx0.keep IntAt.stable HB.out)
      have HSXW := Lib.hid sx0
      have hcl := cell_lt hcx
      have HSY := Lib.hid (HSML.out y hml)
      have hyl := HLEN.out y hml
      have hol := HOL.out
      have HKJ : Hid (k + 1 = j) := Lib.hid (by omega)
      have hle := lagErr_ok hol hyl HSMO.out HSY.out hn.1 hr.1
      clear hgs sx0 hy hml hk hkl
      obtain ⟨ad, cap, rfl⟩ := ownsRow_slice HBG.out
      obtain ⟨ca, cc, rfl, -⟩ := id HCH.out
      have HLG := Lib.hid (refLag_any out y n r _ vx wr HCH.out HSX.out HSMO.out HSY.out hn hr (by omega) (by omega))
      cases hov : ovl out.length y.length n 0
      · rw [hov] at HLG hle
        rw [if_neg (by simp)] at hle
        have hV : V = (5, [], []) := by rw [HV.out]; exact chGo_all (by rw [HGS.out, ch_step_lag (by rw [hle]; decide), hle]) (by decide)
        have HV2 := Lib.hid hV
        have hres : refLagV out y n r = -1 := by unfold refLagV; rw [if_neg (by rw [hov]; simp)]
        rw [hres] at HLG
        clear hV hle hov hres
        go_wp2_with (go_at_call 34; with_reducible refine Calls.mono HLG.out ?_; rintro e w3 ⟨rfl, hb⟩; have HB3 := Lib.hid (bThen HB.out hb); clear hb)
        go_ret3
        rw [HV2.out]
        exact ⟨⟨_, _, rfl, ⟨none, 0, rfl, ⟨Nat.zero_le _, Nat.zero_le _⟩, .inl rfl⟩, ⟨none, 0, rfl, ⟨Nat.zero_le _, Nat.zero_le _⟩, .inl rfl⟩⟩, HB3.out⟩
      · rw [hov] at HLG hle
        rw [if_pos rfl] at hle
        have hres : refLagV out y n r = (lagv out y n.toNat r : Nat) := by unfold refLagV; rw [if_pos hov]
        rw [hres] at HLG
        have hje := joinErr_ok hol hyl HSMO.out HSY.out hov hr.1
        have HSO := Lib.hid (fun (hj : joinErr out y n (lagv out y n.toNat r : Nat) = 0) => HGS.out.trans (ch_step_ok hle hj))
        have HSE := Lib.hid (fun (hj : joinErr out y n (lagv out y n.toNat r : Nat) ≠ 0) => HGS.out.trans (ch_step_join hle hj))
        have hol2 := ovl_lag hov hr.1
        obtain ⟨lg, hlg⟩ : ∃ lg, lg = lagv out y n.toNat r := ⟨_, rfl⟩
        rw [← hlg] at HLG HSO HSE hje hol2
        have HJN := Lib.hid (fun W (hB : Below w.heap.size w W) (hch : SliceV W (.slice ca out.length cc) 1 IntAt out) => by
          obtain ⟨n', k', hn', hk', h5, h3, h4⟩ := ovl_nat hol2
          obtain rfl : lg = k' := by omega
          have h := refJoin_any out y n' lg (.slice ca out.length cc) vx W hch (HSXW.out.keep IntAt.stable hB) HSMO.out HSY.out h5 h3 h4 hol hyl
          rw [← hn', show n' = n.toNat by omega] at h
          exact h)
        have e1 : IntKind.i64.wrap ((out.length : Int) - n) = (out.length : Int) - n := IntWalk.i64_in _ (by omega)
        have HSM7 := Lib.hid (HSMO.out.joinL HSY.out n.toNat lg)
        obtain ⟨ol, hole⟩ : ∃ ol, out.length = ol := ⟨_, rfl⟩
        have HOE := Lib.hid hole
        rw [hole] at hol e1 HJN HLG HCH HNE ⊢
        clear hlg hres hle hov hole hol2
        obtain ⟨jl, hjl⟩ : ∃ jl, (joinL out y n.toNat lg).length = jl := ⟨_, rfl⟩
        have HJLEN := Lib.hid hjl
        have HJ2 : Hid (∀ W, Below w.heap.size w W → SliceV W (.slice ca ol cc) 1 IntAt out → Calls Try.prog 32 #[.slice ca ol cc, vx, .int .i64 n, .int .i64 (lg : Int)] W fun e w' => (∃ ja jc, e = .returned (.slice ja jl jc) ∧ SliceV w' (.slice ja jl jc) 1 IntAt (joinL out y n.toNat lg) ∧ ∀ g, (Value.slice ja jl jc).ownBlock = some g → W.heap.size ≤ g) ∧ Below W.heap.size W w') := Lib.hid (fun W hB hch => (HJN.out W hB hch).mono fun e w' ⟨⟨r, he, hs, hg⟩, hb⟩ => by
          obtain ⟨ja, jc, hr, hh⟩ := id hs
          rw [hjl] at hr
          subst hr
          exact ⟨⟨ja, jc, he, hs, hg⟩, hb⟩)
        rw [hjl] at hje
        by_cases hj : 100000 < jl
        · rw [if_pos hj] at hje
          have hV : V = (4, [], []) := by rw [HV.out]; exact chGo_all (by rw [HSE.out (by rw [hje]; decide), hje]) (by decide)
          have HV2 := Lib.hid hV
          have hj2 : (100000 : Int) < (jl : Int) := by omega
          clear hV HSO HSE hje hjl
          go_wp2_with (first
            | (go_at_call 34; with_reducible refine Calls.mono HLG.out ?_; rintro e w3 ⟨rfl, hb⟩; have HB3 := Lib.hid (bThen HB.out hb); have HBG3 := Lib.hid (ownsRow_below HBG.out hb); have HCH3 := Lib.hid (HCH.out.keep IntAt.stable hb); have hz3 := HB3.out.size; clear hb)
            | (at_builtin; refine wpList_append_lies _ rfl _ _ 22 rfl w.heap.size 3 i3 _ 1 8 Try.underlying22 HI.out hz0 hz1 hz2 rfl (by decide) (.slice ad j cap) j _ (by rfl) (HBG3.out.alloc _) ⟨w3.heap.size, 0, none⟩ 1 1 [.int .i64 ((ol : Int) - n)] (by rfl) (by rfl) (one_new _ _ _) (by simp [Value.oneCell']) (by omega) (by unfold maxLen; omega) (by omega) (by simp; omega) (w3.heap.size + 1) (by simp) ?_; intro g6 cap6 w6 hown hgrow hat6 hlt6; have HB6 := Lib.hid ((bAlloc HB3.out _).trans (below_grown hgrow (HBG3.out.alloc _) (by simp; omega))); have HCH6 := Lib.hid ((HCH3.out.keep IntAt.stable (bAlloc (Below.refl _ _) _)).grown hgrow HNE.out); have HG6 := Lib.hid hlt6; have HOWN := Lib.hid hown; have hcx6 := keep HB6.out hcx0; have hcl6 := cell_lt hcx6; clear hown hgrow hat6 hlt6)
            | (go_at_call 32; with_reducible refine Calls.mono (HJ2.out _ HB6.out HCH6.out) ?_; rintro e w7 ⟨⟨ja, jc, rfl, hs, hg⟩, hb⟩; have HS7 := Lib.hid hs; have HG7 := Lib.hid hg; have HOWN7 := Lib.hid (ownsRow_below HOWN.out hb); have HB7 := Lib.hid (bThen HB6.out hb); clear hs hg hb))
          go_ret3
          rw [HV2.out]
          exact ⟨⟨_, _, rfl, ⟨none, 0, rfl, ⟨Nat.zero_le _, Nat.zero_le _⟩, .inl rfl⟩, ⟨none, 0, rfl, ⟨Nat.zero_le _, Nat.zero_le _⟩, .inl rfl⟩⟩, HB7.out⟩
        · rw [if_neg hj] at hje
          have HSO2 := Lib.hid (HSO.out hje)
          have hj2 : ¬ (100000 : Int) < (jl : Int) := by omega
          clear HSO HSE hje hjl
          go_wp2_with (first
            | (go_at_call 34; with_reducible refine Calls.mono HLG.out ?_; rintro e w3 ⟨rfl, hb⟩; have HB3 := Lib.hid (bThen HB.out hb); have HBG3 := Lib.hid (ownsRow_below HBG.out hb); have HCH3 := Lib.hid (HCH.out.keep IntAt.stable hb); have hz3 := HB3.out.size; clear hb)
            | (at_builtin; refine wpList_append_lies _ rfl _ _ 22 rfl w.heap.size 3 i3 _ 1 8 Try.underlying22 HI.out hz0 hz1 hz2 rfl (by decide) (.slice ad j cap) j _ (by rfl) (HBG3.out.alloc _) ⟨w3.heap.size, 0, none⟩ 1 1 [.int .i64 ((ol : Int) - n)] (by rfl) (by rfl) (one_new _ _ _) (by simp [Value.oneCell']) (by omega) (by unfold maxLen; omega) (by omega) (by simp; omega) (w3.heap.size + 1) (by simp) ?_; intro g6 cap6 w6 hown hgrow hat6 hlt6; have HB6 := Lib.hid ((bAlloc HB3.out _).trans (below_grown hgrow (HBG3.out.alloc _) (by simp; omega))); have HCH6 := Lib.hid ((HCH3.out.keep IntAt.stable (bAlloc (Below.refl _ _) _)).grown hgrow HNE.out); have HG6 := Lib.hid hlt6; have HOWN := Lib.hid hown; have hcx6 := keep HB6.out hcx0; have hcl6 := cell_lt hcx6; clear hown hgrow hat6 hlt6)
            | (go_at_call 32; with_reducible refine Calls.mono (HJ2.out _ HB6.out HCH6.out) ?_; rintro e w7 ⟨⟨ja, jc, rfl, hs, hg⟩, hb⟩; have HS7 := Lib.hid hs; have HG7 := Lib.hid hg; have HOWN7 := Lib.hid (ownsRow_below HOWN.out hb); have HB7 := Lib.hid (bThen HB6.out hb); clear hs hg hb))
          go_roundw
          case rel =>
            refine ⟨j + 1, joinL out y n.toNat lg, bgs ++ [(ol : Int) - n], by omega, by omega, by go_num, Lib.hid (by rw [Nat.add_sub_cancel, ← HKJ.out, HSO2.out, HOE.out]), Lib.hid (by rw [HJLEN.out]; omega), HSM7, HS7, Lib.hid (by rw [intV_append]; exact HOWN7.out), Lib.hid (fun g h e => ?_), HB7⟩
            cases e
            exact absurd HG6.out (Nat.not_lt.2 (HG7.out _ h))
          case measure => simp [intOf]; omega
    · obtain rfl : j = m + 1 := by omega
      obtain ⟨ad, cap, rfl⟩ := ownsRow_slice HBG.out
      obtain ⟨ca, cc, rfl, -⟩ := id HCH.out
      go_wp2_with fail
      go_ret3
      have hV : V = (0, out, bgs) := by rw [HV.out, ← HGO.out, Nat.add_sub_cancel, HM.out, List.take_length]
      rw [hV]
      have hbgl := bgs_len HBG.out
      rw [← hbgl] at HBG
      exact ⟨⟨_, _, rfl, HCH.out, by rw [← hbgl]; exact own_slice HBG.out (by show bgs.length ≤ 1000000; omega)⟩, HB.out⟩
end Go.Proofs.Ytbeeddenidfenaa
