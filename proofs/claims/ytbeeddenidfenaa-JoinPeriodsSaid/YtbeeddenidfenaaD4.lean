/- Contracts: Chain, the good way. -/
import Derived.Test.YtbeeddenidfenaaD3
import Derived.Deep.Upon
set_option linter.unusedSimpArgs false
set_option linter.unusedVariables false
namespace Go.Proofs.Ytbeeddenidfenaa
open Go.RowKit

theorem SliceV.grown {W W' : World} {v : Value} {row : Option Nat} {l : List Int} (h : SliceV W v 1 IntAt l) (hg : W.grownBy W' row) (hne : ∀ g, v.ownBlock = some g → row ≠ some g) : SliceV W' v 1 IntAt l := by
  obtain ⟨a, c, rfl, hl, hx⟩ := h
  refine ⟨a, c, rfl, hl, ?_⟩
  rcases hx with hx | ⟨b, o, rfl, hf⟩
  · exact .inl hx
  · exact .inr ⟨b, o, rfl, fun i hi => by
      have h0 := hf i hi
      unfold IntAt at h0 ⊢
      rw [← h0]
      exact World.cell?_of_block (w := W) (hg.block b (cell_lt h0) (fun e => hne b rfl e.symm))⟩
theorem chk_len {r : Bool} {ws : List (List Int)} (h : chk r ws = 0) {x : List Int} (hx : x ∈ ws) : x.length ≤ 100000 := by
  unfold chk at h
  by_cases h1 : ws.any waveBig = true
  · rw [if_pos h1] at h; cases h
  · have h2 : ¬ waveBig x = true := fun h => h1 (List.any_eq_true.2 ⟨x, hx, h⟩)
    unfold waveBig at h2
    simp at h2
    omega
/-- The words of a waves' row beyond its first: where each lies. -/
theorem waves_tail {w : World} {a : Option Addr} {n c : Nat} {x : List Int} {l : List (List Int)} (h : SliceV w (.slice a n c) 1 WaveAt (x :: l)) :
    ∃ b o, a = some ⟨b, o, none⟩ ∧ (∃ v, w.cell? ⟨b, o, none⟩ = some v ∧ SliceV w v 1 IntAt x) ∧ ∀ k (hk : k < l.length), ∃ v, w.cell? ⟨b, o + 1 + k, none⟩ = some v ∧ SliceV w v 1 IntAt l[k] := by
  obtain ⟨b, o, rfl, hf⟩ := h.at (by simp)
  refine ⟨b, o, rfl, ?_, fun k hk => ?_⟩
  · exact hf 0 (by simp)
  · have h0 := hf (k + 1) (by simp; omega)
    rw [Nat.mul_one, show o + (k + 1) = o + 1 + k by omega] at h0
    exact h0
theorem lagv_le (x y : List Int) (n r : Int) : lagv x y n.toNat r ≤ (min r ((y.length : Int) - n.toNat)).toNat := by
  unfold lagv
  exact ag_le _ _
theorem join_len {x y : List Int} {n : Int} {k : Nat} (h : joinErr x y n k = 0) : (joinL x y n.toNat k).length ≤ 100000 := by
  unfold joinErr at h
  by_cases hc : chk (ovl x.length y.length n k) [x, y] = 0
  · rw [if_pos hc] at h
    have h2 := (chk2_ok hc).2.2.2.2
    obtain ⟨n', k', rfl, hk, h1, h3, h4⟩ := ovl_nat h2
    obtain rfl : k = k' := by omega
    rw [Int.toNat_natCast]
    by_cases h5 : 100000 < (x.length : Int) + y.length - n' - k
    · rw [if_pos h5] at h; cases h
    · obtain ⟨s, hs⟩ : ∃ s, x.length = s + n' := ⟨x.length - n', by omega⟩
      obtain ⟨q, hq⟩ : ∃ q, y.length = k + n' + q := ⟨y.length - k - n', by omega⟩
      rw [joinL_len hs hq]
      omega
  · rw [if_neg hc] at h; exact absurd h hc
theorem bgs_len {W : World} {base n : Nat} {v : Value} {l : List Int} (h : W.ownsRow base 3 1 v n (intV l)) : l.length = n := by
  have h0 := h.1
  rw [intV_len, Nat.mul_one] at h0
  exact h0
set_option maxRecDepth 10000 in
set_option maxHeartbeats 4000000 in
theorem Chain_good (n r : Int) (x : List Int) (l : List (List Int)) (v : Value) (w : World) (hv : SliceV w v 1 WaveAt (x :: l)) (hn : n ≤ 9223372036854775807) (hr : r ≤ 9223372036854775807) (hlong : ¬ 500 < (x :: l).length) (hc : chk (chRight n r (x :: l)) (x :: l) = 0) :
    Calls Try.prog 38 #[.int .i64 n, .int .i64 r, v] w fun e w' => (∃ r1 r2, e = .returned (.tuple #[r1, r2, .int .i64 (chGo n r x l).1]) ∧ SliceV w' r1 1 IntAt (chGo n r x l).2.1 ∧ SliceV w' r2 1 IntAt (chGo n r x l).2.2) ∧ Below w.heap.size w w' := by
  have hri := chk_right hc
  have HC := Lib.hid (check_any (chRight n r (x :: l)) (x :: l) v w hv)
  rw [hc, hri] at HC
  simp only [chRight, Bool.and_eq_true, decide_eq_true_eq] at hri
  have g1 := hri.1.1
  have g2 := hri.1.2
  have hxl := chk_len hc (x := x) (by simp)
  obtain ⟨a, c, rfl, hl, -⟩ := id hv
  obtain ⟨b, o, rfl, ⟨v0, c0, s0⟩, hw⟩ := waves_tail hv
  have HW := Lib.hid hw
  have HS0 := Lib.hid s0
  rw [List.length_cons] at hlong hl HC ⊢
  unfold most at hl
  clear hw s0 hv hc hri
  have hbl := cell_lt c0
  obtain ⟨V, hV⟩ : ∃ V, V = chGo n r x l := ⟨_, rfl⟩
  rw [← hV]
  have HV := Lib.hid hV
  clear hV
  obtain ⟨m, hm⟩ : ∃ m, m = l.length := ⟨_, rfl⟩
  rw [← hm] at hlong hl HC ⊢
  have HM := Lib.hid hm
  clear hm
  have h5 : ¬ (500 : Int) < (m : Int) + 1 := by omega
  have h6 : (0 : Int) < (m : Int) + 1 := by omega
  have h7 : (0 : Int) ≤ (m : Int) + 1 := by omega
  have h8 : (m : Int) + 1 ≤ (c : Int) := by omega
  have h9 : (1 : Int) ≤ (m : Int) + 1 := by omega
  have HC2 : Hid (∀ W u, Below w.heap.size w W → W.cell? ⟨b, o, none⟩ = some u → SliceV W u 1 IntAt x → Calls Try.prog 68 #[u] W fun e w' => (∃ r, e = .returned r ∧ SliceV w' r 1 IntAt x ∧ ∀ g, r.ownBlock = some g → W.heap.size ≤ g ∧ g < w'.heap.size) ∧ Below W.heap.size W w') := Lib.hid (fun W u _ _ h => CloneI_any x u W h hxl)
  by_cases hc1 : c = 1
  · obtain rfl : m = 0 := by omega
    have hV : V = (0, x, [0]) := by rw [HV.out, List.eq_nil_of_length_eq_zero HM.out.symm]; rfl
    have HV2 := Lib.hid hV
    subst hc1
    clear hV
    go_enter Try.func38, Try.ntmps38
    go_wp2_with (first
      | (go_at_call 59; refine HC.out.mono ?_; rintro e w1 ⟨rfl, hb⟩; have HB1 := Lib.hid hb; have cx := keep hb c0; have HS1 := Lib.hid (HS0.out.keep IntAt.stable hb); have hbl1 := cell_lt cx; clear hb)
      | (go_at_call 68; refine (HC2.out _ _ HB1.out cx HS1.out).mono ?_; rintro e w2 ⟨⟨r0, rfl, hs, hg⟩, hb⟩; have HS2 := Lib.hid hs; have HG2 := Lib.hid hg; have HB2 := Lib.hid (bThen HB1.out hb); clear hs hg hb))
    have HS3 := Lib.hid (HS2.out.keep IntAt.stable (bAlloc (Below.refl _ _) (.cells #[.int .i64 0] 3)))
    have HO3 : Hid ((w2.alloc (.cells #[.int .i64 0] 3)).ownsRow w.heap.size 3 1 (.slice (some ⟨w2.heap.size, 0, none⟩) 1 1) 1 (intV [0])) := Lib.hid (World.ownsRow_lit _ _ 1 HB2.out.size (by decide) (by rfl))
    have HB3 := Lib.hid (bAlloc HB2.out (.cells #[.int .i64 0] 3))
    go_loopw [10, 11, 44] (fun ch bg i wr => ch = r0 ∧ bg = .slice (some ⟨w2.heap.size, 0, none⟩) 1 1 ∧ i = .int .i64 0 ∧ wr = w2.alloc (.cells #[.int .i64 0] 3)) (fun _ _ _ _ => 0)
    case atStart => exact ⟨rfl, rfl, rfl, rfl⟩
    case round =>
      obtain ⟨rfl, rfl, rfl, rfl⟩ := hrel
      obtain ⟨ca, cc, rfl, -⟩ := id HS2.out
      go_wp2_with fail
      go_ret3
      rw [HV2.out]
      exact ⟨⟨_, _, rfl, HS3.out, own_slice (l := [0]) HO3.out (by decide)⟩, HB3.out⟩
  · have hc2 : (1 : Int) ≤ (c : Int) := by omega
    obtain ⟨i3, hi, hz0, hz1, hz2⟩ := info_parts infoI
    have HI := Lib.hid hi
    clear hi
    go_enter Try.func38, Try.ntmps38
    go_wp2_with (first
      | (go_at_call 59; refine HC.out.mono ?_; rintro e w1 ⟨rfl, hb⟩; have HB1 := Lib.hid hb; have cx := keep hb c0; have HS1 := Lib.hid (HS0.out.keep IntAt.stable hb); have hbl1 := cell_lt cx; clear hb)
      | (go_at_call 68; refine (HC2.out _ _ HB1.out cx HS1.out).mono ?_; rintro e w2 ⟨⟨r0, rfl, hs, hg⟩, hb⟩; have HS2 := Lib.hid hs; have HG2 := Lib.hid hg; have HB2 := Lib.hid (bThen HB1.out hb); clear hs hg hb))
    go_loopw [10, 11, 44] (fun ch bg i wr => ∃ (k : Nat) (out bgs : List Int), k ≤ m ∧ i = .int .i64 k ∧ Hid (chGo n r x (l.take k) = (0, out, bgs)) ∧ Hid (out.length ≤ 100000) ∧ Hid (SliceV wr ch 1 IntAt out) ∧ Hid (wr.ownsRow w.heap.size 3 1 bg (k + 1) (intV bgs)) ∧ Hid (∀ g, ch.ownBlock = some g → bg.ownBlock ≠ some g) ∧ Hid (Below w.heap.size w wr)) (fun _ _ i _ => m - (intOf i).toNat)
    case atStart =>
      refine ⟨0, x, [0], Nat.zero_le _, rfl, Lib.hid rfl, Lib.hid hxl, Lib.hid (HS2.out.keep IntAt.stable (bAlloc (Below.refl _ _) _)), Lib.hid (World.ownsRow_lit _ _ 1 HB2.out.size (by decide) (by rfl)), Lib.hid (fun g h e => by cases e; exact absurd (HG2.out _ h).2 (Nat.lt_irrefl _)), Lib.hid (bAlloc HB2.out _)⟩
    case round =>
      obtain ⟨k, out, bgs, hk, rfl, HGO, HOL, HCH, HBG, HNE, HB⟩ := hrel
      by_cases hlt : k < m
      · have hkl : k < l.length := by have := HM.out; omega
        obtain ⟨vx, cx0, sx0⟩ := HW.out k hkl
        have hgs := chGo_succ (n := n) (r := r) (x := x) hkl
        have hml : l[k] ∈ l := List.getElem_mem hkl
        obtain ⟨y, hy⟩ : ∃ y, y = l[k] := ⟨_, rfl⟩
        rw [← hy] at sx0 hgs hml
        rw [HGO.out] at hgs
        have HGS := Lib.hid hgs
        have hcx := keep HB.out cx0
        have HSX := Lib.hid (sx0.keep IntAt.stable HB.out)
        have HSXW := Lib.hid sx0
        have hcl := cell_lt hcx
        clear hgs cx0 sx0 hy hml
        have HLAG := Lib.hid (fun ch hch => Lag_any out y n r ch vx wr hch HSX.out (by omega) (by omega))
        obtain ⟨ad, cap, rfl⟩ := ownsRow_slice HBG.out
        obtain ⟨ca, cc, rfl, -⟩ := id HCH.out
        have HLG := Lib.hid (HLAG.out _ HCH.out)
        clear HLAG
        by_cases hle : lagErr out y n r = 0
        · have hres : lagRes out y n r = .tuple #[.int .i64 (lagv out y n.toNat r : Nat), .int .i64 (misv out y n.toNat (lagv out y n.toNat r)), .int .i64 0] := by unfold lagRes; rw [if_pos hle]
          rw [hres] at HLG
          have hok := lag_ok hle
          have hlb := lagv_le out y n r
          have HSO := Lib.hid (fun (hj : joinErr out y n (lagv out y n.toNat r : Nat) = 0) => HGS.out.trans (ch_step_ok hle hj))
          have HSE := Lib.hid (fun (hj : joinErr out y n (lagv out y n.toNat r : Nat) ≠ 0) => HGS.out.trans (ch_step_join hle hj))
          obtain ⟨lg, hlg⟩ : ∃ lg, lg = lagv out y n.toNat r := ⟨_, rfl⟩
          rw [← hlg] at HLG hlb HSO HSE
          obtain ⟨mi, hmi⟩ : ∃ mi, mi = misv out y n.toNat lg := ⟨_, rfl⟩
          rw [← hmi] at HLG
          have hol := HOL.out
          have hol2 : n ≤ (out.length : Int) := hok.2.2.2.2.1
          have hyl := hok.2.2.2.1
          have e1 : IntKind.i64.wrap ((out.length : Int) - n) = (out.length : Int) - n := IntWalk.i64_in _ (by omega)
          have HJN := Lib.hid (fun W (hB : Below w.heap.size w W) hch => Join_any out y n lg (.slice ca out.length cc) vx W hch (HSXW.out.keep IntAt.stable hB) (by omega) (by omega))
          clear hlg hmi hres hle hok
          obtain ⟨ol, hole⟩ : ∃ ol, out.length = ol := ⟨_, rfl⟩
          have HOE := Lib.hid hole
          rw [hole] at hol hol2 e1 HJN HLG HCH HNE ⊢
          clear hole
          by_cases hj : joinErr out y n (lg : Nat) = 0
          · have HSO2 := Lib.hid (HSO.out hj)
            have HJL := Lib.hid (join_len hj)
            rw [hj] at HJN
            simp only [if_true, Int.toNat_natCast] at HJN
            clear hj HSE HSO
            go_wp2_with (first
              | (go_at_call 33; with_reducible refine Calls.mono HLG.out ?_; rintro e w3 ⟨rfl, hb⟩; have HB3 := Lib.hid (bThen HB.out hb); have HBG3 := Lib.hid (ownsRow_below HBG.out hb); have HCH3 := Lib.hid (HCH.out.keep IntAt.stable hb); have hz3 := HB3.out.size; clear hb)
              | (at_builtin; refine wpList_append_lies _ rfl _ _ 22 rfl w.heap.size 3 i3 _ 1 8 Try.underlying22 HI.out hz0 hz1 hz2 rfl (by decide) (.slice ad (k + 1) cap) (k + 1) _ (by rfl) (HBG3.out.alloc _) ⟨w3.heap.size, 0, none⟩ 1 1 [.int .i64 ((ol : Int) - n)] (by rfl) (by rfl) (one_new _ _ _) (by simp [Value.oneCell']) (by omega) (by unfold maxLen; omega) (by omega) (by simp; omega) (w3.heap.size + 1) (by simp) ?_; intro g6 cap6 w6 hown hgrow hat6 hlt6; have HB6 := Lib.hid ((bAlloc HB3.out _).trans (below_grown hgrow (HBG3.out.alloc _) (by simp; omega))); have HCH6 := Lib.hid ((HCH3.out.keep IntAt.stable (bAlloc (Below.refl _ _) _)).grown hgrow HNE.out); have HG6 := Lib.hid hlt6; have HOWN := Lib.hid hown; clear hown hgrow hat6 hlt6)
              | (go_at_call 27; with_reducible refine Calls.mono (HJN.out _ HB6.out HCH6.out) ?_; rintro e w7 ⟨⟨r7, rfl, hs, hg⟩, hb⟩; have HS7 := Lib.hid hs; have HG7 := Lib.hid hg; have HOWN7 := Lib.hid (ownsRow_below HOWN.out hb); have HB7 := Lib.hid (bThen HB6.out hb); clear hs hg hb))
            go_roundw
            case rel =>
              refine ⟨k + 1, joinL out y n.toNat lg, bgs ++ [(ol : Int) - n], by omega, by go_num, Lib.hid (by rw [HSO2.out, HOE.out]), HJL, HS7, Lib.hid (by rw [intV_append]; exact HOWN7.out), Lib.hid (fun g h e => ?_), HB7⟩
              cases e
              exact absurd HG6.out (Nat.not_lt.2 (HG7.out _ h))
            case measure => simp [intOf]; omega
          · have HSE2 := HSE.out hj
            have hV : V = (joinErr out y n lg, [], []) := by rw [HV.out]; exact chGo_all HSE2 hj
            simp only [if_neg hj] at HJN
            obtain ⟨er, her⟩ : ∃ er, er = joinErr out y n lg := ⟨_, rfl⟩
            rw [← her] at HJN hj hV
            have HV2 := Lib.hid hV
            clear her hV HSE HSO HSE2
            have hb0 : (er == 0) = false := beq_eq_false_iff_ne.2 hj
            clear hj
            go_wp2_with (first
              | (go_at_call 33; with_reducible refine Calls.mono HLG.out ?_; rintro e w3 ⟨rfl, hb⟩; have HB3 := Lib.hid (bThen HB.out hb); have HBG3 := Lib.hid (ownsRow_below HBG.out hb); have HCH3 := Lib.hid (HCH.out.keep IntAt.stable hb); have hz3 := HB3.out.size; clear hb)
              | (at_builtin; refine wpList_append_lies _ rfl _ _ 22 rfl w.heap.size 3 i3 _ 1 8 Try.underlying22 HI.out hz0 hz1 hz2 rfl (by decide) (.slice ad (k + 1) cap) (k + 1) _ (by rfl) (HBG3.out.alloc _) ⟨w3.heap.size, 0, none⟩ 1 1 [.int .i64 ((ol : Int) - n)] (by rfl) (by rfl) (one_new _ _ _) (by simp [Value.oneCell']) (by omega) (by unfold maxLen; omega) (by omega) (by simp; omega) (w3.heap.size + 1) (by simp) ?_; intro g6 cap6 w6 hown hgrow hat6 hlt6; have HB6 := Lib.hid ((bAlloc HB3.out _).trans (below_grown hgrow (HBG3.out.alloc _) (by simp; omega))); have HCH6 := Lib.hid ((HCH3.out.keep IntAt.stable (bAlloc (Below.refl _ _) _)).grown hgrow HNE.out); have HG6 := Lib.hid hlt6; have HOWN := Lib.hid hown; clear hown hgrow hat6 hlt6)
              | (go_at_call 27; with_reducible refine Calls.mono (HJN.out _ HB6.out HCH6.out) ?_; rintro e w7 ⟨⟨r7, rfl, hs, hg⟩, hb⟩; have HS7 := Lib.hid hs; have HG7 := Lib.hid hg; have HOWN7 := Lib.hid (ownsRow_below HOWN.out hb); have HB7 := Lib.hid (bThen HB6.out hb); clear hs hg hb))
            go_ret3
            rw [HV2.out]
            exact ⟨⟨_, _, rfl, ⟨none, 0, rfl, ⟨Nat.zero_le _, Nat.zero_le _⟩, .inl rfl⟩, ⟨none, 0, rfl, ⟨Nat.zero_le _, Nat.zero_le _⟩, .inl rfl⟩⟩, HB7.out⟩
        · have hres : lagRes out y n r = .tuple #[.int .i64 0, .int .i64 0, .int .i64 (lagErr out y n r)] := by unfold lagRes; rw [if_neg hle]
          rw [hres] at HLG
          have hV : V = (lagErr out y n r, [], []) := by rw [HV.out]; exact chGo_all (HGS.out.trans (ch_step_lag hle)) hle
          obtain ⟨er, her⟩ : ∃ er, er = lagErr out y n r := ⟨_, rfl⟩
          rw [← her] at HLG hle hV
          have HV2 := Lib.hid hV
          clear her hres hV
          have hb0 : (er == 0) = false := beq_eq_false_iff_ne.2 hle
          clear hle
          go_wp2_with (go_at_call 33; with_reducible refine Calls.mono HLG.out ?_; rintro e w3 ⟨rfl, hb⟩; have HB3 := Lib.hid (bThen HB.out hb); clear hb)
          go_ret3
          rw [HV2.out]
          exact ⟨⟨_, _, rfl, ⟨none, 0, rfl, ⟨Nat.zero_le _, Nat.zero_le _⟩, .inl rfl⟩, ⟨none, 0, rfl, ⟨Nat.zero_le _, Nat.zero_le _⟩, .inl rfl⟩⟩, HB3.out⟩
      · obtain rfl : k = m := by omega
        obtain ⟨ad, cap, rfl⟩ := ownsRow_slice HBG.out
        obtain ⟨ca, cc, rfl, -⟩ := id HCH.out
        go_wp2_with fail
        go_ret3
        have hV : V = (0, out, bgs) := by rw [HV.out, ← HGO.out, HM.out, List.take_length]
        rw [hV]
        have hbgl := bgs_len HBG.out
        rw [← hbgl] at HBG
        exact ⟨⟨_, _, rfl, HCH.out, by rw [← hbgl]; exact own_slice HBG.out (by show bgs.length ≤ 1000000; omega)⟩, HB.out⟩
/-- Chain, whatever is handed in. -/
theorem Chain_any (n r : Int) (ws : List (List Int)) (v : Value) (w : World) (hv : SliceV w v 1 WaveAt ws) (hn : n ≤ 9223372036854775807) (hr : r ≤ 9223372036854775807) :
    Calls Try.prog 38 #[.int .i64 n, .int .i64 r, v] w fun e w' => (∃ r1 r2, e = .returned (.tuple #[r1, r2, .int .i64 (chainV n r ws).1]) ∧ SliceV w' r1 1 IntAt (chainV n r ws).2.1 ∧ SliceV w' r2 1 IntAt (chainV n r ws).2.2) ∧ Below w.heap.size w w' := by
  by_cases hlong : 500 < ws.length
  · have h : chainV n r ws = (4, [], []) := if_pos hlong
    rw [h]
    exact Chain_many n r ws v w hv hlong
  · by_cases hc : chk (chRight n r ws) ws = 0
    · cases ws with
      | nil => exact absurd (chk_right hc) (by simp [chRight])
      | cons x l =>
        rw [ch_good hlong hc]
        exact Chain_good n r x l v w hv hn hr hlong hc
    · rw [ch_bad hlong hc]
      exact Chain_refused n r ws v w hv hlong hc
end Go.Proofs.Ytbeeddenidfenaa
