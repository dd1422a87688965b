/- The law of areas. -/
import Derived.Test.YtbmbcbknoflpgaaN1
import Derived.Test.YtbmbcbknoflpgaaN2
import Derived.Test.YtbmbcbknoflpgaaJ9
set_option linter.unusedSimpArgs false
set_option linter.unusedVariables false
namespace Go.Proofs.Ytbmbcbknoflpgaa
open Go.RowKit

theorem sl_cell {w : World} {b o n c : Nat} {xs : List Int} (h : SliceV w (.slice (some ⟨b, o, none⟩) n c) 1 IntAt xs) {k : Nat} (hk : k < xs.length) : w.cell? ⟨b, o + k, none⟩ = some (.int .i64 (xs.getD k 0)) := by
  obtain ⟨b2, o2, he, hf⟩ := h.at (by intro e; rw [e] at hk; simp at hk)
  cases he
  have := hf k hk
  unfold IntAt at this
  rwa [Nat.mul_one, ← gI hk] at this
theorem wv_cell {w : World} {b o n c : Nat} {ls : List (List Int)} (h : SliceV w (.slice (some ⟨b, o, none⟩) n c) 1 WaveAt ls) {k : Nat} (hk : k < ls.length) : ∃ v, w.cell? ⟨b, o + k, none⟩ = some v ∧ SliceV w v 1 IntAt ls[k] := by
  obtain ⟨b2, o2, he, hf⟩ := h.at (by intro e; rw [e] at hk; simp at hk)
  cases he
  have := hf k hk
  unfold WaveAt at this
  rwa [Nat.mul_one] at this
set_option maxRecDepth 10000 in
set_option maxHeartbeats 8000000 in
theorem law11_any (rest : List Int) (l : List Ges) (T : Int) (va vb : Value) (w : World) (hk : ∀ w, Calls Try.prog 17 #[] w fun e w' => e = .returned (.bool true) ∧ Below w.heap.size w w') (ha : SliceV w va 1 IntAt rest) (hb : SliceV w vb 6 GesAt l) :
    Calls Try.prog 11 #[va, vb, .int .i64 T] w fun e w' => e = .returned (.bool true) ∧ Below w.heap.size w w' := by
  have HK := Lib.hid hk
  have HA := Lib.hid ha
  have HL := Lib.hid hb
  have HG := Lib.hid (fun W (hB : Below w.heap.size w W) => refGestures_any rest l va vb W (ha.keep IntAt.stable hB) (hb.keep GesAt.stable hB))
  have HAR0 := Lib.hid (Areas_any rest l T va vb w ha hb)
  have HRA := Lib.hid (fun (N : Nat) (h1 : scoOk rest l = true) (h2 : N ≤ 100000) W (hB : Below w.heap.size w W) => refAreas_any rest l va vb N W (ha.keep IntAt.stable hB) (hb.keep GesAt.stable hB) h1 h2)
  obtain ⟨a, c, rfl, hl1, -⟩ := ha
  obtain ⟨b, d, rfl, hl2, -⟩ := hb
  unfold most at hl1 hl2
  clear hk
  by_cases h1 : rest.length ≤ 40
  case neg =>
    have h11 : (rest.length : Int) > 40 := by omega
    clear HA HL HG HAR0 HRA
    go_enter Try.func11, Try.ntmps11
    go_wp2_with (go_at_call 17; with_reducible refine Calls.mono (HK.out _) ?_; rintro e w1 ⟨rfl, hb⟩; have HB := Lib.hid hb; clear hb)
    all_goals first
      | (exfalso; omega)
      | (go_ret; exact ⟨rfl, HB.out⟩)
  have h11 : ¬ (rest.length : Int) > 40 := by omega
  by_cases h2 : 20 < l.length ∧ l.length ≤ 100
  · have h21 : (l.length : Int) > 20 := by omega
    have h22 : (l.length : Int) ≤ 100 := by omega
    clear HA HL HG HAR0 HRA h2
    go_enter Try.func11, Try.ntmps11
    go_wp2_with (go_at_call 17; with_reducible refine Calls.mono (HK.out _) ?_; rintro e w1 ⟨rfl, hb⟩; have HB := Lib.hid hb; clear hb)
    all_goals first
      | (exfalso; omega)
      | (go_ret; exact ⟨rfl, HB.out⟩)
  by_cases h3 : 200 < l.length
  · have h21 : (l.length : Int) > 20 := by omega
    have h22 : ¬ (l.length : Int) ≤ 100 := by omega
    have h23 : (l.length : Int) > 200 := by omega
    clear HA HL HG HAR0 HRA h2 h3
    go_enter Try.func11, Try.ntmps11
    go_wp2_with (go_at_call 17; with_reducible refine Calls.mono (HK.out _) ?_; rintro e w1 ⟨rfl, hb⟩; have HB := Lib.hid hb; clear hb)
    all_goals first
      | (exfalso; omega)
      | (go_ret; exact ⟨rfl, HB.out⟩)
  have h31 : ¬ (l.length : Int) > 200 := by omega
  by_cases h4 : 60 < T ∧ T ≤ 100000
  · have h41 : T > 60 := by omega
    have h42 : T ≤ 100000 := by omega
    clear HA HL HG HAR0 HRA h4
    rcases (show l.length ≤ 20 ∨ 100 < l.length by omega) with h5 | h5
    · have h51 : ¬ (l.length : Int) > 20 := by omega
      clear h2 h3 h5
      go_enter Try.func11, Try.ntmps11
      go_wp2_with (go_at_call 17; with_reducible refine Calls.mono (HK.out _) ?_; rintro e w1 ⟨rfl, hb⟩; have HB := Lib.hid hb; clear hb)
      all_goals first
        | (exfalso; omega)
        | (go_ret; exact ⟨rfl, HB.out⟩)
    · have h51 : (l.length : Int) > 20 := by omega
      have h52 : ¬ (l.length : Int) ≤ 100 := by omega
      clear h2 h3 h5
      go_enter Try.func11, Try.ntmps11
      go_wp2_with (go_at_call 17; with_reducible refine Calls.mono (HK.out _) ?_; rintro e w1 ⟨rfl, hb⟩; have HB := Lib.hid hb; clear hb)
      all_goals first
        | (exfalso; omega)
        | (go_ret; exact ⟨rfl, HB.out⟩)
  cases hok : scoOk rest l
  · have HAR : Hid (Calls Try.prog 40 #[.slice a rest.length c, .slice b l.length d, .int .i64 T] w fun e w' => e = .returned (.tuple #[.slice none 0 0, .int .i64 2]) ∧ Below w.heap.size w w') := Lib.hid (HAR0.out.mono fun e w' ⟨hp, hb⟩ => ⟨by
      rcases hp with ⟨_, h⟩ | ⟨h, _⟩ | ⟨h, _⟩
      · exact h
      · exact Bool.noConfusion (hok.symm.trans h)
      · exact Bool.noConfusion (hok.symm.trans h), hb⟩)
    rw [hok] at HG
    clear HA HL HAR0 HRA hok
    rcases (show T ≤ 60 ∨ 100000 < T by omega) with h6 | h6
    · have h61 : ¬ T > 60 := by omega
      rcases (show l.length ≤ 20 ∨ 100 < l.length by omega) with h5 | h5
      · have h51 : ¬ (l.length : Int) > 20 := by omega
        clear h2 h3 h5 h4
        go_enter Try.func11, Try.ntmps11
        go_wp2_with (first
          | (go_at_call 40; with_reducible refine Calls.mono (HAR.out) ?_; rintro e w1 ⟨rfl, hb⟩; have HB1 := Lib.hid hb; clear hb)
          | (go_at_call 41; with_reducible refine Calls.mono (HG.out _ HB1.out) ?_; rintro e w2 ⟨rfl, hb⟩; have HB2 := Lib.hid (bThen HB1.out hb); clear hb)
          | (go_at_call 17; with_reducible refine Calls.mono (HK.out _) ?_; rintro e w3 ⟨rfl, hb⟩; have HB := Lib.hid hb; clear hb))
        all_goals first
          | (exfalso; omega)
          | (go_ret; exact ⟨rfl, bThen HB2.out HB.out⟩)
      · have h51 : (l.length : Int) > 20 := by omega
        have h52 : ¬ (l.length : Int) ≤ 100 := by omega
        clear h2 h3 h5 h4
        go_enter Try.func11, Try.ntmps11
        go_wp2_with (first
          | (go_at_call 40; with_reducible refine Calls.mono (HAR.out) ?_; rintro e w1 ⟨rfl, hb⟩; have HB1 := Lib.hid hb; clear hb)
          | (go_at_call 41; with_reducible refine Calls.mono (HG.out _ HB1.out) ?_; rintro e w2 ⟨rfl, hb⟩; have HB2 := Lib.hid (bThen HB1.out hb); clear hb)
          | (go_at_call 17; with_reducible refine Calls.mono (HK.out _) ?_; rintro e w3 ⟨rfl, hb⟩; have HB := Lib.hid hb; clear hb))
        all_goals first
          | (exfalso; omega)
          | (go_ret; exact ⟨rfl, bThen HB2.out HB.out⟩)
    · have h61 : T > 60 := by omega
      have h62 : ¬ T ≤ 100000 := by omega
      rcases (show l.length ≤ 20 ∨ 100 < l.length by omega) with h5 | h5
      · have h51 : ¬ (l.length : Int) > 20 := by omega
        clear h2 h3 h5 h4
        go_enter Try.func11, Try.ntmps11
        go_wp2_with (first
          | (go_at_call 40; with_reducible refine Calls.mono (HAR.out) ?_; rintro e w1 ⟨rfl, hb⟩; have HB1 := Lib.hid hb; clear hb)
          | (go_at_call 41; with_reducible refine Calls.mono (HG.out _ HB1.out) ?_; rintro e w2 ⟨rfl, hb⟩; have HB2 := Lib.hid (bThen HB1.out hb); clear hb)
          | (go_at_call 17; with_reducible refine Calls.mono (HK.out _) ?_; rintro e w3 ⟨rfl, hb⟩; have HB := Lib.hid hb; clear hb))
        all_goals first
          | (exfalso; omega)
          | (go_ret; exact ⟨rfl, bThen HB2.out HB.out⟩)
      · have h51 : (l.length : Int) > 20 := by omega
        have h52 : ¬ (l.length : Int) ≤ 100 := by omega
        clear h2 h3 h5 h4
        go_enter Try.func11, Try.ntmps11
        go_wp2_with (first
          | (go_at_call 40; with_reducible refine Calls.mono (HAR.out) ?_; rintro e w1 ⟨rfl, hb⟩; have HB1 := Lib.hid hb; clear hb)
          | (go_at_call 41; with_reducible refine Calls.mono (HG.out _ HB1.out) ?_; rintro e w2 ⟨rfl, hb⟩; have HB2 := Lib.hid (bThen HB1.out hb); clear hb)
          | (go_at_call 17; with_reducible refine Calls.mono (HK.out _) ?_; rintro e w3 ⟨rfl, hb⟩; have HB := Lib.hid hb; clear hb))
        all_goals first
          | (exfalso; omega)
          | (go_ret; exact ⟨rfl, bThen HB2.out HB.out⟩)
  · obtain ⟨p1, p2, p3, p4, p5⟩ := sco_parts hok
    rw [hok] at HG
    have h51 : ¬ (l.length : Int) > 20 := by omega
    by_cases h6 : T < 0
    · have HAR : Hid (Calls Try.prog 40 #[.slice a rest.length c, .slice b l.length d, .int .i64 T] w fun e w' => e = .returned (.tuple #[.slice none 0 0, .int .i64 2]) ∧ Below w.heap.size w w') := Lib.hid (HAR0.out.mono fun e w' ⟨hp, hb⟩ => ⟨by
        rcases hp with ⟨_, h⟩ | ⟨_, h, _⟩ | ⟨_, h, _⟩
        · exact h
        · omega
        · omega, hb⟩)
      have h61 : ¬ T > 60 := by omega
      clear HA HL HAR0 HRA hok h2 h3 h4 p1 p2 p3 p4 p5
      go_enter Try.func11, Try.ntmps11
      go_wp2_with (first
        | (go_at_call 40; with_reducible refine Calls.mono (HAR.out) ?_; rintro e w1 ⟨rfl, hb⟩; have HB1 := Lib.hid hb; clear hb)
        | (go_at_call 41; with_reducible refine Calls.mono (HG.out _ HB1.out) ?_; rintro e w2 ⟨rfl, hb⟩; have HB2 := Lib.hid (bThen HB1.out hb); clear hb)
        | (go_at_call 17; with_reducible refine Calls.mono (HK.out _) ?_; rintro e w3 ⟨rfl, hb⟩; have HB := Lib.hid hb; clear hb))
      all_goals first
        | (exfalso; omega)
        | (go_ret; exact ⟨rfl, bThen HB2.out HB.out⟩)
    · by_cases h7 : 100000 < T
      · have HAR : Hid (Calls Try.prog 40 #[.slice a rest.length c, .slice b l.length d, .int .i64 T] w fun e w' => e = .returned (.tuple #[.slice none 0 0, .int .i64 4]) ∧ Below w.heap.size w w') := Lib.hid (HAR0.out.mono fun e w' ⟨hp, hb⟩ => ⟨by
          rcases hp with ⟨h, _⟩ | ⟨_, _, _, h⟩ | ⟨_, _, h, _⟩
          · rcases h with h | h
            · exact Bool.noConfusion (hok.symm.trans h)
            · omega
          · exact h
          · exact absurd (.inl h7) h, hb⟩)
        have h61 : T > 60 := by omega
        have h62 : ¬ T ≤ 100000 := by omega
        clear HA HL HAR0 HRA hok h2 h3 h4 p1 p2 p3 p4 p5
        go_enter Try.func11, Try.ntmps11
        go_wp2_with (first
          | (go_at_call 40; with_reducible refine Calls.mono (HAR.out) ?_; rintro e w1 ⟨rfl, hb⟩; have HB1 := Lib.hid hb; clear hb)
          | (go_at_call 41; with_reducible refine Calls.mono (HG.out _ HB1.out) ?_; rintro e w2 ⟨rfl, hb⟩; have HB2 := Lib.hid (bThen HB1.out hb); clear hb)
          | (go_at_call 17; with_reducible refine Calls.mono (HK.out _) ?_; rintro e w3 ⟨rfl, hb⟩; have HB := Lib.hid hb; clear hb))
        all_goals first
          | (exfalso; omega)
          | (go_ret; exact ⟨rfl, bThen HB2.out HB.out⟩)
      · obtain ⟨N, rfl⟩ : ∃ N : Nat, T = (N : Int) := ⟨T.toNat, by omega⟩
        have hN : N ≤ 60 := by omega
        have hmul : (N : Int) * rest.length ≤ 60 * 24 := Int.mul_le_mul (by omega) (by omega) (by omega) (by omega)
        have hmul0 : 0 ≤ (N : Int) * rest.length := Int.mul_nonneg (by omega) (by omega)
        have HAR : Hid (Calls Try.prog 40 #[.slice a rest.length c, .slice b l.length d, .int .i64 (N : Int)] w fun e w' => (∃ oa oc, e = .returned (.tuple #[.slice oa N oc, .int .i64 0]) ∧ SliceV w' (.slice oa N oc) 1 WaveAt ((List.range N).map (arL rest l))) ∧ Below w.heap.size w w') := Lib.hid (HAR0.out.mono fun e w' ⟨hp, hb⟩ => ⟨by
          rcases hp with ⟨h, _⟩ | ⟨_, _, h, _⟩ | ⟨_, _, _, v, he, hs⟩
          · rcases h with h | h
            · exact Bool.noConfusion (hok.symm.trans h)
            · omega
          · omega
          · rw [Int.toNat_natCast] at hs
            obtain ⟨oa, oc, rfl, hx⟩ := id hs
            rw [List.length_map, List.length_range] at he hs
            exact ⟨oa, oc, he, hs⟩, hb⟩)
        have HRB := Lib.hid (fun W hB => HRA.out N hok (by omega) W hB)
        have HNE : Hid (0 < rest.length) := Lib.hid p1
        have HOK := Lib.hid hok
        obtain ⟨mu, hmu⟩ : ∃ mu, (N : Int) * rest.length = mu := ⟨_, rfl⟩
        have u1 : IntKind.i64.wrap ((N : Int) * rest.length) = mu := by rw [hmu]; exact IntWalk.i64_in _ (by omega)
        rw [hmu] at hmul hmul0
        have h61 : ¬ (N : Int) > 60 := by omega
        have h63 : ¬ (N : Int) > 100000 := by omega
        have h64 : ¬ mu > 200000 := by omega
        obtain ⟨b0, o0, rfl, -⟩ := HA.out.at (by intro h; rw [h] at p1; simp at p1)
        have hr0 : (0 : Int) < (rest.length : Int) := by omega
        clear HAR0 HRA hok h2 h3 h4 p1 p3 p4 p5 hmu hmul hmul0 h7
        go_enter Try.func11, Try.ntmps11
        go_wp2_with (first
          | (go_at_call 40; with_reducible refine Calls.mono (HAR.out) ?_; rintro e w1 ht; obtain ⟨⟨oa, oc, rfl, hs⟩, hb⟩ := ht; have HB1 := Lib.hid hb; have HS1 := Lib.hid hs; clear hb hs)
          | (go_at_call 41; with_reducible refine Calls.mono (HG.out _ HB1.out) ?_; rintro e w2 ⟨rfl, hb⟩; have HB2 := Lib.hid (bThen HB1.out hb); have HS2 := Lib.hid (HS1.out.keep WaveAt.stable hb); clear hb)
          | (go_at_call 42; (with_reducible refine Calls.mono (HRB.out _ HB2.out) ?_; rintro e w3 ht; obtain ⟨⟨ra, rc, rfl, hs⟩, hb⟩ := ht; have HB3 := Lib.hid (bThen HB2.out hb); have HS3 := Lib.hid (HS2.out.keep WaveAt.stable hb); have HT3 := Lib.hid hs; have r0 := sl_cell (HA.out.keep IntAt.stable HB3.out) (k := 0) HNE.out; rw [Nat.add_zero] at r0; have r1 := cell_lt r0; clear hb hs)))
        obtain ⟨rv, hrv⟩ : ∃ rv, rest.getD 0 0 = rv := ⟨_, rfl⟩
        rw [hrv] at r0
        clear hrv h61 h63 h64 u1
        go_quiet (fail)
        go_wp2_with fail
        go_loopw [13, 11, 12] (fun i lo hi wr => ∃ (k : Nat) (lw hw : Int), k ≤ rest.length ∧ i = .int .i64 k ∧ lo = .int .i64 lw ∧ hi = .int .i64 hw ∧ Hid (∀ j, j < k → lw ≤ rest.getD j 0 ∧ rest.getD j 0 ≤ hw) ∧ Hid (Below w3.heap.size w3 wr)) (fun i _ _ _ => rest.length - (intOf i).toNat)
        case atStart => exact ⟨0, rv, rv, Nat.zero_le _, rfl, rfl, rfl, Lib.hid (by intro j hj; omega), Lib.hid (bDrew (Below.refl _ _) _)⟩
        case round =>
          obtain ⟨k, lw, hw, hk, rfl, rfl, rfl, HKK, HB⟩ := hrel
          clear r0 r1
          by_cases hlt : k < rest.length
          · have hkk : (k : Int) < (rest.length : Int) := by omega
            have k0 := sl_cell (HA.out.keep IntAt.stable (bThen HB3.out HB.out)) hlt
            have k1 := cell_lt k0
            obtain ⟨x, hx⟩ : ∃ x, rest.getD k 0 = x := ⟨_, rfl⟩
            rw [hx] at k0
            have HX := Lib.hid hx
            clear hx
            go_wp2_with fail
            go_quiet (fail)
            go_wp2_with fail
            go_roundw
            case rel => exact ⟨k + 1, min lw x, max hw x, by omega, by go_num, rfl, rfl, Lib.hid (by
              intro j hj
              by_cases h : j < k
              · have := HKK.out j h; omega
              · obtain rfl : j = k := by omega
                rw [HX.out]; omega), Lib.hid (bDrew HB.out _)⟩
            case measure => simp [intOf]; omega
          · obtain rfl : k = rest.length := by omega
            obtain ⟨w4, hw4⟩ : ∃ w4, w4 = wr := ⟨_, rfl⟩
            subst hw4
            have HB4 := Lib.hid (bThen HB3.out HB.out)
            have HR4 := HKK
            have HS4 := Lib.hid (HS3.out.keep WaveAt.stable HB.out)
            have HT4 := Lib.hid (HT3.out.keep WaveAt.stable HB.out)
            clear HS3 HT3
            go_wp2_with fail
            go_loopw [14, 11, 12] (fun i lo hi wr => ∃ (k : Nat) (lw hw : Int), k ≤ l.length ∧ i = .int .i64 k ∧ lo = .int .i64 lw ∧ hi = .int .i64 hw ∧ Hid (∀ j, j < rest.length → lw ≤ rest.getD j 0 ∧ rest.getD j 0 ≤ hw) ∧ Hid (∀ g ∈ l.take k, lw ≤ g.area ∧ g.area ≤ hw) ∧ Hid (Below w4.heap.size w4 wr)) (fun i _ _ _ => l.length - (intOf i).toNat)
            case atStart => exact ⟨0, lw, hw, Nat.zero_le _, rfl, rfl, rfl, HR4, Lib.hid (by intro g hg; simp at hg), Lib.hid (Below.refl _ _)⟩
            case round =>
              clear HR4 HKK HB
              obtain ⟨k, lw, hw, hk, rfl, rfl, rfl, HRR, HGG, HB⟩ := hrel
              by_cases hlt : k < l.length
              · obtain ⟨b2, o2, rfl, hf2⟩ := (HL.out.keep GesAt.stable (bThen HB4.out HB.out)).at (by intro h; simp [h] at hlt)
                obtain ⟨-, -, -, -, k4, -⟩ := hf2 k hlt
                have HTK : Hid (l.take (k + 1) = l.take k ++ [l[k]]) := Lib.hid (take_succ l k hlt)
                have hkk : (k : Int) < (l.length : Int) := by omega
                clear hf2
                generalize l[k] = x at *
                obtain ⟨ya, hya⟩ : ∃ ya, x.area = ya := ⟨_, rfl⟩
                have HYA := Lib.hid hya
                unfold IntAt at k4
                rw [hya] at k4
                have hkb := cell_lt k4
                clear hya
                go_wp2_with fail
                go_quiet (fail)
                go_wp2_with fail
                go_roundw
                case rel => exact ⟨k + 1, min lw ya, max hw ya, by omega, by go_num, rfl, rfl, Lib.hid (by
                  intro j hj
                  have := HRR.out j hj; omega), Lib.hid (by
                  intro g hg
                  rw [HTK.out] at hg
                  rcases List.mem_append.1 hg with h | h
                  · have := HGG.out g h; omega
                  · obtain rfl := List.mem_singleton.1 h
                    rw [HYA.out]; omega), Lib.hid (bDrew HB.out _)⟩
                case measure => simp [intOf]; omega
              · obtain rfl : k = l.length := by omega
                rw [List.take_length] at HGG
                have HIN : Hid (∀ t s, s < rest.length → lw ≤ (arL rest l t).getD s 0 ∧ (arL rest l t).getD s 0 ≤ hw) := Lib.hid (fun t s hs => arL_in HOK.out HRR.out HGG.out t s hs)
                obtain ⟨w5, hw5⟩ : ∃ w5, w5 = wr := ⟨_, rfl⟩
                subst hw5
                have HB35 := Lib.hid (bThen HB4.out HB.out)
                have HS5 := Lib.hid (HS4.out.keep WaveAt.stable HB.out)
                have HT5 := Lib.hid (HT4.out.keep WaveAt.stable HB.out)
                clear HS4 HT4 HB HB4 HRR HGG HL HA
                go_wp2_with fail
                go_loopw [15] (fun i wr => ∃ t : Nat, t ≤ N ∧ i = .int .i64 t ∧ Hid (Below w5.heap.size w5 wr)) (fun i _ => N - (intOf i).toNat)
                case atStart => exact ⟨0, Nat.zero_le _, rfl, Lib.hid (Below.refl _ _)⟩
                case round =>
                  obtain ⟨t, ht, rfl, HBT⟩ := hrel
                  by_cases hlt : t < N
                  · have htt : (t : Int) < (N : Int) := by omega
                    have HS6 := Lib.hid (HS5.out.keep WaveAt.stable HBT.out)
                    have HT6 := Lib.hid (HT5.out.keep WaveAt.stable HBT.out)
                    obtain ⟨ab, ao, rfl, -⟩ := HS6.out.at (by intro h; have := congrArg List.length h; simp at this; omega)
                    obtain ⟨rb, ro, rfl, -⟩ := HT6.out.at (by intro h; have := congrArg List.length h; simp at this; omega)
                    obtain ⟨va1, k0, ks⟩ := wv_cell HS6.out (k := t) (by simp; exact hlt)
                    obtain ⟨vb1, j0, js⟩ := wv_cell HT6.out (k := t) (by simp; exact hlt)
                    rw [List.getElem_map, List.getElem_range] at ks js
                    obtain ⟨aa, ac, rfl, -⟩ := id ks
                    obtain ⟨ba, bc, rfl, -⟩ := id js
                    have HSM := Lib.hid (fun x : BW wr => by have h := Same_any (arL rest l t) (arL rest l t) _ _ x.val (ks.keep IntAt.stable x.2) (js.keep IntAt.stable x.2); rw [decide_eq_true rfl] at h; exact h)
                    rw [arL_len] at k0 j0 ks HSM
                    have k1 := cell_lt k0
                    have j1 := cell_lt j0
                    have K0 := Lib.hid k0
                    have KS := Lib.hid ks
                    clear js ks
                    go_wp2_with fail
                    refine wp_opaque fun Q2 hQ2 => ?_
                    (refine wp_region_below (by kernel_rfl) (by kernel_rfl) ?_; (repeat (first | go_big_quiet_step (with_reducible exact toB HSM.out _) | quiet_step (with_reducible exact toB HSM.out _))); (refine wpQuiet_nil ?_; intro _ hw'; obtain ⟨xq, hw''⟩ := hw'; subst hw''))
                    refine hQ2 _ _ _ ?_
                    have HB7 := Lib.hid (bThen HBT.out xq.2)
                    have KS7 := Lib.hid (KS.out.keep IntAt.stable xq.2)
                    have K7 := Lib.hid (keep xq.2 K0.out)
                    generalize xq.val = w7 at *
                    clear k0 k1 j0 j1 K0 KS HSM HS6 HT6
                    go_wp2_with fail
                    go_loopw [16] (fun i wr => ∃ s : Nat, s ≤ rest.length ∧ i = .int .i64 s ∧ Hid (Below w7.heap.size w7 wr)) (fun i _ => rest.length - (intOf i).toNat)
                    case atStart => exact ⟨0, Nat.zero_le _, rfl, Lib.hid (Below.refl _ _)⟩
                    case round =>
                      obtain ⟨s, hs, rfl, HBS⟩ := hrel
                      have k0 := keep HBS.out K7.out
                      have k1 := cell_lt k0
                      by_cases hsl : s < rest.length
                      · have hss : (s : Int) < (rest.length : Int) := by omega
                        have hin := HIN.out t s hsl
                        have KS8 := KS7.out.keep IntAt.stable HBS.out
                        rw [← arL_len rest l t] at KS8
                        obtain ⟨b3, o3, rfl, -⟩ := KS8.at (by intro h; have h2 := congrArg List.length h; rw [arL_len] at h2; simp only [List.length_nil] at h2; omega)
                        have x0 := sl_cell KS8 (k := s) (by rw [arL_len]; exact hsl)
                        have x1 := cell_lt x0
                        obtain ⟨x, hx⟩ : ∃ x, (arL rest l t).getD s 0 = x := ⟨_, rfl⟩
                        rw [hx] at x0 hin
                        have i1 : ¬ x < lw := by omega
                        have i2 : ¬ x > hw := by omega
                        clear hx hin KS8
                        go_wp2_with fail
                        go_roundw
                        case rel => exact ⟨s + 1, by omega, by go_num, HBS⟩
                        case measure => simp [intOf]; omega
                      · obtain rfl : s = rest.length := by omega
                        go_wp2_with fail
                        go_roundw
                        case rel => exact ⟨t + 1, by omega, by go_num, Lib.hid (bThen HB7.out HBS.out)⟩
                        case measure => simp [intOf]; omega
                  · obtain rfl : t = N := by omega
                    go_wp2_with (go_at_call 17; with_reducible refine Calls.mono (HK.out _) ?_; rintro e wk ⟨rfl, hb⟩; have HBK := Lib.hid hb; clear hb)
                    go_ret
                    exact ⟨rfl, bThen (bThen HB35.out HBT.out) HBK.out⟩
end Go.Proofs.Ytbmbcbknoflpgaa
