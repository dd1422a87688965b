/- The law of chains, given the examples. -/
import Derived.Test.YtbeeddenidfenaaD6
import Derived.Test.YtbeeddenidfenaaF1
import Derived.Deep.Cut
set_option linter.unusedSimpArgs false
set_option linter.unusedVariables false
namespace Go.Proofs.Ytbeeddenidfenaa
open Go.RowKit

theorem ch_long {n r : Int} {ws : List (List Int)} (h : (decide (500 < (ws.length : Int)) || ws.any waveBig) = true) : chainV n r ws = (4, [], []) := by
  by_cases h1 : 500 < ws.length
  · exact if_pos h1
  · have h2 : ws.any waveBig = true := by
      rw [Bool.or_eq_true, decide_eq_true_eq] at h
      rcases h with h | h
      · omega
      · exact h
    have h3 : chk (chRight n r ws) ws = 4 := by unfold chk; rw [if_pos h2]
    rw [ch_bad h1 (by rw [h3]; decide), h3]
theorem any_bad {ws : List (List Int)} : ws.any waveBad = !ws.all waveOk := any_not _ _
theorem ch_wrong {n r : Int} {ws : List (List Int)} (h : (decide (500 < (ws.length : Int)) || ws.any waveBig) = false) (hr : (chRight n r ws && ws.all waveOk) = false) : chainV n r ws = (2, [], []) := by
  rw [Bool.or_eq_false_iff, decide_eq_false_iff_not] at h
  have h3 : chk (chRight n r ws) ws = 2 := by
    unfold chk
    rw [h.2, if_neg (by decide), any_bad, if_pos]
    rw [Bool.and_eq_false_iff] at hr
    rcases hr with hr | hr <;> rw [hr] <;> simp
  rw [ch_bad (by omega) (by rw [h3]; decide), h3]
theorem ch_fine {n r : Int} {ws : List (List Int)} (h : (decide (500 < (ws.length : Int)) || ws.any waveBig) = false) (hr : (chRight n r ws && ws.all waveOk) = true) : ∃ x l, ws = x :: l ∧ chainV n r ws = chGo n r x l ∧ 1 ≤ n ∧ 0 ≤ r ∧ ws.length ≤ 500 ∧ (∀ y ∈ ws, Sm y) ∧ (∀ y ∈ ws, y.length ≤ 100000) := by
  rw [Bool.or_eq_false_iff, decide_eq_false_iff_not] at h
  rw [Bool.and_eq_true] at hr
  have hr1 := hr.1
  simp only [chRight, Bool.and_eq_true, decide_eq_true_eq] at hr1
  have h3 : chk (chRight n r ws) ws = 0 := by
    unfold chk
    rw [h.2, if_neg (by decide), any_bad, hr.1, hr.2, if_neg (by decide)]
  cases ws with
  | nil => simp at hr1
  | cons x l =>
    refine ⟨x, l, rfl, ch_good (by omega) h3, hr1.1.1, hr1.1.2, by omega, fun y hy => sm_of (List.all_eq_true.1 hr.2 y hy), fun y hy => ?_⟩
    have := List.any_eq_false.1 h.2 y hy
    simp [waveBig] at this
    omega
/-- What Chain hands back, its slices written out. -/
theorem chain_out {f : FuncId} {args : Array Value} {w : World} {l1 l2 : List Int} {t : Int} (h : Calls Try.prog f args w fun e w' => (∃ r1 r2, e = .returned (.tuple #[r1, r2, .int .i64 t]) ∧ SliceV w' r1 1 IntAt l1 ∧ SliceV w' r2 1 IntAt l2) ∧ Below w.heap.size w w') :
    Calls Try.prog f args w fun e w' => (∃ ra rc qa qc, e = .returned (.tuple #[.slice ra l1.length rc, .slice qa l2.length qc, .int .i64 t]) ∧ SliceV w' (.slice ra l1.length rc) 1 IntAt l1 ∧ SliceV w' (.slice qa l2.length qc) 1 IntAt l2) ∧ Below w.heap.size w w' :=
  h.mono fun e w' ⟨⟨r1, r2, he, h1, h2⟩, hb⟩ => by
    obtain ⟨ra, rc, rfl, k1⟩ := id h1
    obtain ⟨qa, qc, rfl, k2⟩ := id h2
    exact ⟨⟨ra, rc, qa, qc, he, h1, h2⟩, hb⟩
set_option maxRecDepth 10000 in
set_option maxHeartbeats 4000000 in
theorem law9_any (n r : Int) (ws : List (List Int)) (v : Value) (w : World) (hK : Known) (hv : SliceV w v 1 WaveAt ws) (hn : -9223372036854775808 ≤ n ∧ n ≤ 9223372036854775807) (hr : -9223372036854775808 ≤ r ∧ r ≤ 9223372036854775807) :
    Calls Try.prog 9 #[.int .i64 n, .int .i64 r, v] w fun e w' => e = .returned (.bool true) ∧ Below w.heap.size w w' := by
  have HK : Hid (∀ W, Calls Try.prog 18 #[] W fun e w' => e = .returned (.bool true) ∧ Below W.heap.size W w') := Lib.hid hK
  have HV := Lib.hid hv
  have HCH := Lib.hid (chain_out (Chain_any n r ws v w hv hn.2 hr.2))
  obtain ⟨a, c, rfl, hl, -⟩ := id hv
  unfold most at hl
  clear hv hK
  obtain ⟨m, hm⟩ : ∃ m, m = ws.length := ⟨_, rfl⟩
  have HM := Lib.hid hm
  rw [← hm] at hl HV HCH ⊢
  clear hm
  by_cases g1 : (600 : Int) < m
  · have g2 : (6 : Int) < m := by omega
    have g3 : ¬ (m : Int) ≤ 500 := by omega
    go_enter Try.func9, Try.ntmps9
    go_wp2_with (first
      | (go_at_call 18; with_reducible refine Calls.mono (HK.out _) ?_; rintro e wk ⟨rfl, hb⟩; have HBK := Lib.hid hb; clear hb))
    go_ret
    exact ⟨rfl, HBK.out⟩
  · by_cases g2 : (6 : Int) < m ∧ (m : Int) ≤ 500
    · obtain ⟨g2, g3⟩ := g2
      go_enter Try.func9, Try.ntmps9
      go_wp2_with (first
        | (go_at_call 18; with_reducible refine Calls.mono (HK.out _) ?_; rintro e wk ⟨rfl, hb⟩; have HBK := Lib.hid hb; clear hb))
      go_ret
      exact ⟨rfl, HBK.out⟩
    · obtain ⟨lb, hlb⟩ : ∃ lb, lb = decide (500 < (m : Int)) := ⟨_, rfl⟩
      obtain ⟨rb, hrb⟩ : ∃ rb, rb = chRight n r ws := ⟨_, rfl⟩
      have HLB := Lib.hid hlb
      have HRB := Lib.hid hrb
      have HBX := Lib.hid (Below.refl w.heap.size w)
      clear hlb hrb
      go_enter Try.func9, Try.ntmps9
      go_upto_region 1 with (fail)
      go_cut [28] from 16 (fun s28 wc => s28 = .bool false ∧ wc = w)
      case first =>
        by_cases g3 : (6 : Int) < m
        · have g4 : ¬ (m : Int) ≤ 500 := fun h => g2 ⟨g3, h⟩
          go_wp2_with fail
          go_meet
          case rel => exact ⟨rfl, rfl⟩
        · go_wp2_with fail
          go_meet
          case rel => exact ⟨rfl, rfl⟩
      case rest =>
        obtain ⟨rfl, rfl⟩ := hcut
        go_upto_region 3 with (fail)
        go_cut [7, 8] from 16 (fun s7 s8 wc2 => s7 = .bool lb ∧ s8 = .bool rb ∧ wc2 = wc)
        case first =>
          have hl2 := HLB.out
          have hr2 := HRB.out
          unfold chRight at hr2
          rw [← HM.out] at hr2
          by_cases k1 : 1 ≤ n
          · by_cases k2 : 0 ≤ r
            · go_wp2_with fail
              go_meet
              case rel => exact ⟨by rw [hl2], (by rw [hr2]; first | (simp [k1, k2]; done) | (simp [k1, k2]; omega) | (simp; intros; omega)), rfl⟩
            · go_wp2_with fail
              go_meet
              case rel => exact ⟨by rw [hl2], (by rw [hr2]; first | (simp [k1, k2]; done) | (simp [k1, k2]; omega) | (simp; intros; omega)), rfl⟩
          · go_wp2_with fail
            go_meet
            case rel => exact ⟨by rw [hl2], (by rw [hr2]; first | (simp [k1]; done) | (simp [k1]; omega) | (simp; intros; omega)), rfl⟩
        case rest =>
          obtain ⟨rfl, rfl, rfl⟩ := hcut
          go_wp2_with fail
          go_loopw [7, 8, 9] (fun s7 s8 i wr => ∃ (k : Nat) (l2 r2 : Bool), k ≤ m ∧ i = .int .i64 k ∧ s7 = .bool l2 ∧ s8 = .bool r2 ∧ Hid (l2 = (lb || (ws.take k).any waveBig)) ∧ Hid (r2 = (rb && (ws.take k).all waveOk)) ∧ wr = wc) (fun _ _ i _ => m - (intOf i).toNat)
          case atStart => exact ⟨0, lb, rb, Nat.zero_le _, rfl, rfl, rfl, Lib.hid (by simp), Lib.hid (by simp), rfl⟩
          case round =>
            obtain ⟨k, l2, r2, hk, rfl, rfl, rfl, HL2, HR2, rfl⟩ := hrel
            by_cases hlt : k < m
            · have hkl : k < ws.length := by have := HM.out; omega
              have hne : ws ≠ [] := by intro h; rw [h] at hkl; simp at hkl
              have hv0 := HV.out
              rw [show m = ws.length from HM.out] at hv0
              obtain ⟨b, o, rfl, hf⟩ := hv0.at hne
              obtain ⟨vx, k0, hs⟩ := hf k hkl
              rw [Nat.mul_one] at k0
              have hkb := cell_lt k0
              have HT1 : Hid ((ws.take (k + 1)).any waveBig = ((ws.take k).any waveBig || waveBig ws[k])) := Lib.hid (by rw [take_succ ws k hkl, List.any_append]; simp)
              have HT2 : Hid ((ws.take (k + 1)).all waveOk = ((ws.take k).all waveOk && waveOk ws[k])) := Lib.hid (by rw [take_succ ws k hkl, List.all_append]; simp)
              clear hf hv0
              generalize ws[k] = x at *
              have HSA := Lib.hid (Samples_any x vx wr hs)
              have hwb : waveBig x = decide (100000 < (x.length : Int)) := rfl
              have HWB := Lib.hid hwb
              obtain ⟨sa, sc, rfl, hxl, -⟩ := id hs
              unfold most at hxl
              clear hs hwb
              obtain ⟨xl, hxe⟩ : ∃ xl, xl = x.length := ⟨_, rfl⟩
              rw [← hxe] at k0 hxl HSA HWB
              clear hxe
              by_cases j1 : (110000 : Int) < xl
              · have j2 : (60 : Int) < xl := by omega
                have j3 : ¬ (xl : Int) ≤ 100000 := by omega
                go_wp2_with (first | (go_at_call 18; with_reducible refine Calls.mono (HK.out _) ?_; rintro e wk ⟨rfl, hb⟩; have HBK := Lib.hid hb; clear hb))
                go_ret
                exact ⟨rfl, HBK.out⟩
              · by_cases j2 : (60 : Int) < xl
                · by_cases j3 : (xl : Int) ≤ 100000
                  · go_wp2_with (first | (go_at_call 18; with_reducible refine Calls.mono (HK.out _) ?_; rintro e wk ⟨rfl, hb⟩; have HBK := Lib.hid hb; clear hb))
                    go_ret
                    exact ⟨rfl, HBK.out⟩
                  · have j4 : (100000 : Int) < xl := by omega
                    rw [decide_eq_true j4] at HWB
                    cases l2 <;> cases r2
                    all_goals
                      go_wp2_with (first | (go_at_call 37; with_reducible refine Calls.mono HSA.out ?_; rintro e w1 ⟨rfl, rfl⟩))
                      go_roundw
                      case rel => exact ⟨k + 1, _, _, by omega, by go_num, rfl, rfl, Lib.hid (by rw [HT1.out, HWB.out]; simp), Lib.hid (by rw [HT2.out, ← Bool.and_assoc, ← HR2.out]; simp), by first | rfl | trivial⟩
                      case measure => simp [intOf]; omega
                · have j3 : ¬ (100000 : Int) < xl := by omega
                  rw [decide_eq_false j3] at HWB
                  cases l2 <;> cases r2
                  all_goals
                    go_wp2_with (first | (go_at_call 37; with_reducible refine Calls.mono HSA.out ?_; rintro e w1 ⟨rfl, rfl⟩))
                    go_roundw
                    case rel => exact ⟨k + 1, _, _, by omega, by go_num, rfl, rfl, Lib.hid (by rw [HT1.out, HWB.out, Bool.or_false, ← HL2.out]), Lib.hid (by rw [HT2.out, ← Bool.and_assoc, ← HR2.out]; simp), by first | rfl | trivial⟩
                    case measure => simp [intOf]; omega
            · obtain rfl : k = m := by omega
              have hl2 := HL2.out
              have hr2 := HR2.out
              rw [HM.out, List.take_length, HLB.out, HM.out] at hl2
              rw [HM.out, List.take_length, HRB.out] at hr2
              have HLX := Lib.hid hl2.symm
              have HRX := Lib.hid hr2.symm
              clear hl2 hr2 HL2 HR2
              cases l2
              · cases r2
                · rw [ch_wrong HLX.out HRX.out] at HCH
                  go_wp2_with (first
                    | (go_at_call 38; with_reducible refine Calls.mono HCH.out ?_; rintro e w1 ⟨⟨ra, rc, qa, qc, rfl, hs1, hs2⟩, hb⟩; have HB1 := Lib.hid hb; clear hb hs1 hs2)
                    | (go_at_call 18; with_reducible refine Calls.mono (HK.out _) ?_; rintro e wk ⟨rfl, hb⟩; have HBK := Lib.hid (bThen HB1.out hb); clear hb))
                  go_ret
                  exact ⟨rfl, HBK.out⟩
                · obtain ⟨x, l, hws, hch, hn1, hr1, hlen, hsm, hln⟩ := ch_fine HLX.out HRX.out
                  have hrc := fun W (hB : Below wr.heap.size wr W) => chain_out (refChain_any n r x l (.slice a k c) W (by have := HV.out.keep WaveAt.stable hB; rwa [hws] at this) ⟨hn1, hn.2⟩ ⟨hr1, hr.2⟩ (by rw [← hws]; exact hlen) (by rw [← hws]; exact hsm) (by rw [← hws]; exact hln))
                  rw [hch] at HCH
                  have HRC := Lib.hid hrc
                  have HSAM : Hid (∀ W v u l, SliceV W v 1 IntAt l → SliceV W u 1 IntAt l → Calls Try.prog 31 #[v, u] W fun e w' => e = .returned (.bool true) ∧ Below W.heap.size W w') := Lib.hid (fun W v u l hv hu => (Same_any l l v u W hv hu).mono fun _ _ ⟨h, hb⟩ => ⟨by rw [h, decide_eq_true rfl], hb⟩)
                  obtain ⟨V, hV⟩ : ∃ V, V = chGo n r x l := ⟨_, rfl⟩
                  rw [← hV] at HCH HRC
                  clear hrc hws hch hsm hln hlen hV
                  go_wp2_with (first
                    | (go_at_call 38; with_reducible refine Calls.mono HCH.out ?_; rintro e w1 ⟨⟨ra, rc, qa, qc, rfl, hs1, hs2⟩, hb⟩; have HB1 := Lib.hid hb; have HS1 := Lib.hid hs1; have HS2 := Lib.hid hs2; clear hb hs1 hs2)
                    | (go_at_call 39; with_reducible refine Calls.mono (HRC.out _ HB1.out) ?_; rintro e w2 ⟨⟨ra2, rc2, qa2, qc2, rfl, hs1, hs2⟩, hb⟩; have HB2 := Lib.hid (bThen HB1.out hb); have HS3 := Lib.hid hs1; have HS4 := Lib.hid hs2; replace HS1 := Lib.hid (HS1.out.keep IntAt.stable hb); replace HS2 := Lib.hid (HS2.out.keep IntAt.stable hb); clear hb hs1 hs2)
                    | (go_at_call 31; with_reducible refine Calls.mono (HSAM.out _ _ _ _ HS1.out HS3.out) ?_; rintro e w3 ⟨rfl, hb⟩; have HB3 := Lib.hid (bThen HB2.out hb); have HS5 := Lib.hid (HS2.out.keep IntAt.stable hb); have HS6 := Lib.hid (HS4.out.keep IntAt.stable hb); clear hb)
                    | (go_at_call 31; with_reducible refine Calls.mono (HSAM.out _ _ _ _ HS5.out HS6.out) ?_; rintro e w4 ⟨rfl, hb⟩; have HB4 := Lib.hid (bThen HB3.out hb); clear hb)
                    | (go_at_call 18; with_reducible refine Calls.mono (HK.out _) ?_; rintro e wk ⟨rfl, hb⟩; have HBK := Lib.hid (bThen HB4.out hb); clear hb))
                  go_ret
                  exact ⟨rfl, HBK.out⟩
              · rw [ch_long HLX.out] at HCH
                go_wp2_with (first
                  | (go_at_call 38; with_reducible refine Calls.mono HCH.out ?_; rintro e w1 ⟨⟨ra, rc, qa, qc, rfl, hs1, hs2⟩, hb⟩; have HB1 := Lib.hid hb; clear hb hs1 hs2)
                  | (go_at_call 18; with_reducible refine Calls.mono (HK.out _) ?_; rintro e wk ⟨rfl, hb⟩; have HBK := Lib.hid (bThen HB1.out hb); clear hb))
                go_ret
                exact ⟨rfl, HBK.out⟩
end Go.Proofs.Ytbeeddenidfenaa
