/- The law of cuts, given the chapter's examples. -/
import Derived.Test.YtbeeddenidfenaaM8
import Derived.Deep.RegionHeld3
set_option linter.unusedSimpArgs false
set_option linter.unusedVariables false
namespace Go.Proofs.Ytbeeddenidfenaa
open Go.RowKit

set_option maxRecDepth 10000 in
set_option maxHeartbeats 4000000 in
theorem law8_any (x : List Int) (mid n k : Int) (v : Value) (w : World) (hK : Known) (hv : SliceV w v 1 IntAt x) (hmi : -9223372036854775808 ≤ mid ∧ mid ≤ 9223372036854775807) (hn : -9223372036854775808 ≤ n ∧ n ≤ 9223372036854775807) (hk : -9223372036854775808 ≤ k ∧ k ≤ 9223372036854775807) :
    Calls Try.prog 8 #[v, .int .i64 mid, .int .i64 n, .int .i64 k] w fun e w' => e = .returned (.bool true) ∧ Below w.heap.size w w' := by
  have HK : Hid (∀ W, Calls Try.prog 18 #[] W fun e w' => e = .returned (.bool true) ∧ Below W.heap.size W w') := Lib.hid hK
  have HB := Lib.hid (Below.refl w.heap.size w)
  have HV := Lib.hid (fun W (hB : Below w.heap.size w W) => hv.keep IntAt.stable hB)
  have HWA := Lib.hid (fun W (hB : Below w.heap.size w W) => Wave_any x v W (HV.out W hB))
  obtain ⟨a, c, rfl, hl, -⟩ := id hv
  unfold most at hl
  clear hv hK
  by_cases g1 : (400 : Int) < x.length
  · go_enter Try.func8, Try.ntmps8
    go_wp2_with (first
      | (go_at_call 23; with_reducible refine Calls.mono (HWA.out _ HB.out) ?_; rintro e w1 ⟨rfl, rfl⟩)
      | (go_at_call 18; with_reducible refine Calls.mono (HK.out _) ?_; rintro e wk ⟨rfl, hb⟩; have HB2 := Lib.hid hb; clear hb))
    all_goals first
      | (exfalso; omega)
      | (exfalso; simp_all; done)
      | (go_ret; exact ⟨rfl, HB2.out⟩)
  · by_cases hc : chk true [x] = 0
    · rw [hc] at HWA
      by_cases g2 : n < 1
      · clear hc
        go_enter Try.func8, Try.ntmps8
        go_wp2_with (first
          | (go_at_call 23; with_reducible refine Calls.mono (HWA.out _ HB.out) ?_; rintro e w1 ⟨rfl, rfl⟩)
          | (go_at_call 18; with_reducible refine Calls.mono (HK.out _) ?_; rintro e wk ⟨rfl, hb⟩; have HB2 := Lib.hid hb; clear hb))
        all_goals first
          | (exfalso; omega)
          | (exfalso; simp_all; done)
          | (go_ret; exact ⟨rfl, HB2.out⟩)
      · by_cases g3 : mid < n
        · clear hc
          go_enter Try.func8, Try.ntmps8
          go_wp2_with (first
            | (go_at_call 23; with_reducible refine Calls.mono (HWA.out _ HB.out) ?_; rintro e w1 ⟨rfl, rfl⟩)
            | (go_at_call 18; with_reducible refine Calls.mono (HK.out _) ?_; rintro e wk ⟨rfl, hb⟩; have HB2 := Lib.hid hb; clear hb))
          all_goals first
            | (exfalso; omega)
            | (exfalso; simp_all; done)
            | (go_ret; exact ⟨rfl, HB2.out⟩)
        · by_cases g4 : (x.length : Int) < mid
          · clear hc
            go_enter Try.func8, Try.ntmps8
            go_wp2_with (first
              | (go_at_call 23; with_reducible refine Calls.mono (HWA.out _ HB.out) ?_; rintro e w1 ⟨rfl, rfl⟩)
              | (go_at_call 18; with_reducible refine Calls.mono (HK.out _) ?_; rintro e wk ⟨rfl, hb⟩; have HB2 := Lib.hid hb; clear hb))
            all_goals first
              | (exfalso; omega)
              | (exfalso; simp_all; done)
              | (go_ret; exact ⟨rfl, HB2.out⟩)
          · obtain ⟨n, rfl⟩ : ∃ n' : Nat, n = n' := ⟨n.toNat, by omega⟩
            obtain ⟨M, rfl⟩ : ∃ M : Nat, mid = M := ⟨mid.toNat, by omega⟩
            obtain ⟨s, hs⟩ : ∃ s, M = s + n := ⟨M - n, by omega⟩
            have h2c := chk_ok hc
            have sx := sm_of h2c.2.1
            have hcc : chk true [x, x] = 0 := by
              rw [chk_two, if_neg (by omega), if_pos ⟨rfl, h2c.2.1, h2c.2.1⟩]
            obtain ⟨xb, xo, rfl⟩ : ∃ xb xo, a = some ⟨xb, xo, none⟩ := by
              obtain ⟨xb, xo, he, -⟩ := (HV.out w (Below.refl _ _)).at (by intro h; rw [h] at g4; simp at g4; omega)
              exact ⟨xb, xo, by simpa using he⟩
            have HJ1 : Hid (∀ W, Below w.heap.size w W → Calls Try.prog 27 #[.slice (some ⟨xb, xo, none⟩) M c, .slice (some ⟨xb, xo + s, none⟩) (x.length - s) (c - s), .int .i64 (n : Int), .int .i64 0] W fun e w' => (∃ ra rc, e = .returned (.tuple #[.slice ra x.length rc, .int .i64 0]) ∧ SliceV w' (.slice ra x.length rc) 1 IntAt x) ∧ Below W.heap.size W w') := Lib.hid (fun W hB => by
              have k1 := (HV.out W hB).part 0 M c (by omega) (by omega)
              have k2 := (HV.out W hB).from s (by omega)
              rw [if_neg (by omega)] at k2
              rw [List.drop_zero, Nat.add_zero, hs] at k1
              have h := out_slice (Join_any (x.take (s + n)) (x.drop s) n 0 _ _ W k1 k2 hn (by omega))
              have l1 : (x.take (s + n)).length = s + n := by rw [List.length_take]; omega
              have l2 : (x.drop s).length = x.length - s := by rw [List.length_drop]
              have hov : ovl (x.take (s + n)).length (x.drop s).length (n : Int) 0 = true := by
                rw [l1, l2]
                exact ovl_of (k := 0) (by omega) (by omega) (by omega)
              have hck : chk true [x.take (s + n), x.drop s] = 0 := by
                rw [chk_two, if_neg (by omega), if_pos ⟨rfl, ok_of_sm (sx.take _), ok_of_sm (sx.drop _)⟩]
              have hje : joinErr (x.take (s + n)) (x.drop s) (n : Int) 0 = 0 := by unfold joinErr; rw [hov, hck, if_pos rfl, if_neg (by omega)]
              rw [hje, if_pos rfl, Int.toNat_natCast, show (0 : Int).toNat = 0 from rfl, cut_back x s n (by omega)] at h
              rw [hs]
              exact h)
            have HSM : Hid (∀ W v u, SliceV W v 1 IntAt x → SliceV W u 1 IntAt x → Calls Try.prog 31 #[v, u] W fun e w' => e = .returned (.bool true) ∧ Below W.heap.size W w') := Lib.hid (fun W v u hv hu => (Same_any _ _ v u W hv hu).mono fun e w' ⟨he, hb⟩ => ⟨by rw [he, decide_eq_true rfl], hb⟩)
            have HMI := Lib.hid (fun W (hB : Below w.heap.size w W) => Mismatch_any x x n k _ _ W (HV.out W hB) (HV.out W hB) hn hk)
            have HJ2 := Lib.hid (fun W (hB : Below w.heap.size w W) => out_slice (Join_any x x n k _ _ W (HV.out W hB) (HV.out W hB) hn hk))
            have hst : ∀ (l : List Int) (u : Value) W, chk true [l] = 0 → SliceV W u 1 IntAt l → Calls Try.prog 21 #[u] W fun e w' => e = .returned (.tuple #[.int .i64 (stp l), .int .i64 0]) ∧ Below W.heap.size W w' := fun l u W h hu => by
              have := Step_any l u W hu
              rwa [if_pos h, h] at this
            have HS1 := Lib.hid (fun W (hB : Below w.heap.size w W) => hst x _ W hc (HV.out W hB))
            have HST := Lib.hid hst
            have HXC := Lib.hid hcc
            have HSX := Lib.hid sx
            have e1 : IntKind.i64.wrap ((M : Int) - n) = (s : Int) := by rw [show (M : Int) - n = (s : Int) by omega]; exact IntWalk.i64_in _ (by omega)
            have e1b : IntKind.i64.wrap (s : Int) = (s : Int) := IntWalk.i64_in _ (by omega)
            have i1 : (M : Int) ≤ (c : Int) := by omega
            have i2 : (s : Int) ≤ (x.length : Int) := by omega
            have i3 : (x.length : Int) ≤ (c : Int) := by omega
            have i4 : ¬ c = s := by omega
            have i5 : (0 : Int) ≤ (M : Int) := by omega
            have i6 : (0 : Int) ≤ (s : Int) := by omega
            have p1 : n ≤ x.length := by omega
            have hq1 : 1 ≤ n := by omega
            have HS0 := Lib.hid hs
            clear hs hst hcc h2c hc sx
            by_cases hov : ovl x.length x.length (n : Int) k = true
            · obtain ⟨n2, k, e2, rfl, q1, q2, q3⟩ := ovl_nat hov
              obtain rfl : n = n2 := by omega
              have hje : joinErr x x (n : Int) (k : Int) = 0 := by unfold joinErr; rw [hov, HXC.out, if_pos rfl, if_neg (by omega)]
              rw [hov, HXC.out, if_pos rfl, Int.toNat_natCast, Int.toNat_natCast] at HMI
              rw [hje, if_pos rfl, Int.toNat_natCast, Int.toNat_natCast] at HJ2
              clear hje hov e2
              by_cases hz : misv x x n k = 0
              · rw [hz] at HMI
                have hsl := stp_self q1 q2 q3 hz
                have hsm := sm_self HSX.out q2 q3 hz
                have hlj : (joinL x x n k).length ≤ 800 := by rw [join_self q2 q3 hz, List.length_append, List.length_drop]; omega
                have hcj : chk true [joinL x x n k] = 0 := by rw [chk_one, if_neg (by omega), if_pos ⟨rfl, ok_of_sm hsm⟩]
                have HS2j := Lib.hid (fun u W (hu : SliceV W u 1 IntAt (joinL x x n k)) => HST.out (joinL x x n k) u W hcj hu)
                obtain ⟨st1, h1⟩ : ∃ t, t = stp x := ⟨_, rfl⟩
                obtain ⟨st2, h2⟩ : ∃ t, t = stp (joinL x x n k) := ⟨_, rfl⟩
                rw [← h1, ← h2] at hsl
                rw [← h1] at HS1
                rw [← h2] at HS2j
                clear hz hsm hcj h1 h2 HST HXC HSX
                go_enter Try.func8, Try.ntmps8
                go_wp2_with (first
                  | (go_at_call 23; with_reducible refine Calls.mono (HWA.out _ HB.out) ?_; rintro e w1 ⟨rfl, rfl⟩))
                all_goals first
                  | (exfalso; omega)
                  | skip
                go_region_held3 (fun _ => True) (trivial) (first
                  | (go_at_call 27; with_reducible refine Calls.mono (HJ1.out _ (Below.drew (Below.refl _ _))) ?_; rintro e w2 ⟨⟨ra, rc, rfl, hs⟩, hb⟩; have HB2 := Lib.hid (bThen (Below.drew (Below.refl _ _)) hb); have HS2 := Lib.hid hs; clear hb hs))
                all_goals
                  go_wp2_with (first
                    | (go_at_call 31; with_reducible refine Calls.mono (HSM.out _ _ _ HS2.out (HV.out _ HB2.out)) ?_; rintro e w3 ⟨rfl, hb⟩; have HB3 := Lib.hid (bThen HB2.out hb); clear hb)
                    | (go_at_call 26; with_reducible refine Calls.mono (HMI.out _ HB3.out) ?_; rintro e w4 ⟨rfl, hb⟩; have HB4 := Lib.hid (bThen HB3.out hb); clear hb)
                    | (go_at_call 27; with_reducible refine Calls.mono (HJ2.out _ HB4.out) ?_; rintro e w5 ⟨⟨ja, jc, rfl, hs⟩, hb⟩; have HB5 := Lib.hid (bThen HB4.out hb); have HS5 := Lib.hid hs; clear hb hs)
                    | (go_at_call 21; with_reducible refine Calls.mono (HS2j.out _ _ HS5.out) ?_; rintro e w6 ⟨rfl, hb⟩; have HB6 := Lib.hid (bThen HB5.out hb); clear hb)
                    | (go_at_call 21; with_reducible refine Calls.mono (HS1.out _ HB6.out) ?_; rintro e w7 ⟨rfl, hb⟩; have HB7 := Lib.hid (bThen HB6.out hb); clear hb)
                    | (go_at_call 18; with_reducible refine Calls.mono (HK.out _) ?_; rintro e wk ⟨rfl, hb⟩; have HB8 := Lib.hid (bThen HB7.out hb); clear hb))
                  all_goals first
                    | (exfalso; omega)
                    | (go_ret; exact ⟨rfl, HB8.out⟩)
              · obtain ⟨mv, hmv⟩ : ∃ mv, mv = misv x x n k := ⟨_, rfl⟩
                rw [← hmv] at HMI hz
                clear hmv HJ2 HST HXC HSX HS1
                go_enter Try.func8, Try.ntmps8
                go_wp2_with (first
                  | (go_at_call 23; with_reducible refine Calls.mono (HWA.out _ HB.out) ?_; rintro e w1 ⟨rfl, rfl⟩))
                all_goals first
                  | (exfalso; omega)
                  | skip
                go_region_held3 (fun _ => True) (trivial) (first
                  | (go_at_call 27; with_reducible refine Calls.mono (HJ1.out _ (Below.drew (Below.refl _ _))) ?_; rintro e w2 ⟨⟨ra, rc, rfl, hs⟩, hb⟩; have HB2 := Lib.hid (bThen (Below.drew (Below.refl _ _)) hb); have HS2 := Lib.hid hs; clear hb hs))
                all_goals
                  go_wp2_with (first
                    | (go_at_call 31; with_reducible refine Calls.mono (HSM.out _ _ _ HS2.out (HV.out _ HB2.out)) ?_; rintro e w3 ⟨rfl, hb⟩; have HB3 := Lib.hid (bThen HB2.out hb); clear hb)
                    | (go_at_call 26; with_reducible refine Calls.mono (HMI.out _ HB3.out) ?_; rintro e w4 ⟨rfl, hb⟩; have HB4 := Lib.hid (bThen HB3.out hb); clear hb)
                    | (go_at_call 18; with_reducible refine Calls.mono (HK.out _) ?_; rintro e wk ⟨rfl, hb⟩; have HB8 := Lib.hid (bThen HB4.out hb); clear hb))
                  all_goals first
                    | (exfalso; omega)
                    | (go_ret; exact ⟨rfl, HB8.out⟩)
            · rw [Bool.eq_false_iff.2 hov, chk_false HXC.out, if_neg (by decide)] at HMI
              clear hov HJ2 HST HXC HSX HS1
              go_enter Try.func8, Try.ntmps8
              go_wp2_with (first
                | (go_at_call 23; with_reducible refine Calls.mono (HWA.out _ HB.out) ?_; rintro e w1 ⟨rfl, rfl⟩))
              all_goals first
                | (exfalso; omega)
                | skip
              go_region_held3 (fun _ => True) (trivial) (first
                | (go_at_call 27; with_reducible refine Calls.mono (HJ1.out _ (Below.drew (Below.refl _ _))) ?_; rintro e w2 ⟨⟨ra, rc, rfl, hs⟩, hb⟩; have HB2 := Lib.hid (bThen (Below.drew (Below.refl _ _)) hb); have HS2 := Lib.hid hs; clear hb hs))
              all_goals
                go_wp2_with (first
                  | (go_at_call 31; with_reducible refine Calls.mono (HSM.out _ _ _ HS2.out (HV.out _ HB2.out)) ?_; rintro e w3 ⟨rfl, hb⟩; have HB3 := Lib.hid (bThen HB2.out hb); clear hb)
                  | (go_at_call 26; with_reducible refine Calls.mono (HMI.out _ HB3.out) ?_; rintro e w4 ⟨rfl, hb⟩; have HB4 := Lib.hid (bThen HB3.out hb); clear hb)
                  | (go_at_call 18; with_reducible refine Calls.mono (HK.out _) ?_; rintro e wk ⟨rfl, hb⟩; have HB8 := Lib.hid (bThen HB4.out hb); clear hb))
                all_goals first
                  | (exfalso; omega)
                  | (go_ret; exact ⟨rfl, HB8.out⟩)
    · obtain ⟨er, her⟩ : ∃ er, er = chk true [x] := ⟨_, rfl⟩
      rw [← her] at HWA hc
      have hb0 : (er == 0) = false := beq_eq_false_iff_ne.2 hc
      have hb1 : (er != 0) = true := by unfold bne; rw [hb0]; rfl
      clear her
      go_enter Try.func8, Try.ntmps8
      go_wp2_with (first
        | (go_at_call 23; with_reducible refine Calls.mono (HWA.out _ HB.out) ?_; rintro e w1 ⟨rfl, rfl⟩)
        | (go_at_call 18; with_reducible refine Calls.mono (HK.out _) ?_; rintro e wk ⟨rfl, hb⟩; have HB2 := Lib.hid hb; clear hb))
      all_goals first
        | (exfalso; omega)
        | (exfalso; simp_all; done)
        | (go_ret; exact ⟨rfl, HB2.out⟩)
end Go.Proofs.Ytbeeddenidfenaa
