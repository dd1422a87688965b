/- The law of crossfades, given the chapter's examples. -/
import Derived.Test.YtbeeddenidfenaaF1
set_option linter.unusedSimpArgs false
set_option linter.unusedVariables false
namespace Go.Proofs.Ytbeeddenidfenaa
open Go.RowKit

theorem rnd_mono6 {a c b : Int} (hb : 0 < b) (h : a ≤ c) : rnd a b ≤ rnd c b := by
  unfold rnd
  have h1 : (2 * -c + b) / (2 * b) ≤ (2 * -a + b) / (2 * b) := Int.ediv_le_ediv (by omega) (by omega)
  have h2 : (2 * a + b) / (2 * b) ≤ (2 * c + b) / (2 * b) := Int.ediv_le_ediv (by omega) (by omega)
  by_cases ha : a < 0
  · rw [if_pos ha]
    have h3 : 0 ≤ (2 * -a + b) / (2 * b) := Int.ediv_nonneg (by omega) (by omega)
    by_cases hc : c < 0
    · rw [if_pos hc]; omega
    · rw [if_neg hc]
      have h4 : 0 ≤ (2 * c + b) / (2 * b) := Int.ediv_nonneg (by omega) (by omega)
      omega
  · rw [if_neg ha, if_neg (by omega)]; exact h2
theorem rnd_at {m b : Int} (hb : 0 < b) : rnd (m * b) b = m := by
  have key : ∀ m : Int, 0 ≤ m → (2 * (m * b) + b) / (2 * b) = m := fun m _ => by
    have e : 2 * (m * b) + b = b + m * (2 * b) := by
      rw [Int.mul_left_comm]; omega
    rw [e, Int.add_mul_ediv_right _ _ (by omega), Int.ediv_eq_zero_of_lt (by omega) (by omega)]
    omega
  by_cases h : 0 ≤ m
  · rw [rnd_pos (Int.mul_nonneg h (by omega)), key m h]
  · have h1 : m * b < 0 := Int.mul_neg_of_neg_of_pos (by omega) hb
    rw [rnd_neg h1, show -(m * b) = -m * b from (Int.neg_mul m b).symm, rnd_pos (Int.mul_nonneg (by omega) (by omega)), key (-m) (by omega)]
    omega
theorem rnd_mix {a b p q m M : Int} (ha : 0 ≤ a) (hb : 0 ≤ b) (hab : 0 < a + b) (h1 : m ≤ p) (h2 : m ≤ q) (h3 : p ≤ M) (h4 : q ≤ M) : m ≤ rnd (a * p + b * q) (a + b) ∧ rnd (a * p + b * q) (a + b) ≤ M := by
  have k1 := Int.mul_le_mul_of_nonneg_left h1 ha
  have k2 := Int.mul_le_mul_of_nonneg_left h2 hb
  have k3 := Int.mul_le_mul_of_nonneg_left h3 ha
  have k4 := Int.mul_le_mul_of_nonneg_left h4 hb
  have l1 := rnd_mono6 hab (show m * (a + b) ≤ a * p + b * q by rw [Int.mul_add, Int.mul_comm m a, Int.mul_comm m b]; omega)
  have l2 := rnd_mono6 hab (show a * p + b * q ≤ M * (a + b) by rw [Int.mul_add, Int.mul_comm M a, Int.mul_comm M b]; omega)
  rw [rnd_at hab] at l1 l2
  exact ⟨l1, l2⟩
theorem fd_mid {x y : List Int} {n k : Nat} {m M : Int} (h : k < n) (h1 : m ≤ x.getD k 0) (h2 : m ≤ y.getD k 0) (h3 : x.getD k 0 ≤ M) (h4 : y.getD k 0 ≤ M) : m ≤ fd x y n k ∧ fd x y n k ≤ M := by
  unfold fd
  have := rnd_mix (a := (n : Int) - k) (b := (k : Int) + 1) (by omega) (by omega) (by omega) h1 h2 h3 h4
  rwa [show (n : Int) - k + ((k : Int) + 1) = n + 1 by omega] at this
theorem chk_false6 {x y : List Int} (h : chk true [x, y] = 0) : chk false [x, y] = 2 := chk_false h
set_option maxRecDepth 10000 in
set_option maxHeartbeats 4000000 in
theorem law6_any (x y : List Int) (v u : Value) (w : World) (hK : Known) (hv : SliceV w v 1 IntAt x) (hu : SliceV w u 1 IntAt y) :
    Calls Try.prog 6 #[v, u] w fun e w' => e = .returned (.bool true) ∧ Below w.heap.size w w' := by
  have HK : Hid (∀ W, Calls Try.prog 18 #[] W fun e w' => e = .returned (.bool true) ∧ Below W.heap.size W w') := Lib.hid hK
  have HB := Lib.hid (Below.refl w.heap.size w)
  have HSX := Lib.hid (short_any x v w hv)
  have HSY := Lib.hid (short_any y u w hu)
  have HV := Lib.hid (fun W (hB : Below w.heap.size w W) => hv.keep IntAt.stable hB)
  have HU := Lib.hid (fun W (hB : Below w.heap.size w W) => hu.keep IntAt.stable hB)
  have HFA0 := Lib.hid (Fade_any x y v u w hv hu)
  have HWR := Lib.hid (fun W (hB : Below w.heap.size w W) => wrong_any x y v u W (HV.out W hB) (HU.out W hB))
  obtain ⟨a, c, rfl, hl, -⟩ := id hv
  obtain ⟨b, d, rfl, hm, -⟩ := id hu
  unfold most at hl hm
  clear hv hu hK
  cases h1 : shrt x.length
  · rw [h1] at HSX
    clear HFA0 HWR
    go_enter Try.func6, Try.ntmps6
    go_wp2_with (first
      | (go_at_call 17; with_reducible refine Calls.mono HSX.out ?_; rintro e w1 ⟨rfl, rfl⟩)
      | (go_at_call 17; with_reducible refine Calls.mono HSY.out ?_; rintro e w1 ⟨rfl, rfl⟩)
      | (go_at_call 18; with_reducible refine Calls.mono (HK.out _) ?_; rintro e wk ⟨rfl, hb⟩; have HB2 := Lib.hid hb; clear hb))
    go_ret
    exact ⟨rfl, HB2.out⟩
  · rw [h1] at HSX
    cases h2 : shrt y.length
    · rw [h2] at HSY
      clear HFA0 HWR
      go_enter Try.func6, Try.ntmps6
      go_wp2_with (first
        | (go_at_call 17; with_reducible refine Calls.mono HSX.out ?_; rintro e w1 ⟨rfl, rfl⟩)
        | (go_at_call 17; with_reducible refine Calls.mono HSY.out ?_; rintro e w1 ⟨rfl, rfl⟩)
        | (go_at_call 18; with_reducible refine Calls.mono (HK.out _) ?_; rintro e wk ⟨rfl, hb⟩; have HB2 := Lib.hid hb; clear hb))
      go_ret
      exact ⟨rfl, HB2.out⟩
    · rw [h2] at HSY
      have HSX2 := HSX
      by_cases hc : chk true [x, y] = 0
      · rw [hc] at HWR
        cases hfo : fadeOk x y
        · rw [hfo, chk_false hc, if_neg (by decide)] at HFA0
          have HFA := Lib.hid (HFA0.out.mono fun e w' ⟨⟨r, he, hs⟩, hb⟩ => by
            obtain ⟨ra, rc, rfl, -⟩ := hs
            exact (⟨⟨ra, rc, he⟩, hb⟩ : (∃ ra rc, e = .returned (.tuple #[.slice ra ([] : List Int).length rc, .int .i64 2])) ∧ Below w.heap.size w w'))
          rw [List.length_nil] at HFA
          have hfo2 : ¬ (x.length = y.length ∧ 0 < x.length) := by
            intro h
            rw [show fadeOk x y = true by unfold fadeOk; rw [decide_eq_true h.1, decide_eq_true h.2]; rfl] at hfo
            exact absurd hfo (by decide)
          clear HFA0 h1 h2 hc hfo
          by_cases k1 : x.length = y.length
          · have k2 : x.length = 0 := by omega
            rw [← k1] at HSY HFA HWR HU hm ⊢
            rw [k2] at HSX HSX2 HSY HFA HWR HV HU hl hm ⊢
            go_enter Try.func6, Try.ntmps6
            go_wp2_with (first
              | (go_at_call 17; with_reducible refine Calls.mono HSX.out ?_; rintro e w1 ⟨rfl, rfl⟩)
              | (go_at_call 17; with_reducible refine Calls.mono HSY.out ?_; rintro e w1 ⟨rfl, rfl⟩)
              | (go_at_call 35; with_reducible refine Calls.mono HFA.out ?_; rintro e w1 ⟨⟨ra, rc, rfl⟩, hb⟩; replace HB := Lib.hid hb; clear hb)
              | (go_at_call 28; with_reducible refine Calls.mono (HWR.out _ HB.out) ?_; rintro e w3 ⟨rfl, rfl⟩)
              | (go_at_call 18; with_reducible refine Calls.mono (HK.out _) ?_; rintro e wk ⟨rfl, hb⟩; replace HB := Lib.hid (bThen HB.out hb); clear hb))
            all_goals first
              | (exfalso; omega)
              | (go_ret; exact ⟨rfl, HB.out⟩)
          · have k3 : ((x.length : Int) == (y.length : Int)) = false := beq_eq_false_iff_ne.2 (by omega)
            go_enter Try.func6, Try.ntmps6
            go_wp2_with (first
              | (go_at_call 17; with_reducible refine Calls.mono HSX.out ?_; rintro e w1 ⟨rfl, rfl⟩)
              | (go_at_call 17; with_reducible refine Calls.mono HSY.out ?_; rintro e w1 ⟨rfl, rfl⟩)
              | (go_at_call 35; with_reducible refine Calls.mono HFA.out ?_; rintro e w1 ⟨⟨ra, rc, rfl⟩, hb⟩; replace HB := Lib.hid hb; clear hb)
              | (go_at_call 28; with_reducible refine Calls.mono (HWR.out _ HB.out) ?_; rintro e w3 ⟨rfl, rfl⟩)
              | (go_at_call 18; with_reducible refine Calls.mono (HK.out _) ?_; rintro e wk ⟨rfl, hb⟩; replace HB := Lib.hid (bThen HB.out hb); clear hb))
            all_goals first
              | (exfalso; omega)
              | (go_ret; exact ⟨rfl, HB.out⟩)
        · rw [hfo, hc, if_pos rfl] at HFA0
          have h2c := chk2_ok hc
          have sx := sm_of h2c.2.2.1
          have sy := sm_of h2c.2.2.2.1
          simp only [fadeOk, Bool.and_eq_true, decide_eq_true_eq] at hfo
          obtain ⟨hlen, h0⟩ := hfo
          have hxl : x.length ≤ 100000 := by have := h2c.1; omega
          have HRF := Lib.hid (fun W (hB : Below w.heap.size w W) => refFade_any x y _ _ W hlen (HV.out W hB) (HU.out W hB) sx sy (by omega))
          have HRF2 : Hid (∀ W, Below w.heap.size w W → Calls Try.prog 36 #[.slice a x.length c, .slice b y.length d] W fun e w' => (∃ ra rc, e = .returned (.slice ra x.length rc) ∧ SliceV w' (.slice ra x.length rc) 1 IntAt (fadeL x y)) ∧ Below W.heap.size W w') := Lib.hid (fun W hB => (HRF.out W hB).mono fun e w' ⟨⟨r, he, hs⟩, hb⟩ => by
            obtain ⟨ra, rc, rfl, -⟩ := id hs
            rw [fadeL_len] at he hs
            exact ⟨⟨ra, rc, he, hs⟩, hb⟩)
          have HFA : Hid (Calls Try.prog 35 #[.slice a x.length c, .slice b y.length d] w fun e w' => (∃ ob oo rc, e = .returned (.tuple #[.slice (some ⟨ob, oo, none⟩) x.length rc, .int .i64 0]) ∧ SliceV w' (.slice (some ⟨ob, oo, none⟩) x.length rc) 1 IntAt (fadeL x y)) ∧ Below w.heap.size w w') := Lib.hid (HFA0.out.mono fun e w' ⟨⟨r, he, hs⟩, hb⟩ => by
            obtain ⟨ra, rc, rfl, -⟩ := id hs
            obtain ⟨ob, oo, rfl, -⟩ := hs.at (by intro h; have := fadeL_len x y; rw [h] at this; simp at this; omega)
            rw [fadeL_len] at he hs
            exact ⟨⟨ob, oo, rc, he, hs⟩, hb⟩)
          have HSM : Hid (∀ W v u, SliceV W v 1 IntAt (fadeL x y) → SliceV W u 1 IntAt (fadeL x y) → Calls Try.prog 31 #[v, u] W fun e w' => e = .returned (.bool true) ∧ Below W.heap.size W w') := Lib.hid (fun W v u hv hu => (Same_any _ _ v u W hv hu).mono fun e w' ⟨he, hb⟩ => ⟨by rw [he, decide_eq_true rfl], hb⟩)
          have HAT : Hid (∀ k : Nat, k < x.length → ∀ W, Below w.heap.size w W → ∀ ob oo rc, SliceV W (.slice (some ⟨ob, oo, none⟩) x.length rc) 1 IntAt (fadeL x y) → ∃ r p q, W.cell? ⟨ob, oo + k, none⟩ = some (.int .i64 r) ∧ (∃ xb xo, a = some ⟨xb, xo, none⟩ ∧ W.cell? ⟨xb, xo + k, none⟩ = some (.int .i64 p)) ∧ (∃ yb yo, b = some ⟨yb, yo, none⟩ ∧ W.cell? ⟨yb, yo + k, none⟩ = some (.int .i64 q)) ∧ (p ≤ q → p ≤ r ∧ r ≤ q) ∧ (q ≤ p → q ≤ r ∧ r ≤ p)) := Lib.hid (fun k hk W hB ob oo rc hs => by
            have hlf : k < (fadeL x y).length := by rw [fadeL_len]; exact hk
            have hly : k < y.length := by omega
            obtain ⟨ob', oo', he, hf⟩ := hs.at (by intro h; rw [h] at hlf; simp at hlf)
            obtain ⟨rfl, rfl⟩ : ob = ob' ∧ oo = oo' := by simpa using he
            obtain ⟨xb, xo, he2, hxf⟩ := (HV.out W hB).at (by intro h; rw [h] at hk; simp at hk)
            obtain ⟨yb, yo, he3, hyf⟩ := (HU.out W hB).at (by intro h; rw [h] at hly; simp at hly)
            have r0 := hf k hlf
            have p0 := hxf k hk
            have q0 := hyf k hly
            unfold IntAt at r0 p0 q0
            rw [Nat.mul_one] at r0 p0 q0
            have gx : x.getD k 0 = x[k] := by simp [List.getD, hk]
            have gy : y.getD k 0 = y[k] := by simp [List.getD, hly]
            refine ⟨_, _, _, r0, ⟨xb, xo, by simpa using he2, p0⟩, ⟨yb, yo, by simpa using he3, q0⟩, fun h => ?_, fun h => ?_⟩
            · rw [fadeL_get]
              exact fd_mid hk (by omega) (by omega) (by omega) (by omega)
            · rw [fadeL_get]
              exact fd_mid hk (by omega) (by omega) (by omega) (by omega))
          obtain ⟨xb, xo, rfl⟩ : ∃ xb xo, a = some ⟨xb, xo, none⟩ := by
            obtain ⟨xb, xo, he, -⟩ := (HV.out w (Below.refl _ _)).at (by intro h; rw [h] at h0; simp at h0)
            exact ⟨xb, xo, by simpa using he⟩
          obtain ⟨yb, yo, rfl⟩ : ∃ yb yo, b = some ⟨yb, yo, none⟩ := by
            obtain ⟨xb, xo, he, -⟩ := (HU.out w (Below.refl _ _)).at (by intro h; rw [hlen, h] at h0; simp at h0)
            exact ⟨xb, xo, by simpa using he⟩
          obtain ⟨n, hn⟩ : ∃ n, n = x.length := ⟨_, rfl⟩
          have hny : y.length = n := by omega
          rw [hny] at HSY HFA HWR HRF2 hm ⊢
          rw [← hn] at HSX HSX2 HFA HWR HRF2 HAT hl h0 hxl ⊢
          have z0 : ¬ n = 0 := by omega
          clear HFA0 HRF HV HU h1 h2 hc hlen hny hn h2c sx sy
          go_enter Try.func6, Try.ntmps6
          go_wp2_with (first
            | (go_at_call 17; with_reducible refine Calls.mono HSX.out ?_; rintro e w1 ⟨rfl, rfl⟩)
            | (go_at_call 17; with_reducible refine Calls.mono HSY.out ?_; rintro e w1 ⟨rfl, rfl⟩)
            | (go_at_call 35; with_reducible refine Calls.mono HFA.out ?_; rintro e w1 ⟨⟨ob, oo, rc, rfl, hs⟩, hb⟩; have HB1 := Lib.hid hb; have HS := Lib.hid hs; clear hb hs)
            | (go_at_call 28; with_reducible refine Calls.mono (HWR.out _ HB1.out) ?_; rintro e w3 ⟨rfl, rfl⟩)
            | (go_at_call 36; with_reducible refine Calls.mono (HRF2.out _ HB1.out) ?_; rintro e w4 ⟨⟨fa, fc, rfl, hs⟩, hb⟩; have HB4 := Lib.hid (bThen HB1.out hb); have HS2 := Lib.hid (HS.out.keep IntAt.stable hb); have HS3 := Lib.hid hs; clear hb hs)
            | (go_at_call 31; with_reducible refine Calls.mono (HSM.out _ _ _ HS2.out HS3.out) ?_; rintro e w5 ⟨rfl, hb⟩; have HB5 := Lib.hid (bThen HB4.out hb); have HS5 := Lib.hid (HS2.out.keep IntAt.stable hb); clear hb))
          all_goals first
            | (exfalso; omega)
            | skip
          go_loopw [8] (fun i wr => ∃ k : Nat, k ≤ n ∧ i = .int .i64 k ∧ Hid (SliceV wr (.slice (some ⟨ob, oo, none⟩) n rc) 1 IntAt (fadeL x y)) ∧ Hid (Below w.heap.size w wr)) (fun i _ => n - (intOf i).toNat)
          case atStart => exact ⟨0, Nat.zero_le _, rfl, HS5, HB5⟩
          case round =>
            obtain ⟨k, hk, rfl, HSR, HBR⟩ := hrel
            by_cases hlt : k < n
            · obtain ⟨r, p, q, r0, ⟨xb', xo', he2, p0⟩, ⟨yb', yo', he3, q0⟩, hpq, hqp⟩ := HAT.out k hlt wr HBR.out ob oo rc HSR.out
              obtain ⟨rfl, rfl⟩ : xb = xb' ∧ xo = xo' := by simpa using he2
              obtain ⟨rfl, rfl⟩ : yb = yb' ∧ yo = yo' := by simpa using he3
              have rl := cell_lt r0
              have pl := cell_lt p0
              have ql := cell_lt q0
              clear he2 he3
              by_cases j : p ≤ q
              · have j1 : ¬ r < p := by have := hpq j; omega
                have j2 : ¬ q < r := by have := hpq j; omega
                have j3 : ¬ q < p := by omega
                have m1 : min p q = p := Int.min_eq_left j
                have m2 : max p q = q := Int.max_eq_right j
                clear hpq hqp
                go_wp2_with fail
                refine wp_opaque fun Q2 hQ2 => ?_
                (refine wp_region_below (by kernel_rfl) (by kernel_rfl) ?_; (repeat (first | go_big_quiet_step (fail) | quiet_step (fail))); (refine wpQuiet_nil ?_; intro _ hw'; obtain ⟨xq, hw''⟩ := hw'; subst hw''))
                refine hQ2 _ _ _ ?_
                have hbx := xq.2
                go_wp2_with fail
                go_roundw
                case rel => exact ⟨k + 1, by omega, by go_num, Lib.hid (HSR.out.keep IntAt.stable hbx), Lib.hid (bThen HBR.out hbx)⟩
                case measure => simp [intOf]; omega
              · have j1 : ¬ r < q := by have := hqp (by omega); omega
                have j2 : ¬ p < r := by have := hqp (by omega); omega
                have j3 : q < p := by omega
                have m1 : min p q = q := Int.min_eq_right (by omega)
                have m2 : max p q = p := Int.max_eq_left (by omega)
                clear hpq hqp
                go_wp2_with fail
                refine wp_opaque fun Q2 hQ2 => ?_
                (refine wp_region_below (by kernel_rfl) (by kernel_rfl) ?_; (repeat (first | go_big_quiet_step (fail) | quiet_step (fail))); (refine wpQuiet_nil ?_; intro _ hw'; obtain ⟨xq, hw''⟩ := hw'; subst hw''))
                refine hQ2 _ _ _ ?_
                have hbx := xq.2
                go_wp2_with fail
                go_roundw
                case rel => exact ⟨k + 1, by omega, by go_num, Lib.hid (HSR.out.keep IntAt.stable hbx), Lib.hid (bThen HBR.out hbx)⟩
                case measure => simp [intOf]; omega
            · obtain rfl : k = n := by omega
              go_wp2_with (go_at_call 18; with_reducible refine Calls.mono (HK.out _) ?_; rintro e wk ⟨rfl, hb⟩; have HB6 := Lib.hid (bThen HBR.out hb); clear hb)
              go_ret
              exact ⟨rfl, HB6.out⟩
      · have hca := chk_any hc (fadeOk x y)
        rw [hca, if_neg hc] at HFA0
        have HFA := Lib.hid (HFA0.out.mono fun e w' ⟨⟨r, he, hs⟩, hb⟩ => by
          obtain ⟨ra, rc, rfl, -⟩ := hs
          exact (⟨⟨ra, rc, he⟩, hb⟩ : (∃ ra rc, e = .returned (.tuple #[.slice ra ([] : List Int).length rc, .int .i64 (chk true [x, y])])) ∧ Below w.heap.size w w'))
        rw [List.length_nil] at HFA
        obtain ⟨er, her⟩ : ∃ er, er = chk true [x, y] := ⟨_, rfl⟩
        rw [← her] at HFA HWR hc
        have hb0 : (er == 0) = false := beq_eq_false_iff_ne.2 hc
        clear her hca hc h1 h2 HFA0
        go_enter Try.func6, Try.ntmps6
        go_wp2_with (first
          | (go_at_call 17; with_reducible refine Calls.mono HSX.out ?_; rintro e w1 ⟨rfl, rfl⟩)
          | (go_at_call 17; with_reducible refine Calls.mono HSY.out ?_; rintro e w1 ⟨rfl, rfl⟩)
          | (go_at_call 35; with_reducible refine Calls.mono HFA.out ?_; rintro e w1 ⟨⟨ra, rc, rfl⟩, hb⟩; replace HB := Lib.hid hb; clear hb)
          | (go_at_call 28; with_reducible refine Calls.mono (HWR.out _ HB.out) ?_; rintro e w3 ⟨rfl, rfl⟩)
          | (go_at_call 18; with_reducible refine Calls.mono (HK.out _) ?_; rintro e wk ⟨rfl, hb⟩; replace HB := Lib.hid (bThen HB.out hb); clear hb))
        all_goals first
          | (exfalso; omega)
          | (go_ret; exact ⟨rfl, HB.out⟩)
end Go.Proofs.Ytbeeddenidfenaa
