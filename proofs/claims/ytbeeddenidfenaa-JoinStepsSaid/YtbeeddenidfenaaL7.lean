/- The law of steps, given the chapter's examples. -/
import Derived.Test.YtbeeddenidfenaaM7
set_option linter.unusedSimpArgs false
set_option linter.unusedVariables false
namespace Go.Proofs.Ytbeeddenidfenaa
open Go.RowKit

theorem sm_fade {x y : List Int} (hx : Sm x) (hy : Sm y) : Sm (fadeL x y) := fun z hz => by
  obtain ⟨i, hi, rfl⟩ := List.getElem_of_mem hz
  rw [fadeL_get]
  rw [fadeL_len] at hi
  have a := sm_getD hx i
  have b := sm_getD hy i
  exact fd_mid hi a.1 b.1 a.2 b.2
theorem sm_join {x y : List Int} (hx : Sm x) (hy : Sm y) (n k : Nat) : Sm (joinL x y n k) := fun z hz => by
  unfold joinL at hz
  rcases List.mem_append.1 hz with h | h
  · rcases List.mem_append.1 h with h | h
    · exact hx z (List.mem_of_mem_take h)
    · exact sm_fade (hx.endA n) (hy.partB n k) z h
  · exact hy z (List.mem_of_mem_drop h)
theorem stp_rng {l : List Int} (h : Sm l) : 0 ≤ stp l ∧ stp l ≤ 65535 :=
  gab_in (by decide) fun d hd => by
    obtain ⟨i, hi, rfl⟩ := nbs_mem hd
    have a := sm_getD h (i + 1)
    have b := sm_getD h i
    omega
set_option maxRecDepth 10000 in
set_option maxHeartbeats 4000000 in
theorem law7_any (x y : List Int) (n k : Int) (v u : Value) (w : World) (hK : Known) (hv : SliceV w v 1 IntAt x) (hu : SliceV w u 1 IntAt y) (hn : -9223372036854775808 ≤ n ∧ n ≤ 9223372036854775807) (hk : -9223372036854775808 ≤ k ∧ k ≤ 9223372036854775807) :
    Calls Try.prog 7 #[v, u, .int .i64 n, .int .i64 k] w fun e w' => e = .returned (.bool true) ∧ Below w.heap.size w w' := by
  have HK : Hid (∀ W, Calls Try.prog 18 #[] W fun e w' => e = .returned (.bool true) ∧ Below W.heap.size W w') := Lib.hid hK
  have HB := Lib.hid (Below.refl w.heap.size w)
  have HV := Lib.hid (fun W (hB : Below w.heap.size w W) => hv.keep IntAt.stable hB)
  have HU := Lib.hid (fun W (hB : Below w.heap.size w W) => hu.keep IntAt.stable hB)
  have HWR := Lib.hid (fun W (hB : Below w.heap.size w W) => wrong_any x y v u W (HV.out W hB) (HU.out W hB))
  have HEX := Lib.hid (fun W (hB : Below w.heap.size w W) => Exists_any x y n k v u W (HV.out W hB) (HU.out W hB) hn hk)
  obtain ⟨a, c, rfl, hl, -⟩ := id hv
  obtain ⟨b, d, rfl, hm, -⟩ := id hu
  unfold most at hl hm
  clear hv hu hK
  by_cases g1 : (400 : Int) < x.length
  · go_enter Try.func7, Try.ntmps7
    go_wp2_with (first
      | (go_at_call 28; with_reducible refine Calls.mono (HWR.out _ HB.out) ?_; rintro e w3 ⟨rfl, rfl⟩)
      | (go_at_call 29; with_reducible refine Calls.mono (HEX.out _ HB.out) ?_; rintro e w3 ⟨rfl, rfl⟩)
      | (go_at_call 18; with_reducible refine Calls.mono (HK.out _) ?_; rintro e wk ⟨rfl, hb⟩; have HB2 := Lib.hid hb; clear hb))
    all_goals first
      | (exfalso; omega)
      | (go_ret; exact ⟨rfl, HB2.out⟩)
  · by_cases g2 : (400 : Int) < y.length
    · go_enter Try.func7, Try.ntmps7
      go_wp2_with (first
        | (go_at_call 28; with_reducible refine Calls.mono (HWR.out _ HB.out) ?_; rintro e w3 ⟨rfl, rfl⟩)
        | (go_at_call 29; with_reducible refine Calls.mono (HEX.out _ HB.out) ?_; rintro e w3 ⟨rfl, rfl⟩)
        | (go_at_call 18; with_reducible refine Calls.mono (HK.out _) ?_; rintro e wk ⟨rfl, hb⟩; have HB2 := Lib.hid hb; clear hb))
      all_goals first
        | (exfalso; omega)
        | (go_ret; exact ⟨rfl, HB2.out⟩)
    · by_cases hc : chk true [x, y] = 0
      · rw [hc] at HWR
        cases hov : ovl x.length y.length n k
        · rw [hov] at HEX
          clear hc hov
          go_enter Try.func7, Try.ntmps7
          go_wp2_with (first
            | (go_at_call 28; with_reducible refine Calls.mono (HWR.out _ HB.out) ?_; rintro e w3 ⟨rfl, rfl⟩)
            | (go_at_call 29; with_reducible refine Calls.mono (HEX.out _ HB.out) ?_; rintro e w3 ⟨rfl, rfl⟩)
            | (go_at_call 18; with_reducible refine Calls.mono (HK.out _) ?_; rintro e wk ⟨rfl, hb⟩; have HB2 := Lib.hid hb; clear hb))
          all_goals first
            | (exfalso; omega)
            | (go_ret; exact ⟨rfl, HB2.out⟩)
        · rw [hov] at HEX
          obtain ⟨n, k, rfl, rfl, q1, q2, q3⟩ := ovl_nat hov
          have h2c := chk2_ok hc
          have sx := sm_of h2c.2.2.1
          have sy := sm_of h2c.2.2.2.1
          have hje : joinErr x y (n : Int) (k : Int) = 0 := by unfold joinErr; rw [hov, hc, if_pos rfl, if_neg (by omega)]
          obtain ⟨s, hs⟩ : ∃ s, x.length = s + n := ⟨x.length - n, by omega⟩
          obtain ⟨hjl, -⟩ := join_at (x := x) (y := y) (k := k) hs q3
          obtain ⟨T, hT⟩ : ∃ T, T = s + n + (y.length - (k + n)) := ⟨_, rfl⟩
          rw [← hT] at hjl
          have HJ : Hid (∀ W, Below w.heap.size w W → Calls Try.prog 27 #[.slice a x.length c, .slice b y.length d, .int .i64 (n : Int), .int .i64 (k : Int)] W fun e w' => (∃ ob oo rc, e = .returned (.tuple #[.slice (some ⟨ob, oo, none⟩) T rc, .int .i64 0]) ∧ (T ≤ rc ∧ T ≤ 1000000) ∧ SliceV w' (.slice (some ⟨ob, oo, none⟩) T rc) 1 IntAt (joinL x y n k)) ∧ Below W.heap.size W w') := Lib.hid (fun W hB => by
            have h := out_slice (Join_any x y n k _ _ W (HV.out W hB) (HU.out W hB) hn hk)
            rw [hje, if_pos rfl, Int.toNat_natCast, Int.toNat_natCast, hjl] at h
            refine h.mono fun e w' ⟨⟨ra, rc, he, hs2⟩, hb⟩ => ?_
            obtain ⟨ob, oo, rfl, -⟩ := hs2.at (by intro h; rw [h] at hjl; simp at hjl; omega)
            obtain ⟨_, _, hh, hcc, -⟩ := id hs2
            obtain ⟨-, -, rfl⟩ := Value.slice.inj hh
            exact ⟨⟨ob, oo, _, he, ⟨by rw [hjl] at hcc; exact hcc.2, by omega⟩, hs2⟩, hb⟩)
          have hst : ∀ (l : List Int) (u : Value) W, l.length ≤ 1000 → Sm l → SliceV W u 1 IntAt l → Calls Try.prog 21 #[u] W fun e w' => e = .returned (.tuple #[.int .i64 (stp l), .int .i64 0]) ∧ Below W.heap.size W w' := fun l u W h1 h2 hu => by
            have h : chk true [l] = 0 := by rw [chk_one, if_neg (by omega), if_pos ⟨rfl, ok_of_sm h2⟩]
            have := Step_any l u W hu
            rwa [if_pos h, h] at this
          have HSA := Lib.hid (fun W (hB : Below w.heap.size w W) => hst x _ W (by omega) sx (HV.out W hB))
          have HSB := Lib.hid (fun W (hB : Below w.heap.size w W) => hst y _ W (by omega) sy (HU.out W hB))
          have HSO := Lib.hid (fun u W (hu : SliceV W u 1 IntAt (joinL x y n k)) => hst (joinL x y n k) u W (by omega) (sm_join sx sy n k) hu)
          have HSM : Hid (∀ W v u l, SliceV W v 1 IntAt l → SliceV W u 1 IntAt l → Calls Try.prog 31 #[v, u] W fun e w' => e = .returned (.bool true) ∧ Below W.heap.size W w') := Lib.hid (fun W v u l hv hu => (Same_any _ _ v u W hv hu).mono fun e w' ⟨he, hb⟩ => ⟨by rw [he, decide_eq_true rfl], hb⟩)
          have hsp := stp_join (x := x) (y := y) q1 q2 q3
          have r1 := stp_rng sx
          have r2 := stp_rng sy
          have r3 := stp_rng (sm_join sx sy n k)
          have hgi := fun m => gp_in sx sy n k m
          have hg0 := fun m => (gp_ge x y n k m).1
          obtain ⟨xb, xo, rfl⟩ : ∃ xb xo, a = some ⟨xb, xo, none⟩ := by
            obtain ⟨xb, xo, he, -⟩ := (HV.out w (Below.refl _ _)).at (by intro h; rw [h] at q2; simp at q2; omega)
            exact ⟨xb, xo, by simpa using he⟩
          obtain ⟨yb, yo, rfl⟩ : ∃ yb yo, b = some ⟨yb, yo, none⟩ := by
            obtain ⟨xb, xo, he, -⟩ := (HU.out w (Below.refl _ _)).at (by intro h; rw [h] at q3; simp at q3; omega)
            exact ⟨xb, xo, by simpa using he⟩
          have HAT : Hid (∀ i : Nat, i < n → ∀ W, Below w.heap.size w W → W.cell? ⟨xb, xo + (s + i), none⟩ = some (.int .i64 (x.getD (x.length - n + i) 0)) ∧ W.cell? ⟨yb, yo + (k + i), none⟩ = some (.int .i64 (y.getD (k + i) 0))) := Lib.hid (fun i hi W hB => by
            obtain ⟨xb', xo', he2, hxf⟩ := (HV.out W hB).at (by intro h; rw [h] at q2; simp at q2; omega)
            obtain ⟨yb', yo', he3, hyf⟩ := (HU.out W hB).at (by intro h; rw [h] at q3; simp at q3; omega)
            obtain ⟨rfl, rfl⟩ : xb = xb' ∧ xo = xo' := by simpa using he2
            obtain ⟨rfl, rfl⟩ : yb = yb' ∧ yo = yo' := by simpa using he3
            have p0 := hxf (s + i) (by omega)
            have q0 := hyf (k + i) (by omega)
            unfold IntAt at p0 q0
            rw [Nat.mul_one] at p0 q0
            rw [show x.length - n + i = s + i by omega, gI (by omega), gI (by omega)]
            exact ⟨p0, q0⟩)
          have HXP := Lib.hid (fun W (hB : Below w.heap.size w W) => (HV.out W hB).part 0 s c (by omega) (by omega))
          have HYP := Lib.hid (fun W (hB : Below w.heap.size w W) => (HU.out W hB).from (k + n) q3)
          have hjt : ((joinL x y n k).drop 0).take s = (x.drop 0).take s := by
            unfold joinL
            rw [List.drop_zero, List.drop_zero, hs, Nat.add_sub_cancel, List.append_assoc, List.take_append_of_le_length (by rw [List.length_take]; omega), List.take_take, Nat.min_self]
          have hjd : (joinL x y n k).drop (s + n) = y.drop (k + n) := by
            unfold joinL
            rw [hs, Nat.add_sub_cancel]
            refine List.drop_left' ?_
            rw [List.length_append, List.length_take, fadeL_len, endA_len q2]
            omega
          have HJT := Lib.hid hjt
          have HJD := Lib.hid hjd
          have HSM2 := Lib.hid (show Sm x ∧ Sm y from ⟨sx, sy⟩)
          obtain ⟨sa, e1⟩ : ∃ t, t = stp x := ⟨_, rfl⟩
          obtain ⟨sb, e2⟩ : ∃ t, t = stp y := ⟨_, rfl⟩
          obtain ⟨so, e3⟩ : ∃ t, t = stp (joinL x y n k) := ⟨_, rfl⟩
          rw [← e1] at hsp r1 HSA
          rw [← e2] at hsp r2 HSB
          rw [← e3] at hsp r3 HSO
          have HSP := Lib.hid hsp
          obtain ⟨L, hL⟩ : ∃ L, L = x.length := ⟨_, rfl⟩
          obtain ⟨m, hM⟩ : ∃ m, m = y.length := ⟨_, rfl⟩
          have HLL := Lib.hid (show L = s + n ∧ T = s + n + (m - (k + n)) by omega)
          rw [← hL] at HWR HEX HJ HSA hl g1 q2 ⊢
          rw [← hM] at HWR HEX HJ HSB HYP hm g2 q3 ⊢
          have f1 : IntKind.i64.wrap ((L : Int) + m) = (L : Int) + m := IntWalk.i64_in _ (by omega)
          have f2 : IntKind.i64.wrap ((L : Int) + m - n) = (L : Int) + m - n := IntWalk.i64_in _ (by omega)
          have f3 : IntKind.i64.wrap ((L : Int) + m - n - k) = (T : Int) := by rw [show (L : Int) + m - n - k = (T : Int) by omega]; exact IntWalk.i64_in _ (by omega)
          have f4 : IntKind.i64.wrap ((L : Int) - n) = (s : Int) := by rw [show (L : Int) - n = (s : Int) by omega]; exact IntWalk.i64_in _ (by omega)
          have f5 : IntKind.i64.wrap ((k : Int) + n) = (k : Int) + n := IntWalk.i64_in _ (by omega)
          have f6 : IntKind.i64.wrap ((n : Int) + 1) = (n : Int) + 1 := IntWalk.i64_in _ (by omega)
          have f7 : IntKind.i64.wrap (s : Int) = (s : Int) := IntWalk.i64_in _ (by omega)
          have i9 : ((k : Int) + (n : Int)).toNat = k + n := by omega
          have i1 : (0 : Int) ≤ (s : Int) := by omega
          have i2 : (s : Int) ≤ (c : Int) := by omega
          have i3 : (L : Int) ≤ (T : Int) := by omega
          have i4 : (k : Int) + (n : Int) ≤ (m : Int) := by omega
          have i5 : (m : Int) ≤ (d : Int) := by omega
          have i6 : (0 : Int) ≤ (k : Int) + (n : Int) := by omega
          have i7 : (s : Int) ≤ (T : Int) := by omega
          clear hsp hs hT hL hM hjl hje hst hc hov h2c sx sy hjt hjd e1 e2 e3
          go_enter Try.func7, Try.ntmps7
          go_wp2_with (first
            | (go_at_call 28; with_reducible refine Calls.mono (HWR.out _ HB.out) ?_; rintro e w3 ⟨rfl, rfl⟩)
            | (go_at_call 29; with_reducible refine Calls.mono (HEX.out _ HB.out) ?_; rintro e w3 ⟨rfl, rfl⟩)
            | (go_at_call 27; with_reducible refine Calls.mono (HJ.out _ HB.out) ?_; rintro e w1 ⟨⟨ob, oo, rc, rfl, hrc, hs⟩, hb⟩; have HB1 := Lib.hid hb; have HO := Lib.hid hs; clear hb hs)
            | (go_at_call 21; with_reducible refine Calls.mono (HSO.out _ _ HO.out) ?_; rintro e w4 ⟨rfl, hb⟩; have HB2 := Lib.hid (bThen HB1.out hb); have HO2 := Lib.hid (HO.out.keep IntAt.stable hb); clear hb)
            | (go_at_call 21; with_reducible refine Calls.mono (HSA.out _ HB2.out) ?_; rintro e w5 ⟨rfl, hb⟩; have HB3 := Lib.hid (bThen HB2.out hb); have HO3 := Lib.hid (HO2.out.keep IntAt.stable hb); clear hb)
            | (go_at_call 21; with_reducible refine Calls.mono (HSB.out _ HB3.out) ?_; rintro e w6 ⟨rfl, hb⟩; have HB4 := Lib.hid (bThen HB3.out hb); have HO4 := Lib.hid (HO3.out.keep IntAt.stable hb); clear hb))
          all_goals first
            | (exfalso; omega)
            | skip
          go_loopw [17, 18] (fun g i wr => ∃ j : Nat, j ≤ n ∧ g = .int .i64 (gp x y n k j) ∧ i = .int .i64 j ∧ Hid (Below w.heap.size w wr) ∧ Hid (SliceV wr (.slice (some ⟨ob, oo, none⟩) T rc) 1 IntAt (joinL x y n k))) (fun _ i _ => n - (intOf i).toNat)
          case atStart => exact ⟨0, Nat.zero_le _, rfl, rfl, HB4, HO4⟩
          case round =>
            obtain ⟨i, hi, rfl, rfl, HBR, HOR⟩ := hrel
            by_cases hlt : i < n
            · obtain ⟨p0, q0⟩ := HAT.out i hlt wr HBR.out
              have hgl := hgi i
              have hgz := hg0 i
              have HT : Hid (gp x y n k (i + 1) = max (max (gp x y n k i) (x.getD (x.length - n + i) 0 - y.getD (k + i) 0)) (y.getD (k + i) 0 - x.getD (x.length - n + i) 0)) := Lib.hid rfl
              have pr := sm_getD HSM2.out.1 (x.length - n + i)
              have qr := sm_getD HSM2.out.2 (k + i)
              obtain ⟨p, hp⟩ : ∃ p, p = x.getD (x.length - n + i) 0 := ⟨_, rfl⟩
              obtain ⟨q, hq⟩ : ∃ q, q = y.getD (k + i) 0 := ⟨_, rfl⟩
              rw [← hp] at p0 HT pr
              rw [← hq] at q0 HT qr
              clear hp hq
              obtain ⟨g, hg⟩ : ∃ g, g = gp x y n k i := ⟨_, rfl⟩
              rw [← hg] at hgl hgz HT ⊢
              clear hg
              have pl := cell_lt p0
              have ql := cell_lt q0
              have hll := HLL.out
              have t1 : IntKind.i64.wrap ((s : Int) + i) = (s : Int) + i := IntWalk.i64_in _ (by omega)
              have t2 : IntKind.i64.wrap ((k : Int) + i) = (k : Int) + i := IntWalk.i64_in _ (by omega)
              have t3 : ((s : Int) + (i : Int)).toNat = s + i := by omega
              have t4 : ((k : Int) + (i : Int)).toNat = k + i := by omega
              have t5 : (0 : Int) ≤ (s : Int) + i := by omega
              have t6 : (s : Int) + i < (L : Int) := by omega
              have t7 : (0 : Int) ≤ (k : Int) + i := by omega
              have t8 : (k : Int) + i < (m : Int) := by omega
              obtain ⟨d1, hd1⟩ : ∃ t, t = p - q := ⟨_, rfl⟩
              obtain ⟨d2, hd2⟩ : ∃ t, t = q - p := ⟨_, rfl⟩
              have t9 : IntKind.i64.wrap (p - q) = d1 := by rw [hd1]; exact IntWalk.i64_in _ (by omega)
              have t10 : IntKind.i64.wrap (q - p) = d2 := by rw [hd2]; exact IntWalk.i64_in _ (by omega)
              rw [← hd1, ← hd2] at HT
              have hdd : d2 = -d1 := by omega
              have HDD := Lib.hid hdd
              clear hd1 hd2 hll hdd
              by_cases j1 : d1 ≤ g
              · by_cases j2 : d2 ≤ g
                · rw [show max (max g d1) d2 = g by omega] at HT
                  go_wp2_with fail
                  refine wp_opaque fun Q2 hQ2 => ?_
                  (refine wp_region_below (by kernel_rfl) (by kernel_rfl) ?_; (repeat (first | go_big_quiet_step (fail) | quiet_step (fail))); (refine wpQuiet_nil ?_; intro _ hw'; obtain ⟨xq, hw''⟩ := hw'; subst hw''))
                  refine hQ2 _ _ _ ?_
                  have hbx := xq.2
                  go_wp2_with fail
                  go_roundw
                  case rel => exact ⟨i + 1, by omega, by rw [HT.out], by go_num, Lib.hid (bThen HBR.out hbx), Lib.hid (HOR.out.keep IntAt.stable hbx)⟩
                  case measure => simp [intOf]; omega
                · rw [show max (max g d1) d2 = d2 by omega] at HT
                  go_wp2_with fail
                  refine wp_opaque fun Q2 hQ2 => ?_
                  (refine wp_region_below (by kernel_rfl) (by kernel_rfl) ?_; (repeat (first | go_big_quiet_step (fail) | quiet_step (fail))); (refine wpQuiet_nil ?_; intro _ hw'; obtain ⟨xq, hw''⟩ := hw'; subst hw''))
                  refine hQ2 _ _ _ ?_
                  have hbx := xq.2
                  go_wp2_with fail
                  go_roundw
                  case rel => exact ⟨i + 1, by omega, by rw [HT.out], by go_num, Lib.hid (bThen HBR.out hbx), Lib.hid (HOR.out.keep IntAt.stable hbx)⟩
                  case measure => simp [intOf]; omega
              · have hdd := HDD.out
                have j2 : d2 ≤ d1 := by omega
                rw [show max (max g d1) d2 = d1 by omega] at HT
                clear hdd
                go_wp2_with fail
                refine wp_opaque fun Q2 hQ2 => ?_
                (refine wp_region_below (by kernel_rfl) (by kernel_rfl) ?_; (repeat (first | go_big_quiet_step (fail) | quiet_step (fail))); (refine wpQuiet_nil ?_; intro _ hw'; obtain ⟨xq, hw''⟩ := hw'; subst hw''))
                refine hQ2 _ _ _ ?_
                have hbx := xq.2
                go_wp2_with fail
                go_roundw
                case rel => exact ⟨i + 1, by omega, by rw [HT.out], by go_num, Lib.hid (bThen HBR.out hbx), Lib.hid (HOR.out.keep IntAt.stable hbx)⟩
                case measure => simp [intOf]; omega
            · obtain rfl : i = n := by omega
              have hgl := hgi i
              have hgz := hg0 i
              have hsp := HSP.out
              obtain ⟨g, hg⟩ : ∃ g, g = gp x y i k i := ⟨_, rfl⟩
              rw [← hg] at hgl hgz hsp ⊢
              clear hg
              have HP1 : Hid (∀ W, Below wr.heap.size wr W → Calls Try.prog 31 #[.slice (some ⟨ob, oo, none⟩) s rc, .slice (some ⟨xb, xo, none⟩) s c] W fun e w' => e = .returned (.bool true) ∧ Below W.heap.size W w') := Lib.hid (fun W hB => by
                have k1 := (HOR.out.keep IntAt.stable hB).part 0 s rc (by have := HLL.out; have := (HOR.out).len; omega) (by have := HLL.out; omega)
                have k2 := HXP.out W (bThen HBR.out hB)
                rw [HJT.out] at k1
                rw [Nat.add_zero] at k1 k2
                exact HSM.out _ _ _ _ k1 k2)
              have HOF := Lib.hid (fun W (hB : Below wr.heap.size wr W) => (HOR.out.keep IntAt.stable hB).from L (by have := HLL.out; omega))
              have HYF := Lib.hid (fun W (hB : Below wr.heap.size wr W) => HYP.out W (bThen HBR.out hB))
              have HDR : Hid ((joinL x y i k).drop L = y.drop (k + i)) := Lib.hid (by rw [HLL.out.1]; exact HJD.out)
              rw [HDR.out] at HOF
              have HP2 := Lib.hid (fun W (hB : Below wr.heap.size wr W) => HSM.out W _ _ _ (HOF.out W hB) (HYF.out W hB))
              have hll := HLL.out
              have i8 : (T : Int) ≤ (rc : Int) := by omega
              have i10 : (L : Int) ≤ (rc : Int) := by omega
              have i11 : (s : Int) ≤ (rc : Int) := by omega
              obtain ⟨mx, hmx⟩ : ∃ t, t = max sa sb := ⟨_, rfl⟩
              rw [← hmx] at hsp
              obtain ⟨u1, hu1⟩ : ∃ t, t = so - mx := ⟨_, rfl⟩
              obtain ⟨u2, hu2⟩ : ∃ t, t = u1 - 1 := ⟨_, rfl⟩
              rw [← hu1, ← hu2] at hsp
              have w1' : IntKind.i64.wrap (so - mx) = u1 := by rw [← hu1]; exact IntWalk.i64_in _ (by omega)
              have w2' : IntKind.i64.wrap (u1 - 1) = u2 := by rw [← hu2]; exact IntWalk.i64_in _ (by omega)
              have mu := mul_in (A := 200000) (B := 1000) (show -200000 ≤ u2 by omega) (by omega) (show -1000 ≤ (i : Int) + 1 by omega) (by omega)
              obtain ⟨pr, hpr⟩ : ∃ t, t = u2 * ((i : Int) + 1) := ⟨_, rfl⟩
              rw [← hpr] at hsp mu
              have w3' : IntKind.i64.wrap (u2 * ((i : Int) + 1)) = pr := by rw [← hpr]; exact IntWalk.i64_in _ (by omega)
              clear hll hu1 hu2 hpr hgi hg0
              by_cases z1 : rc = L
              · rw [if_pos z1] at HP2
                obtain rfl : L = T := by omega
                obtain rfl : L = rc := z1.symm
                simp only [Nat.sub_self] at HP2
                clear i3 i8 i10
                by_cases z2 : d = k + i
                · rw [if_pos z2] at HP2
                  obtain rfl : k + i = m := by omega
                  obtain rfl : k + i = d := z2.symm
                  simp only [Nat.sub_self] at HP2
                  clear i4 i5
                  by_cases z3 : sa < sb
                  · obtain rfl : mx = sb := by omega
                    clear hmx
                    go_wp2_with fail
                    refine wp_opaque fun Q2 hQ2 => ?_
                    (refine wp_region_below (by kernel_rfl) (by kernel_rfl) ?_; (repeat (first | go_big_quiet_step ((first | (with_reducible exact toB (fun x => HP1.out _ x.2) _) | (with_reducible exact toB (fun x => HP2.out _ x.2) _) | (with_reducible exact toB (fun x => HK.out _) _))) | quiet_step ((first | (with_reducible exact toB (fun x => HP1.out _ x.2) _) | (with_reducible exact toB (fun x => HP2.out _ x.2) _) | (with_reducible exact toB (fun x => HK.out _) _))))); (refine wpQuiet_nil ?_; intro _ hw'; obtain ⟨xq, hw''⟩ := hw'; subst hw''))
                    refine hQ2 _ _ _ ?_
                    have hbx := xq.2
                    go_wp2_with fail
                    go_ret
                    exact ⟨rfl, bThen HBR.out hbx⟩
                  · obtain rfl : mx = sa := by omega
                    clear hmx
                    go_wp2_with fail
                    refine wp_opaque fun Q2 hQ2 => ?_
                    (refine wp_region_below (by kernel_rfl) (by kernel_rfl) ?_; (repeat (first | go_big_quiet_step ((first | (with_reducible exact toB (fun x => HP1.out _ x.2) _) | (with_reducible exact toB (fun x => HP2.out _ x.2) _) | (with_reducible exact toB (fun x => HK.out _) _))) | quiet_step ((first | (with_reducible exact toB (fun x => HP1.out _ x.2) _) | (with_reducible exact toB (fun x => HP2.out _ x.2) _) | (with_reducible exact toB (fun x => HK.out _) _))))); (refine wpQuiet_nil ?_; intro _ hw'; obtain ⟨xq, hw''⟩ := hw'; subst hw''))
                    refine hQ2 _ _ _ ?_
                    have hbx := xq.2
                    go_wp2_with fail
                    go_ret
                    exact ⟨rfl, bThen HBR.out hbx⟩
                · rw [if_neg z2] at HP2
                  by_cases z3 : sa < sb
                  · obtain rfl : mx = sb := by omega
                    clear hmx
                    go_wp2_with fail
                    refine wp_opaque fun Q2 hQ2 => ?_
                    (refine wp_region_below (by kernel_rfl) (by kernel_rfl) ?_; (repeat (first | go_big_quiet_step ((first | (with_reducible exact toB (fun x => HP1.out _ x.2) _) | (with_reducible exact toB (fun x => HP2.out _ x.2) _) | (with_reducible exact toB (fun x => HK.out _) _))) | quiet_step ((first | (with_reducible exact toB (fun x => HP1.out _ x.2) _) | (with_reducible exact toB (fun x => HP2.out _ x.2) _) | (with_reducible exact toB (fun x => HK.out _) _))))); (refine wpQuiet_nil ?_; intro _ hw'; obtain ⟨xq, hw''⟩ := hw'; subst hw''))
                    refine hQ2 _ _ _ ?_
                    have hbx := xq.2
                    go_wp2_with fail
                    go_ret
                    exact ⟨rfl, bThen HBR.out hbx⟩
                  · obtain rfl : mx = sa := by omega
                    clear hmx
                    go_wp2_with fail
                    refine wp_opaque fun Q2 hQ2 => ?_
                    (refine wp_region_below (by kernel_rfl) (by kernel_rfl) ?_; (repeat (first | go_big_quiet_step ((first | (with_reducible exact toB (fun x => HP1.out _ x.2) _) | (with_reducible exact toB (fun x => HP2.out _ x.2) _) | (with_reducible exact toB (fun x => HK.out _) _))) | quiet_step ((first | (with_reducible exact toB (fun x => HP1.out _ x.2) _) | (with_reducible exact toB (fun x => HP2.out _ x.2) _) | (with_reducible exact toB (fun x => HK.out _) _))))); (refine wpQuiet_nil ?_; intro _ hw'; obtain ⟨xq, hw''⟩ := hw'; subst hw''))
                    refine hQ2 _ _ _ ?_
                    have hbx := xq.2
                    go_wp2_with fail
                    go_ret
                    exact ⟨rfl, bThen HBR.out hbx⟩
              · rw [if_neg z1] at HP2
                by_cases z2 : d = k + i
                · rw [if_pos z2] at HP2
                  obtain rfl : k + i = m := by omega
                  obtain rfl : k + i = d := z2.symm
                  simp only [Nat.sub_self] at HP2
                  clear i4 i5
                  by_cases z3 : sa < sb
                  · obtain rfl : mx = sb := by omega
                    clear hmx
                    go_wp2_with fail
                    refine wp_opaque fun Q2 hQ2 => ?_
                    (refine wp_region_below (by kernel_rfl) (by kernel_rfl) ?_; (repeat (first | go_big_quiet_step ((first | (with_reducible exact toB (fun x => HP1.out _ x.2) _) | (with_reducible exact toB (fun x => HP2.out _ x.2) _) | (with_reducible exact toB (fun x => HK.out _) _))) | quiet_step ((first | (with_reducible exact toB (fun x => HP1.out _ x.2) _) | (with_reducible exact toB (fun x => HP2.out _ x.2) _) | (with_reducible exact toB (fun x => HK.out _) _))))); (refine wpQuiet_nil ?_; intro _ hw'; obtain ⟨xq, hw''⟩ := hw'; subst hw''))
                    refine hQ2 _ _ _ ?_
                    have hbx := xq.2
                    go_wp2_with fail
                    go_ret
                    exact ⟨rfl, bThen HBR.out hbx⟩
                  · obtain rfl : mx = sa := by omega
                    clear hmx
                    go_wp2_with fail
                    refine wp_opaque fun Q2 hQ2 => ?_
                    (refine wp_region_below (by kernel_rfl) (by kernel_rfl) ?_; (repeat (first | go_big_quiet_step ((first | (with_reducible exact toB (fun x => HP1.out _ x.2) _) | (with_reducible exact toB (fun x => HP2.out _ x.2) _) | (with_reducible exact toB (fun x => HK.out _) _))) | quiet_step ((first | (with_reducible exact toB (fun x => HP1.out _ x.2) _) | (with_reducible exact toB (fun x => HP2.out _ x.2) _) | (with_reducible exact toB (fun x => HK.out _) _))))); (refine wpQuiet_nil ?_; intro _ hw'; obtain ⟨xq, hw''⟩ := hw'; subst hw''))
                    refine hQ2 _ _ _ ?_
                    have hbx := xq.2
                    go_wp2_with fail
                    go_ret
                    exact ⟨rfl, bThen HBR.out hbx⟩
                · rw [if_neg z2] at HP2
                  by_cases z3 : sa < sb
                  · obtain rfl : mx = sb := by omega
                    clear hmx
                    go_wp2_with fail
                    refine wp_opaque fun Q2 hQ2 => ?_
                    (refine wp_region_below (by kernel_rfl) (by kernel_rfl) ?_; (repeat (first | go_big_quiet_step ((first | (with_reducible exact toB (fun x => HP1.out _ x.2) _) | (with_reducible exact toB (fun x => HP2.out _ x.2) _) | (with_reducible exact toB (fun x => HK.out _) _))) | quiet_step ((first | (with_reducible exact toB (fun x => HP1.out _ x.2) _) | (with_reducible exact toB (fun x => HP2.out _ x.2) _) | (with_reducible exact toB (fun x => HK.out _) _))))); (refine wpQuiet_nil ?_; intro _ hw'; obtain ⟨xq, hw''⟩ := hw'; subst hw''))
                    refine hQ2 _ _ _ ?_
                    have hbx := xq.2
                    go_wp2_with fail
                    go_ret
                    exact ⟨rfl, bThen HBR.out hbx⟩
                  · obtain rfl : mx = sa := by omega
                    clear hmx
                    go_wp2_with fail
                    refine wp_opaque fun Q2 hQ2 => ?_
                    (refine wp_region_below (by kernel_rfl) (by kernel_rfl) ?_; (repeat (first | go_big_quiet_step ((first | (with_reducible exact toB (fun x => HP1.out _ x.2) _) | (with_reducible exact toB (fun x => HP2.out _ x.2) _) | (with_reducible exact toB (fun x => HK.out _) _))) | quiet_step ((first | (with_reducible exact toB (fun x => HP1.out _ x.2) _) | (with_reducible exact toB (fun x => HP2.out _ x.2) _) | (with_reducible exact toB (fun x => HK.out _) _))))); (refine wpQuiet_nil ?_; intro _ hw'; obtain ⟨xq, hw''⟩ := hw'; subst hw''))
                    refine hQ2 _ _ _ ?_
                    have hbx := xq.2
                    go_wp2_with fail
                    go_ret
                    exact ⟨rfl, bThen HBR.out hbx⟩
      · obtain ⟨er, her⟩ : ∃ er, er = chk true [x, y] := ⟨_, rfl⟩
        rw [← her] at HWR hc
        have hb0 : (er == 0) = false := beq_eq_false_iff_ne.2 hc
        have hb1 : (er != 0) = true := by unfold bne; rw [hb0]; rfl
        clear her
        go_enter Try.func7, Try.ntmps7
        go_wp2_with (first
          | (go_at_call 28; with_reducible refine Calls.mono (HWR.out _ HB.out) ?_; rintro e w3 ⟨rfl, rfl⟩)
          | (go_at_call 29; with_reducible refine Calls.mono (HEX.out _ HB.out) ?_; rintro e w3 ⟨rfl, rfl⟩)
          | (go_at_call 18; with_reducible refine Calls.mono (HK.out _) ?_; rintro e wk ⟨rfl, hb⟩; have HB2 := Lib.hid hb; clear hb))
        all_goals first
          | (exfalso; omega)
          | (go_ret; exact ⟨rfl, HB2.out⟩)
end Go.Proofs.Ytbeeddenidfenaa
