/- The law of superposition. -/
import Derived.Test.YtejcbcjhmnhefaaDoorL5
import Derived.Test.YtejcbcjhmnhefaaDoorL41
set_option linter.unusedSimpArgs false
set_option linter.unusedVariables false
namespace Go.Proofs.YtejcbcjhmnhefaaDoor
open Go.RowKit

set_option maxRecDepth 100000 in
set_option maxHeartbeats 16000000 in
theorem lawAdds_any (n base : Int) (l : List Cmd) (v : Value) (later : Int) (w : World) (hv : SliceV w v 3 CmdAt l) (hS : Semi w) :
    Calls Tryd.prog 5 #[.int .i64 n, .int .i64 base, v, .int .i64 later] w fun e w' => e = .returned (.bool true) ∧ Below w.heap.size w w' := by
  have HS := Lib.hid hS
  have HV := Lib.hid hv
  obtain ⟨a, c, rfl, hl, -⟩ := hv
  unfold most at hl
  have HKN : Hid (∀ _ : Unit, Calls Tryd.prog 19 #[.slice a l.length c] w fun e w' => e = .returned (.bool (knotsB l)) ∧ w = w') := Lib.hid fun _ => knots_any l _ w HV.out
  have H15 : Hid (∀ W, Below w.heap.size w W → Calls Tryd.prog 15 #[] W fun e w' => e = .returned (.bool true) ∧ Below W.heap.size W w') := Lib.hid fun W hB => known_any W (HS.out.keep hB)
  have H20 : Hid (∀ W, Below w.heap.size w W → _) := Lib.hid fun W hB => CurveN_any n base l (.slice a l.length c) W (HV.out.keep CmdAt.stable hB)
  have H21 : Hid (∀ W, Below w.heap.size w W → _) := Lib.hid fun W hB => refCurved_any n base l (.slice a l.length c) W (HV.out.keep CmdAt.stable hB)
  have HB1 := Lib.hid (Below.refl w.heap.size w)
  clear hS
  by_cases a1 : n < 0
  · have d1 : decide (n < 0) = true := decide_eq_true a1
    go_enter Tryd.func5, Tryd.ntmps5
    go_wp2_with fail
    refine (H15.out _ HB1.out).mono ?_
    rintro e w9 ⟨rfl, hb⟩
    have HB9 := Lib.hid (bThen HB1.out hb)
    clear hb
    go_wp2_with fail
    go_ret
    exact ⟨rfl, HB9.out⟩
  have d1 : decide (n < 0) = false := decide_eq_false a1
  by_cases a2 : n > 200
  · have d2 : decide (n > 200) = true := decide_eq_true a2
    go_enter Tryd.func5, Tryd.ntmps5
    go_wp2_with fail
    refine (H15.out _ HB1.out).mono ?_
    rintro e w9 ⟨rfl, hb⟩
    have HB9 := Lib.hid (bThen HB1.out hb)
    clear hb
    go_wp2_with fail
    go_ret
    exact ⟨rfl, HB9.out⟩
  have d2 : decide (n > 200) = false := decide_eq_false a2
  by_cases a3 : (l.length : Int) > 8
  · have d3 : decide ((l.length : Int) > 8) = true := decide_eq_true a3
    go_enter Tryd.func5, Tryd.ntmps5
    go_wp2_with fail
    refine (H15.out _ HB1.out).mono ?_
    rintro e w9 ⟨rfl, hb⟩
    have HB9 := Lib.hid (bThen HB1.out hb)
    clear hb
    go_wp2_with fail
    go_ret
    exact ⟨rfl, HB9.out⟩
  have d3 : decide ((l.length : Int) > 8) = false := decide_eq_false a3
  cases kn : knotsB l
  · go_enter Tryd.func5, Tryd.ntmps5
    go_wp2_with (go_at_call 19; refine (HKN.out ()).mono ?_; rintro e w' ⟨rfl, rfl⟩; rw [kn])
    refine (H15.out _ HB1.out).mono ?_
    rintro e w9 ⟨rfl, hb⟩
    have HB9 := Lib.hid (bThen HB1.out hb)
    clear hb
    go_wp2_with fail
    go_ret
    exact ⟨rfl, HB9.out⟩
  cases hok : curveOk n base l
  · rw [hok] at H21
    go_enter Tryd.func5, Tryd.ntmps5
    go_wp2_with (go_at_call 19; refine (HKN.out ()).mono ?_; rintro e w' ⟨rfl, rfl⟩; rw [kn])
    refine (H21.out _ HB1.out).mono ?_
    rintro e w2 ⟨rfl, hb⟩
    replace HB1 := Lib.hid (bThen HB1.out hb)
    clear hb
    go_wp2_with fail
    refine (H15.out _ HB1.out).mono ?_
    rintro e w9 ⟨rfl, hb⟩
    have HB9 := Lib.hid (bThen HB1.out hb)
    clear hb
    go_wp2_with fail
    go_ret
    exact ⟨rfl, HB9.out⟩
  rw [hok] at H21
  by_cases a4 : later < 0
  · have d4 : decide (later < 0) = true := decide_eq_true a4
    go_enter Tryd.func5, Tryd.ntmps5
    go_wp2_with (go_at_call 19; refine (HKN.out ()).mono ?_; rintro e w' ⟨rfl, rfl⟩; rw [kn])
    refine (H21.out _ HB1.out).mono ?_
    rintro e w2 ⟨rfl, hb⟩
    replace HB1 := Lib.hid (bThen HB1.out hb)
    clear hb
    go_wp2_with fail
    refine (H15.out _ HB1.out).mono ?_
    rintro e w9 ⟨rfl, hb⟩
    have HB9 := Lib.hid (bThen HB1.out hb)
    clear hb
    go_wp2_with fail
    go_ret
    exact ⟨rfl, HB9.out⟩
  have d4 : decide (later < 0) = false := decide_eq_false a4
  by_cases a5 : later > 100
  · have d5 : decide (later > 100) = true := decide_eq_true a5
    go_enter Tryd.func5, Tryd.ntmps5
    go_wp2_with (go_at_call 19; refine (HKN.out ()).mono ?_; rintro e w' ⟨rfl, rfl⟩; rw [kn])
    refine (H21.out _ HB1.out).mono ?_
    rintro e w2 ⟨rfl, hb⟩
    replace HB1 := Lib.hid (bThen HB1.out hb)
    clear hb
    go_wp2_with fail
    refine (H15.out _ HB1.out).mono ?_
    rintro e w9 ⟨rfl, hb⟩
    have HB9 := Lib.hid (bThen HB1.out hb)
    clear hb
    go_wp2_with fail
    go_ret
    exact ⟨rfl, HB9.out⟩
  have d5 : decide (later > 100) = false := decide_eq_false a5
  have hin := curveOk_in hok
  obtain ⟨N, hN⟩ : ∃ N : Nat, n = (N : Int) := ⟨n.toNat, by omega⟩
  obtain ⟨K, hK⟩ : ∃ K : Nat, later = (K : Int) := ⟨later.toNat, by omega⟩
  subst hN hK
  have hN2 : N ≤ 200 := by omega
  have hK2 : K ≤ 100 := by omega
  have hL8 : l.length ≤ 8 := by omega
  have HALL := Lib.hid hin.2.2.2
  have hbase := hin.2.1
  have hk34 := make34 N (by omega)
  obtain ⟨i24, hi24, hz24, hs24, hb24⟩ := info_parts info24
  have HI := Lib.hid hi24
  have HCI : Hid (∀ t : Nat, t ≤ 4000 → ∀ i, i ≤ l.length → -200000000000000000 ≤ curveAt 0 l i t ∧ curveAt 0 l i t ≤ 200000000000000000) := Lib.hid fun t ht i hi => by
    have := curveAt_in 0 l (by omega) hin.2.2.2 t ht i hi; omega
  clear hin hi24
  go_enter Tryd.func5, Tryd.ntmps5
  go_wp2_with (go_at_call 19; refine (HKN.out ()).mono ?_; rintro e w' ⟨rfl, rfl⟩; rw [kn])
  refine (H21.out _ HB1.out).mono ?_
  rintro e w2 ⟨rfl, hb⟩
  replace HB1 := Lib.hid (bThen HB1.out hb)
  clear hb
  go_wp2_with fail
  refine (H20.out _ HB1.out).mono ?_
  rintro e w3 ⟨⟨hno, -⟩ | ⟨-, g0, m2, hm2, -, hg0, rfl, hr⟩, hb⟩
  · rw [hok] at hno; cases hno
  obtain rfl : N = m2 := by omega
  have HR0 := Lib.hid hr
  clear hr hm2 hg0
  replace HB1 := Lib.hid (bThen HB1.out hb)
  clear hb
  go_wp2_with fail
  generalize hW4 : World.alloc w3 _ = W4
  obtain ⟨gs, hgs⟩ : ∃ gs, gs = w3.heap.size := ⟨_, rfl⟩
  rw [← hgs]
  have hB4 : Below w3.heap.size w3 W4 := by rw [← hW4]; exact bAlloc (Below.refl _ _) _
  have hrs : W4.rowIs gs 3 N (fun _ => .int .i64 0) := by rw [← hW4, hgs]; exact World.rowIs_made w3 _ N 3
  have HR4 := Lib.hid (HR0.out.of_block (hB4.block g0 HR0.out.lt))
  have hg0 : g0 < gs := by rw [hgs]; exact HR0.out.lt
  have hgw : w.heap.size ≤ gs := by rw [hgs]; exact HB1.out.size
  have HBW4 := Lib.hid (bThen HB1.out hB4)
  obtain ⟨B, hBe⟩ : ∃ B, B = W4.heap.size := ⟨_, rfl⟩
  have hgB : gs < B := by rw [hBe]; exact hrs.lt
  have HBE := Lib.hid hBe
  have HRS : Hid (W4.rowIs gs 3 N (fun t => .int .i64 (curveAt 0 l 0 t))) := Lib.hid (hrs.congr fun t _ => by simp [curveAt])
  have HBK : Hid (∀ W', Kp2 B gs gs W4 W' → Below w.heap.size w W') := Lib.hid fun W' hK => HBW4.out.trans ⟨hK.os, hK.tape, hK.output, hK.size, fun j hj => hK.block j (by omega) (by omega) (by omega)⟩
  clear hW4 hB4 hrs hBe hgs hk34 HR0 HB1
  go_loopw [12, 13] (fun u i wr => ∃ (k : Nat) (L : List (Cmd × Value)), k ≤ l.length ∧ i = .int .i64 k ∧ Hid (k = L.length) ∧ Hid (L.map Prod.fst = (l.take k).map (shiftC K)) ∧ Hid (∀ p ∈ L, cmdOk p.1 = true) ∧ Hid (∀ p ∈ L, SliceV w p.2 2 KnotAt p.1.shape) ∧ Hid (wr.rowIs gs 3 N (fun t => .int .i64 (curveAt 0 l k t))) ∧ Hid (wr.ownsRow B 24 3 u k (cmdV L)) ∧ Hid (Kp2 B gs gs W4 wr)) (fun _ i _ => l.length - (intOf i).toNat)
  case atStart => exact ⟨0, [], Nat.zero_le _, rfl, Lib.hid rfl, Lib.hid (by simp), Lib.hid (by simp), Lib.hid (by simp), HRS, Lib.hid own_nilC, Lib.hid (Kp2.refl _ _ _ _)⟩
  case round =>
    obtain ⟨k, L, hk, rfl, HLL, HLM, HLO, HLS, HRS, HOW, HK⟩ := hrel
    by_cases hlt : k < l.length
    · obtain ⟨lb, lo, vs, rfl, c0, c1, c2, hs⟩ := cmd_at HV.out hlt
      obtain ⟨sa, sc, rfl⟩ := hs.shape
      have hBw := HBK.out wr HK.out
      have e0 := keep hBw c0
      have e1 := keep hBw c1
      have e2 := keep hBw c2
      have hlb := cell_lt e0
      have hyo := HALL.out l[k] (List.getElem_mem hlt)
      have HSS := Lib.hid hs
      have HBw := Lib.hid hBw
      have HST : Hid (∀ t : Nat, curveAt 0 l (k + 1) t = curveAt 0 l k t + cmdVal l[k] t) := Lib.hid fun t => curveAt_succ 0 l k t hlt
      have HTK : Hid ((l.take (k + 1)).map (shiftC K) = (l.take k).map (shiftC K) ++ [shiftC K l[k]]) := Lib.hid (by rw [take_succ l k hlt, List.map_append]; rfl)
      have hsz := HK.out.size
      have hbb : B ≤ wr.heap.size := by have := HBE.out; omega
      have hya := (cmdOk_in hyo).1
      have HYO := Lib.hid hyo
      have HCC := Lib.hid (And.intro c0 (And.intro c1 c2))
      clear c0 c1 c2 hs hBw hsz hyo
      generalize l[k] = y at *
      have hcells : SliceV (wr.alloc (.cells #[.int .i64 y.at_, .int .i64 y.height, .slice sa y.shape.length sc] 24)) (.slice (some ⟨wr.heap.size, 0, none⟩) 1 1) 3 CmdAt [y] :=
        slice_new _ rfl (by simp) fun i hi => by
          obtain rfl : i = 0 := by simp at hi; omega
          exact ⟨cell_new rfl, cell_new rfl, _, cell_new rfl, HSS.out.keep KnotAt.stable (bThen HBw.out (bAlloc (Below.refl _ _) _))⟩
      have H20b := Lib.hid (CurveN_any N 0 [y] _ _ hcells)
      have HOK1 : Hid (curveOk N 0 [y] = true) := Lib.hid (curveOk_mk (by omega) (by omega) (by simp) (by intro c hc; simp at hc; subst hc; exact HYO.out))
      clear hcells
      go_wp2_with fail
      refine H20b.out.mono ?_
      rintro e w6 ⟨⟨hno, -⟩ | ⟨-, gx, m2, hm2, -, hgx, rfl, hr⟩, hb⟩
      · rw [HOK1.out] at hno; cases hno
      obtain rfl : N = m2 := by omega
      have hb6 : Below wr.heap.size wr w6 := bThen (bAlloc (Below.refl _ _) _) hb
      have hgx2 : wr.heap.size < gx := by simp at hgx; omega
      have HRX : Hid (w6.rowIs gx 3 N (fun t => .int .i64 (cmdVal y t))) := Lib.hid (hr.congr fun t _ => by rw [curveAt_one])
      have HRS6 : Hid (w6.rowIs gs 3 N (fun j => .int .i64 (curveAt 0 l k j + if j < 0 then cmdVal y j else 0))) := Lib.hid ((HRS.out.of_block (hb6.block gs HRS.out.lt)).congr fun j _ => by rw [if_neg (by omega), Int.add_zero])
      have HOW6 := Lib.hid (ownsRow_below HOW.out hb6)
      have HK6 := Lib.hid (HK.out.trans (Kp2.of_below (hb6.mono hbb)))
      have HB6 := Lib.hid hb6
      have hgxs : gx ≠ gs := by omega
      clear hr hm2 hgx hb hb6 hgx2 e0 e1 e2 hlb
      obtain ⟨wo, hwo⟩ : ∃ wo, wo = wr := ⟨_, rfl⟩
      subst hwo
      go_wp2_with fail
      go_loopw [16] (fun i wr => ∃ t : Nat, t ≤ N ∧ i = .int .i64 t ∧ Hid (wr.rowIs gs 3 N (fun j => .int .i64 (curveAt 0 l k j + if j < t then cmdVal y j else 0))) ∧ Hid (wr.rowIs gx 3 N (fun t => .int .i64 (cmdVal y t))) ∧ Hid (wr.ownsRow B 24 3 u12 k (cmdV L)) ∧ Hid (Kp2 B gs gs W4 wr)) (fun i _ => N - (intOf i).toNat)
      case atStart => exact ⟨0, Nat.zero_le _, rfl, HRS6, HRX, HOW6, HK6⟩
      case round =>
        obtain ⟨t, ht, rfl, HRS, HRX, HOW, HK⟩ := hrel
        by_cases hlt2 : t < N
        · have e0 := HRS.out.cell (i := t) hlt2
          rw [if_neg (Nat.lt_irrefl t), Int.add_zero] at e0
          have e1 := HRX.out.cell (i := t) hlt2
          have z0 := HRS.out.frozen t
          have hls := HRS.out.lt
          have hlx := HRX.out.lt
          have hci := HCI.out t (by omega) k (by omega)
          have hcv := cmdVal_in HYO.out (t := (t : Int)) (by omega) (by omega)
          have HNX : Hid (∀ W' : World, W'.rowIs gs 3 N (fun j => .int .i64 (curveAt 0 l k j + if j < t then cmdVal y j else 0)) → (W'.setCell ⟨gs, t, none⟩ (.int .i64 (curveAt 0 l k t + cmdVal y t))).rowIs gs 3 N (fun j => .int .i64 (curveAt 0 l k j + if j < t + 1 then cmdVal y j else 0))) := Lib.hid fun W' h => (h.set t _).congr fun j _ => by
            by_cases hj : j = t
            · subst hj; rw [if_pos rfl, if_pos (by omega)]
            · rw [if_neg hj]
              by_cases hj2 : j < t
              · rw [if_pos hj2, if_pos (by omega)]
              · rw [if_neg hj2, if_neg (by omega)]
          have w1 : IntKind.i64.wrap (curveAt 0 l k t + cmdVal y t) = curveAt 0 l k t + cmdVal y t := IntWalk.i64_in _ (by omega)
          generalize curveAt 0 l k t = ca at *
          generalize cmdVal y (t : Int) = cv at *
          go_wp2_with fail
          refine wp_opaque fun Q2 hQ2 => ?_
          (refine region_below_tail 12 (by kernel_rfl) (by kernel_rfl) ?_; (simp only [List.take_succ_cons, List.take_zero, List.drop_succ_cons, List.drop_zero]); (repeat (first | go_big_quiet_step ((fail)) | quiet_step ((fail)))); (refine wpQuiet_nil ?_; intro _ hw'; obtain ⟨xq, hw''⟩ := hw'; subst hw''))
          have hbx := xq.2
          have d0 := keep hbx e0
          have y0 := (HRS.out.of_block (hbx.block gs hls)).frozen t
          have hbw : B ≤ wr.heap.size := by have := HK.out.size; have := HBE.out; omega
          have HRS2 := Lib.hid (HNX.out _ (HRS.out.of_block (hbx.block gs hls)))
          have HRX2 := Lib.hid ((HRX.out.of_block (hbx.block gx hlx)).setOther (a := ⟨gs, t, none⟩) hgxs (.int .i64 (ca + cv)))
          have HOW2 : Hid ((xq.val.setCell ⟨gs, t, none⟩ (.int .i64 (ca + cv))).ownsRow B 24 3 u12 k (cmdV L)) := Lib.hid (own_far HOW.out fun b hb1 hb2 => (heap_setCell_other _ ⟨gs, t, none⟩ b _ (by show b ≠ gs; omega)).trans (hbx.block b hb2))
          have HK2 : Hid (Kp2 B gs gs W4 (xq.val.setCell ⟨gs, t, none⟩ (.int .i64 (ca + cv)))) := Lib.hid ((HK.out.trans (Kp2.of_below (hbx.mono hbw))).trans (Kp2.setCell (.inl rfl)))
          clear hbx hbw
          go_wp2_with fail
          go_roundw
          case rel =>
            first
              | exact ⟨t + 1, by omega, by go_num, HRS2, HRX2, HOW2, HK2⟩
              | ((repeat apply Exists.intro); refine ⟨?_, rfl⟩; exact ⟨t + 1, by omega, by go_num, HRS2, HRX2, HOW2, HK2⟩)
          case measure => simp [intOf]; omega
        · obtain rfl : t = N := by omega
          have hBw := HBK.out wr HK.out
          have e0 := keep hBw HCC.out.1
          have e1 := keep hBw HCC.out.2.1
          have e2 := keep hBw HCC.out.2.2
          have hlb := cell_lt e0
          have hbb2 : B ≤ wr.heap.size := by have := HK.out.size; have := HBE.out; omega
          have HBw2 := Lib.hid hBw
          clear hBw
          have hbox : Below wr.heap.size wr (wr.alloc (.cells #[.int .i64 (y.at_ + (K : Int)), .int .i64 y.height, .slice sa y.shape.length sc] 24)) := bAlloc (Below.refl _ _) _
          have HBOX := Lib.hid hbox
          clear hbox
          by_cases h4 : y.at_ + (K : Int) > 4000
          · have hd4 : decide (y.at_ + (K : Int) > 4000) = true := decide_eq_true h4
            go_wp2_with fail
            refine (H15.out _ (bThen HBw2.out HBOX.out)).mono ?_
            rintro e w9 ⟨rfl, hb⟩
            have HB9 := Lib.hid (bThen (bThen HBw2.out HBOX.out) hb)
            clear hb
            go_wp2_with fail
            go_ret
            exact ⟨rfl, HB9.out⟩
          · have hd4 : decide (y.at_ + (K : Int) > 4000) = false := decide_eq_false h4
            have HNEW : Hid (∀ j u, [Value.int .i64 (y.at_ + (K : Int)), .int .i64 y.height, .slice sa y.shape.length sc][j]? = some u → ((wr.alloc (.cells #[.int .i64 (y.at_ + (K : Int)), .int .i64 y.height, .slice sa y.shape.length sc] 24)).alloc (.cells #[.int .i64 (y.at_ + (K : Int)), .int .i64 y.height, .slice sa y.shape.length sc] 24)).cell? (Addr.add ⟨wr.heap.size + 1, 0, none⟩ j) = some u) := Lib.hid (by
              have h := three_new (wr.alloc (.cells #[.int .i64 (y.at_ + (K : Int)), .int .i64 y.height, .slice sa y.shape.length sc] 24)) (.int .i64 (y.at_ + (K : Int))) (.int .i64 y.height) (.slice sa y.shape.length sc) 24
              rw [World.size_alloc] at h
              exact h)
            have HL1 : Hid (L.length ≤ 8) := Lib.hid (by have := HLL.out; omega)
            have hkl := HLL.out
            have hk8 : k ≤ 8 := by omega
            have HKL := Lib.hid hkl
            clear hkl
            go_wp2_with (at_builtin; go_loud (refine wpList_append_own _ rfl _ _ 32 rfl B 24 i24 (.agg #[.int .i64 0, .int .i64 0, .slice none 0 0]) 3 40 Tryd.underlying32 HI.out hz24 hs24 hb24 rfl (by decide) u12 _ _ rfl ((HOW.out.alloc _).alloc _) ⟨wr.heap.size + 1, 0, none⟩ 1 1 [.int .i64 (y.at_ + (K : Int)), .int .i64 y.height, .slice sa y.shape.length sc] rfl (by rfl) HNEW.out (by simp [Value.oneCell']) (by unfold maxLen; omega) (by omega) (by simp; omega) ?_); intro v' w5 hown' hgrow _; have HU := Lib.hid (And.intro hown' hgrow); clear hown' hgrow)
            obtain ⟨hown', hgrow⟩ := HU.out
            have hb5 : Below B wr w5 := ((bAlloc (bAlloc (Below.refl wr.heap.size wr) _) _).mono hbb2).trans (grown_below hgrow ((HOW.out.alloc _).alloc _) (by simp; omega))
            have HK5 := Lib.hid (HK.out.trans (Kp2.of_below hb5))
            have HRS5 : Hid (w5.rowIs gs 3 t (fun j => .int .i64 (curveAt 0 l (k + 1) j))) := Lib.hid ((HRS.out.of_block (hb5.block gs hgB)).congr fun j hj => by rw [if_pos hj, HST.out])
            have HOW5 : Hid (w5.ownsRow B 24 3 v' (k + 1) (cmdV (L ++ [(shiftC K y, .slice sa y.shape.length sc)]))) := Lib.hid (by
              rw [cmdV_append]
              exact hown')
            have HLL5 : Hid (k + 1 = (L ++ [(shiftC K y, Value.slice sa y.shape.length sc)]).length) := Lib.hid (by rw [List.length_append, ← HKL.out]; rfl)
            have HLM5 : Hid ((L ++ [(shiftC K y, Value.slice sa y.shape.length sc)]).map Prod.fst = (l.take (k + 1)).map (shiftC K)) := Lib.hid (by rw [HTK.out, List.map_append, HLM.out]; rfl)
            have HLO5 : Hid (∀ p ∈ L ++ [(shiftC K y, Value.slice sa y.shape.length sc)], cmdOk p.1 = true) := Lib.hid (by
              intro p hp
              rcases List.mem_append.1 hp with h | h
              · exact HLO.out p h
              · obtain rfl := List.mem_singleton.1 h
                exact cmdOk_shift HYO.out (by omega) (by omega))
            have HLS5 : Hid (∀ p ∈ L ++ [(shiftC K y, Value.slice sa y.shape.length sc)], SliceV w p.2 2 KnotAt p.1.shape) := Lib.hid (by
              intro p hp
              rcases List.mem_append.1 hp with h | h
              · exact HLS.out p h
              · obtain rfl := List.mem_singleton.1 h
                exact HSS.out)
            clear hown' hgrow hb5 HU
            go_roundw
            case rel =>
              first
                | exact ⟨k + 1, _, by omega, by go_num, HLL5, HLM5, HLO5, HLS5, HRS5, HOW5, HK5⟩
                | ((repeat apply Exists.intro); refine ⟨?_, rfl⟩; exact ⟨k + 1, _, by omega, by go_num, HLL5, HLM5, HLO5, HLS5, HRS5, HOW5, HK5⟩)
            case measure => simp [intOf]; omega
    · obtain rfl : k = l.length := by omega
      have hBw := HBK.out wr HK.out
      have HBw := Lib.hid hBw
      have hr0 : wr.rowIs g0 3 N (fun t => .int .i64 (curveAt base l l.length t)) := HR4.out.of_block (HK.out.block g0 (by omega) (by omega) (by omega))
      have HR0 := Lib.hid hr0
      rw [List.take_length] at HLM
      have hll : L.length = l.length := HLL.out.symm
      have HSL : Hid (SliceV wr u12 3 CmdAt (L.map Prod.fst)) := Lib.hid (cmds_slice HOW.out HLL.out (by omega) fun p hp => (HLS.out p hp).keep KnotAt.stable hBw)
      have HOKF : Hid (curveOk ((N + K : Nat) : Int) base (L.map Prod.fst) = true) := Lib.hid (curveOk_mk (by omega) hbase (by rw [List.length_map]; omega) (by
        intro c hc
        obtain ⟨p, hp, rfl⟩ := List.mem_map.1 hc
        exact HLO.out p hp))
      have HLEN : Hid ((L.map Prod.fst).length = l.length) := Lib.hid (by rw [List.length_map]; exact hll)
      clear hBw hr0 hll
      go_wp2_with fail
      obtain ⟨wo, hwo⟩ : ∃ wo, wo = wr := ⟨_, rfl⟩
      subst hwo
      go_loopw [18] (fun i wr => ∃ t : Nat, t ≤ N ∧ i = .int .i64 t ∧ Hid (Below wo.heap.size wo wr)) (fun i _ => N - (intOf i).toNat)
      case atStart => exact ⟨0, Nat.zero_le _, rfl, Lib.hid (Below.refl _ _)⟩
      case round =>
        obtain ⟨t, ht, rfl, HB⟩ := hrel
        by_cases hlt2 : t < N
        · have e0 := keep HB.out (HR0.out.cell (i := t) hlt2)
          have e1 := keep HB.out (HRS.out.cell (i := t) hlt2)
          rw [curveAt_base] at e0
          have hci := HCI.out t (by omega) l.length (Nat.le_refl _)
          have hl0 := cell_lt e0
          have hl1 := cell_lt e1
          have w1 : IntKind.i64.wrap (base + curveAt 0 l l.length t) = base + curveAt 0 l l.length t := IntWalk.i64_in _ (by omega)
          generalize curveAt 0 l l.length t = ca at *
          go_wp2_with fail
          refine wp_opaque fun Q2 hQ2 => ?_
          (refine wp_region_below (by kernel_rfl) (by kernel_rfl) ?_; (repeat (first | go_big_quiet_step ((fail)) | quiet_step ((fail)))); (refine wpQuiet_nil ?_; intro _ hw'; obtain ⟨xq, hw''⟩ := hw'; subst hw''))
          refine hQ2 _ _ _ ?_
          clear hQ2 Q2
          have HBN := Lib.hid (bThen HB.out xq.2)
          go_wp2_with fail
          go_roundw
          case rel =>
            first
              | exact ⟨t + 1, by omega, by go_num, HBN⟩
              | ((repeat apply Exists.intro); refine ⟨?_, rfl⟩; exact ⟨t + 1, by omega, by go_num, HBN⟩)
          case measure => simp [intOf]; omega
        · obtain rfl : t = N := by omega
          have HB1 := Lib.hid (bThen HBw.out HB.out)
          have H20c : Hid (Calls Tryd.prog 20 #[.int .i64 ((t : Int) + (K : Int)), .int .i64 base, u12] wr fun e w' => CurvePostN wr ((t : Int) + (K : Int)) base (L.map Prod.fst) e w' ∧ Below wr.heap.size wr w') := Lib.hid (CurveN_any _ _ _ _ _ (HSL.out.keep CmdAt.stable HB.out))
          rw [show ((t + K : Nat) : Int) = (t : Int) + (K : Int) by omega] at HOKF
          have HRT := Lib.hid (row_slice (HR0.out.of_block (HB.out.block g0 HR0.out.lt)) (by omega))
          go_wp2_with fail
          refine H20c.out.mono ?_
          rintro e w6 ⟨⟨hno, -⟩ | ⟨-, g1, m2, hm2, -, hg1, rfl, hr⟩, hb⟩
          · rw [HOKF.out] at hno; cases hno
          obtain rfl : m2 = t + K := by omega
          have HRT2 := Lib.hid (HRT.out.keep IntAt.stable hb)
          have htail : (List.range t).map (fun j => curveAt base (L.map Prod.fst) (L.map Prod.fst).length (j + K)) = (List.range t).map fun j => curveAt base l l.length j := by
            rw [HLEN.out, HLM.out]
            exact List.map_congr_left fun j _ => curveAt_shift K base l l.length j
          have HTL := Lib.hid htail
          have HRN := Lib.hid hr
          replace HB1 := Lib.hid (bThen HB1.out hb)
          clear hm2 hg1 hb htail hr
          by_cases hN0 : t = 0
          · have HE : Hid (∀ o cap, SliceV w6 (.slice (some ⟨g1, o, none⟩) 0 cap) 1 IntAt ((List.range t).map fun j => curveAt base l l.length j)) := Lib.hid fun o cap => by rw [hN0]; exact tail_slice0
            have i1 : (t : Int) + (K : Int) = (K : Int) := by omega
            have i2 : t + K = K := by omega
            have HN0 := Lib.hid hN0
            have HRT3 := HRT2
            clear hN0 HRT2
            go_wp2_with fail
            refine (Same_any _ _ _ _ _ (HE.out _ _) HRT3.out).mono ?_
            rintro e w7 ⟨rfl, hb⟩
            rw [decide_eq_true rfl]
            replace HB1 := Lib.hid (bThen HB1.out hb)
            clear hb
            go_wp2_with fail
            refine (H15.out _ HB1.out).mono ?_
            rintro e w9 ⟨rfl, hb⟩
            have HB9 := Lib.hid (bThen HB1.out hb)
            clear hb
            go_wp2_with fail
            go_ret
            exact ⟨rfl, HB9.out⟩
          · have i1 : ¬ ((t : Int) + (K : Int) = (K : Int)) := by omega
            go_wp2_with fail
            refine (Same_any _ _ _ _ _ (by have h := tail_slice HRN.out (by omega) t; rw [HTL.out] at h; exact h) HRT2.out).mono ?_
            rintro e w7 ⟨rfl, hb⟩
            rw [decide_eq_true rfl]
            replace HB1 := Lib.hid (bThen HB1.out hb)
            clear hb
            go_wp2_with fail
            refine (H15.out _ HB1.out).mono ?_
            rintro e w9 ⟨rfl, hb⟩
            have HB9 := Lib.hid (bThen HB1.out hb)
            clear hb
            go_wp2_with fail
            go_ret
            exact ⟨rfl, HB9.out⟩
end Go.Proofs.YtejcbcjhmnhefaaDoor
