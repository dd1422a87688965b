/- Contracts: the cost of a contour; contours checked. -/
import Derived.Test.YtejcbcjhmnhefabDoorH4
set_option linter.unusedSimpArgs false
set_option linter.unusedVariables false
namespace Go.Proofs.YtejcbcjhmnhefabDoor
open Go.RowKit

def tCost (vs : List Int) (x : Tgt) : Int := x.weight * (vs.getD x.time.toNat 0 - x.value) * (vs.getD x.time.toNat 0 - x.value)
def tCosts (l : List Tgt) (vs : List Int) : Int := (l.map (tCost vs)).sum
def sCosts (sm : Int) (vs : List Int) : Nat → Int
  | 0 => 0
  | k + 1 => sCosts sm vs k + sm * (vs.getD (k + 1) 0 - vs.getD k 0) * (vs.getD (k + 1) 0 - vs.getD k 0)
def costOf (p : Con) (vs : List Int) : Int := tCosts p.targets vs + sCosts p.smooth vs (vs.length - 1)
theorem tCosts_succ (l : List Tgt) (vs : List Int) (n : Nat) (h : n < l.length) : tCosts (l.take (n + 1)) vs = tCosts (l.take n) vs + tCost vs l[n] := by
  unfold tCosts; rw [take_succ l n h, List.map_append, List.sum_append]; simp
theorem sq_in {d b : Int} (h0 : -b ≤ d) (h1 : d ≤ b) : 0 ≤ d * d ∧ d * d ≤ b * b := by
  have h2 := mul_in (A := b) (B := b) h0 h1 h0 h1
  refine ⟨?_, h2.2⟩
  rcases Int.le_total 0 d with h | h
  · exact Int.mul_nonneg h h
  · have := Int.mul_nonneg (show 0 ≤ -d by omega) (show 0 ≤ -d by omega)
    rwa [Int.neg_mul_neg] at this
theorem wsq_in {w d b c : Int} (hw : 0 ≤ w ∧ w ≤ c) (h0 : -b ≤ d) (h1 : d ≤ b) (hb : 0 ≤ b * b) : 0 ≤ w * d * d ∧ w * d * d ≤ c * (b * b) := by
  have h2 := sq_in h0 h1
  rw [Int.mul_assoc]
  exact ⟨Int.mul_nonneg hw.1 h2.1, Int.mul_le_mul hw.2 h2.2 h2.1 (by omega)⟩
theorem tCost_in {vs : List Int} {x : Tgt} (hv : -100000 ≤ vs.getD x.time.toNat 0 ∧ vs.getD x.time.toNat 0 ≤ 100400) (hx : -200000 ≤ x.value ∧ x.value ≤ 200000) (hw : 0 ≤ x.weight ∧ x.weight ≤ 1000) : 0 ≤ tCost vs x ∧ tCost vs x ≤ 100000000000000 := by
  have := wsq_in (b := 300400) (c := 1000) hw (show -300400 ≤ vs.getD x.time.toNat 0 - x.value by omega) (by omega) (by omega)
  unfold tCost; omega
theorem tCosts_in {F : Nat} {vs : List Int} (hv : ∀ i, i < F → -100000 ≤ vs.getD i 0 ∧ vs.getD i 0 ≤ 100400) (l : List Tgt) (h : ∀ x ∈ l, tgtOk F x = true) : 0 ≤ tCosts l vs ∧ tCosts l vs ≤ 100000000000000 * (l.length : Int) := by
  induction l with
  | nil => simp [tCosts]
  | cons x l ih =>
    have h3 := ih fun y hy => h y (List.mem_cons_of_mem _ hy)
    obtain ⟨h0, hx, hw⟩ := tgtOk_in (h x List.mem_cons_self)
    have h4 := tCost_in (hv x.time.toNat (by omega)) hx hw
    have h5 : tCosts (x :: l) vs = tCost vs x + tCosts l vs := by simp [tCosts]
    rw [h5, List.length_cons]
    omega
theorem sCosts_in {F : Nat} {sm lo hi : Int} {vs : List Int} (hs : 0 ≤ sm ∧ sm ≤ 1000) (hh : hi ≤ lo + 400) (hv : ∀ i, i < F → lo ≤ vs.getD i 0 ∧ vs.getD i 0 ≤ hi) : ∀ k, k + 1 ≤ F → 0 ≤ sCosts sm vs k ∧ sCosts sm vs k ≤ 160000000 * (k : Int) := by
  intro k
  induction k with
  | zero => intro _; simp [sCosts]
  | succ k ih =>
    intro h
    have h1 := ih (by omega)
    have h2 := hv (k + 1) (by omega)
    have h3 := hv k (by omega)
    have h4 := wsq_in (b := 400) (c := 1000) hs (show -400 ≤ vs.getD (k + 1) 0 - vs.getD k 0 by omega) (by omega) (by omega)
    show 0 ≤ sCosts sm vs k + _ ∧ sCosts sm vs k + _ ≤ _
    omega
theorem getD_at {vs : List Int} {i : Nat} (h : i < vs.length) : vs.getD i 0 = vs[i] := by simp [List.getD, h]

set_option maxRecDepth 20000 in
set_option maxHeartbeats 16000000 in
theorem cost_any' (F : Nat) (lo hi sl sm : Int) (ts : List Tgt) (vs : List Int) (tv vv : Value) (w : World) (hF : 1 ≤ F) (hF2 : F ≤ 200) (hlo : -100000 ≤ lo ∧ lo ≤ 100000) (hhi : hi ≤ lo + 400) (hsm : 0 ≤ sm ∧ sm ≤ 1000)
    (hts : ∀ x ∈ ts, tgtOk F x = true) (htl : ts.length ≤ 200) (hv : SliceV w tv 3 TgtAt ts) (hvl : vs.length = F) (hvs : ∀ i, i < F → lo ≤ vs.getD i 0 ∧ vs.getD i 0 ≤ hi) (hu : SliceV w vv 1 IntAt vs) :
    Calls Tryd.prog 23 #[.agg #[.int .i64 (F : Int), .int .i64 lo, .int .i64 hi, .int .i64 sl, .int .i64 sm, tv], vv] w
      fun e w' => e = .returned (.int .i64 (tCosts ts vs + sCosts sm vs (F - 1))) ∧ Below w.heap.size w w' := by
  have HV := Lib.hid hv
  have HU := Lib.hid hu
  have HTS := Lib.hid hts
  have HVS := Lib.hid hvs
  obtain ⟨ta, tc, rfl, hl, hx⟩ := hv
  obtain ⟨va, vc, rfl, hvl2, hy⟩ := hu
  have HX := Lib.hid hx
  obtain ⟨vb, vo, rfl, hy2⟩ : ∃ vb vo, va = some ⟨vb, vo, none⟩ ∧ ∀ i (h : i < vs.length), IntAt w vb (vo + i * 1) vs[i] := by
    rcases hy with h | h
    · rw [h] at hvl; simp at hvl; omega
    · exact h
  have HY : Hid (∀ i, i < F → w.cell? ⟨vb, vo + i, none⟩ = some (.int .i64 (vs.getD i 0))) := Lib.hid fun i hi => by
    have h := hy2 i (by omega)
    rw [Nat.mul_one] at h
    rw [getD_at (by omega)]; exact h
  rw [hvl] at *
  have HTC : Hid (∀ n, 0 ≤ tCosts (ts.take n) vs ∧ tCosts (ts.take n) vs ≤ 20000000000000000) := Lib.hid fun n => by
    have h := tCosts_in (vs := vs) (F := F) (fun i hi => by have := hvs i hi; omega) (ts.take n) (fun x hx => hts x (List.mem_of_mem_take hx))
    have := List.length_take_le' n ts; omega
  have HSC : Hid (∀ k, k + 1 ≤ F → 0 ≤ sCosts sm vs k ∧ sCosts sm vs k ≤ 32000000000) := Lib.hid fun k hk => by
    have := sCosts_in hsm hhi hvs k hk; omega
  have HVL := Lib.hid hvl
  clear hts hx hy hy2 hvs hvl
  obtain ⟨b0, hb0⟩ : ∃ b0, b0 = w.heap.size := ⟨_, rfl⟩
  go_enter Tryd.func23, Tryd.ntmps23
  go_wp2_with fail
  rw [← hb0]
  generalize hW1' : World.alloc w _ = W1
  have hB1 : Below w.heap.size w W1 := by rw [← hW1']; exact bAlloc (Below.refl _ _) _
  have hs1 : b0 + 1 = W1.heap.size := by rw [← hW1', World.size_alloc, hb0]
  have hp4 : W1.cell? ⟨b0, 4, none⟩ = some (.int .i64 sm) := by rw [← hW1', hb0]; exact cell_new rfl
  have HP4 := Lib.hid hp4
  have HB1 := Lib.hid hB1
  have HB0 := Lib.hid hb0
  have HS1 := Lib.hid hs1
  have HY1 : Hid (∀ i, i < F → W1.cell? ⟨vb, vo + i, none⟩ = some (.int .i64 (vs.getD i 0))) := Lib.hid fun i hi => keep hB1 (HY.out i hi)
  have HZ : Hid (tCosts (ts.take 0) vs = 0) := Lib.hid (by simp [tCosts])
  clear hW1' hB1 hb0 hs1 hp4
  go_loopw [5, 14] (fun x i wr => ∃ n : Nat, n ≤ ts.length ∧ i = .int .i64 n ∧ x = .int .i64 (tCosts (ts.take n) vs) ∧ Hid (Below W1.heap.size W1 wr)) (fun _ i _ => ts.length - (intOf i).toNat)
  case atStart => exact ⟨0, Nat.zero_le _, rfl, by rw [HZ.out], Lib.hid (Below.refl _ _)⟩
  case round =>
    obtain ⟨n, hn, rfl, rfl, HB⟩ := hrel
    by_cases hlt : n < ts.length
    · have hok := tgtOk_in (HTS.out ts[n] (List.getElem_mem hlt))
      rcases HX.out with hnil | ⟨tb, tof, rfl, hT⟩
      · rw [hnil] at hlt; simp at hlt
      obtain ⟨x0, x1, x2⟩ := hT n hlt
      have hbb := bThen HB1.out HB.out
      have y0 := keep hbb x0
      have y1 := keep hbb x1
      have y2 := keep hbb x2
      have HSU := Lib.hid (tCosts_succ ts vs n hlt)
      have hod := HTC.out n
      have hod2 := HTC.out (n + 1)
      generalize tCosts (ts.take n) vs = od at *
      generalize ts[n] = x at *
      obtain ⟨tt, htt⟩ : ∃ tt : Nat, x.time = (tt : Int) := ⟨x.time.toNat, by omega⟩
      have htn : x.time.toNat = tt := by omega
      rw [htt] at y0
      have htv := HVS.out tt (by omega)
      have c0 := keep HB.out (HY1.out tt (by omega))
      have HTX : Hid (tCost vs x = x.weight * (vs.getD tt 0 - x.value) * (vs.getD tt 0 - x.value)) := Lib.hid (by unfold tCost; rw [htn])
      have hm1 := mul_in (A := 1000) (B := 300400) (show -1000 ≤ x.weight by omega) (by omega) (show -300400 ≤ vs.getD tt 0 - x.value by omega) (by omega)
      have htc := tCost_in (vs := vs) (x := x) (by rw [htn]; omega) hok.2.1 hok.2.2
      have i3 : (tt : Int) < (F : Int) := by omega
      clear htn
      generalize vs.getD tt 0 = u at *
      have w1 : IntKind.i64.wrap (x.weight * (u - x.value)) = x.weight * (u - x.value) := IntWalk.i64_in _ (by omega)
      have w2 : IntKind.i64.wrap (x.weight * (u - x.value) * (u - x.value)) = tCost vs x := by rw [← HTX.out]; exact IntWalk.i64_in _ (by omega)
      have w3 : IntKind.i64.wrap (od + tCost vs x) = od + tCost vs x := IntWalk.i64_in _ (by omega)
      have hl1 := cell_lt y0
      have hl2 := cell_lt c0
      clear hT x0 x1 x2 hbb htt
      go_wp2_with fail
      refine wp_opaque fun Q2 hQ2 => ?_
      (refine wp_region_below (by kernel_rfl) (by kernel_rfl) ?_; (repeat (first | go_big_quiet_step ((fail)) | quiet_step ((fail)))); (refine wpQuiet_nil ?_; intro _ hw'; obtain ⟨xq, hw''⟩ := hw'; subst hw''))
      refine hQ2 _ _ _ ?_
      clear hQ2 Q2
      have HBN := Lib.hid (bThen (bThen HB.out (bAlloc (Below.refl _ _) _)) xq.2)
      go_wp2_with fail
      go_roundw
      case rel =>
        first
          | exact ⟨n + 1, by omega, by go_num, by rw [HSU.out], HBN⟩
          | ((repeat apply Exists.intro); refine ⟨?_, rfl⟩; exact ⟨n + 1, by omega, by go_num, by rw [HSU.out], HBN⟩)
      case measure => simp [intOf]; omega
    · obtain rfl : n = ts.length := by omega
      rw [List.take_length]
      have hT := HTC.out ts.length
      rw [List.take_length] at hT
      generalize hTe : tCosts ts vs = T at *
      have HTe := Lib.hid hTe
      clear hTe
      obtain ⟨wv, hwv⟩ : ∃ wv, wv = wr := ⟨_, rfl⟩
      subst hwv
      have HS0 : Hid (T = T + sCosts sm vs 0) := Lib.hid (by simp [sCosts])
      go_wp2_with fail
      go_loopw [5, 9] (fun x i wr => ∃ k : Nat, k + 1 ≤ F ∧ i = .int .i64 ((k : Int) + 1) ∧ x = .int .i64 (T + sCosts sm vs k) ∧ Hid (Below W1.heap.size W1 wr)) (fun _ i _ => F - (intOf i).toNat)
      case atStart => exact ⟨0, by omega, rfl, by rw [← HS0.out], HB⟩
      case round =>
        obtain ⟨k, hk, rfl, rfl, HB⟩ := hrel
        by_cases hlt : k + 1 < F
        · have c0 := keep HB.out (HY1.out k (by omega))
          have c1 := keep HB.out (HY1.out (k + 1) hlt)
          have p4 := keep HB.out HP4.out
          have hv0 := HVS.out k (by omega)
          have hv1 := HVS.out (k + 1) hlt
          have hs0 := HSC.out k (by omega)
          have HSS : Hid (T + sCosts sm vs (k + 1) = T + (sCosts sm vs k + sm * (vs.getD (k + 1) 0 - vs.getD k 0) * (vs.getD (k + 1) 0 - vs.getD k 0))) := Lib.hid rfl
          have hm2 := wsq_in (b := 400) (c := 1000) hsm (show -400 ≤ vs.getD (k + 1) 0 - vs.getD k 0 by omega) (by omega) (by omega)
          have hm1 := mul_in (A := 1000) (B := 400) (show -1000 ≤ sm by omega) (by omega) (show -400 ≤ vs.getD (k + 1) 0 - vs.getD k 0 by omega) (by omega)
          generalize sCosts sm vs k = sk at *
          generalize vs.getD k 0 = u0 at *
          generalize vs.getD (k + 1) 0 = u1 at *
          have w0 : IntKind.i64.wrap (u1 - u0) = u1 - u0 := IntWalk.i64_in _ (by omega)
          have w1 : IntKind.i64.wrap (sm * (u1 - u0)) = sm * (u1 - u0) := IntWalk.i64_in _ (by omega)
          have w2 : IntKind.i64.wrap (sm * (u1 - u0) * (u1 - u0)) = sm * (u1 - u0) * (u1 - u0) := IntWalk.i64_in _ (by omega)
          have w3 : IntKind.i64.wrap (T + sk + sm * (u1 - u0) * (u1 - u0)) = T + sk + sm * (u1 - u0) * (u1 - u0) := IntWalk.i64_in _ (by omega)
          have hl2 := cell_lt c0
          have hl3 := cell_lt p4
          have i1 : (0 : Int) ≤ (k : Int) + 1 := by omega
          have i2 : (k : Int) + 1 < (F : Int) := by omega
          have i3 : (k : Int) < (F : Int) := by omega
          have i4 : ((k : Int) + 1).toNat = k + 1 := by omega
          have i6 : (k : Int) + 1 - 1 = (k : Int) := by omega
          clear hm2 hm1 hs0
          go_wp2_with fail
          refine wp_opaque fun Q2 hQ2 => ?_
          (refine wp_region_below (by kernel_rfl) (by kernel_rfl) ?_; (repeat (first | go_big_quiet_step ((fail)) | quiet_step ((fail)))); (refine wpQuiet_nil ?_; intro _ hw'; obtain ⟨xq, hw''⟩ := hw'; subst hw''))
          refine hQ2 _ _ _ ?_
          clear hQ2 Q2
          have HBN := Lib.hid (bThen HB.out xq.2)
          go_wp2_with fail
          go_roundw
          case rel =>
            first
              | exact ⟨k + 1, by omega, by rw [show ((k + 1 : Nat) : Int) = (k : Int) + 1 from rfl], by rw [HSS.out, Int.add_assoc], HBN⟩
              | ((repeat apply Exists.intro); refine ⟨?_, rfl⟩; exact ⟨k + 1, by omega, by rw [show ((k + 1 : Nat) : Int) = (k : Int) + 1 from rfl], by rw [HSS.out, Int.add_assoc], HBN⟩)
          case measure => simp [intOf]; omega
        · have hkF : ¬ ((k : Int) + 1 < (F : Int)) := by omega
          have HKF : Hid (F - 1 = k) := Lib.hid (by omega)
          have hfin : Ending.returned (.int .i64 (T + sCosts sm vs k)) = .returned (.int .i64 (tCosts ts vs + sCosts sm vs (F - 1))) := by rw [HTe.out, HKF.out]
          go_wp2_with fail
          go_ret
          exact ⟨hfin, bThen HB1.out HB.out⟩

theorem cost_any (p : Con) (vs : List Int) (tv vv : Value) (w : World) (hok : conOk p = true) (hv : SliceV w tv 3 TgtAt p.targets) (hvl : (vs.length : Int) = p.frames) (hvs : ∀ x ∈ vs, p.low ≤ x ∧ x ≤ p.high) (hu : SliceV w vv 1 IntAt vs) :
    Calls Tryd.prog 23 #[p.val tv, vv] w fun e w' => e = .returned (.int .i64 (costOf p vs)) ∧ Below w.heap.size w w' := by
  obtain ⟨h1, h2, h3, h4, h5, h6, h7⟩ := conOk_in hok
  obtain ⟨F, hF⟩ : ∃ F : Nat, p.frames = F := ⟨p.frames.toNat, by omega⟩
  have h := cost_any' F p.low p.high p.slope p.smooth p.targets vs tv vv w (by omega) (by omega) h2 (by omega) h5 (by rw [← hF]; exact List.all_eq_true.1 h7) h6 hv (by omega) (fun i hi => by
    rw [getD_at (by omega)]
    exact hvs _ (List.getElem_mem _)) hu
  unfold Con.val costOf
  rw [hF, show vs.length = F by omega]
  exact h
theorem bestL_len (p : Con) : (bestL p).length = p.frames.toNat := by simp [bestL]
theorem bestL_in {p : Con} (hok : conOk p = true) : ∀ x ∈ bestL p, p.low ≤ x ∧ x ≤ p.high := by
  obtain ⟨h1, h2, h3, h4, h5, h6, h7⟩ := conOk_in hok
  intro x hx
  simp only [bestL, List.mem_map, List.mem_range] at hx
  obtain ⟨i, hi, rfl⟩ := hx
  have := bestP_lt (T := tgtC p.low p.targets) (s := p.slope.toNat) (sm := p.smooth) (W := (p.high - p.low + 1).toNat) (F := p.frames.toNat) (by omega) i
  omega

def BestOut (p : Con) (e : Ending) (w' : World) : Prop :=
  (conOk p = false ∧ e = .returned (.tuple #[.slice none 0 0, .int .i64 0, .int .i64 2])) ∨
  (conOk p = true ∧ ∃ v, e = .returned (.tuple #[v, .int .i64 (costOf p (bestL p)), .int .i64 0]) ∧ SliceV w' v 1 IntAt (bestL p))
set_option maxHeartbeats 4000000 in
theorem Best_any (p : Con) (v : Value) (w : World) (hv : SliceV w v 3 TgtAt p.targets) :
    Calls Tryd.prog 10 #[p.val v] w fun e w' => BestOut p e w' ∧ Below w.heap.size w w' := by
  have HV := Lib.hid hv
  have hok0 := Lib.hid (rfl : conOk p = conOk p)
  obtain ⟨a, c, rfl, hl, -⟩ := hv
  have hB1 : ∀ t, Below w.heap.size w (w.alloc (.cells #[.int .i64 p.frames, .int .i64 p.low, .int .i64 p.high, .int .i64 p.slope, .int .i64 p.smooth, .slice a p.targets.length c] t)) := fun t => bAlloc (Below.refl _ _) _
  have h53 : ∀ W, Below w.heap.size w W → _ := fun W hB => problemRight_any p (.slice a p.targets.length c) W (HV.out.keep TgtAt.stable hB)
  have H53 := Lib.hid h53
  have HBB := Lib.hid (hB1 46)
  clear h53 hB1
  cases hok : conOk p
  · rw [hok] at H53
    unfold Con.val at H53 ⊢
    go_enter Tryd.func10, Tryd.ntmps10
    go_wp2_with (go_at_call 21; refine (H53.out _ HBB.out).mono ?_; rintro e w1 ⟨rfl, hb⟩)
    go_ret3
    exact ⟨.inl ⟨hok, rfl⟩, bThen HBB.out hb⟩
  · have h54 : ∀ W, Below w.heap.size w W → _ := fun W hB => best_any p (.slice a p.targets.length c) W hok (HV.out.keep TgtAt.stable hB)
    have h55 : ∀ W vv, Below w.heap.size w W → SliceV W vv 1 IntAt (bestL p) → _ := fun W vv hB hu => cost_any p (bestL p) (.slice a p.targets.length c) vv W hok (HV.out.keep TgtAt.stable hB) (by have := bestL_len p; have := (conOk_in hok).1; omega) (bestL_in hok) hu
    have H54 := Lib.hid h54
    have H55 := Lib.hid h55
    clear h54 h55
    rw [hok] at H53
    obtain ⟨W1, hW1⟩ : ∃ W1, W1 = w.alloc (.cells #[.int .i64 p.frames, .int .i64 p.low, .int .i64 p.high, .int .i64 p.slope, .int .i64 p.smooth, .slice a p.targets.length c] 46) := ⟨_, rfl⟩
    have hcells : ∀ j v, (#[Value.int .i64 p.frames, .int .i64 p.low, .int .i64 p.high, .int .i64 p.slope, .int .i64 p.smooth, .slice a p.targets.length c] : Array Value)[j]? = some v → W1.cell? ⟨w.heap.size, j, none⟩ = some v := fun j v h => by
      rw [hW1]; exact cell_new h
    have HKK : Hid (∀ W', Below W1.heap.size W1 W' → W'.cell? ⟨w.heap.size, 0, none⟩ = some (.int .i64 p.frames) ∧ W'.cell? ⟨w.heap.size, 1, none⟩ = some (.int .i64 p.low) ∧ W'.cell? ⟨w.heap.size, 2, none⟩ = some (.int .i64 p.high) ∧ W'.cell? ⟨w.heap.size, 3, none⟩ = some (.int .i64 p.slope) ∧ W'.cell? ⟨w.heap.size, 4, none⟩ = some (.int .i64 p.smooth) ∧ W'.cell? ⟨w.heap.size, 5, none⟩ = some (.slice a p.targets.length c)) :=
      Lib.hid fun W' hB => ⟨keep hB (hcells 0 _ rfl), keep hB (hcells 1 _ rfl), keep hB (hcells 2 _ rfl), keep hB (hcells 3 _ rfl), keep hB (hcells 4 _ rfl), keep hB (hcells 5 _ rfl)⟩
    rw [← hW1] at HBB
    have HW1 := Lib.hid hW1
    clear hcells hW1
    unfold Con.val at H53 H54 H55 ⊢
    go_enter Tryd.func10, Tryd.ntmps10
    go_wp2_with fail
    rw [← HW1.out]
    refine (H53.out _ HBB.out).mono ?_
    rintro e w1 ⟨rfl, hb⟩
    have HB1 := Lib.hid hb
    obtain ⟨k0, k1, k2, k3, k4, k5⟩ := HKK.out w1 hb
    have hlk := cell_lt k0
    clear hb
    go_wp2_with fail
    refine (H54.out _ (bThen HBB.out HB1.out)).mono ?_
    rintro e w2 ⟨vv, rfl, hr, hb⟩
    have HB2 := Lib.hid (bThen HB1.out hb)
    obtain ⟨k0, k1, k2, k3, k4, k5⟩ := HKK.out w2 (bThen HB1.out hb)
    have hlk := cell_lt k0
    have HR := Lib.hid hr
    clear hb hr
    go_wp2_with fail
    refine (H55.out _ _ (bThen HBB.out HB2.out) HR.out).mono ?_
    rintro e w3 ⟨rfl, hb⟩
    have HB3 := Lib.hid hb
    clear hb
    go_wp2_with fail
    go_ret3
    exact ⟨.inr ⟨hok, vv, rfl, HR.out.keep IntAt.stable HB3.out⟩, bThen (bThen HBB.out HB2.out) HB3.out⟩
end Go.Proofs.YtejcbcjhmnhefabDoor
