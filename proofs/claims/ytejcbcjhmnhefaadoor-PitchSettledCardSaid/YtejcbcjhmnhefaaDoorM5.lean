/- Contracts: the specification's cost of a contour. -/
import Derived.Test.YtejcbcjhmnhefaaDoorM4
set_option linter.unusedSimpArgs false
set_option linter.unusedVariables false
namespace Go.Proofs.YtejcbcjhmnhefaaDoor
open Go.RowKit

set_option maxRecDepth 100000 in
set_option maxHeartbeats 16000000 in
theorem refCost_any' (F : Nat) (lo hi sl sm : Int) (ts : List Tgt) (vs : List Int) (tv vv : Value) (w : World) (hF2 : F ≤ 200) (hlo : -100000 ≤ lo ∧ lo ≤ 100000) (hhi : hi ≤ lo + 400) (hsm : 0 ≤ sm ∧ sm ≤ 1000)
    (hts : ∀ x ∈ ts, tgtOk F x = true) (htl : ts.length ≤ 200) (hv : SliceV w tv 3 TgtAt ts) (hvl : vs.length = F) (hvs : ∀ i, i < F → lo ≤ vs.getD i 0 ∧ vs.getD i 0 ≤ hi) (hu : SliceV w vv 1 IntAt vs) :
    Calls Tryd.prog 28 #[.agg #[.int .i64 (F : Int), .int .i64 lo, .int .i64 hi, .int .i64 sl, .int .i64 sm, tv], vv] w
      fun e w' => e = .returned (.int .i64 (refC sm ts vs F)) ∧ Below w.heap.size w w' := by
  have HV := Lib.hid hv
  have HU := Lib.hid hu
  have HVS := Lib.hid hvs
  obtain ⟨ta, tc, rfl, -, -⟩ := hv
  obtain ⟨va, vc, rfl, -, -⟩ := hu
  have HRC : Hid (∀ k, k ≤ F → 0 ≤ refC sm ts vs k ∧ refC sm ts vs k ≤ 4100000000000000000) := Lib.hid fun k hk => by
    have := refC_in hts htl hsm hlo hhi hF2 hvs k hk; omega
  have HHI : Hid (∀ (t u : Int), -100000 ≤ u ∧ u ≤ 100400 → 0 ≤ hereC ts t u ∧ hereC ts t u ≤ 20000000000000000) := Lib.hid fun t u hu => by
    have := hereC_in (F := F) (t := t) hu ts hts; omega
  have H56 : Hid (∀ W t u, Below w.heap.size w W → (-100000 ≤ u ∧ u ≤ 100400) → _) := Lib.hid fun W t u hB hu => here_any F lo hi sl sm t u ts (.slice ta ts.length tc) W hts htl hu (HV.out.keep TgtAt.stable hB)
  have HVL := Lib.hid hvl
  rw [hvl] at HU ⊢
  clear hts hvl hvs
  obtain ⟨b2, hb2⟩ : ∃ b2, b2 = w.heap.size := ⟨_, rfl⟩
  go_enter Tryd.func28, Tryd.ntmps28
  go_wp2_with fail
  rw [← hb2]
  generalize hW1 : World.alloc w _ = W1
  have hB1 : Below w.heap.size w W1 := by rw [← hW1]; exact bAlloc (Below.refl _ _) _
  have hp : ∀ j v, (#[Value.int .i64 (F : Int), .int .i64 lo, .int .i64 hi, .int .i64 sl, .int .i64 sm, .slice ta ts.length tc] : Array Value)[j]? = some v → W1.cell? ⟨b2, j, none⟩ = some v := fun j v h => by
    rw [← hW1, hb2]; exact cell_new h
  have HP := Lib.hid hp
  have HB1 := Lib.hid hB1
  clear hW1 hB1 hp hb2
  go_loopw [5, 6] (fun x i wr => ∃ k : Nat, k ≤ F ∧ i = .int .i64 k ∧ x = .int .i64 (refC sm ts vs k) ∧ Hid (Below W1.heap.size W1 wr)) (fun _ i _ => F - (intOf i).toNat)
  case atStart => exact ⟨0, Nat.zero_le _, rfl, rfl, Lib.hid (Below.refl _ _)⟩
  case round =>
    obtain ⟨k, hk, rfl, rfl, HB⟩ := hrel
    by_cases hlt : k < F
    · have p0 := keep HB.out (HP.out 0 _ rfl)
      have p1 := keep HB.out (HP.out 1 _ rfl)
      have p2 := keep HB.out (HP.out 2 _ rfl)
      have p3 := keep HB.out (HP.out 3 _ rfl)
      have p4 := keep HB.out (HP.out 4 _ rfl)
      have p5 := keep HB.out (HP.out 5 _ rfl)
      have hlp := cell_lt p0
      have hbb := bThen HB1.out HB.out
      have hvl := HVL.out
      obtain ⟨vb, vo, rfl, hx⟩ := (HU.out.keep IntAt.stable hbb).at (by intro h; simp [h] at hvl; omega)
      have HX : Hid (∀ i, i < F → wr.cell? ⟨vb, vo + i, none⟩ = some (.int .i64 (vs.getD i 0))) := Lib.hid fun i hi => by
        have h := hx i (by omega)
        rw [Nat.mul_one] at h
        rw [getD_at (by omega)]; exact h
      have ek := HX.out k hlt
      have hlv := cell_lt ek
      have hin := HVS.out k hlt
      have h56 := fun x : BW wr => H56.out x.val k (vs.getD k 0) (bThen hbb x.2) (by omega)
      have hh := HHI.out k (vs.getD k 0) (by omega)
      have hr := HRC.out k hk
      have hr1 := HRC.out (k + 1) hlt
      have HRS : Hid (refC sm ts vs (k + 1) = refC sm ts vs k + hereC ts k (vs.getD k 0) + frameS sm vs k) := Lib.hid rfl
      rw [HRS.out] at hr1
      clear hx hvl hbb
      by_cases hk0 : k = 0
      · subst hk0
        rw [Nat.add_zero] at ek
        rw [show ((0 : Nat) : Int) = 0 from rfl] at *
        have HRT : Hid (refC sm ts vs 1 = refC sm ts vs 0 + hereC ts 0 (vs.getD 0 0)) := Lib.hid (by rw [HRS.out]; simp [frameS])
        have hf : frameS sm vs 0 = 0 := rfl
        rw [hf] at hr1
        clear hf
        generalize hereC ts _ (vs.getD 0 0) = h at *
        generalize vs.getD 0 0 = u1 at *
        generalize refC sm ts vs 0 = r at *
        go_wp2_with fail
        refine wp_opaque fun Q2 hQ2 => ?_
        (refine wp_region_below (by kernel_rfl) (by kernel_rfl) ?_; (repeat (first | go_big_quiet_step ((go_at_call 56; with_reducible exact toB h56 _)) | quiet_step ((go_at_call 56; with_reducible exact toB h56 _)))); (refine wpQuiet_nil ?_; intro _ hw'; obtain ⟨xq, hw''⟩ := hw'; subst hw''))
        refine hQ2 _ _ _ ?_
        clear hQ2 Q2
        have HBN := Lib.hid (bThen HB.out xq.2)
        go_wp2_with fail
        go_roundw
        case rel =>
          first
            | exact ⟨1, by omega, by go_num, by rw [HRT.out], HBN⟩
            | ((repeat apply Exists.intro); refine ⟨?_, rfl⟩; exact ⟨1, by omega, by go_num, by rw [HRT.out], HBN⟩)
        case measure => simp [intOf]; omega
      · obtain ⟨q, rfl⟩ : ∃ q, k = q + 1 := ⟨k - 1, by omega⟩
        have eq := HX.out q (by omega)
        have hiq := HVS.out q (by omega)
        have HRT : Hid (refC sm ts vs (q + 1 + 1) = refC sm ts vs (q + 1) + hereC ts (q + 1 : Nat) (vs.getD (q + 1) 0) + sm * (vs.getD (q + 1) 0 - vs.getD q 0) * (vs.getD (q + 1) 0 - vs.getD q 0)) := Lib.hid (by rw [HRS.out]; unfold frameS; rw [if_pos (by omega)]; rfl)
        rw [← HRS.out, HRT.out] at hr1
        rw [show ((q + 1 : Nat) : Int) = (q : Int) + 1 from rfl] at *
        have hm1 := mul_in (A := 1000) (B := 400) (show -1000 ≤ sm by omega) (by omega) (show -400 ≤ vs.getD (q + 1) 0 - vs.getD q 0 by omega) (by omega)
        have hm2 := wsq_in (b := 400) (c := 1000) hsm (show -400 ≤ vs.getD (q + 1) 0 - vs.getD q 0 by omega) (by omega) (by omega)
        generalize hereC ts _ (vs.getD (q + 1) 0) = h at *
        generalize refC sm ts vs (q + 1) = r at *
        generalize vs.getD (q + 1) 0 = u1 at *
        generalize vs.getD q 0 = u0 at *
        have w0 : IntKind.i64.wrap (u1 - u0) = u1 - u0 := IntWalk.i64_in _ (by omega)
        have w1 : IntKind.i64.wrap (sm * (u1 - u0)) = sm * (u1 - u0) := IntWalk.i64_in _ (by omega)
        have w2 : IntKind.i64.wrap (sm * (u1 - u0) * (u1 - u0)) = sm * (u1 - u0) * (u1 - u0) := IntWalk.i64_in _ (by omega)
        have w3 : IntKind.i64.wrap (r + h + sm * (u1 - u0) * (u1 - u0)) = r + h + sm * (u1 - u0) * (u1 - u0) := IntWalk.i64_in _ (by omega)
        have w4 : IntKind.i64.wrap (r + h) = r + h := IntWalk.i64_in _ (by omega)
        have i1 : (0 : Int) ≤ (q : Int) + 1 := by omega
        have i2 : (q : Int) + 1 < (F : Int) := by omega
        have i3 : (q : Int) < (F : Int) := by omega
        have i4 : ((q : Int) + 1).toNat = q + 1 := by omega
        have i6 : (q : Int) + 1 - 1 = (q : Int) := by omega
        clear hm1 hm2 hr1
        go_wp2_with fail
        refine wp_opaque fun Q2 hQ2 => ?_
        (refine wp_region_below (by kernel_rfl) (by kernel_rfl) ?_; (repeat (first | go_big_quiet_step ((go_at_call 56; with_reducible exact toB h56 _)) | quiet_step ((go_at_call 56; with_reducible exact toB h56 _)))); (refine wpQuiet_nil ?_; intro _ hw'; obtain ⟨xq, hw''⟩ := hw'; subst hw''))
        refine hQ2 _ _ _ ?_
        clear hQ2 Q2
        have hbx := xq.2
        have fk := keep hbx ek
        have fq := keep hbx eq
        have f4 := keep hbx p4
        have hl2 := cell_lt fk
        have hl3 := cell_lt f4
        have HBX := Lib.hid (bThen HB.out hbx)
        clear hbx p0 p1 p2 p3 p4 p5 ek eq hlv hlp h56
        generalize xq.val = wx at *
        go_wp2_with fail
        refine wp_opaque fun Q2 hQ2 => ?_
        (refine wp_region_below (by kernel_rfl) (by kernel_rfl) ?_; (repeat (first | go_big_quiet_step ((fail)) | quiet_step ((fail)))); (refine wpQuiet_nil ?_; intro _ hw'; obtain ⟨xq, hw''⟩ := hw'; subst hw''))
        refine hQ2 _ _ _ ?_
        clear hQ2 Q2
        have HBN := Lib.hid (bThen HBX.out xq.2)
        go_wp2_with fail
        go_roundw
        case rel =>
          first
            | exact ⟨q + 1 + 1, by omega, by go_num, by rw [HRT.out], HBN⟩
            | ((repeat apply Exists.intro); refine ⟨?_, rfl⟩; exact ⟨q + 1 + 1, by omega, by go_num, by rw [HRT.out], HBN⟩)
        case measure => simp [intOf]; omega
    · obtain rfl : F = k := by omega
      go_wp2_with fail
      go_ret
      exact ⟨rfl, bThen HB1.out HB.out⟩
theorem refCost_any (p : Con) (vs : List Int) (tv vv : Value) (w : World) (hok : conOk p = true) (hv : SliceV w tv 3 TgtAt p.targets) (hvl : (vs.length : Int) = p.frames) (hvs : ∀ x ∈ vs, p.low ≤ x ∧ x ≤ p.high) (hu : SliceV w vv 1 IntAt vs) :
    Calls Tryd.prog 28 #[p.val tv, vv] w fun e w' => e = .returned (.int .i64 (costOf p vs)) ∧ Below w.heap.size w w' := by
  obtain ⟨h1, h2, h3, h4, h5, h6, h7⟩ := conOk_in hok
  obtain ⟨F, hF⟩ : ∃ F : Nat, p.frames = F := ⟨p.frames.toNat, by omega⟩
  have hts : ∀ x ∈ p.targets, tgtOk F x = true := by rw [← hF]; exact List.all_eq_true.1 h7
  have h := refCost_any' F p.low p.high p.slope p.smooth p.targets vs tv vv w (by omega) h2 (by omega) h5 hts h6 hv (by omega) (fun i hi => by
    rw [getD_at (by omega)]
    exact hvs _ (List.getElem_mem _)) hu
  rw [refC_all p.targets hts] at h
  unfold Con.val costOf
  rw [hF, show vs.length = F by omega]
  exact h
end Go.Proofs.YtejcbcjhmnhefaaDoor
