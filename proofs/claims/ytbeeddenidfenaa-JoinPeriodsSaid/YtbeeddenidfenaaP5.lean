/- Contracts: transposing by the specification. -/
import Derived.Test.YtbeeddenidfenaaP4
import Derived.Lib.MinMax
set_option linter.unusedSimpArgs false
set_option linter.unusedVariables false
namespace Go.Proofs.Ytbeeddenidfenaa
open Go.RowKit

/-- How long a transposed period is. -/
def traN (m : Mk) (num den : Nat) (i : Nat) : Nat := (nr ((pL m i : Int) * den) num).toNat
def traL (m : Mk) (num den : Nat) : List (List Int) := (List.range (pN m)).map fun j => perL (per m j) (traN m num den j)
theorem traL_len (m : Mk) (num den : Nat) : (traL m num den).length = pN m := by simp [traL]
theorem traN_in {m : Mk} (h : MkR m) {num den : Nat} (hr : ratOk (num : Int) (den : Int) = true) {i : Nat} (hi : i < pN m) : nr ((pL m i : Int) * den) num = (traN m num den i : Int) ∧ 1 ≤ traN m num den i ∧ traN m num den i ≤ 16 * pL m i := by
  have h1 := ratOk_in hr
  have h3 := h.pL_in hi
  have h2 := nr_ratio (q := (pL m i : Int)) (num := (den : Int)) (den := (num : Int)) (by omega) (by omega) (by omega) (by omega)
  unfold traN
  omega
theorem perL_succ (p : List Int) (t : Nat) : perL p (t + 1) = perL p t ++ [hold p t] := by unfold perL; rw [List.range_succ, List.map_append]; rfl
theorem own_apart {W : World} {b1 b2 t1 t2 s1 s2 n1 n2 : Nat} {u l : Value} {xs ys : List Value} (h1 : W.ownsRow b1 t1 s1 u n1 xs) (h2 : W.ownsRow b2 t2 s2 l n2 ys) (ht : t2 ≠ t1) : u.ownBlock = none ∨ u.ownBlock ≠ l.ownBlock := by
  by_cases hu : u.ownBlock = none
  · exact .inl hu
  rcases h2.2 with ⟨rfl, _⟩ | ⟨g, cap, cur, rfl, _, hb, _⟩
  · exact .inr hu
  · exact .inr (own_ne h1 hb (fun cs e => by injection e with _ e2; exact ht e2))
theorem own_slice2 {W : World} {base : Nat} {v : Value} {l : List Int} (h : W.ownsRow base 3 1 v l.length (intV l)) (hl : l.length ≤ 100000000) : SliceV W v 1 IntAt l := by
  rcases h.2 with ⟨rfl, h0⟩ | ⟨g, cap, cur, rfl, _, hb, hc, _, _, hx⟩
  · exact ⟨none, 0, by rw [h0], by rw [h0]; exact ⟨Nat.zero_le _, Nat.zero_le _⟩, .inl (List.eq_nil_of_length_eq_zero h0)⟩
  · refine ⟨_, cap, rfl, ⟨by unfold most; omega, hc⟩, .inr ⟨g, 0, rfl, fun i hi => ?_⟩⟩
    have h1 : (intV l)[i]? = some (.int .i64 l[i]) := by simp [intV, hi]
    rw [← hx, Nat.mul_one, List.getElem?_take, if_pos hi] at h1
    show W.cell? ⟨g, 0 + i * 1, none⟩ = _
    simp only [World.cell?, hb]
    simpa using h1
set_option maxRecDepth 10000 in
set_option maxHeartbeats 8000000 in
theorem refTranspose_any (m : Mk) (num den : Nat) (vs vm : Value) (w : World) (hv : MkV w vs vm m) (hm : MkR m) (hr : ratOk (num : Int) (den : Int) = true) (htot : (traL m num den).flatten.length ≤ 200000) :
    Calls Try.prog 47 #[.agg #[vs, vm], .int .i64 num, .int .i64 den] w fun e w' => (∃ ra rc qa qc, e = .returned (.agg #[.slice ra (bldM m (traL m num den)).sam.length rc, .slice qa (bldM m (traL m num den)).marks.length qc]) ∧ MkV w' (.slice ra (bldM m (traL m num den)).sam.length rc) (.slice qa (bldM m (traL m num den)).marks.length qc) (bldM m (traL m num den))) ∧ Below w.heap.size w w' := by
  have HV := Lib.hid hv
  have HM := Lib.hid hm
  have HTOT := Lib.hid htot
  have hri := ratOk_in hr
  have hpn := hm.pN_in
  obtain ⟨⟨a, c, rfl, hl, -⟩, ⟨am, cm, rfl, hlm, -⟩⟩ := id hv
  obtain ⟨i3, hi, hz0, hz1, hz2⟩ := info_parts infoS
  have HI := Lib.hid hi
  obtain ⟨j3, hj, hy0, hy1, hy2⟩ := info_parts infoI
  have HJ := Lib.hid hj
  clear hi hj htot
  obtain ⟨N, hN⟩ : ∃ N, pN m = N := ⟨_, rfl⟩
  have HN := Lib.hid hN
  have HTN : Hid (∀ i, i < N → nr ((pL m i : Int) * den) num = (traN m num den i : Int) ∧ 1 ≤ traN m num den i ∧ traN m num den i ≤ 16 * pL m i ∧ 1 ≤ pL m i ∧ pL m i ≤ 100000 ∧ (per m i).length = pL m i) := Lib.hid fun i hi => by
    have h1 := traN_in hm hr (i := i) (by rw [hN]; exact hi)
    have h2 := hm.pL_in (i := i) (by rw [hN]; exact hi)
    exact ⟨h1.1, h1.2.1, h1.2.2, h2.1, h2.2, per_len hm (by rw [hN]; exact hi)⟩
  rw [hN] at hpn
  have HPE : Hid (∀ X, Below w.heap.size w X → Calls Try.prog 49 #[.agg #[.slice a m.sam.length c, .slice am m.marks.length cm]] X fun e w' => (∃ r cr, e = .returned (.slice r N cr) ∧ SliceV w' (.slice r N cr) 1 WaveAt (pers m)) ∧ Below X.heap.size X w') := Lib.hid fun X hB => by
    have h := Periods_any m _ _ X (HV.out.keep hB) hm
    rwa [hN] at h
  have hN1 : 1 ≤ N := hpn.1
  have hN2 : N ≤ 100000 := hpn.2.1
  have hd : (den : Int) ≤ 1000 := by omega
  have hnu : 1 ≤ (num : Int) := by omega
  have hnu2 : (num : Int) ≤ 1000 := by omega
  clear hm hr hri hpn hN
  go_enter Try.func47, Try.ntmps47
  go_upto_region 1 with fail
  generalize hW1 : World.alloc (World.alloc w _) _ = W1
  have HB1 : Hid (Below w.heap.size w W1) := Lib.hid (by rw [← hW1]; exact bAlloc (bAlloc (Below.refl _ _) _) _)
  have HM1 : Hid (W1.heap[w.heap.size]? = some (.cells #[.slice a m.sam.length c, .slice am m.marks.length cm] 24 (0, 0))) := Lib.hid (by rw [← hW1]; exact heap_past (by simp) (heap_at rfl))
  have HR1 : Hid (W1.heap[w.heap.size + 1]? = some (.cells #[.slice none 0 0, .slice none 0 0] 24 (0, 0))) := Lib.hid (by rw [← hW1]; exact heap_at (by simp))
  clear hW1
  have c0 := (mcell HM1.out).1
  have c1 := (mcell HM1.out).2
  have cl := cell_lt c0
  go_wp2_with (go_at_call 49; with_reducible refine Calls.mono (HPE.out _ HB1.out) ?_; rintro e w2 ⟨⟨pr, pc, rfl, hps⟩, hb⟩; have HPS := Lib.hid hps; have HB2 := Lib.hid hb; clear hb hps)
  obtain ⟨pb, po, rfl, -⟩ := HPS.out.at (by intro e; have := pers_len m; rw [e, HN.out] at this; simp at this; omega)
  go_loopw [8, 9] (fun o i wr => ∃ (k : Nat) (vals : List Value), k ≤ N ∧ i = .int .i64 k ∧ Hid (wr.ownsRow w2.heap.size 22 1 o k vals) ∧ Hid (vals.length = k ∧ ∀ i, i < k → ∃ u, vals[i]? = some u ∧ wr.ownsRow w2.heap.size 3 1 u (traN m num den i) (intV (perL (per m i) (traN m num den i)))) ∧ Hid (Below w2.heap.size w2 wr)) (fun _ i _ => N - (intOf i).toNat)
  case atStart => exact ⟨0, [], Nat.zero_le _, rfl, Lib.hid (World.ownsRow_nil _ _ _ _), Lib.hid ⟨rfl, fun k hk => by omega⟩, Lib.hid (Below.refl _ _)⟩
  case round =>
    obtain ⟨k, vals, hk, rfl, HR, HVL, HBR⟩ := hrel
    obtain ⟨ad, cap, rfl⟩ := ownsRow_slice HR.out
    by_cases hlt : k < N
    · have hkN : (k : Int) < (N : Int) := by omega
      have htn := HTN.out k hlt
      obtain ⟨n, hn⟩ : ∃ n, n = traN m num den k := ⟨_, rfl⟩
      have HNT := Lib.hid hn
      rw [← hn] at htn
      obtain ⟨ub, uo, uc, un, hu, hus, hun⟩ : ∃ ub uo uc un, w2.cell? ⟨pb, po + k, none⟩ = some (.slice (some ⟨ub, uo, none⟩) un uc) ∧ SliceV w2 (.slice (some ⟨ub, uo, none⟩) un uc) 1 IntAt (per m k) ∧ un = pL m k := by
        obtain ⟨b', o', he, hf⟩ := HPS.out.at (by intro e; have := pers_len m; rw [e, HN.out] at this; simp at this; omega)
        cases he
        obtain ⟨u, h1, h2⟩ := hf k (by rw [pers_len, HN.out]; exact hlt)
        rw [Nat.mul_one] at h1
        rw [pers_get] at h2
        obtain ⟨ua, uc, rfl, -⟩ := id h2
        obtain ⟨ub, uo, rfl, -⟩ := h2.at (by intro e; have := htn.2.2.2.2.2; rw [e] at this; simp at this; omega)
        exact ⟨ub, uo, uc, (per m k).length, h1, h2, htn.2.2.2.2.2⟩
      rw [← hun] at htn
      have HPL : Hid ((per m k).length = un) := Lib.hid htn.2.2.2.2.2
      have hun1 : 1 ≤ un := htn.2.2.2.1
      have hun2 : un ≤ 100000 := htn.2.2.2.2.1
      have hn16 : n ≤ 1600000 := by omega
      have mu := mul_in (A := 100000) (B := 1000) (a := (un : Int)) (b := (den : Int)) (by omega) (by omega) (by omega) (by omega)
      have mu0 : 0 ≤ (un : Int) * den := Int.mul_nonneg (by omega) (by omega)
      have q1 : IntKind.i64.wrap ((un : Int) * den) = (un : Int) * den := IntWalk.i64_in _ (by omega)
      have HNE : Hid (∀ X, Calls Try.prog 73 #[.int .i64 ((un : Int) * den), .int .i64 (num : Int)] X fun e w' => e = .returned (.int .i64 (n : Int)) ∧ X = w') := Lib.hid fun X => by
        have h := near_any ((un : Int) * den) num X mu0 (by omega) (by omega) (by omega)
        rwa [htn.1] at h
      have HU := Lib.hid hu
      have HUS := Lib.hid hus
      have HUC : Hid (∀ i, i < un → w2.cell? ⟨ub, uo + i, none⟩ = some (.int .i64 ((per m k).getD i 0))) := Lib.hid fun i hi => by
        obtain ⟨b', o', he, hf⟩ := hus.at (by intro e; have := HPL.out; rw [e] at this; simp at this; omega)
        cases he
        have h1 := hf i (by rw [HPL.out]; exact hi)
        unfold IntAt at h1
        rwa [Nat.mul_one, ← gI (by rw [HPL.out]; exact hi)] at h1
      clear hu hus hun htn hn mu mu0
      obtain ⟨wo, hwo⟩ : ∃ wo, wo = wr := ⟨_, rfl⟩
      subst hwo
      go_wp2_with fail
      go_loopw [10, 11] (fun x i wr => ∃ t : Nat, t ≤ n ∧ i = .int .i64 t ∧ Hid (wr.ownsRow wo.heap.size 3 1 x t (intV (perL (per m k) t))) ∧ Hid (Below wo.heap.size wo wr)) (fun _ i _ => n - (intOf i).toNat)
      case atStart => exact ⟨0, Nat.zero_le _, rfl, Lib.hid (World.ownsRow_nil _ _ _ _), Lib.hid (Below.refl _ _)⟩
      case round =>
        obtain ⟨t, ht, rfl, HRX, HBI⟩ := hrel
        obtain ⟨xa, xc, rfl⟩ := ownsRow_slice HRX.out
        have HBT := Lib.hid (bThen HBR.out HBI.out)
        have u0 := keep HBT.out HU.out
        have ul := cell_lt u0
        have hlowo : wo.heap.size ≤ wr.heap.size := HBI.out.size
        by_cases htl : t < n
        · have e7 : (t : Int) < (n : Int) := by omega
          have e8 : IntKind.i64.wrap ((un : Int) - 1) = (un : Int) - 1 := IntWalk.i64_in _ (by omega)
          have e9 : (0 : Int) ≤ (un : Int) - 1 := by omega
          have e10 : (un : Int) - 1 < (un : Int) := by omega
          have e11 : ((un : Int) - 1).toNat = un - 1 := by omega
          obtain ⟨mi, hmi⟩ : ∃ mi, mi = min t (un - 1) := ⟨_, rfl⟩
          obtain ⟨x, hx⟩ : ∃ x, x = (per m k).getD mi 0 := ⟨_, rfl⟩
          have HXV : Hid (hold (per m k) t = x) := Lib.hid (by rw [hx, hmi]; unfold hold; rw [HPL.out])
          have HKC : Hid (∀ X, Below wo.heap.size wo X → X.cell? ⟨pb, po + k, none⟩ = some (.slice (some ⟨ub, uo, none⟩) un uc) ∧ X.cell? ⟨ub, uo + mi, none⟩ = some (.int .i64 x)) := Lib.hid fun X hB => ⟨keep (bThen HBR.out hB) HU.out, keep (bThen HBR.out hB) (by rw [hx]; exact HUC.out mi (by omega))⟩
          clear hx
          have hmn : min (t : Int) ((un : Int) - 1) = (mi : Int) := by omega
          have f2 : (mi : Int) < (un : Int) := by omega
          have f3 : mi < un := by omega
          clear hmi
          go_wp2_with (go_at_call 73; with_reducible refine Calls.mono (HNE.out _) ?_; rintro e w5 ⟨rfl, rfl⟩)
          go_region_held3 (fun X => (X.cell? ⟨pb, po + k, none⟩ = some (.slice (some ⟨ub, uo, none⟩) un uc) ∧ X.cell? ⟨ub, uo + mi, none⟩ = some (.int .i64 x))) (((try dsimp only); exact HKC.out _ (by (repeat (first | exact HBI.out | exact hb6 | refine Below.drew ?_ | refine bAlloc ?_ _))))) (first
            | (refine step_append_lies _ (by rfl) _ _ _ (by rfl) wo.heap.size 3 j3 _ 1 8 Try.underlying22 HJ.out hy0 hy1 hy2 rfl (by decide) (.slice xa t xc) t _ (by rfl) ((HRX.out.drew).alloc _) ⟨wr.heap.size, 0, none⟩ 1 1 [.int .i64 x] (by rfl) (by rfl) (World.news_of_block (World.alloc_heap_new wr.drew (.cells #[.int .i64 x] 3))) (by simp [Value.oneCell']) (by omega) (by unfold maxLen; omega) (by omega) (Nat.le_trans hlowo (by simp)) (wr.heap.size + 1) (by simp) ?_; intro g6 cap6 w6 hown hgrow hat6 hlt6; have hb6 : Below wo.heap.size wo w6 := ((bAlloc HBI.out _).drew).trans (below_grown hgrow ((HRX.out.drew).alloc _) (Nat.le_trans hlowo (by simp)))))
          have HRX2 : Hid (w6.ownsRow wo.heap.size 3 1 (.slice (some ⟨g6, 0, none⟩) (t + 1) cap6) (t + 1) (intV (perL (per m k) (t + 1)))) := Lib.hid (by rw [perL_succ, intV_append, HXV.out]; exact hown)
          have HBI2 : Hid (Below wo.heap.size wo w6) := Lib.hid hb6
          go_wp2_with fail
          go_roundw
          case rel =>
            first
              | exact ⟨t + 1, by omega, by go_num, HRX2, HBI2⟩
              | ((repeat apply Exists.intro); refine ⟨?_, rfl⟩; exact ⟨t + 1, by omega, by go_num, HRX2, HBI2⟩)
              | fail
          case measure => simp [intOf]; omega
        · have e7 : ¬ (t : Int) < (n : Int) := by omega
          obtain rfl : t = n := by omega
          have hlow : w2.heap.size ≤ wr.heap.size := HBT.out.size
          have HR3 := Lib.hid (ownsRow_below HR.out HBI.out)
          go_wp2_with (first
            | (go_at_call 73; with_reducible refine Calls.mono (HNE.out _) ?_; rintro e w5 ⟨rfl, rfl⟩)
            | (at_builtin; refine wpList_append_lies _ rfl _ _ 49 rfl w2.heap.size 22 i3 _ 1 24 Try.underlying49 HI.out hz0 hz1 hz2 rfl (by decide) (.slice ad k cap) k _ (by rfl) (HR3.out.alloc _) ⟨wr.heap.size, 0, none⟩ 1 1 [.slice xa t xc] (by rfl) (by rfl) (one_new _ _ _) (by simp [Value.oneCell']) (by omega) (by unfold maxLen; omega) (by omega) (Nat.le_trans hlow (by simp)) (wr.heap.size + 1) (by simp) ?_; intro g6 cap6 w6 hown hgrow hat6 hlt6; have HO6 := Lib.hid hown; have HG6 := Lib.hid hgrow; have HB6 := Lib.hid ((bAlloc HBT.out _).trans (below_grown hgrow (HR3.out.alloc _) (Nat.le_trans hlow (by simp)))); clear hown hgrow hat6 hlt6))
          have HKP : ∀ (u : Value) (nn : Nat) (xs : List Value), wr.ownsRow w2.heap.size 3 1 u nn xs → w6.ownsRow w2.heap.size 3 1 u nn xs := fun u nn xs h => (h.alloc _).kept HG6.out (own_apart h HR3.out (by decide))
          have HVL2 : Hid ((vals ++ [Value.slice xa t xc]).length = k + 1 ∧ ∀ i, i < k + 1 → ∃ u, (vals ++ [Value.slice xa t xc])[i]? = some u ∧ w6.ownsRow w2.heap.size 3 1 u (traN m num den i) (intV (perL (per m i) (traN m num den i)))) := Lib.hid ⟨by rw [List.length_append, HVL.out.1]; rfl, fun i hi => by
            by_cases h : i < k
            · obtain ⟨u, h1, h2⟩ := HVL.out.2 i h
              exact ⟨u, by rw [List.getElem?_append_left (by rw [HVL.out.1]; exact h)]; exact h1, HKP _ _ _ (ownsRow_below h2 HBI.out)⟩
            · obtain rfl : i = k := by omega
              refine ⟨_, by rw [List.getElem?_append_right (by rw [HVL.out.1]; exact Nat.le_refl _), HVL.out.1, Nat.sub_self]; rfl, ?_⟩
              rw [← HNT.out]
              exact HKP _ _ _ (HRX.out.mono HBR.out.size)⟩
          go_roundw
          case rel =>
            first
              | exact ⟨k + 1, vals ++ [Value.slice xa t xc], by omega, by go_num, HO6, HVL2, HB6⟩
              | ((repeat apply Exists.intro); refine ⟨?_, rfl⟩; exact ⟨k + 1, vals ++ [Value.slice xa t xc], by omega, by go_num, HO6, HVL2, HB6⟩)
              | fail
          case measure => simp [intOf]; omega
    · have hjA : ¬ (k : Int) < (N : Int) := by omega
      obtain rfl : k = N := by omega
      have HBW := Lib.hid (bThen HB2.out HBR.out)
      have HLV : Hid (∀ X, Below wr.heap.size wr X → SliceV X (.slice ad k cap) 1 WaveAt (traL m num den)) := Lib.hid fun X hB => by
        have hll : (traL m num den).length = k := by rw [traL_len, HN.out]
        have h0 := HR.out
        rw [← hll] at h0
        have h1 := own_waves (ls := traL m num den) h0 (by rw [hll]; omega) (fun i hi => by
          rw [hll] at hi
          obtain ⟨u, g1, g2⟩ := HVL.out.2 i hi
          refine ⟨u, g1, ?_⟩
          have : (traL m num den)[i]'(by rw [hll]; exact hi) = perL (per m i) (traN m num den i) := by simp [traL]
          rw [this]
          have ht := HTN.out i hi
          exact own_slice2 (by rw [perL_len]; exact g2) (by rw [perL_len]; omega))
        rw [hll] at h1
        exact h1.keep WaveAt.stable hB
      have HBU : Hid (∀ X, Below wr.heap.size wr X → Calls Try.prog 74 #[.agg #[.slice a m.sam.length c, .slice am m.marks.length cm], .slice ad k cap] X _) := Lib.hid fun X hB => refBuilt_any m (traL m num den) _ _ _ X (HV.out.keep (bThen (bThen HB1.out HBW.out) hB)) HM.out (by have := HLV.out X hB; rwa [show k = (traL m num den).length by rw [traL_len, HN.out]] at this ⊢) (by rw [traL_len, HN.out]; omega) HTOT.out
      have r0 := keep HBW.out (mcell HR1.out).1
      have r1 := keep HBW.out (mcell HR1.out).2
      have d0 := keep HBW.out c0
      have d1 := keep HBW.out c1
      have dl := cell_lt d0
      have HRW := Lib.hid (heap_keep HBW.out HR1.out)
      clear c0 c1 cl
      go_wp2_with (go_at_call 74; with_reducible refine Calls.mono (HBU.out _ (Below.refl _ _)) ?_; rintro e w7 ⟨⟨ra, rc, qa, qc, rfl, hmv⟩, hb⟩; have HMV := Lib.hid hmv; have HB7 := Lib.hid hb; have s0 := keep hb r0; have s1 := keep hb r1; have s2 := frz (heap_keep hb HRW.out) 0; have s3 := frz (heap_keep hb HRW.out) 1; have s4 := cell_lt s0; clear hmv hb)
      (try simp only [Exit.inBlock, Exit.then])
      have hq1 := heap_keep HB7.out HRW.out
      refine bodyPost_ret (results_cell_row rfl _ _ (w.heap.size + 1) 24 _ (0, 0) _ rfl (set2_1 (set2_0 hq1 _) _) Try.underlying24 rfl (by kernel_rfl)) rfl ?_
      exact ⟨⟨_, _, _, _, rfl, ints_setB HMV.out.1 hq1, ints_setB HMV.out.2 hq1⟩, ((bThen HB1.out (bThen HBW.out HB7.out)).setCell (p := ⟨w.heap.size + 1, 0, none⟩) (Nat.le_succ _) _).setCell (p := ⟨w.heap.size + 1, 1, none⟩) (Nat.le_succ _) _⟩
end Go.Proofs.Ytbeeddenidfenaa
