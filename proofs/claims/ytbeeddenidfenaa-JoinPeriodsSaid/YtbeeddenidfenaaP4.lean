/- Contracts: stretching by the specification. -/
import Derived.Test.YtbeeddenidfenaaP3
set_option linter.unusedSimpArgs false
set_option linter.unusedVariables false
namespace Go.Proofs.Ytbeeddenidfenaa
open Go.RowKit

theorem pers_len (m : Mk) : (pers m).length = pN m := by simp [pers]
theorem pers_get (m : Mk) {i : Nat} (h : i < (pers m).length) : (pers m)[i] = per m i := by simp [pers]
/-- The periods of a stretched wave. -/
def strL (m : Mk) (A : Nat) : List (List Int) := (List.range A).map fun j => per m (j * pN m / A)
theorem strL_len (m : Mk) (A : Nat) : (strL m A).length = A := by simp [strL]
theorem flat_bound {α : Type} (l : List (List α)) (B : Nat) (h : ∀ x ∈ l, x.length ≤ B) : l.flatten.length ≤ l.length * B := by
  induction l with
  | nil => simp
  | cons x l ih =>
    have h1 := h x (by simp)
    have h2 := ih fun y hy => h y (by simp [hy])
    rw [List.flatten_cons, List.length_append, List.length_cons, Nat.succ_mul]
    omega

set_option maxRecDepth 10000 in
set_option maxHeartbeats 8000000 in
theorem refStretch_any (m : Mk) (num den : Nat) (vs vm : Value) (w : World) (hv : MkV w vs vm m) (hm : MkR m) (hr : ratOk (num : Int) (den : Int) = true) (htot : (strL m (strA m num den)).flatten.length ≤ 200000) (hA2 : strA m num den ≤ 200000) :
    Calls Try.prog 46 #[.agg #[vs, vm], .int .i64 num, .int .i64 den] w fun e w' => (∃ ra rc qa qc, e = .returned (.agg #[.slice ra (bldM m (strL m (strA m num den))).sam.length rc, .slice qa (bldM m (strL m (strA m num den))).marks.length qc]) ∧ MkV w' (.slice ra (bldM m (strL m (strA m num den))).sam.length rc) (.slice qa (bldM m (strL m (strA m num den))).marks.length qc) (bldM m (strL m (strA m num den)))) ∧ Below w.heap.size w w' := by
  have HV := Lib.hid hv
  have HM := Lib.hid hm
  have HTOT := Lib.hid htot
  have hri := ratOk_in hr
  have hsa := strA_in hm hr
  have hpn := hm.pN_in
  obtain ⟨⟨a, c, rfl, hl, -⟩, ⟨am, cm, rfl, hlm, -⟩⟩ := id hv
  obtain ⟨i3, hi, hz0, hz1, hz2⟩ := info_parts infoS
  have HI := Lib.hid hi
  clear hi htot
  obtain ⟨N, hN⟩ : ∃ N, pN m = N := ⟨_, rfl⟩
  have HN := Lib.hid hN
  obtain ⟨A, hA⟩ : ∃ A, strA m num den = A := ⟨_, rfl⟩
  rw [hA] at hsa hA2 HTOT ⊢
  rw [hN] at hsa hpn
  have mu := mul_in (A := 100000) (B := 1000) (a := (N : Int)) (b := (num : Int)) (by omega) (by omega) (by omega) (by omega)
  have mu0 : 0 ≤ (N : Int) * num := Int.mul_nonneg (by omega) (by omega)
  have HNE : Hid (∀ X, Calls Try.prog 73 #[.int .i64 ((N : Int) * num), .int .i64 (den : Int)] X fun e w' => e = .returned (.int .i64 (A : Int)) ∧ X = w') := Lib.hid fun X => by
    have h := near_any ((N : Int) * num) den X mu0 (by omega) (by omega) (by omega)
    rwa [hsa.1] at h
  have HPE : Hid (∀ X, Below w.heap.size w X → Calls Try.prog 49 #[.agg #[.slice a m.sam.length c, .slice am m.marks.length cm]] X fun e w' => (∃ r cr, e = .returned (.slice r N cr) ∧ SliceV w' (.slice r N cr) 1 WaveAt (pers m)) ∧ Below X.heap.size X w') := Lib.hid fun X hB => by
    have h := Periods_any m _ _ X (HV.out.keep hB) hm
    rwa [hN] at h
  have hA1 := hsa.2.1
  have q1 : IntKind.i64.wrap ((N : Int) * num) = (N : Int) * num := IntWalk.i64_in _ (by omega)
  have hN1 : 1 ≤ N := hpn.1
  have hN2 : N ≤ 100000 := hpn.2.1
  clear hm hr hri hsa hpn hN hA mu mu0
  go_enter Try.func46, Try.ntmps46
  go_upto_region 1 with fail
  generalize hW1 : World.alloc (World.alloc w _) _ = W1
  have HB1 : Hid (Below w.heap.size w W1) := Lib.hid (by rw [← hW1]; exact bAlloc (bAlloc (Below.refl _ _) _) _)
  have HM1 : Hid (W1.heap[w.heap.size]? = some (.cells #[.slice a m.sam.length c, .slice am m.marks.length cm] 24 (0, 0))) := Lib.hid (by rw [← hW1]; exact heap_past (by simp) (heap_at rfl))
  have HR1 : Hid (W1.heap[w.heap.size + 1]? = some (.cells #[.slice none 0 0, .slice none 0 0] 24 (0, 0))) := Lib.hid (by rw [← hW1]; exact heap_at (by simp))
  clear hW1
  have c0 := (mcell HM1.out).1
  have c1 := (mcell HM1.out).2
  have cl := cell_lt c0
  go_wp2_with (first
    | (go_at_call 49; with_reducible refine Calls.mono (HPE.out _ HB1.out) ?_; rintro e w2 ⟨⟨pr, pc, rfl, hps⟩, hb⟩; have HPS := Lib.hid hps; have HB2 := Lib.hid hb; clear hb hps)
    | (go_at_call 73; with_reducible refine Calls.mono (HNE.out _) ?_; rintro e w3 ⟨rfl, rfl⟩))
  obtain ⟨pb, po, rfl, -⟩ := HPS.out.at (by intro e; have := pers_len m; rw [e, HN.out] at this; simp at this; omega)
  go_loopw [9, 10] (fun o i wr => ∃ (j : Nat) (vals : List Value), j ≤ A ∧ i = .int .i64 j ∧ Hid (wr.ownsRow w2.heap.size 22 1 o j vals) ∧ Hid (vals.length = j ∧ ∀ k, k < j → ∃ u, vals[k]? = some u ∧ SliceV w2 u 1 IntAt (per m (k * N / A))) ∧ Hid (Below w2.heap.size w2 wr)) (fun _ i _ => A - (intOf i).toNat)
  case atStart => exact ⟨0, [], Nat.zero_le _, rfl, Lib.hid (World.ownsRow_nil _ _ _ _), Lib.hid ⟨rfl, fun k hk => by omega⟩, Lib.hid (Below.refl _ _)⟩
  case round =>
    obtain ⟨j, vals, hj, rfl, HR, HVL, HBR⟩ := hrel
    by_cases hlt : j < A
    · obtain ⟨id, hid⟩ : ∃ id, id = j * N / A := ⟨_, rfl⟩
      have hidN : id < N := by
        rw [hid]
        refine Nat.div_lt_of_lt_mul ?_
        rw [Nat.mul_comm A N, Nat.mul_comm j N]
        exact Nat.mul_lt_mul_of_pos_left hlt (by omega)
      have hjN : j * N ≤ 200000 * 100000 := Nat.mul_le_mul (by omega) hN2
      obtain ⟨T, hT⟩ : ∃ T, T = j * N := ⟨_, rfl⟩
      rw [← hT] at hid hjN
      have e1 : IntKind.i64.wrap ((j : Int) * N) = (T : Int) := by rw [hT, Int.natCast_mul]; exact IntWalk.i64_in _ (by rw [← Int.natCast_mul, ← hT]; omega)
      have e2 : (T : Int).tdiv (A : Int) = (id : Int) := by rw [Int.tdiv_eq_ediv_of_nonneg (by omega), hid, Int.natCast_ediv]
      have e2' : (T : Int) / (A : Int) = (id : Int) := by rw [hid, Int.natCast_ediv]
      have e3 : IntKind.i64.wrap (id : Int) = (id : Int) := IntWalk.i64_in _ (by omega)
      have e4 : ¬ (A : Int) = 0 := by omega
      have e5 : ((A : Int) == 0) = false := by simp; omega
      have e6 : (id : Int) < (N : Int) := by omega
      have e7 : (j : Int) < (A : Int) := by omega
      obtain ⟨u, hu, hus⟩ : ∃ u, w2.cell? ⟨pb, po + id, none⟩ = some u ∧ SliceV w2 u 1 IntAt (per m id) := by
        obtain ⟨b', o', he, hf⟩ := HPS.out.at (by intro e; have := pers_len m; rw [e, HN.out] at this; simp at this; omega)
        cases he
        obtain ⟨u, h1, h2⟩ := hf id (by rw [pers_len, HN.out]; exact hidN)
        rw [Nat.mul_one] at h1
        rw [pers_get] at h2
        exact ⟨u, h1, h2⟩
      obtain ⟨ua, uc, hue, -⟩ := Eq.refl u ▸ hus
      subst hue
      obtain ⟨un, hun⟩ : ∃ un, (per m id).length = un := ⟨_, rfl⟩
      rw [hun] at hu hus
      have HUS := Lib.hid hus
      have u0 := keep HBR.out hu
      have ul := cell_lt u0
      have hlow : w2.heap.size ≤ wr.heap.size := HBR.out.size
      have HIDX : Hid (id = j * N / A) := Lib.hid (by rw [hid, hT])
      clear hus hu hid hT hun
      obtain ⟨ad, cap, rfl⟩ := ownsRow_slice HR.out
      go_wp2_with (at_builtin; refine wpList_append_lies _ rfl _ _ 49 rfl w2.heap.size 22 i3 _ 1 24 Try.underlying49 HI.out hz0 hz1 hz2 rfl (by decide) (.slice ad j cap) j _ (by rfl) (HR.out.alloc _) ⟨wr.heap.size, 0, none⟩ 1 1 [.slice ua un uc] (by rfl) (by rfl) (one_new _ _ _) (by simp [Value.oneCell']) (by omega) (by unfold maxLen; omega) (by omega) (Nat.le_trans hlow (by simp)) (wr.heap.size + 1) (by simp) ?_; intro g6 cap6 w6 hown hgrow hat6 hlt6; have HO6 := Lib.hid hown; have HB6 := Lib.hid ((bAlloc HBR.out _).trans (below_grown hgrow (HR.out.alloc _) (Nat.le_trans hlow (by simp)))); clear hown hgrow hat6 hlt6)
      have HVL2 : Hid ((vals ++ [Value.slice ua un uc]).length = j + 1 ∧ ∀ k, k < j + 1 → ∃ u, (vals ++ [Value.slice ua un uc])[k]? = some u ∧ SliceV w2 u 1 IntAt (per m (k * N / A))) := Lib.hid ⟨by rw [List.length_append, HVL.out.1]; rfl, fun k hk => by
        by_cases h : k < j
        · obtain ⟨u, h1, h2⟩ := HVL.out.2 k h
          exact ⟨u, by rw [List.getElem?_append_left (by rw [HVL.out.1]; exact h)]; exact h1, h2⟩
        · obtain rfl : k = j := by omega
          refine ⟨_, by rw [List.getElem?_append_right (by rw [HVL.out.1]; exact Nat.le_refl _), HVL.out.1, Nat.sub_self]; rfl, ?_⟩
          rw [← HIDX.out]; exact HUS.out⟩
      go_roundw
      case rel =>
        first
          | exact ⟨j + 1, vals ++ [Value.slice ua un uc], by omega, by go_num, HO6, HVL2, HB6⟩
          | ((repeat apply Exists.intro); refine ⟨?_, rfl⟩; exact ⟨j + 1, vals ++ [Value.slice ua un uc], by omega, by go_num, HO6, HVL2, HB6⟩)
          | fail
      case measure => simp [intOf]; omega
    · have hjA : ¬ (j : Int) < (A : Int) := by omega
      obtain rfl : j = A := by omega
      obtain ⟨ad, cap, rfl⟩ := ownsRow_slice HR.out
      have HBW := Lib.hid (bThen HB2.out HBR.out)
      have HLV : Hid (∀ X, Below wr.heap.size wr X → SliceV X (.slice ad j cap) 1 WaveAt (strL m j)) := Lib.hid fun X hB => by
        have h0 := HR.out
        rw [← strL_len m j] at h0
        have h1 := own_waves (ls := strL m j) h0 (by rw [strL_len]; omega) (fun i hi => by
          rw [strL_len] at hi
          obtain ⟨u, g1, g2⟩ := HVL.out.2 i hi
          refine ⟨u, g1, ?_⟩
          have : (strL m j)[i]'(by rw [strL_len]; exact hi) = per m (i * N / j) := by simp [strL, HN.out]
          rw [this]
          exact g2.keep IntAt.stable HBR.out)
        rw [strL_len] at h1
        exact h1.keep WaveAt.stable hB
      have HBU : Hid (∀ X, Below wr.heap.size wr X → Calls Try.prog 74 #[.agg #[.slice a m.sam.length c, .slice am m.marks.length cm], .slice ad j cap] X _) := Lib.hid fun X hB => refBuilt_any m (strL m j) _ _ _ X (HV.out.keep (bThen (bThen HB1.out HBW.out) hB)) HM.out (HLV.out X hB) (by rw [strL_len]; omega) HTOT.out
      have r0 := keep HBW.out (mcell HR1.out).1
      have r1 := keep HBW.out (mcell HR1.out).2
      have d0 := keep HBW.out c0
      have d1 := keep HBW.out c1
      have dl := cell_lt d0
      have HRW := Lib.hid (heap_keep HBW.out HR1.out)
      clear c0 c1 cl
      go_wp2_with (go_at_call 74; with_reducible refine Calls.mono (HBU.out _ (Below.refl _ _)) ?_; rintro e w7 ⟨⟨ra, rc, qa, qc, rfl, hmv⟩, hb⟩; have HMV := Lib.hid hmv; have HB7 := Lib.hid hb; have s0 := keep hb r0; have s1 := keep hb r1; have s2 := frz (heap_keep hb HRW.out) 0; have s3 := frz (heap_keep hb HRW.out) 1; have s4 := cell_lt s0; clear hmv hb)
      (try simp only [Exit.inBlock, Exit.then])
      have hq1 := heap_keep HB7.out HRW.out
      refine bodyPost_ret (results_cell_row rfl _ _ (w.heap.size + 1) 24 _ (0, 0) _ rfl (set2_1 (set2_0 hq1 _) _) Try.underlying24 rfl (by kernel_rfl)) rfl ?_
      exact ⟨⟨_, _, _, _, rfl, ints_setB HMV.out.1 hq1, ints_setB HMV.out.2 hq1⟩, ((bThen HB1.out (bThen HBW.out HB7.out)).setCell (p := ⟨w.heap.size + 1, 0, none⟩) (Nat.le_succ _) _).setCell (p := ⟨w.heap.size + 1, 1, none⟩) (Nat.le_succ _) _⟩
end Go.Proofs.Ytbeeddenidfenaa
