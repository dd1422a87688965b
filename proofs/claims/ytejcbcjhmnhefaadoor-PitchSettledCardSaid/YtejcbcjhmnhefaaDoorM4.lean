/- The specification's costs: of one frame, of a contour. -/
import Derived.Test.YtejcbcjhmnhefaaDoorM0
set_option linter.unusedSimpArgs false
set_option linter.unusedVariables false
namespace Go.Proofs.YtejcbcjhmnhefaaDoor
open Go.RowKit

def hereX (t v : Int) (x : Tgt) : Int := if x.time = t then x.weight * (v - x.value) * (v - x.value) else 0
def hereC (l : List Tgt) (t v : Int) : Int := (l.map (hereX t v)).sum
theorem hereC_succ (l : List Tgt) (n : Nat) (t v : Int) (h : n < l.length) : hereC (l.take (n + 1)) t v = hereC (l.take n) t v + hereX t v l[n] := by
  unfold hereC; rw [take_succ l n h, List.map_append, List.sum_append]; simp
theorem hereX_in {F : Int} {t v : Int} {x : Tgt} (hv : -100000 ≤ v ∧ v ≤ 100400) (h : tgtOk F x = true) : 0 ≤ hereX t v x ∧ hereX t v x ≤ 100000000000000 := by
  obtain ⟨_, hx, hw⟩ := tgtOk_in h
  unfold hereX
  split
  · have := wsq_in (b := 300400) (c := 1000) hw (show -300400 ≤ v - x.value by omega) (by omega) (by omega)
    omega
  · omega
theorem hereC_in {F : Int} {t v : Int} (hv : -100000 ≤ v ∧ v ≤ 100400) : ∀ l : List Tgt, (∀ x ∈ l, tgtOk F x = true) → 0 ≤ hereC l t v ∧ hereC l t v ≤ 100000000000000 * (l.length : Int) := by
  intro l
  induction l with
  | nil => intro _; simp [hereC]
  | cons x l ih =>
    intro h
    have h3 := ih fun y hy => h y (List.mem_cons_of_mem _ hy)
    have h4 := hereX_in (t := t) hv (h x List.mem_cons_self)
    have h5 : hereC (x :: l) t v = hereX t v x + hereC l t v := by simp [hereC]
    rw [h5, List.length_cons]
    omega

set_option maxRecDepth 100000 in
set_option maxHeartbeats 8000000 in
theorem here_any (F lo hi sl sm t u : Int) (ts : List Tgt) (v : Value) (w : World) (hts : ∀ x ∈ ts, tgtOk F x = true) (htl : ts.length ≤ 200) (hu : -100000 ≤ u ∧ u ≤ 100400) (hv : SliceV w v 3 TgtAt ts) :
    Calls Tryd.prog 56 #[.agg #[.int .i64 F, .int .i64 lo, .int .i64 hi, .int .i64 sl, .int .i64 sm, v], .int .i64 t, .int .i64 u] w fun e w' => e = .returned (.int .i64 (hereC ts t u)) ∧ Below w.heap.size w w' := by
  have HV := Lib.hid hv
  have HTS := Lib.hid hts
  obtain ⟨a, c, rfl, -, -⟩ := hv
  have HHC : Hid (∀ n, 0 ≤ hereC (ts.take n) t u ∧ hereC (ts.take n) t u ≤ 20000000000000000) := Lib.hid fun n => by
    have h := hereC_in (F := F) (t := t) hu (ts.take n) (fun x hx => hts x (List.mem_of_mem_take hx))
    have := List.length_take_le' n ts; omega
  have HZ : Hid (hereC (ts.take 0) t u = 0) := Lib.hid (by simp [hereC])
  clear hts
  obtain ⟨b2, hb2⟩ : ∃ b2, b2 = w.heap.size := ⟨_, rfl⟩
  go_enter Tryd.func56, Tryd.ntmps56
  go_wp2_with fail
  rw [← hb2]
  generalize hW1 : World.alloc w _ = W1
  have hB1 : Below w.heap.size w W1 := by rw [← hW1]; exact bAlloc (Below.refl _ _) _
  have hp5 : W1.cell? ⟨b2, 5, none⟩ = some (.slice a ts.length c) := by rw [← hW1, hb2]; exact cell_new rfl
  have HP5 := Lib.hid hp5
  have HB1 := Lib.hid hB1
  clear hW1 hB1 hp5 hb2
  go_loopw [7, 8] (fun x i wr => ∃ n : Nat, n ≤ ts.length ∧ i = .int .i64 n ∧ x = .int .i64 (hereC (ts.take n) t u) ∧ Hid (Below W1.heap.size W1 wr)) (fun _ i _ => ts.length - (intOf i).toNat)
  case atStart => exact ⟨0, Nat.zero_le _, rfl, by rw [HZ.out], Lib.hid (Below.refl _ _)⟩
  case round =>
    obtain ⟨n, hn, rfl, rfl, HB⟩ := hrel
    have p5 := keep HB.out HP5.out
    have hlp := cell_lt p5
    by_cases hlt : n < ts.length
    · obtain ⟨tb, tof, rfl, c0, c1, c2⟩ := tgt_at (HV.out.keep TgtAt.stable (bThen HB1.out HB.out)) hlt
      have hok := HTS.out ts[n] (List.getElem_mem hlt)
      have hyo := tgtOk_in hok
      have hx := hereX_in (t := t) hu hok
      have hd := HHC.out n
      have HSU := Lib.hid (hereC_succ ts n t u hlt)
      have hlb := cell_lt c0
      generalize hereC (ts.take n) t u = od at *
      generalize ts[n] = y at *
      have HBA := Lib.hid (bAlloc (Below.refl wr.heap.size wr) (.cells #[.int .i64 y.time, .int .i64 y.value, .int .i64 y.weight] 54))
      by_cases g : y.time = t
      · have hxe : hereX t u y = y.weight * (u - y.value) * (u - y.value) := if_pos g
        have HXE := Lib.hid hxe
        have hm1 := mul_in (A := 1000) (B := 300400) (show -1000 ≤ y.weight by omega) (by omega) (show -300400 ≤ u - y.value by omega) (by omega)
        have w1 : IntKind.i64.wrap (y.weight * (u - y.value)) = y.weight * (u - y.value) := IntWalk.i64_in _ (by omega)
        have w2 : IntKind.i64.wrap (y.weight * (u - y.value) * (u - y.value)) = hereX t u y := by rw [hxe]; exact IntWalk.i64_in _ (by omega)
        have w3 : IntKind.i64.wrap (od + hereX t u y) = od + hereX t u y := IntWalk.i64_in _ (by omega)
        clear hxe
        go_wp2_with fail
        refine ⟨⟨n + 1, by omega, by go_num, by rw [HSU.out], Lib.hid (bThen HB.out (by rw [← g]; exact HBA.out))⟩, by simp [intOf]; omega⟩
      · have hxe : hereX t u y = 0 := if_neg g
        have HSU : Hid (hereC (ts.take (n + 1)) t u = od) := Lib.hid (by rw [HSU.out, hxe, Int.add_zero])
        clear hxe
        have HBN := Lib.hid (bThen HB.out HBA.out)
        go_wp2_with fail
        go_roundw
        case rel =>
          first
            | exact ⟨n + 1, by omega, by go_num, by rw [HSU.out], HBN⟩
            | ((repeat apply Exists.intro); refine ⟨?_, rfl⟩; exact ⟨n + 1, by omega, by go_num, by rw [HSU.out], HBN⟩)
        case measure => simp [intOf]; omega
    · obtain rfl : n = ts.length := by omega
      rw [List.take_length]
      go_wp2_with fail
      go_ret
      exact ⟨rfl, bThen HB1.out HB.out⟩

/-! The cost of a contour, frame by frame -/
def sumH (l : List Tgt) (vs : List Int) : Nat → Int
  | 0 => 0
  | k + 1 => sumH l vs k + hereC l k (vs.getD k 0)
def frameS (sm : Int) (vs : List Int) (k : Nat) : Int := if 0 < k then sm * (vs.getD k 0 - vs.getD (k - 1) 0) * (vs.getD k 0 - vs.getD (k - 1) 0) else 0
def refC (sm : Int) (l : List Tgt) (vs : List Int) : Nat → Int
  | 0 => 0
  | k + 1 => refC sm l vs k + hereC l k (vs.getD k 0) + frameS sm vs k
theorem sumH_cons (x : Tgt) (l : List Tgt) (vs : List Int) : ∀ k, sumH (x :: l) vs k = sumH [x] vs k + sumH l vs k := by
  intro k
  induction k with
  | zero => rfl
  | succ k ih =>
    unfold sumH
    rw [ih, show hereC (x :: l) k (vs.getD k 0) = hereC [x] k (vs.getD k 0) + hereC l k (vs.getD k 0) by simp [hereC]]
    omega
theorem sumH_one {x : Tgt} {vs : List Int} : ∀ k, 0 ≤ x.time → sumH [x] vs k = if x.time < (k : Int) then tCost vs x else 0 := by
  intro k h0
  induction k with
  | zero => rw [if_neg (by omega)]; rfl
  | succ k ih =>
    unfold sumH
    rw [ih, show hereC [x] k (vs.getD k 0) = hereX k (vs.getD k 0) x by simp [hereC]]
    unfold hereX tCost
    by_cases h1 : x.time = (k : Int)
    · rw [if_neg (by omega), if_pos h1, if_pos (by omega), show x.time.toNat = k by omega]; omega
    · by_cases h2 : x.time < (k : Int)
      · rw [if_pos h2, if_neg h1, if_pos (by omega)]; omega
      · rw [if_neg h2, if_neg h1, if_neg (by omega)]; omega
theorem sumH_all {vs : List Int} {F : Nat} : ∀ l : List Tgt, (∀ x ∈ l, tgtOk F x = true) → sumH l vs F = tCosts l vs := by
  intro l
  induction l with
  | nil =>
    intro _
    have : ∀ k, sumH [] vs k = 0 := by
      intro k
      induction k with
      | zero => rfl
      | succ k ih => unfold sumH; rw [ih]; simp [hereC]
    rw [this]; simp [tCosts]
  | cons x l ih =>
    intro h
    obtain ⟨h0, _, _⟩ := tgtOk_in (h x List.mem_cons_self)
    rw [sumH_cons, ih (fun y hy => h y (List.mem_cons_of_mem _ hy)), sumH_one _ h0.1, if_pos (by omega)]
    simp [tCosts]
theorem refC_sum (sm : Int) (l : List Tgt) (vs : List Int) : ∀ k, refC sm l vs k = sumH l vs k + sCosts sm vs (k - 1) := by
  intro k
  induction k with
  | zero => rfl
  | succ k ih =>
    unfold refC sumH
    rw [ih]
    cases k with
    | zero => simp [frameS, sCosts]
    | succ k =>
      rw [show frameS sm vs (k + 1) = sm * (vs.getD (k + 1) 0 - vs.getD k 0) * (vs.getD (k + 1) 0 - vs.getD k 0) by unfold frameS; rw [if_pos (by omega)]; rfl]
      simp only [Nat.add_sub_cancel]
      show _ = _ + (sCosts sm vs k + _)
      omega
theorem refC_all {sm : Int} {vs : List Int} {F : Nat} (l : List Tgt) (h : ∀ x ∈ l, tgtOk F x = true) : refC sm l vs F = tCosts l vs + sCosts sm vs (F - 1) := by rw [refC_sum, sumH_all l h]
theorem refC_in {sm lo hi : Int} {vs : List Int} {F : Nat} {l : List Tgt} (h : ∀ x ∈ l, tgtOk F x = true) (hl : l.length ≤ 200) (hs : 0 ≤ sm ∧ sm ≤ 1000) (hlo : -100000 ≤ lo ∧ lo ≤ 100000) (hh : hi ≤ lo + 400) (hF : F ≤ 200) (hv : ∀ i, i < F → lo ≤ vs.getD i 0 ∧ vs.getD i 0 ≤ hi) :
    ∀ k, k ≤ F → 0 ≤ refC sm l vs k ∧ refC sm l vs k ≤ 20000200000000000 * (k : Int) := by
  intro k
  induction k with
  | zero => intro _; simp [refC]
  | succ k ih =>
    intro hk
    have h1 := ih (by omega)
    have h2 := hv k (by omega)
    have h3 := hereC_in (F := F) (t := k) (v := vs.getD k 0) (by omega) l h
    have h4 : 0 ≤ frameS sm vs k ∧ frameS sm vs k ≤ 160000000 := by
      unfold frameS
      split
      · have h5 := hv (k - 1) (by omega)
        have := wsq_in (b := 400) (c := 1000) hs (show -400 ≤ vs.getD k 0 - vs.getD (k - 1) 0 by omega) (by omega) (by omega)
        omega
      · omega
    unfold refC
    omega
end Go.Proofs.YtejcbcjhmnhefaaDoor
