/- Contracts: what a shift of a value costs. -/
import Derived.Test.YtejcbcjhmnhefaaDoorM7
import Derived.Test.YtejcbcjhmnhefaaDoorT0
set_option linter.unusedSimpArgs false
set_option linter.unusedVariables false
namespace Go.Proofs.YtejcbcjhmnhefaaDoor
open Go.RowKit

def movX (vs : List Int) (d : Int) (i : Nat) (x : Tgt) : Int := if x.time = (i : Int) then x.weight * (2 * d * (vs.getD i 0 - x.value) + 1) else 0
def movC (l : List Tgt) (vs : List Int) (d : Int) (i : Nat) : Int := (l.map (movX vs d i)).sum
theorem movC_succ (l : List Tgt) (vs : List Int) (d : Int) (i n : Nat) (h : n < l.length) : movC (l.take (n + 1)) vs d i = movC (l.take n) vs d i + movX vs d i l[n] := by
  unfold movC; rw [take_succ l n h, List.map_append, List.sum_append]; simp
theorem movX_in {F : Int} {vs : List Int} {d : Int} {i : Nat} {x : Tgt} (hd : d = 1 ∨ d = -1) (hv : -100000 ≤ vs.getD i 0 ∧ vs.getD i 0 ≤ 100400) (h : tgtOk F x = true) : -1000000000 ≤ movX vs d i x ∧ movX vs d i x ≤ 1000000000 := by
  obtain ⟨_, hx, hw⟩ := tgtOk_in h
  unfold movX
  split
  · have := mul_in (A := 1000) (B := 1000000) (show -1000 ≤ x.weight by omega) (by omega) (show -1000000 ≤ 2 * d * (vs.getD i 0 - x.value) + 1 by rcases hd with rfl | rfl <;> omega) (by rcases hd with rfl | rfl <;> omega)
    omega
  · omega
theorem movC_in {F : Int} {vs : List Int} {d : Int} {i : Nat} (hd : d = 1 ∨ d = -1) (hv : -100000 ≤ vs.getD i 0 ∧ vs.getD i 0 ≤ 100400) : ∀ l : List Tgt, (∀ x ∈ l, tgtOk F x = true) → -1000000000 * (l.length : Int) ≤ movC l vs d i ∧ movC l vs d i ≤ 1000000000 * (l.length : Int) := by
  intro l
  induction l with
  | nil => intro _; simp [movC]
  | cons x l ih =>
    intro h
    have h3 := ih fun y hy => h y (List.mem_cons_of_mem _ hy)
    have h4 := movX_in (i := i) hd hv (h x List.mem_cons_self)
    have h5 : movC (x :: l) vs d i = movX vs d i x + movC l vs d i := by simp [movC]
    rw [h5, List.length_cons]
    omega

set_option maxRecDepth 100000 in
set_option maxHeartbeats 16000000 in
theorem moved_any (F : Nat) (lo hi sl sm d : Int) (ts : List Tgt) (vs : List Int) (tv vv : Value) (w : World) (hF : 1 ≤ F) (hF2 : F ≤ 200) (hlo : -100000 ≤ lo ∧ lo ≤ 100000) (hhi : hi ≤ lo + 400) (hd : d = 1 ∨ d = -1)
    (hts : ∀ x ∈ ts, tgtOk F x = true) (htl : ts.length ≤ 200) (hv : SliceV w tv 3 TgtAt ts) (hvl : vs.length = F) (hvs : ∀ i, i < F → lo ≤ vs.getD i 0 ∧ vs.getD i 0 ≤ hi) (hu : SliceV w vv 1 IntAt vs) :
    Calls Tryd.prog 79 #[.agg #[.int .i64 (F : Int), .int .i64 lo, .int .i64 hi, .int .i64 sl, .int .i64 sm, tv], vv, .int .i64 d] w
      fun e w' => ∃ g : Nat, w.heap.size ≤ g ∧ e = .returned (.slice (some ⟨g, 0, none⟩) F F) ∧ w'.rowIs g 3 F (fun i => .int .i64 (movC ts vs d i)) ∧ Below w.heap.size w w' := by
  have HV := Lib.hid hv
  have HU := Lib.hid hu
  have HVS := Lib.hid hvs
  have HTS := Lib.hid hts
  obtain ⟨ta, tc, rfl, -, -⟩ := hv
  obtain ⟨va, vc, rfl, -, -⟩ := hu
  have HMI : Hid (∀ i n, i < F → -200000000000 ≤ movC (ts.take n) vs d i ∧ movC (ts.take n) vs d i ≤ 200000000000) := Lib.hid fun i n hi => by
    have h1 := hvs i hi
    have h := movC_in (F := F) (vs := vs) (i := i) hd (by omega) (ts.take n) (fun x hx => hts x (List.mem_of_mem_take hx))
    have := List.length_take_le' n ts; omega
  obtain ⟨vb, vo, rfl, hy⟩ := HU.out.at (by intro h; simp [h] at hvl; omega)
  have HX : Hid (∀ i, i < F → w.cell? ⟨vb, vo + i, none⟩ = some (.int .i64 (vs.getD i 0))) := Lib.hid fun i hi => by
    have h := hy i (by omega)
    rw [Nat.mul_one] at h
    rw [getD_at (by omega)]; exact h
  rw [hvl] at HU ⊢
  have hk34 := make34 F (by omega)
  have HD := Lib.hid hd
  clear hts hvl hvs hy hd
  obtain ⟨b2, hb2⟩ : ∃ b2, b2 = w.heap.size := ⟨_, rfl⟩
  go_enter Tryd.func79, Tryd.ntmps79
  go_wp2_with fail
  rw [← hb2]
  generalize hW4 : World.alloc (World.alloc w _) _ = W4
  have hB4 : Below w.heap.size w W4 := by rw [← hW4]; exact bAlloc (bAlloc (Below.refl _ _) _) _
  obtain ⟨gs, hgs⟩ : ∃ gs, gs = b2 + 1 := ⟨_, rfl⟩
  rw [← hgs]
  have hrs : W4.rowIs gs 3 F (fun i => .int .i64 (movC (ts.take 0) vs d i)) := by
    have h := World.rowIs_made (w.alloc (.cells #[.int .i64 (F : Int), .int .i64 lo, .int .i64 hi, .int .i64 sl, .int .i64 sm, .slice ta ts.length tc] 43)) (.int .i64 0) F 3
    rw [World.size_alloc, ← hb2, ← hgs, hW4] at h
    exact h.congr fun i _ => by simp [movC]
  obtain ⟨B, hB⟩ : ∃ B, B = W4.heap.size := ⟨_, rfl⟩
  have hgB : gs < B := by rw [hB]; exact hrs.lt
  have HB := Lib.hid hB
  have HRS := Lib.hid hrs
  have HB4 := Lib.hid hB4
  have hgw : w.heap.size < gs := by omega
  have HBK : Hid (∀ W', Kp2 B gs gs W4 W' → Below w.heap.size w W') := Lib.hid fun W' hK => HB4.out.trans ⟨hK.os, hK.tape, hK.output, hK.size, fun j hj => hK.block j (by omega) (by omega) (by omega)⟩
  clear hW4 hB4 hrs hB hk34 hb2 hgs
  go_loopw [16] (fun i wr => ∃ n : Nat, n ≤ ts.length ∧ i = .int .i64 n ∧ Hid (wr.rowIs gs 3 F (fun i => .int .i64 (movC (ts.take n) vs d i))) ∧ Hid (Kp2 B gs gs W4 wr)) (fun i _ => ts.length - (intOf i).toNat)
  case atStart => exact ⟨0, Nat.zero_le _, rfl, HRS, Lib.hid (Kp2.refl _ _ _ _)⟩
  case round =>
    obtain ⟨n, hn, rfl, HRS, HK⟩ := hrel
    by_cases hlt : n < ts.length
    · have hbw := HBK.out wr HK.out
      obtain ⟨tb, tof, rfl, c0, c1, c2⟩ := tgt_at (HV.out.keep TgtAt.stable hbw) hlt
      have hyo := tgtOk_in (HTS.out ts[n] (List.getElem_mem hlt))
      have hlb := cell_lt c0
      obtain ⟨tt, htt⟩ : ∃ tt : Nat, ts[n].time = (tt : Int) := ⟨ts[n].time.toNat, by omega⟩
      have htF : tt < F := by omega
      have ev := keep hbw (HX.out tt htF)
      have hlv := cell_lt ev
      have e0 := HRS.out.cell (i := tt) htF
      have z0 := HRS.out.frozen tt
      have hls := HRS.out.lt
      have hm := HMI.out tt n htF
      have hu := HVS.out tt htF
      have HNX : Hid (∀ W' : World, W'.rowIs gs 3 F (fun i => .int .i64 (movC (ts.take n) vs d i)) → (W'.setCell ⟨gs, tt, none⟩ (.int .i64 (movC (ts.take n) vs d tt + ts[n].weight * (2 * d * (vs.getD tt 0 - ts[n].value) + 1)))).rowIs gs 3 F (fun i => .int .i64 (movC (ts.take (n + 1)) vs d i))) := Lib.hid fun W' h => (h.set tt _).congr fun j _ => by
        rw [movC_succ ts vs d j n hlt]
        unfold movX
        by_cases hj : j = tt
        · subst hj; rw [if_pos rfl, if_pos htt]
        · rw [if_neg hj, if_neg (by omega), Int.add_zero]
      rw [htt] at c0
      have hbsz : B ≤ wr.heap.size := by have := HK.out.size; have := HB.out; omega
      have HBA := Lib.hid (bAlloc (Below.refl wr.heap.size wr) (.cells #[.int .i64 (tt : Int), .int .i64 ts[n].value, .int .i64 ts[n].weight] 54))
      clear hbw htt
      generalize movC (ts.take n) vs d tt = od at *
      generalize vs.getD tt 0 = u at *
      generalize ts[n] = y at *
      have hd := HD.out
      have i3 : (tt : Int) < (F : Int) := by omega
      have w1 : IntKind.i64.wrap (2 * d) = 2 * d := IntWalk.i64_in _ (by omega)
      have w2 : IntKind.i64.wrap (u - y.value) = u - y.value := IntWalk.i64_in _ (by omega)
      have hb3 : -1000000 ≤ 2 * d * (u - y.value) + 1 ∧ 2 * d * (u - y.value) + 1 ≤ 1000000 := by rcases hd with rfl | rfl <;> omega
      have w3 : IntKind.i64.wrap (2 * d * (u - y.value)) = 2 * d * (u - y.value) := IntWalk.i64_in _ (by omega)
      have w4 : IntKind.i64.wrap (2 * d * (u - y.value) + 1) = 2 * d * (u - y.value) + 1 := IntWalk.i64_in _ (by omega)
      have hm1 := mul_in (A := 1000) (B := 1000000) (show -1000 ≤ y.weight by omega) (by omega) hb3.1 hb3.2
      have w5 : IntKind.i64.wrap (y.weight * (2 * d * (u - y.value) + 1)) = y.weight * (2 * d * (u - y.value) + 1) := IntWalk.i64_in _ (by omega)
      have w6 : IntKind.i64.wrap (od + y.weight * (2 * d * (u - y.value) + 1)) = od + y.weight * (2 * d * (u - y.value) + 1) := IntWalk.i64_in _ (by omega)
      clear hd hm1 hb3
      go_wp2_with fail
      refine wp_opaque fun Q2 hQ2 => ?_
      (refine region_below_tail 22 (by kernel_rfl) (by kernel_rfl) ?_; (simp only [List.take_succ_cons, List.take_zero, List.drop_succ_cons, List.drop_zero]); (repeat (first | go_big_quiet_step ((fail)) | quiet_step ((fail)))); (refine wpQuiet_nil ?_; intro _ hw'; obtain ⟨xq, hw''⟩ := hw'; subst hw''))
      have hbx := bThen HBA.out xq.2
      have d0 := keep hbx e0
      have y0 := (HRS.out.of_block (hbx.block gs hls)).frozen tt
      have HRS2 := Lib.hid (HNX.out _ (HRS.out.of_block (hbx.block gs hls)))
      have HK2 : Hid (Kp2 B gs gs W4 (xq.val.setCell ⟨gs, tt, none⟩ (.int .i64 (od + y.weight * (2 * d * (u - y.value) + 1))))) := Lib.hid ((HK.out.trans (Kp2.of_below (hbx.mono hbsz))).trans (Kp2.setCell (.inl rfl)))
      clear hbx
      go_wp2_with fail
      go_roundw
      case rel =>
        first
          | exact ⟨n + 1, by omega, by go_num, HRS2, HK2⟩
          | ((repeat apply Exists.intro); refine ⟨?_, rfl⟩; exact ⟨n + 1, by omega, by go_num, HRS2, HK2⟩)
      case measure => simp [intOf]; omega
    · obtain rfl : n = ts.length := by omega
      rw [List.take_length] at HRS
      have HBF := Lib.hid (HBK.out wr HK.out)
      go_wp2_with fail
      go_ret
      exact ⟨gs, by omega, rfl, HRS.out, HBF.out⟩
end Go.Proofs.YtejcbcjhmnhefaaDoor
