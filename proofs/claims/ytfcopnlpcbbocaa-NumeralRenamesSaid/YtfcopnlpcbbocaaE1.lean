/- Contracts: a term is said. -/
import Derived.Test.YtfcopnlpcbbocaaC00
import Derived.Test.YtfcopnlpcbbocaaD2
import Derived.Test.YtfcopnlpcbbocaaD3
import Derived.Test.YtfcopnlpcbbocaaC5
import Derived.Deep.RegionHeld3
import Derived.Deep.Cut
set_option linter.unusedSimpArgs false
set_option linter.unusedVariables false
namespace Go.Proofs.Ytfcopnlpcbbocaa
open Go.RowKit
attribute [local go_sem] Oper.semAt_some

/-- One word, or none, and its reason. -/
def oneItem (S : Sys) (a : Ask) (i : Nat) (d : Int) (term gen cnt : Int) : Item := sayItem S a i d term gen cnt

theorem set3_0 {W : World} {b : Nat} {u0 u1 u2 x : Value} (h : W.cell? ⟨b, 0, none⟩ = some x) : (((W.setCell ⟨b, 0, none⟩ u0).setCell ⟨b, 1, none⟩ u1).setCell ⟨b, 2, none⟩ u2).cell? ⟨b, 0, none⟩ = some u0 := by
  rw [World.cell?_setCell_other _ _ _ _ (by simp), World.cell?_setCell_other _ _ _ _ (by simp)]
  exact World.cell?_setCell_same' _ _ _ (by rw [h]; rfl)
theorem set3_1 {W : World} {b : Nat} {u0 u1 u2 x : Value} (h : W.cell? ⟨b, 1, none⟩ = some x) : (((W.setCell ⟨b, 0, none⟩ u0).setCell ⟨b, 1, none⟩ u1).setCell ⟨b, 2, none⟩ u2).cell? ⟨b, 1, none⟩ = some u1 := by
  rw [World.cell?_setCell_other _ _ _ _ (by simp)]
  exact World.cell?_setCell_same' _ _ _ (by rw [World.cell?_setCell_other _ _ _ _ (by simp), h]; rfl)
theorem set3_2 {W : World} {b : Nat} {u0 u1 u2 x : Value} (h : W.cell? ⟨b, 2, none⟩ = some x) : (((W.setCell ⟨b, 0, none⟩ u0).setCell ⟨b, 1, none⟩ u1).setCell ⟨b, 2, none⟩ u2).cell? ⟨b, 2, none⟩ = some u2 := by
  exact World.cell?_setCell_same' _ _ _ (by rw [World.cell?_setCell_other _ _ _ _ (by simp), World.cell?_setCell_other _ _ _ _ (by simp), h]; rfl)

set_option maxRecDepth 100000 in
set_option maxHeartbeats 4000000 in
theorem sayForm_any (S : Sys) (a : Ask) (d : Int) (b sb l i : Nat) (pc : Pce) (gen cnt : Int) (W : World) (R : Ending → World → Prop) (hp : PartAt W b sb S a d) (hs : SplAt W sb S)
    (hmod : ∀ i (h : i < S.plurals.length), 1 ≤ S.plurals[i].mod) (hi : i < (ruleOf S a).pieces.length) (hpc : (ruleOf S a).pieces[i] = pc) (ht0 : 0 ≤ pc.term) (ht1 : pc.term < S.terms.length) (hcnt : 0 ≤ cnt)
    (hY : ∀ W', Below W.heap.size W W' → YieldAt Fence.wide 0 Try.prog l #[(sayItem S a i d pc.term gen cnt).1.val, .bool (sayItem S a i d pc.term gen cnt).2] W' fun e W'' => (∃ t, e = .returned (.bool t)) ∧ R e W'') :
    Calls Try.prog 93 #[.pointer (some ⟨b, 0, none⟩), .int .i64 i, .int .i64 gen, .int .i64 cnt, .func (.yield l) #[] #[]] W R := by
  have HP := Lib.hid hp
  have HS := Lib.hid hs
  obtain ⟨q0, q1, q2, q3, q4, q5, q6, q7, ⟨v, q8, hv⟩, q9, q10, q11⟩ := hp
  obtain ⟨⟨vt, vp, vs, s0, -, -, -, s4, s5, -, -, hpl, -⟩, -⟩ := hs
  simp only [Nat.zero_add] at s5 s4
  have hcl : ∀ W', Below W.heap.size W W' → Calls Try.prog 44 #[.pointer (some ⟨sb, 0, none⟩), .int .i64 cnt] W' fun e w' => e = .returned (.int .i64 (classOf cnt S.plurals)) ∧ Below W'.heap.size W' w' :=
    fun W' hB => classOf_any sb 0 S.plurals vp cnt W' (by simpa using keep hB s5) (hpl.keep PluAt.stable hB) hcnt hmod
  have hb := cell_lt q0
  have HV := Lib.hid hv
  obtain ⟨pa, pcap, rfl, hpll, -⟩ := hv
  have HPC := Lib.hid hpc
  have HY := Lib.hid hY
  have HM := Lib.hid hmod
  clear hY hpl s0 s4 s5 hpc hmod
  go_enter Try.func93, Try.ntmps93
  go_wp2_with fail
  refine wp_opaque fun Q2 hQ2 => ?_
  have K4 : ∀ W', Below W.heap.size W W' → W'.cell? ⟨b, 4, none⟩ = some (.int .i64 a.kas) := fun _ hB => keep hB q4
  have K0 : ∀ W', Below W.heap.size W W' → W'.cell? ⟨b, 0, none⟩ = some (.pointer (some ⟨sb, 0, none⟩)) := fun _ hB => keep hB q0
  have nn1 := World.new_ne W ⟨b, 4, none⟩ q4
  have nn2 := World.new_ne W ⟨b, 0, none⟩ q0
  go_region_held3 (fun w' => w'.cell? ⟨b, 4, none⟩ = some (.int .i64 a.kas) ∧ w'.cell? ⟨b, 0, none⟩ = some (.pointer (some ⟨sb, 0, none⟩))) (((try dsimp only); (repeat' apply And.intro) <;> (first | exact K4 _ (by (repeat (first | exact Below.refl _ _ | refine Below.drew ?_ | refine bAlloc ?_ _ | refine Below.setCell ?_ (by simp) _ | refine bThen ?_ hb1))) | exact K0 _ (by (repeat (first | exact Below.refl _ _ | refine Below.drew ?_ | refine bAlloc ?_ _ | refine Below.setCell ?_ (by simp) _ | refine bThen ?_ hb1)))))) (first | (go_at_call 44; refine (hcl _ (by repeat (first | exact Below.refl _ _ | refine Below.drew ?_ | refine bAlloc ?_ _))).mono ?_; rintro e w1 ⟨rfl, hb1⟩; obtain ⟨hc, hf⟩ := bcell hb1))
  · refine hQ2 _ _ _ ?_
    clear hQ2 Q2
    generalize hW : World.alloc w1 _ = Wx
    have HBx : Below W.heap.size W Wx := by rw [← hW]; exact bAlloc (bThen (Below.drew (Below.refl _ _)) hb1) _
    have f0 : Wx.cell? ⟨w1.heap.size, 0, none⟩ = some (.int .i64 gen) := by rw [← hW]; simp
    have f1 : Wx.cell? ⟨w1.heap.size, 1, none⟩ = some (.int .i64 a.kas) := by rw [← hW]; simp
    have f2 : Wx.cell? ⟨w1.heap.size, 2, none⟩ = some (.int .i64 (classOf cnt S.plurals)) := by rw [← hW]; simp
    clear hW hc hf hb1 hcl K4 K0
    generalize w1.heap.size = X at *
    go_wp2_with fail
    have HBX := bThen (Below.refl _ _) HBx
    have x0 := keep HBX q0
    have x1 := keep HBX q1
    have x2 := keep HBX q2
    have x5 := keep HBX q5
    have x8 := keep HBX q8
    have x11 := keep HBX q11
    have hbx := cell_lt x0
    have hfx := cell_lt f0
    obtain ⟨pa', pcap', heq, -, hy⟩ := HV.out.keep PceAt.stable HBX
    simp only [Value.slice.injEq, true_and] at heq
    obtain ⟨rfl, rfl⟩ := heq
    rcases hy with hnil | ⟨pb, po, rfl, hpp⟩
    · simp [hnil] at hi
    obtain ⟨p0, p1, -, -⟩ := hpp i hi
    rw [HPC.out] at p0 p1
    have hpb := cell_lt p0
    clear hpp
    have hform : ∀ x : BW Wx, Calls Try.prog 103 #[.pointer (some ⟨sb, 0, none⟩), .int .i64 pc.term, feats gen a.kas (classOf cnt S.plurals)] x.val fun e w' => e = .returned (formRes (termOf S pc.term).forms gen a.kas (classOf cnt S.plurals)) ∧ Below x.val.heap.size x.val w' :=
      fun x => form_any S pc.term gen a.kas (classOf cnt S.plurals) sb x.val (HS.out.keep (bThen HBX x.2)) ht0 ht1
    have hi0 : (0 : Int) ≤ (i : Int) := by omega
    have hi1 : (i : Int) < ((ruleOf S a).pieces.length : Int) := by omega
    have hi2 : ((i : Int)).toNat = i := by omega
    have hy := HY.out
    cases hf : formOf (termOf S pc.term).forms gen a.kas (classOf cnt S.plurals) with
    | none =>
      rw [formRes, hf] at hform
      rw [sayItem, hf] at hy
      dsimp only at hform hy
      (refine wp_region_below (by kernel_rfl) (by kernel_rfl) ?_; (repeat (first | go_big_quiet_step ((go_at_call 103; exact toB hform _)) | quiet_step ((go_at_call 103; exact toB hform _)))); (refine wpQuiet_nil ?_; intro _ hw'; obtain ⟨xq, hw''⟩ := hw'; subst hw''))
      have HBy := bThen HBX xq.2
      obtain ⟨fn, tp, as_, bd, hyy, hR⟩ := yield_any 0 (hy _ HBy)
      simp only [Said.val, noSaid] at hyy
      rw [show ByteArray.empty = { data := #[] } from rfl] at hyy
      go_upto_region 4 with (fail)
      refine wpIn_wide (n := 1).1 ?_
      gi_wp2
      refine hR.mono ?_
      rintro e W' ⟨⟨t', rfl⟩, hr⟩
      gi_wp2
      go_wp2_with fail
      exact hr
    | some t =>
      rw [formRes, hf] at hform
      rw [sayItem, hf] at hy
      dsimp only at hform hy
      (refine wp_region_below (by kernel_rfl) (by kernel_rfl) ?_; (repeat (first | go_big_quiet_step ((go_at_call 103; exact toB hform _)) | quiet_step ((go_at_call 103; exact toB hform _)))); (refine wpQuiet_nil ?_; intro _ hw'; obtain ⟨xq, hw''⟩ := hw'; subst hw''))
      have HBy := bThen HBX xq.2
      obtain ⟨fn, tp, as_, bd, hyy, hR⟩ := yield_any 0 (hy _ (HBy.drew))
      simp only [Said.val] at hyy
      have x0 := keep xq.2 x0
      have x1 := keep xq.2 x1
      have x2 := keep xq.2 x2
      have x5 := keep xq.2 x5
      have x11 := keep xq.2 x11
      have hbx := cell_lt x0
      generalize xq.val = Wy at *
      go_wp2_with fail
      refine wp_opaque fun Q2 hQ2 => ?_
      refine region_tail_in (m := 1) 22 (by kernel_rfl) (by kernel_rfl) ?_
      simp only [List.take_succ_cons, List.take_zero, List.drop_succ_cons, List.drop_zero]
      repeat still_step
      try refine wpStill_nil ?_
      change wpListIn _ _ _ _ _ _ _ (World.drew _)
      gi_wp2
      refine hR.mono ?_
      rintro e W' ⟨⟨t', rfl⟩, hr⟩
      gi_wp2
      try refine hQ2 _ _ _ ?_
      go_wp2_with fail
      exact hr
  · refine hQ2 _ _ _ ?_
    clear hQ2 Q2
    have y0 : w1.cell? ⟨W.heap.size, 0, none⟩ = some (.int .i64 0) := by rw [hc _ _ (by simp)]; simp
    have y1 : w1.cell? ⟨W.heap.size, 1, none⟩ = some (.int .i64 0) := by rw [hc _ _ (by simp)]; simp
    have y2 : w1.cell? ⟨W.heap.size, 2, none⟩ = some (.int .i64 0) := by rw [hc _ _ (by simp)]; simp
    have f0 := set3_0 (u0 := .int .i64 gen) (u1 := .int .i64 a.kas) (u2 := .int .i64 (classOf cnt S.plurals)) y0
    have f1 := set3_1 (u0 := .int .i64 gen) (u1 := .int .i64 a.kas) (u2 := .int .i64 (classOf cnt S.plurals)) y1
    have f2 := set3_2 (u0 := .int .i64 gen) (u1 := .int .i64 a.kas) (u2 := .int .i64 (classOf cnt S.plurals)) y2
    have HBx : Below W.heap.size W (((w1.setCell ⟨W.heap.size, 0, none⟩ (.int .i64 gen)).setCell ⟨W.heap.size, 1, none⟩ (.int .i64 a.kas)).setCell ⟨W.heap.size, 2, none⟩ (.int .i64 (classOf cnt S.plurals))) :=
      (((bThen (Below.drew (bAlloc (Below.refl _ _) _)) hb1).setCell (p := ⟨W.heap.size, 0, none⟩) (Nat.le_refl _) _).setCell (p := ⟨W.heap.size, 1, none⟩) (Nat.le_refl _) _).setCell (p := ⟨W.heap.size, 2, none⟩) (Nat.le_refl _) _
    generalize (((w1.setCell ⟨W.heap.size, 0, none⟩ (.int .i64 gen)).setCell ⟨W.heap.size, 1, none⟩ (.int .i64 a.kas)).setCell ⟨W.heap.size, 2, none⟩ (.int .i64 (classOf cnt S.plurals))) = Wx at *
    clear hc hf hb1 hcl K4 K0 y0 y1 y2
    go_wp2_with fail
    have HBX := bThen (Below.refl _ _) HBx
    have x0 := keep HBX q0
    have x1 := keep HBX q1
    have x2 := keep HBX q2
    have x5 := keep HBX q5
    have x8 := keep HBX q8
    have x11 := keep HBX q11
    have hbx := cell_lt x0
    have hfx := cell_lt f0
    obtain ⟨pa', pcap', heq, -, hy⟩ := HV.out.keep PceAt.stable HBX
    simp only [Value.slice.injEq, true_and] at heq
    obtain ⟨rfl, rfl⟩ := heq
    rcases hy with hnil | ⟨pb, po, rfl, hpp⟩
    · simp [hnil] at hi
    obtain ⟨p0, p1, -, -⟩ := hpp i hi
    rw [HPC.out] at p0 p1
    have hpb := cell_lt p0
    clear hpp
    have hform : ∀ x : BW Wx, Calls Try.prog 103 #[.pointer (some ⟨sb, 0, none⟩), .int .i64 pc.term, feats gen a.kas (classOf cnt S.plurals)] x.val fun e w' => e = .returned (formRes (termOf S pc.term).forms gen a.kas (classOf cnt S.plurals)) ∧ Below x.val.heap.size x.val w' :=
      fun x => form_any S pc.term gen a.kas (classOf cnt S.plurals) sb x.val (HS.out.keep (bThen HBX x.2)) ht0 ht1
    have hi0 : (0 : Int) ≤ (i : Int) := by omega
    have hi1 : (i : Int) < ((ruleOf S a).pieces.length : Int) := by omega
    have hi2 : ((i : Int)).toNat = i := by omega
    have hy := HY.out
    cases hf : formOf (termOf S pc.term).forms gen a.kas (classOf cnt S.plurals) with
    | none =>
      rw [formRes, hf] at hform
      rw [sayItem, hf] at hy
      dsimp only at hform hy
      (refine wp_region_below (by kernel_rfl) (by kernel_rfl) ?_; (repeat (first | go_big_quiet_step ((go_at_call 103; exact toB hform _)) | quiet_step ((go_at_call 103; exact toB hform _)))); (refine wpQuiet_nil ?_; intro _ hw'; obtain ⟨xq, hw''⟩ := hw'; subst hw''))
      have HBy := bThen HBX xq.2
      obtain ⟨fn, tp, as_, bd, hyy, hR⟩ := yield_any 0 (hy _ HBy)
      simp only [Said.val, noSaid] at hyy
      rw [show ByteArray.empty = { data := #[] } from rfl] at hyy
      go_upto_region 4 with (fail)
      refine wpIn_wide (n := 1).1 ?_
      gi_wp2
      refine hR.mono ?_
      rintro e W' ⟨⟨t', rfl⟩, hr⟩
      gi_wp2
      go_wp2_with fail
      exact hr
    | some t =>
      rw [formRes, hf] at hform
      rw [sayItem, hf] at hy
      dsimp only at hform hy
      (refine wp_region_below (by kernel_rfl) (by kernel_rfl) ?_; (repeat (first | go_big_quiet_step ((go_at_call 103; exact toB hform _)) | quiet_step ((go_at_call 103; exact toB hform _)))); (refine wpQuiet_nil ?_; intro _ hw'; obtain ⟨xq, hw''⟩ := hw'; subst hw''))
      have HBy := bThen HBX xq.2
      obtain ⟨fn, tp, as_, bd, hyy, hR⟩ := yield_any 0 (hy _ (HBy.drew))
      simp only [Said.val] at hyy
      have x0 := keep xq.2 x0
      have x1 := keep xq.2 x1
      have x2 := keep xq.2 x2
      have x5 := keep xq.2 x5
      have x11 := keep xq.2 x11
      have hbx := cell_lt x0
      generalize xq.val = Wy at *
      go_wp2_with fail
      refine wp_opaque fun Q2 hQ2 => ?_
      refine region_tail_in (m := 1) 22 (by kernel_rfl) (by kernel_rfl) ?_
      simp only [List.take_succ_cons, List.take_zero, List.drop_succ_cons, List.drop_zero]
      repeat still_step
      try refine wpStill_nil ?_
      change wpListIn _ _ _ _ _ _ _ (World.drew _)
      gi_wp2
      refine hR.mono ?_
      rintro e W' ⟨⟨t', rfl⟩, hr⟩
      gi_wp2
      try refine hQ2 _ _ _ ?_
      go_wp2_with fail
      exact hr
end Go.Proofs.Ytfcopnlpcbbocaa
/- Contracts: what a piece says, where it is a term. -/
namespace Go.Proofs.Ytfcopnlpcbbocaa
open Go.RowKit
attribute [local go_sem] Oper.semAt_some

/-- A bool is handed back, and R holds. -/
def AndBool (R : Ending → World → Prop) (e : Ending) (w : World) : Prop := (∃ t, e = .returned (.bool t)) ∧ R e w

set_option maxRecDepth 100000 in
set_option maxHeartbeats 4000000 in
theorem sayTerm_any (S : Sys) (a : Ask) (d : Int) (b sb l i : Nat) (pc : Pce) (W : World) (R : Ending → World → Prop) (hp : PartAt W b sb S a d) (hs : SplAt W sb S)
    (hmod : ∀ i (h : i < S.plurals.length), 1 ≤ S.plurals[i].mod) (hi : i < (ruleOf S a).pieces.length) (hpc : (ruleOf S a).pieces[i] = pc) (ht0 : 0 ≤ pc.term) (ht1 : pc.term < S.terms.length) (hcnt : 0 ≤ a.num)
    (hY : ∀ W', Below W.heap.size W W' → YieldAt Fence.wide 0 Try.prog l #[(sayItem S a i d pc.term a.gen a.num).1.val, .bool (sayItem S a i d pc.term a.gen a.num).2] W' (AndBool R)) :
    Calls Try.prog 70 #[.pointer (some ⟨b, 0, none⟩), .int .i64 i, .func (.yield l) #[] #[]] W (AndBool R) := by
  have HP := Lib.hid hp
  have HS := Lib.hid hs
  have HY := Lib.hid hY
  have HM := Lib.hid hmod
  have HPC := Lib.hid hpc
  obtain ⟨q0, q1, q2, q3, q4, q5, q6, q7, -, q9, q10, q11⟩ := hp
  have hb := cell_lt q0
  clear hY hmod hpc hs
  go_enter Try.func70, Try.ntmps70
  go_wp2_with fail
  refine wp_opaque fun Q2 hQ2 => ?_
  go_still_tail 13, (by kernel_rfl)
  change wpList _ _ _ _ _ (World.drew _)
  have hB : Below W.heap.size W W.drew := (Below.refl _ _).drew
  generalize W.drew = W1 at *
  have hcall := sayForm_any S a d b sb l i pc a.gen a.num W1 (AndBool R) (HP.out.keep hB) (HS.out.keep hB) HM.out hi HPC.out ht0 ht1 hcnt (fun W' hB' => YieldAt.mono (HY.out W' (bThen hB hB')) fun e w h => ⟨h.1, h⟩)
  go_wp2_with (go_at_call 93; refine hcall.mono ?_; clear hcall; rintro e w1 ⟨⟨t, rfl⟩, hr⟩)
  go_ret
  exact ⟨⟨t, rfl⟩, hr⟩

set_option maxRecDepth 100000 in
set_option maxHeartbeats 4000000 in
theorem sayCounted_any (S : Sys) (a : Ask) (d : Int) (b sb l i : Nat) (pc : Pce) (W : World) (R : Ending → World → Prop) (hp : PartAt W b sb S a d) (hs : SplAt W sb S)
    (hmod : ∀ i (h : i < S.plurals.length), 1 ≤ S.plurals[i].mod) (hi : i < (ruleOf S a).pieces.length) (hpc : (ruleOf S a).pieces[i] = pc) (ht0 : 0 ≤ pc.term) (ht1 : pc.term < S.terms.length) (hcnt : 0 ≤ quo (ruleOf S a) a.num)
    (hY : ∀ W', Below W.heap.size W W' → YieldAt Fence.wide 0 Try.prog l #[(sayItem S a i d pc.term (termOf S pc.term).gen (quo (ruleOf S a) a.num)).1.val, .bool (sayItem S a i d pc.term (termOf S pc.term).gen (quo (ruleOf S a) a.num)).2] W' (AndBool R)) :
    Calls Try.prog 71 #[.pointer (some ⟨b, 0, none⟩), .int .i64 i, .func (.yield l) #[] #[]] W (AndBool R) := by
  have HP := Lib.hid hp
  have HS := Lib.hid hs
  have HY := Lib.hid hY
  have HM := Lib.hid hmod
  have HPC := Lib.hid hpc
  obtain ⟨q0, q1, q2, q3, q4, q5, q6, q7, ⟨v, q8, hv⟩, q9, q10, q11⟩ := hp
  obtain ⟨⟨vt, _, _, s0, -, -, -, s4, -, -, hts, -⟩, -⟩ := hs
  simp only [Nat.zero_add] at s4
  obtain ⟨ta, tc, rfl, htl, hx⟩ := hts
  obtain ⟨pa, pcap, rfl, hpl, hy⟩ := hv
  unfold most at htl hpl
  have hat : pc.term.toNat < S.terms.length := by omega
  rcases hx with hnil | ⟨tb, to, rfl, hf⟩
  · simp [hnil] at hat
  rcases hy with hnil | ⟨pb, po, rfl, hpp⟩
  · simp [hnil] at hi
  obtain ⟨t0, -⟩ := hf pc.term.toNat hat
  have e1 : S.terms[pc.term.toNat] = termOf S pc.term := by simp [termOf, List.getElem?_eq_getElem hat]
  rw [e1] at t0
  obtain ⟨p0, p1, -, -⟩ := hpp i hi
  rw [HPC.out] at p0 p1
  have hb := cell_lt q0
  have hsb := cell_lt s4
  have htb := cell_lt t0
  have hpb := cell_lt p0
  have hi0 : (0 : Int) ≤ (i : Int) := by omega
  have hi1 : (i : Int) < ((ruleOf S a).pieces.length : Int) := by omega
  have hi2 : ((i : Int)).toNat = i := by omega
  clear hY hmod hpc e1 hf hpp
  go_enter Try.func71, Try.ntmps71
  go_wp2_with fail
  refine wp_opaque fun Q2 hQ2 => ?_
  go_still_tail 27, (by kernel_rfl)
  change wpList _ _ _ _ _ (World.drew _)
  have hB : Below W.heap.size W W.drew := (Below.refl _ _).drew
  generalize W.drew = W1 at *
  have hcall := sayForm_any S a d b sb l i pc (termOf S pc.term).gen (quo (ruleOf S a) a.num) W1 (AndBool R) (HP.out.keep hB) (HS.out.keep hB) HM.out hi HPC.out ht0 ht1 hcnt (fun W' hB' => YieldAt.mono (HY.out W' (bThen hB hB')) fun e w h => ⟨h.1, h⟩)
  go_wp2_with (go_at_call 93; refine hcall.mono ?_; clear hcall; rintro e w1 ⟨⟨t, rfl⟩, hr⟩)
  go_ret
  exact ⟨⟨t, rfl⟩, hr⟩

set_option maxRecDepth 100000 in
set_option maxHeartbeats 4000000 in
/-- A link: nothing is said where there is no rest, or it is too great. -/
theorem sayLink_any (S : Sys) (a : Ask) (d : Int) (b sb l i : Nat) (pc : Pce) (W : World) (R : Ending → World → Prop) (hp : PartAt W b sb S a d) (hs : SplAt W sb S)
    (hmod : ∀ i (h : i < S.plurals.length), 1 ≤ S.plurals[i].mod) (hi : i < (ruleOf S a).pieces.length) (hpc : (ruleOf S a).pieces[i] = pc) (ht0 : 0 ≤ pc.term) (ht1 : pc.term < S.terms.length) (hcnt : 0 ≤ rst (ruleOf S a) a.num)
    (hno : (rst (ruleOf S a) a.num = 0 ∨ (pc.below ≠ 0 ∧ pc.below ≤ rst (ruleOf S a) a.num)) → R (.returned (.bool true)) W)
    (hY : ¬ (rst (ruleOf S a) a.num = 0 ∨ (pc.below ≠ 0 ∧ pc.below ≤ rst (ruleOf S a) a.num)) → ∀ W', Below W.heap.size W W' → YieldAt Fence.wide 0 Try.prog l #[(sayItem S a i d pc.term a.gen (rst (ruleOf S a) a.num)).1.val, .bool (sayItem S a i d pc.term a.gen (rst (ruleOf S a) a.num)).2] W' (AndBool R)) :
    Calls Try.prog 74 #[.pointer (some ⟨b, 0, none⟩), .int .i64 i, .func (.yield l) #[] #[]] W (AndBool R) := by
  have HP := Lib.hid hp
  have HS := Lib.hid hs
  have HY := Lib.hid hY
  have HN := Lib.hid hno
  have HM := Lib.hid hmod
  have HPC := Lib.hid hpc
  obtain ⟨q0, q1, q2, q3, q4, q5, q6, q7, ⟨v, q8, hv⟩, q9, q10, q11⟩ := hp
  obtain ⟨pa, pcap, rfl, hpl, hy⟩ := hv
  unfold most at hpl
  rcases hy with hnil | ⟨pb, po, rfl, hpp⟩
  · simp [hnil] at hi
  obtain ⟨p0, p1, p2, p3⟩ := hpp i hi
  rw [HPC.out] at p0 p1 p2 p3
  have hb := cell_lt q0
  have hpb := cell_lt p0
  have hi0 : (0 : Int) ≤ (i : Int) := by omega
  have hi1 : (i : Int) < ((ruleOf S a).pieces.length : Int) := by omega
  have hi2 : ((i : Int)).toNat = i := by omega
  clear hY hmod hpc hno hs hpp
  by_cases h0 : rst (ruleOf S a) a.num = 0
  · have h0' : (rst (ruleOf S a) a.num == 0) = true := by simp [h0]
    have H0 := Lib.hid h0
    clear h0
    go_enter Try.func74, Try.ntmps74
    go_wp2_with fail
    go_ret
    exact ⟨⟨_, rfl⟩, HN.out (.inl H0.out)⟩
  have h0' : (rst (ruleOf S a) a.num == 0) = false := by simp [h0]
  by_cases h1 : pc.below ≠ 0 ∧ pc.below ≤ rst (ruleOf S a) a.num
  · have h1' : (pc.below != 0) = true := by simp [h1.1]
    have h2 := h1.2
    have H1 := Lib.hid h1
    clear h1 h0
    go_enter Try.func74, Try.ntmps74
    go_wp2_with fail
    go_ret
    exact ⟨⟨_, rfl⟩, HN.out (.inr H1.out)⟩
  have hgo : ¬ (rst (ruleOf S a) a.num = 0 ∨ (pc.below ≠ 0 ∧ pc.below ≤ rst (ruleOf S a) a.num)) := fun h => h.elim h0 h1
  have HYY := Lib.hid (HY.out hgo)
  clear hgo
  by_cases h2 : pc.below = 0
  · have h1' : (pc.below != 0) = false := by simp [h2]
    clear h1 h0 h2
    go_enter Try.func74, Try.ntmps74
    go_wp2_with fail
    refine wp_opaque fun Q2 hQ2 => ?_
    go_still_tail 12, (by kernel_rfl)
    change wpList _ _ _ _ _ (World.drew _)
    have hB : Below W.heap.size W W.drew := (Below.refl _ _).drew
    generalize W.drew = W1 at *
    have hcall := sayForm_any S a d b sb l i pc a.gen (rst (ruleOf S a) a.num) W1 (AndBool R) (HP.out.keep hB) (HS.out.keep hB) HM.out hi HPC.out ht0 ht1 hcnt (fun W' hB' => YieldAt.mono (HYY.out W' (bThen hB hB')) fun e w h => ⟨h.1, h⟩)
    go_wp2_with (go_at_call 93; refine hcall.mono ?_; clear hcall; rintro e w1 ⟨⟨t, rfl⟩, hr⟩)
    go_ret
    exact ⟨⟨t, rfl⟩, hr⟩
  · have h1' : (pc.below != 0) = true := by simp [h2]
    have h3 : ¬ pc.below ≤ rst (ruleOf S a) a.num := fun h => h1 ⟨h2, h⟩
    clear h1 h0 h2
    go_enter Try.func74, Try.ntmps74
    go_wp2_with fail
    refine wp_opaque fun Q2 hQ2 => ?_
    go_still_tail 12, (by kernel_rfl)
    change wpList _ _ _ _ _ (World.drew _)
    have hB : Below W.heap.size W W.drew := (Below.refl _ _).drew
    generalize W.drew = W1 at *
    have hcall := sayForm_any S a d b sb l i pc a.gen (rst (ruleOf S a) a.num) W1 (AndBool R) (HP.out.keep hB) (HS.out.keep hB) HM.out hi HPC.out ht0 ht1 hcnt (fun W' hB' => YieldAt.mono (HYY.out W' (bThen hB hB')) fun e w h => ⟨h.1, h⟩)
    go_wp2_with (go_at_call 93; refine hcall.mono ?_; clear hcall; rintro e w1 ⟨⟨t, rfl⟩, hr⟩)
    go_ret
    exact ⟨⟨t, rfl⟩, hr⟩
end Go.Proofs.Ytfcopnlpcbbocaa
