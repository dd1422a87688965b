/- Contracts: a number that its rule takes apart. -/
import Derived.Test.YtfcopnlpcbbocaaD1
import Derived.Test.YtfcopnlpcbbocaaC7
import Derived.Test.YtfcopnlpcbbocaaP1
import Derived.StillTailTactics
import Derived.Deep.Cut
import Derived.Deep.RegionHeld3
set_option linter.unusedSimpArgs false
set_option linter.unusedVariables false
namespace Go.Proofs.Ytfcopnlpcbbocaa
open Go.RowKit

/-- A number that its rule takes apart, in twelve cells. -/
def PartAt (w : World) (b sb : Nat) (S : Sys) (a : Ask) (d : Int) : Prop :=
  w.cell? ⟨b, 0, none⟩ = some (.pointer (some ⟨sb, 0, none⟩)) ∧ w.cell? ⟨b, 1, none⟩ = some (.int .i64 a.num) ∧ w.cell? ⟨b, 2, none⟩ = some (.int .i64 a.set) ∧ w.cell? ⟨b, 3, none⟩ = some (.int .i64 a.gen) ∧ w.cell? ⟨b, 4, none⟩ = some (.int .i64 a.kas) ∧
  w.cell? ⟨b, 5, none⟩ = some (.int .i64 (idxOf S a)) ∧ w.cell? ⟨b, 6, none⟩ = some (.int .i64 (ruleOf S a).base) ∧ w.cell? ⟨b, 7, none⟩ = some (.int .i64 (ruleOf S a).div) ∧ (∃ v, w.cell? ⟨b, 8, none⟩ = some v ∧ SliceV w v 4 PceAt (ruleOf S a).pieces) ∧
  w.cell? ⟨b, 9, none⟩ = some (.int .i64 (quo (ruleOf S a) a.num)) ∧ w.cell? ⟨b, 10, none⟩ = some (.int .i64 (rst (ruleOf S a) a.num)) ∧ w.cell? ⟨b, 11, none⟩ = some (.int .i64 d)
theorem PartAt.keep {w w' : World} {b sb : Nat} {S : Sys} {a : Ask} {d : Int} (hB : Below w.heap.size w w') : PartAt w b sb S a d → PartAt w' b sb S a d :=
  fun ⟨h0, h1, h2, h3, h4, h5, h6, h7, ⟨v, h8, h8'⟩, h9, h10, h11⟩ =>
    ⟨Ytfcopnlpcbbocaa.keep hB h0, Ytfcopnlpcbbocaa.keep hB h1, Ytfcopnlpcbbocaa.keep hB h2, Ytfcopnlpcbbocaa.keep hB h3, Ytfcopnlpcbbocaa.keep hB h4, Ytfcopnlpcbbocaa.keep hB h5, Ytfcopnlpcbbocaa.keep hB h6, Ytfcopnlpcbbocaa.keep hB h7,
      ⟨v, Ytfcopnlpcbbocaa.keep hB h8, h8'.keep PceAt.stable hB⟩, Ytfcopnlpcbbocaa.keep hB h9, Ytfcopnlpcbbocaa.keep hB h10, Ytfcopnlpcbbocaa.keep hB h11⟩

theorem cell_other {w : World} {b b' o o' : Nat} (h : b ≠ b') (v : Value) : (w.setCell ⟨b', o', none⟩ v).cell? ⟨b, o, none⟩ = w.cell? ⟨b, o, none⟩ := by
  have := Below.heap_setCell w ⟨b', o', none⟩ v b h
  simp [World.cell?, this]
/-- The type of a block of cells. -/
def TypAt (w : World) (b t : Nat) : Prop := ∃ c fr, w.heap[b]? = some (.cells c t fr)
theorem TypAt.setCell {w : World} {b t : Nat} (h : TypAt w b t) (a : Addr) (v : Value) : TypAt (w.setCell a v) b t := by
  obtain ⟨c, fr, h⟩ := h
  simp only [TypAt, World.setCell, Array.getElem?_modify, h]
  split
  · exact ⟨_, _, rfl⟩
  · exact ⟨_, _, rfl⟩
theorem set2 {W : World} {b : Nat} {u v : Value} (j : Nat) (h9 : j ≠ 9) (h10 : j ≠ 10) : ((W.setCell ⟨b, 9, none⟩ u).setCell ⟨b, 10, none⟩ v).drew.cell? ⟨b, j, none⟩ = W.cell? ⟨b, j, none⟩ := by
  show ((W.setCell ⟨b, 9, none⟩ u).setCell ⟨b, 10, none⟩ v).cell? ⟨b, j, none⟩ = _
  rw [World.cell?_setCell_other _ _ _ _ (by first | (simp; done) | (simp; omega)), World.cell?_setCell_other _ _ _ _ (by first | (simp; done) | (simp; omega))]
theorem set2_9 {W : World} {b : Nat} {u v x : Value} (h : W.cell? ⟨b, 9, none⟩ = some x) : ((W.setCell ⟨b, 9, none⟩ u).setCell ⟨b, 10, none⟩ v).drew.cell? ⟨b, 9, none⟩ = some u := by
  show ((W.setCell ⟨b, 9, none⟩ u).setCell ⟨b, 10, none⟩ v).cell? ⟨b, 9, none⟩ = _
  rw [World.cell?_setCell_other _ _ _ _ (by simp)]
  exact World.cell?_setCell_same' _ _ _ (by rw [h]; rfl)
theorem set2_10 {W : World} {b : Nat} {u v x : Value} (h : W.cell? ⟨b, 10, none⟩ = some x) : ((W.setCell ⟨b, 9, none⟩ u).setCell ⟨b, 10, none⟩ v).drew.cell? ⟨b, 10, none⟩ = some v := by
  show ((W.setCell ⟨b, 9, none⟩ u).setCell ⟨b, 10, none⟩ v).cell? ⟨b, 10, none⟩ = _
  exact World.cell?_setCell_same' _ _ _ (by rw [World.cell?_setCell_other _ _ _ _ (by simp), h]; rfl)
set_option maxRecDepth 100000 in
set_option maxHeartbeats 4000000 in
theorem takeApart_any (S : Sys) (a : Ask) (d : Int) (sb : Nat) (w0 w : World) (hB0 : Below w0.heap.size w0 w) (hs : SplAt w0 sb S) (hS : Right S) (ha : AskRight S a) :
    Calls Try.prog 88 #[.pointer (some ⟨sb, 0, none⟩), a.val, .int .i64 d] w fun e w' => (∃ b, e = .returned (.pointer (some ⟨b, 0, none⟩)) ∧ PartAt w' b sb S a d ∧ TypAt w' b 152 ∧ ∃ v, w'.cell? ⟨b, 8, none⟩ = some v ∧ SliceV w0 v 4 PceAt (ruleOf S a).pieces) ∧ Below w.heap.size w w' := by
  obtain ⟨l, hl1, hl2, hl3, hix, hrule, hrr⟩ := rule_right hS ha
  obtain ⟨⟨_, _, vs, h0, h1, h2, h3, h4, h5, h6, -, -, hset⟩, -⟩ := hs
  simp only [Nat.zero_add] at h1 h2 h3 h4 h5 h6
  have hsb := cell_lt h0
  obtain ⟨sa, sc, rfl, hsl, hx⟩ := hset
  have hai := ha.set
  have hat : a.set.toNat < S.sets.length := by omega
  rcases hx with hnil | ⟨fb, fo, rfl, hf⟩
  · simp [hnil] at hat
  obtain ⟨v, c0, hv⟩ := hf a.set.toNat hat
  have e1 : S.sets[a.set.toNat] = l := by rw [List.getElem?_eq_getElem hat] at hl1; exact Option.some.inj hl1
  rw [e1] at hv
  have HV := Lib.hid hv
  obtain ⟨la, lc, rfl, hll, -⟩ := hv
  have hfb := cell_lt c0
  simp only [Nat.mul_one] at c0
  have h0 := keep hB0 h0
  have h6 := keep hB0 h6
  have c0 := keep hB0 c0
  have hsb := cell_lt h0
  have hfb := cell_lt c0
  unfold most at hsl
  have hll := hl3.few
  clear hf e1 h1 h2 h3 h4 h5
  unfold Ask.val
  obtain ⟨hn, htop, ⟨hs1, hs2⟩, -, -⟩ := ha
  go_enter Try.func88, Try.ntmps88
  go_wp2_with fail
  generalize hW : World.alloc w _ = W0
  have HB0 : Below w.heap.size w W0 := by rw [← hW]; exact bAlloc (Below.refl _ _) _
  have q0 : W0.cell? ⟨w.heap.size, 0, none⟩ = some (.int .i64 a.num) := by rw [← hW]; simp
  have q1 : W0.cell? ⟨w.heap.size, 1, none⟩ = some (.int .i64 a.set) := by rw [← hW]; simp
  have q2 : W0.cell? ⟨w.heap.size, 2, none⟩ = some (.int .i64 a.gen) := by rw [← hW]; simp
  have q3 : W0.cell? ⟨w.heap.size, 3, none⟩ = some (.int .i64 a.kas) := by rw [← hW]; simp
  clear hW
  have hq := cell_lt q0
  have k6 := keep HB0 h6
  have kc := keep HB0 c0
  have hfb := cell_lt kc
  have hsb := cell_lt k6
  refine wp_opaque fun Q2 hQ2 => ?_
  go_region
  refine hQ2 _ _ _ ?_
  clear hQ2 Q2
  generalize hW : World.drew _ = W1
  have HB1 : Below W0.heap.size W0 W1 := by rw [← hW]; exact (bAlloc (Below.refl _ _) _).drew
  have r0 : W1.cell? ⟨W0.heap.size, 0, none⟩ = some (.slice la l.length lc) := by rw [← hW]; simp
  clear hW
  have HV1 : SliceV W1 (.slice la l.length lc) 3 RulAt l := HV.out.keep RulAt.stable (bThen hB0 (bThen HB0 HB1))
  have q0 := keep HB1 q0
  have q1 := keep HB1 q1
  have q2 := keep HB1 q2
  have q3 := keep HB1 q3
  clear k6 kc
  have hmf : ∀ (fn : Fn) (first cap : Array Value) (w : World), (Instr.makeFunc fn first cap).run Try.prog w = .ok (.func fn first cap) w := fun _ _ _ _ => rfl
  go_wp2_with (go_at_call 98; refine (search_any l a.num _ _ _ _ r0 HV1 q0 (by have := hl3.few; omega) hl3.mono).mono ?_; rintro e w2 ⟨⟨c, rfl, hc1, hc2, hc3⟩, hb2⟩)
  clear hmf
  have q0 := keep hb2 q0
  have q1 := keep hb2 q1
  have q2 := keep hb2 q2
  have q3 := keep hb2 q3
  have r0 := keep hb2 r0
  have HB2 := bThen (bThen HB0 HB1) hb2
  have hc : 1 ≤ c := by
    by_cases h : c = 0
    · have := hc3 0 hl3.ne (by omega)
      rw [hl3.first hl3.ne] at this
      omega
    · omega
  have hidx : idxOf S a = c - 1 := by rw [idxOf, hl2]; exact ruleIdx_eq hc hc1 hc2 hc3
  obtain ⟨j, rfl⟩ : ∃ j, c = j + 1 := ⟨c - 1, by omega⟩
  have hj : j < l.length := by omega
  have hrj : l[j] = ruleOf S a := by
    have := hrule hix
    simp only [hidx, Nat.add_sub_cancel] at this
    exact this
  have hBw2 := bThen hB0 HB2
  obtain ⟨la', lc', heq, -, hy⟩ := HV.out
  simp only [Value.slice.injEq, true_and] at heq
  obtain ⟨rfl, rfl⟩ := heq
  rcases hy with hnil | ⟨rb, ro, rfl, hr⟩
  · simp [hnil] at hj
  obtain ⟨p0, p1, vp, p2, p3⟩ := hr j hj
  rw [hrj] at p0 p1 p3
  have HP := Lib.hid p3
  have p0 := keep hBw2 p0
  have p1 := keep hBw2 p1
  have p2 := keep hBw2 p2
  obtain ⟨pa, pc, rfl, hpl, -⟩ := p3
  have hrb := cell_lt p0
  have hqb := cell_lt q0
  have hlb := cell_lt r0
  have HI := Lib.hid hidx
  have HD := Lib.hid hrr.div
  have HB := Lib.hid hrr.base
  clear hc2 hc3 hr hrj hidx hl1 hrule hix hrr HV1 hb2 h6 c0 hpl
  have hwr : IntKind.i64.wrap (j : Int) = j := IntWalk.i64_in _ (by omega)
  have hjt : ((j : Int)).toNat = j := by omega
  have hj0 : (0 : Int) ≤ (j : Int) := by omega
  have hj1 : (j : Int) < (l.length : Int) := by omega
  rw [show ((j + 1 : Nat) : Int) = (j : Int) + 1 from by omega]
  refine wp_opaque fun Q2 hQ2 => ?_
  go_still_tail 11, (by kernel_rfl)
  change wpList _ _ _ _ _ (World.drew _)
  generalize hW : World.drew _ = w3
  have HB3 : Below w2.heap.size w2 w3 := by rw [← hW]; exact (Below.refl _ _).drew
  clear hW
  have q0 := keep HB3 q0
  have hqb := cell_lt q0
  go_upto_region 4 with (fail)
  generalize hW : World.alloc w3 _ = W4
  have HB4 : Below w3.heap.size w3 W4 := by rw [← hW]; exact bAlloc (Below.refl _ _) _
  have t0 : W4.cell? ⟨w3.heap.size, 0, none⟩ = some (.pointer (some ⟨sb, 0, none⟩)) := by rw [← hW]; simp
  have t1 : W4.cell? ⟨w3.heap.size, 1, none⟩ = some (.int .i64 a.num) := by rw [← hW]; simp
  have t2 : W4.cell? ⟨w3.heap.size, 2, none⟩ = some (.int .i64 a.set) := by rw [← hW]; simp
  have t3 : W4.cell? ⟨w3.heap.size, 3, none⟩ = some (.int .i64 a.gen) := by rw [← hW]; simp
  have t4 : W4.cell? ⟨w3.heap.size, 4, none⟩ = some (.int .i64 a.kas) := by rw [← hW]; simp
  have t5 : W4.cell? ⟨w3.heap.size, 5, none⟩ = some (.int .i64 j) := by rw [← hW]; simp
  have t6 : W4.cell? ⟨w3.heap.size, 6, none⟩ = some (.int .i64 (ruleOf S a).base) := by rw [← hW]; simp
  have t7 : W4.cell? ⟨w3.heap.size, 7, none⟩ = some (.int .i64 (ruleOf S a).div) := by rw [← hW]; simp
  have t8 : W4.cell? ⟨w3.heap.size, 8, none⟩ = some (.slice pa (ruleOf S a).pieces.length pc) := by rw [← hW]; simp
  have t9 : W4.cell? ⟨w3.heap.size, 9, none⟩ = some (.int .i64 0) := by rw [← hW]; simp
  have t10 : W4.cell? ⟨w3.heap.size, 10, none⟩ = some (.int .i64 0) := by rw [← hW]; simp
  have t11 : W4.cell? ⟨w3.heap.size, 11, none⟩ = some (.int .i64 d) := by rw [← hW]; simp
  have ty : TypAt W4 w3.heap.size 152 := by rw [← hW]; exact ⟨_, _, World.alloc_heap_new _ _⟩
  have f9 : W4.frozen? ⟨w3.heap.size, 9, none⟩ = false := by rw [← hW]; simp
  have f10 : W4.frozen? ⟨w3.heap.size, 10, none⟩ = false := by rw [← hW]; simp
  clear hW
  have q0 := keep HB4 q0
  have hqb := cell_lt q0
  have hpb := cell_lt t0
  have HBx := bThen HB2 (bThen HB3 HB4)
  have HPx := HP.out.keep PceAt.stable (bThen hBw2 (bThen HB3 HB4))
  by_cases hd : (ruleOf S a).div = 0
  · have hd1 : ((ruleOf S a).div != 0) = false := by simp [hd]
    have HDD := Lib.hid hd
    clear hd
    go_wp2_with fail
    go_ret
    refine ⟨⟨_, rfl, ⟨t0, t1, t2, t3, t4, ?_, t6, t7, ⟨_, t8, HPx⟩, ?_, ?_, t11⟩, ty, _, t8, HP.out⟩, HBx⟩
    · rw [HI.out]; exact t5
    · rw [quo, if_pos HDD.out]; exact t9
    · rw [rst, if_pos HDD.out]; exact t10
  · have hd1 : ((ruleOf S a).div != 0) = true := by simp [hd]
    go_wp2_with fail
    have hD := HD.out
    have hBs := HB.out
    have hDp : 2 ≤ (ruleOf S a).div := by omega
    have e1 : a.num.tdiv (ruleOf S a).div = a.num / (ruleOf S a).div := Int.tdiv_eq_ediv_of_nonneg hn
    have e2 : a.num.tmod (ruleOf S a).div = a.num % (ruleOf S a).div := Int.tmod_eq_emod_of_nonneg hn
    have b1 : 0 ≤ a.num / (ruleOf S a).div := Int.ediv_nonneg hn (by omega)
    have b2 : a.num / (ruleOf S a).div ≤ a.num := Int.ediv_le_self _ hn
    have b3 : 0 ≤ a.num % (ruleOf S a).div := Int.emod_nonneg _ (by omega)
    have b4 : a.num % (ruleOf S a).div < (ruleOf S a).div := Int.emod_lt_of_pos _ (by omega)
    have b5 : (ruleOf S a).div ≤ a.num := by omega
    have w1 : IntKind.i64.wrap (a.num / (ruleOf S a).div) = a.num / (ruleOf S a).div := IntWalk.i64_in _ (by omega)
    have w2' : IntKind.i64.wrap (a.num % (ruleOf S a).div) = a.num % (ruleOf S a).div := IntWalk.i64_in _ (by omega)
    clear hD hBs
    have hne : w.heap.size ≠ w3.heap.size := by omega
    have hw4 : w3.heap.size < W4.heap.size := hpb
    have keep1 : ∀ v, (W4.setCell ⟨w3.heap.size, 9, none⟩ v).drew.cell? ⟨w.heap.size, 0, none⟩ = some (.int .i64 a.num) := fun v => (cell_other hne _).trans q0
    have keep2 : ∀ v u, ((W4.setCell ⟨w3.heap.size, 9, none⟩ v).setCell ⟨w3.heap.size, 10, none⟩ u).drew.cell? ⟨w.heap.size, 0, none⟩ = some (.int .i64 a.num) := fun v u => (cell_other hne _).trans ((cell_other hne _).trans q0)
    refine wp_opaque fun Q2 hQ2 => ?_
    go_region_held3 (fun w' => w'.cell? ⟨w.heap.size, 0, none⟩ = some (.int .i64 a.num)) (first | exact keep1 _ | exact keep2 _ _ | go_keep) (first | fail)
    refine hQ2 _ _ _ ?_
    clear hQ2 Q2 keep1 keep2
    generalize hq9 : a.num / (ruleOf S a).div = q9 at *
    generalize hq10 : a.num % (ruleOf S a).div = q10 at *
    have Q9 := Lib.hid hq9
    have Q10 := Lib.hid hq10
    clear hq9 hq10
    have HBf : Below w.heap.size w ((W4.setCell ⟨w3.heap.size, 9, none⟩ (.int .i64 q9)).setCell ⟨w3.heap.size, 10, none⟩ (.int .i64 q10)).drew :=
      ((HBx.setCell (p := ⟨w3.heap.size, 9, none⟩) (by simp; omega) _).setCell (p := ⟨w3.heap.size, 10, none⟩) (by simp; omega) _).drew
    have HPf : SliceV ((W4.setCell ⟨w3.heap.size, 9, none⟩ (.int .i64 q9)).setCell ⟨w3.heap.size, 10, none⟩ (.int .i64 q10)).drew (.slice pa (ruleOf S a).pieces.length pc) 4 PceAt (ruleOf S a).pieces :=
      HP.out.keep PceAt.stable (bThen hBw2 (((((bThen HB3 HB4)).setCell (p := ⟨w3.heap.size, 9, none⟩) (by have := HB3.size; simp; omega) _).setCell (p := ⟨w3.heap.size, 10, none⟩) (by have := HB3.size; simp; omega) _).drew))
    have tyf : TypAt ((W4.setCell ⟨w3.heap.size, 9, none⟩ (.int .i64 q9)).setCell ⟨w3.heap.size, 10, none⟩ (.int .i64 q10)).drew w3.heap.size 152 := (ty.setCell ⟨w3.heap.size, 9, none⟩ (.int .i64 q9)).setCell ⟨w3.heap.size, 10, none⟩ (.int .i64 q10)
    have z0 := (set2 (u := .int .i64 q9) (v := .int .i64 q10) 0 (by omega) (by omega)).trans t0
    have z1 := (set2 (u := .int .i64 q9) (v := .int .i64 q10) 1 (by omega) (by omega)).trans t1
    have z2 := (set2 (u := .int .i64 q9) (v := .int .i64 q10) 2 (by omega) (by omega)).trans t2
    have z3 := (set2 (u := .int .i64 q9) (v := .int .i64 q10) 3 (by omega) (by omega)).trans t3
    have z4 := (set2 (u := .int .i64 q9) (v := .int .i64 q10) 4 (by omega) (by omega)).trans t4
    have z5 := (set2 (u := .int .i64 q9) (v := .int .i64 q10) 5 (by omega) (by omega)).trans t5
    have z6 := (set2 (u := .int .i64 q9) (v := .int .i64 q10) 6 (by omega) (by omega)).trans t6
    have z7 := (set2 (u := .int .i64 q9) (v := .int .i64 q10) 7 (by omega) (by omega)).trans t7
    have z8 := (set2 (u := .int .i64 q9) (v := .int .i64 q10) 8 (by omega) (by omega)).trans t8
    have z11 := (set2 (u := .int .i64 q9) (v := .int .i64 q10) 11 (by omega) (by omega)).trans t11
    have z9 := set2_9 (u := .int .i64 q9) (v := .int .i64 q10) t9
    have z10 := set2_10 (u := .int .i64 q9) (v := .int .i64 q10) t10
    generalize ((W4.setCell ⟨w3.heap.size, 9, none⟩ (.int .i64 q9)).setCell ⟨w3.heap.size, 10, none⟩ (.int .i64 q10)).drew = Wf at *
    go_wp2_with fail
    go_ret
    refine ⟨⟨_, rfl, ⟨z0, z1, z2, z3, z4, ?_, z6, z7, ⟨_, z8, HPf⟩, ?_, ?_, z11⟩, tyf, _, z8, HP.out⟩, HBf⟩
    · rw [HI.out]; exact z5
    · rw [quo, if_neg (by omega), Q9.out]; exact z9
    · rw [rst, if_neg (by omega), Q10.out]; exact z10
end Go.Proofs.Ytfcopnlpcbbocaa
