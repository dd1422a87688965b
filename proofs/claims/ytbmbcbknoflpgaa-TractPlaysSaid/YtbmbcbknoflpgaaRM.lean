/- Contracts: the waves of a tube. -/
import Derived.Test.YtbmbcbknoflpgaaI3
import Derived.Test.YtbmbcbknoflpgaaF12
import Derived.Test.YtbmbcbknoflpgaaE6
import Derived.Test.YtbmbcbknoflpgaaOM
import Derived.Test.YtbmbcbknoflpgaaMP
import Derived.Deep.RegionWith
import Derived.Deep.RegionLaw
import Derived.Deep.DrawnRows
import Derived.Deep.RegionHeld3
import Derived.Test.YtbmbcbknoflpgaaQM
import Derived.Test.YtbmbcbknoflpgaaA6
set_option linter.unusedSimpArgs false
set_option linter.unusedVariables false
namespace Go.Proofs.Ytbmbcbknoflpgaa
open Go.RowKit

theorem results_four {fn : Func} {t u v x : Tmp} (h : fn.results = #[.tmp t, .tmp u, .tmp v, .tmp x]) (tmps : Array Value) (P : Program) (w : World) :
    (results fn tmps).run P w = .ok (.tuple #[tmps.getD t undef, tmps.getD u undef, tmps.getD v undef, tmps.getD x undef]) w := by
  simp [results, h]
/-- What Waves hands back of a tube. -/
def wavL (f : Nat → Int) (o d a m : Nat) : List Int := (List.range m).map fun i => f (o + (a + i) * 2 + d)
theorem wavL_len (f : Nat → Int) (o d a m : Nat) : (wavL f o d a m).length = m := by simp [wavL]
set_option maxRecDepth 10000 in
set_option maxHeartbeats 4000000 in
theorem Waves_ok {base tb main st wb : Nat} {w : World} {al : List Int} {ps : List Plc} {f : Nat → Int} (h : TubeIs base w tb al main ps st wb f) (ok : TubeOk al main ps) (hst : st ≤ 1000000) (o : Nat) (ho : offO al.length st = o) :
    Calls Try.prog 52 #[.pointer (some ⟨tb, 0, none⟩)] w fun e w' => (∃ v1 v2 v3 v4, e = .returned (.tuple #[v1, v2, v3, v4]) ∧ SliceV w' v1 1 IntAt (wavL f o 0 0 main) ∧ SliceV w' v2 1 IntAt (wavL f o 1 0 main) ∧ SliceV w' v3 1 IntAt (wavL f o 0 main (al.length - main)) ∧ SliceV w' v4 1 IntAt (wavL f o 1 main (al.length - main))) ∧ Below w.heap.size w w' := by
  obtain ⟨av, ac, pa, pc, xs, ht, -, -, -⟩ := h.cells (by have := ok.n48; omega)
  have hn := ok.n48
  have hm := ok.mn
  have hm1 := ok.m1
  have HN := Lib.hid (isNone_any tb main w ht.main)
  rw [decide_eq_false (by omega)] at HN
  have ho2 : st % 2 * al.length * 2 = o := ho
  have hob : o + 2 * al.length ≤ 4 * al.length := by rcases (show st % 2 = 0 ∨ st % 2 = 1 by omega) with e | e <;> rw [e] at ho2 <;> omega
  have HSA := Lib.hid (fun x : BW w => (state_any (ht.keep x.2) (by omega) (by omega) (st % 2) rfl hst).mono fun e w' ⟨a, b⟩ => (⟨a, by rw [← b]; exact Below.refl _ _⟩ : _ ∧ Below x.val.heap.size x.val w'))
  rw [ho2] at HSA
  have hc := fun (W : World) (hB : Below w.heap.size w W) (q : Nat) (hq : q < 4 * al.length) => keep hB (h.3.cell (i := q) hq)
  have HR1 := Lib.hid (fun (W : World) (hB : Below w.heap.size w W) => running_any wb o main al.length 0 (fun i => f (o + i)) W (.inl rfl) (by omega) (fun i hi => ⟨hc W hB (o + i * 2) (by omega), hc W hB (o + i * 2 + 1) (by omega)⟩))
  have HR2 := Lib.hid (fun (W : World) (hB : Below w.heap.size w W) => running_any wb o main al.length 1 (fun i => f (o + i)) W (.inr rfl) (by omega) (fun i hi => ⟨hc W hB (o + i * 2) (by omega), hc W hB (o + i * 2 + 1) (by omega)⟩))
  have e1 : (List.range main).map (fun i => f (o + (i * 2 + 0))) = wavL f o 0 0 main := by unfold wavL; exact List.map_congr_left fun i _ => by simp
  have e2 : (List.range main).map (fun i => f (o + (i * 2 + 1))) = wavL f o 1 0 main := by unfold wavL; exact List.map_congr_left fun i _ => by simp [Nat.add_assoc]
  simp only [e1] at HR1
  simp only [e2] at HR2
  have c1 := ht.main
  have cl := cell_lt c1
  by_cases hmn : main = al.length
  · have HR3 := Lib.hid (fun (W : World) (hB : Below w.heap.size w W) => running_any wb o 0 0 0 (fun i => f (o + i)) W (.inl rfl) (by omega) (fun i hi => by omega))
    have HR4 := Lib.hid (fun (W : World) (hB : Below w.heap.size w W) => running_any wb o 0 0 1 (fun i => f (o + i)) W (.inr rfl) (by omega) (fun i hi => by omega))
    have e3 : al.length - main = 0 := by omega
    have e4 : ∀ d, wavL f o d main 0 = [] := fun d => rfl
    rw [e3, e4, e4]
    simp only [List.range_zero, List.map_nil] at HR3 HR4
    rw [← hmn] at HSA HR1 HR2
    clear h ht ok ho ho2 hob hc e1 e2 e3 e4 hmn
    have i1 : (main : Int) ≤ (main : Int) := by omega
    have i2 : (0 : Int) ≤ (main : Int) := by omega
    have i3 : main - main = 0 := by omega
    go_enter Try.func52, Try.ntmps52
    go_wp2_with (go_at_call 62; with_reducible refine Calls.mono HN.out ?_; rintro e w1 ⟨rfl, rfl⟩)
    refine wp_opaque fun Q2 hQ2 => ?_
    (refine wp_region_below (by kernel_rfl) (by kernel_rfl) ?_; (repeat (first | go_big_quiet_step (with_reducible exact toB HSA.out _) | quiet_step (with_reducible exact toB HSA.out _))); (refine wpQuiet_nil ?_; intro _ hw'; obtain ⟨xq, hw''⟩ := hw'; subst hw''))
    refine hQ2 _ _ _ ?_
    have HBX := Lib.hid xq.2
    generalize xq.val = W4 at *
    go_wp2_with (first
      | (go_at_call 84; with_reducible refine Calls.mono (HR1.out _ HBX.out) ?_; rintro e w5 ⟨⟨r5, rfl, hs5⟩, hb5⟩; have HB5 := Lib.hid (bThen HBX.out hb5); have HS5 := Lib.hid hs5; clear hs5 hb5)
      | (go_at_call 84; with_reducible refine Calls.mono (HR2.out _ HB5.out) ?_; rintro e w6 ⟨⟨r6, rfl, hs6⟩, hb6⟩; have HB6 := Lib.hid (bThen HB5.out hb6); have HS56 := Lib.hid (HS5.out.keep IntAt.stable hb6); have HS6 := Lib.hid hs6; clear hs6 hb6)
      | (go_at_call 84; with_reducible refine Calls.mono (HR3.out _ HB6.out) ?_; rintro e w7 ⟨⟨r7, rfl, hs7⟩, hb7⟩; have HB7 := Lib.hid (bThen HB6.out hb7); have HS57 := Lib.hid (HS56.out.keep IntAt.stable hb7); have HS67 := Lib.hid (HS6.out.keep IntAt.stable hb7); have HS7 := Lib.hid hs7; clear hs7 hb7)
      | (go_at_call 84; with_reducible refine Calls.mono (HR4.out _ HB7.out) ?_; rintro e w8 ⟨⟨r8, rfl, hs8⟩, hb8⟩; have HB8 := Lib.hid (bThen HB7.out hb8); have HS58 := Lib.hid (HS57.out.keep IntAt.stable hb8); have HS68 := Lib.hid (HS67.out.keep IntAt.stable hb8); have HS78 := Lib.hid (HS7.out.keep IntAt.stable hb8); have HS8 := Lib.hid hs8; clear hs8 hb8))
    (try simp only [Exit.inBlock, Exit.then])
    refine bodyPost_ret (results_four rfl _ _ _) rfl ?_
    exact ⟨⟨_, _, _, _, rfl, HS58.out, HS68.out, HS78.out, HS8.out⟩, HB8.out⟩
  · have HR3 := Lib.hid (fun (W : World) (hB : Below w.heap.size w W) => running_any wb (o + main * 2) (al.length - main) (al.length - main) 0 (fun i => f (o + main * 2 + i)) W (.inl rfl) (by omega) (fun i hi => ⟨hc W hB (o + main * 2 + i * 2) (by omega), hc W hB (o + main * 2 + i * 2 + 1) (by omega)⟩))
    have HR4 := Lib.hid (fun (W : World) (hB : Below w.heap.size w W) => running_any wb (o + main * 2) (al.length - main) (al.length - main) 1 (fun i => f (o + main * 2 + i)) W (.inr rfl) (by omega) (fun i hi => ⟨hc W hB (o + main * 2 + i * 2) (by omega), hc W hB (o + main * 2 + i * 2 + 1) (by omega)⟩))
    have e3 : (List.range (al.length - main)).map (fun i => f (o + main * 2 + (i * 2 + 0))) = wavL f o 0 main (al.length - main) := by unfold wavL; exact List.map_congr_left fun i _ => by congr 1; omega
    have e4 : (List.range (al.length - main)).map (fun i => f (o + main * 2 + (i * 2 + 1))) = wavL f o 1 main (al.length - main) := by unfold wavL; exact List.map_congr_left fun i _ => by congr 1; omega
    simp only [e3] at HR3
    simp only [e4] at HR4
    generalize al.length = n at *
    clear h ht ok ho ho2 hob hc e1 e2 e3 e4
    have i1 : (main : Int) ≤ (n : Int) := by omega
    have i2 : (0 : Int) ≤ (main : Int) := by omega
    have i3 : ¬ n = main := by omega
    go_enter Try.func52, Try.ntmps52
    go_wp2_with (go_at_call 62; with_reducible refine Calls.mono HN.out ?_; rintro e w1 ⟨rfl, rfl⟩)
    refine wp_opaque fun Q2 hQ2 => ?_
    (refine wp_region_below (by kernel_rfl) (by kernel_rfl) ?_; (repeat (first | go_big_quiet_step (with_reducible exact toB HSA.out _) | quiet_step (with_reducible exact toB HSA.out _))); (refine wpQuiet_nil ?_; intro _ hw'; obtain ⟨xq, hw''⟩ := hw'; subst hw''))
    refine hQ2 _ _ _ ?_
    have HBX := Lib.hid xq.2
    generalize xq.val = W4 at *
    go_wp2_with (first
      | (go_at_call 84; with_reducible refine Calls.mono (HR1.out _ HBX.out) ?_; rintro e w5 ⟨⟨r5, rfl, hs5⟩, hb5⟩; have HB5 := Lib.hid (bThen HBX.out hb5); have HS5 := Lib.hid hs5; clear hs5 hb5)
      | (go_at_call 84; with_reducible refine Calls.mono (HR2.out _ HB5.out) ?_; rintro e w6 ⟨⟨r6, rfl, hs6⟩, hb6⟩; have HB6 := Lib.hid (bThen HB5.out hb6); have HS56 := Lib.hid (HS5.out.keep IntAt.stable hb6); have HS6 := Lib.hid hs6; clear hs6 hb6)
      | (go_at_call 84; with_reducible refine Calls.mono (HR3.out _ HB6.out) ?_; rintro e w7 ⟨⟨r7, rfl, hs7⟩, hb7⟩; have HB7 := Lib.hid (bThen HB6.out hb7); have HS57 := Lib.hid (HS56.out.keep IntAt.stable hb7); have HS67 := Lib.hid (HS6.out.keep IntAt.stable hb7); have HS7 := Lib.hid hs7; clear hs7 hb7)
      | (go_at_call 84; with_reducible refine Calls.mono (HR4.out _ HB7.out) ?_; rintro e w8 ⟨⟨r8, rfl, hs8⟩, hb8⟩; have HB8 := Lib.hid (bThen HB7.out hb8); have HS58 := Lib.hid (HS57.out.keep IntAt.stable hb8); have HS68 := Lib.hid (HS67.out.keep IntAt.stable hb8); have HS78 := Lib.hid (HS7.out.keep IntAt.stable hb8); have HS8 := Lib.hid hs8; clear hs8 hb8))
    (try simp only [Exit.inBlock, Exit.then])
    refine bodyPost_ret (results_four rfl _ _ _) rfl ?_
    exact ⟨⟨_, _, _, _, rfl, HS58.out, HS68.out, HS78.out, HS8.out⟩, HB8.out⟩
end Go.Proofs.Ytbmbcbknoflpgaa
namespace Go.Proofs.Ytbmbcbknoflpgaa
open Go.RowKit

/-- The block of a slice, if any, lies at lo or above. -/
def LowV (lo : Nat) (v : Value) : Prop := ∀ b, v.ownBlock = some b → lo ≤ b
/-- The three slices of a chain of the specification. -/
structure ChV (W : World) (lo : Nat) (al fl bl : List Int) (va vf vb : Value) : Prop where
  areas : SliceV W va 1 IntAt al
  fwd : SliceV W vf 1 IntAt fl
  back : SliceV W vb 1 IntAt bl
  flen : fl.length = al.length
  blen : bl.length = al.length
  lowA : LowV lo va
  lowF : LowV lo vf
  lowB : LowV lo vb
theorem ChV.below {W W' : World} {lo : Nat} {al fl bl : List Int} {va vf vb : Value} (h : ChV W lo al fl bl va vf vb) (hB : Below W.heap.size W W') : ChV W' lo al fl bl va vf vb :=
  ⟨h.areas.keep IntAt.stable hB, h.fwd.keep IntAt.stable hB, h.back.keep IntAt.stable hB, h.flen, h.blen, h.lowA, h.lowF, h.lowB⟩
/-- A tube of the specification in the state of a tube. -/
def RefIs (W : World) (lo rb : Nat) (s : Shp) (al : List Int) (st : Nat) (f : Nat → Int) : Prop :=
  ∃ va vf vb va2 vf2 vb2 x y, W.heap[rb]? = some (.cells #[va, vf, vb, va2, vf2, vb2, x, y, .int .i64 s.joint, .int .i64 s.glottis, .int .i64 s.lips, .int .i64 s.nose, .int .i64 (st : Int)] 113 (0, 0)) ∧
    ChV W lo (al.take s.areas.length) (wavL f (offO al.length st) 0 0 s.areas.length) (wavL f (offO al.length st) 1 0 s.areas.length) va vf vb ∧
    ChV W lo (al.drop s.areas.length) (wavL f (offO al.length st) 0 s.areas.length (al.length - s.areas.length)) (wavL f (offO al.length st) 1 s.areas.length (al.length - s.areas.length)) va2 vf2 vb2 ∧ lo ≤ rb
theorem RefIs.below {W W' : World} {lo rb st : Nat} {s : Shp} {al : List Int} {f : Nat → Int} (h : RefIs W lo rb s al st f) (hB : Below W.heap.size W W') : RefIs W' lo rb s al st f := by
  obtain ⟨a1, a2, a3, a4, a5, a6, a7, a8, h1, h2, h3, h4⟩ := h
  exact ⟨a1, a2, a3, a4, a5, a6, a7, a8, heap_keep hB h1, h2.below hB, h3.below hB, h4⟩
theorem RefIs.parts {W : World} {lo rb st : Nat} {s : Shp} {al : List Int} {f : Nat → Int} (h : RefIs W lo rb s al st f) :
    (∃ va vf vb, ChAt W rb 0 (al.take s.areas.length) (wavL f (offO al.length st) 0 0 s.areas.length) (wavL f (offO al.length st) 1 0 s.areas.length) va vf vb) ∧
    (∃ va vf vb, ChAt W rb 3 (al.drop s.areas.length) (wavL f (offO al.length st) 0 s.areas.length (al.length - s.areas.length)) (wavL f (offO al.length st) 1 s.areas.length (al.length - s.areas.length)) va vf vb) ∧
    W.cell? ⟨rb, 12, none⟩ = some (.int .i64 (st : Int)) := by
  obtain ⟨a1, a2, a3, a4, a5, a6, a7, a8, h1, h2, h3, h4⟩ := h
  have c := fun j (hj : j < 13) => cell_of_heap (j := j) h1 hj
  refine ⟨⟨a1, a2, a3, ⟨?_, ?_, ?_, h2.areas, h2.fwd, h2.back, h2.flen, h2.blen⟩⟩, ⟨a4, a5, a6, ⟨?_, ?_, ?_, h3.areas, h3.fwd, h3.back, h3.flen, h3.blen⟩⟩, ?_⟩
  · exact c 0 (by omega)
  · exact c 1 (by omega)
  · exact c 2 (by omega)
  · exact c 3 (by omega)
  · exact c 4 (by omega)
  · exact c 5 (by omega)
  · exact c 12 (by omega)
/-- Slices above lo are not touched by what keeps the rest. -/
theorem SliceV.of_low {W W' : World} {lo : Nat} {v : Value} {l : List Int} (h : SliceV W v 1 IntAt l) (hl : LowV lo v) (hk : ∀ b, lo ≤ b → b < W.heap.size → W'.heap[b]? = W.heap[b]?) : SliceV W' v 1 IntAt l := by
  obtain ⟨a, c, rfl, hm, h⟩ := h
  refine ⟨a, c, rfl, hm, ?_⟩
  rcases h with h | ⟨b, o, rfl, h⟩
  · exact .inl h
  · refine .inr ⟨b, o, rfl, fun j hj => ?_⟩
    have h1 := h j hj
    exact (World.cell?_of_block (a := ⟨b, o + j * 1, none⟩) (hk b (hl b rfl) (cell_lt h1))).trans h1
theorem ChV.of_low {W W' : World} {lo : Nat} {al fl bl : List Int} {va vf vb : Value} (h : ChV W lo al fl bl va vf vb) (hk : ∀ b, lo ≤ b → b < W.heap.size → W'.heap[b]? = W.heap[b]?) : ChV W' lo al fl bl va vf vb :=
  ⟨h.areas.of_low h.lowA hk, h.fwd.of_low h.lowF hk, h.back.of_low h.lowB hk, h.flen, h.blen, h.lowA, h.lowF, h.lowB⟩
/-- The program's tube goes on: the specification's lies above. -/
theorem RefIs.kept {W W' : World} {lo rb st a b : Nat} {s : Shp} {al : List Int} {f : Nat → Int} (h : RefIs W lo rb s al st f) (hK : Kept W W' a b) (ha : a < lo) (hb : b < lo) : RefIs W' lo rb s al st f := by
  obtain ⟨a1, a2, a3, a4, a5, a6, a7, a8, h1, h2, h3, h4⟩ := h
  have hk : ∀ c, lo ≤ c → c < W.heap.size → W'.heap[c]? = W.heap[c]? := fun c hc hcl => hK.block c hcl (by omega) (by omega)
  exact ⟨a1, a2, a3, a4, a5, a6, a7, a8, (hk rb h4 (Array.getElem?_eq_some_iff.mp h1).1).trans h1, h2.of_low hk, h3.of_low hk, h4⟩
theorem wavL_get (f : Nat → Int) (o d a m i : Nat) (hi : i < m) : (wavL f o d a m).getD i 0 = f (o + (a + i) * 2 + d) := by
  rw [gI (by rw [wavL_len]; exact hi)]
  simp [wavL]
theorem ref_en (al : List Int) (f : Nat → Int) (o n : Nat) (hn : n ≤ al.length) : enL (al.take n) (wavL f o 0 0 n) (wavL f o 1 0 n) + enL (al.drop n) (wavL f o 0 n (al.length - n)) (wavL f o 1 n (al.length - n)) = en (fun i => al.getD i 0) f o al.length := by
  unfold enL
  rw [sm_enX, sm_enX]
  have e : al.length = n + (al.length - n) := by omega
  have h := sm_split (fun i => al.getD i 0 * (f (o + i * 2) * f (o + i * 2)) + al.getD i 0 * (f (o + i * 2 + 1) * f (o + i * 2 + 1))) n (al.length - n)
  rw [← e] at h
  unfold en
  rw [h, List.length_take, List.length_drop, Nat.min_eq_left hn]
  congr 1
  · refine sm_congr fun i hi => ?_
    rw [wavL_get _ _ _ _ _ _ hi, wavL_get _ _ _ _ _ _ hi, List.getD_eq_getElem?_getD, List.getElem?_take, if_pos hi, ← List.getD_eq_getElem?_getD, Nat.zero_add, Nat.add_zero, Int.mul_add]
  · refine sm_congr fun i hi => ?_
    rw [wavL_get _ _ _ _ _ _ hi, wavL_get _ _ _ _ _ _ hi, List.getD_eq_getElem?_getD, List.getElem?_drop, ← List.getD_eq_getElem?_getD, Nat.add_zero, Int.mul_add]
set_option maxRecDepth 10000 in
set_option maxHeartbeats 4000000 in
theorem alike_true {base tb st wb rb : Nat} {w : World} {s : Shp} {al : List Int} {ps : List Plc} {f : Nat → Int} (h : TubeIs base w tb al s.areas.length ps st wb f) (ok : TubeOk al s.areas.length ps) (hst : st ≤ 1000000) {lo : Nat} (hr : RefIs w lo rb s al st f) :
    Calls Try.prog 30 #[.pointer (some ⟨tb, 0, none⟩), .pointer (some ⟨rb, 0, none⟩)] w fun e w' => e = .returned (.bool true) ∧ Below w.heap.size w w' := by
  have hn := ok.n48
  have hm := ok.mn
  have HWV := Lib.hid (Waves_ok h ok hst (offO al.length st) rfl)
  have HEN := Lib.hid (fun (W : World) (hB : Below w.heap.size w W) => tube_energy (h.below hB) ok hst)
  simp only [en_enX] at HEN
  have HTS := Lib.hid (fun (W : World) (hB : Below w.heap.size w W) => tube_steps (h.below hB) ok)
  obtain ⟨⟨va, vf, vb, h1⟩, ⟨va2, vf2, vb2, h2⟩, h7⟩ := hr.parts
  have HRE := Lib.hid (fun (W : World) (hB : Below w.heap.size w W) => refTubeEnergy_any (h1.keep hB) (h2.keep hB) (by rw [List.length_take]; omega) (by rw [List.length_drop]; omega))
  rw [ref_en al f _ _ hm] at HRE
  obtain ⟨E, hE⟩ : ∃ E, wrap64 (en (fun i => al.getD i 0) f (offO al.length st) al.length) = E := ⟨_, rfl⟩
  rw [hE] at HEN HRE
  have HC := Lib.hid (fun (W : World) (hB : Below w.heap.size w W) => And.intro (h1.keep hB) (And.intro (h2.keep hB) (keep hB h7)))
  clear h ok hE h1 h2 h7
  go_enter Try.func30, Try.ntmps30
  go_wp2_with (go_at_call 52; with_reducible refine Calls.mono HWV.out ?_; rintro e w1 ⟨⟨v1, v2, v3, v4, rfl, s1, s2, s3, s4⟩, hb⟩; have HB1 := Lib.hid hb; have HS := Lib.hid (And.intro s1 (And.intro s2 (And.intro s3 s4))); clear s1 s2 s3 s4 hb)
  obtain ⟨k1, k2, k7⟩ := HC.out _ HB1.out
  obtain ⟨s1, s2, s3, s4⟩ := HS.out
  have H1 := Lib.hid (fun x : BW w1 => by have h := Same_any _ _ _ _ x.val (s1.keep IntAt.stable x.2) (k1.fwd.keep IntAt.stable x.2); rw [decide_eq_true rfl] at h; exact h)
  have H2 := Lib.hid (fun x : BW w1 => by have h := Same_any _ _ _ _ x.val (s2.keep IntAt.stable x.2) (k1.back.keep IntAt.stable x.2); rw [decide_eq_true rfl] at h; exact h)
  have H3 := Lib.hid (fun x : BW w1 => by have h := Same_any _ _ _ _ x.val (s3.keep IntAt.stable x.2) (k2.fwd.keep IntAt.stable x.2); rw [decide_eq_true rfl] at h; exact h)
  have H4 := Lib.hid (fun x : BW w1 => by have h := Same_any _ _ _ _ x.val (s4.keep IntAt.stable x.2) (k2.back.keep IntAt.stable x.2); rw [decide_eq_true rfl] at h; exact h)
  have H5 := Lib.hid (fun x : BW w1 => HEN.out x.val (bThen HB1.out x.2))
  have H6 := Lib.hid (fun x : BW w1 => HRE.out x.val (bThen HB1.out x.2))
  have H7 := Lib.hid (fun x : BW w1 => (HTS.out x.val (bThen HB1.out x.2)).mono fun e w' ⟨a, b⟩ => (⟨a, by rw [← b]; exact Below.refl _ _⟩ : _ ∧ Below x.val.heap.size x.val w'))
  have c1 := k1.c1
  have c2 := k1.c2
  have c4 := k2.c1
  have c5 := k2.c2
  simp only [Nat.zero_add, Nat.reduceAdd] at c1 c2 c4 c5
  have cl := cell_lt c1
  have g1 : ((st : Int) == (st : Int)) = true := by simp
  have g2 : (E == E) = true := by simp
  obtain ⟨a1, n1, rfl, -⟩ := id k1.fwd
  obtain ⟨a2, n2, rfl, -⟩ := id k1.back
  obtain ⟨a3, n3, rfl, -⟩ := id k2.fwd
  obtain ⟨a4, n4, rfl, -⟩ := id k2.back
  obtain ⟨a5, n5, rfl, -⟩ := id s1
  obtain ⟨a6, n6, rfl, -⟩ := id s2
  obtain ⟨a7, n7, rfl, -⟩ := id s3
  obtain ⟨a8, n8, rfl, -⟩ := id s4
  clear s1 s2 s3 s4 k1 k2 HEN HRE HTS HC HWV HS
  refine wp_opaque fun Q2 hQ2 => ?_
  (refine wp_region_below (by kernel_rfl) (by kernel_rfl) ?_; (repeat (first | go_big_quiet_step ((first | (with_reducible exact toB H1.out _) | (with_reducible exact toB H2.out _) | (with_reducible exact toB H3.out _) | (with_reducible exact toB H4.out _) | (with_reducible exact toB H5.out _) | (with_reducible exact toB H6.out _) | (with_reducible exact toB H7.out _))) | quiet_step ((first | (with_reducible exact toB H1.out _) | (with_reducible exact toB H2.out _) | (with_reducible exact toB H3.out _) | (with_reducible exact toB H4.out _) | (with_reducible exact toB H5.out _) | (with_reducible exact toB H6.out _) | (with_reducible exact toB H7.out _))))); (refine wpQuiet_nil ?_; intro _ hw'; obtain ⟨xq, hw''⟩ := hw'; subst hw''))
  refine hQ2 _ _ _ ?_
  have HBX := Lib.hid (bThen HB1.out xq.2)
  go_wp2_with fail
  go_ret
  exact ⟨rfl, HBX.out⟩
end Go.Proofs.Ytbmbcbknoflpgaa
namespace Go.Proofs.Ytbmbcbknoflpgaa
open Go.RowKit
attribute [local go_sem ↓] Go.wp_at_zero Go.wp_at_succ

/-- A chain of its own: three lists, two of them to be written. -/
structure SideIs (W : World) (lo : Nat) (v1 : Value) (g2 g3 n : Nat) (l : List Int) (F B : Nat → Int) : Prop where
  areas : SliceV W v1 1 IntAt l
  fwd : W.rowIs g2 3 n (fun j => .int .i64 (F j))
  back : W.rowIs g3 3 n (fun j => .int .i64 (B j))
  ne : g2 ≠ g3
  los : lo ≤ g2 ∧ lo ≤ g3
  apart : v1.ownBlock ≠ some g2 ∧ v1.ownBlock ≠ some g3
  low : LowV lo v1
theorem set3 {W : World} {sb : Nat} {a b c x y z : Value} {t : TypeId} (h : W.heap[sb]? = some (.cells #[a, b, c] t (0, 0))) : (((W.setCell ⟨sb, 0, none⟩ x).setCell ⟨sb, 1, none⟩ y).setCell ⟨sb, 2, none⟩ z).heap[sb]? = some (.cells #[x, y, z] t (0, 0)) := by
  have h1 := heap_setCell_same W sb 0 _ _ x h
  have h2 := heap_setCell_same _ sb 1 _ _ y h1
  have h3 := heap_setCell_same _ sb 2 _ _ z h2
  simpa using h3
theorem set3_gb (W : World) (sb : Nat) (x y z : Value) : W.grownBy (((W.setCell ⟨sb, 0, none⟩ x).setCell ⟨sb, 1, none⟩ y).setCell ⟨sb, 2, none⟩ z) (some sb) := gb_trans (gb_trans (gb_set _ _ _ _) (gb_set _ _ _ _)) (gb_set _ _ _ _)
theorem gb_row {A B : World} {s g n : Nat} {t : TypeId} {f : Nat → Value} (h : A.grownBy B (some s)) (hr : A.rowIs g t n f) (hne : g ≠ s) : B.rowIs g t n f := hr.of_block (h.block _ hr.lt (by simpa using hne))
theorem two_after (S : World) (n : Nat) : ((S.alloc (.cells (madeCells #[Value.int .i64 0] n) 3)).alloc (.cells (madeCells #[Value.int .i64 0] n) 3)).rowIs S.heap.size 3 n (fun _ => .int .i64 0) ∧ ((S.alloc (.cells (madeCells #[Value.int .i64 0] n) 3)).alloc (.cells (madeCells #[Value.int .i64 0] n) 3)).rowIs (S.heap.size + 1) 3 n (fun _ => .int .i64 0) :=
  ⟨(World.rowIs_made S _ _ _).alloc _, rowAt (World.rowIs_made _ _ _ _) (by simp)⟩
theorem side_fin {W Y : World} {sb base g2 g3 : Nat} {v1 : Value} {l : List Int} {cs : Array Value} (ho : W.ownsRow base 3 1 v1 l.length (intV l)) (hg : W.grownBy Y (some sb)) (hx : W.heap[sb]? = some (.cells cs 110 (0, 0))) (hl : l.length ≤ 1000000)
    (h2 : Y.rowIs g2 3 l.length (fun _ => .int .i64 0)) (h3 : Y.rowIs g3 3 l.length (fun _ => .int .i64 0)) (ne : g2 ≠ g3) (lo : sb ≤ g2 ∧ sb ≤ g3) (a2 : g2 < base ∨ W.heap.size ≤ g2) (a3 : g3 < base ∨ W.heap.size ≤ g3) (hbs : sb ≤ base) : SideIs Y sb v1 g2 g3 l.length l (fun _ => 0) (fun _ => 0) := by
  have hk : ∀ g, (g < base ∨ W.heap.size ≤ g) → v1.ownBlock ≠ some g := by
    intro g hgg e
    obtain ⟨-, ⟨rfl, -⟩ | ⟨b, cap, cur, rfl, hb, hh, -⟩⟩ := ho
    · simp [Value.ownBlock] at e
    · simp only [Value.ownBlock, Option.some.injEq] at e
      have := (Array.getElem?_eq_some_iff.mp hh).1
      omega
  have hlow : LowV sb v1 := by
    intro g e
    have h1 : ¬ g < base := fun h2 => hk g (.inl h2) e
    omega
  refine ⟨own_slice (own_keep ho fun i c hc => gb_heap hg hc fun e => ?_) hl, h2, h3, ne, lo, ⟨hk _ a2, hk _ a3⟩, hlow⟩
  subst e; rw [hx] at hc; simp at hc
theorem infoSd : (Try.prog.info? 110).map (·.size) = some 3 := by kernel_rfl
set_option maxRecDepth 10000 in
set_option maxHeartbeats 4000000 in
theorem side_any (l : List Int) (va : Value) (w : World) (ha : SliceV w va 1 IntAt l) (hn : l.length ≤ 100) :
    Calls Try.prog 61 #[va] w fun e w' => (∃ v1 g2 g3, e = .returned (.agg #[v1, .slice (some ⟨g2, 0, none⟩) l.length l.length, .slice (some ⟨g3, 0, none⟩) l.length l.length]) ∧ SideIs w' w.heap.size v1 g2 g3 l.length l (fun _ => 0) (fun _ => 0)) ∧ Below w.heap.size w w' := by
  have HA := Lib.hid ha
  have HS := Lib.hid (fun (ad : Option Addr) (n c : Nat) (e : va = .slice ad n c) (W : World) (hB : Below w.heap.size w W) => (src_of (by rw [← e]; exact ha.keep IntAt.stable hB) : SrcI W ad l))
  obtain ⟨a, c, rfl, -⟩ := ha
  have HS2 := Lib.hid (HS.out _ _ _ rfl)
  have hmk := fun W => makeI l.length (by omega) W
  have HB0 := Lib.hid (bAlloc (Below.refl w.heap.size w) (.cells #[.slice none 0 0, .slice none 0 0, .slice none 0 0] 110))
  have HX0 := Lib.hid (World.alloc_heap_new w (.cells #[.slice none 0 0, .slice none 0 0, .slice none 0 0] 110))
  clear HS
  go_enter Try.func61, Try.ntmps61
  go_wp2_with fail
  generalize World.alloc w _ = W1 at *
  obtain ⟨sb, hsb⟩ : ∃ sb, w.heap.size = sb := ⟨_, rfl⟩
  have HSB := Lib.hid hsb
  rw [hsb] at HX0 ⊢
  have HK : Hid (∀ X, Below W1.heap.size W1 X → (X.cell? ⟨sb, 0, none⟩ = some (.slice none 0 0) ∧ X.cell? ⟨sb, 1, none⟩ = some (.slice none 0 0) ∧ X.cell? ⟨sb, 2, none⟩ = some (.slice none 0 0) ∧ X.frozen? ⟨sb, 0, none⟩ = false ∧ X.frozen? ⟨sb, 1, none⟩ = false ∧ X.frozen? ⟨sb, 2, none⟩ = false)) := Lib.hid (fun X hB => by
    have hx := heap_keep hB HX0.out
    have c0 := cell_of_heap (j := 0) hx (show 0 < 3 by omega)
    have c1 := cell_of_heap (j := 1) hx (show 1 < 3 by omega)
    have c2 := cell_of_heap (j := 2) hx (show 2 < 3 by omega)
    simp at c0 c1 c2
    exact ⟨c0, c1, c2, frozen_heap hx, frozen_heap hx, frozen_heap hx⟩)
  clear hsb
  obtain ⟨c0, c1, c2, f0, f1, f2⟩ := HK.out W1 (Below.refl _ _)
  have cl := cell_lt c0
  go_region_law (first
    | (refine step_append_ints (by rfl) _ _ (by rfl) _ (.slice none 0 0) 0 [] (by rfl) (own_nil _ _) a l.length c l (by rfl) rfl (HS2.out _ (bThen HB0.out (by repeat (first | exact Below.refl _ _ | refine Below.drew ?_ | refine bAlloc ?_ _)))) (by omega) (Nat.le_refl _) ?_; intro v1 w5 hown5 hb5; simp only [Nat.zero_add, List.nil_append] at hown5; obtain ⟨ad1, cap1, rfl⟩ := ownsRow_slice hown5; have hb6 : Below W1.heap.size W1 w5 := bThen (by repeat (first | exact Below.refl _ _ | refine Below.drew ?_ | refine bAlloc ?_ _)) hb5; obtain ⟨e0, e1, e2, g0, g1, g2⟩ := HK.out w5 hb6; have el := cell_lt e0))
  all_goals
    have HO5 := Lib.hid hown5
    have HX5 := Lib.hid (heap_keep hb6 HX0.out)
    have HB5 := Lib.hid (undrew hb5)
    have HL := Lib.hid (And.intro cl (And.intro el hb6.size))
    have HBW := Lib.hid (bThen HB0.out hb6)
    clear hown5 hb5 hb6 e0 e1 e2 g0 g1 g2 el cl c0 c1 c2 f0 f1 f2
    go_wp2_with fail
    obtain ⟨l1, l2, l3⟩ := HL.out
    have l4 := HB5.out.size
    (try simp only [Exit.inBlock, Exit.then])
    generalize hS : World.setCell (World.setCell (World.setCell w5 _ _) _ _) _ _ = S
    have h1 := (congrArg (fun W : World => W.heap[sb]?) hS).symm.trans (set3 HX5.out)
    have h2 : w5.grownBy S (some sb) := by rw [← hS]; exact set3_gb _ _ _ _ _
    have h3 : S.heap.size = w5.heap.size := by rw [← hS]; simp only [World.size_setCell]
    have hle : w.heap.size ≤ sb := Nat.le_of_eq HSB.out
    have h4 : Below w.heap.size w S := by rw [← hS]; exact ((HBW.out.setCell (p := ⟨sb, 0, none⟩) hle _).setCell (p := ⟨sb, 1, none⟩) hle _).setCell (p := ⟨sb, 2, none⟩) hle _
    clear hS
    have HO5 := HO5.out
    simp only [World.size_alloc, World.size_drew] at l4 HO5
    refine bodyPost_ret (results_cell_row rfl _ _ sb 110 #[_, _, _] (0, 0) _ rfl (by first | exact h1 | exact heap_keep (bAlloc (Below.refl _ _) _) h1 | exact heap_keep (bAlloc (bAlloc (Below.refl _ _) _) _) h1) Try.underlying110 rfl infoSd) rfl ?_
    refine ⟨⟨_, _, _, rfl, ?_⟩, ?_⟩
    · rw [HSB.out]
      refine side_fin HO5 ?_ HX5.out (by omega) ?_ ?_ ?_ ?_ ?_ ?_ (by omega)
      · first | exact h2 | exact gb_trans h2 (gb_below (bAlloc (Below.refl _ _) _) _) | exact gb_trans h2 (gb_below (bAlloc (bAlloc (Below.refl _ _) _) _) _)
      iterate 2
        first
          | (refine rowAt (World.rowIs_made _ _ _ _) ?_; exact h3)
          | (refine rowAt (World.rowIs_made _ _ _ _) ?_; simp only [World.size_alloc, h3]; done)
          | (rw [← h3]; exact (two_after S _).1)
          | (rw [← h3]; exact (two_after S _).2)
          | (refine gb_row (by first | exact h2 | exact gb_trans h2 (gb_below (bAlloc (Below.refl _ _) _) _)) (rowAt (rowB (World.rowIs_made _ _ _ _) HB5.out) ?_) ?_; · first | rfl | (simp only [World.size_alloc]; done)
             · omega)
          | (refine gb_row (by first | exact h2 | exact gb_trans h2 (gb_below (bAlloc (Below.refl _ _) _) _)) (rowAt (rowB ((World.rowIs_made _ _ _ _).alloc _) HB5.out) ?_) ?_; · first | rfl | (simp only [World.size_alloc]; done)
             · omega)
      · omega
      · omega
      · omega
      · omega
    · first
        | exact h4
        | exact bAlloc h4 _
        | exact bAlloc (bAlloc h4 _) _
end Go.Proofs.Ytbmbcbknoflpgaa
namespace Go.Proofs.Ytbmbcbknoflpgaa
open Go.RowKit

theorem wavL_zero (o d a m : Nat) : wavL (fun _ => 0) o d a m = List.replicate m 0 := by
  unfold wavL; apply List.ext_getElem <;> simp
theorem zeros_slice {W : World} {g n : Nat} (h : W.rowIs g 3 n (fun _ => .int .i64 0)) (hn : n ≤ 1000) : SliceV W (.slice (some ⟨g, 0, none⟩) n n) 1 IntAt (List.replicate n 0) :=
  row_slice h (by simp) (fun i hi => by simp) (by unfold most; omega)
theorem SideIs.below {W W' : World} {lo g2 g3 n : Nat} {v : Value} {l : List Int} {F B : Nat → Int} (h : SideIs W lo v g2 g3 n l F B) (hB : Below W.heap.size W W') : SideIs W' lo v g2 g3 n l F B :=
  ⟨h.areas.keep IntAt.stable hB, rowB h.fwd hB, rowB h.back hB, h.ne, h.los, h.apart, h.low⟩
theorem SideIs.chv {W : World} {lo base g2 g3 n : Nat} {v : Value} {l fl bl : List Int} {F B : Nat → Int} (h : SideIs W lo v g2 g3 n l F B) (hb : base ≤ lo) (hn : n ≤ 1000) (hl : l.length = n) (hf : fl.length = n) (hbl : bl.length = n) (eF : ∀ i, i < n → F i = fl.getD i 0) (eB : ∀ i, i < n → B i = bl.getD i 0) :
    ChV W base l fl bl v (.slice (some ⟨g2, 0, none⟩) n n) (.slice (some ⟨g3, 0, none⟩) n n) := by
  refine ⟨h.areas, row_slice h.fwd hf (fun i hi => ?_) (by unfold most; omega), row_slice h.back hbl (fun i hi => ?_) (by unfold most; omega), by omega, by omega, fun b e => Nat.le_trans hb (h.low b e), fun b e => ?_, fun b e => ?_⟩
  · rw [eF i (by omega), gI hi]
  · rw [eB i (by omega), gI hi]
  · simp only [Value.ownBlock, Option.some.injEq] at e; have := h.los; omega
  · simp only [Value.ownBlock, Option.some.injEq] at e; have := h.los; omega
theorem ref_made {W : World} {s : Shp} {a1 b1 x y : Value} {a2 a3 b2 b3 k1 k2 lo : Nat} (h : SideIs W k1 a1 a2 a3 s.areas.length s.areas (fun _ => 0) (fun _ => 0)) (k : SideIs W k2 b1 b2 b3 s.branch.length s.branch (fun _ => 0) (fun _ => 0)) (hq : s.areas.length ≤ 24) (hm : s.branch.length ≤ 24) (l1 : lo ≤ k1) (l2 : lo ≤ k2) (l3 : lo ≤ W.heap.size) :
    RefIs (W.alloc (.cells #[a1, .slice (some ⟨a2, 0, none⟩) s.areas.length s.areas.length, .slice (some ⟨a3, 0, none⟩) s.areas.length s.areas.length, b1, .slice (some ⟨b2, 0, none⟩) s.branch.length s.branch.length, .slice (some ⟨b3, 0, none⟩) s.branch.length s.branch.length, x, y, .int .i64 s.joint, .int .i64 s.glottis, .int .i64 s.lips, .int .i64 s.nose, .int .i64 0] 113)) lo W.heap.size s (s.areas ++ s.branch) 0 (fun _ => 0) := by
  have hB := bAlloc (Below.refl W.heap.size W) (.cells #[a1, .slice (some ⟨a2, 0, none⟩) s.areas.length s.areas.length, .slice (some ⟨a3, 0, none⟩) s.areas.length s.areas.length, b1, .slice (some ⟨b2, 0, none⟩) s.branch.length s.branch.length, .slice (some ⟨b3, 0, none⟩) s.branch.length s.branch.length, x, y, .int .i64 s.joint, .int .i64 s.glottis, .int .i64 s.lips, .int .i64 s.nose, .int .i64 0] 113)
  have h' := h.below hB
  have k' := k.below hB
  have e1 : (s.areas ++ s.branch).take s.areas.length = s.areas := List.take_left ..
  have e2 : (s.areas ++ s.branch).drop s.areas.length = s.branch := List.drop_left ..
  have e3 : (s.areas ++ s.branch).length - s.areas.length = s.branch.length := by simp
  have z : ∀ (n i : Nat), (List.replicate n (0 : Int)).getD i 0 = 0 := fun n i => by rw [List.getD_eq_getElem?_getD]; by_cases h : i < n <;> simp [h]
  refine ⟨a1, _, _, b1, _, _, x, y, World.alloc_heap_new _ _, ?_, ?_, l3⟩
  · rw [e1, wavL_zero, wavL_zero]
    exact h'.chv l1 (by omega) rfl (by simp) (by simp) (fun i _ => (z _ i).symm) (fun i _ => (z _ i).symm)
  · rw [e2, e3, wavL_zero, wavL_zero]
    exact k'.chv l2 (by omega) rfl (by simp) (by simp) (fun i _ => (z _ i).symm) (fun i _ => (z _ i).symm)
set_option maxRecDepth 10000 in
set_option maxHeartbeats 4000000 in
theorem refNew_any (s : Shp) (va vb : Value) (w : World) (ha : SliceV w va 1 IntAt s.areas) (hb : SliceV w vb 1 IntAt s.branch) (hq : s.areas.length ≤ 24) (hm : s.branch.length ≤ 24) :
    Calls Try.prog 26 #[.agg #[va, vb, .int .i64 s.joint, .int .i64 s.glottis, .int .i64 s.lips, .int .i64 s.nose]] w fun e w' => (∃ rb, e = .returned (.pointer (some ⟨rb, 0, none⟩)) ∧ w.heap.size ≤ rb ∧ RefIs w' w.heap.size rb s (s.areas ++ s.branch) 0 (fun _ => 0)) ∧ Below w.heap.size w w' := by
  have HSA := Lib.hid (fun W (hB : Below w.heap.size w W) => side_any s.areas va W (ha.keep IntAt.stable hB) (by omega))
  have HSB := Lib.hid (fun W (hB : Below w.heap.size w W) => side_any s.branch vb W (hb.keep IntAt.stable hB) (by omega))
  have HB1 := Lib.hid (bAlloc (Below.refl w.heap.size w) (.cells #[va, vb, .int .i64 s.joint, .int .i64 s.glottis, .int .i64 s.lips, .int .i64 s.nose] 24))
  have HX : Hid ((w.alloc (.cells #[va, vb, .int .i64 s.joint, .int .i64 s.glottis, .int .i64 s.lips, .int .i64 s.nose] 24)).heap[w.heap.size]? = some (.cells #[va, vb, .int .i64 s.joint, .int .i64 s.glottis, .int .i64 s.lips, .int .i64 s.nose] 24 (0, 0))) := Lib.hid (World.alloc_heap_new w _)
  go_enter Try.func26, Try.ntmps26
  go_wp2_with fail
  generalize World.alloc w _ = W1 at *
  obtain ⟨bx, hbx⟩ : ∃ bx, w.heap.size = bx := ⟨_, rfl⟩
  have HBX := Lib.hid hbx
  rw [hbx] at HX ⊢
  clear hbx
  have HK : Hid (∀ X, Below W1.heap.size W1 X → (X.cell? ⟨bx, 0, none⟩ = some va ∧ X.cell? ⟨bx, 1, none⟩ = some vb ∧ X.cell? ⟨bx, 2, none⟩ = some (.int .i64 s.joint) ∧ X.cell? ⟨bx, 3, none⟩ = some (.int .i64 s.glottis) ∧ X.cell? ⟨bx, 4, none⟩ = some (.int .i64 s.lips) ∧ X.cell? ⟨bx, 5, none⟩ = some (.int .i64 s.nose))) := Lib.hid (fun X hB => by
    have hx := heap_keep hB HX.out
    have c0 := cell_of_heap (j := 0) hx (show 0 < 6 by omega)
    have c1 := cell_of_heap (j := 1) hx (show 1 < 6 by omega)
    have c2 := cell_of_heap (j := 2) hx (show 2 < 6 by omega)
    have c3 := cell_of_heap (j := 3) hx (show 3 < 6 by omega)
    have c4 := cell_of_heap (j := 4) hx (show 4 < 6 by omega)
    have c5 := cell_of_heap (j := 5) hx (show 5 < 6 by omega)
    simp at c0 c1 c2 c3 c4 c5
    exact ⟨c0, c1, c2, c3, c4, c5⟩)
  go_region_held3 (fun X => (X.cell? ⟨bx, 0, none⟩ = some va ∧ X.cell? ⟨bx, 1, none⟩ = some vb ∧ X.cell? ⟨bx, 2, none⟩ = some (.int .i64 s.joint) ∧ X.cell? ⟨bx, 3, none⟩ = some (.int .i64 s.glottis) ∧ X.cell? ⟨bx, 4, none⟩ = some (.int .i64 s.lips) ∧ X.cell? ⟨bx, 5, none⟩ = some (.int .i64 s.nose))) (((try dsimp only); exact HK.out _ (by (repeat (first | exact Below.refl _ _ | exact hB2 | exact hB3 | refine Below.drew ?_ | refine bAlloc ?_ _))))) (first
    | (go_at_call 61; with_reducible refine Calls.mono (HSA.out _ (bThen HB1.out (by (repeat (first | exact Below.refl _ _ | exact hB2 | exact hB3 | refine Below.drew ?_ | refine bAlloc ?_ _))))) ?_; rintro e w2 ⟨⟨a1, a2, a3, rfl, hs2⟩, hb2⟩; have hB2 : Below W1.heap.size W1 w2 := bThen (by (repeat (first | exact Below.refl _ _ | exact hB2 | exact hB3 | refine Below.drew ?_ | refine bAlloc ?_ _))) hb2)
    | (go_at_call 61; with_reducible refine Calls.mono (HSB.out _ (bThen HB1.out (by (repeat (first | exact Below.refl _ _ | exact hB2 | exact hB3 | refine Below.drew ?_ | refine bAlloc ?_ _))))) ?_; rintro e w3 ⟨⟨b1, b2, b3, rfl, hs3⟩, hb3⟩; have hB3 : Below W1.heap.size W1 w3 := bThen (by (repeat (first | exact Below.refl _ _ | exact hB2 | exact hB3 | refine Below.drew ?_ | refine bAlloc ?_ _))) hb3))
  all_goals
    have HS2 := Lib.hid hs2
    have HS3 := Lib.hid hs3
    have HQ := Lib.hid (And.intro hq hm)
    have HB2 := Lib.hid hB2
    have HB3 := Lib.hid hB3
    first | have HF : Hid (Below w2.heap.size w2 w3) := Lib.hid (bThen (by (repeat (first | exact Below.refl _ _ | refine Below.drew ?_ | refine bAlloc ?_ _))) hb3) | have HF : Hid (Below w3.heap.size w3 w2) := Lib.hid (bThen (by (repeat (first | exact Below.refl _ _ | refine Below.drew ?_ | refine bAlloc ?_ _))) hb2)
    clear hs2 hs3 hb2 hb3 hB2 hB3
    go_wp2_with fail
    go_ret
    rw [HBX.out]
    obtain ⟨hq, hm⟩ := HQ.out
    have hl1 : bx ≤ W1.heap.size := by
      have h3 := HB1.out.size
      rw [HBX.out] at h3
      exact h3
    have hlo : bx ≤ w2.heap.size ∧ bx ≤ w3.heap.size := by
      have h1 := HB2.out.size
      have h2 := HB3.out.size
      have h3 := HB1.out.size
      rw [HBX.out] at h3
      omega
    first
      | refine ⟨⟨_, rfl, hlo.2, ref_made (HS2.out.below HF.out) HS3.out hq hm (by (try simp only [World.size_alloc, World.size_drew]); omega) (by (try simp only [World.size_alloc, World.size_drew]); omega) (by (try simp only [World.size_alloc, World.size_drew]); omega)⟩, ?_⟩
      | refine ⟨⟨_, rfl, hlo.1, ref_made HS2.out (HS3.out.below HF.out) hq hm (by (try simp only [World.size_alloc, World.size_drew]); omega) (by (try simp only [World.size_alloc, World.size_drew]); omega) (by (try simp only [World.size_alloc, World.size_drew]); omega)⟩, ?_⟩
    rw [← HBX.out]
    first
      | exact bAlloc (bThen HB1.out HB3.out) _
      | exact bAlloc (bThen HB1.out HB2.out) _
end Go.Proofs.Ytbmbcbknoflpgaa
namespace Go.Proofs.Ytbmbcbknoflpgaa
open Go.RowKit

set_option maxRecDepth 10000 in
set_option maxHeartbeats 4000000 in
theorem refChanges_any (l m : List Int) (va vb : Value) (rb n1 n2 : Nat) (a1 a2 : Option Addr) (k1 k2 : Nat) (w : World) (hl : SliceV w va 1 IntAt l) (hm : SliceV w vb 1 IntAt m) (c0 : w.cell? ⟨rb, 0, none⟩ = some (.slice a1 n1 k1)) (c3 : w.cell? ⟨rb, 3, none⟩ = some (.slice a2 n2 k2)) :
    Calls Try.prog 28 #[.pointer (some ⟨rb, 0, none⟩), va, vb] w fun e w' => e = .returned (.bool (decide (l.length = n1) && decide (m.length = n2) && arsOk l && arsOk m)) ∧ w = w' := by
  have HL := Lib.hid (refareas_any l va w hl)
  have HM := Lib.hid (refareas_any m vb w hm)
  obtain ⟨a, c, rfl, -⟩ := hl
  obtain ⟨b, d, rfl, -⟩ := hm
  have hlt := cell_lt c0
  go_enter Try.func28, Try.ntmps28
  go_wp2_with (first
    | (go_at_call 55; with_reducible refine Calls.mono HL.out ?_; rintro e w2 ⟨rfl, rfl⟩)
    | (go_at_call 55; with_reducible refine Calls.mono HM.out ?_; rintro e w2 ⟨rfl, rfl⟩))
  all_goals
    go_ret
    refine ⟨ret_bool ?_, rfl⟩
    simp [*] <;> omega
end Go.Proofs.Ytbmbcbknoflpgaa
namespace Go.Proofs.Ytbmbcbknoflpgaa
open Go.RowKit

theorem SliceV.set_other {W : World} {v : Value} {l : List Int} {g : Nat} (h : SliceV W v 1 IntAt l) (hg : v.ownBlock ≠ some g) (i : Nat) (x : Value) : SliceV (W.setCell ⟨g, i, none⟩ x) v 1 IntAt l := by
  obtain ⟨a, c, rfl, hl, h⟩ := h
  refine ⟨a, c, rfl, hl, ?_⟩
  rcases h with h | ⟨b, o, rfl, h⟩
  · exact .inl h
  · refine .inr ⟨b, o, rfl, fun j hj => ?_⟩
    have hb : b ≠ g := fun e => hg (by rw [e]; rfl)
    exact (World.cell?_of_block (a := ⟨b, o + j * 1, none⟩) (Below.heap_setCell W ⟨g, i, none⟩ x b hb)).trans (h j hj)
theorem SideIs.fwd_set {W : World} {lo g2 g3 n : Nat} {v : Value} {l : List Int} {F B : Nat → Int} (h : SideIs W lo v g2 g3 n l F B) (i : Nat) (x : Int) : SideIs (W.setCell ⟨g2, i, none⟩ (.int .i64 x)) lo v g2 g3 n l (upd F i x) B :=
  ⟨h.areas.set_other h.apart.1 _ _, row_upd h.fwd i x, h.back.of_block (Below.heap_setCell _ _ _ _ h.ne.symm), h.ne, h.los, h.apart, h.low⟩
theorem SideIs.back_set {W : World} {lo g2 g3 n : Nat} {v : Value} {l : List Int} {F B : Nat → Int} (h : SideIs W lo v g2 g3 n l F B) (i : Nat) (x : Int) : SideIs (W.setCell ⟨g3, i, none⟩ (.int .i64 x)) lo v g2 g3 n l F (upd B i x) :=
  ⟨h.areas.set_other h.apart.2 _ _, h.fwd.of_block (Below.heap_setCell _ _ _ _ h.ne), row_upd h.back i x, h.ne, h.los, h.apart, h.low⟩
end Go.Proofs.Ytbmbcbknoflpgaa
namespace Go.Proofs.Ytbmbcbknoflpgaa
open Go.RowKit

/-- The waves of a chain of which the first k sections are changed. -/
def chL (l c fl : List Int) (k : Nat) : Nat → Int := fun i => if i < k then chW (l.getD i 0) (c.getD i 0) (fl.getD i 0) else 0
theorem chL_zero (l c fl : List Int) : chL l c fl 0 = fun _ => 0 := by funext i; unfold chL; rw [if_neg (by omega)]
theorem chL_succ (l c fl : List Int) (k : Nat) : chL l c fl (k + 1) = upd (chL l c fl k) k (chW (l.getD k 0) (c.getD k 0) (fl.getD k 0)) := by
  funext i
  unfold upd chL
  by_cases e : i = k
  · subst e; rw [if_pos (by omega), if_pos rfl]
  · rw [if_neg e]
    by_cases h : i < k
    · rw [if_pos (by omega), if_pos h]
    · rw [if_neg (by omega), if_neg h]
theorem Kept.belowR {w w' w2 : World} {a b : Nat} (h : Kept w w' a b) (k : Below w'.heap.size w' w2) : Kept w w2 a b := h.grown (gb_below k _)
theorem Kept.refl (w : World) (a b : Nat) : Kept w w a b := ⟨rfl, rfl, rfl, Nat.le_refl _, fun _ _ _ _ => rfl⟩
theorem Kept.setA {w w' : World} {a b : Nat} (h : Kept w w' a b) (o : Nat) (v : Value) : Kept w (w'.setCell ⟨a, o, none⟩ v) a b := h.grown (gb_set _ _ _ _)
theorem int_kept {w w0 wr : World} {lo g2 g3 k : Nat} {v : Value} {l : List Int} (h : SliceV w v 1 IntAt l) (hlo : w.heap.size ≤ lo) (hg : lo ≤ g2 ∧ lo ≤ g3) (hB : Below w.heap.size w w0) (hK : Kept w0 wr g2 g3) (hk : k < l.length) : ∃ b o c, v = .slice (some ⟨b, o, none⟩) l.length c ∧ wr.cell? ⟨b, o + k, none⟩ = some (.int .i64 (l.getD k 0)) ∧ b < wr.heap.size := by
  obtain ⟨b, o, c, e, h1, h2⟩ := int_at h (Below.refl _ _) hk
  have h3 := hK.cell (keep hB h1) (by omega) (by omega)
  exact ⟨b, o, c, e, h3, cell_lt h3⟩
theorem SideIs.shape {W : World} {lo g2 g3 n : Nat} {v : Value} {l : List Int} {F B : Nat → Int} (h : SideIs W lo v g2 g3 n l F B) : ∃ a c, v = .slice a l.length c := by
  obtain ⟨a, c, e, -⟩ := h.areas
  exact ⟨a, c, e⟩
theorem SideIs.of_low {W W' : World} {lo g2 g3 n : Nat} {v : Value} {l : List Int} {F B : Nat → Int} (h : SideIs W lo v g2 g3 n l F B) (hk : ∀ b, lo ≤ b → b < W.heap.size → W'.heap[b]? = W.heap[b]?) : SideIs W' lo v g2 g3 n l F B :=
  ⟨h.areas.of_low h.low hk, h.fwd.of_block (hk g2 h.los.1 h.fwd.lt), h.back.of_block (hk g3 h.los.2 h.back.lt), h.ne, h.los, h.apart, h.low⟩
theorem SideIs.mono {W : World} {lo lo' g2 g3 n : Nat} {v : Value} {l : List Int} {F B : Nat → Int} (h : SideIs W lo v g2 g3 n l F B) (hl : lo' ≤ lo) : SideIs W lo' v g2 g3 n l F B :=
  ⟨h.areas, h.fwd, h.back, h.ne, ⟨Nat.le_trans hl h.los.1, Nat.le_trans hl h.los.2⟩, h.apart, fun b e => Nat.le_trans hl (h.low b e)⟩
theorem chW_in {a c x : Int} (hc : 1 ≤ c) : IntKind.i64.wrap (x * a) = wrap64 (x * a) ∧ (-9223372036854775808 ≤ wrap64 (x * a) ∧ wrap64 (x * a) ≤ 9223372036854775807) := ⟨by rw [IntWalk.i64_left], w64_in _⟩
set_option maxRecDepth 10000 in
set_option maxHeartbeats 4000000 in
theorem refchange_any (l fl bl c : List Int) (va vf vb vc : Value) (w : World) (ha : SliceV w va 1 IntAt l) (hf : SliceV w vf 1 IntAt fl) (hb : SliceV w vb 1 IntAt bl) (hc : SliceV w vc 1 IntAt c) (hfl : fl.length = l.length) (hbl : bl.length = l.length) (hcl : c.length = l.length) (hn : l.length ≤ 100) (hr : ∀ j, j < l.length → 1 ≤ c.getD j 0) :
    Calls Try.prog 65 #[.agg #[va, vf, vb], vc] w fun e w' => (∃ v1 g2 g3, e = .returned (.agg #[v1, .slice (some ⟨g2, 0, none⟩) c.length c.length, .slice (some ⟨g3, 0, none⟩) c.length c.length]) ∧ SideIs w' w.heap.size v1 g2 g3 c.length c (chL l c fl c.length) (chL l c bl c.length)) ∧ Below w.heap.size w w' := by
  have HA := Lib.hid ha
  have HF := Lib.hid hf
  have HBB := Lib.hid hb
  have HC := Lib.hid hc
  have HFL := Lib.hid hfl
  have HBL := Lib.hid hbl
  have HCL := Lib.hid hcl
  have HRR := Lib.hid hr
  have HSD := Lib.hid (fun (W : World) (hB : Below w.heap.size w W) => side_any c vc W (hc.keep IntAt.stable hB) (by omega))
  obtain ⟨aa, ac, rfl, -⟩ := ha
  obtain ⟨fa, fc, rfl, -⟩ := hf
  obtain ⟨ba, bc, rfl, -⟩ := hb
  obtain ⟨ca, cc, rfl, -⟩ := hc
  have HB1 : Hid (Below w.heap.size w ((w.alloc (.cells #[.slice aa l.length ac, .slice fa fl.length fc, .slice ba bl.length bc] 110)).alloc (.cells #[.slice none 0 0, .slice none 0 0, .slice none 0 0] 110))) := Lib.hid (bAlloc (bAlloc (Below.refl _ _) _) _)
  have HX : Hid (((w.alloc (.cells #[.slice aa l.length ac, .slice fa fl.length fc, .slice ba bl.length bc] 110)).alloc (.cells #[.slice none 0 0, .slice none 0 0, .slice none 0 0] 110)).heap[w.heap.size]? = some (.cells #[.slice aa l.length ac, .slice fa fl.length fc, .slice ba bl.length bc] 110 (0, 0))) := Lib.hid (heap_keep (bAlloc (Below.refl _ _) _) (World.alloc_heap_new w _))
  have HX4 : Hid (((w.alloc (.cells #[.slice aa l.length ac, .slice fa fl.length fc, .slice ba bl.length bc] 110)).alloc (.cells #[.slice none 0 0, .slice none 0 0, .slice none 0 0] 110)).heap[w.heap.size + 1]? = some (.cells #[.slice none 0 0, .slice none 0 0, .slice none 0 0] 110 (0, 0))) := Lib.hid (by have := World.alloc_heap_new (w.alloc (.cells #[.slice aa l.length ac, .slice fa fl.length fc, .slice ba bl.length bc] 110)) (.cells #[.slice none 0 0, .slice none 0 0, .slice none 0 0] 110); rwa [World.size_alloc] at this)
  clear hfl hbl hcl hr
  go_enter Try.func65, Try.ntmps65
  go_wp2_with fail
  generalize World.alloc _ _ = W1 at *
  obtain ⟨sb, hsb⟩ : ∃ sb, w.heap.size = sb := ⟨_, rfl⟩
  have HSB := Lib.hid hsb
  rw [hsb] at HX HX4 ⊢
  clear hsb
  go_wp2_with (go_at_call 61; with_reducible refine Calls.mono (HSD.out _ HB1.out) ?_; rintro e w2 ⟨⟨v1, g2, g3, rfl, hs⟩, hb2⟩; obtain ⟨a1, k1, rfl⟩ := hs.shape; have HS0 := Lib.hid hs; have HB2 := Lib.hid hb2; clear hs hb2)
  have HBO := Lib.hid (bAlloc (Below.refl w2.heap.size w2) (.cells #[.slice a1 c.length k1, .slice (some ⟨g2, 0, none⟩) c.length c.length, .slice (some ⟨g3, 0, none⟩) c.length c.length] 110))
  have HXO : Hid ((w2.alloc (.cells #[.slice a1 c.length k1, .slice (some ⟨g2, 0, none⟩) c.length c.length, .slice (some ⟨g3, 0, none⟩) c.length c.length] 110)).heap[w2.heap.size]? = some (.cells #[.slice a1 c.length k1, .slice (some ⟨g2, 0, none⟩) c.length c.length, .slice (some ⟨g3, 0, none⟩) c.length c.length] 110 (0, 0))) := Lib.hid (World.alloc_heap_new w2 _)
  have HGL : Hid (g2 < w2.heap.size ∧ g3 < w2.heap.size ∧ W1.heap.size ≤ g2 ∧ W1.heap.size ≤ g3) := Lib.hid ⟨HS0.out.fwd.lt, HS0.out.back.lt, HS0.out.los.1, HS0.out.los.2⟩
  have HS1 := Lib.hid (HS0.out.below HBO.out)
  obtain ⟨ob, hob⟩ : ∃ ob, w2.heap.size = ob := ⟨_, rfl⟩
  generalize World.alloc w2 _ = W3 at *
  rw [hob] at HXO HGL HBO
  rw [hob]
  have HB3 : Hid (Below W1.heap.size W1 W3) := Lib.hid (bThen HB2.out (by rw [hob]; exact HBO.out))
  clear hob HBO HS0 HB2
  have HX3 := Lib.hid (heap_keep HB3.out HX.out)
  have HX43 := Lib.hid (heap_keep HB3.out HX4.out)
  have HSL : Hid (sb + 1 < W1.heap.size) := Lib.hid (Array.getElem?_eq_some_iff.mp HX4.out).1
  have HS2 : Hid (SideIs W3 W1.heap.size (.slice a1 c.length k1) g2 g3 c.length c (chL l c fl 0) (chL l c bl 0)) := Lib.hid (by rw [chL_zero, chL_zero]; exact HS1.out)
  clear HS1
  go_loopw [6] (fun i wr => ∃ k : Nat, k ≤ c.length ∧ i = .int .i64 k ∧ Hid (SideIs wr W1.heap.size (.slice a1 c.length k1) g2 g3 c.length c (chL l c fl k) (chL l c bl k)) ∧ Hid (Kept W3 wr g2 g3)) (fun i _ => c.length - (intOf i).toNat)
  case atStart => exact ⟨0, Nat.zero_le _, rfl, HS2, Lib.hid (Kept.refl _ _ _)⟩
  case round =>
    clear HS2
    obtain ⟨k, hk, rfl, HR, HK⟩ := hrel
    have hgl := HGL.out
    have hsl := HSL.out
    have hsz : w.heap.size ≤ W1.heap.size := HB1.out.size
    have hx := HK.out.heap HX3.out (by omega) (by omega)
    have HOX := Lib.hid (HK.out.heap HXO.out (by omega) (by omega))
    have c0 := cell_of_heap (j := 0) hx (show 0 < 3 by omega)
    have c1 := cell_of_heap (j := 1) hx (show 1 < 3 by omega)
    have c2 := cell_of_heap (j := 2) hx (show 2 < 3 by omega)
    simp at c0 c1 c2
    have hcl := cell_lt c0
    by_cases hlt : k < c.length
    · have hcl := HCL.out
      have HW3 := Lib.hid (bThen HB1.out HB3.out)
      obtain ⟨b1, o1, x1, e1, p1, q1⟩ := int_kept HA.out hsz hgl.2.2 HW3.out HK.out (show k < l.length by omega)
      obtain ⟨b2, o2, x2, e2, p2, q2⟩ := int_kept HF.out hsz hgl.2.2 HW3.out HK.out (show k < fl.length by have := HFL.out; omega)
      obtain ⟨b3, o3, x3, e3, p3, q3⟩ := int_kept HBB.out hsz hgl.2.2 HW3.out HK.out (show k < bl.length by have := HBL.out; omega)
      obtain ⟨b4, o4, x4, e4, p4, q4⟩ := int_kept HC.out hsz hgl.2.2 HW3.out HK.out hlt
      obtain ⟨rfl, -, rfl⟩ := Value.slice.inj e1
      obtain ⟨rfl, -, rfl⟩ := Value.slice.inj e2
      obtain ⟨rfl, -, rfl⟩ := Value.slice.inj e3
      obtain ⟨rfl, -, rfl⟩ := Value.slice.inj e4
      clear e1 e2 e3 e4
      have i1 : (k : Int) < (l.length : Int) := by omega
      have i2 : (k : Int) < (fl.length : Int) := by have := HFL.out; omega
      have i3 : (k : Int) < (bl.length : Int) := by have := HBL.out; omega
      have i4 : (k : Int) < (c.length : Int) := by omega
      have hr := HRR.out k (by omega)
      have HSF := Lib.hid (chL_succ l c fl k)
      have HSB2 := Lib.hid (chL_succ l c bl k)
      generalize l.getD k 0 = a at *
      generalize c.getD k 0 = d at *
      generalize fl.getD k 0 = x at *
      generalize bl.getD k 0 = y at *
      clear hcl hsl hsz hgl
      go_wp2_with fail
      refine wp_opaque fun Q2 hQ2 => ?_
      (refine wp_region_below (by kernel_rfl) (by kernel_rfl) ?_; (repeat (first | go_big_quiet_step (fail) | quiet_step (fail))); (refine wpQuiet_nil ?_; intro _ hw'; obtain ⟨xq, hw''⟩ := hw'; subst hw''))
      refine hQ2 _ _ _ ?_
      have HK2 := Lib.hid (HK.out.belowR xq.2)
      have HR2 := Lib.hid (HR.out.below xq.2)
      have HOX2 := Lib.hid (heap_keep xq.2 HOX.out)
      replace c0 := keep xq.2 c0
      replace p1 := keep xq.2 p1
      replace p4 := keep xq.2 p4
      replace hcl := cell_lt c0
      replace q1 := cell_lt p1
      replace q4 := cell_lt p4
      clear c1 c2 p2 p3 q2 q3 hx HOX HK HR
      generalize xq.val = wr at *
      go_wp2_with fail
      by_cases hca : d ≤ a
      · have hg : ¬ a < d := by omega
        unfold chW at HSF HSB2
        rw [if_pos hca] at HSF HSB2
        refine wp_opaque fun Q2 hQ2 => ?_
        (refine wp_region_below (by kernel_rfl) (by kernel_rfl) ?_; (repeat (first | go_big_quiet_step (fail) | quiet_step (fail))); (refine wpQuiet_nil ?_; intro _ hw'; obtain ⟨xq, hw''⟩ := hw'; subst hw''))
        refine hQ2 _ _ _ ?_
        replace HK2 := Lib.hid (HK2.out.belowR xq.2)
        replace HR2 := Lib.hid (HR2.out.below xq.2)
        replace HOX2 := Lib.hid (heap_keep xq.2 HOX2.out)
        clear c0 p1 p4 hcl q1 q4
        generalize xq.val = wr at *
        go_wp2_with fail
        all_goals first | (exfalso; omega) | skip
        have hgl2 := HGL.out
        have hx2 := HOX2.out
        have d1 := cell_of_heap (j := 1) hx2 (show 1 < 3 by omega)
        have d2 := cell_of_heap (j := 2) hx2 (show 2 < 3 by omega)
        simp at d1 d2
        have hdl := cell_lt d1
        have f2 := HR2.out.fwd.cell (i := k) hlt
        have f3 := HR2.out.back.cell (i := k) hlt
        have z2 := HR2.out.fwd.frozen k
        have z3 := HR2.out.back.frozen k
        have l2 := HR2.out.fwd.lt
        have l3 := HR2.out.back.lt
        have hne := HR2.out.ne
        have hne2 : g3 ≠ g2 := fun e => hne e.symm
        have on2 : ob ≠ g2 := by omega
        have on3 : ob ≠ g3 := by omega
        have on4 : g2 ≠ ob := by omega
        have on5 : g3 ≠ ob := by omega
        have HE1 : Hid (SideIs ((wr.setCell ⟨g2, k, none⟩ (.int .i64 x)).setCell ⟨g3, k, none⟩ (.int .i64 y)) W1.heap.size (.slice a1 c.length k1) g2 g3 c.length c (chL l c fl (k + 1)) (chL l c bl (k + 1))) := Lib.hid (by rw [HSF.out, HSB2.out]; exact (HR2.out.fwd_set k x).back_set k y)
        have HE2 : Hid (SideIs ((wr.setCell ⟨g3, k, none⟩ (.int .i64 y)).setCell ⟨g2, k, none⟩ (.int .i64 x)) W1.heap.size (.slice a1 c.length k1) g2 g3 c.length c (chL l c fl (k + 1)) (chL l c bl (k + 1))) := Lib.hid (by rw [HSF.out, HSB2.out]; exact (HR2.out.back_set k y).fwd_set k x)
        have HE3 := Lib.hid ((HK2.out.setA k (.int .i64 x)).set k (.int .i64 y))
        have HE4 := Lib.hid ((HK2.out.set k (.int .i64 y)).setA k (.int .i64 x))
        generalize chL l c fl k k = xv at *
        generalize chL l c bl k k = yv at *
        have hkn : k < c.length := hlt
        clear hx2 hgl2
        go_region
        all_goals
          go_wp2_with fail
          go_roundw
          case rel =>
            refine ⟨k + 1, hlt, by go_num, ?_, ?_⟩
            · first
                | exact HE1
                | exact HE2
                | exact Lib.hid (HE1.out.below (Below.drew (Below.refl _ _)))
                | exact Lib.hid (HE2.out.below (Below.drew (Below.refl _ _)))
            · first
                | exact HE3
                | exact HE4
                | exact Lib.hid (HE3.out.belowR (Below.drew (Below.refl _ _)))
                | exact Lib.hid (HE4.out.belowR (Below.drew (Below.refl _ _)))
          case measure => simp [intOf]; omega
      · have hg : a < d := by omega
        unfold chW at HSF HSB2
        rw [if_neg hca] at HSF HSB2
        obtain ⟨p, hp⟩ : ∃ p, wrap64 (x * a) = p := ⟨_, rfl⟩
        obtain ⟨q, hq⟩ : ∃ q, wrap64 (y * a) = q := ⟨_, rfl⟩
        have u1 : IntKind.i64.wrap (x * a) = p := by rw [IntWalk.i64_left]; exact hp
        have u2 : IntKind.i64.wrap (y * a) = q := by rw [IntWalk.i64_left]; exact hq
        have hpi := w64_in (x * a)
        have hqi := w64_in (y * a)
        rw [hp] at HSF hpi
        rw [hq] at HSB2 hqi
        have T1 := Lib.hid (fun W => toward64_any p d W hpi hr)
        have T2 := Lib.hid (fun W => toward64_any q d W hqi hr)
        obtain ⟨s1, hs1⟩ : ∃ s, p.tdiv d = s := ⟨_, rfl⟩
        obtain ⟨s2, hs2⟩ : ∃ s, q.tdiv d = s := ⟨_, rfl⟩
        rw [hs1] at T1 HSF
        rw [hs2] at T2 HSB2
        clear hp hq hpi hqi hs1 hs2
        refine wp_opaque fun Q2 hQ2 => ?_
        (refine wp_region_below (by kernel_rfl) (by kernel_rfl) ?_; (repeat (first | go_big_quiet_step (fail) | quiet_step (fail))); (refine wpQuiet_nil ?_; intro _ hw'; obtain ⟨xq, hw''⟩ := hw'; subst hw''))
        refine hQ2 _ _ _ ?_
        replace HK2 := Lib.hid (HK2.out.belowR xq.2)
        replace HR2 := Lib.hid (HR2.out.below xq.2)
        replace HOX2 := Lib.hid (heap_keep xq.2 HOX2.out)
        replace c0 := keep xq.2 c0
        replace p1 := keep xq.2 p1
        replace p4 := keep xq.2 p4
        replace hcl := cell_lt c0
        replace q1 := cell_lt p1
        replace q4 := cell_lt p4
        generalize xq.val = wr at *
        go_wp2_with fail
        all_goals first | (exfalso; omega) | skip
        refine wp_opaque fun Q2 hQ2 => ?_
        (refine wp_region_below (by kernel_rfl) (by kernel_rfl) ?_; (repeat (first | go_big_quiet_step ((first | (with_reducible exact toS T1.out _) | (with_reducible exact toS T2.out _))) | quiet_step ((first | (with_reducible exact toS T1.out _) | (with_reducible exact toS T2.out _))))); (refine wpQuiet_nil ?_; intro _ hw'; obtain ⟨xq, hw''⟩ := hw'; subst hw''))
        refine hQ2 _ _ _ ?_
        replace HK2 := Lib.hid (HK2.out.belowR xq.2)
        replace HR2 := Lib.hid (HR2.out.below xq.2)
        replace HOX2 := Lib.hid (heap_keep xq.2 HOX2.out)
        clear c0 p1 p4 hcl q1 q4 T1 T2 u1 u2
        generalize xq.val = wr at *
        go_wp2_with fail
        have hgl2 := HGL.out
        have hx2 := HOX2.out
        have d1 := cell_of_heap (j := 1) hx2 (show 1 < 3 by omega)
        have d2 := cell_of_heap (j := 2) hx2 (show 2 < 3 by omega)
        simp at d1 d2
        have hdl := cell_lt d1
        have f2 := HR2.out.fwd.cell (i := k) hlt
        have f3 := HR2.out.back.cell (i := k) hlt
        have z2 := HR2.out.fwd.frozen k
        have z3 := HR2.out.back.frozen k
        have l2 := HR2.out.fwd.lt
        have l3 := HR2.out.back.lt
        have hne := HR2.out.ne
        have hne2 : g3 ≠ g2 := fun e => hne e.symm
        have on2 : ob ≠ g2 := by omega
        have on3 : ob ≠ g3 := by omega
        have on4 : g2 ≠ ob := by omega
        have on5 : g3 ≠ ob := by omega
        have HE1 : Hid (SideIs ((wr.setCell ⟨g2, k, none⟩ (.int .i64 s1)).setCell ⟨g3, k, none⟩ (.int .i64 s2)) W1.heap.size (.slice a1 c.length k1) g2 g3 c.length c (chL l c fl (k + 1)) (chL l c bl (k + 1))) := Lib.hid (by rw [HSF.out, HSB2.out]; exact (HR2.out.fwd_set k s1).back_set k s2)
        have HE2 : Hid (SideIs ((wr.setCell ⟨g3, k, none⟩ (.int .i64 s2)).setCell ⟨g2, k, none⟩ (.int .i64 s1)) W1.heap.size (.slice a1 c.length k1) g2 g3 c.length c (chL l c fl (k + 1)) (chL l c bl (k + 1))) := Lib.hid (by rw [HSF.out, HSB2.out]; exact (HR2.out.back_set k s2).fwd_set k s1)
        have HE3 := Lib.hid ((HK2.out.setA k (.int .i64 s1)).set k (.int .i64 s2))
        have HE4 := Lib.hid ((HK2.out.set k (.int .i64 s2)).setA k (.int .i64 s1))
        generalize chL l c fl k k = xv at *
        generalize chL l c bl k k = yv at *
        have hkn : k < c.length := hlt
        clear hx2 hgl2
        go_region
        all_goals
          go_wp2_with fail
          go_roundw
          case rel =>
            refine ⟨k + 1, hlt, by go_num, ?_, ?_⟩
            · first
                | exact HE1
                | exact HE2
                | exact Lib.hid (HE1.out.below (Below.drew (Below.refl _ _)))
                | exact Lib.hid (HE2.out.below (Below.drew (Below.refl _ _)))
            · first
                | exact HE3
                | exact HE4
                | exact Lib.hid (HE3.out.belowR (Below.drew (Below.refl _ _)))
                | exact Lib.hid (HE4.out.belowR (Below.drew (Below.refl _ _)))
          case measure => simp [intOf]; omega
    · obtain rfl : k = c.length := by omega
      have HXE := Lib.hid (HK.out.heap HX43.out (by omega) (by omega))
      have hox := HOX.out
      have d0 := cell_of_heap (j := 0) hox (show 0 < 3 by omega)
      have d1 := cell_of_heap (j := 1) hox (show 1 < 3 by omega)
      have d2 := cell_of_heap (j := 2) hox (show 2 < 3 by omega)
      simp at d0 d1 d2
      have hdl := cell_lt d0
      have hxe := HXE.out
      have k0 := cell_of_heap (j := 0) hxe (show 0 < 3 by omega)
      have k1' := cell_of_heap (j := 1) hxe (show 1 < 3 by omega)
      have k2 := cell_of_heap (j := 2) hxe (show 2 < 3 by omega)
      simp at k0 k1' k2
      have hkl := cell_lt k0
      have z0 : ∀ j, wr.frozen? ⟨sb + 1, j, none⟩ = false := fun j => frozen_heap hxe
      have z00 := z0 0
      have z01 := z0 1
      have z02 := z0 2
      clear hx hox hxe c0 c1 c2 hcl hsl hsz hgl z0
      have HHS := HSB.out
      have HEND : Hid (SideIs (((wr.setCell ⟨sb + 1, 0, none⟩ (.slice a1 c.length k1)).setCell ⟨sb + 1, 1, none⟩ (.slice (some ⟨g2, 0, none⟩) c.length c.length)).setCell ⟨sb + 1, 2, none⟩ (.slice (some ⟨g3, 0, none⟩) c.length c.length)) w.heap.size (.slice a1 c.length k1) g2 g3 c.length c (chL l c fl c.length) (chL l c bl c.length)) := Lib.hid ((HR.out.of_low fun b h1 h2 => by
        have e : b ≠ sb + 1 := by have := HSL.out; omega
        rw [Below.heap_setCell _ _ _ _ e, Below.heap_setCell _ _ _ _ e, Below.heap_setCell _ _ _ _ e]).mono HB1.out.size)
      have HBE : Hid (Below w.heap.size w wr) := Lib.hid (bThen HB1.out (HB3.out.trans (HK.out.below HB3.out.size HGL.out.2.2.1 HGL.out.2.2.2)))
      clear HHS
      go_wp2_with fail
      refine bodyPost_ret (results_cell_row rfl _ _ (sb + 1) 110 #[_, _, _] (0, 0) _ rfl (set3 HXE.out) Try.underlying110 rfl infoSd) rfl ?_
      refine ⟨⟨_, _, _, rfl, HEND.out⟩, ?_⟩
      have hle : w.heap.size ≤ sb + 1 := by rw [HSB.out]; omega
      exact ((HBE.out.setCell (p := ⟨sb + 1, 0, none⟩) hle _).setCell (p := ⟨sb + 1, 1, none⟩) hle _).setCell (p := ⟨sb + 1, 2, none⟩) hle _
end Go.Proofs.Ytbmbcbknoflpgaa
namespace Go.Proofs.Ytbmbcbknoflpgaa
open Go.RowKit

/-- The waves of a chain of which the first k joints are computed. -/
def chnF (l fl bl : List Int) (skip : Int) (k : Nat) : Nat → Int := fun i => if 1 ≤ i ∧ i ≤ k ∧ ((i : Int) - 1 ≠ skip) then sc2 (l.getD (i - 1) 0) (l.getD i 0) (fl.getD (i - 1) 0) (bl.getD i 0) 1 else 0
def chnB (l fl bl : List Int) (skip : Int) (k : Nat) : Nat → Int := fun i => if i < k ∧ ((i : Int) ≠ skip) then sc2 (l.getD i 0) (l.getD (i + 1) 0) (fl.getD i 0) (bl.getD (i + 1) 0) 0 else 0
theorem chnF_zero (l fl bl : List Int) (skip : Int) : chnF l fl bl skip 0 = fun _ => 0 := by funext i; unfold chnF; rw [if_neg (by omega)]
theorem chnB_zero (l fl bl : List Int) (skip : Int) : chnB l fl bl skip 0 = fun _ => 0 := by funext i; unfold chnB; rw [if_neg (by omega)]
theorem chnF_skip (l fl bl : List Int) (skip : Int) (k : Nat) (h : (k : Int) = skip) : chnF l fl bl skip (k + 1) = chnF l fl bl skip k := by
  funext i
  unfold chnF
  by_cases e : 1 ≤ i ∧ i ≤ k ∧ ((i : Int) - 1 ≠ skip)
  · rw [if_pos e, if_pos (by omega)]
  · rw [if_neg e, if_neg (by omega)]
theorem chnB_skip (l fl bl : List Int) (skip : Int) (k : Nat) (h : (k : Int) = skip) : chnB l fl bl skip (k + 1) = chnB l fl bl skip k := by
  funext i
  unfold chnB
  by_cases e : i < k ∧ ((i : Int) ≠ skip)
  · rw [if_pos e, if_pos (by omega)]
  · rw [if_neg e, if_neg (by omega)]
theorem chnF_succ (l fl bl : List Int) (skip : Int) (k : Nat) (h : (k : Int) ≠ skip) : chnF l fl bl skip (k + 1) = upd (chnF l fl bl skip k) (k + 1) (sc2 (l.getD k 0) (l.getD (k + 1) 0) (fl.getD k 0) (bl.getD (k + 1) 0) 1) := by
  funext i
  unfold upd chnF
  by_cases e : i = k + 1
  · subst e
    rw [if_pos (by omega), if_pos rfl, Nat.add_sub_cancel]
  · rw [if_neg e]
    by_cases e2 : 1 ≤ i ∧ i ≤ k ∧ ((i : Int) - 1 ≠ skip)
    · rw [if_pos e2, if_pos (by omega)]
    · rw [if_neg e2, if_neg (by omega)]
theorem chnB_succ (l fl bl : List Int) (skip : Int) (k : Nat) (h : (k : Int) ≠ skip) : chnB l fl bl skip (k + 1) = upd (chnB l fl bl skip k) k (sc2 (l.getD k 0) (l.getD (k + 1) 0) (fl.getD k 0) (bl.getD (k + 1) 0) 0) := by
  funext i
  unfold upd chnB
  by_cases e : i = k
  · subst e
    rw [if_pos (by omega), if_pos rfl]
  · rw [if_neg e]
    by_cases e2 : i < k ∧ ((i : Int) ≠ skip)
    · rw [if_pos e2, if_pos (by omega)]
    · rw [if_neg e2, if_neg (by omega)]
/-- A joint of two, as the specification says it. -/
theorem sct_two (a c x y : Int) : sctL [a, c] [x, y] = [sc2 a c x y 0, sc2 a c x y 1] := by
  have e : ∀ i, i < 2 → sct (fun i => [a, c].getD i 0) (fun i => [x, y].getD i 0) 2 i = sc2 a c x y i := fun i hi => sct_congr (fun k hk => by
    rcases (show k = 0 ∨ k = 1 by omega) with rfl | rfl <;> simp) (fun k hk => by
    rcases (show k = 0 ∨ k = 1 by omega) with rfl | rfl <;> simp) hi
  unfold sctL
  simp only [List.length_cons, List.length_nil, Nat.zero_add, List.range_succ, List.range_zero, List.nil_append, List.cons_append, List.map_cons, List.map_nil]
  rw [e 0 (by omega), e 1 (by omega)]
theorem sct_three (a c d x y z : Int) : sctL [a, c, d] [x, y, z] = [sc3 a c d x y z 0, sc3 a c d x y z 1, sc3 a c d x y z 2] := by
  have e : ∀ i, i < 3 → sct (fun i => [a, c, d].getD i 0) (fun i => [x, y, z].getD i 0) 3 i = sc3 a c d x y z i := fun i hi => sct_congr (fun k hk => by
    rcases (show k = 0 ∨ k = 1 ∨ k = 2 by omega) with rfl | rfl | rfl <;> simp) (fun k hk => by
    rcases (show k = 0 ∨ k = 1 ∨ k = 2 by omega) with rfl | rfl | rfl <;> simp) hi
  unfold sctL
  simp only [List.length_cons, List.length_nil, Nat.zero_add, List.range_succ, List.range_zero, List.nil_append, List.cons_append, List.map_cons, List.map_nil]
  rw [e 0 (by omega), e 1 (by omega), e 2 (by omega)]
end Go.Proofs.Ytbmbcbknoflpgaa
namespace Go.Proofs.Ytbmbcbknoflpgaa
open Go.RowKit

theorem wav_chF (al cl : List Int) (f : Nat → Int) (o d a m i : Nat) (hd : d < 2) (hi : i < m) (ha : a + m ≤ al.length) : (wavL (chF al cl o al.length f) o d a m).getD i 0 = chW (al.getD (a + i) 0) (cl.getD (a + i) 0) ((wavL f o d a m).getD i 0) := by
  rw [wavL_get _ _ _ _ _ _ hi, wavL_get _ _ _ _ _ _ hi]
  unfold chF
  rw [if_pos (by omega), show (o + (a + i) * 2 + d - o) / 2 = a + i by omega]
theorem getD_take {l : List Int} {n i : Nat} (h : i < n) : (l.take n).getD i 0 = l.getD i 0 := by
  rw [List.getD_eq_getElem?_getD, List.getElem?_take, if_pos h, ← List.getD_eq_getElem?_getD]
theorem getD_drop (l : List Int) (n i : Nat) : (l.drop n).getD i 0 = l.getD (n + i) 0 := by
  rw [List.getD_eq_getElem?_getD, List.getElem?_drop, ← List.getD_eq_getElem?_getD]
theorem getD_left {l m : List Int} {i : Nat} (h : i < l.length) : (l ++ m).getD i 0 = l.getD i 0 := by
  rw [List.getD_eq_getElem?_getD, List.getElem?_append_left h, ← List.getD_eq_getElem?_getD]
theorem getD_right (l m : List Int) (i : Nat) : (l ++ m).getD (l.length + i) 0 = m.getD i 0 := by
  rw [List.getD_eq_getElem?_getD, List.getElem?_append_right (by omega), Nat.add_sub_cancel_left, ← List.getD_eq_getElem?_getD]
theorem chg_parts {n main : Nat} {l1 l2 : List Int} (h : chgOk n main l1 l2 = true) : l1.length = main ∧ l2.length = n - main ∧ (∀ j, j < l1.length → 1 ≤ l1.getD j 0 ∧ l1.getD j 0 ≤ 1000) ∧ (∀ j, j < l2.length → 1 ≤ l2.getD j 0 ∧ l2.getD j 0 ≤ 1000) := by
  simp only [chgOk, Bool.and_eq_true, decide_eq_true_eq] at h
  obtain ⟨⟨⟨h1, h2⟩, h3⟩, h4⟩ := h
  exact ⟨h1, h2, (ars_parts h3).2, (ars_parts h4).2⟩
/-- The new chains are those of the changed state. -/
theorem chg_main {al l1 l2 : List Int} {n : Nat} (h : chgOk al.length n l1 l2 = true) (hn : n ≤ al.length) (f : Nat → Int) (o : Nat) {d : Nat} (hd : d < 2) {i : Nat} (hi : i < l1.length) : chL (al.take n) l1 (wavL f o d 0 n) l1.length i = (wavL (chF al (l1 ++ l2) o al.length f) o d 0 n).getD i 0 := by
  have h1 := (chg_parts h).1
  rw [wav_chF _ _ _ _ _ _ _ _ hd (by omega) (by omega)]
  unfold chL
  rw [if_pos hi, getD_take (by omega), Nat.zero_add, getD_left hi]
theorem chg_branch {al l1 l2 : List Int} {n : Nat} (h : chgOk al.length n l1 l2 = true) (hn : n ≤ al.length) (f : Nat → Int) (o : Nat) {d : Nat} (hd : d < 2) {i : Nat} (hi : i < l2.length) : chL (al.drop n) l2 (wavL f o d n (al.length - n)) l2.length i = (wavL (chF al (l1 ++ l2) o al.length f) o d n (al.length - n)).getD i 0 := by
  obtain ⟨h1, h2, -⟩ := chg_parts h
  rw [wav_chF _ _ _ _ _ _ _ _ hd (by omega) (by omega)]
  unfold chL
  rw [if_pos hi, getD_drop, ← h1, getD_right]
theorem set6 {W : World} {b : Nat} {a0 a1 a2 a3 a4 a5 a6 a7 a8 a9 a10 a11 a12 x0 x1 x2 : Value} {t : TypeId} (h : W.heap[b]? = some (.cells #[a0, a1, a2, a3, a4, a5, a6, a7, a8, a9, a10, a11, a12] t (0, 0))) : (((W.setCell ⟨b, 0, none⟩ x0).setCell ⟨b, 1, none⟩ x1).setCell ⟨b, 2, none⟩ x2).heap[b]? = some (.cells #[x0, x1, x2, a3, a4, a5, a6, a7, a8, a9, a10, a11, a12] t (0, 0)) := by
  have h1 := heap_setCell_same W b 0 _ _ x0 h
  have h2 := heap_setCell_same _ b 1 _ _ x1 h1
  have h3 := heap_setCell_same _ b 2 _ _ x2 h2
  simpa using h3
theorem set6b {W : World} {b : Nat} {a0 a1 a2 a3 a4 a5 a6 a7 a8 a9 a10 a11 a12 x0 x1 x2 : Value} {t : TypeId} (h : W.heap[b]? = some (.cells #[a0, a1, a2, a3, a4, a5, a6, a7, a8, a9, a10, a11, a12] t (0, 0))) : (((W.setCell ⟨b, 3, none⟩ x0).setCell ⟨b, 4, none⟩ x1).setCell ⟨b, 5, none⟩ x2).heap[b]? = some (.cells #[a0, a1, a2, x0, x1, x2, a6, a7, a8, a9, a10, a11, a12] t (0, 0)) := by
  have h1 := heap_setCell_same W b 3 _ _ x0 h
  have h2 := heap_setCell_same _ b 4 _ _ x1 h1
  have h3 := heap_setCell_same _ b 5 _ _ x2 h2
  simpa using h3
theorem gb_set3 (W : World) (g i j k : Nat) (x y z : Value) : W.grownBy (((W.setCell ⟨g, i, none⟩ x).setCell ⟨g, j, none⟩ y).setCell ⟨g, k, none⟩ z) (some g) := gb_trans (gb_trans (gb_set _ _ _ _) (gb_set _ _ _ _)) (gb_set _ _ _ _)
/-- A chain's slices are in blocks of their own: a store elsewhere leaves them. -/
theorem ChV.grown {W W' : World} {lo rb : Nat} {al fl bl : List Int} {va vf vb : Value} (h : ChV W lo al fl bl va vf vb) (hg : W.grownBy W' (some rb)) (ha : va.ownBlock ≠ some rb) (hf : vf.ownBlock ≠ some rb) (hb : vb.ownBlock ≠ some rb) : ChV W' lo al fl bl va vf vb := by
  have k : ∀ {v : Value} {l : List Int}, SliceV W v 1 IntAt l → v.ownBlock ≠ some rb → SliceV W' v 1 IntAt l := by
    intro v l hs hv
    obtain ⟨a, c, rfl, hm, hs⟩ := hs
    refine ⟨a, c, rfl, hm, ?_⟩
    rcases hs with hs | ⟨b, o, rfl, hs⟩
    · exact .inl hs
    · exact .inr ⟨b, o, rfl, fun j hj => gb_cell hg (hs j hj) (fun e => hv (by rw [e]; rfl))⟩
  exact ⟨k h.areas ha, k h.fwd hf, k h.back hb, h.flen, h.blen, h.lowA, h.lowF, h.lowB⟩
end Go.Proofs.Ytbmbcbknoflpgaa
