/- Contracts: the areas at all times, as an iterator. -/
import Derived.Test.YtbmbcbknoflpgaaJ6
set_option linter.unusedSimpArgs false
set_option linter.unusedVariables false
namespace Go.Proofs.Ytbmbcbknoflpgaa
open Go.RowKit Go.Shelf
attribute [local go_sem] Oper.semAt_some

/-- A slice of the areas at a time, in a row of its own. -/
def ArV (rest : List Int) (l : List Ges) (t : Nat) (v : Value) (W : World) : Prop := ∃ ab, v = .slice (some ⟨ab, 0, none⟩) rest.length rest.length ∧ W.rowIs ab 3 rest.length (fun j => .int .i64 ((arL rest l t).getD j 0))
theorem ms_congr {n0 B0 s1 s2 T g n : Nat} {w0 W : World} {va vb : Value} {X Y X2 Y2 : Nat → Int} (h : MS n0 B0 w0 W s1 s2 T g n va vb X Y) (e1 : ∀ j, j < n → X j = X2 j) (e2 : ∀ j, j < n → Y j = Y2 j) : MS n0 B0 w0 W s1 s2 T g n va vb X2 Y2 :=
  ⟨h.1, h.2, ⟨h.3.1, fun j hj => by rw [← e1 j hj, ← e2 j hj]; exact h.3.2 j hj⟩, h.4, h.5⟩
theorem stp_new {B ab : Nat} {A W : World} (h : Stp B A W) (hab : A.heap.size ≤ ab) (o : Nat) (v : Value) : Stp B A (W.setCell ⟨ab, o, none⟩ v) :=
  ⟨h.1, h.2, h.3, by simpa [World.setCell] using h.4, fun k hk hx => (Below.heap_setCell _ _ _ _ (by simp; omega)).trans (h.5 k hk hx), fun k ob hk ho => (Below.heap_setCell _ _ _ _ (by have := (Array.getElem?_eq_some_iff.1 hk).1; simp; omega)).trans (h.6 k ob hk ho)⟩
set_option maxRecDepth 100000 in
set_option maxHeartbeats 4000000 in
theorem moments_says (m : Nat) (rest : List Int) (l : List Ges) (T s1 s2 n0 : Nat) (va vb : Value) (w0 w : World) (hok : scoOk rest l = true) (hT : T ≤ 1000000) (ha : SliceV w0 va 1 IntAt rest) (hb : SliceV w0 vb 6 GesAt l) (hn : w0.heap.size = n0)
    (hs : w.heap[s1]? = some (.cells #[va, vb] 120 (0, 0))) (ht : Boxed w s2 3 (.int .i64 (T : Int))) (hlow : Below n0 w0 w) (hnw : n0 ≤ w.heap.size) :
    SaysM m Try.prog 98 #[.pointer (some ⟨s1, 0, none⟩), .pointer (some ⟨s2, 0, none⟩)] T (ArV rest l) (KpM n0) w := by
  intro ly J W hW hJ hY h0
  have HA := Lib.hid ha
  have HBV := Lib.hid hb
  obtain ⟨a, c, rfl, -⟩ := ha
  obtain ⟨b, d, rfl, -⟩ := hb
  have hsW := heap_keep hW hs
  have htW := heap_keep hW ht
  have HLW := Lib.hid (hlow.trans (hW.mono hnw))
  have HB0 : Hid (n0 ≤ W.heap.size) := Lib.hid (Nat.le_trans hnw hW.size)
  have HY := Lib.hid hY
  have HJ := Lib.hid hJ
  have HOK := Lib.hid hok
  obtain ⟨p1, p2, p3, p4, p5⟩ := sco_parts hok
  have HN := Lib.hid hn
  have up : ∀ {W' : World}, Below n0 w0 W' → Below w0.heap.size w0 W' := fun h => by rw [hn]; exact h
  have HMV := Lib.hid (moves_any rest (.slice a rest.length c) (.slice b l.length d) W (HA.out.keep IntAt.stable (up HLW.out)) p2)
  have HGL := Lib.hid (fun (s t : Nat) (W' : World) (hs : s < rest.length) (h : Below n0 w0 W') => goal_any rest l s t (.slice a rest.length c) (.slice b l.length d) W' (HA.out.keep IntAt.stable (up h)) (HBV.out.keep GesAt.stable (up h)) hs p2 p4 p5)
  have e0 := cell_of_heap (j := 0) hsW (show 0 < 2 by omega)
  have e1 := cell_of_heap (j := 1) hsW (show 1 < 2 by omega)
  simp at e0 e1
  have e2 := (show Boxed W s2 _ _ from htW).cell
  have l0 := cell_lt e0
  have l2 := cell_lt e2
  have HSW := Lib.hid hsW
  have HTW := Lib.hid htW
  have hmk := makeI rest.length (by omega)
  have H0 := Lib.hid h0
  clear hY hW hs ht hlow hnw hn hJ up hok p3 p4 p5 hsW htW h0
  show CallsIn Fence.wide m Try.prog 98 #[.func (.yield ly) #[] #[], .pointer (some ⟨s1, 0, none⟩), .pointer (some ⟨s2, 0, none⟩)] W _
  refine callsIn_of_wp Try.func98 rfl trivial ?_ rfl
  simp only [Try.ntmps98, List.size_toArray, List.length_cons, List.length_nil, Nat.reduceAdd, Nat.reduceSub, Array.replicate_succ, Array.replicate_zero, List.push_toArray, List.append_toArray, List.nil_append, List.cons_append]
  gi_wp2_with (refine ⟨trivial, fun h => (by cases h), ?_⟩; gi_at_call 99; with_reducible refine (callsIn_wide.2 HMV.out).mono ?_; rintro e w1 ⟨⟨g, rfl, hg, hwl⟩, hb1⟩; have HWL := Lib.hid hwl; have HG := Lib.hid hg; have HB1 := Lib.hid hb1; have f2 := keep hb1 e2; have l3 := cell_lt f2; clear hwl hg hb1)
  have HMS1 : Hid (MS n0 W.heap.size w0 w1 s1 s2 T g rest.length (.slice a rest.length c) (.slice b l.length d) (fun k => (wlk rest l 0 k).1) (fun k => (wlk rest l 0 k).2)) := Lib.hid ⟨heap_keep HB1.out HSW.out, heap_keep HB1.out HTW.out, HWL.out, HG.out, HLW.out.trans (HB1.out.mono HB0.out)⟩
  have HJ1 : Hid (J 0 w1) := Lib.hid (HJ.out 0 W w1 H0.out (Stp.of_below HB1.out))
  have HZ1 : Hid (W.heap.size ≤ w1.heap.size) := Lib.hid HB1.out.size
  obtain ⟨B0, hB0⟩ : ∃ B0, W.heap.size = B0 := ⟨_, rfl⟩
  rw [hB0] at HMS1 HZ1 HB0 HJ HG
  clear e0 e1 e2 l0 l2 f2 l3 H0 HWL HMV HSW HTW
  gi_loopw [12] (fun i wr => ∃ t : Nat, t ≤ T ∧ i = .int .i64 t ∧ Hid (J t wr) ∧ Hid (MS n0 B0 w0 wr s1 s2 T g rest.length (.slice a rest.length c) (.slice b l.length d) (fun k => (wlk rest l t k).1) (fun k => (wlk rest l t k).2)) ∧ Hid (B0 ≤ wr.heap.size)) (fun i _ => T - (intOf i).toNat)
  case atStart => exact ⟨0, Nat.zero_le _, rfl, HJ1, HMS1, HZ1⟩
  case round =>
    clear HMS1 HJ1 HZ1 HB1
    obtain ⟨t, htT, rfl, HJT, HMS, HZ⟩ := hrel
    by_cases hlt : t < T
    · have e0 := cell_of_heap (j := 0) HMS.out.sc (show 0 < 2 by omega)
      simp at e0
      have l0 := cell_lt e0
      have htt : (t : Int) < (T : Int) := by omega
      have HBA := Lib.hid (bAlloc (Below.refl wr.heap.size wr) (.cells (madeCells #[Value.int .i64 0] rest.length) 3))
      have HMS2 := Lib.hid (HMS.out.below HBA.out (by have := HB0.out; have := HZ.out; omega))
      have HR2 : Hid ((wr.alloc (.cells (madeCells #[Value.int .i64 0] rest.length) 3)).rowIs wr.heap.size 3 rest.length (fun j => .int .i64 (if j < 0 then (wlk rest l (t + 1) j).2 else 0))) := Lib.hid ((World.rowIs_made wr (.int .i64 0) rest.length 3).congr fun j _ => by simp)
      have HST2 : Hid (Stp B0 wr (wr.alloc (.cells (madeCells #[Value.int .i64 0] rest.length) 3))) := Lib.hid (Stp.of_below HBA.out)
      have HSA := Lib.hid (Array.getElem?_eq_some_iff.1 HMS.out.sc).1
      have HSB := Lib.hid (Array.getElem?_eq_some_iff.1 HMS.out.ti).1
      have HSG := Lib.hid HMS.out.walls.row.lt
      have HSWL := Lib.hid (fun j (hj : j < rest.length) => (Array.getElem?_eq_some_iff.1 (HMS.out.walls.wall j hj)).1)
      have HZ2 := Lib.hid HBA.out.size
      clear HBA
      gi_wp2
      generalize World.alloc wr _ = W2 at *
      obtain ⟨wt, hwt⟩ : ∃ wt, wr = wt := ⟨_, rfl⟩
      rw [hwt] at HST2 HJT
      obtain ⟨ab, hab⟩ : ∃ ab, wr.heap.size = ab := ⟨_, rfl⟩
      rw [hab] at HR2 HSA HSB HSG HSWL HZ HZ2 ⊢
      have HZT : Hid (wt.heap.size = ab) := Lib.hid (by rw [← hwt]; exact hab)
      clear hab hwt HMS e0 l0
      have HMS3 : Hid (MS n0 B0 w0 W2 s1 s2 T g rest.length (.slice a rest.length c) (.slice b l.length d) (fun j => if j < 0 then (wlk rest l (t + 1) j).1 else (wlk rest l t j).1) (fun j => if j < 0 then (wlk rest l (t + 1) j).2 else (wlk rest l t j).2)) := Lib.hid (by simpa using HMS2.out)
      gi_loopw [21] (fun i wr => ∃ k : Nat, k ≤ rest.length ∧ i = .int .i64 k ∧ Hid (MS n0 B0 w0 wr s1 s2 T g rest.length (.slice a rest.length c) (.slice b l.length d) (fun j => if j < k then (wlk rest l (t + 1) j).1 else (wlk rest l t j).1) (fun j => if j < k then (wlk rest l (t + 1) j).2 else (wlk rest l t j).2)) ∧ Hid (wr.rowIs ab 3 rest.length (fun j => .int .i64 (if j < k then (wlk rest l (t + 1) j).2 else 0))) ∧ Hid (Stp B0 wt wr) ∧ Hid (ab ≤ wr.heap.size)) (fun i _ => rest.length - (intOf i).toNat)
      case atStart => exact ⟨0, Nat.zero_le _, rfl, HMS3, HR2, HST2, HZ2⟩
      case round =>
        clear HMS3 HMS2 HR2 HST2 HZ2
        obtain ⟨k, hk, rfl, HM, HR, HST, HZK⟩ := hrel
        by_cases hkl : k < rest.length
        · have hkk : (k : Int) < (rest.length : Int) := by omega
          have q0 := cell_of_heap (j := 0) HM.out.sc (show 0 < 2 by omega)
          have q1 := cell_of_heap (j := 1) HM.out.sc (show 1 < 2 by omega)
          simp at q0 q1
          have lq := cell_lt q0
          have r0 := HM.out.walls.row.cell (i := k) hkl
          have lr := HM.out.walls.row.lt
          have HW0 := HM.out.walls.wall k hkl
          rw [if_neg (Nat.lt_irrefl k), if_neg (Nat.lt_irrefl k)] at HW0
          have hgr := gol_range HOK.out k t hkl
          have hwr := wlk_range HOK.out k hkl t
          have HX : Hid (wlk rest l (t + 1) k = (flw (wlk rest l t k).1 (golG rest l k t).1 (golG rest l k t).2, flw (wlk rest l t k).2 (flw (wlk rest l t k).1 (golG rest l k t).1 (golG rest l k t).2) (golG rest l k t).2)) := Lib.hid rfl
          obtain ⟨⟨gg, sp⟩, hgs⟩ : ∃ p, golG rest l k t = p := ⟨_, rfl⟩
          obtain ⟨⟨x, y⟩, hxy⟩ : ∃ p, wlk rest l t k = p := ⟨_, rfl⟩
          have HGC := Lib.hid (HGL.out k t wr hkl HM.out.low)
          rw [hgs] at HX hgr HGC
          rw [hxy] at HX hwr HW0
          simp only at HX hgr hwr HW0 HGC
          have HW1 := Lib.hid HW0
          have HMO := Lib.hid (fun (W' : World) (h : W'.heap[g + 1 + k]? = some (.cells #[.int .i64 x, .int .i64 y] 169 (0, 0))) => move_any (g + 1 + k) x y gg sp 169 W' h hwr.1 hwr.2 hgr.1 hgr.2)
          obtain ⟨xn, hxn⟩ : ∃ xn, flw x gg sp = xn := ⟨_, rfl⟩
          rw [hxn] at HMO HX
          obtain ⟨yn, hyn⟩ : ∃ yn, flw y xn sp = yn := ⟨_, rfl⟩
          rw [hyn] at HMO HX
          have HNE : Hid (ab ≠ g + 1 + k) := Lib.hid (by have := HSWL.out k hkl; omega)
          clear hgs hxy hxn hyn HW0 hgr hwr
          gi_wp2_with (first
            | (refine ⟨trivial, fun h => (by cases h), ?_⟩; gi_at_call 100; with_reducible refine (callsIn_wide.2 HGC.out).mono ?_; rintro e w2 ⟨rfl, hb2⟩; have HB2 := Lib.hid hb2; have HW2 := Lib.hid (heap_keep hb2 HW1.out); clear hb2))
          refine ⟨trivial, fun h => (by cases h), ?_⟩
          gi_at_call 108
          with_reducible refine (callsIn_wide.2 (HMO.out _ HW2.out)).mono ?_
          rintro e w3 ⟨rfl, hg3, hc3⟩
          have HG3 := Lib.hid hg3
          have HC3 := Lib.hid hc3
          have hrb := rowB HR.out HB2.out
          have hr3 := hrb.of_block (hg3.block _ hrb.lt (fun e => by simp at e; exact HNE.out (by omega)))
          have c3 := hr3.cell (i := k) hkl
          have z3 := hr3.frozen k
          have l3 := hr3.lt
          have HR3 := Lib.hid hr3
          have HNM : Hid (s1 ≠ ab ∧ s2 ≠ ab ∧ g ≠ ab ∧ (∀ j, j < rest.length → g + 1 + j ≠ ab) ∧ n0 ≤ ab) := Lib.hid ⟨by have := HSA.out; omega, by have := HSB.out; omega, by have := HSG.out; omega, fun j hj => by have := HSWL.out j hj; omega, by have := HB0.out; have := HZ.out; omega⟩
          have HM2 := Lib.hid (HM.out.below HB2.out (by have := HZK.out; have := HNM.out.2.2.2.2; omega))
          have HM3 := Lib.hid (((HM2.out.moved hkl xn yn HG3.out HC3.out HB0.out).set HNM.out.1 HNM.out.2.1 HNM.out.2.2.1 HNM.out.2.2.2.1 HNM.out.2.2.2.2) k (.int .i64 yn))
          have HM4 : Hid (MS n0 B0 w0 (w3.setCell ⟨ab, k, none⟩ (.int .i64 yn)) s1 s2 T g rest.length (.slice a rest.length c) (.slice b l.length d) (fun j => if j < k + 1 then (wlk rest l (t + 1) j).1 else (wlk rest l t j).1) (fun j => if j < k + 1 then (wlk rest l (t + 1) j).2 else (wlk rest l t j).2)) := Lib.hid (by
            have h := HM3.out
            have e1 : upd (fun j => if j < k then (wlk rest l (t + 1) j).1 else (wlk rest l t j).1) k xn = fun j => if j < k + 1 then (wlk rest l (t + 1) j).1 else (wlk rest l t j).1 := by
              funext j
              simp only [upd]
              by_cases hj : j = k
              · subst hj; rw [if_pos rfl, if_pos (by omega), HX.out]
              · rw [if_neg hj]
                by_cases hj2 : j < k
                · rw [if_pos hj2, if_pos (by omega)]
                · rw [if_neg hj2, if_neg (by omega)]
            have e2 : upd (fun j => if j < k then (wlk rest l (t + 1) j).2 else (wlk rest l t j).2) k yn = fun j => if j < k + 1 then (wlk rest l (t + 1) j).2 else (wlk rest l t j).2 := by
              funext j
              simp only [upd]
              by_cases hj : j = k
              · subst hj; rw [if_pos rfl, if_pos (by omega), HX.out]
              · rw [if_neg hj]
                by_cases hj2 : j < k
                · rw [if_pos hj2, if_pos (by omega)]
                · rw [if_neg hj2, if_neg (by omega)]
            rwa [e1, e2] at h)
          have HR4 : Hid ((w3.setCell ⟨ab, k, none⟩ (.int .i64 yn)).rowIs ab 3 rest.length (fun j => .int .i64 (if j < k + 1 then (wlk rest l (t + 1) j).2 else 0))) := Lib.hid ((HR3.out.set k (.int .i64 yn)).congr fun j _ => by
            by_cases hj : j = k
            · subst hj; rw [if_pos rfl, if_pos (by omega), HX.out]
            · rw [if_neg hj]
              by_cases hj2 : j < k
              · rw [if_pos hj2, if_pos (by omega)]
              · rw [if_neg hj2, if_neg (by omega)])
          have HST4 : Hid (Stp B0 wt (w3.setCell ⟨ab, k, none⟩ (.int .i64 yn))) := Lib.hid (stp_new (HST.out.trans ((Stp.of_below HB2.out).trans (Stp.of_wall HG3.out (by have := HG.out; omega) HW2.out))) (by have := HZT.out; omega) k _)
          have HZ4 : Hid (ab ≤ (w3.setCell ⟨ab, k, none⟩ (.int .i64 yn)).heap.size) := Lib.hid (by have h1 := HZK.out; have h2 := HB2.out.size; have h3 := HG3.out.size; simp [World.setCell]; omega)
          clear hg3 hc3 hr3 hrb
          gi_wp2
          go_roundw
          case rel => exact ⟨k + 1, by omega, by go_num, HM4, HR4, HST4, HZ4⟩
          case measure => simp [intOf]; omega
        · obtain rfl : k = rest.length := by omega
          have HSL : Hid (ArV rest l t (.slice (some ⟨ab, 0, none⟩) rest.length rest.length) wr) := Lib.hid ⟨ab, rfl, HR.out.congr fun i hi => by
            rw [if_pos hi, gI (by simp [arL]; exact hi)]
            simp [arL]⟩
          have HJ2 : Hid (J t wr) := Lib.hid (HJ.out t wt wr HJT.out HST.out)
          have HMF : Hid (MS n0 B0 w0 wr s1 s2 T g rest.length (.slice a rest.length c) (.slice b l.length d) (fun j => (wlk rest l (t + 1) j).1) (fun j => (wlk rest l (t + 1) j).2)) := Lib.hid (ms_congr HM.out (fun j hj => by simp only [if_pos hj]) (fun j hj => by simp only [if_pos hj]))
          have HZ3 : Hid (B0 ≤ wr.heap.size) := Lib.hid (by have := HZ.out; have := HZK.out; omega)
          obtain ⟨fn, tmps, assign, body, hy, hR⟩ := yield_any (m - 1) (HY.out t _ wr hlt HJ2.out HSL.out)
          clear HM HR HSL HJ2 HST HZK
          gi_wp2
          refine ⟨fun h => (by cases h), hR.mono ?_⟩
          rintro e W3 ⟨rfl, hJ3, hK3⟩
          have HJ3 := Lib.hid hJ3
          have HMS4 := Lib.hid (HMF.out.kept hK3)
          have HZ4 : Hid (B0 ≤ W3.heap.size) := Lib.hid (by have := hK3.low.size; have := HZ3.out; omega)
          clear hJ3 hy hR hK3
          gi_wp2
          go_roundw
          case rel => exact ⟨t + 1, by omega, by go_num, HJ3, HMS4, HZ4⟩
          case measure => simp [intOf]; omega
    · obtain rfl : t = T := by omega
      gi_wp2
      go_end0
      exact ⟨⟨_, rfl⟩, HJT.out⟩
end Go.Proofs.Ytbmbcbknoflpgaa
