/- Contracts: the joints inside of a chain by the specification. -/
import Derived.Test.YtbmbcbknoflpgaaRM
import Derived.Deep.RegionHeld3
import Derived.Deep.RegionWith
import Derived.Test.YtbmbcbknoflpgaaMP
set_option linter.unusedSimpArgs false
set_option linter.unusedVariables false
namespace Go.Proofs.Ytbmbcbknoflpgaa
open Go.RowKit

theorem cell_newP {V : World} {cs : Array Value} {t j p : Nat} {v : Value} (hp : V.heap.size = p) (h : cs[j]? = some v) : (V.alloc (.cells cs t)).cell? ⟨p, j, none⟩ = some v := by subst hp; exact cell_new h
theorem cellD {W : World} {p : Addr} {v : Value} (h : W.cell? p = some v) : W.drew.cell? p = some v := h
/-- A joint of two sections, of two slices just built. -/
theorem joint_two (a c x y : Int) (ha : 1 ≤ a ∧ a ≤ 1000) (hc : 1 ≤ c ∧ c ≤ 1000) (W : World) (p q : Nat) (p0 : W.cell? ⟨p, 0, none⟩ = some (.int .i64 a)) (p1 : W.cell? ⟨p, 1, none⟩ = some (.int .i64 c)) (q0 : W.cell? ⟨q, 0, none⟩ = some (.int .i64 x)) (q1 : W.cell? ⟨q, 1, none⟩ = some (.int .i64 y)) :
    Calls Try.prog 22 #[.slice (some ⟨p, 0, none⟩) 2 2, .slice (some ⟨q, 0, none⟩) 2 2] W fun e w' => (∃ b o k, e = .returned (.slice (some ⟨b, o, none⟩) 2 k) ∧ (w'.cell? ⟨b, o, none⟩ = some (.int .i64 (sc2 a c x y 0)) ∧ w'.cell? ⟨b, o + 1, none⟩ = some (.int .i64 (sc2 a c x y 1)))) ∧ Below W.heap.size W w' := by
  have two : ∀ (g : Nat) (u v : Int), W.cell? ⟨g, 0, none⟩ = some (.int .i64 u) → W.cell? ⟨g, 1, none⟩ = some (.int .i64 v) → SliceV W (.slice (some ⟨g, 0, none⟩) 2 2) 1 IntAt [u, v] := fun g u v h0 h1 => ⟨_, 2, rfl, ⟨by simp [most], by simp⟩, .inr ⟨g, 0, rfl, fun i hi => by
    rcases (show i = 0 ∨ i = 1 by simp at hi; omega) with rfl | rfl
    · exact h0
    · exact h1⟩⟩
  refine (refScatter_any [a, c] [x, y] _ _ W (two p a c p0 p1) (two q x y q0 q1) (by simp) (by simp) rfl (fun j hj => ?_)).mono ?_
  · rcases (show j = 0 ∨ j = 1 by simp at hj; omega) with rfl | rfl
    · exact ha
    · exact hc
  · rintro e w' ⟨⟨r, rfl, hs⟩, hb⟩
    rw [sct_two] at hs
    obtain ⟨ad, k, rfl, -⟩ := id hs
    obtain ⟨b, o, rfl, h⟩ := hs.at (by simp)
    have h0 := h 0 (by simp)
    have h1 := h 1 (by simp)
    exact ⟨⟨b, o, k, rfl, by simpa [IntAt] using h0, by simpa [IntAt] using h1⟩, hb⟩
set_option maxRecDepth 10000 in
set_option maxHeartbeats 4000000 in
theorem chain_any (l fl bl : List Int) (skip : Int) (va vf vb : Value) (w : World) (ha : SliceV w va 1 IntAt l) (hf : SliceV w vf 1 IntAt fl) (hb : SliceV w vb 1 IntAt bl) (hfl : fl.length = l.length) (hbl : bl.length = l.length) (hn : l.length ≤ 100) (hr : ∀ j, j < l.length → 1 ≤ l.getD j 0 ∧ l.getD j 0 ≤ 1000) :
    Calls Try.prog 69 #[.agg #[va, vf, vb], .int .i64 skip] w fun e w' => (∃ v1 g2 g3, e = .returned (.agg #[v1, .slice (some ⟨g2, 0, none⟩) l.length l.length, .slice (some ⟨g3, 0, none⟩) l.length l.length]) ∧ SideIs w' w.heap.size v1 g2 g3 l.length l (chnF l fl bl skip (l.length - 1)) (chnB l fl bl skip (l.length - 1))) ∧ Below w.heap.size w w' := by
  have HA := Lib.hid ha
  have HF := Lib.hid hf
  have HBB := Lib.hid hb
  have HFL := Lib.hid hfl
  have HBL := Lib.hid hbl
  have HRR := Lib.hid hr
  have HSD := Lib.hid (fun (W : World) (hB : Below w.heap.size w W) => side_any l va W (ha.keep IntAt.stable hB) (by omega))
  obtain ⟨aa, ac, rfl, -⟩ := ha
  obtain ⟨fa, fc, rfl, -⟩ := hf
  obtain ⟨ba, bc, rfl, -⟩ := hb
  have HB1 : Hid (Below w.heap.size w ((w.alloc (.cells #[.slice aa l.length ac, .slice fa fl.length fc, .slice ba bl.length bc] 110)).alloc (.cells #[.slice none 0 0, .slice none 0 0, .slice none 0 0] 110))) := Lib.hid (bAlloc (bAlloc (Below.refl _ _) _) _)
  have HX : Hid (((w.alloc (.cells #[.slice aa l.length ac, .slice fa fl.length fc, .slice ba bl.length bc] 110)).alloc (.cells #[.slice none 0 0, .slice none 0 0, .slice none 0 0] 110)).heap[w.heap.size]? = some (.cells #[.slice aa l.length ac, .slice fa fl.length fc, .slice ba bl.length bc] 110 (0, 0))) := Lib.hid (heap_keep (bAlloc (Below.refl _ _) _) (World.alloc_heap_new w _))
  have HX4 : Hid (((w.alloc (.cells #[.slice aa l.length ac, .slice fa fl.length fc, .slice ba bl.length bc] 110)).alloc (.cells #[.slice none 0 0, .slice none 0 0, .slice none 0 0] 110)).heap[w.heap.size + 1]? = some (.cells #[.slice none 0 0, .slice none 0 0, .slice none 0 0] 110 (0, 0))) := Lib.hid (by have := World.alloc_heap_new (w.alloc (.cells #[.slice aa l.length ac, .slice fa fl.length fc, .slice ba bl.length bc] 110)) (.cells #[.slice none 0 0, .slice none 0 0, .slice none 0 0] 110); rwa [World.size_alloc] at this)
  clear hfl hbl hr
  obtain ⟨n, hnn⟩ : ∃ n, l.length = n := ⟨_, rfl⟩
  have HN := Lib.hid hnn
  rw [hnn] at HA HFL HBL HRR HSD HB1 HX HX4 hn ⊢
  clear hnn
  go_enter Try.func69, Try.ntmps69
  go_wp2_with fail
  generalize World.alloc _ _ = W1 at *
  obtain ⟨sb, hsb⟩ : ∃ sb, w.heap.size = sb := ⟨_, rfl⟩
  have HSB := Lib.hid hsb
  rw [hsb] at HX HX4 ⊢
  clear hsb
  have hx1 := HX.out
  have c0 := cell_of_heap (j := 0) hx1 (show 0 < 3 by omega)
  simp at c0
  have hcl := cell_lt c0
  clear hx1
  go_wp2_with (go_at_call 61; with_reducible refine Calls.mono (HSD.out _ HB1.out) ?_; rintro e w2 ⟨⟨v1, g2, g3, rfl, hs⟩, hb2⟩; obtain ⟨a1, k1, rfl⟩ := hs.shape; have HS0 := Lib.hid hs; have HB2 := Lib.hid hb2; clear hs hb2)
  have HBO := Lib.hid (bAlloc (Below.refl w2.heap.size w2) (.cells #[.slice a1 l.length k1, .slice (some ⟨g2, 0, none⟩) n n, .slice (some ⟨g3, 0, none⟩) n n] 110))
  have HXO : Hid ((w2.alloc (.cells #[.slice a1 l.length k1, .slice (some ⟨g2, 0, none⟩) n n, .slice (some ⟨g3, 0, none⟩) n n] 110)).heap[w2.heap.size]? = some (.cells #[.slice a1 l.length k1, .slice (some ⟨g2, 0, none⟩) n n, .slice (some ⟨g3, 0, none⟩) n n] 110 (0, 0))) := Lib.hid (World.alloc_heap_new w2 _)
  have HGL : Hid (g2 < w2.heap.size ∧ g3 < w2.heap.size ∧ W1.heap.size ≤ g2 ∧ W1.heap.size ≤ g3) := Lib.hid ⟨HS0.out.fwd.lt, HS0.out.back.lt, HS0.out.los.1, HS0.out.los.2⟩
  have HS1 := Lib.hid (HS0.out.below HBO.out)
  obtain ⟨ob, hob⟩ : ∃ ob, w2.heap.size = ob := ⟨_, rfl⟩
  generalize World.alloc w2 _ = W3 at *
  rw [hob] at HXO HGL HBO
  rw [hob]
  have HB3 : Hid (Below W1.heap.size W1 W3) := Lib.hid (bThen HB2.out (by rw [hob]; exact HBO.out))
  clear hob HBO HS0 HB2
  have HX3 := Lib.hid (heap_keep HB3.out HX.out)
  have HX43 := Lib.hid (heap_keep HB3.out HX4.out)
  have HSL : Hid (sb + 1 < W1.heap.size) := Lib.hid (Array.getElem?_eq_some_iff.mp HX4.out).1
  have HS2 : Hid (SideIs W3 W1.heap.size (.slice a1 l.length k1) g2 g3 n l (chnF l fl bl skip 0) (chnB l fl bl skip 0)) := Lib.hid (by rw [chnF_zero, chnB_zero]; exact HS1.out)
  clear HS1 c0 hcl
  go_loopw [6] (fun i wr => ∃ k : Nat, k ≤ n - 1 ∧ i = .int .i64 k ∧ Hid (SideIs wr W1.heap.size (.slice a1 l.length k1) g2 g3 n l (chnF l fl bl skip k) (chnB l fl bl skip k)) ∧ Hid (Kept W3 wr g2 g3)) (fun i _ => n - (intOf i).toNat)
  case atStart => exact ⟨0, Nat.zero_le _, rfl, HS2, Lib.hid (Kept.refl _ _ _)⟩
  case round =>
    clear HS2
    obtain ⟨k, hk, rfl, HR, HK⟩ := hrel
    have hgl := HGL.out
    have hsl := HSL.out
    have hsz : w.heap.size ≤ W1.heap.size := HB1.out.size
    have hx := HK.out.heap HX3.out (by omega) (by omega)
    have HOX := Lib.hid (HK.out.heap HXO.out (by omega) (by omega))
    have c0 := cell_of_heap (j := 0) hx (show 0 < 3 by omega)
    have c1 := cell_of_heap (j := 1) hx (show 1 < 3 by omega)
    have c2 := cell_of_heap (j := 2) hx (show 2 < 3 by omega)
    simp at c0 c1 c2
    have hcl := cell_lt c0
    have hkn2 : IntKind.i64.wrap ((k : Int) + 1) = (k : Int) + 1 := IntWalk.i64_in _ (by omega)
    by_cases hlt : k + 1 < n
    · have HW3 := Lib.hid (bThen HB1.out HB3.out)
      have hnn := HN.out
      obtain ⟨b1, o1, x1, e1, p1, q1⟩ := int_kept HA.out hsz hgl.2.2 HW3.out HK.out (show k < l.length by omega)
      obtain ⟨_, _, _, e1', p1', -⟩ := int_kept HA.out hsz hgl.2.2 HW3.out HK.out (show k + 1 < l.length by omega)
      obtain ⟨b2, o2, x2, e2, p2, q2⟩ := int_kept HF.out hsz hgl.2.2 HW3.out HK.out (show k < fl.length by have := HFL.out; omega)
      obtain ⟨b3, o3, x3, e3, p3, q3⟩ := int_kept HBB.out hsz hgl.2.2 HW3.out HK.out (show k + 1 < bl.length by have := HBL.out; omega)
      obtain ⟨rfl, -, rfl⟩ := Value.slice.inj e1
      obtain ⟨h1, -, -⟩ := Value.slice.inj e1'
      simp only [Option.some.injEq, Addr.mk.injEq] at h1
      obtain ⟨rfl, rfl, -⟩ := h1
      obtain ⟨rfl, -, rfl⟩ := Value.slice.inj e2
      obtain ⟨rfl, -, rfl⟩ := Value.slice.inj e3
      clear e1 e2 e3 e1'
      have i1 : (k : Int) < (n : Int) := by omega
      have i1' : (k : Int) + 1 < (n : Int) := by omega
      have i2 : (k : Int) < (fl.length : Int) := by have := HFL.out; omega
      have i3 : (k : Int) + 1 < (bl.length : Int) := by have := HBL.out; omega
      have hlt2 : k + 1 < n := hlt
      have i5 : (0 : Int) ≤ (k : Int) + 1 := by omega
      have i6 : ((k : Int) + 1).toNat = k + 1 := by omega
      by_cases hks : (k : Int) = skip
      · have g1 : ((k : Int) == skip) = true := by simpa using hks
        have HSF := Lib.hid (chnF_skip l fl bl skip k hks)
        have HSB2 := Lib.hid (chnB_skip l fl bl skip k hks)
        have HKS := Lib.hid hks
        clear hks hcl hsl hsz hgl hnn
        go_wp2_with fail
        go_roundw
        case rel =>
          refine ⟨k + 1, by omega, by go_num, ?_, HK⟩
          rw [HSF.out, HSB2.out]; exact HR
        case measure => simp [intOf]; omega
      · have g1 : ((k : Int) == skip) = false := by simpa using hks
        have HSF := Lib.hid (chnF_succ l fl bl skip k hks)
        have HSB2 := Lib.hid (chnB_succ l fl bl skip k hks)
        have hr1 := HRR.out k (by omega)
        have hr2 := HRR.out (k + 1) hlt
        have HKS := Lib.hid hks
        have HSC := Lib.hid (joint_two (l.getD k 0) (l.getD (k + 1) 0) (fl.getD k 0) (bl.getD (k + 1) 0) hr1 hr2)
        generalize l.getD k 0 = a at *
        generalize l.getD (k + 1) 0 = d at *
        generalize fl.getD k 0 = x at *
        generalize bl.getD (k + 1) 0 = y at *
        generalize sc2 a d x y 0 = s0 at *
        generalize sc2 a d x y 1 = s1 at *
        clear hks hcl hsl hsz hgl hnn hr1 hr2
        have HKX : Hid (∀ X, Below wr.heap.size wr X → (X.cell? ⟨sb, 0, none⟩ = some (.slice (some ⟨b1, o1, none⟩) n ac) ∧ X.cell? ⟨sb, 1, none⟩ = some (.slice (some ⟨b2, o2, none⟩) fl.length fc) ∧ X.cell? ⟨sb, 2, none⟩ = some (.slice (some ⟨b3, o3, none⟩) bl.length bc) ∧ X.cell? ⟨b1, o1 + k, none⟩ = some (.int .i64 a) ∧ X.cell? ⟨b1, o1 + (k + 1), none⟩ = some (.int .i64 d) ∧ X.cell? ⟨b2, o2 + k, none⟩ = some (.int .i64 x) ∧ X.cell? ⟨b3, o3 + (k + 1), none⟩ = some (.int .i64 y))) := Lib.hid (fun X hB => ⟨keep hB c0, keep hB c1, keep hB c2, keep hB p1, keep hB p1', keep hB p2, keep hB p3⟩)
        go_wp2_with fail
        clear p1 p1' p2 p3 c0 c1 c2 hx
        go_region_held3 (fun X => (X.cell? ⟨sb, 0, none⟩ = some (.slice (some ⟨b1, o1, none⟩) n ac) ∧ X.cell? ⟨sb, 1, none⟩ = some (.slice (some ⟨b2, o2, none⟩) fl.length fc) ∧ X.cell? ⟨sb, 2, none⟩ = some (.slice (some ⟨b3, o3, none⟩) bl.length bc) ∧ X.cell? ⟨b1, o1 + k, none⟩ = some (.int .i64 a) ∧ X.cell? ⟨b1, o1 + (k + 1), none⟩ = some (.int .i64 d) ∧ X.cell? ⟨b2, o2 + k, none⟩ = some (.int .i64 x) ∧ X.cell? ⟨b3, o3 + (k + 1), none⟩ = some (.int .i64 y))) (((try dsimp only); exact HKX.out _ (by (repeat (first | exact Below.refl _ _ | exact HB6.out | refine Below.drew ?_ | refine bAlloc ?_ _))))) (first
          | (go_at_call 22; (with_reducible refine Calls.mono (HSC.out _ _ _ (by first | exact cellD (keep (bAlloc (Below.refl _ _) _) (cell_new rfl)) | exact cellD (cell_newP (World.size_alloc _ _) rfl) | fail) (by first | exact cellD (keep (bAlloc (Below.refl _ _) _) (cell_new rfl)) | exact cellD (cell_newP (World.size_alloc _ _) rfl) | fail) (by first | exact cellD (keep (bAlloc (Below.refl _ _) _) (cell_new rfl)) | exact cellD (cell_newP (World.size_alloc _ _) rfl) | fail) (by first | exact cellD (keep (bAlloc (Below.refl _ _) _) (cell_new rfl)) | exact cellD (cell_newP (World.size_alloc _ _) rfl) | fail)) ?_); rintro e w6 ⟨⟨b6, o6, k6, rfl, hc6⟩, hb6⟩; have HB6 : Hid (Below wr.heap.size wr w6) := Lib.hid (bThen (by (repeat (first | exact Below.refl _ _ | refine Below.drew ?_ | refine bAlloc ?_ _))) hb6); have HC6 := Lib.hid hc6; clear hc6 hb6))
        all_goals
          have HK2 := Lib.hid (HK.out.belowR HB6.out)
          have HR2 := Lib.hid (HR.out.below HB6.out)
          have HOX2 := Lib.hid (heap_keep HB6.out HOX.out)
          obtain ⟨y0, y1⟩ := HC6.out
          have hyl := cell_lt y0
          clear HK HR HOX HKX HSC HC6
          generalize w6 = wr at *
          go_wp2_with fail
          have hgl2 := HGL.out
          have hx2 := HOX2.out
          have d1 := cell_of_heap (j := 1) hx2 (show 1 < 3 by omega)
          have d2 := cell_of_heap (j := 2) hx2 (show 2 < 3 by omega)
          simp at d1 d2
          have hdl := cell_lt d1
          have f2 := HR2.out.fwd.cell (i := k + 1) hlt2
          have f3 := HR2.out.back.cell (i := k) (by omega)
          have z2 := HR2.out.fwd.frozen (k + 1)
          have z3 := HR2.out.back.frozen k
          have l2 := HR2.out.fwd.lt
          have l3 := HR2.out.back.lt
          have hne := HR2.out.ne
          have hne2 : g3 ≠ g2 := fun e => hne e.symm
          have on2 : ob ≠ g2 := by omega
          have on3 : ob ≠ g3 := by omega
          have on4 : g2 ≠ ob := by omega
          have on5 : g3 ≠ ob := by omega
          have HE1 : Hid (SideIs ((wr.setCell ⟨g2, k + 1, none⟩ (.int .i64 s1)).setCell ⟨g3, k, none⟩ (.int .i64 s0)) W1.heap.size (.slice a1 l.length k1) g2 g3 n l (chnF l fl bl skip (k + 1)) (chnB l fl bl skip (k + 1))) := Lib.hid (by rw [HSF.out, HSB2.out]; exact (HR2.out.fwd_set (k + 1) s1).back_set k s0)
          have HE2 : Hid (SideIs ((wr.setCell ⟨g3, k, none⟩ (.int .i64 s0)).setCell ⟨g2, k + 1, none⟩ (.int .i64 s1)) W1.heap.size (.slice a1 l.length k1) g2 g3 n l (chnF l fl bl skip (k + 1)) (chnB l fl bl skip (k + 1))) := Lib.hid (by rw [HSF.out, HSB2.out]; exact (HR2.out.back_set k s0).fwd_set (k + 1) s1)
          have HE3 := Lib.hid ((HK2.out.setA (k + 1) (.int .i64 s1)).set k (.int .i64 s0))
          have HE4 := Lib.hid ((HK2.out.set k (.int .i64 s0)).setA (k + 1) (.int .i64 s1))
          generalize chnF l fl bl skip k (k + 1) = xv at *
          generalize chnB l fl bl skip k k = yv at *
          clear hx2 hgl2
          go_region
          all_goals
            go_wp2_with fail
            go_roundw
            case rel =>
              refine ⟨k + 1, by omega, by go_num, ?_, ?_⟩
              · first
                  | exact HE1
                  | exact HE2
                  | exact Lib.hid (HE1.out.below (Below.drew (Below.refl _ _)))
                  | exact Lib.hid (HE2.out.below (Below.drew (Below.refl _ _)))
              · first
                  | exact HE3
                  | exact HE4
                  | exact Lib.hid (HE3.out.belowR (Below.drew (Below.refl _ _)))
                  | exact Lib.hid (HE4.out.belowR (Below.drew (Below.refl _ _)))
            case measure => simp [intOf]; omega
    · obtain rfl : k = n - 1 := by omega
      have HXE := Lib.hid (HK.out.heap HX43.out (by omega) (by omega))
      have hox := HOX.out
      have d0 := cell_of_heap (j := 0) hox (show 0 < 3 by omega)
      have d1 := cell_of_heap (j := 1) hox (show 1 < 3 by omega)
      have d2 := cell_of_heap (j := 2) hox (show 2 < 3 by omega)
      simp at d0 d1 d2
      have hdl := cell_lt d0
      have hxe := HXE.out
      have k0 := cell_of_heap (j := 0) hxe (show 0 < 3 by omega)
      have k1' := cell_of_heap (j := 1) hxe (show 1 < 3 by omega)
      have k2 := cell_of_heap (j := 2) hxe (show 2 < 3 by omega)
      simp at k0 k1' k2
      have hkl := cell_lt k0
      have z0 : ∀ j, wr.frozen? ⟨sb + 1, j, none⟩ = false := fun j => frozen_heap hxe
      have z00 := z0 0
      have z01 := z0 1
      have z02 := z0 2
      have HEND : Hid (SideIs (((wr.setCell ⟨sb + 1, 0, none⟩ (.slice a1 l.length k1)).setCell ⟨sb + 1, 1, none⟩ (.slice (some ⟨g2, 0, none⟩) n n)).setCell ⟨sb + 1, 2, none⟩ (.slice (some ⟨g3, 0, none⟩) n n)) w.heap.size (.slice a1 l.length k1) g2 g3 n l (chnF l fl bl skip (n - 1)) (chnB l fl bl skip (n - 1))) := Lib.hid ((HR.out.of_low fun b h1 h2 => by
        have e : b ≠ sb + 1 := by have := HSL.out; omega
        rw [Below.heap_setCell _ _ _ _ e, Below.heap_setCell _ _ _ _ e, Below.heap_setCell _ _ _ _ e]).mono HB1.out.size)
      have HBE : Hid (Below w.heap.size w wr) := Lib.hid (bThen HB1.out (HB3.out.trans (HK.out.below HB3.out.size HGL.out.2.2.1 HGL.out.2.2.2)))
      have i9 : ¬ ((n - 1 : Nat) : Int) + 1 < (n : Int) := by omega
      clear hx hox hxe c1 c2 hsl hsz hgl z0
      obtain ⟨kk, hkk⟩ : ∃ kk, n - 1 = kk := ⟨_, rfl⟩
      rw [hkk] at hkn2 i9 HEND hlt ⊢
      have HKN := Lib.hid hkk
      clear hkk
      go_wp2_with fail
      all_goals first | (exfalso; omega) | skip
      refine bodyPost_ret (results_cell_row rfl _ _ (sb + 1) 110 #[_, _, _] (0, 0) _ rfl (set3 HXE.out) Try.underlying110 rfl infoSd) rfl ?_
      have hle : w.heap.size ≤ sb + 1 := by rw [HSB.out]; omega
      refine ⟨⟨_, _, _, rfl, by rw [HKN.out]; exact HEND.out⟩, ?_⟩
      exact ((HBE.out.setCell (p := ⟨sb + 1, 0, none⟩) hle _).setCell (p := ⟨sb + 1, 1, none⟩) hle _).setCell (p := ⟨sb + 1, 2, none⟩) hle _
end Go.Proofs.Ytbmbcbknoflpgaa
namespace Go.Proofs.Ytbmbcbknoflpgaa
open Go.RowKit

theorem SideIs.own2 {W : World} {lo g2 g3 n rb : Nat} {v : Value} {l : List Int} {F B : Nat → Int} (h : SideIs W lo v g2 g3 n l F B) (hr : rb < lo) : v.ownBlock ≠ some rb ∧ g2 ≠ rb ∧ g3 ≠ rb :=
  ⟨fun e => by have := h.low rb e; omega, by have := h.los; omega, by have := h.los; omega⟩
theorem ref_changed {w1 w2 S : World} {lo rb st k1 k2 g2 g3 g4 g5 : Nat} {s : Shp} {al l1 l2 : List Int} {f : Nat → Int} {v1 v2 x y : Value} (hc : chgOk al.length s.areas.length l1 l2 = true) (hn : s.areas.length ≤ al.length) (hq : al.length ≤ 48)
    (h1 : SideIs w1 k1 v1 g2 g3 l1.length l1 (chL (al.take s.areas.length) l1 (wavL f (offO al.length st) 0 0 s.areas.length) l1.length) (chL (al.take s.areas.length) l1 (wavL f (offO al.length st) 1 0 s.areas.length) l1.length))
    (h2 : SideIs w2 k2 v2 g4 g5 l2.length l2 (chL (al.drop s.areas.length) l2 (wavL f (offO al.length st) 0 s.areas.length (al.length - s.areas.length)) l2.length) (chL (al.drop s.areas.length) l2 (wavL f (offO al.length st) 1 s.areas.length (al.length - s.areas.length)) l2.length))
    (hr1 : rb < k1) (hr2 : rb < k2) (hlo : lo ≤ rb) (b1 : w1.grownBy S (some rb)) (b2 : w2.grownBy S (some rb))
    (hx : S.heap[rb]? = some (.cells #[v1, .slice (some ⟨g2, 0, none⟩) l1.length l1.length, .slice (some ⟨g3, 0, none⟩) l1.length l1.length, v2, .slice (some ⟨g4, 0, none⟩) l2.length l2.length, .slice (some ⟨g5, 0, none⟩) l2.length l2.length, x, y, .int .i64 s.joint, .int .i64 s.glottis, .int .i64 s.lips, .int .i64 s.nose, .int .i64 (st : Int)] 113 (0, 0))) :
    RefIs S lo rb s (l1 ++ l2) st (chF al (l1 ++ l2) (offO al.length st) al.length f) := by
  obtain ⟨e1, e2, -⟩ := chg_parts hc
  have e3 : (l1 ++ l2).take s.areas.length = l1 := by rw [← e1]; exact List.take_left ..
  have e4 : (l1 ++ l2).drop s.areas.length = l2 := by rw [← e1]; exact List.drop_left ..
  have e5 : (l1 ++ l2).length = al.length := by rw [List.length_append]; omega
  obtain ⟨o1, o2, o3⟩ := h1.own2 hr1
  obtain ⟨o4, o5, o6⟩ := h2.own2 hr2
  refine ⟨v1, _, _, v2, _, _, x, y, hx, ?_, ?_, hlo⟩
  · rw [e3, e5]
    refine (h1.chv (base := lo) (by omega) (by omega) rfl (by rw [wavL_len]; exact e1.symm) (by rw [wavL_len]; exact e1.symm) (fun i hi => chg_main hc hn f _ (by omega) hi) (fun i hi => chg_main hc hn f _ (by omega) hi)).grown b1 o1 ?_ ?_
    · simpa [Value.ownBlock] using o2
    · simpa [Value.ownBlock] using o3
  · rw [e4, e5]
    refine (h2.chv (base := lo) (by omega) (by omega) rfl (by rw [wavL_len]; exact e2.symm) (by rw [wavL_len]; exact e2.symm) (fun i hi => chg_branch hc hn f _ (by omega) hi) (fun i hi => chg_branch hc hn f _ (by omega) hi)).grown b2 o4 ?_ ?_
    · simpa [Value.ownBlock] using o5
    · simpa [Value.ownBlock] using o6
set_option maxRecDepth 10000 in
set_option maxHeartbeats 4000000 in
theorem refTubeChange_any {W : World} {lo rb st : Nat} {s : Shp} {al : List Int} {f : Nat → Int} (h : RefIs W lo rb s al st f) (hn : s.areas.length ≤ al.length) (hq : al.length ≤ 48) (l1 l2 : List Int) (va vb : Value) (ha : SliceV W va 1 IntAt l1) (hb : SliceV W vb 1 IntAt l2) (hc : chgOk al.length s.areas.length l1 l2 = true) :
    Calls Try.prog 29 #[.pointer (some ⟨rb, 0, none⟩), va, vb] W fun e w' => (∃ v, e = .returned v) ∧ RefIs w' lo rb s (l1 ++ l2) st (chF al (l1 ++ l2) (offO al.length st) al.length f) ∧ W.grownBy w' (some rb) := by
  obtain ⟨va1, vf1, vb1, va2, vf2, vb2, x, y, hx, h1, h2, hlo⟩ := h
  obtain ⟨e1, e2, r1, r2⟩ := chg_parts hc
  have HC1 := Lib.hid (fun (X : World) (hB : Below W.heap.size W X) => refchange_any (al.take s.areas.length) (wavL f (offO al.length st) 0 0 s.areas.length) (wavL f (offO al.length st) 1 0 s.areas.length) l1 va1 vf1 vb1 va X (h1.below hB).areas (h1.below hB).fwd (h1.below hB).back (ha.keep IntAt.stable hB) h1.flen h1.blen (by rw [List.length_take]; omega) (by rw [List.length_take]; omega) (fun j hj => (r1 j (by rw [List.length_take] at hj; omega)).1))
  have HC2 := Lib.hid (fun (X : World) (hB : Below W.heap.size W X) => refchange_any (al.drop s.areas.length) (wavL f (offO al.length st) 0 s.areas.length (al.length - s.areas.length)) (wavL f (offO al.length st) 1 s.areas.length (al.length - s.areas.length)) l2 va2 vf2 vb2 vb X (h2.below hB).areas (h2.below hB).fwd (h2.below hB).back (hb.keep IntAt.stable hB) h2.flen h2.blen (by rw [List.length_drop]; omega) (by rw [List.length_drop]; omega) (fun j hj => (r2 j (by rw [List.length_drop] at hj; omega)).1))
  have HX := Lib.hid hx
  have HH := Lib.hid (And.intro hc (And.intro hn (And.intro hq hlo)))
  obtain ⟨a1, n1, rfl, -⟩ := id h1.areas
  obtain ⟨a2, n2, rfl, -⟩ := id h1.fwd
  obtain ⟨a3, n3, rfl, -⟩ := id h1.back
  obtain ⟨a4, n4, rfl, -⟩ := id h2.areas
  obtain ⟨a5, n5, rfl, -⟩ := id h2.fwd
  obtain ⟨a6, n6, rfl, -⟩ := id h2.back
  obtain ⟨a7, n7, rfl, -⟩ := id ha
  obtain ⟨a8, n8, rfl, -⟩ := id hb
  generalize (al.take s.areas.length).length = q1 at *
  generalize (al.drop s.areas.length).length = q2 at *
  generalize (wavL f (offO al.length st) 0 0 s.areas.length).length = q3 at *
  generalize (wavL f (offO al.length st) 1 0 s.areas.length).length = q4 at *
  generalize (wavL f (offO al.length st) 0 s.areas.length (al.length - s.areas.length)).length = q5 at *
  generalize (wavL f (offO al.length st) 1 s.areas.length (al.length - s.areas.length)).length = q6 at *
  have HK : Hid (∀ X, Below W.heap.size W X → (X.cell? ⟨rb, 0, none⟩ = some (.slice a1 q1 n1) ∧ X.cell? ⟨rb, 1, none⟩ = some (.slice a2 q3 n2) ∧ X.cell? ⟨rb, 2, none⟩ = some (.slice a3 q4 n3) ∧ X.cell? ⟨rb, 3, none⟩ = some (.slice a4 q2 n4) ∧ X.cell? ⟨rb, 4, none⟩ = some (.slice a5 q5 n5) ∧ X.cell? ⟨rb, 5, none⟩ = some (.slice a6 q6 n6) ∧ X.frozen? ⟨rb, 0, none⟩ = false ∧ X.frozen? ⟨rb, 1, none⟩ = false ∧ X.frozen? ⟨rb, 2, none⟩ = false ∧ X.frozen? ⟨rb, 3, none⟩ = false ∧ X.frozen? ⟨rb, 4, none⟩ = false ∧ X.frozen? ⟨rb, 5, none⟩ = false)) := Lib.hid (fun X hB => by
    have hx := heap_keep hB HX.out
    have c0 := cell_of_heap (j := 0) hx (show 0 < 13 by omega)
    have c1 := cell_of_heap (j := 1) hx (show 1 < 13 by omega)
    have c2 := cell_of_heap (j := 2) hx (show 2 < 13 by omega)
    have c3 := cell_of_heap (j := 3) hx (show 3 < 13 by omega)
    have c4 := cell_of_heap (j := 4) hx (show 4 < 13 by omega)
    have c5 := cell_of_heap (j := 5) hx (show 5 < 13 by omega)
    simp at c0 c1 c2 c3 c4 c5
    exact ⟨c0, c1, c2, c3, c4, c5, frozen_heap hx, frozen_heap hx, frozen_heap hx, frozen_heap hx, frozen_heap hx, frozen_heap hx⟩)
  clear h1 h2 ha hb hx hc hn hq hlo e1 e2 r1 r2
  go_enter Try.func29, Try.ntmps29
  go_wp2_with fail
  obtain ⟨c0, c1, c2, c3, c4, c5, -⟩ := HK.out W (Below.refl _ _)
  have cl := cell_lt c0
  go_region_with (first
    | (go_at_call 65; (with_reducible refine Calls.mono (HC1.out _ (by (repeat (first | exact Below.refl _ _ | exact HB2.out | exact HB3.out | refine Below.drew ?_ | refine bAlloc ?_ _)))) ?_); rintro e w2 ⟨⟨v1, g2, g3, rfl, hs⟩, hb⟩; obtain ⟨d1, k1, rfl⟩ := hs.shape; have HB2 : Hid (Below W.heap.size W w2) := Lib.hid (bThen (by (repeat (first | exact Below.refl _ _ | exact HB2.out | exact HB3.out | refine Below.drew ?_ | refine bAlloc ?_ _))) hb); have HS2 := Lib.hid hs; have HBa := Lib.hid hb; clear hs hb; obtain ⟨x0, x1, x2, x3, x4, x5, f0, f1, f2, f3, f4, f5⟩ := HK.out _ HB2.out; have xl := cell_lt x0)
    | (go_at_call 65; (with_reducible refine Calls.mono (HC2.out _ (by (repeat (first | exact Below.refl _ _ | exact HB2.out | exact HB3.out | refine Below.drew ?_ | refine bAlloc ?_ _)))) ?_); rintro e w3 ⟨⟨v2, g4, g5, rfl, hs⟩, hb⟩; obtain ⟨d2, k2, rfl⟩ := hs.shape; have HB3 : Hid (Below W.heap.size W w3) := Lib.hid (bThen (by (repeat (first | exact Below.refl _ _ | exact HB2.out | exact HB3.out | refine Below.drew ?_ | refine bAlloc ?_ _))) hb); have HS3 := Lib.hid hs; have HBb := Lib.hid hb; clear hs hb; obtain ⟨y0, y1, y2, y3, y4, y5, g0, g1, g2', g3', g4', g5'⟩ := HK.out _ HB3.out; have yl := cell_lt y0))
  all_goals
    clear x0 x1 x2 x3 x4 x5 f0 f1 f2 f3 f4 f5 y0 y1 y2 y3 y4 y5 g0 g1 g2' g3' g4' g5' xl yl
    have HCL := Lib.hid cl
    clear c0 c1 c2 c3 c4 c5 cl
    go_wp2_with fail
    generalize hS : World.setCell (World.setCell (World.setCell (World.setCell (World.setCell (World.setCell w3 _ _) _ _) _ _) _ _) _ _) _ _ = S
    have h23 : Below w2.heap.size w2 w3 := bThen (by (repeat (first | exact Below.refl _ _ | refine Below.drew ?_ | refine bAlloc ?_ _))) HBb.out
    have hx3 := heap_keep HB3.out HX.out
    have hxS := (congrArg (fun W : World => W.heap[rb]?) hS).symm.trans (set6b (set6 hx3))
    have hgS : w3.grownBy S (some rb) := by rw [← hS]; exact gb_trans (gb_set3 _ _ _ _ _ _ _ _) (gb_set3 _ _ _ _ _ _ _ _)
    have hgW : W.grownBy S (some rb) := gb_trans (gb_below HB3.out _) hgS
    clear hS
    obtain ⟨hc, hn, hq, hlo⟩ := HH.out
    have hs2 := HS2.out
    have hs3 := HS3.out
    have hl := HCL.out
    have z2 := HB2.out.size
    have z3 := HB3.out.size
    go_end0
    exact ⟨⟨_, rfl⟩, ref_changed hc hn hq hs2 hs3 (by (try simp only [World.size_drew]); omega) (by (try simp only [World.size_drew]); omega) hlo (gb_trans (gb_below h23 _) hgS) hgS hxS, hgW⟩
end Go.Proofs.Ytbmbcbknoflpgaa
namespace Go.Proofs.Ytbmbcbknoflpgaa
open Go.RowKit

/-- A joint left out of the main chain: that of the branch, if there is one. -/
def skp (j : Int) (b : Nat) : Int := if b = 0 then -1 else j
/-- The waves that leave the joint of the branch. -/
def forkV (al : List Int) (n j oo : Nat) (f : Nat → Int) (i : Nat) : Int := sc3 (al.getD j 0) (al.getD (j + 1) 0) (al.getD n 0) (f (oo + j * 2)) (f (oo + (j + 1) * 2 + 1)) (f (oo + n * 2 + 1)) i
def mainF (al : List Int) (n b j oo : Nat) (g : Int) (f : Nat → Int) : Nat → Int :=
  upd (if b = 0 then chnF (al.take n) (wavL f oo 0 0 n) (wavL f oo 1 0 n) (skp j b) (n - 1) else upd (chnF (al.take n) (wavL f oo 0 0 n) (wavL f oo 1 0 n) (skp j b) (n - 1)) (j + 1) (forkV al n j oo f 1)) 0 (thr g (f (oo + 1)))
def mainB (al : List Int) (n b j oo : Nat) (li : Int) (f : Nat → Int) : Nat → Int :=
  upd (if b = 0 then chnB (al.take n) (wavL f oo 0 0 n) (wavL f oo 1 0 n) (skp j b) (n - 1) else upd (chnB (al.take n) (wavL f oo 0 0 n) (wavL f oo 1 0 n) (skp j b) (n - 1)) j (forkV al n j oo f 0)) (n - 1) (thr (-li) (f (oo + (n - 1) * 2)))
def armF (al : List Int) (n b j oo : Nat) (f : Nat → Int) : Nat → Int :=
  upd (chnF (al.drop n) (wavL f oo 0 n b) (wavL f oo 1 n b) (-1) (b - 1)) 0 (forkV al n j oo f 2)
def armB (al : List Int) (n b oo : Nat) (no : Int) (f : Nat → Int) : Nat → Int :=
  upd (chnB (al.drop n) (wavL f oo 0 n b) (wavL f oo 1 n b) (-1) (b - 1)) (b - 1) (thr (-no) (f (oo + (n - 1 + b) * 2)))
theorem chnF_at {l fl bl : List Int} {skip : Int} {k i : Nat} (h1 : 1 ≤ i) (h2 : i ≤ k) (h3 : (i : Int) - 1 ≠ skip) : chnF l fl bl skip k i = sc2 (l.getD (i - 1) 0) (l.getD i 0) (fl.getD (i - 1) 0) (bl.getD i 0) 1 := by unfold chnF; rw [if_pos ⟨h1, h2, h3⟩]
theorem chnB_at {l fl bl : List Int} {skip : Int} {k i : Nat} (h2 : i < k) (h3 : (i : Int) ≠ skip) : chnB l fl bl skip k i = sc2 (l.getD i 0) (l.getD (i + 1) 0) (fl.getD i 0) (bl.getD (i + 1) 0) 0 := by unfold chnB; rw [if_pos ⟨h2, h3⟩]
theorem wav0 (f : Nat → Int) (o m i : Nat) (hi : i < m) : (wavL f o 0 0 m).getD i 0 = f (o + i * 2) := by rw [wavL_get _ _ _ _ _ _ hi, Nat.zero_add, Nat.add_zero]
theorem wav1 (f : Nat → Int) (o m i : Nat) (hi : i < m) : (wavL f o 1 0 m).getD i 0 = f (o + i * 2 + 1) := by rw [wavL_get _ _ _ _ _ _ hi, Nat.zero_add]
theorem wav2 (f : Nat → Int) (o a m i : Nat) (hi : i < m) : (wavL f o 0 a m).getD i 0 = f (o + (a + i) * 2) := by rw [wavL_get _ _ _ _ _ _ hi, Nat.add_zero]
section
variable {al : List Int} {n b j oo on : Nat} {g li no : Int} {f H : Nat → Int}
theorem mainF_next (h : NextIs (fun i => al.getD i 0) n b j g li no oo on f H) (hn : 1 ≤ n) {i : Nat} (hi : i < n) : mainF al n b j oo g f i = H (on + i * 2) := by
  unfold mainF upd
  by_cases e : i = 0
  · subst e; rw [if_pos rfl, Nat.zero_mul, Nat.add_zero]; exact h.glo.symm
  · rw [if_neg e]
    obtain ⟨k, rfl⟩ : ∃ k, i = k + 1 := ⟨i - 1, by omega⟩
    by_cases hb : b = 0
    · rw [if_pos hb, chnF_at (by omega) (by omega) (by unfold skp; rw [if_pos hb]; omega), (h.mid k (by omega) (by omega)).2, Nat.add_sub_cancel, getD_take (by omega), getD_take hi, wav0 _ _ _ _ (by omega), wav1 _ _ _ _ hi]
    · rw [if_neg hb]
      by_cases ej : k = j
      · subst ej
        rw [if_pos rfl, (h.fork (by omega)).2.1]; rfl
      · rw [if_neg (by omega), chnF_at (by omega) (by omega) (by unfold skp; rw [if_neg hb]; omega), (h.mid k (by omega) (by omega)).2, Nat.add_sub_cancel, getD_take (by omega), getD_take hi, wav0 _ _ _ _ (by omega), wav1 _ _ _ _ hi]
theorem mainB_next (h : NextIs (fun i => al.getD i 0) n b j g li no oo on f H) (hn : 1 ≤ n) (hj : 0 < b → j < n - 1) {i : Nat} (hi : i < n) : mainB al n b j oo li f i = H (on + i * 2 + 1) := by
  unfold mainB upd
  by_cases e : i = n - 1
  · subst e; rw [if_pos rfl]; exact h.lip.symm
  · rw [if_neg e]
    by_cases hb : b = 0
    · rw [if_pos hb, chnB_at (by omega) (by unfold skp; rw [if_pos hb]; omega), (h.mid i (by omega) (by omega)).1, getD_take hi, getD_take (by omega), wav0 _ _ _ _ hi, wav1 _ _ _ _ (by omega)]
    · rw [if_neg hb]
      by_cases ej : i = j
      · subst ej
        rw [if_pos rfl, (h.fork (by omega)).1]; rfl
      · rw [if_neg ej, chnB_at (by omega) (by unfold skp; rw [if_neg hb]; omega), (h.mid i (by omega) (by omega)).1, getD_take hi, getD_take (by omega), wav0 _ _ _ _ hi, wav1 _ _ _ _ (by omega)]
theorem armF_next (h : NextIs (fun i => al.getD i 0) n b j g li no oo on f H) {i : Nat} (hi : i < b) : armF al n b j oo f i = H (on + (n + i) * 2) := by
  unfold armF upd
  by_cases e : i = 0
  · subst e; rw [if_pos rfl, Nat.add_zero, (h.fork (by omega)).2.2]; rfl
  · rw [if_neg e]
    obtain ⟨k, rfl⟩ : ∃ k, i = k + 1 := ⟨i - 1, by omega⟩
    have h1 := (h.arm (by omega) k (by omega)).2
    rw [Nat.add_assoc n k 1] at h1
    rw [chnF_at (by omega) (by omega) (by omega), h1, Nat.add_sub_cancel, getD_drop, getD_drop, wav2 _ _ _ _ _ (by omega), wavL_get _ _ _ _ _ _ hi]
theorem armB_next (h : NextIs (fun i => al.getD i 0) n b j g li no oo on f H) (hn : 1 ≤ n) {i : Nat} (hi : i < b) : armB al n b oo no f i = H (on + (n + i) * 2 + 1) := by
  unfold armB upd
  by_cases e : i = b - 1
  · subst e
    rw [if_pos rfl, ← h.nos (by omega), show n - 1 + b = n + (b - 1) by omega]
  · rw [if_neg e]
    have h1 := (h.arm (by omega) i (by omega)).1
    rw [Nat.add_assoc n i 1] at h1
    rw [chnB_at (by omega) (by omega), h1, getD_drop, getD_drop, wav2 _ _ _ _ _ hi, wavL_get _ _ _ _ _ _ (by omega)]
end
/-- Feeds in a row of forward waves. -/
def fdsF (F : Nat → Int) (l : List Fd) : Nat → Int := l.foldl (fun F x => upd F x.sec.toNat (wrap64 (F x.sec.toNat + x.amt))) F
theorem fdsF_snoc (F : Nat → Int) (l : List Fd) (x : Fd) : fdsF F (l ++ [x]) = upd (fdsF F l) x.sec.toNat (wrap64 (fdsF F l x.sec.toNat + x.amt)) := by unfold fdsF; rw [List.foldl_append]; rfl
theorem feeds_row {G F : Nat → Int} {on n : Nat} (h : ∀ i, i < n → F i = G (on + i * 2)) (l : List Fd) : (∀ x ∈ l, 0 ≤ x.sec ∧ x.sec < (n : Int)) → (∀ i, i < n → fdsF F l i = feedsA on l G (on + i * 2)) ∧ ∀ q, (∀ i, i < n → q ≠ on + i * 2) → feedsA on l G q = G q := by
  refine snoc_ind (P := fun (l : List Fd) => (∀ x ∈ l, 0 ≤ x.sec ∧ x.sec < (n : Int)) → (∀ i, i < n → fdsF F l i = feedsA on l G (on + i * 2)) ∧ ∀ q, (∀ i, i < n → q ≠ on + i * 2) → feedsA on l G q = G q) (fun _ => ⟨h, fun _ _ => rfl⟩) (fun l x ih hx => ?_) l
  obtain ⟨h1, h2⟩ := ih (fun y hy => hx y (List.mem_append_left _ hy))
  obtain ⟨x0, x1⟩ := hx x (List.mem_append_right _ (List.mem_singleton.2 rfl))
  have hs : x.sec.toNat < n := by omega
  rw [fdsF_snoc, feedsA_snoc]
  refine ⟨fun i hi => ?_, fun q hq => ?_⟩
  · unfold feedA upd
    by_cases e : i = x.sec.toNat
    · rw [if_pos e, if_pos (by omega), h1 _ hs]
    · rw [if_neg e, if_neg (by omega), h1 i hi]
  · unfold feedA upd
    rw [if_neg (hq _ hs)]
    exact h2 q hq
/-- The specification's tube after a step. -/
theorem ref_stepped {w1 S : World} {lo rb st k1 k2 g2 g3 g4 g5 : Nat} {s : Shp} {al : List Int} {fl : List Fd} {f : Nat → Int} {v1 v2 x y : Value} (hs : shpOk s = true) (hl : al.length = s.areas.length + s.branch.length) (hfd : ∀ x ∈ fl, 0 ≤ x.sec ∧ x.sec < (s.areas.length : Int))
    (h1 : SideIs w1 k1 v1 g2 g3 s.areas.length (al.take s.areas.length) (fdsF (mainF al s.areas.length s.branch.length s.joint.toNat (offO al.length st) s.glottis f) fl) (mainB al s.areas.length s.branch.length s.joint.toNat (offO al.length st) s.lips f))
    {F2 B2 : Nat → Int} (h2 : SideIs w1 k2 v2 g4 g5 s.branch.length (al.drop s.areas.length) F2 B2) (hF2 : 0 < s.branch.length → F2 = armF al s.areas.length s.branch.length s.joint.toNat (offO al.length st) f) (hB2 : 0 < s.branch.length → B2 = armB al s.areas.length s.branch.length (offO al.length st) s.nose f)
    (hr1 : rb < k1) (hr2 : rb < k2) (hlo : lo ≤ rb) (b1 : w1.grownBy S (some rb))
    (hx : S.heap[rb]? = some (.cells #[v1, .slice (some ⟨g2, 0, none⟩) s.areas.length s.areas.length, .slice (some ⟨g3, 0, none⟩) s.areas.length s.areas.length, v2, .slice (some ⟨g4, 0, none⟩) s.branch.length s.branch.length, .slice (some ⟨g5, 0, none⟩) s.branch.length s.branch.length, x, y, .int .i64 s.joint, .int .i64 s.glottis, .int .i64 s.lips, .int .i64 s.nose, .int .i64 ((st + 1 : Nat) : Int)] 113 (0, 0))) :
    RefIs S lo rb s al (st + 1) (nxtF al (shpPlaces s) st fl f) := by
  have hN := shp_next hs al hl st f
  obtain ⟨p1, p2, p3, p4, p5, p6, p7⟩ := shp_parts hs
  have hla : s.last = if s.branch.length = 0 then 0 else (s.areas.length : Int) - 2 := rfl
  have hj : 0 < s.branch.length → s.joint.toNat < s.areas.length - 1 := fun hb => by rw [hla, if_neg (by omega)] at p4; omega
  have hn24 := (ars_parts p2).1
  have hm24 := (ars_parts p3).1
  have hfr := feeds_row (on := offO al.length (st + 1)) (fun i hi => mainF_next hN p1 hi) fl hfd
  have hrow : ∀ i, i < s.areas.length → fdsF (mainF al s.areas.length s.branch.length s.joint.toNat (offO al.length st) s.glottis f) fl i = nxtF al (shpPlaces s) st fl f (offO al.length (st + 1) + i * 2) := fun i hi => hfr.1 i hi
  have hoth : ∀ q, (∀ i, i < s.areas.length → q ≠ offO al.length (st + 1) + i * 2) → nxtF al (shpPlaces s) st fl f q = stpF al (shpPlaces s) st f q := fun q hq => hfr.2 q hq
  have e6 : al.length - s.areas.length = s.branch.length := by omega
  obtain ⟨o1, o2, o3⟩ := h1.own2 hr1
  obtain ⟨o4, o5, o6⟩ := h2.own2 hr2
  refine ⟨v1, _, _, v2, _, _, x, y, hx, ?_, ?_, hlo⟩
  · refine (h1.chv (base := lo) (by omega) (by omega) (by rw [List.length_take]; omega) (by rw [wavL_len]) (by rw [wavL_len]) (fun i hi => ?_) (fun i hi => ?_)).grown b1 o1 ?_ ?_
    · rw [wav0 _ _ _ _ hi]; exact hrow i hi
    · rw [wav1 _ _ _ _ hi, hoth _ (fun k hk => by omega)]; exact mainB_next hN p1 hj hi
    · simpa [Value.ownBlock] using o2
    · simpa [Value.ownBlock] using o3
  · rw [e6]
    refine (h2.chv (base := lo) (by omega) (by omega) (by rw [List.length_drop]; omega) (by rw [wavL_len]) (by rw [wavL_len]) (fun i hi => ?_) (fun i hi => ?_)).grown b1 o4 ?_ ?_
    · rw [hF2 (by omega), wav2 _ _ _ _ _ hi, hoth _ (fun k hk => by omega)]; exact armF_next hN hi
    · rw [hB2 (by omega), wavL_get _ _ _ _ _ _ hi, hoth _ (fun k hk => by omega)]; exact armB_next hN p1 hi
    · simpa [Value.ownBlock] using o5
    · simpa [Value.ownBlock] using o6
/-- What is heard at the lips. -/
theorem lip_says {s : Shp} {al : List Int} {st : Nat} {f : Nat → Int} (hs : shpOk s = true) (hl : al.length = s.areas.length + s.branch.length) :
    wrap64 (f (offO al.length st + (s.areas.length - 1) * 2) + thr (-s.lips) (f (offO al.length st + (s.areas.length - 1) * 2))) = lipF al s.areas.length (shpPlaces s) st f := by
  have hN := shp_next hs al hl st f
  obtain ⟨p1, -⟩ := shp_parts hs
  unfold lipF heardL
  rw [hN.lip, hN.old _ (by omega)]
/-- What is heard at the nose. -/
theorem nose_says {s : Shp} {al : List Int} {st : Nat} {f : Nat → Int} (hs : shpOk s = true) (hl : al.length = s.areas.length + s.branch.length) (hb : 0 < s.branch.length) :
    wrap64 (f (offO al.length st + (s.areas.length - 1 + s.branch.length) * 2) + thr (-s.nose) (f (offO al.length st + (s.areas.length - 1 + s.branch.length) * 2))) = nosF al s.areas.length (shpPlaces s) st f := by
  have hN := shp_next hs al hl st f
  obtain ⟨p1, -⟩ := shp_parts hs
  unfold nosF noseL
  rw [if_pos (by omega), show al.length - 1 = s.areas.length - 1 + s.branch.length by omega, hN.nos hb, hN.old _ (by omega)]
theorem nose_none {s : Shp} {al : List Int} {st : Nat} {f : Nat → Int} (hl : al.length = s.areas.length + s.branch.length) (hb : s.branch.length = 0) : nosF al s.areas.length (shpPlaces s) st f = 0 := by
  unfold nosF noseL
  rw [if_neg (by omega)]
end Go.Proofs.Ytbmbcbknoflpgaa
namespace Go.Proofs.Ytbmbcbknoflpgaa
open Go.RowKit

theorem ent_ne {X : World} {a b : Nat} {t u : TypeId} {cs ds : Array Value} (h : X.heap[a]? = some (.cells cs t (0, 0))) (k : X.heap[b]? = some (.cells ds u (0, 0))) (hne : t ≠ u) : a ≠ b := by
  rintro rfl
  rw [h] at k
  cases k
  exact hne rfl
/-- A list's slice does not lie in a block. -/
def Far (v : Value) (l : List Int) (g : Nat) : Prop := l = [] ∨ v.ownBlock ≠ some g
theorem far_new {X : World} {v : Value} {l : List Int} {g : Nat} (h : SliceV X v 1 IntAt l) (hg : X.heap.size ≤ g) : Far v l g := by
  by_cases e : l = []
  · exact .inl e
  · refine .inr fun hv => ?_
    obtain ⟨a, c, rfl, -⟩ := id h
    obtain ⟨b, o, rfl, hx⟩ := h.at e
    have h0 := hx 0 (by cases l with | nil => exact absurd rfl e | cons => simp)
    have h1 := cell_lt h0
    simp only [Value.ownBlock, Option.some.injEq] at hv
    omega
theorem SliceV.set_far {W : World} {v : Value} {l : List Int} {g : Nat} (h : SliceV W v 1 IntAt l) (hg : Far v l g) (i : Nat) (x : Value) : SliceV (W.setCell ⟨g, i, none⟩ x) v 1 IntAt l := by
  rcases hg with rfl | hg
  · obtain ⟨a, c, rfl, hl, -⟩ := h
    exact ⟨a, c, rfl, hl, .inl rfl⟩
  · exact h.set_other hg i x
theorem SideIs.other {X : World} {lo g2 g3 n g : Nat} {v : Value} {l : List Int} {F B : Nat → Int} (h : SideIs X lo v g2 g3 n l F B) (h2 : g ≠ g2) (h3 : g ≠ g3) (hv : Far v l g) (i : Nat) (x : Value) : SideIs (X.setCell ⟨g, i, none⟩ x) lo v g2 g3 n l F B :=
  ⟨h.areas.set_far hv _ _, h.fwd.of_block (Below.heap_setCell _ _ _ _ h2.symm), h.back.of_block (Below.heap_setCell _ _ _ _ h3.symm), h.ne, h.los, h.apart, h.low⟩
/-- The boxes and rows of a step. -/
structure StAt (W X : World) (k0 b4 b5 b6 b10 b11 b12 g2 g3 g4 g5 n b : Nat) (c5 c6 : Array Value) (v1 v2 : Value) (lm lb : List Int) (F B F2 B2 : Nat → Int) (hl hn : Int) : Prop where
  below : Below W.heap.size W X
  e4 : X.heap[b4]? = some (.cells #[.int .i64 0, .int .i64 0] 51 (0, 0))
  e5 : X.heap[b5]? = some (.cells c5 110 (0, 0))
  e6 : X.heap[b6]? = some (.cells c6 110 (0, 0))
  e10 : X.heap[b10]? = some (.cells #[v1, .slice (some ⟨g2, 0, none⟩) n n, .slice (some ⟨g3, 0, none⟩) n n] 110 (0, 0))
  e11 : X.heap[b11]? = some (.cells #[v2, .slice (some ⟨g4, 0, none⟩) b b, .slice (some ⟨g5, 0, none⟩) b b] 110 (0, 0))
  e12 : X.heap[b12]? = some (.cells #[.int .i64 hl, .int .i64 hn] 51 (0, 0))
  s1 : SideIs X k0 v1 g2 g3 n lm F B
  s2 : SideIs X k0 v2 g4 g5 b lb F2 B2
  ne : g2 ≠ g4 ∧ g2 ≠ g5 ∧ g3 ≠ g4 ∧ g3 ≠ g5
  ap1 : Far v1 lm g4 ∧ Far v1 lm g5
  ap2 : Far v2 lb g2 ∧ Far v2 lb g3
  k0w : W.heap.size ≤ k0
  b4k : b4 < k0 ∧ W.heap.size ≤ b4
  b12k : b4 ≠ b12 ∧ W.heap.size ≤ b12
  av : Far v1 lm b12 ∧ Far v2 lb b12
section
variable {W X X' : World} {k0 b4 b5 b6 b10 b11 b12 g2 g3 g4 g5 n b : Nat} {c5 c6 : Array Value} {v1 v2 : Value} {lm lb : List Int} {F B F2 B2 : Nat → Int} {hl hn : Int}
theorem StAt.belowR (h : StAt W X k0 b4 b5 b6 b10 b11 b12 g2 g3 g4 g5 n b c5 c6 v1 v2 lm lb F B F2 B2 hl hn) (hB : Below X.heap.size X X') : StAt W X' k0 b4 b5 b6 b10 b11 b12 g2 g3 g4 g5 n b c5 c6 v1 v2 lm lb F B F2 B2 hl hn :=
  ⟨bThen h.below hB, heap_keep hB h.e4, heap_keep hB h.e5, heap_keep hB h.e6, heap_keep hB h.e10, heap_keep hB h.e11, heap_keep hB h.e12, h.s1.below hB, h.s2.below hB, h.ne, h.ap1, h.ap2, h.k0w, h.b4k, h.b12k, h.av⟩
theorem StAt.rows {F' B' F2' B2' : Nat → Int} (h : StAt W X k0 b4 b5 b6 b10 b11 b12 g2 g3 g4 g5 n b c5 c6 v1 v2 lm lb F B F2 B2 hl hn) {g N i : Nat} {fr : Nat → Value} {x : Value} (hr : X.rowIs g 3 N fr) (hg : k0 ≤ g) (s1 : SideIs (X.setCell ⟨g, i, none⟩ x) k0 v1 g2 g3 n lm F' B') (s2 : SideIs (X.setCell ⟨g, i, none⟩ x) k0 v2 g4 g5 b lb F2' B2') :
    StAt W (X.setCell ⟨g, i, none⟩ x) k0 b4 b5 b6 b10 b11 b12 g2 g3 g4 g5 n b c5 c6 v1 v2 lm lb F' B' F2' B2' hl hn := by
  have hgb := gb_set X g i x
  have hk := h.k0w
  exact ⟨h.below.setCell (p := ⟨g, i, none⟩) (Nat.le_trans hk hg) _, gb_heap hgb h.e4 (box_ne h.e4 hr (by decide)), gb_heap hgb h.e5 (box_ne h.e5 hr (by decide)), gb_heap hgb h.e6 (box_ne h.e6 hr (by decide)), gb_heap hgb h.e10 (box_ne h.e10 hr (by decide)), gb_heap hgb h.e11 (box_ne h.e11 hr (by decide)), gb_heap hgb h.e12 (box_ne h.e12 hr (by decide)), s1, s2, h.ne, h.ap1, h.ap2, h.k0w, h.b4k, h.b12k, h.av⟩
theorem StAt.setF (h : StAt W X k0 b4 b5 b6 b10 b11 b12 g2 g3 g4 g5 n b c5 c6 v1 v2 lm lb F B F2 B2 hl hn) (i : Nat) (x : Int) : StAt W (X.setCell ⟨g2, i, none⟩ (.int .i64 x)) k0 b4 b5 b6 b10 b11 b12 g2 g3 g4 g5 n b c5 c6 v1 v2 lm lb (upd F i x) B F2 B2 hl hn :=
  h.rows h.s1.fwd h.s1.los.1 (h.s1.fwd_set i x) (h.s2.other h.ne.1 h.ne.2.1 h.ap2.1 i _)
theorem StAt.setB (h : StAt W X k0 b4 b5 b6 b10 b11 b12 g2 g3 g4 g5 n b c5 c6 v1 v2 lm lb F B F2 B2 hl hn) (i : Nat) (x : Int) : StAt W (X.setCell ⟨g3, i, none⟩ (.int .i64 x)) k0 b4 b5 b6 b10 b11 b12 g2 g3 g4 g5 n b c5 c6 v1 v2 lm lb F (upd B i x) F2 B2 hl hn :=
  h.rows h.s1.back h.s1.los.2 (h.s1.back_set i x) (h.s2.other h.ne.2.2.1 h.ne.2.2.2 h.ap2.2 i _)
theorem StAt.setF2 (h : StAt W X k0 b4 b5 b6 b10 b11 b12 g2 g3 g4 g5 n b c5 c6 v1 v2 lm lb F B F2 B2 hl hn) (i : Nat) (x : Int) : StAt W (X.setCell ⟨g4, i, none⟩ (.int .i64 x)) k0 b4 b5 b6 b10 b11 b12 g2 g3 g4 g5 n b c5 c6 v1 v2 lm lb F B (upd F2 i x) B2 hl hn :=
  h.rows h.s2.fwd h.s2.los.1 (h.s1.other h.ne.1.symm h.ne.2.2.1.symm h.ap1.1 i _) (h.s2.fwd_set i x)
theorem StAt.setB2 (h : StAt W X k0 b4 b5 b6 b10 b11 b12 g2 g3 g4 g5 n b c5 c6 v1 v2 lm lb F B F2 B2 hl hn) (i : Nat) (x : Int) : StAt W (X.setCell ⟨g5, i, none⟩ (.int .i64 x)) k0 b4 b5 b6 b10 b11 b12 g2 g3 g4 g5 n b c5 c6 v1 v2 lm lb F B F2 (upd B2 i x) hl hn :=
  h.rows h.s2.back h.s2.los.2 (h.s1.other h.ne.2.1.symm h.ne.2.2.2.symm h.ap1.2 i _) (h.s2.back_set i x)
theorem StAt.box (h : StAt W X k0 b4 b5 b6 b10 b11 b12 g2 g3 g4 g5 n b c5 c6 v1 v2 lm lb F B F2 B2 hl hn) (i : Nat) (x : Value) {hl' hn' : Int} (hx : (X.setCell ⟨b12, i, none⟩ x).heap[b12]? = some (.cells #[.int .i64 hl', .int .i64 hn'] 51 (0, 0))) : StAt W (X.setCell ⟨b12, i, none⟩ x) k0 b4 b5 b6 b10 b11 b12 g2 g3 g4 g5 n b c5 c6 v1 v2 lm lb F B F2 B2 hl' hn' := by
  have hgb := gb_set X b12 i x
  exact ⟨h.below.setCell (p := ⟨b12, i, none⟩) h.b12k.2 _, gb_heap hgb h.e4 h.b12k.1, gb_heap hgb h.e5 (ent_ne h.e5 h.e12 (by decide)), gb_heap hgb h.e6 (ent_ne h.e6 h.e12 (by decide)), gb_heap hgb h.e10 (ent_ne h.e10 h.e12 (by decide)), gb_heap hgb h.e11 (ent_ne h.e11 h.e12 (by decide)), hx, h.s1.other (box_ne h.e12 h.s1.fwd (by decide)) (box_ne h.e12 h.s1.back (by decide)) h.av.1 i x, h.s2.other (box_ne h.e12 h.s2.fwd (by decide)) (box_ne h.e12 h.s2.back (by decide)) h.av.2 i x, h.ne, h.ap1, h.ap2, h.k0w, h.b4k, h.b12k, h.av⟩
theorem StAt.setL (h : StAt W X k0 b4 b5 b6 b10 b11 b12 g2 g3 g4 g5 n b c5 c6 v1 v2 lm lb F B F2 B2 hl hn) (x : Int) : StAt W (X.setCell ⟨b12, 0, none⟩ (.int .i64 x)) k0 b4 b5 b6 b10 b11 b12 g2 g3 g4 g5 n b c5 c6 v1 v2 lm lb F B F2 B2 x hn :=
  h.box 0 _ (by have := heap_setCell_same X b12 0 _ _ (.int .i64 x) h.e12; simpa using this)
theorem StAt.setN (h : StAt W X k0 b4 b5 b6 b10 b11 b12 g2 g3 g4 g5 n b c5 c6 v1 v2 lm lb F B F2 B2 hl hn) (x : Int) : StAt W (X.setCell ⟨b12, 1, none⟩ (.int .i64 x)) k0 b4 b5 b6 b10 b11 b12 g2 g3 g4 g5 n b c5 c6 v1 v2 lm lb F B F2 B2 hl x :=
  h.box 1 _ (by have := heap_setCell_same X b12 1 _ _ (.int .i64 x) h.e12; simpa using this)
end
theorem bSetN {w a : World} (h : Below w.heap.size w a) {g : Nat} (hg : w.heap.size ≤ g) (o : Nat) (v : Value) : Below w.heap.size w (a.setCell ⟨g, o, none⟩ v) := h.setCell (p := ⟨g, o, none⟩) hg v
theorem SideIs.shapeN {W : World} {lo g2 g3 n : Nat} {v : Value} {l : List Int} {F B : Nat → Int} (h : SideIs W lo v g2 g3 n l F B) (hl : l.length = n) : ∃ a c, v = .slice a n c := by
  obtain ⟨a, c, e⟩ := h.shape
  exact ⟨a, c, by rw [e, hl]⟩
/-- Two boxes made one after the other. -/
theorem two_boxes (X : World) (cs ds : Array Value) (t u : TypeId) : ((X.alloc (.cells cs t)).alloc (.cells ds u)).drew.heap[X.heap.size]? = some (.cells cs t (0, 0)) ∧ ((X.alloc (.cells cs t)).alloc (.cells ds u)).drew.heap[X.heap.size + 1]? = some (.cells ds u (0, 0)) ∧ Below X.heap.size X ((X.alloc (.cells cs t)).alloc (.cells ds u)).drew := by
  refine ⟨heap_keep (bAlloc (Below.refl _ _) _) (World.alloc_heap_new X _), ?_, Below.drew (bAlloc (bAlloc (Below.refl _ _) _) _)⟩
  have := World.alloc_heap_new (X.alloc (.cells cs t)) (.cells ds u)
  rw [World.size_alloc] at this
  exact this
/-- The forward and backward waves of the main chain before the ends are computed. -/
def preF (al : List Int) (n b j oo : Nat) (f : Nat → Int) : Nat → Int := if b = 0 then chnF (al.take n) (wavL f oo 0 0 n) (wavL f oo 1 0 n) (skp j b) (n - 1) else upd (chnF (al.take n) (wavL f oo 0 0 n) (wavL f oo 1 0 n) (skp j b) (n - 1)) (j + 1) (forkV al n j oo f 1)
def preB (al : List Int) (n b j oo : Nat) (f : Nat → Int) : Nat → Int := if b = 0 then chnB (al.take n) (wavL f oo 0 0 n) (wavL f oo 1 0 n) (skp j b) (n - 1) else upd (chnB (al.take n) (wavL f oo 0 0 n) (wavL f oo 1 0 n) (skp j b) (n - 1)) j (forkV al n j oo f 0)
/-- The same before what is heard has its box. -/
structure StM (W X : World) (k0 b4 b5 b6 b10 b11 g2 g3 g4 g5 n b : Nat) (c5 c6 : Array Value) (v1 v2 : Value) (lm lb : List Int) (F B F2 B2 : Nat → Int) : Prop where
  below : Below W.heap.size W X
  e4 : X.heap[b4]? = some (.cells #[.int .i64 0, .int .i64 0] 51 (0, 0))
  e5 : X.heap[b5]? = some (.cells c5 110 (0, 0))
  e6 : X.heap[b6]? = some (.cells c6 110 (0, 0))
  e10 : X.heap[b10]? = some (.cells #[v1, .slice (some ⟨g2, 0, none⟩) n n, .slice (some ⟨g3, 0, none⟩) n n] 110 (0, 0))
  e11 : X.heap[b11]? = some (.cells #[v2, .slice (some ⟨g4, 0, none⟩) b b, .slice (some ⟨g5, 0, none⟩) b b] 110 (0, 0))
  s1 : SideIs X k0 v1 g2 g3 n lm F B
  s2 : SideIs X k0 v2 g4 g5 b lb F2 B2
  ne : g2 ≠ g4 ∧ g2 ≠ g5 ∧ g3 ≠ g4 ∧ g3 ≠ g5
  ap1 : Far v1 lm g4 ∧ Far v1 lm g5
  ap2 : Far v2 lb g2 ∧ Far v2 lb g3
  k0w : W.heap.size ≤ k0
  b4k : b4 < k0 ∧ W.heap.size ≤ b4
theorem StM.made {W X : World} {k0 b4 b5 b6 b10 b11 g2 g3 g4 g5 n b : Nat} {c5 c6 : Array Value} {v1 v2 : Value} {lm lb : List Int} {F B F2 B2 : Nat → Int} (h : StM W X k0 b4 b5 b6 b10 b11 g2 g3 g4 g5 n b c5 c6 v1 v2 lm lb F B F2 B2) :
    StAt W (X.alloc (.cells #[.int .i64 0, .int .i64 0] 51)) k0 b4 b5 b6 b10 b11 X.heap.size g2 g3 g4 g5 n b c5 c6 v1 v2 lm lb F B F2 B2 0 0 := by
  have hB := bAlloc (Below.refl X.heap.size X) (.cells #[.int .i64 0, .int .i64 0] 51)
  have h4 := (Array.getElem?_eq_some_iff.mp h.e4).1
  exact ⟨bThen h.below hB, heap_keep hB h.e4, heap_keep hB h.e5, heap_keep hB h.e6, heap_keep hB h.e10, heap_keep hB h.e11, World.alloc_heap_new _ _, h.s1.below hB, h.s2.below hB, h.ne, h.ap1, h.ap2, h.k0w, h.b4k, ⟨by omega, h.below.size⟩, ⟨far_new h.s1.areas (Nat.le_refl _), far_new h.s2.areas (Nat.le_refl _)⟩⟩
/-- Two chains made, the second after the first: what lies where. -/
theorem st_mid {W w2 w2' w3 X : World} {k0 k1 b4 b5 b6 b10 b11 g2 g3 g4 g5 n b : Nat} {c5 c6 : Array Value} {v1 v2 : Value} {lm lb : List Int} {F B F2 B2 : Nat → Int}
    (s1 : SideIs w2 k1 v1 g2 g3 n lm F B) (h23 : Below w2.heap.size w2 w2') (s2 : SideIs w3 w2'.heap.size v2 g4 g5 b lb F2 B2) (h33 : Below w2'.heap.size w2' w3) (hk1 : k0 ≤ k1) (h02 : k0 ≤ w2.heap.size)
    (hX : ∀ c, k0 ≤ c → c < w3.heap.size → c ≠ b10 → c ≠ b11 → X.heap[c]? = w3.heap[c]?) (n1 : b10 < k1 ∨ w3.heap.size ≤ b10 ∨ (w2.heap.size ≤ b10 ∧ b10 < w2'.heap.size)) (n2 : b11 < k1 ∨ w3.heap.size ≤ b11 ∨ (w2.heap.size ≤ b11 ∧ b11 < w2'.heap.size))
    (below : Below W.heap.size W X) (e4 : X.heap[b4]? = some (.cells #[.int .i64 0, .int .i64 0] 51 (0, 0))) (e5 : X.heap[b5]? = some (.cells c5 110 (0, 0))) (e6 : X.heap[b6]? = some (.cells c6 110 (0, 0)))
    (e10 : X.heap[b10]? = some (.cells #[v1, .slice (some ⟨g2, 0, none⟩) n n, .slice (some ⟨g3, 0, none⟩) n n] 110 (0, 0)))
    (e11 : X.heap[b11]? = some (.cells #[v2, .slice (some ⟨g4, 0, none⟩) b b, .slice (some ⟨g5, 0, none⟩) b b] 110 (0, 0)))
    (k0w : W.heap.size ≤ k0) (b4k : b4 < k0 ∧ W.heap.size ≤ b4) : StM W X k0 b4 b5 b6 b10 b11 g2 g3 g4 g5 n b c5 c6 v1 v2 lm lb F B F2 B2 := by
  have z1 := s1.fwd.lt
  have z2 := s1.back.lt
  have z3 := s2.los
  have z4 := s1.los
  have z5 := h23.size
  have z6 := h33.size
  have s1' := s1.below (bThen h23 h33)
  have far1 : ∀ c, k1 ≤ c → c < w2.heap.size → c ≠ b10 ∧ c ≠ b11 := fun c h1 h2 => ⟨by omega, by omega⟩
  have keepS : ∀ {lo g h m : Nat} {v : Value} {l : List Int} {F B : Nat → Int}, SideIs w3 lo v g h m l F B → (l = [] ∨ ∀ c, v.ownBlock = some c → c ≠ b10 ∧ c ≠ b11) → (k0 ≤ lo) → (g ≠ b10 ∧ g ≠ b11 ∧ h ≠ b10 ∧ h ≠ b11) → SideIs X k0 v g h m l F B := by
    intro lo g h m v l F B hs hv hlo hg
    refine ⟨?_, hs.fwd.of_block (hX _ (by have := hs.los; omega) hs.fwd.lt hg.1 hg.2.1), hs.back.of_block (hX _ (by have := hs.los; omega) hs.back.lt hg.2.2.1 hg.2.2.2), hs.ne, ⟨by have := hs.los; omega, by have := hs.los; omega⟩, hs.apart, fun c e => Nat.le_trans hlo (hs.low c e)⟩
    obtain ⟨a, c, rfl, hm, hh⟩ := hs.areas
    refine ⟨a, c, rfl, hm, ?_⟩
    rcases hh with hh | ⟨bb, o, rfl, hh⟩
    · exact .inl hh
    · rcases hv with hv | hv
      · exact .inl hv
      · refine .inr ⟨bb, o, rfl, fun i hi => ?_⟩
        have h1 := hh i hi
        have h2 := hv bb rfl
        exact (World.cell?_of_block (a := ⟨bb, o + i * 1, none⟩) (hX bb (Nat.le_trans hlo (hs.low bb rfl)) (cell_lt h1) h2.1 h2.2)).trans h1
  have block1 : lm = [] ∨ ∀ c, v1.ownBlock = some c → k1 ≤ c ∧ c < w2.heap.size := by
    by_cases e : lm = []
    · exact .inl e
    · refine .inr fun c hc => ⟨s1.low c hc, ?_⟩
      rcases far_new s1.areas (Nat.le_refl w2.heap.size) with h | h
      · exact absurd h e
      · obtain ⟨a, k, rfl, -⟩ := id s1.areas
        obtain ⟨bb, o, rfl, hx⟩ := s1.areas.at e
        have h0 := hx 0 (by cases lm with | nil => exact absurd rfl e | cons => simp)
        simp only [Value.ownBlock, Option.some.injEq] at hc
        subst hc
        exact cell_lt h0
  have block2 : lb = [] ∨ ∀ c, v2.ownBlock = some c → w2'.heap.size ≤ c ∧ c < w3.heap.size := by
    by_cases e : lb = []
    · exact .inl e
    · refine .inr fun c hc => ⟨s2.low c hc, ?_⟩
      obtain ⟨a, k, rfl, -⟩ := id s2.areas
      obtain ⟨bb, o, rfl, hx⟩ := s2.areas.at e
      have h0 := hx 0 (by cases lb with | nil => exact absurd rfl e | cons => simp)
      simp only [Value.ownBlock, Option.some.injEq] at hc
      subst hc
      exact cell_lt h0
  have y3 := s2.fwd.lt
  have y4 := s2.back.lt
  refine ⟨below, e4, e5, e6, e10, e11, keepS s1' (block1.imp id fun h c hc => far1 c (h c hc).1 (h c hc).2) hk1 ⟨by omega, by omega, by omega, by omega⟩, keepS s2 (block2.imp id fun h c hc => ⟨by have := h c hc; omega, by have := h c hc; omega⟩) (by omega) ⟨by omega, by omega, by omega, by omega⟩, ⟨by omega, by omega, by omega, by omega⟩, ⟨?_, ?_⟩, ⟨?_, ?_⟩, k0w, b4k⟩
  · exact block1.imp id fun h e => by have := h _ e; omega
  · exact block1.imp id fun h e => by have := h _ e; omega
  · exact .inr fun e => by have := s2.low _ e; omega
  · exact .inr fun e => by have := s2.low _ e; omega
theorem grown_drew {A B : World} {g b : Nat} {o : Obj} (h : A.grownBy B (some g) ∧ B.heap[b]? = some o) : A.grownBy B.drew (some g) ∧ B.drew.heap[b]? = some o := ⟨gb_trans h.1 (gb_below (Below.drew (Below.refl _ _)) _), h.2⟩
theorem gb_new {A B : World} {g r : Nat} (h : A.grownBy B (some r)) (hg : A.heap.size ≤ g) (i : Nat) (v : Value) : A.grownBy (B.setCell ⟨g, i, none⟩ v) (some r) :=
  ⟨h.os, h.tape, h.output, by simpa [World.setCell] using h.size, fun k hk hr => (Below.heap_setCell _ _ _ k (by intro e; simp at e; omega)).trans (h.block k hk hr)⟩
theorem set_six {W : World} {b : Nat} {a0 a1 a2 a3 a4 a5 a6 a7 a8 a9 a10 a11 a12 x0 x1 x2 x3 x4 x5 : Value} {t : TypeId} (h : W.heap[b]? = some (.cells #[a0, a1, a2, a3, a4, a5, a6, a7, a8, a9, a10, a11, a12] t (0, 0))) :
    W.grownBy (((((((W.setCell ⟨b, 0, none⟩ x0).setCell ⟨b, 1, none⟩ x1).setCell ⟨b, 2, none⟩ x2).setCell ⟨b, 3, none⟩ x3).setCell ⟨b, 4, none⟩ x4).setCell ⟨b, 5, none⟩ x5).drew) (some b) ∧ (((((((W.setCell ⟨b, 0, none⟩ x0).setCell ⟨b, 1, none⟩ x1).setCell ⟨b, 2, none⟩ x2).setCell ⟨b, 3, none⟩ x3).setCell ⟨b, 4, none⟩ x4).setCell ⟨b, 5, none⟩ x5).drew).heap[b]? = some (.cells #[x0, x1, x2, x3, x4, x5, a6, a7, a8, a9, a10, a11, a12] t (0, 0)) :=
  grown_drew ⟨gb_trans (gb_set3 _ _ _ _ _ _ _ _) (gb_set3 _ _ _ _ _ _ _ _), set6b (set6 h)⟩
/-- Two boxes laid, before or behind two calls: what the end's world holds. -/
structure TwoEnd (w w3 X : World) (p q : Nat) (c d : Array Value) : Prop where
  keep : ∀ i, i < w3.heap.size → i ≠ p → i ≠ q → X.heap[i]? = w3.heap[i]?
  below : Below w.heap.size w X
  ep : X.heap[p]? = some (.cells c 110 (0, 0))
  eq : X.heap[q]? = some (.cells d 110 (0, 0))
abbrev zeroS : Obj := .cells #[.slice none 0 0, .slice none 0 0, .slice none 0 0] 110 (0, 0)
theorem TwoEnd.swap {w w3 X : World} {p q : Nat} {c d : Array Value} (h : TwoEnd w w3 X p q c d) : TwoEnd w w3 X q p d c := ⟨fun i h1 h2 h3 => h.keep i h1 h3 h2, h.below, h.eq, h.ep⟩
theorem end_aa {w w3 : World} {c d : Array Value} (hB : Below w.heap.size w w3) : TwoEnd w w3 ((w3.alloc (.cells c 110)).alloc (.cells d 110)) w3.heap.size (w3.heap.size + 1) c d := by
  have h := two_boxes w3 c d 110 110
  exact ⟨fun i hi _ _ => (bAlloc (bAlloc (Below.refl w3.heap.size w3) _) _).block i hi, bAlloc (bAlloc hB _) _, h.1, h.2.1⟩
theorem end_sa {w w3 : World} {p : Nat} {x y z : Value} {d : Array Value} (hB : Below w.heap.size w w3) (e : w3.heap[p]? = some zeroS) (hp : w.heap.size ≤ p) : TwoEnd w w3 ((((w3.setCell ⟨p, 0, none⟩ x).setCell ⟨p, 1, none⟩ y).setCell ⟨p, 2, none⟩ z).alloc (.cells d 110)) p w3.heap.size #[x, y, z] d := by
  obtain ⟨S, hS⟩ : ∃ S, ((w3.setCell ⟨p, 0, none⟩ x).setCell ⟨p, 1, none⟩ y).setCell ⟨p, 2, none⟩ z = S := ⟨_, rfl⟩
  have h3 : S.heap.size = w3.heap.size := by rw [← hS]; simp only [World.size_setCell]
  have h4 : S.heap[p]? = some (.cells #[x, y, z] 110 (0, 0)) := by rw [← hS]; exact set3 e
  have h5 : w3.grownBy S (some p) := by rw [← hS]; exact set3_gb _ _ _ _ _
  have h6 : Below w.heap.size w S := by rw [← hS]; exact bSetN (bSetN (bSetN hB hp _ _) hp _ _) hp _ _
  rw [hS]
  refine ⟨fun i hi h1 _ => ?_, bAlloc h6 _, heap_keep (bAlloc (Below.refl _ _) _) h4, ?_⟩
  · have := h5.block i hi (by simpa using h1)
    rw [← this]
    exact (bAlloc (Below.refl S.heap.size S) (.cells d 110)).block i (by omega)
  · have := World.alloc_heap_new S (.cells d 110)
    rw [h3] at this
    exact this
theorem end_ss {w w3 : World} {p q : Nat} {x y z x' y' z' : Value} (hB : Below w.heap.size w w3) (e : w3.heap[p]? = some zeroS) (e' : w3.heap[q]? = some zeroS) (hp : w.heap.size ≤ p) (hq : w.heap.size ≤ q) (hpq : p ≠ q) : TwoEnd w w3 ((((((w3.setCell ⟨p, 0, none⟩ x).setCell ⟨p, 1, none⟩ y).setCell ⟨p, 2, none⟩ z).setCell ⟨q, 0, none⟩ x').setCell ⟨q, 1, none⟩ y').setCell ⟨q, 2, none⟩ z') p q #[x, y, z] #[x', y', z'] := by
  obtain ⟨S, hS⟩ : ∃ S, ((w3.setCell ⟨p, 0, none⟩ x).setCell ⟨p, 1, none⟩ y).setCell ⟨p, 2, none⟩ z = S := ⟨_, rfl⟩
  have h4 : S.heap[p]? = some (.cells #[x, y, z] 110 (0, 0)) := by rw [← hS]; exact set3 e
  have h5 : w3.grownBy S (some p) := by rw [← hS]; exact set3_gb _ _ _ _ _
  have h6 : Below w.heap.size w S := by rw [← hS]; exact bSetN (bSetN (bSetN hB hp _ _) hp _ _) hp _ _
  rw [hS]
  have h7 : S.heap[q]? = some zeroS := gb_heap h5 e' (fun e => hpq e.symm)
  have h8 := set3_gb S q x' y' z'
  refine ⟨fun i hi h1 h2 => ?_, bSetN (bSetN (bSetN h6 hq _ _) hq _ _) hq _ _, gb_heap h8 h4 hpq, set3 h7⟩
  have h9 := h5.block i hi (by simpa using h1)
  rw [← h9]
  exact h8.block i (by have := h5.size; omega) (by simpa using h2)
theorem st_end {W w w2 w2' w3 X : World} {k0 k1 b4 b5 b6 b10 b11 g2 g3 g4 g5 n b : Nat} {c5 c6 : Array Value} {v1 v2 : Value} {lm lb : List Int} {F B F2 B2 : Nat → Int}
    (T : TwoEnd w w3 X b10 b11 #[v1, .slice (some ⟨g2, 0, none⟩) n n, .slice (some ⟨g3, 0, none⟩) n n] #[v2, .slice (some ⟨g4, 0, none⟩) b b, .slice (some ⟨g5, 0, none⟩) b b])
    (s1 : SideIs w2 k1 v1 g2 g3 n lm F B) (h23 : Below w2.heap.size w2 w2') (s2 : SideIs w3 w2'.heap.size v2 g4 g5 b lb F2 B2) (h33 : Below w2'.heap.size w2' w3) (h02 : Below w.heap.size w w2) (hk1 : w.heap.size ≤ k1) (hk0 : k0 ≤ w.heap.size)
    (n1 : b10 < k1 ∨ w3.heap.size ≤ b10 ∨ (w2.heap.size ≤ b10 ∧ b10 < w2'.heap.size)) (n2 : b11 < k1 ∨ w3.heap.size ≤ b11 ∨ (w2.heap.size ≤ b11 ∧ b11 < w2'.heap.size))
    (hW : Below W.heap.size W w) (e4 : w.heap[b4]? = some (.cells #[.int .i64 0, .int .i64 0] 51 (0, 0))) (e5 : w.heap[b5]? = some (.cells c5 110 (0, 0))) (e6 : w.heap[b6]? = some (.cells c6 110 (0, 0)))
    (k0w : W.heap.size ≤ k0) (b4k : b4 < k0 ∧ W.heap.size ≤ b4) : StM W X k0 b4 b5 b6 b10 b11 g2 g3 g4 g5 n b c5 c6 v1 v2 lm lb F B F2 B2 :=
  st_mid s1 h23 s2 h33 (by omega) (by have := h02.size; omega) (fun c _ h2 h3 h4 => T.keep c h2 h3 h4) n1 n2 (bThen hW T.below) (heap_keep T.below e4) (heap_keep T.below e5) (heap_keep T.below e6) T.ep T.eq k0w b4k
/-- A joint of three sections, of two slices just built. -/
theorem joint_three (a c d x y z : Int) (ha : 1 ≤ a ∧ a ≤ 1000) (hc : 1 ≤ c ∧ c ≤ 1000) (hd : 1 ≤ d ∧ d ≤ 1000) (W : World) (p q : Nat) (p0 : W.cell? ⟨p, 0, none⟩ = some (.int .i64 a)) (p1 : W.cell? ⟨p, 1, none⟩ = some (.int .i64 c)) (p2 : W.cell? ⟨p, 2, none⟩ = some (.int .i64 d)) (q0 : W.cell? ⟨q, 0, none⟩ = some (.int .i64 x)) (q1 : W.cell? ⟨q, 1, none⟩ = some (.int .i64 y)) (q2 : W.cell? ⟨q, 2, none⟩ = some (.int .i64 z)) :
    Calls Try.prog 22 #[.slice (some ⟨p, 0, none⟩) 3 3, .slice (some ⟨q, 0, none⟩) 3 3] W fun e w' => (∃ b o k, e = .returned (.slice (some ⟨b, o, none⟩) 3 k) ∧ (w'.cell? ⟨b, o, none⟩ = some (.int .i64 (sc3 a c d x y z 0)) ∧ w'.cell? ⟨b, o + 1, none⟩ = some (.int .i64 (sc3 a c d x y z 1)) ∧ w'.cell? ⟨b, o + 2, none⟩ = some (.int .i64 (sc3 a c d x y z 2)))) ∧ Below W.heap.size W w' := by
  have two : ∀ (g : Nat) (u v t : Int), W.cell? ⟨g, 0, none⟩ = some (.int .i64 u) → W.cell? ⟨g, 1, none⟩ = some (.int .i64 v) → W.cell? ⟨g, 2, none⟩ = some (.int .i64 t) → SliceV W (.slice (some ⟨g, 0, none⟩) 3 3) 1 IntAt [u, v, t] := fun g u v t h0 h1 h2 => ⟨_, 3, rfl, ⟨by simp [most], by simp⟩, .inr ⟨g, 0, rfl, fun i hi => by
    rcases (show i = 0 ∨ i = 1 ∨ i = 2 by simp at hi; omega) with rfl | rfl | rfl
    · exact h0
    · exact h1
    · exact h2⟩⟩
  refine (refScatter_any [a, c, d] [x, y, z] _ _ W (two p a c d p0 p1 p2) (two q x y z q0 q1 q2) (by simp) (by simp) rfl (fun j hj => ?_)).mono ?_
  · rcases (show j = 0 ∨ j = 1 ∨ j = 2 by simp at hj; omega) with rfl | rfl | rfl
    · exact ha
    · exact hc
    · exact hd
  · rintro e w' ⟨⟨r, rfl, hs⟩, hb⟩
    rw [sct_three] at hs
    obtain ⟨ad, k, rfl, -⟩ := id hs
    obtain ⟨b, o, rfl, h⟩ := hs.at (by simp)
    have h0 := h 0 (by simp)
    have h1 := h 1 (by simp)
    have h2 := h 2 (by simp)
    exact ⟨⟨b, o, k, rfl, by simpa [IntAt] using h0, by simpa [IntAt] using h1, by simpa [IntAt] using h2⟩, hb⟩
/-- The specification's tube when the step is over. -/
theorem step_fin {W X wc : World} {k0 b4 b5 b6 b10 b11 b12 g2 g3 g4 g5 n b j oo lo rb st : Nat} {c5 c6 : Array Value} {v1 v2 x y : Value} {s : Shp} {al : List Int} {fl : List Fd} {f F2 B2 : Nat → Int} {LIP NOS : Int}
    (hfin : shpOk s = true ∧ al.length = s.areas.length + s.branch.length ∧ (∀ x ∈ fl, 0 ≤ x.sec ∧ x.sec < (s.areas.length : Int)) ∧ lo ≤ rb) (hnb : s.areas.length = n ∧ s.branch.length = b ∧ offO al.length st = oo) (hj : s.joint.toNat = j)
    (h : StAt W X k0 b4 b5 b6 b10 b11 b12 g2 g3 g4 g5 n b c5 c6 v1 v2 (al.take n) (al.drop n) (fdsF (mainF al n b j oo s.glottis f) fl) (mainB al n b j oo s.lips f) F2 B2 LIP NOS) (harm : 0 < b → F2 = armF al n b j oo f ∧ B2 = armB al n b oo s.nose f)
    (hrb : rb < W.heap.size) (hg : X.grownBy wc (some rb)) (hx : wc.heap[rb]? = some (.cells #[v1, .slice (some ⟨g2, 0, none⟩) n n, .slice (some ⟨g3, 0, none⟩) n n, v2, .slice (some ⟨g4, 0, none⟩) b b, .slice (some ⟨g5, 0, none⟩) b b, x, y, .int .i64 (j : Int), .int .i64 s.glottis, .int .i64 s.lips, .int .i64 s.nose, .int .i64 (st : Int)] 113 (0, 0))) :
    RefIs (((wc.setCell ⟨rb, 12, none⟩ (.int .i64 ((st + 1 : Nat) : Int))).setCell ⟨b4, 0, none⟩ (.int .i64 LIP)).setCell ⟨b4, 1, none⟩ (.int .i64 NOS)) lo rb s al (st + 1) (nxtF al (shpPlaces s) st fl f) ∧
      W.grownBy (((wc.setCell ⟨rb, 12, none⟩ (.int .i64 ((st + 1 : Nat) : Int))).setCell ⟨b4, 0, none⟩ (.int .i64 LIP)).setCell ⟨b4, 1, none⟩ (.int .i64 NOS)) (some rb) := by
  obtain ⟨hs, hl, hfd, hlo⟩ := hfin
  obtain ⟨rfl, rfl, rfl⟩ := hnb
  subst hj
  have p4 := (shp_parts hs).2.2.2.1
  have hk := h.k0w
  have hb4 := h.b4k
  have hne : rb ≠ b4 := by omega
  have hjj : ((s.joint.toNat : Nat) : Int) = s.joint := by omega
  obtain ⟨S, hS⟩ : ∃ S, ((wc.setCell ⟨rb, 12, none⟩ (.int .i64 ((st + 1 : Nat) : Int))).setCell ⟨b4, 0, none⟩ (.int .i64 LIP)).setCell ⟨b4, 1, none⟩ (.int .i64 NOS) = S := ⟨_, rfl⟩
  have hW : W.grownBy S (some rb) := by
    rw [← hS]
    exact gb_new (gb_new (gb_trans (gb_trans (gb_below h.below _) hg) (gb_set _ _ _ _)) hb4.2 _ _) hb4.2 _ _
  have hE : S.heap[rb]? = some (.cells #[v1, .slice (some ⟨g2, 0, none⟩) s.areas.length s.areas.length, .slice (some ⟨g3, 0, none⟩) s.areas.length s.areas.length, v2, .slice (some ⟨g4, 0, none⟩) s.branch.length s.branch.length, .slice (some ⟨g5, 0, none⟩) s.branch.length s.branch.length, x, y, .int .i64 s.joint, .int .i64 s.glottis, .int .i64 s.lips, .int .i64 s.nose, .int .i64 ((st + 1 : Nat) : Int)] 113 (0, 0)) := by
    have h1 := heap_setCell_same wc rb 12 _ _ (.int .i64 ((st + 1 : Nat) : Int)) hx
    have h2 := gb_heap (gb_set _ b4 0 (.int .i64 LIP)) h1 hne
    have h3 := gb_heap (gb_set _ b4 1 (.int .i64 NOS)) h2 hne
    rw [hS, hjj] at h3
    simpa using h3
  have hK : ∀ c, k0 ≤ c → c < X.heap.size → S.heap[c]? = X.heap[c]? := by
    intro c h1 h2
    have e1 : c ≠ b4 := by omega
    have e2 : c ≠ rb := by omega
    rw [← hS, Below.heap_setCell _ _ _ _ e1, Below.heap_setCell _ _ _ _ e1, Below.heap_setCell _ _ _ _ e2]
    exact hg.block c h2 (by simpa using e2)
  rw [hS]
  exact ⟨ref_stepped hs hl hfd (h.s1.of_low hK) (h.s2.of_low hK) (fun hb => (harm hb).1) (fun hb => (harm hb).2) (by omega) (by omega) hlo (gb_refl _ _) hE, hW⟩
end Go.Proofs.Ytbmbcbknoflpgaa
