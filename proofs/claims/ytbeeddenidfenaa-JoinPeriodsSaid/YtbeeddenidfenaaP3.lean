/- Contracts: building by the specification. -/
import Derived.Test.YtbeeddenidfenaaP2
set_option linter.unusedSimpArgs false
set_option linter.unusedVariables false
namespace Go.Proofs.Ytbeeddenidfenaa
open Go.RowKit

theorem flat_take {ps : List (List Int)} {j : Nat} (h : j < ps.length) : (ps.take (j + 1)).flatten = (ps.take j).flatten ++ ps[j] := by rw [take_succ ps j h, List.flatten_append, List.flatten_singleton]
theorem sts_take {a : Nat} {ps : List (List Int)} {j : Nat} (h : j < ps.length) : sts a (ps.take (j + 1)) = sts a (ps.take j) ++ [((a + (ps.take j).flatten.length : Nat) : Int)] := by rw [take_succ ps j h, sts_append]; rfl
theorem flat_le (ps : List (List Int)) (j : Nat) : (ps.take j).flatten.length ≤ ps.flatten.length := by
  conv => rhs; rw [← List.take_append_drop j ps]
  rw [List.flatten_append, List.length_append]; omega
theorem wave_get {w : World} {b o n c : Nat} {ps : List (List Int)} (h : SliceV w (.slice (some ⟨b, o, none⟩) n c) 1 WaveAt ps) {j : Nat} (hj : j < ps.length) : ∃ ea ec, w.cell? ⟨b, o + j, none⟩ = some (.slice ea ps[j].length ec) ∧ SliceV w (.slice ea ps[j].length ec) 1 IntAt ps[j] := by
  obtain ⟨b', o', he, hf⟩ := h.at (by intro e; rw [e] at hj; simp at hj)
  cases he
  obtain ⟨u, h1, h2⟩ := hf j hj
  obtain ⟨ea, ec, rfl, -⟩ := id h2
  rw [Nat.mul_one] at h1
  exact ⟨ea, ec, h1, h2⟩

theorem ints_setB {W : World} {v : Value} {l : List Int} {r n1 c1 n2 c2 : Nat} {a1 a2 : Option Addr} {x y : Value} (h : SliceV W v 1 IntAt l) (hR : W.heap[r]? = some (.cells #[.slice a1 n1 c1, .slice a2 n2 c2] 24 (0, 0))) : SliceV ((W.setCell ⟨r, 0, none⟩ x).setCell ⟨r, 1, none⟩ y) v 1 IntAt l := by
  obtain ⟨a, c, rfl, hl, hx⟩ := h
  refine ⟨a, c, rfl, hl, hx.imp id fun ⟨b, o', ha, hi⟩ => ⟨b, o', ha, fun i hi' => ?_⟩⟩
  have h0 := hi i hi'
  have hne : b ≠ r := by
    rintro rfl
    unfold IntAt at h0
    simp only [World.cell?, hR] at h0
    generalize o' + i * 1 = k at h0
    match k with
    | 0 => simp at h0
    | 1 => simp at h0
    | k + 2 => simp at h0
  refine (World.cell?_of_block (w := W) ((Below.heap_setCell _ _ _ _ hne).trans (Below.heap_setCell _ _ _ _ hne))).trans h0
set_option maxRecDepth 10000 in
set_option maxHeartbeats 8000000 in
theorem refBuilt_any (m : Mk) (ps : List (List Int)) (vs vm pv : Value) (w : World) (hv : MkV w vs vm m) (hm : MkR m) (hp : SliceV w pv 1 WaveAt ps) (hlen : ps.length ≤ 200000) (htot : ps.flatten.length ≤ 200000) :
    Calls Try.prog 74 #[.agg #[vs, vm], pv] w fun e w' => (∃ ra rc qa qc, e = .returned (.agg #[.slice ra (bldM m ps).sam.length rc, .slice qa (bldM m ps).marks.length qc]) ∧ MkV w' (.slice ra (bldM m ps).sam.length rc) (.slice qa (bldM m ps).marks.length qc) (bldM m ps)) ∧ Below w.heap.size w w' := by
  have HV := Lib.hid hv
  have HM := Lib.hid hm
  have HP := Lib.hid hp
  have hln := hm.len
  have hmk := hm.many
  have hpn := hm.pN_in
  have ha0 := hm.le (i := 0) (by omega)
  have hbN := hm.le (i := pN m) (by omega)
  have k0w := hm.get (i := 0) (by omega)
  have kNw := hm.get (i := pN m) (by omega)
  obtain ⟨⟨_, c, rfl, hl, -⟩, ⟨_, cm, rfl, hlm, -⟩⟩ := id hv
  obtain ⟨sb, so, rfl, -⟩ := hv.1.at hm.ne
  obtain ⟨mb, mo, rfl, hmf⟩ := hv.2.at (by intro e; have := hm.two; rw [e] at this; simp at this)
  have k0 := hmf 0 (by omega)
  have kN := hmf (pN m) (by omega)
  unfold IntAt at k0 kN
  rw [k0w] at k0
  rw [kNw] at kN
  rw [Nat.mul_one, Nat.add_zero] at k0
  rw [Nat.mul_one] at kN
  clear k0w kNw hmf
  obtain ⟨pa, pc, rfl, hpl, -⟩ := id hp
  have HSV := Lib.hid hv.1
  obtain ⟨N, hN⟩ : ∃ N, pN m = N := ⟨_, rfl⟩
  have HN := Lib.hid hN
  obtain ⟨S0, hS0⟩ : ∃ S0, m.sam.length = S0 := ⟨_, rfl⟩
  have HS0 := Lib.hid hS0
  obtain ⟨a, ha⟩ : ∃ a, a = mkI m 0 := ⟨_, rfl⟩
  have HA := Lib.hid ha
  obtain ⟨b, hb⟩ : ∃ b, b = mkI m N := ⟨_, rfl⟩
  have HB := Lib.hid hb
  have h3 := hpn.2.2
  rw [hN] at hpn h3 hbN kN
  rw [hS0] at hl hln ha0 hbN HSV
  rw [← ha] at ha0 k0
  rw [← hb] at hbN kN
  rw [h3] at hlm hmk
  unfold most at hl hlm hpl
  have HAL : Hid ((headL m).length = a) := Lib.hid (by unfold headL; rw [List.length_take, ← ha, hS0]; omega)
  have HBL : Hid ((tailL m).length = S0 - b) := Lib.hid (by unfold tailL; rw [List.length_drop, hN, ← hb, hS0])
  have HHD : Hid (∀ X, Below w.heap.size w X → SliceV X (.slice (some ⟨sb, so, none⟩) a c) 1 IntAt (headL m)) := Lib.hid fun X hB => by
    have h0 := (HSV.out.keep IntAt.stable hB).part 0 a c (by rw [hS0]; omega) (by omega)
    rw [List.drop_zero, Nat.add_zero] at h0
    unfold headL; rw [← ha]; exact h0
  have HTL : Hid (∀ X, Below w.heap.size w X → SliceV X (.slice (if c = b then some ⟨sb, so, none⟩ else some ⟨sb, so + b, none⟩) (S0 - b) (c - b)) 1 IntAt (tailL m)) := Lib.hid fun X hB => by
    unfold tailL; rw [hN, ← hb]; exact (HSV.out.keep IntAt.stable hB).from b (by omega)
  have hplt := hpl.1
  have q1 : IntKind.i64.wrap ((N : Int) + 1 - 1) = (N : Int) := by rw [show (N : Int) + 1 - 1 = (N : Int) by omega]; exact IntWalk.i64_in _ (by omega)
  have s1 : (a : Int) ≤ (S0 : Int) := by omega
  have s2 : (b : Int) ≤ (S0 : Int) := by omega
  have s3 : (S0 : Int) ≤ (c : Int) := by omega
  have s4 : (a : Int) ≤ (c : Int) := by omega
  have s5 : (0 : Int) < (N : Int) + 1 := by omega
  have s6 : (N : Int) < (N : Int) + 1 := by omega
  rw [h3, hS0]
  clear hv hm hp ha hb hS0 hN h3
  go_enter Try.func74, Try.ntmps74
  go_upto_region 3 with fail
  generalize hW1 : World.alloc (World.alloc (World.alloc w _) _) _ = W1
  have HB1 : Hid (Below w.heap.size w W1) := Lib.hid (by rw [← hW1]; exact bAlloc (bAlloc (bAlloc (Below.refl _ _) _) _) _)
  have HM1 : Hid (W1.heap[w.heap.size]? = some (.cells #[.slice (some ⟨sb, so, none⟩) S0 c, .slice (some ⟨mb, mo, none⟩) (N + 1) cm] 24 (0, 0))) := Lib.hid (by rw [← hW1]; exact heap_past (by simp; omega) (heap_past (by simp) (heap_at rfl)))
  have HR1 : Hid (W1.heap[w.heap.size + 1]? = some (.cells #[.slice none 0 0, .slice none 0 0] 24 (0, 0))) := Lib.hid (by rw [← hW1]; exact heap_past (by simp) (heap_at (by simp)))
  have HO1 : Hid (BlBox W1 (w.heap.size + 1 + 1) (w.heap.size + 1 + 1) 0 0 [] [] (.slice none 0 0) (.slice none 0 0)) := Lib.hid ⟨by rw [← hW1]; exact heap_at (by simp), World.ownsRow_nil _ _ _ _, World.ownsRow_nil _ _ _ _, .inl rfl, by rw [← hW1]; simp⟩
  have hz1 : W1.heap.size = w.heap.size + 3 := by rw [← hW1]; simp
  clear hW1
  obtain ⟨ob, hob⟩ : ∃ ob, ob = w.heap.size + 1 + 1 := ⟨_, rfl⟩
  rw [← hob] at HO1 ⊢
  have HOB := Lib.hid hob
  have hob1 : w.heap.size < ob := by omega
  have hob2 : w.heap.size + 1 < ob := by omega
  have hob3 : ob < W1.heap.size := by omega
  clear hob hz1
  have HK : Hid (∀ W', Below ob W1 W' → (W'.cell? ⟨w.heap.size, 0, none⟩ = some (.slice (some ⟨sb, so, none⟩) S0 c) ∧ W'.cell? ⟨w.heap.size, 1, none⟩ = some (.slice (some ⟨mb, mo, none⟩) (N + 1) cm) ∧ W'.cell? ⟨mb, mo, none⟩ = some (.int .i64 (a : Int)) ∧ W'.cell? ⟨mb, mo + N, none⟩ = some (.int .i64 (b : Int)))) := Lib.hid fun W' hB => by
    have lm := cell_lt k0
    exact ⟨(hB.cell (p := ⟨w.heap.size, 0, none⟩) hob1).trans (mcell HM1.out).1, (hB.cell (p := ⟨w.heap.size, 1, none⟩) hob1).trans (mcell HM1.out).2, (hB.cell (p := ⟨mb, mo, none⟩) (show mb < ob by omega)).trans (keep HB1.out k0), (hB.cell (p := ⟨mb, mo + N, none⟩) (show mb < ob by omega)).trans (keep HB1.out kN)⟩
  have lm1 : mb < W1.heap.size := by have := cell_lt (keep HB1.out k0); omega
  clear k0 kN
  have c0 := (HK.out W1 (Below.refl _ _)).1
  have c1 := (HK.out W1 (Below.refl _ _)).2.1
  have k0 := (HK.out W1 (Below.refl _ _)).2.2.1
  have kN := (HK.out W1 (Below.refl _ _)).2.2.2
  have o0 := (mcell HO1.out.box).1
  have of0 := frz HO1.out.box 0
  have hlow := HO1.out.low
  have lc := cell_lt c0
  have lo0 := cell_lt o0
  go_cut [] from 8 (fun wc => ∃ sa sc, Hid (BlBox wc ob ob a 0 (headL m) [] (.slice sa a sc) (.slice none 0 0) ∧ Below ob W1 wc))
  case first =>
    go_region_law (refine step_append_ints2 (by rfl) _ _ (by rfl) ob (.slice none 0 0) 0 [] rfl (World.ownsRow_nil _ _ _ _) (some ⟨sb, so, none⟩) a c (headL m) rfl HAL.out (src_of (HHD.out _ (Below.drew HB1.out))) (by omega) hlow ?_; intro sv w4 hown hgr hnb; (rw [Nat.zero_add, List.nil_append] at hown); have HAD := Lib.hid ((HO1.out.keep (Below.drew (Below.refl _ _))).addS (Nat.le_refl _) hown hgr hnb); have HBW := Lib.hid ((Below.drew (Below.refl ob W1)).trans HAD.out.2.2); have d0 := (mcell HAD.out.1).1; have df := frz HAD.out.1 0; have dl := cell_lt d0; obtain ⟨sa, sc, rfl⟩ := ownsRow_slice hown; clear hown hgr hnb)
    all_goals
      go_wp2_with fail
      go_meet
      case rel => exact ⟨sa, sc, Lib.hid ⟨HAD.out.2.1, HBW.out⟩⟩
  case rest =>
    obtain ⟨sa0, sc0, HX0⟩ := hcut
    clear c0 c1 k0 kN o0 of0 lc lo0 lm1 HO1
    have hple : (ps.length : Int) ≤ 200000 := by omega
    have HWB : Hid (∀ X, Below ob W1 X → Below w.heap.size w X) := Lib.hid fun X hB => HB1.out.trans (hB.mono (by omega))
    go_wp2_with fail
    go_loopw [7] (fun x wr => ∃ (j sl : Nat) (sa ma : Option Addr) (sc mc : Nat), j ≤ ps.length ∧ sl ≤ 400000 ∧ x = .int .i64 j ∧ Hid (sl = a + (ps.take j).flatten.length) ∧ Hid (BlBox wr ob ob sl j (headL m ++ (ps.take j).flatten) (sts a (ps.take j)) (.slice sa sl sc) (.slice ma j mc) ∧ Below ob W1 wr)) (fun x _ => ps.length - (intOf x).toNat)
    case atStart => exact ⟨0, a, sa0, none, sc0, 0, Nat.zero_le _, by omega, rfl, Lib.hid (by simp), Lib.hid (by simpa [sts] using HX0.out)⟩
    case round =>
      obtain ⟨j, sl, sa, ma, sc, mc, hj, hsl, rfl, HSL, HX⟩ := hrel
      have b0 := (mcell HX.out.1.box).1
      have b1 := (mcell HX.out.1.box).2
      have bf := frz HX.out.1.box 1
      have bl := cell_lt b0
      have hlow2 := HX.out.1.low
      by_cases hlt : j < ps.length
      · have HFT := Lib.hid (flat_take hlt)
        have HST := Lib.hid (sts_take (a := a) hlt)
        have hfl := flat_le ps (j + 1)
        rw [HFT.out, List.length_append] at hfl
        have hsl2 := HSL.out
        obtain ⟨pb, po, rfl, -⟩ := HP.out.at (by intro e; rw [e] at hlt; simp at hlt)
        obtain ⟨ea, ec, hec, hes⟩ := wave_get HP.out hlt
        obtain ⟨el, hel⟩ : ∃ el, ps[j].length = el := ⟨_, rfl⟩
        rw [hel] at hec hes hfl
        have HEL := Lib.hid hel
        have HES : Hid (∀ X, Below ob W1 X → X.cell? ⟨pb, po + j, none⟩ = some (.slice ea el ec) ∧ SliceV X (.slice ea el ec) 1 IntAt ps[j]) := Lib.hid fun X hB => ⟨keep (HWB.out X hB) hec, hes.keep IntAt.stable (HWB.out X hB)⟩
        have hsle : sl + el ≤ 300000 := by omega
        clear hes hel hec hsl2 hfl
        have hjj : (j : Int) < (ps.length : Int) := by omega
        go_upto_region 8 with (at_builtin; refine wpList_append_ints2 rfl _ _ rfl ob (.slice ma j mc) j (sts a (ps.take j)) (by rfl) (HX.out.1.keep (bAlloc (Below.refl _ _) _)).mks (some ⟨wr.heap.size, 0, none⟩) 1 1 [(sl : Int)] (by rfl) rfl (.inr ⟨_, rfl, one_new _ _ _⟩) (by omega) (Nat.le_trans hlow2 (by simp)) ?_; intro mv w4 hown hgr hnb; have HAD := Lib.hid ((HX.out.1.keep (bAlloc (Below.refl _ _) _)).addM (Nat.le_refl _) hown hgr hnb); have HBW := Lib.hid ((HX.out.2.alloc hlow2 _).trans HAD.out.2.2); have d0 := (mcell HAD.out.1).1; have d1 := (mcell HAD.out.1).2; have df := frz HAD.out.1 1; have dl := cell_lt d0; obtain ⟨ma2, mc2, rfl⟩ := ownsRow_slice hown; clear hown hgr hnb)
        have HX2 := Lib.hid HAD.out.2.1
        generalize World.setCell w4 _ _ = W2 at HX2 HBW ⊢
        clear HAD d0 d1 df dl b0 b1 bf bl
        have b0 := (mcell HX2.out.box).1
        have bf := frz HX2.out.box 0
        have bl := cell_lt b0
        have hlow3 := HX2.out.low
        have ec0 := (HES.out W2 HBW.out).1
        have el0 := cell_lt ec0
        go_region_law (refine step_append_ints2 (by rfl) _ _ (by rfl) ob (.slice sa sl sc) sl (headL m ++ (ps.take j).flatten) rfl (HX2.out.keep (Below.drew (Below.refl _ _))).sam ea el ec ps[j] rfl HEL.out (src_of (HES.out _ (Below.drew HBW.out)).2) (by omega) hlow3 ?_; intro sv w5 hown hgr hnb; have HAE := Lib.hid ((HX2.out.keep (Below.drew (Below.refl _ _))).addS (Nat.le_refl _) hown hgr hnb); have HBX := Lib.hid ((Below.drew HBW.out).trans HAE.out.2.2); have d0 := (mcell HAE.out.1).1; have df := frz HAE.out.1 0; have dl := cell_lt d0; obtain ⟨sa2, sc2, rfl⟩ := ownsRow_slice hown; clear hown hgr hnb)
        all_goals
          go_wp2_with fail
          have HBL : Hid (BlBox (w5.setCell ⟨ob, 0, none⟩ (.slice sa2 (sl + el) sc2)) ob ob (sl + el) (j + 1) (headL m ++ (ps.take (j + 1)).flatten) (sts a (ps.take (j + 1))) (.slice sa2 (sl + el) sc2) (.slice ma2 (j + 1) mc2) ∧ Below ob W1 (w5.setCell ⟨ob, 0, none⟩ (.slice sa2 (sl + el) sc2))) := Lib.hid ⟨by
            have h := HAE.out.2.1
            rw [HFT.out, HST.out, ← HSL.out, ← List.append_assoc]
            exact h, HBX.out⟩
          have HSL2 : Hid (sl + el = a + (ps.take (j + 1)).flatten.length) := Lib.hid (by rw [HFT.out, List.length_append, HEL.out, HSL.out]; omega)
          go_roundw
          case rel =>
            first
              | exact ⟨j + 1, sl + el, sa2, ma2, sc2, mc2, by omega, by omega, by go_num, HSL2, HBL⟩
              | ((repeat apply Exists.intro); refine ⟨?_, rfl⟩; exact ⟨j + 1, sl + el, sa2, ma2, sc2, mc2, by omega, by omega, by go_num, HSL2, HBL⟩)
              | fail
          case measure => simp [intOf]; omega
      · have hjj : ¬ (j : Int) < (ps.length : Int) := by omega
        have HJ : Hid (j = ps.length) := Lib.hid (by omega)
        have HTK : Hid (ps.take j = ps) := Lib.hid (List.take_of_length_le (by omega))
        rw [HTK.out] at HX HSL
        have hsb : sl ≤ 300000 := by have := HSL.out; omega
        go_upto_region 10 with (at_builtin; refine wpList_append_ints2 rfl _ _ rfl ob (.slice ma j mc) j (sts a ps) (by rfl) (HX.out.1.keep (bAlloc (Below.refl _ _) _)).mks (some ⟨wr.heap.size, 0, none⟩) 1 1 [(sl : Int)] (by rfl) rfl (.inr ⟨_, rfl, one_new _ _ _⟩) (by omega) (Nat.le_trans hlow2 (by simp)) ?_; intro mv w4 hown hgr hnb; have HAD := Lib.hid ((HX.out.1.keep (bAlloc (Below.refl _ _) _)).addM (Nat.le_refl _) hown hgr hnb); have HBW := Lib.hid ((HX.out.2.alloc hlow2 _).trans HAD.out.2.2); have d0 := (mcell HAD.out.1).1; have d1 := (mcell HAD.out.1).2; have df := frz HAD.out.1 1; have dl := cell_lt d0; obtain ⟨ma2, mc2, rfl⟩ := ownsRow_slice hown; clear hown hgr hnb)
        have HX2 := Lib.hid HAD.out.2.1
        generalize World.setCell w4 _ _ = W2 at HX2 HBW ⊢
        clear HAD d0 d1 df dl b0 b1 bf bl
        have b0 := (mcell HX2.out.box).1
        have bf := frz HX2.out.box 0
        have bl := cell_lt b0
        have hlow3 := HX2.out.low
        have c0 := (HK.out W2 HBW.out).1
        have c1 := (HK.out W2 HBW.out).2.1
        have kN := (HK.out W2 HBW.out).2.2.2
        have lc := cell_lt c0
        have lk := cell_lt kN
        go_cut [] from 45 (fun wc => ∃ sa sc, Hid (BlBox wc ob ob (sl + (S0 - b)) (j + 1) (headL m ++ ps.flatten ++ tailL m) (sts a ps ++ [(sl : Int)]) (.slice sa (sl + (S0 - b)) sc) (.slice ma2 (j + 1) mc2) ∧ Below ob W1 wc))
        case first =>
          by_cases hcb : c = b
          · rw [if_pos hcb] at HTL
            have hcb' := hcb.symm
            subst hcb'
            have hz0 : S0 - b = 0 := by omega
            have HZ0 := Lib.hid hz0
            simp only [Nat.sub_self, hz0] at HTL
            go_region_law (refine step_append_ints2 (by rfl) _ _ (by rfl) ob (.slice sa sl sc) sl (headL m ++ ps.flatten) rfl (HX2.out.keep (Below.drew (Below.refl _ _))).sam (some ⟨sb, so, none⟩) 0 0 (tailL m) rfl (by rw [HBL.out, HZ0.out]) (src_of (HTL.out _ (HWB.out _ (Below.drew HBW.out)))) (by omega) hlow3 ?_; intro sv w5 hown hgr hnb; have HAE := Lib.hid ((HX2.out.keep (Below.drew (Below.refl _ _))).addS (Nat.le_refl _) hown hgr hnb); have HBX := Lib.hid ((Below.drew HBW.out).trans HAE.out.2.2); have d0 := (mcell HAE.out.1).1; have df := frz HAE.out.1 0; have dl := cell_lt d0; obtain ⟨sa2, sc2, rfl⟩ := ownsRow_slice hown; clear hown hgr hnb)
            all_goals
              go_wp2_with fail
              go_meet
              case rel => exact ⟨sa2, sc2, Lib.hid (by rw [HZ0.out]; exact ⟨HAE.out.2.1, HBX.out⟩)⟩
          · rw [if_neg hcb] at HTL
            go_region_law (refine step_append_ints2 (by rfl) _ _ (by rfl) ob (.slice sa sl sc) sl (headL m ++ ps.flatten) rfl (HX2.out.keep (Below.drew (Below.refl _ _))).sam (some ⟨sb, so + b, none⟩) (S0 - b) (c - b) (tailL m) rfl HBL.out (src_of (HTL.out _ (HWB.out _ (Below.drew HBW.out)))) (by omega) hlow3 ?_; intro sv w5 hown hgr hnb; have HAE := Lib.hid ((HX2.out.keep (Below.drew (Below.refl _ _))).addS (Nat.le_refl _) hown hgr hnb); have HBX := Lib.hid ((Below.drew HBW.out).trans HAE.out.2.2); have d0 := (mcell HAE.out.1).1; have df := frz HAE.out.1 0; have dl := cell_lt d0; obtain ⟨sa2, sc2, rfl⟩ := ownsRow_slice hown; clear hown hgr hnb)
            all_goals
              go_wp2_with fail
              go_meet
              case rel => exact ⟨sa2, sc2, Lib.hid ⟨HAE.out.2.1, HBX.out⟩⟩
        case rest =>
          clear b0 bf bl c0 c1 kN lc lk
          obtain ⟨sa3, sc3, HY⟩ := hcut
          have b0 := (mcell HY.out.1.box).1
          have b1 := (mcell HY.out.1.box).2
          have bl := cell_lt b0
          have HRY : Hid (wc.heap[w.heap.size + 1]? = some (.cells #[.slice none 0 0, .slice none 0 0] 24 (0, 0))) := Lib.hid ((HY.out.2.block _ hob2).trans HR1.out)
          have r0 := (mcell HRY.out).1
          have r1 := (mcell HRY.out).2
          have rl := cell_lt r0
          have rf0 := frz HRY.out 0
          have rf1 := frz HRY.out 1
          go_wp2_with fail
          (try simp only [Exit.inBlock, Exit.then])
          refine bodyPost_ret (results_cell_row rfl _ _ (w.heap.size + 1) 24 _ (0, 0) _ rfl (set2_1 (set2_0 HRY.out _) _) Try.underlying24 rfl (by kernel_rfl)) rfl ?_
          have e1 : (bldM m ps).sam.length = sl + (S0 - b) := by show (headL m ++ ps.flatten ++ tailL m).length = _; rw [List.length_append, List.length_append, HAL.out, HBL.out, HSL.out]
          have e2 : (bldM m ps).marks.length = j + 1 := by show (sts (headL m).length ps ++ [(((headL m).length + ps.flatten.length : Nat) : Int)]).length = _; rw [List.length_append, sts_len, HJ.out]; rfl
          have e3 : (bldM m ps).marks = sts a ps ++ [(sl : Int)] := by show sts (headL m).length ps ++ [(((headL m).length + ps.flatten.length : Nat) : Int)] = _; rw [HAL.out, ← HSL.out]
          have h1 := HY.out.1.sam
          have h2 := HY.out.1.mks
          rw [show headL m ++ ps.flatten ++ tailL m = (bldM m ps).sam from rfl, ← e1] at h1
          rw [← e3, ← e2] at h2
          have g1 := own_slice h1 (by rw [e1]; omega)
          have g2 := own_slice h2 (by rw [e2]; omega)
          rw [e1] at g1
          rw [e2] at g2
          refine ⟨⟨sa3, sc3, ma2, mc2, by rw [e1, e2], ?_, ?_⟩, ?_⟩
          · rw [e1]; exact ints_setB g1 HRY.out
          · rw [e2]; exact ints_setB g2 HRY.out
          · exact ((HWB.out _ HY.out.2).setCell (p := ⟨w.heap.size + 1, 0, none⟩) (Nat.le_succ _) _).setCell (p := ⟨w.heap.size + 1, 1, none⟩) (Nat.le_succ _) _
end Go.Proofs.Ytbeeddenidfenaa
