/- Contracts: a step of the specification's tube. -/
import Derived.Test.YtbmbcbknoflpgaaRN
import Derived.Deep.RegionHeld3
import Derived.Deep.RegionWith
set_option linter.unusedSimpArgs false
set_option linter.unusedVariables false
namespace Go.Proofs.Ytbmbcbknoflpgaa
open Go.RowKit

set_option maxRecDepth 10000 in
set_option maxHeartbeats 8000000 in
theorem refStep_any {W : World} {lo rb st : Nat} {s : Shp} {al : List Int} {f : Nat → Int} (h : RefIs W lo rb s al st f) (hs : shpOk s = true) (hl : al.length = s.areas.length + s.branch.length) (har : ∀ j, j < al.length → 1 ≤ al.getD j 0 ∧ al.getD j 0 ≤ 1000) (hst : st ≤ 100000) (fl : List Fd) (v : Value) (hfl : SliceV W v 2 FdAt fl) (hfd : ∀ x ∈ fl, 0 ≤ x.sec ∧ x.sec < (s.areas.length : Int)) (hfn : fl.length ≤ 1000) :
    Calls Try.prog 33 #[.pointer (some ⟨rb, 0, none⟩), v] W fun e w' => e = .returned (.agg #[.int .i64 (lipF al s.areas.length (shpPlaces s) st f), .int .i64 (nosF al s.areas.length (shpPlaces s) st f)]) ∧ RefIs w' lo rb s al (st + 1) (nxtF al (shpPlaces s) st fl f) ∧ W.grownBy w' (some rb) := by
  obtain ⟨va1, vf1, vb1, va2, vf2, vb2, x, y, hx, h1, h2, hlo⟩ := h
  obtain ⟨p1, p2, p3, p4, p5, p6, p7⟩ := shp_parts hs
  have hn24 := (ars_parts p2).1
  have hm24 := (ars_parts p3).1
  obtain ⟨j, hj⟩ : ∃ j : Nat, s.joint = (j : Int) := ⟨s.joint.toNat, by omega⟩
  have hla : s.last = if s.branch.length = 0 then 0 else (s.areas.length : Int) - 2 := rfl
  have hjn : 0 < s.branch.length → j + 1 < s.areas.length := fun hb => by rw [hla, if_neg (by omega), hj] at p4; omega
  have HFIN := Lib.hid (And.intro hs (And.intro hl (And.intro hfd hlo)))
  have ej : s.joint.toNat = j := by omega
  have HJ := Lib.hid ej
  have e6 : al.length - s.areas.length = s.branch.length := by omega
  rw [e6] at h2
  rw [hj] at hx
  obtain ⟨n, hn⟩ : ∃ n, s.areas.length = n := ⟨_, rfl⟩
  obtain ⟨b, hb⟩ : ∃ b, s.branch.length = b := ⟨_, rfl⟩
  obtain ⟨oo, hoo⟩ : ∃ o, offO al.length st = o := ⟨_, rfl⟩
  have HNB := Lib.hid (And.intro hn (And.intro hb hoo))
  rw [hn, hoo] at h1
  rw [hn, hb, hoo] at h2
  rw [hn] at p1 hn24 hjn
  rw [hb] at hm24 hjn
  rw [hn, hb] at hl
  have hLt : (al.take n).length = n := by rw [List.length_take]; omega
  have hLd : (al.drop n).length = b := by rw [List.length_drop]; omega
  have HA := Lib.hid har
  have HH1 := Lib.hid h1
  have HH2 := Lib.hid h2
  have HC1 := Lib.hid (fun (X : World) (hB : Below W.heap.size W X) (sk : Int) => chain_any (al.take n) (wavL f oo 0 0 n) (wavL f oo 1 0 n) sk va1 vf1 vb1 X (h1.below hB).areas (h1.below hB).fwd (h1.below hB).back h1.flen h1.blen (by omega) (fun j hj => by rw [getD_take (by omega)]; exact har j (by omega)))
  have HC2 := Lib.hid (fun (X : World) (hB : Below W.heap.size W X) => chain_any (al.drop n) (wavL f oo 0 n b) (wavL f oo 1 n b) (-1) va2 vf2 vb2 X (h2.below hB).areas (h2.below hB).fwd (h2.below hB).back h2.flen h2.blen (by omega) (fun j hj => by rw [getD_drop]; exact har _ (by omega)))
  have HFL := Lib.hid hfl
  obtain ⟨a1, n1, e1, -⟩ := id h1.areas
  obtain ⟨a2, n2, e2, -⟩ := id h1.fwd
  obtain ⟨a3, n3, e3, -⟩ := id h1.back
  obtain ⟨a4, n4, e4, -⟩ := id h2.areas
  obtain ⟨a5, n5, e5, -⟩ := id h2.fwd
  obtain ⟨a6, n6, e6', -⟩ := id h2.back
  rw [hLt] at e1
  rw [hLd] at e4
  rw [wavL_len] at e2 e3 e5 e6'
  subst e1 e2 e3 e4 e5 e6'
  rw [hLt] at HC1
  rw [hLd] at HC2
  obtain ⟨fa, fc, rfl, -⟩ := hfl
  have HX := Lib.hid hx
  have HLN := Lib.hid (And.intro hl (And.intro hLt hLd))
  have HJN := Lib.hid hjn
  have HFN := Lib.hid hfn
  obtain ⟨LIP, hLIP⟩ : ∃ z, lipF al s.areas.length (shpPlaces s) st f = z := ⟨_, rfl⟩
  obtain ⟨NOS, hNOS⟩ : ∃ z, nosF al s.areas.length (shpPlaces s) st f = z := ⟨_, rfl⟩
  rw [hLIP, hNOS]
  have HLIP := Lib.hid hLIP
  have HNOS := Lib.hid hNOS
  have c0 := cell_of_heap (j := 0) hx (show 0 < 13 by omega)
  have c1 := cell_of_heap (j := 1) hx (show 1 < 13 by omega)
  have c2 := cell_of_heap (j := 2) hx (show 2 < 13 by omega)
  have c3 := cell_of_heap (j := 3) hx (show 3 < 13 by omega)
  have c4 := cell_of_heap (j := 4) hx (show 4 < 13 by omega)
  have c5 := cell_of_heap (j := 5) hx (show 5 < 13 by omega)
  simp at c0 c1 c2 c3 c4 c5
  have hcl := cell_lt c0
  clear h1 h2 hx hl hLt hLd hs hfd hlo har hj hla hjn ej hn hb hoo hfn hLIP hNOS p2 p3 p4 p5 p6 p7 e6
  go_enter Try.func33, Try.ntmps33
  go_wp2_with fail
  have HB1 := Lib.hid (bAlloc (Below.refl W.heap.size W) (.cells #[.int .i64 0, .int .i64 0] 51))
  have R4 : Hid ((W.alloc (.cells #[.int .i64 0, .int .i64 0] 51)).heap[W.heap.size]? = some (.cells #[.int .i64 0, .int .i64 0] 51 (0, 0))) := Lib.hid (World.alloc_heap_new W _)
  replace c0 := keep HB1.out c0
  replace c1 := keep HB1.out c1
  replace c2 := keep HB1.out c2
  replace c3 := keep HB1.out c3
  replace c4 := keep HB1.out c4
  replace c5 := keep HB1.out c5
  replace hcl := cell_lt c0
  generalize World.alloc W _ = W1 at *
  obtain ⟨b4, hb4⟩ : ∃ b4, W.heap.size = b4 := ⟨_, rfl⟩
  have HB4 := Lib.hid hb4
  rw [hb4] at R4 ⊢
  have HB4K : Hid (b4 < W1.heap.size ∧ W.heap.size ≤ b4) := Lib.hid ⟨(Array.getElem?_eq_some_iff.mp R4.out).1, Nat.le_of_eq hb4⟩
  clear hb4
  go_cut [5, 6] from 17 (fun p r wc => ∃ (b5 b6 : Nat), p = .pointer (some ⟨b5, 0, none⟩) ∧ r = .pointer (some ⟨b6, 0, none⟩) ∧ Hid (wc.heap[b5]? = some (.cells #[.slice a1 n n1, .slice a2 n n2, .slice a3 n n3] 110 (0, 0)) ∧ wc.heap[b6]? = some (.cells #[.slice a4 b n4, .slice a5 b n5, .slice a6 b n6] 110 (0, 0)) ∧ Below W1.heap.size W1 wc))
  case first =>
    go_region
    all_goals
      go_wp2_with fail
      go_meet
      first
        | exact ⟨_, _, rfl, rfl, Lib.hid (two_boxes W1 _ _ _ _)⟩
        | exact ⟨_, _, rfl, rfl, Lib.hid ⟨(two_boxes W1 _ _ _ _).2.1, (two_boxes W1 _ _ _ _).1, (two_boxes W1 _ _ _ _).2.2⟩⟩
  case rest =>
    obtain ⟨b5, b6, rfl, rfl, HX5⟩ := hcut
    have x5 := HX5.out.1
    have x6 := HX5.out.2.1
    have HBC := Lib.hid HX5.out.2.2
    have d0 := cell_of_heap (j := 0) x5 (show 0 < 3 by omega)
    have e0 := cell_of_heap (j := 0) x6 (show 0 < 3 by omega)
    simp at d0 e0
    have hdl := cell_lt d0
    have hel := cell_lt e0
    have HE5 := Lib.hid x5
    have HE6 := Lib.hid x6
    have HR4 := Lib.hid (heap_keep HBC.out R4.out)
    clear HX5 x5 x6 c0 c1 c2 c3 c4 c5 hcl
    go_wp2_with fail
    refine wp_opaque fun Q2 hQ2 => ?_
    (refine wp_region_below (by kernel_rfl) (by kernel_rfl) ?_; (repeat (first | go_big_quiet_step (fail) | quiet_step (fail))); (refine wpQuiet_nil ?_; intro _ hw'; obtain ⟨xq, hw''⟩ := hw'; subst hw''))
    refine hQ2 _ _ _ ?_
    replace HBC := Lib.hid (bThen HBC.out xq.2)
    replace HE5 := Lib.hid (heap_keep xq.2 HE5.out)
    replace HE6 := Lib.hid (heap_keep xq.2 HE6.out)
    replace HR4 := Lib.hid (heap_keep xq.2 HR4.out)
    clear d0 e0 hdl hel R4
    generalize xq.val = wc at *
    have HBW := Lib.hid (bThen HB1.out HBC.out)
    have hxr := heap_keep HBW.out HX.out
    have c8 := cell_of_heap (j := 8) hxr (show 8 < 13 by omega)
    simp at c8
    have hcl8 := cell_lt c8
    clear hxr
    go_upto_if 32 with fail
    go_cut [9, 32] from 33 to 37 (fun k _ wx => k = .int .i64 (skp j b) ∧ wx = wc)
    case first =>
      by_cases hb0 : b = 0
      · have hb1 : ¬ (0 : Int) < (b : Int) := by omega
        have HSK : Hid (skp j b = -1) := Lib.hid (by unfold skp; rw [if_pos hb0])
        clear hb0
        go_wp2_with fail
        all_goals first | (exfalso; omega) | skip
        go_meet
        exact ⟨by rw [HSK.out], rfl⟩
      · have hb1 : (0 : Int) < (b : Int) := by omega
        have HSK : Hid (skp j b = (j : Int)) := Lib.hid (by unfold skp; rw [if_neg hb0])
        clear hb0
        go_wp2_with fail
        all_goals first | (exfalso; omega) | skip
        go_meet
        exact ⟨by rw [HSK.out], rfl⟩
    case rest =>
      obtain ⟨rfl, rfl⟩ := hcut
      have d0 := cell_of_heap (j := 0) HE5.out (show 0 < 3 by omega)
      have d1 := cell_of_heap (j := 1) HE5.out (show 1 < 3 by omega)
      have d2 := cell_of_heap (j := 2) HE5.out (show 2 < 3 by omega)
      have e0 := cell_of_heap (j := 0) HE6.out (show 0 < 3 by omega)
      have e1 := cell_of_heap (j := 1) HE6.out (show 1 < 3 by omega)
      have e2 := cell_of_heap (j := 2) HE6.out (show 2 < 3 by omega)
      simp at d0 d1 d2 e0 e1 e2
      clear c8 hcl8
      have HKX : Hid (∀ X, Below wc.heap.size wc X → (X.cell? ⟨b5, 0, none⟩ = some (.slice a1 n n1) ∧ X.cell? ⟨b5, 1, none⟩ = some (.slice a2 n n2) ∧ X.cell? ⟨b5, 2, none⟩ = some (.slice a3 n n3) ∧ X.cell? ⟨b6, 0, none⟩ = some (.slice a4 b n4) ∧ X.cell? ⟨b6, 1, none⟩ = some (.slice a5 b n5) ∧ X.cell? ⟨b6, 2, none⟩ = some (.slice a6 b n6))) := Lib.hid (fun X hB => ⟨keep hB d0, keep hB d1, keep hB d2, keep hB e0, keep hB e1, keep hB e2⟩)
      clear d0 d1 d2 e0 e1 e2
      go_upto_region 6 with fail
      go_cut [10, 11] from 38 to 42 (fun p q wd => ∃ (b10 b11 g2 g3 g4 g5 : Nat) (v1 v2 : Value), p = .pointer (some ⟨b10, 0, none⟩) ∧ q = .pointer (some ⟨b11, 0, none⟩) ∧ Hid (StM W wd W1.heap.size b4 b5 b6 b10 b11 g2 g3 g4 g5 n b #[.slice a1 n n1, .slice a2 n n2, .slice a3 n n3] #[.slice a4 b n4, .slice a5 b n5, .slice a6 b n6] v1 v2 (al.take n) (al.drop n) (chnF (al.take n) (wavL f oo 0 0 n) (wavL f oo 1 0 n) (skp j b) (n - 1)) (chnB (al.take n) (wavL f oo 0 0 n) (wavL f oo 1 0 n) (skp j b) (n - 1)) (chnF (al.drop n) (wavL f oo 0 n b) (wavL f oo 1 n b) (-1) (b - 1)) (chnB (al.drop n) (wavL f oo 0 n b) (wavL f oo 1 n b) (-1) (b - 1))))
      case first =>
        go_region_held3 (fun X => (X.cell? ⟨b5, 0, none⟩ = some (.slice a1 n n1) ∧ X.cell? ⟨b5, 1, none⟩ = some (.slice a2 n n2) ∧ X.cell? ⟨b5, 2, none⟩ = some (.slice a3 n n3) ∧ X.cell? ⟨b6, 0, none⟩ = some (.slice a4 b n4) ∧ X.cell? ⟨b6, 1, none⟩ = some (.slice a5 b n5) ∧ X.cell? ⟨b6, 2, none⟩ = some (.slice a6 b n6))) (((try dsimp only); exact HKX.out _ (by (repeat (first | (with_reducible refine bSetN ?_ (by omega) _ _) | (with_reducible refine Below.drew ?_) | (with_reducible refine bAlloc ?_ _) | (with_reducible exact Below.refl _ _) | (with_reducible exact HB2.out) | (with_reducible exact HB3.out)))))) (first
          | (go_at_call 69; (with_reducible refine Calls.mono (HC1.out _ (bThen HBW.out (by (repeat (first | (with_reducible refine bSetN ?_ (by omega) _ _) | (with_reducible refine Below.drew ?_) | (with_reducible refine bAlloc ?_ _) | (with_reducible exact Below.refl _ _) | (with_reducible exact HB2.out) | (with_reducible exact HB3.out))))) _) ?_); rintro e w2 ⟨⟨v1, g2, g3, rfl, hs⟩, hb⟩; have HB2 : Hid (Below wc.heap.size wc w2) := Lib.hid (bThen (by (repeat (first | (with_reducible refine bSetN ?_ (by omega) _ _) | (with_reducible refine Below.drew ?_) | (with_reducible refine bAlloc ?_ _) | (with_reducible exact Below.refl _ _) | (with_reducible exact HB2.out) | (with_reducible exact HB3.out)))) hb); have HS2 := Lib.hid hs; have HBa := Lib.hid hb; have hzA := hb.size; (try simp at hzA); obtain ⟨bc1, bc2⟩ := bcell hb; (try simp at bc1 bc2); obtain ⟨k1a, k1c, rfl⟩ := hs.shapeN HLN.out.2.1; have q2 := HB2.out.size; (try (have y1 : wc.heap.size < w2.heap.size := by omega)); (try (have y2 : wc.heap.size + 1 < w2.heap.size := by omega)); clear hs hb)
          | (go_at_call 69; (with_reducible refine Calls.mono (HC2.out _ (bThen HBW.out (by (repeat (first | (with_reducible refine bSetN ?_ (by omega) _ _) | (with_reducible refine Below.drew ?_) | (with_reducible refine bAlloc ?_ _) | (with_reducible exact Below.refl _ _) | (with_reducible exact HB2.out) | (with_reducible exact HB3.out)))))) ?_); rintro e w3 ⟨⟨v2, g4, g5, rfl, hs⟩, hb⟩; have HB3 : Hid (Below wc.heap.size wc w3) := Lib.hid (bThen (by (repeat (first | (with_reducible refine bSetN ?_ (by omega) _ _) | (with_reducible refine Below.drew ?_) | (with_reducible refine bAlloc ?_ _) | (with_reducible exact Below.refl _ _) | (with_reducible exact HB2.out) | (with_reducible exact HB3.out)))) hb); have HS3 := Lib.hid hs; have HBb := Lib.hid hb; have hzB := hb.size; (try simp at hzB); obtain ⟨bd1, bd2⟩ := bcell hb; (try simp at bd1 bd2); obtain ⟨k2a, k2c, rfl⟩ := hs.shapeN HLN.out.2.2; have q3 := HB3.out.size; (try (have x1 : wc.heap.size < w3.heap.size := by omega)); (try (have x2 : w2.heap.size < w3.heap.size := by omega)); (try (have x3 : wc.heap.size + 1 < w3.heap.size := by omega)); (try (have x4 : w2.heap.size + 1 < w3.heap.size := by omega)); clear hs hb))
        all_goals
          clear bc1 bc2 bd1 bd2 hzA hzB
          go_wp2_with fail
          go_meet
          case rel =>
            refine ⟨_, _, g2, g3, g4, g5, _, _, rfl, rfl, Lib.hid (st_end ?_ HS2.out ?_ HS3.out HBb.out HB2.out ?_ HBC.out.size ?_ ?_ HBW.out HR4.out HE5.out HE6.out HB1.out.size HB4K.out)⟩
            · first
                | (with_reducible exact end_aa HB3.out)
                | (with_reducible exact (end_aa HB3.out).swap)
                | (with_reducible refine end_sa HB3.out ?_ ?_)
                | (with_reducible refine (end_sa HB3.out ?_ ?_).swap)
                | (with_reducible refine end_ss HB3.out ?_ ?_ ?_ ?_ ?_)
              all_goals first
                | omega
                | (first | exact heap_keep HBb.out (World.alloc_heap_new w2 _) | exact heap_keep HBb.out ((two_boxes w2 _ _ _ _).1) | exact heap_keep HBb.out ((two_boxes w2 _ _ _ _).2.1) | exact heap_keep HBb.out (heap_keep HBa.out (World.alloc_heap_new wc _)) | exact heap_keep HBb.out (heap_keep (bAlloc (Below.refl _ _) _) (heap_keep HBa.out (World.alloc_heap_new wc _))) | exact heap_keep HBb.out (heap_keep HBa.out ((two_boxes wc _ _ _ _).1)) | exact heap_keep HBb.out (heap_keep (bAlloc (Below.refl _ _) _) (heap_keep HBa.out ((two_boxes wc _ _ _ _).1))) | exact heap_keep HBb.out (heap_keep HBa.out ((two_boxes wc _ _ _ _).2.1)) | exact heap_keep HBb.out (heap_keep (bAlloc (Below.refl _ _) _) (heap_keep HBa.out ((two_boxes wc _ _ _ _).2.1))))
            · exact (by (repeat (first | (with_reducible refine Below.drew ?_) | (with_reducible refine bAlloc ?_ _) | (with_reducible exact Below.refl _ _))))
            · first | omega | (simp only [World.size_alloc, World.size_drew]; omega)
            · first | omega | (simp only [World.size_alloc, World.size_drew]; omega)
            · first | omega | (simp only [World.size_alloc, World.size_drew]; omega)
      case rest =>
        clear HKX HC1 HC2 HBC HE5 HE6 HR4 HBW
        obtain ⟨b10, b11, g2, g3, g4, g5, v1, v2, rfl, rfl, HM⟩ := hcut
        obtain ⟨u1, m1, rfl⟩ := HM.out.s1.shapeN HLN.out.2.1
        obtain ⟨u2, m2, rfl⟩ := HM.out.s2.shapeN HLN.out.2.2
        have HS0 := Lib.hid HM.out.made
        clear HM
        go_upto_if 44 with fail
        obtain ⟨b12, hb12⟩ : ∃ b12, wc.heap.size = b12 := ⟨_, rfl⟩
        rw [hb12] at HS0 ⊢
        generalize World.alloc wc _ = w7 at *
        clear hb12
        go_cut [9, 13, 14, 44] from 45 to 127 (fun _ _ _ _ wx => ∃ (F2 B2 : Nat → Int), Hid (StAt W wx W1.heap.size b4 b5 b6 b10 b11 b12 g2 g3 g4 g5 n b #[.slice a1 n n1, .slice a2 n n2, .slice a3 n n3] #[.slice a4 b n4, .slice a5 b n5, .slice a6 b n6] (.slice u1 n m1) (.slice u2 b m2) (al.take n) (al.drop n) (preF al n b j oo f) (preB al n b j oo f) F2 B2 0 NOS ∧ (0 < b → F2 = armF al n b j oo f ∧ B2 = armB al n b oo s.nose f)))
        case first =>
          by_cases hb0 : b = 0
          · have hb1 : ¬ (0 : Int) < (b : Int) := by omega
            have HPF : Hid (preF al n b j oo f = (chnF (al.take n) (wavL f oo 0 0 n) (wavL f oo 1 0 n) (skp j b) (n - 1))) := Lib.hid (by unfold preF; rw [if_pos hb0])
            have HPB : Hid (preB al n b j oo f = (chnB (al.take n) (wavL f oo 0 0 n) (wavL f oo 1 0 n) (skp j b) (n - 1))) := Lib.hid (by unfold preB; rw [if_pos hb0])
            have HNN : Hid (NOS = 0) := Lib.hid (by rw [← HNOS.out]; exact nose_none HFIN.out.2.1 (by rw [HNB.out.2.1]; exact hb0))
            have HB0 := Lib.hid hb0
            clear hb0
            go_wp2_with fail
            all_goals first | (exfalso; omega) | skip
            go_meet
            case rel =>
              refine ⟨(chnF (al.drop n) (wavL f oo 0 n b) (wavL f oo 1 n b) (-1) (b - 1)), (chnB (al.drop n) (wavL f oo 0 n b) (wavL f oo 1 n b) (-1) (b - 1)), Lib.hid ⟨?_, fun h => absurd HB0.out (by omega)⟩⟩
              rw [HPF.out, HPB.out, HNN.out]
              exact HS0.out
          · have hb1 : (0 : Int) < (b : Int) := by omega
            have HPF : Hid (preF al n b j oo f = upd (chnF (al.take n) (wavL f oo 0 0 n) (wavL f oo 1 0 n) (skp j b) (n - 1)) (j + 1) (forkV al n j oo f 1)) := Lib.hid (by unfold preF; rw [if_neg hb0])
            have HPB : Hid (preB al n b j oo f = upd (chnB (al.take n) (wavL f oo 0 0 n) (wavL f oo 1 0 n) (skp j b) (n - 1)) j (forkV al n j oo f 0)) := Lib.hid (by unfold preB; rw [if_neg hb0])
            have HBP : Hid (0 < b) := Lib.hid (by omega)
            have hsk : skp j b = (j : Int) := by unfold skp; rw [if_neg hb0]
            rw [hsk]
            clear hsk hb0
            have hjn := HJN.out HBP.out
            have HWX := Lib.hid HS0.out.below
            obtain ⟨q1, o1, k1, e1, r1, -⟩ := int_at HH1.out.areas HWX.out (show j < (al.take n).length by rw [HLN.out.2.1]; omega)
            obtain ⟨_, _, _, e1', r1', -⟩ := int_at HH1.out.areas HWX.out (show j + 1 < (al.take n).length by rw [HLN.out.2.1]; omega)
            obtain ⟨q2, o2, k2, e2, r2, -⟩ := int_at HH1.out.fwd HWX.out (show j < (wavL f oo 0 0 n).length by rw [wavL_len]; omega)
            obtain ⟨q3, o3, k3, e3, r3, -⟩ := int_at HH1.out.back HWX.out (show j + 1 < (wavL f oo 1 0 n).length by rw [wavL_len]; omega)
            obtain ⟨q4, o4, k4, e4, r4, -⟩ := int_at HH2.out.areas HWX.out (show 0 < (al.drop n).length by rw [HLN.out.2.2]; exact HBP.out)
            obtain ⟨q5, o5, k5, e5, r5, -⟩ := int_at HH2.out.fwd (Below.refl _ _) (show b - 1 < (wavL f oo 0 n b).length by rw [wavL_len]; have := HBP.out; omega)
            obtain ⟨q6, o6, k6, e6, r6, -⟩ := int_at HH2.out.back HWX.out (show 0 < (wavL f oo 1 n b).length by rw [wavL_len]; exact HBP.out)
            obtain ⟨rfl, -, -⟩ := Value.slice.inj e1
            obtain ⟨h1, -, -⟩ := Value.slice.inj e1'
            simp only [Option.some.injEq, Addr.mk.injEq] at h1
            obtain ⟨rfl, rfl, -⟩ := h1
            obtain ⟨rfl, -, -⟩ := Value.slice.inj e2
            obtain ⟨rfl, -, -⟩ := Value.slice.inj e3
            obtain ⟨rfl, -, -⟩ := Value.slice.inj e4
            obtain ⟨rfl, -, -⟩ := Value.slice.inj e5
            obtain ⟨rfl, -, -⟩ := Value.slice.inj e6
            clear e1 e1' e2 e3 e4 e5 e6
            rw [getD_take (by omega)] at r1 r1'
            rw [wav0 _ _ _ _ (by omega)] at r2
            rw [wav1 _ _ _ _ (by omega)] at r3
            rw [getD_drop] at r4
            simp only [Nat.add_zero] at r4
            rw [wav2 _ _ _ _ _ (by have := HBP.out; omega), show n + (b - 1) = n - 1 + b by have := HBP.out; omega] at r5
            rw [wavL_get _ _ _ _ _ _ HBP.out] at r6
            simp only [Nat.add_zero] at r6
            have HSC := Lib.hid (joint_three (al.getD j 0) (al.getD (j + 1) 0) (al.getD n 0) (f (oo + j * 2)) (f (oo + (j + 1) * 2 + 1)) (f (oo + n * 2 + 1)) (HA.out j (by have := HLN.out; omega)) (HA.out (j + 1) (by have := HLN.out; omega)) (HA.out n (by have := HLN.out; have := HBP.out; omega)))
            have HFK : Hid (∀ i, sc3 (al.getD j 0) (al.getD (j + 1) 0) (al.getD n 0) (f (oo + j * 2)) (f (oo + (j + 1) * 2 + 1)) (f (oo + n * 2 + 1)) i = forkV al n j oo f i) := Lib.hid (fun i => rfl)
            rw [HFK.out 0, HFK.out 1, HFK.out 2] at HSC
            clear HFK
            obtain ⟨x1, hx1⟩ : ∃ z, al.getD j 0 = z := ⟨_, rfl⟩
            obtain ⟨x2, hx2⟩ : ∃ z, al.getD (j + 1) 0 = z := ⟨_, rfl⟩
            obtain ⟨x3, hx3⟩ : ∃ z, al.getD n 0 = z := ⟨_, rfl⟩
            obtain ⟨y1, hy1⟩ : ∃ z, f (oo + j * 2) = z := ⟨_, rfl⟩
            obtain ⟨y2, hy2⟩ : ∃ z, f (oo + (j + 1) * 2 + 1) = z := ⟨_, rfl⟩
            obtain ⟨y3, hy3⟩ : ∃ z, f (oo + n * 2 + 1) = z := ⟨_, rfl⟩
            obtain ⟨y4, hy4⟩ : ∃ z, f (oo + (n - 1 + b) * 2) = z := ⟨_, rfl⟩
            rw [hx1] at r1 HSC
            rw [hx2] at r1' HSC
            rw [hx3] at r4 HSC
            rw [hy1] at r2 HSC
            rw [hy2] at r3 HSC
            rw [hy3] at r6 HSC
            rw [hy4] at r5
            have HY4 := Lib.hid hy4
            clear hx1 hx2 hx3 hy1 hy2 hy3 hy4
            obtain ⟨f0, hf0⟩ : ∃ z, forkV al n j oo f 0 = z := ⟨_, rfl⟩
            obtain ⟨f1, hf1⟩ : ∃ z, forkV al n j oo f 1 = z := ⟨_, rfl⟩
            obtain ⟨f2, hf2⟩ : ∃ z, forkV al n j oo f 2 = z := ⟨_, rfl⟩
            rw [hf0] at HSC HPB
            rw [hf1] at HSC HPF
            rw [hf2] at HSC
            have HF2 := Lib.hid hf2
            clear hf0 hf1 hf2
            have d0 := cell_of_heap (j := 0) HS0.out.e5 (show 0 < 3 by omega)
            have d1 := cell_of_heap (j := 1) HS0.out.e5 (show 1 < 3 by omega)
            have d2 := cell_of_heap (j := 2) HS0.out.e5 (show 2 < 3 by omega)
            have e0 := cell_of_heap (j := 0) HS0.out.e6 (show 0 < 3 by omega)
            have e1 := cell_of_heap (j := 1) HS0.out.e6 (show 1 < 3 by omega)
            have e2 := cell_of_heap (j := 2) HS0.out.e6 (show 2 < 3 by omega)
            simp at d0 d1 d2 e0 e1 e2
            have HKX : Hid (∀ X, Below w7.heap.size w7 X → (X.cell? ⟨b5, 0, none⟩ = some (.slice (some ⟨q1, o1, none⟩) n n1) ∧ X.cell? ⟨b5, 1, none⟩ = some (.slice (some ⟨q2, o2, none⟩) n n2) ∧ X.cell? ⟨b5, 2, none⟩ = some (.slice (some ⟨q3, o3, none⟩) n n3) ∧ X.cell? ⟨b6, 0, none⟩ = some (.slice (some ⟨q4, o4, none⟩) b n4) ∧ X.cell? ⟨b6, 2, none⟩ = some (.slice (some ⟨q6, o6, none⟩) b n6) ∧ X.cell? ⟨q1, o1 + j, none⟩ = some (.int .i64 x1) ∧ X.cell? ⟨q1, o1 + (j + 1), none⟩ = some (.int .i64 x2) ∧ X.cell? ⟨q4, o4, none⟩ = some (.int .i64 x3) ∧ X.cell? ⟨q2, o2 + j, none⟩ = some (.int .i64 y1) ∧ X.cell? ⟨q3, o3 + (j + 1), none⟩ = some (.int .i64 y2) ∧ X.cell? ⟨q6, o6, none⟩ = some (.int .i64 y3))) := Lib.hid (fun X hB => ⟨keep hB d0, keep hB d1, keep hB d2, keep hB e0, keep hB e2, keep hB r1, keep hB r1', keep hB r4, keep hB r2, keep hB r3, keep hB r6⟩)
            have E1 := Lib.hid e1
            have R5 := Lib.hid r5
            clear d0 d1 d2 e0 e1 e2 r1 r1' r2 r3 r4 r5 r6
            have i1 : (j : Int) < (n : Int) := by omega
            have i2 : (j : Int) + 1 < (n : Int) := by omega
            have i3 : (0 : Int) ≤ (j : Int) + 1 := by omega
            have i4 : ((j : Int) + 1).toNat = j + 1 := by omega
            have i5 : IntKind.i64.wrap ((j : Int) + 1) = (j : Int) + 1 := IntWalk.i64_in _ (by omega)
            have i6 : 0 < b := HBP.out
            go_upto_region 9 with fail
            go_cut [13, 44] from 45 to 77 (fun z _ wx => ∃ (p o k : Nat), z = .slice (some ⟨p, o, none⟩) 3 k ∧ Hid ((wx.cell? ⟨p, o, none⟩ = some (.int .i64 f0) ∧ wx.cell? ⟨p, o + 1, none⟩ = some (.int .i64 f1) ∧ wx.cell? ⟨p, o + 2, none⟩ = some (.int .i64 f2)) ∧ Below w7.heap.size w7 wx))
            case first =>
              go_region_held3 (fun X => (X.cell? ⟨b5, 0, none⟩ = some (.slice (some ⟨q1, o1, none⟩) n n1) ∧ X.cell? ⟨b5, 1, none⟩ = some (.slice (some ⟨q2, o2, none⟩) n n2) ∧ X.cell? ⟨b5, 2, none⟩ = some (.slice (some ⟨q3, o3, none⟩) n n3) ∧ X.cell? ⟨b6, 0, none⟩ = some (.slice (some ⟨q4, o4, none⟩) b n4) ∧ X.cell? ⟨b6, 2, none⟩ = some (.slice (some ⟨q6, o6, none⟩) b n6) ∧ X.cell? ⟨q1, o1 + j, none⟩ = some (.int .i64 x1) ∧ X.cell? ⟨q1, o1 + (j + 1), none⟩ = some (.int .i64 x2) ∧ X.cell? ⟨q4, o4, none⟩ = some (.int .i64 x3) ∧ X.cell? ⟨q2, o2 + j, none⟩ = some (.int .i64 y1) ∧ X.cell? ⟨q3, o3 + (j + 1), none⟩ = some (.int .i64 y2) ∧ X.cell? ⟨q6, o6, none⟩ = some (.int .i64 y3))) (((try dsimp only); exact HKX.out _ (by (repeat (first | (with_reducible refine Below.drew ?_) | (with_reducible refine bAlloc ?_ _) | (with_reducible exact Below.refl _ _) | (with_reducible exact HB6.out)))))) (first
                | (go_at_call 22; (with_reducible refine Calls.mono (HSC.out _ _ _ (by first | exact cellD (keep (bAlloc (Below.refl _ _) _) (cell_new rfl)) | exact cellD (cell_newP (World.size_alloc _ _) rfl) | fail) (by first | exact cellD (keep (bAlloc (Below.refl _ _) _) (cell_new rfl)) | exact cellD (cell_newP (World.size_alloc _ _) rfl) | fail) (by first | exact cellD (keep (bAlloc (Below.refl _ _) _) (cell_new rfl)) | exact cellD (cell_newP (World.size_alloc _ _) rfl) | fail) (by first | exact cellD (keep (bAlloc (Below.refl _ _) _) (cell_new rfl)) | exact cellD (cell_newP (World.size_alloc _ _) rfl) | fail) (by first | exact cellD (keep (bAlloc (Below.refl _ _) _) (cell_new rfl)) | exact cellD (cell_newP (World.size_alloc _ _) rfl) | fail) (by first | exact cellD (keep (bAlloc (Below.refl _ _) _) (cell_new rfl)) | exact cellD (cell_newP (World.size_alloc _ _) rfl) | fail)) ?_); rintro e w6 ⟨⟨b6', o6', k6', rfl, hc6⟩, hb6⟩; have HB6 : Hid (Below w7.heap.size w7 w6) := Lib.hid (bThen (by (repeat (first | (with_reducible refine Below.drew ?_) | (with_reducible refine bAlloc ?_ _) | (with_reducible exact Below.refl _ _) | (with_reducible exact HB6.out)))) hb6); have HC6 := Lib.hid hc6; clear hc6 hb6))
              all_goals
                go_wp2_with fail
                go_meet
                case rel => exact ⟨_, _, _, rfl, Lib.hid ⟨HC6.out, HB6.out⟩⟩
            case rest =>
              obtain ⟨p, o, k, rfl, HP⟩ := hcut
              obtain ⟨⟨s0, s1, s2⟩, hb⟩ := HP.out
              have HS1 := Lib.hid (HS0.out.belowR hb)
              clear HP HKX HSC hb E1 HWX HS0
              have hsl := cell_lt s0
              obtain ⟨CF, hCF⟩ : ∃ z, (chnF (al.take n) (wavL f oo 0 0 n) (wavL f oo 1 0 n) (skp j b) (n - 1)) = z := ⟨_, rfl⟩
              obtain ⟨CB, hCB⟩ : ∃ z, (chnB (al.take n) (wavL f oo 0 0 n) (wavL f oo 1 0 n) (skp j b) (n - 1)) = z := ⟨_, rfl⟩
              obtain ⟨NF, hNF⟩ : ∃ z, (chnF (al.drop n) (wavL f oo 0 n b) (wavL f oo 1 n b) (-1) (b - 1)) = z := ⟨_, rfl⟩
              obtain ⟨NB, hNB⟩ : ∃ z, (chnB (al.drop n) (wavL f oo 0 n b) (wavL f oo 1 n b) (-1) (b - 1)) = z := ⟨_, rfl⟩
              have HNF := Lib.hid (And.intro hNF hNB)
              rw [hCF, hCB, hNF, hNB] at HS1
              rw [hCF] at HPF
              rw [hCB] at HPB
              clear hCF hCB hNF hNB
              go_upto_region 10 with fail
              go_cut [14, 44] from 78 to 98 (fun _ _ wx => Hid (StAt W wx W1.heap.size b4 b5 b6 b10 b11 b12 g2 g3 g4 g5 n b #[.slice (some ⟨q1, o1, none⟩) n n1, .slice (some ⟨q2, o2, none⟩) n n2, .slice (some ⟨q3, o3, none⟩) n n3] #[.slice (some ⟨q4, o4, none⟩) b n4, .slice (some ⟨q5, o5, none⟩) b n5, .slice (some ⟨q6, o6, none⟩) b n6] (.slice u1 n m1) (.slice u2 b m2) (al.take n) (al.drop n) (upd CF (j + 1) f1) (upd CB j f0) (upd NF 0 f2) NB 0 0))
              case first =>
                have h10 := HS1.out.e10
                have h11 := HS1.out.e11
                have t1 := cell_of_heap (j := 1) h10 (show 1 < 3 by omega)
                have t2 := cell_of_heap (j := 2) h10 (show 2 < 3 by omega)
                have t3 := cell_of_heap (j := 1) h11 (show 1 < 3 by omega)
                simp at t1 t2 t3
                have l10 := cell_lt t1
                have l11 := cell_lt t3
                have z1 := HS1.out.s1.fwd.cell (i := j + 1) (by omega)
                have z2 := HS1.out.s1.back.cell (i := j) (by omega)
                have z3 := HS1.out.s2.fwd.cell (i := 0) (by omega)
                have w1 := HS1.out.s1.fwd.frozen (j + 1)
                have w2 := HS1.out.s1.back.frozen j
                have w3 := HS1.out.s2.fwd.frozen 0
                have l2 := HS1.out.s1.fwd.lt
                have l3 := HS1.out.s1.back.lt
                have l4 := HS1.out.s2.fwd.lt
                have ne1 := HS1.out.s1.ne
                have ne1' := ne1.symm
                have ne2 := HS1.out.ne.1
                have ne2' := ne2.symm
                have ne3 := HS1.out.ne.2.2.1
                have ne3' := ne3.symm
                have be1 := box_ne h10 HS1.out.s1.fwd (by decide)
                have be2 := box_ne h10 HS1.out.s1.back (by decide)
                have be3 := box_ne h10 HS1.out.s2.fwd (by decide)
                have be4 := box_ne h11 HS1.out.s1.fwd (by decide)
                have be5 := box_ne h11 HS1.out.s1.back (by decide)
                have be6 := box_ne h11 HS1.out.s2.fwd (by decide)
                have i7 : (0 : Int) < (b : Int) := hb1
                obtain ⟨xv1, hxv1⟩ : ∃ z, CF (j + 1) = z := ⟨_, rfl⟩
                obtain ⟨xv2, hxv2⟩ : ∃ z, CB j = z := ⟨_, rfl⟩
                obtain ⟨xv3, hxv3⟩ : ∃ z, NF 0 = z := ⟨_, rfl⟩
                rw [hxv1] at z1
                rw [hxv2] at z2
                rw [hxv3] at z3
                clear hxv1 hxv2 hxv3
                clear h10 h11
                go_region
                all_goals
                  go_wp2_with fail
                  go_meet
                  case rel => first
                    | (with_reducible exact Lib.hid (((HS1.out.setB j f0).setF (j + 1) f1).setF2 0 f2))
                    | (with_reducible exact Lib.hid ((((HS1.out.setB j f0).setF (j + 1) f1).setF2 0 f2).belowR (Below.drew (Below.refl _ _))))
                    | (with_reducible exact Lib.hid (((HS1.out.setB j f0).setF2 0 f2).setF (j + 1) f1))
                    | (with_reducible exact Lib.hid ((((HS1.out.setB j f0).setF2 0 f2).setF (j + 1) f1).belowR (Below.drew (Below.refl _ _))))
                    | (with_reducible exact Lib.hid (((HS1.out.setF (j + 1) f1).setB j f0).setF2 0 f2))
                    | (with_reducible exact Lib.hid ((((HS1.out.setF (j + 1) f1).setB j f0).setF2 0 f2).belowR (Below.drew (Below.refl _ _))))
                    | (with_reducible exact Lib.hid (((HS1.out.setF (j + 1) f1).setF2 0 f2).setB j f0))
                    | (with_reducible exact Lib.hid ((((HS1.out.setF (j + 1) f1).setF2 0 f2).setB j f0).belowR (Below.drew (Below.refl _ _))))
                    | (with_reducible exact Lib.hid (((HS1.out.setF2 0 f2).setB j f0).setF (j + 1) f1))
                    | (with_reducible exact Lib.hid ((((HS1.out.setF2 0 f2).setB j f0).setF (j + 1) f1).belowR (Below.drew (Below.refl _ _))))
                    | (with_reducible exact Lib.hid (((HS1.out.setF2 0 f2).setF (j + 1) f1).setB j f0))
                    | (with_reducible exact Lib.hid ((((HS1.out.setF2 0 f2).setF (j + 1) f1).setB j f0).belowR (Below.drew (Below.refl _ _))))
              case rest =>
                have HS2 := hcut
                clear s0 s1 s2 hsl HS1
                have hxr := heap_keep HS2.out.below HX.out
                have c11 := cell_of_heap (j := 11) hxr (show 11 < 13 by omega)
                have e1 := cell_of_heap (j := 1) HS2.out.e6 (show 1 < 3 by omega)
                have t2 := cell_of_heap (j := 2) HS2.out.e11 (show 2 < 3 by omega)
                simp at c11 e1 t2
                have r5 := keep HS2.out.below R5.out
                obtain ⟨b1, hbb⟩ : ∃ b1, b - 1 = b1 := ⟨_, rfl⟩
                rw [hbb] at r5
                have HB1' := Lib.hid hbb
                have v1 : IntKind.i64.wrap ((b : Int) - 1) = (b1 : Int) := by rw [IntWalk.i64_in _ (by omega)]; omega
                have v2 : (b1 : Int) < (b : Int) := by omega
                have v3 : b1 < b := by omega
                have l5 := cell_lt r5
                have l6 := cell_lt e1
                have l7 := cell_lt t2
                have l8 := cell_lt c11
                obtain ⟨NO, hNO⟩ : ∃ z, s.nose = z := ⟨_, rfl⟩
                rw [hNO] at c11
                have HNO := Lib.hid hNO
                have hnor := (shp_parts HFIN.out.1).2.2.2.2.2.2
                have hmo : s.most ≤ 99 := by unfold Shp.most; split <;> omega
                have hno2 : 0 ≤ NO ∧ NO ≤ 99 := by rw [← hNO]; omega
                have v4 : IntKind.i64.wrap (-NO) = -NO := IntWalk.i64_in _ (by omega)
                obtain ⟨m, hm⟩ : ∃ m, wrap64 (-NO * y4) = m := ⟨_, rfl⟩
                have v5 : IntKind.i64.wrap (-NO * y4) = m := by rw [IntWalk.i64_left]; exact hm
                have hmi := w64_in (-NO * y4)
                rw [hm] at hmi
                have T1 := Lib.hid (fun X => toward64_any m 100 X hmi (by omega))
                obtain ⟨tn, htn⟩ : ∃ t, m.tdiv 100 = t := ⟨_, rfl⟩
                rw [htn] at T1
                have HTN : Hid (thr (-NO) y4 = tn) := Lib.hid (by unfold thr; rw [hm]; exact htn)
                have HNS : Hid (wrap64 (y4 + tn) = NOS) := Lib.hid (by
                  have h1 := nose_says (st := st) (f := f) HFIN.out.1 HFIN.out.2.1 (by rw [HNB.out.2.1]; exact HBP.out)
                  rw [HNB.out.1, HNB.out.2.1, HNB.out.2.2, HY4.out, hNO, HTN.out] at h1
                  rw [h1, ← HNOS.out, HNB.out.1])
                have v6 : IntKind.i64.wrap (y4 + tn) = NOS := by rw [IntWalk.i64_left]; exact HNS.out
                clear hbb hNO hnor hmo hno2 hm hmi htn hxr
                go_wp2_with fail
                refine wp_opaque fun Q2 hQ2 => ?_
                (refine region_below_tail 14 (by kernel_rfl) (by kernel_rfl) ?_; (simp only [List.take_succ_cons, List.take_zero, List.drop_succ_cons, List.drop_zero]); (repeat (first | go_big_quiet_step ((with_reducible exact toS T1.out _)) | quiet_step ((with_reducible exact toS T1.out _)))); (refine wpQuiet_nil ?_; intro _ hw'; obtain ⟨xq, hw''⟩ := hw'; subst hw''))
                have HS3 := Lib.hid (HS2.out.belowR xq.2)
                clear c11 e1 t2 r5 l5 l6 l7 l8 HS2 T1
                obtain ⟨w8, hw8⟩ : ∃ z, xq.val = z := ⟨_, rfl⟩
                rw [hw8] at HS3 ⊢
                clear hw8
                have h11 := HS3.out.e11
                have h12 := HS3.out.e12
                have t2 := cell_of_heap (j := 2) h11 (show 2 < 3 by omega)
                have t3 := cell_of_heap (j := 1) h12 (show 1 < 2 by omega)
                simp at t2 t3
                have l7 := cell_lt t2
                have l8 := cell_lt t3
                have z1 := HS3.out.s2.back.cell (i := b1) v3
                have w1 := HS3.out.s2.back.frozen b1
                have l5 := HS3.out.s2.back.lt
                have w2 : w8.frozen? ⟨b12, 1, none⟩ = false := frozen_heap h12
                have be1 := box_ne h11 HS3.out.s2.back (by decide)
                have be2 := box_ne h12 HS3.out.s2.back (by decide)
                have HE := Lib.hid ((HS3.out.setB2 b1 tn).setN NOS)
                obtain ⟨xv, hxv⟩ : ∃ z, NB b1 = z := ⟨_, rfl⟩
                rw [hxv] at z1
                clear hxv
                clear h11 h12
                go_wp2_with fail
                go_meet
                case rel =>
                  refine ⟨upd NF 0 f2, upd NB b1 tn, Lib.hid ⟨?_, fun _ => ⟨?_, ?_⟩⟩⟩
                  · rw [HPF.out, HPB.out]; exact HE.out
                  · unfold armF; rw [HNF.out.1, HF2.out]
                  · unfold armB; rw [HNF.out.2, HB1'.out, HNO.out, HY4.out, HTN.out]
        case rest =>
          obtain ⟨F2, B2, HSX⟩ := hcut
          have HS := Lib.hid HSX.out.1
          have HARM := Lib.hid HSX.out.2
          clear HSX HS0
          obtain ⟨q2, o2, k2, e2, r2, -⟩ := int_at HH1.out.fwd (Below.refl _ _) (show n - 1 < (wavL f oo 0 0 n).length by rw [wavL_len]; omega)
          obtain ⟨q3, o3, k3, e3, r3, -⟩ := int_at HH1.out.back (Below.refl _ _) (show 0 < (wavL f oo 1 0 n).length by rw [wavL_len]; omega)
          obtain ⟨rfl, -, -⟩ := Value.slice.inj e2
          obtain ⟨rfl, -, -⟩ := Value.slice.inj e3
          clear e2 e3
          rw [wav0 _ _ _ _ (by omega)] at r2
          rw [wav1 _ _ _ _ (by omega)] at r3
          simp only [Nat.add_zero, Nat.zero_mul] at r3
          have R2 := Lib.hid r2
          have hxr := heap_keep HS.out.below HX.out
          have c9 := cell_of_heap (j := 9) hxr (show 9 < 13 by omega)
          have d1 := cell_of_heap (j := 1) HS.out.e5 (show 1 < 3 by omega)
          have d2 := cell_of_heap (j := 2) HS.out.e5 (show 2 < 3 by omega)
          have t1 := cell_of_heap (j := 1) HS.out.e10 (show 1 < 3 by omega)
          simp at c9 d1 d2 t1
          replace r3 := keep HS.out.below r3
          clear r2 hxr
          obtain ⟨z3, hz3⟩ : ∃ z, f (oo + 1) = z := ⟨_, rfl⟩
          rw [hz3] at r3
          have HZ3 := Lib.hid hz3
          have hg := (shp_parts HFIN.out.1).2.2.2.2.1
          have hli := (shp_parts HFIN.out.1).2.2.2.2.2.1
          obtain ⟨G, hG⟩ : ∃ z, s.glottis = z := ⟨_, rfl⟩
          obtain ⟨L, hL⟩ : ∃ z, s.lips = z := ⟨_, rfl⟩
          rw [hG] at c9 hg
          rw [hL] at hli
          have HG := Lib.hid hG
          have HL := Lib.hid hL
          obtain ⟨m, hm⟩ : ∃ m, wrap64 (G * z3) = m := ⟨_, rfl⟩
          have v5 : IntKind.i64.wrap (G * z3) = m := by rw [IntWalk.i64_left]; exact hm
          have hmi := w64_in (G * z3)
          rw [hm] at hmi
          have T1 := Lib.hid (fun X => toward64_any m 100 X hmi (by omega))
          obtain ⟨tg, htg⟩ : ∃ t, m.tdiv 100 = t := ⟨_, rfl⟩
          rw [htg] at T1
          have HTG : Hid (thr G z3 = tg) := Lib.hid (by unfold thr; rw [hm]; exact htg)
          have l1 := cell_lt c9
          have l2 := cell_lt d1
          have l3 := cell_lt t1
          have l4 := cell_lt r3
          have i0 : (0 : Int) < (n : Int) := by omega
          have i1 : 0 < n := p1
          clear hz3 hG hL hm hmi htg hg
          go_upto_region 14 with fail
          refine wp_opaque fun Q2 hQ2 => ?_
          (refine region_below_tail 14 (by kernel_rfl) (by kernel_rfl) ?_; (simp only [List.take_succ_cons, List.take_zero, List.drop_succ_cons, List.drop_zero]); (repeat (first | go_big_quiet_step ((with_reducible exact toS T1.out _)) | quiet_step ((with_reducible exact toS T1.out _)))); (refine wpQuiet_nil ?_; intro _ hw'; obtain ⟨xq, hw''⟩ := hw'; subst hw''))
          have HS1 := Lib.hid (HS.out.belowR xq.2)
          clear c9 d1 d2 t1 r3 l1 l2 l3 l4 HS T1
          obtain ⟨w8, hw8⟩ : ∃ z, xq.val = z := ⟨_, rfl⟩
          rw [hw8] at HS1 ⊢
          clear hw8
          have z1 := HS1.out.s1.fwd.cell (i := 0) (by omega)
          have x1 := HS1.out.s1.fwd.frozen 0
          have l5 := HS1.out.s1.fwd.lt
          have HS2 := Lib.hid (HS1.out.setF 0 tg)
          have d1 := cell_of_heap (j := 1) HS2.out.e5 (show 1 < 3 by omega)
          simp at d1
          have r2 := keep HS2.out.below R2.out
          obtain ⟨n0, hn0⟩ : ∃ k, n - 1 = k := ⟨_, rfl⟩
          rw [hn0] at r2
          have HN0 := Lib.hid hn0
          have i2 : IntKind.i64.wrap ((n : Int) - 1) = (n0 : Int) := by rw [IntWalk.i64_in _ (by omega)]; omega
          have i3 : (n0 : Int) < (n : Int) := by omega
          have i4 : n0 < n := by omega
          obtain ⟨z2, hz2⟩ : ∃ z, f (oo + n0 * 2) = z := ⟨_, rfl⟩
          rw [hz2] at r2
          have HZ2 := Lib.hid hz2
          obtain ⟨xv, hxv⟩ : ∃ z, preF al n b j oo f 0 = z := ⟨_, rfl⟩
          rw [hxv] at z1
          have v6 : IntKind.i64.wrap (-L) = -L := IntWalk.i64_in _ (by omega)
          obtain ⟨m2', hm2⟩ : ∃ m, wrap64 (-L * z2) = m := ⟨_, rfl⟩
          have v7 : IntKind.i64.wrap (-L * z2) = m2' := by rw [IntWalk.i64_left]; exact hm2
          have hmi2 := w64_in (-L * z2)
          rw [hm2] at hmi2
          have T2 := Lib.hid (fun X => toward64_any m2' 100 X hmi2 (by omega))
          obtain ⟨tl, htl⟩ : ∃ t, m2'.tdiv 100 = t := ⟨_, rfl⟩
          rw [htl] at T2
          have HTL : Hid (thr (-L) z2 = tl) := Lib.hid (by unfold thr; rw [hm2]; exact htl)
          have HLS : Hid (wrap64 (z2 + tl) = LIP) := Lib.hid (by
            have h1 := lip_says (st := st) (f := f) HFIN.out.1 HFIN.out.2.1
            rw [HNB.out.1, HNB.out.2.2, HN0.out, HZ2.out, HL.out, HTL.out] at h1
            rw [h1, ← HLIP.out, HNB.out.1])
          have v8 : IntKind.i64.wrap (z2 + tl) = LIP := by rw [IntWalk.i64_left]; exact HLS.out
          have l1 := cell_lt d1
          have l2 := cell_lt r2
          clear hn0 hz2 hxv hm2 hmi2 htl hli HS1
          go_wp2_with fail
          clear d1 r2 l1 l2 z1 x1 l5
          obtain ⟨wb, hwb⟩ : ∃ z, w8.setCell ⟨g2, 0, none⟩ (.int .i64 tg) = z := ⟨_, rfl⟩
          rw [hwb] at HS2 ⊢
          clear hwb
          have hxr := heap_keep HS2.out.below HX.out
          have c10 := cell_of_heap (j := 10) hxr (show 10 < 13 by omega)
          have t2 := cell_of_heap (j := 2) HS2.out.e10 (show 2 < 3 by omega)
          simp at c10 t2
          rw [HL.out] at c10
          have l3 := cell_lt c10
          have l4 := cell_lt t2
          clear hxr
          refine wp_opaque fun Q3 hQ3 => ?_
          (refine region_below_tail 14 (by kernel_rfl) (by kernel_rfl) ?_; (simp only [List.take_succ_cons, List.take_zero, List.drop_succ_cons, List.drop_zero]); (repeat (first | go_big_quiet_step ((with_reducible exact toS T2.out _)) | quiet_step ((with_reducible exact toS T2.out _)))); (refine wpQuiet_nil ?_; intro _ hw'; obtain ⟨xq, hw''⟩ := hw'; subst hw''))
          have HS3 := Lib.hid (HS2.out.belowR xq.2)
          clear c10 t2 l3 l4 HS2 T2
          obtain ⟨w9, hw9⟩ : ∃ z, xq.val = z := ⟨_, rfl⟩
          rw [hw9] at HS3 ⊢
          clear hw9
          have h12 := HS3.out.e12
          have t2 := cell_of_heap (j := 2) HS3.out.e10 (show 2 < 3 by omega)
          have t3 := cell_of_heap (j := 0) h12 (show 0 < 2 by omega)
          simp at t2 t3
          have l7 := cell_lt t2
          have l8 := cell_lt t3
          have z1 := HS3.out.s1.back.cell (i := n0) i4
          have x1 := HS3.out.s1.back.frozen n0
          have l5 := HS3.out.s1.back.lt
          have x2 : w9.frozen? ⟨b12, 0, none⟩ = false := frozen_heap h12
          have be1 := box_ne HS3.out.e10 HS3.out.s1.back (by decide)
          have be2 := box_ne h12 HS3.out.s1.back (by decide)
          have HS4 : Hid (StAt W ((w9.setCell ⟨g3, n0, none⟩ (.int .i64 tl)).setCell ⟨b12, 0, none⟩ (.int .i64 LIP)) W1.heap.size b4 b5 b6 b10 b11 b12 g2 g3 g4 g5 n b #[.slice a1 n n1, .slice (some ⟨q2, o2, none⟩) n n2, .slice (some ⟨q3, o3, none⟩) n n3] #[.slice a4 b n4, .slice a5 b n5, .slice a6 b n6] (.slice u1 n m1) (.slice u2 b m2) (al.take n) (al.drop n) (mainF al n b j oo s.glottis f) (mainB al n b j oo s.lips f) F2 B2 LIP NOS) := Lib.hid (by
            have h1 := (HS3.out.setB n0 tl).setL LIP
            have e1 : upd (preF al n b j oo f) 0 tg = mainF al n b j oo s.glottis f := by unfold mainF preF; rw [HG.out, HZ3.out, HTG.out]
            have e2 : upd (preB al n b j oo f) n0 tl = mainB al n b j oo s.lips f := by unfold mainB preB; rw [HN0.out, HL.out, HZ2.out, HTL.out]
            rw [e1, e2] at h1
            exact h1)
          obtain ⟨xv2, hxv2⟩ : ∃ z, preB al n b j oo f n0 = z := ⟨_, rfl⟩
          rw [hxv2] at z1
          clear h12 HS3 hxv2
          go_wp2_with fail
          clear t2 t3 l7 l8 z1 x1 l5 x2 be1 be2 v5 v6 v7 v8 i0 i2 i3
          obtain ⟨wa, hwa⟩ : ∃ z, (w9.setCell ⟨g3, n0, none⟩ (.int .i64 tl)).setCell ⟨b12, 0, none⟩ (.int .i64 LIP) = z := ⟨_, rfl⟩
          rw [hwa] at HS4 ⊢
          clear hwa
          obtain ⟨MF, hMF⟩ : ∃ z, mainF al n b j oo s.glottis f = z := ⟨_, rfl⟩
          obtain ⟨MB, hMB⟩ : ∃ z, mainB al n b j oo s.lips f = z := ⟨_, rfl⟩
          rw [hMF, hMB] at HS4
          have HMF := Lib.hid (And.intro hMF hMB)
          clear hMF hMB
          go_loopw [16] (fun i wr => ∃ k : Nat, k ≤ fl.length ∧ i = .int .i64 k ∧ Hid (StAt W wr W1.heap.size b4 b5 b6 b10 b11 b12 g2 g3 g4 g5 n b #[.slice a1 n n1, .slice (some ⟨q2, o2, none⟩) n n2, .slice (some ⟨q3, o3, none⟩) n n3] #[.slice a4 b n4, .slice a5 b n5, .slice a6 b n6] (.slice u1 n m1) (.slice u2 b m2) (al.take n) (al.drop n) (fdsF MF (fl.take k)) MB F2 B2 LIP NOS)) (fun i _ => fl.length - (intOf i).toNat)
          case atStart => exact ⟨0, Nat.zero_le _, rfl, by simpa [fdsF] using HS4⟩
          case round =>
            clear HS4
            obtain ⟨k, hk, rfl, HR⟩ := hrel
            have hfn := HFN.out
            by_cases hlt : k < fl.length
            · have hkk : (k : Int) < (fl.length : Int) := by omega
              obtain ⟨pb, po, rfl, hfx⟩ := (HFL.out.keep FdAt.stable HR.out.below).at (by intro e; rw [e] at hlt; simp at hlt)
              obtain ⟨p0, p1'⟩ := hfx k hlt
              unfold IntAt at p0 p1'
              have hsec := HFIN.out.2.2.1 _ (List.getElem_mem hlt)
              rw [HNB.out.1] at hsec
              have HTK : Hid (fl.take (k + 1) = fl.take k ++ [fl[k]]) := Lib.hid (take_succ fl k hlt)
              have HST := Lib.hid (fdsF_snoc MF (fl.take k) fl[k])
              rw [← HTK.out] at HST
              obtain ⟨sc, hsc⟩ : ∃ sc : Nat, fl[k].sec = (sc : Int) := ⟨fl[k].sec.toNat, by omega⟩
              have hsc2 : fl[k].sec.toNat = sc := by omega
              obtain ⟨am, ham⟩ : ∃ am, fl[k].amt = am := ⟨_, rfl⟩
              rw [hsc] at p0 hsec
              rw [ham] at p1' HST
              rw [hsc2] at HST
              obtain ⟨cv, hcv⟩ : ∃ c, fdsF MF (fl.take k) sc = c := ⟨_, rfl⟩
              obtain ⟨nv, hnv⟩ : ∃ c, wrap64 (cv + am) = c := ⟨_, rfl⟩
              have uw : IntKind.i64.wrap (cv + am) = nv := by rw [IntWalk.i64_left]; exact hnv
              rw [hcv, hnv] at HST
              have j1 : (sc : Int) < (n : Int) := hsec.2
              have j2 : sc < n := by omega
              have t1 := cell_of_heap (j := 1) HR.out.e10 (show 1 < 3 by omega)
              simp at t1
              have l1 := cell_lt t1
              have l2 := cell_lt p0
              have z1 := HR.out.s1.fwd.cell (i := sc) j2
              have x1 := HR.out.s1.fwd.frozen sc
              have l3 := HR.out.s1.fwd.lt
              rw [hcv] at z1
              clear hfx hsec hsc hsc2 ham hcv hnv
              go_wp2_with fail
              refine wp_opaque fun Q2 hQ2 => ?_
              (refine region_below_tail 23 (by kernel_rfl) (by kernel_rfl) ?_; (simp only [List.take_succ_cons, List.take_zero, List.drop_succ_cons, List.drop_zero]); (repeat (first | go_big_quiet_step (fail) | quiet_step (fail))); (refine wpQuiet_nil ?_; intro _ hw'; obtain ⟨xq, hw''⟩ := hw'; subst hw''))
              have HR2 := Lib.hid (HR.out.belowR xq.2)
              clear t1 l1 l2 p0 p1' z1 x1 l3 HR
              obtain ⟨w8, hw8⟩ : ∃ z, xq.val = z := ⟨_, rfl⟩
              rw [hw8] at HR2 ⊢
              clear hw8
              have z1 := HR2.out.s1.fwd.cell (i := sc) j2
              have x1 := HR2.out.s1.fwd.frozen sc
              have l3 := HR2.out.s1.fwd.lt
              have HR3 : Hid (StAt W (w8.setCell ⟨g2, sc, none⟩ (.int .i64 nv)) W1.heap.size b4 b5 b6 b10 b11 b12 g2 g3 g4 g5 n b #[.slice a1 n n1, .slice (some ⟨q2, o2, none⟩) n n2, .slice (some ⟨q3, o3, none⟩) n n3] #[.slice a4 b n4, .slice a5 b n5, .slice a6 b n6] (.slice u1 n m1) (.slice u2 b m2) (al.take n) (al.drop n) (fdsF MF (fl.take (k + 1))) MB F2 B2 LIP NOS) := Lib.hid (by rw [HST.out]; exact HR2.out.setF sc nv)
              obtain ⟨xv3, hxv3⟩ : ∃ z, fdsF MF (fl.take k) sc = z := ⟨_, rfl⟩
              rw [hxv3] at z1
              clear hxv3
              go_wp2_with fail
              go_roundw
              case rel => exact ⟨k + 1, hlt, by go_num, HR3⟩
              case measure => simp [intOf]; omega
            · obtain rfl : k = fl.length := by omega
              rw [List.take_length] at HR
              have hxr := heap_keep HR.out.below HX.out
              have HXR := Lib.hid hxr
              have h10 := HR.out.e10
              have h11 := HR.out.e11
              have c0 := cell_of_heap (j := 0) hxr (show 0 < 13 by omega)
              have c1 := cell_of_heap (j := 1) hxr (show 1 < 13 by omega)
              have c2 := cell_of_heap (j := 2) hxr (show 2 < 13 by omega)
              have c3 := cell_of_heap (j := 3) hxr (show 3 < 13 by omega)
              have c4 := cell_of_heap (j := 4) hxr (show 4 < 13 by omega)
              have c5 := cell_of_heap (j := 5) hxr (show 5 < 13 by omega)
              have s0 := cell_of_heap (j := 0) h10 (show 0 < 3 by omega)
              have s1 := cell_of_heap (j := 1) h10 (show 1 < 3 by omega)
              have s2 := cell_of_heap (j := 2) h10 (show 2 < 3 by omega)
              have t0 := cell_of_heap (j := 0) h11 (show 0 < 3 by omega)
              have t1 := cell_of_heap (j := 1) h11 (show 1 < 3 by omega)
              have t2 := cell_of_heap (j := 2) h11 (show 2 < 3 by omega)
              simp at c0 c1 c2 c3 c4 c5 s0 s1 s2 t0 t1 t2
              have fz : ∀ i, wr.frozen? ⟨rb, i, none⟩ = false := fun i => frozen_heap hxr
              have f0 := fz 0
              have f1 := fz 1
              have f2 := fz 2
              have f3 := fz 3
              have f4 := fz 4
              have f5 := fz 5
              have l1 := cell_lt c0
              have l2 := cell_lt s0
              have l3 := cell_lt t0
              have ne1 := ent_ne hxr h10 (by decide)
              have ne2 := ent_ne hxr h11 (by decide)
              have ne1' := ne1.symm
              have ne2' := ne2.symm
              clear hxr h10 h11 fz
              go_upto_region 22 with fail
              go_cut [0] from 200 to 207 (fun z wx => z = .pointer (some ⟨rb, 0, none⟩) ∧ Hid (wr.grownBy wx (some rb) ∧ wx.heap[rb]? = some (.cells #[.slice u1 n m1, .slice (some ⟨g2, 0, none⟩) n n, .slice (some ⟨g3, 0, none⟩) n n, .slice u2 b m2, .slice (some ⟨g4, 0, none⟩) b b, .slice (some ⟨g5, 0, none⟩) b b, x, y, .int .i64 (j : Int), .int .i64 s.glottis, .int .i64 s.lips, .int .i64 s.nose, .int .i64 (st : Int)] 113 (0, 0))))
              case first =>
                go_region
                all_goals
                  go_wp2_with fail
                  go_meet
                  case rel =>
                    refine ⟨rfl, Lib.hid ?_⟩
                    with_reducible exact set_six HXR.out
              case rest =>
                obtain ⟨rfl, HY⟩ := hcut
                clear c0 c1 c2 c3 c4 c5 s0 s1 s2 t0 t1 t2 f0 f1 f2 f3 f4 f5 l1 l2 l3 ne1 ne2 ne1' ne2'
                have hy := HY.out.2
                have n4 := ent_ne HXR.out HR.out.e4 (by decide)
                have n12 := ent_ne HXR.out HR.out.e12 (by decide)
                have h4 := gb_heap HY.out.1 HR.out.e4 n4.symm
                have h12 := gb_heap HY.out.1 HR.out.e12 n12.symm
                have H4 := Lib.hid h4
                have n4' := n4.symm
                have n12' := n12.symm
                have n5 := HR.out.b12k.1
                have n5' := n5.symm
                have c12 := cell_of_heap (j := 12) hy (show 12 < 13 by omega)
                have t0 := cell_of_heap (j := 0) h4 (show 0 < 2 by omega)
                have t1 := cell_of_heap (j := 1) h4 (show 1 < 2 by omega)
                have s0 := cell_of_heap (j := 0) h12 (show 0 < 2 by omega)
                have s1 := cell_of_heap (j := 1) h12 (show 1 < 2 by omega)
                simp at c12 t0 t1 s0 s1
                have f1 : wc.frozen? ⟨rb, 12, none⟩ = false := frozen_heap hy
                have f2 : wc.frozen? ⟨b4, 0, none⟩ = false := frozen_heap h4
                have f3 : wc.frozen? ⟨b4, 1, none⟩ = false := frozen_heap h4
                have l1 := cell_lt c12
                have l2 := cell_lt t0
                have l3 := cell_lt s0
                have us : IntKind.i64.wrap ((st : Int) + 1) = ((st + 1 : Nat) : Int) := by rw [IntWalk.i64_in _ (by omega)]; omega
                have HRB : Hid (rb < W.heap.size) := Lib.hid (Array.getElem?_eq_some_iff.mp HX.out).1
                have H5 := Lib.hid (gb_heap (gb_set wc rb 12 (.int .i64 ((st + 1 : Nat) : Int))) h4 n4.symm)
                clear hy h4 h12 n4 n12
                go_wp2_with fail
                refine bodyPost_ret (results_cell_row rfl _ _ b4 51 #[_, _] (0, 0) _ rfl (set2 H5.out _ _) Try.underlying51 rfl infoHd) rfl ?_
                obtain ⟨r1, r2⟩ := step_fin HFIN.out HNB.out HJ.out (by have := HR.out; rw [← HMF.out.1, ← HMF.out.2] at this; exact this) HARM.out HRB.out HY.out.1 HY.out.2
                exact ⟨rfl, r1, r2⟩
end Go.Proofs.Ytbmbcbknoflpgaa
