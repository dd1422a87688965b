/- A tube and the specification's, and the box of their play. -/
import Derived.Test.YtbmbcbknoflpgaaRE
import Derived.Test.YtbmbcbknoflpgaaRM
import Derived.Test.YtbmbcbknoflpgaaD2
import Derived.Stop.RegionWithIn
set_option linter.unusedSimpArgs false
set_option linter.unusedVariables false
namespace Go.Proofs.Ytbmbcbknoflpgaa
open Go.RowKit

structure Pl (w W : World) (b1 tb wb lo rb : Nat) (s : Shp) (al : List Int) (st : Nat) (f : Nat → Int) (al2 : List Int) (st2 : Nat) (f2 : Nat → Int) (bx : Nat) (cs : Array Value) : Prop where
  t : TubeIs b1 W tb al s.areas.length (shpPlaces s) st wb f
  r : RefIs W lo rb s al2 st2 f2
  lo1 : w.heap.size ≤ tb ∧ w.heap.size ≤ wb ∧ tb < lo ∧ wb < lo
  box : W.heap[bx]? = some (.cells cs 39 (0, 0))
  low : Below w.heap.size w W
section
variable {w W W' : World} {b1 tb wb lo rb st st2 bx : Nat} {s : Shp} {al al2 : List Int} {f f2 : Nat → Int} {cs : Array Value}
theorem Pl.below (h : Pl w W b1 tb wb lo rb s al st f al2 st2 f2 bx cs) (hB : Below W.heap.size W W') : Pl w W' b1 tb wb lo rb s al st f al2 st2 f2 bx cs :=
  ⟨h.t.below hB, h.r.below hB, h.lo1, heap_keep hB h.box, bThen h.low hB⟩
theorem Pl.stepT {st3 : Nat} {cl : List Int} {f3 : Nat → Int} (h : Pl w W b1 tb wb lo rb s al st f al2 st2 f2 bx cs) (ht : TubeIs b1 W' tb cl s.areas.length (shpPlaces s) st3 wb f3) (hk : Kept W W' wb tb) : Pl w W' b1 tb wb lo rb s cl st3 f3 al2 st2 f2 bx cs := by
  have h1 := h.box
  obtain ⟨-, ⟨_, _, _, _, kb, -, -, -⟩, kw⟩ := h.t
  exact ⟨ht, h.r.kept hk h.lo1.2.2.2 h.lo1.2.2.1, h.lo1, hk.heap h1 (box_ne h1 kw (by decide)) (fun e => by subst e; rw [h1] at kb; simp at kb), h.low.trans (hk.below h.low.size h.lo1.2.1 h.lo1.1)⟩
theorem Pl.stepR {st3 : Nat} {cl : List Int} {f3 : Nat → Int} (h : Pl w W b1 tb wb lo rb s al st f al2 st2 f2 bx cs) (hr : RefIs W' lo rb s cl st3 f3) (hg : W.grownBy W' (some rb)) : Pl w W' b1 tb wb lo rb s al st f cl st3 f3 bx cs := by
  obtain ⟨a1, a2, a3, a4, a5, a6, a7, a8, hx, -, -, hlo⟩ := h.r
  exact ⟨h.t.kept hg hx (by decide) (by decide) (by decide) (by decide) (by decide), hr, h.lo1, gb_heap hg h.box (ent_ne h.box hx (by decide)), h.low.trans (gb_low hg h.low.size (by have := h.lo1; omega))⟩
end
theorem refChanges_is {W : World} {lo rb st : Nat} {s : Shp} {al : List Int} {f : Nat → Int} (h : RefIs W lo rb s al st f) (hn : s.areas.length ≤ al.length) (l1 l2 : List Int) (va vb : Value) (ha : SliceV W va 1 IntAt l1) (hb : SliceV W vb 1 IntAt l2) :
    Calls Try.prog 28 #[.pointer (some ⟨rb, 0, none⟩), va, vb] W fun e w' => e = .returned (.bool (chgOk al.length s.areas.length l1 l2)) ∧ W = w' := by
  obtain ⟨a1, a2, a3, a4, a5, a6, a7, a8, hx, h1, h2, hlo⟩ := h
  obtain ⟨q1, n1, rfl, -⟩ := id h1.areas
  obtain ⟨q4, n4, rfl, -⟩ := id h2.areas
  have c0 := cell_of_heap (j := 0) hx (show 0 < 13 by omega)
  have c3 := cell_of_heap (j := 3) hx (show 3 < 13 by omega)
  have h := refChanges_any l1 l2 va vb rb _ _ _ _ _ _ W ha hb c0 c3
  rw [List.length_take, List.length_drop, Nat.min_eq_left hn] at h
  exact h
theorem refFeeds_is {W : World} {lo rb st : Nat} {s : Shp} {al : List Int} {f : Nat → Int} (h : RefIs W lo rb s al st f) (hn : s.areas.length ≤ al.length) (hm : s.areas.length ≤ 24) (l : List Fd) (v : Value) (hv : SliceV W v 2 FdAt l) :
    Calls Try.prog 32 #[.pointer (some ⟨rb, 0, none⟩), v] W fun e w' => e = .returned (.bool (fdOk s.areas.length l)) ∧ Below W.heap.size W w' := by
  obtain ⟨a1, a2, a3, a4, a5, a6, a7, a8, hx, h1, h2, hlo⟩ := h
  obtain ⟨q1, n1, rfl, -⟩ := id h1.areas
  have c0 := cell_of_heap (j := 0) hx (show 0 < 13 by omega)
  have e : (al.take s.areas.length).length = s.areas.length := by rw [List.length_take]; omega
  rw [e] at c0
  exact refFeeds_any l s.areas.length rb q1 n1 v W hv hm c0
/-- What is asked of the state of a play. -/
structure PlS (s : Shp) (k st : Nat) (al : List Int) : Prop where
  len : al.length = s.areas.length + s.branch.length
  ok : TubeOk al s.areas.length (shpPlaces s)
  cnt : st ≤ k
theorem PlS.change {s : Shp} {k st : Nat} {al : List Int} (h : PlS s k st al) {l1 l2 : List Int} (hc : chgOk al.length s.areas.length l1 l2 = true) : PlS s k st (l1 ++ l2) := by
  obtain ⟨h1, h2, h3, h4⟩ := chg_parts hc
  have hlen : (l1 ++ l2).length = al.length := by rw [List.length_append]; have := h.ok.mn; omega
  refine ⟨hlen.trans h.len, ⟨h.ok.m1, by rw [hlen]; exact h.ok.mn, h.ok.m24, by rw [hlen]; exact h.ok.n48, by rw [hlen]; exact h.ok.plc, h.ok.pl, fun j hj => ?_⟩, h.cnt⟩
  by_cases e : j < l1.length
  · rw [getD_left e]; exact h3 j e
  · rw [show j = l1.length + (j - l1.length) by omega, getD_right]
    exact h4 _ (by rw [hlen] at hj; have := h.ok.mn; omega)
end Go.Proofs.Ytbmbcbknoflpgaa
namespace Go.Proofs.Ytbmbcbknoflpgaa
open Go.RowKit

set_option maxRecDepth 10000 in
set_option maxHeartbeats 8000000 in
theorem law4_any (x : Ply) (va vb vf vA vB : Value) (w : World) (hk : ∀ w, Calls Try.prog 17 #[] w fun e w' => e = .returned (.bool true) ∧ Below w.heap.size w w') (h : PlyV w va vb vf vA vB x) :
    Calls Try.prog 4 #[.agg #[va, vb, .int .i64 x.s.joint, .int .i64 x.s.glottis, .int .i64 x.s.lips, .int .i64 x.s.nose, vf, vA, vB]] w fun e w' => e = .returned (.bool true) ∧ Below w.heap.size w w' := by
  have HK := Lib.hid hk
  have HFT := Lib.hid (fun W (hB : Below w.heap.size w W) => fits_any x va vb vf vA vB W (h.keep hB))
  have HSH := Lib.hid (fun W (hB : Below w.heap.size w W) => refShape_any x.s va vb W (h.1.keep IntAt.stable hB) (h.2.keep IntAt.stable hB))
  have HNW0 := Lib.hid (fun (hs : shpOk x.s = true) W (hB : Below w.heap.size w W) => New_ok x.s va vb W (h.1.keep IntAt.stable hB) (h.2.keep IntAt.stable hB) hs)
  have HNB0 := Lib.hid (fun (hs : shpOk x.s = false) W (hB : Below w.heap.size w W) => New_bad x.s va vb W (h.1.keep IntAt.stable hB) (h.2.keep IntAt.stable hB) hs)
  have HRN0 := Lib.hid (fun (h1 : x.s.areas.length ≤ 24) (h2 : x.s.branch.length ≤ 24) W (hB : Below w.heap.size w W) => refNew_any x.s va vb W (h.1.keep IntAt.stable hB) (h.2.keep IntAt.stable hB) h1 h2)
  obtain ⟨h1, h2, h3, h4, h5⟩ := h
  have HF := Lib.hid h3
  have HAA := Lib.hid h4
  have HBB := Lib.hid h5
  obtain ⟨a1, c1, rfl, -⟩ := h1
  obtain ⟨a2, c2, rfl, -⟩ := h2
  obtain ⟨a3, c3, rfl, hm3, -⟩ := h3
  obtain ⟨a4, c4, rfl, hm4, -⟩ := h4
  obtain ⟨a5, c5, rfl, hm5, -⟩ := h5
  unfold most at hm3 hm4 hm5
  have HB1 := Lib.hid (bAlloc (Below.refl w.heap.size w) (.cells #[.slice a1 x.s.areas.length c1, .slice a2 x.s.branch.length c2, .int .i64 x.s.joint, .int .i64 x.s.glottis, .int .i64 x.s.lips, .int .i64 x.s.nose, .slice a3 x.feeds.length c3, .slice a4 x.areas.length c4, .slice a5 x.branch.length c5] 39))
  have HX1 := Lib.hid (World.alloc_heap_new w (.cells #[.slice a1 x.s.areas.length c1, .slice a2 x.s.branch.length c2, .int .i64 x.s.joint, .int .i64 x.s.glottis, .int .i64 x.s.lips, .int .i64 x.s.nose, .slice a3 x.feeds.length c3, .slice a4 x.areas.length c4, .slice a5 x.branch.length c5] 39))
  clear hk
  cases hp : plyOk x
  · rw [hp] at HFT
    clear HNW0 HNB0 HRN0 HF HAA HBB hp
    go_enter Try.func4, Try.ntmps4
    go_wp2_with (first
      | (go_at_call 24; with_reducible refine Calls.mono (HFT.out _ HB1.out) ?_; rintro e w2 ⟨rfl, hb⟩; have HB2 := Lib.hid (bThen HB1.out hb); have HX2 := Lib.hid (heap_keep hb HX1.out); obtain ⟨d0, d1, d2, d3, d4, d5, d6, d7, d8, ld⟩ := ply_cells HX2.out; clear hb)
      | (go_at_call 25; with_reducible refine Calls.mono (HNB.out _ HB2.out) ?_; rintro e w4 ⟨rfl, hb⟩; have HB4 := Lib.hid (bThen HB2.out hb); have HX4 := Lib.hid (heap_keep hb HX2.out); obtain ⟨d0, d1, d2, d3, d4, d5, d6, d7, d8, ld⟩ := ply_cells HX4.out; clear hb)
      | (go_at_call 19; with_reducible refine Calls.mono (HSH.out _ HB4.out) ?_; rintro e w3 ⟨rfl, hb⟩; have HB3 := Lib.hid (bThen HB4.out hb); clear hb)
      | (go_at_call 17; with_reducible refine Calls.mono (HK.out _) ?_; rintro e wk ⟨rfl, hb⟩; have HB := Lib.hid hb; clear hb))
    all_goals first
      | (exfalso; omega)
      | (go_ret; exact ⟨rfl, by first | exact bThen HB3.out HB.out | exact bThen HB2.out HB.out⟩)
  cases hs : shpOk x.s
  · have HNB := Lib.hid (HNB0.out hs)
    rw [hp] at HFT
    rw [hs] at HSH
    clear HNW0 HNB0 HRN0 HF HAA HBB hp hs
    go_enter Try.func4, Try.ntmps4
    go_wp2_with (first
      | (go_at_call 24; with_reducible refine Calls.mono (HFT.out _ HB1.out) ?_; rintro e w2 ⟨rfl, hb⟩; have HB2 := Lib.hid (bThen HB1.out hb); have HX2 := Lib.hid (heap_keep hb HX1.out); obtain ⟨d0, d1, d2, d3, d4, d5, d6, d7, d8, ld⟩ := ply_cells HX2.out; clear hb)
      | (go_at_call 25; with_reducible refine Calls.mono (HNB.out _ HB2.out) ?_; rintro e w4 ⟨rfl, hb⟩; have HB4 := Lib.hid (bThen HB2.out hb); have HX4 := Lib.hid (heap_keep hb HX2.out); obtain ⟨d0, d1, d2, d3, d4, d5, d6, d7, d8, ld⟩ := ply_cells HX4.out; clear hb)
      | (go_at_call 19; with_reducible refine Calls.mono (HSH.out _ HB4.out) ?_; rintro e w3 ⟨rfl, hb⟩; have HB3 := Lib.hid (bThen HB4.out hb); clear hb)
      | (go_at_call 17; with_reducible refine Calls.mono (HK.out _) ?_; rintro e wk ⟨rfl, hb⟩; have HB := Lib.hid hb; clear hb))
    all_goals first
      | (exfalso; omega)
      | (go_ret; exact ⟨rfl, by first | exact bThen HB3.out HB.out | exact bThen HB2.out HB.out⟩)
  have HPP := Lib.hid (ply_parts hp)
  have HTO := Lib.hid (shp_tube hs)
  have HNW := Lib.hid (HNW0.out hs)
  have HSS := Lib.hid hs
  have hpa := shp_parts hs
  have HRN := Lib.hid (HRN0.out (ars_parts hpa.2.1).1 (ars_parts hpa.2.2.1).1)
  have hlen0 : (x.s.areas ++ x.s.branch).length = x.s.areas.length + x.s.branch.length := List.length_append
  have HS0 : Hid (PlS x.s 0 0 (x.s.areas ++ x.s.branch)) := Lib.hid ⟨hlen0, HTO.out, Nat.le_refl _⟩
  rw [hp] at HFT
  rw [hs] at HSH
  clear HNW0 HNB0 HRN0 hp hs hlen0 hpa HTO
  have h60 := HPP.out.1
  go_enter Try.func4, Try.ntmps4
  go_wp2_with (first
    | (go_at_call 24; with_reducible refine Calls.mono (HFT.out _ HB1.out) ?_; rintro e w2 ⟨rfl, hb⟩; have HB2 := Lib.hid (bThen HB1.out hb); have HX2 := Lib.hid (heap_keep hb HX1.out); obtain ⟨d0, d1, d2, d3, d4, d5, d6, d7, d8, ld⟩ := ply_cells HX2.out; clear hb)
    | (go_at_call 25; with_reducible refine Calls.mono (HNW.out _ HB2.out) ?_; rintro e w4 ⟨⟨tb, wb, rfl, ht⟩, hb⟩; have HB4 := Lib.hid (bThen HB2.out hb); have HT4 := Lib.hid ht; have HX4 := Lib.hid (heap_keep hb HX2.out); obtain ⟨d0, d1, d2, d3, d4, d5, d6, d7, d8, ld⟩ := ply_cells HX4.out; clear hb ht)
    | (go_at_call 19; with_reducible refine Calls.mono (HSH.out _ HB4.out) ?_; rintro e w3 ⟨rfl, hb⟩; have HB3 := Lib.hid (bThen HB4.out hb); have HT3 := Lib.hid (HT4.out.below hb); have HX3 := Lib.hid (heap_keep hb HX4.out); obtain ⟨d0, d1, d2, d3, d4, d5, d6, d7, d8, ld⟩ := ply_cells HX3.out; clear hb)
    | (go_at_call 26; with_reducible refine Calls.mono (HRN.out _ HB3.out) ?_; rintro e w5 ⟨⟨rb, rfl, hlo, hr⟩, hb⟩; have HB5 := Lib.hid (bThen HB3.out hb); have HT5 := Lib.hid (HT3.out.below hb); have HR5 := Lib.hid hr; have HX5 := Lib.hid (heap_keep hb HX3.out); clear hb hr hlo))
  all_goals first | (exfalso; omega) | skip
  have HP0 : Hid (Pl w w5 w2.heap.size tb wb w3.heap.size rb x.s (x.s.areas ++ x.s.branch) 0 (fun _ => 0) (x.s.areas ++ x.s.branch) 0 (fun _ => 0) w.heap.size _) := Lib.hid (by
    have q3 := HT4.out.1
    have q4 := cell_lt (HT3.out.cells2 (by have := HS0.out.ok.n48; omega)).choose_spec.choose_spec.choose_spec.1.areas
    have q5 := HT3.out.3.lt
    have q6 := HB2.out.size
    exact ⟨HT5.out, HR5.out, by omega, HX5.out, HB5.out⟩)
  clear HT3 HT4 HT5 HR5 HX2 HX3 HX4 HX5 HX1 HB1 HB2 HB3 HB4 HB5 HFT HSH HNW HRN d0 d1 d2 d3 d4 d5 d6 d7 d8 ld
  generalize w2.heap.size = t1 at *
  generalize w3.heap.size = lo at *
  obtain ⟨bx, hbx⟩ : ∃ bx, w.heap.size = bx := ⟨_, rfl⟩
  rw [hbx]
  have HBX := Lib.hid hbx
  obtain ⟨cs, hcs⟩ : ∃ cs : Array Value, (#[.slice a1 x.s.areas.length c1, .slice a2 x.s.branch.length c2, .int .i64 x.s.joint, .int .i64 x.s.glottis, .int .i64 x.s.lips, .int .i64 x.s.nose, .slice a3 x.feeds.length c3, .slice a4 x.areas.length c4, .slice a5 x.branch.length c5] : Array Value) = cs := ⟨_, rfl⟩
  have HP1 : Hid (Pl w w5 t1 tb wb lo rb x.s (x.s.areas ++ x.s.branch) 0 (fun _ => 0) (x.s.areas ++ x.s.branch) 0 (fun _ => 0) bx cs) := Lib.hid (by rw [← hbx, ← hcs]; exact HP0.out)
  have HCS := Lib.hid hcs
  clear HP0 hbx hcs
  go_loopw [6] (fun i wr => ∃ (k st : Nat) (al : List Int) (f : Nat → Int), k ≤ x.feeds.length ∧ i = .int .i64 k ∧ Hid (PlS x.s k st al) ∧ Hid (Pl w wr t1 tb wb lo rb x.s al st f al st f bx cs)) (fun i _ => x.feeds.length - (intOf i).toNat)
  case atStart => exact ⟨0, 0, _, _, Nat.zero_le _, rfl, HS0, HP1⟩
  case round =>
    clear HP1 HS0
    obtain ⟨k, st, al, f, hk, rfl, HS, HP⟩ := hrel
    obtain ⟨d0, d1, d2, d3, d4, d5, d6, d7, d8, ld⟩ := ply_cells (by have := HP.out.box; rw [← HCS.out] at this; exact this)
    by_cases hlt : k < x.feeds.length
    · have hkk : (k : Int) < (x.feeds.length : Int) := by omega
      go_upto_region 12 with fail
      go_cut [60] from 49 to 60 (fun c wc => ∃ cb : Bool, c = .bool cb ∧ wc = wr ∧ Hid (cb = true → k < x.areas.length ∧ k < x.branch.length))
      case first =>
        by_cases hka : k < x.areas.length
        · have hka1 : (k : Int) < (x.areas.length : Int) := by omega
          by_cases hkb : k < x.branch.length
          · have hkb1 : (k : Int) < (x.branch.length : Int) := by omega
            go_wp2_with fail
            go_meet
            case rel => exact ⟨true, rfl, rfl, Lib.hid (fun _ => ⟨hka, hkb⟩)⟩
          · have hkb1 : ¬ (k : Int) < (x.branch.length : Int) := by omega
            go_wp2_with fail
            go_meet
            case rel => exact ⟨false, rfl, rfl, Lib.hid (fun h => by cases h)⟩
        · have hka1 : ¬ (k : Int) < (x.areas.length : Int) := by omega
          go_wp2_with fail
          go_meet
          case rel => exact ⟨false, rfl, rfl, Lib.hid (fun h => by cases h)⟩
      case rest =>
        obtain ⟨cb, rfl, rfl, HC⟩ := hcut
        go_upto_if 60 with fail
        go_cut [7, 60] from 61 to 104 (fun _ _ wc => ∃ (al' : List Int) (f' : Nat → Int), Hid (PlS x.s k st al') ∧ Hid (Pl w wc t1 tb wb lo rb x.s al' st f' al' st f' bx cs))
        case first =>
          cases cb
          · go_wp2_with fail
            go_meet
            case rel => exact ⟨al, f, HS, HP⟩
          · obtain ⟨hka, hkb⟩ := HC.out rfl
            have hka1 : (k : Int) < (x.areas.length : Int) := by omega
            have hkb1 : (k : Int) < (x.branch.length : Int) := by omega
            obtain ⟨b7, o7, c7, u7, e7, p7, q7, r7⟩ := wav_at HAA.out (Below.refl _ _) hka
            obtain ⟨rfl, -, rfl⟩ := Value.slice.inj e7
            obtain ⟨b8, o8, c8, u8, e8, p8, q8, r8⟩ := wav_at HBB.out (Below.refl _ _) hkb
            obtain ⟨rfl, -, rfl⟩ := Value.slice.inj e8
            obtain ⟨l1, hl1⟩ : ∃ l1, x.areas[k] = l1 := ⟨_, rfl⟩
            obtain ⟨l2, hl2⟩ : ∃ l2, x.branch[k] = l2 := ⟨_, rfl⟩
            rw [hl1] at q7
            rw [hl2] at q8
            obtain ⟨ua, uc, rfl, -⟩ := id q7
            obtain ⟨va, vc, rfl, -⟩ := id q8
            have x7 := keep HP.out.low p7
            have x8 := keep HP.out.low p8
            have y7 := cell_lt x7
            have y8 := cell_lt x8
            have P7 := Lib.hid p7
            have P8 := Lib.hid p8
            have Q7 := Lib.hid q7
            have Q8 := Lib.hid q8
            clear e7 e8 p7 p8 q7 q8 r7 r8 hl1 hl2
            cases hch : chgOk al.length x.s.areas.length l1 l2
            · have HCB := Lib.hid (fun y : BW wc => Change_bad (HP.out.t.below y.2) HS.out.ok l1 l2 _ _ (Q7.out.keep IntAt.stable (bThen HP.out.low y.2)) (Q8.out.keep IntAt.stable (bThen HP.out.low y.2)) hch)
              have HCR := Lib.hid (fun W (hT : Pl w W t1 tb wb lo rb x.s al st f al st f bx cs) => by have h := refChanges_is hT.r HS.out.ok.mn l1 l2 _ _ (Q7.out.keep IntAt.stable hT.low) (Q8.out.keep IntAt.stable hT.low); rw [hch] at h; exact h)
              have HAL := Lib.hid (fun W (hT : Pl w W t1 tb wb lo rb x.s al st f al st f bx cs) => alike_true hT.t HS.out.ok (by have := HS.out.cnt; omega) hT.r)
              clear hch
              go_upto_region 13 with fail
              refine wp_opaque fun Q2 hQ2 => ?_
              (refine wp_region_below (by kernel_rfl) (by kernel_rfl) ?_; (repeat (first | go_big_quiet_step (with_reducible exact toB HCB.out _) | quiet_step (with_reducible exact toB HCB.out _))); (refine wpQuiet_nil ?_; intro _ hw'; obtain ⟨xq, hw''⟩ := hw'; subst hw''))
              refine hQ2 _ _ _ ?_
              have HP2 := Lib.hid (HP.out.below xq.2)
              obtain ⟨w8, hw⟩ : ∃ z, xq.val = z := ⟨_, rfl⟩
              rw [hw] at HP2 ⊢
              clear hw d0 d1 d2 d3 d4 d5 d6 d7 d8 ld x7 x8 y7 y8
              obtain ⟨d0, d1, d2, d3, d4, d5, d6, d7, d8, ld⟩ := ply_cells (by have := HP2.out.box; rw [← HCS.out] at this; exact this)
              have x7 := keep HP2.out.low P7.out
              have x8 := keep HP2.out.low P8.out
              have y7 := cell_lt x7
              have y8 := cell_lt x8
              clear HCB
              have HCR2 := Lib.hid (fun y : BW w8 => (HCR.out _ (HP2.out.below y.2)).mono fun e w' ⟨p, q⟩ => (⟨p, by rw [← q]; exact Below.refl _ _⟩ : _ ∧ Below y.val.heap.size y.val w'))
              go_wp2_with fail
              refine wp_opaque fun Q3 hQ3 => ?_
              (refine wp_region_below (by kernel_rfl) (by kernel_rfl) ?_; (repeat (first | go_big_quiet_step (with_reducible exact toB HCR2.out _) | quiet_step (with_reducible exact toB HCR2.out _))); (refine wpQuiet_nil ?_; intro _ hw'; obtain ⟨xq, hw''⟩ := hw'; subst hw''))
              refine hQ3 _ _ _ ?_
              have HP3 := Lib.hid (HP2.out.below xq.2)
              obtain ⟨w9, hw⟩ : ∃ z, xq.val = z := ⟨_, rfl⟩
              rw [hw] at HP3 ⊢
              clear hw d0 d1 d2 d3 d4 d5 d6 d7 d8 ld x7 x8 y7 y8
              obtain ⟨d0, d1, d2, d3, d4, d5, d6, d7, d8, ld⟩ := ply_cells (by have := HP3.out.box; rw [← HCS.out] at this; exact this)
              have x7 := keep HP3.out.low P7.out
              have x8 := keep HP3.out.low P8.out
              have y7 := cell_lt x7
              have y8 := cell_lt x8
              clear HCR HCR2
              go_wp2_with (go_at_call 30; with_reducible refine Calls.mono (HAL.out _ HP3.out) ?_; rintro e wz ⟨rfl, hb⟩; have HP4 := Lib.hid (HP3.out.below hb); clear hb)
              all_goals first | (exfalso; omega) | skip
              go_meet
              case rel => exact ⟨al, f, HS, HP4⟩
            · have HS2 := Lib.hid (HS.out.change hch)
              have HCO := Lib.hid (fun W (hT : Pl w W t1 tb wb lo rb x.s al st f al st f bx cs) => (Change_ok hT.t HS.out.ok (by have := HS.out.cnt; omega) l1 l2 _ _ (Q7.out.keep IntAt.stable hT.low) (Q8.out.keep IntAt.stable hT.low) hch).mono fun e w' ⟨p, q, r⟩ => (⟨p, hT.stepT q r⟩ : e = Ending.returned (.int .i64 0) ∧ Pl w w' t1 tb wb lo rb x.s (l1 ++ l2) st (chF al (l1 ++ l2) (offO al.length st) al.length f) al st f bx cs))
              have HCR := Lib.hid (fun W (hT : Pl w W t1 tb wb lo rb x.s (l1 ++ l2) st (chF al (l1 ++ l2) (offO al.length st) al.length f) al st f bx cs) => by have h := refChanges_is hT.r HS.out.ok.mn l1 l2 _ _ (Q7.out.keep IntAt.stable hT.low) (Q8.out.keep IntAt.stable hT.low); rw [hch] at h; exact h)
              have HRC := Lib.hid (fun W (hT : Pl w W t1 tb wb lo rb x.s (l1 ++ l2) st (chF al (l1 ++ l2) (offO al.length st) al.length f) al st f bx cs) => (refTubeChange_any hT.r HS.out.ok.mn HS.out.ok.n48 l1 l2 _ _ (Q7.out.keep IntAt.stable hT.low) (Q8.out.keep IntAt.stable hT.low) hch).mono fun e w' ⟨p, q, r⟩ => (⟨p, hT.stepR q r⟩ : (∃ v, e = Ending.returned v) ∧ Pl w w' t1 tb wb lo rb x.s (l1 ++ l2) st (chF al (l1 ++ l2) (offO al.length st) al.length f) (l1 ++ l2) st (chF al (l1 ++ l2) (offO al.length st) al.length f) bx cs))
              have HAL := Lib.hid (fun W (hT : Pl w W t1 tb wb lo rb x.s (l1 ++ l2) st (chF al (l1 ++ l2) (offO al.length st) al.length f) (l1 ++ l2) st (chF al (l1 ++ l2) (offO al.length st) al.length f) bx cs) => alike_true hT.t HS2.out.ok (by have := HS.out.cnt; omega) hT.r)
              clear hch
              generalize chF al (l1 ++ l2) (offO al.length st) al.length f = F2 at HCO HCR HRC HAL
              obtain ⟨a2', ha2⟩ : ∃ z, l1 ++ l2 = z := ⟨_, rfl⟩
              rw [ha2] at HS2 HCO HCR HRC HAL
              clear ha2
              go_upto_region 13 with fail
              go_still_tail 11, (by kernel_rfl)
              change wpList _ _ _ _ _ (World.drew _)
              generalize hW : World.drew _ = w7
              have HP7 := Lib.hid (by rw [← hW]; exact HP.out.below (Below.drew (Below.refl _ _)) : Pl w w7 t1 tb wb lo rb x.s al st f al st f bx cs)
              clear hW d0 d1 d2 d3 d4 d5 d6 d7 d8 ld x7 x8 y7 y8
              go_wp2_with (go_at_call 27; with_reducible refine Calls.mono (HCO.out _ HP7.out) ?_; rintro e w8 ⟨rfl, hb⟩; have HP2 := Lib.hid hb; clear hb)
              obtain ⟨d0, d1, d2, d3, d4, d5, d6, d7, d8, ld⟩ := ply_cells (by have := HP2.out.box; rw [← HCS.out] at this; exact this)
              have x7 := keep HP2.out.low P7.out
              have x8 := keep HP2.out.low P8.out
              have y7 := cell_lt x7
              have y8 := cell_lt x8
              have HCR2 := Lib.hid (fun y : BW w8 => (HCR.out _ (HP2.out.below y.2)).mono fun e w' ⟨p, q⟩ => (⟨p, by rw [← q]; exact Below.refl _ _⟩ : _ ∧ Below y.val.heap.size y.val w'))
              refine wp_opaque fun Q3 hQ3 => ?_
              (refine wp_region_below (by kernel_rfl) (by kernel_rfl) ?_; (repeat (first | go_big_quiet_step (with_reducible exact toB HCR2.out _) | quiet_step (with_reducible exact toB HCR2.out _))); (refine wpQuiet_nil ?_; intro _ hw'; obtain ⟨xq, hw''⟩ := hw'; subst hw''))
              refine hQ3 _ _ _ ?_
              have HP3 := Lib.hid (HP2.out.below xq.2)
              obtain ⟨w9, hw⟩ : ∃ z, xq.val = z := ⟨_, rfl⟩
              rw [hw] at HP3 ⊢
              clear hw d0 d1 d2 d3 d4 d5 d6 d7 d8 ld x7 x8 y7 y8
              obtain ⟨d0, d1, d2, d3, d4, d5, d6, d7, d8, ld⟩ := ply_cells (by have := HP3.out.box; rw [← HCS.out] at this; exact this)
              have x7 := keep HP3.out.low P7.out
              have x8 := keep HP3.out.low P8.out
              have y7 := cell_lt x7
              have y8 := cell_lt x8
              clear HCR HCR2 HCO
              go_upto_region 15 with fail
              go_still_tail 11, (by kernel_rfl)
              change wpList _ _ _ _ _ (World.drew _)
              generalize hW : World.drew _ = w10
              have HP8 := Lib.hid (by rw [← hW]; exact HP3.out.below (Below.drew (Below.refl _ _)) : Pl w w10 t1 tb wb lo rb x.s a2' st F2 al st f bx cs)
              clear hW d0 d1 d2 d3 d4 d5 d6 d7 d8 ld x7 x8 y7 y8
              go_wp2_with (first
                | (go_at_call 29; with_reducible refine Calls.mono (HRC.out _ HP8.out) ?_; rintro e wa ⟨⟨rv, rfl⟩, hb⟩; have HP9 := Lib.hid hb; clear hb)
                | (go_at_call 30; with_reducible refine Calls.mono (HAL.out _ HP9.out) ?_; rintro e wz ⟨rfl, hb⟩; have HP4 := Lib.hid (HP9.out.below hb); clear hb))
              all_goals first | (exfalso; omega) | skip
              go_meet
              case rel => exact ⟨a2', F2, HS2, HP4⟩
        case rest =>
          obtain ⟨al', f', HS', HP'⟩ := hcut
          clear HP HS HC d0 d1 d2 d3 d4 d5 d6 d7 d8 ld
          obtain ⟨d0, d1, d2, d3, d4, d5, d6, d7, d8, ld⟩ := ply_cells (by have := HP'.out.box; rw [← HCS.out] at this; exact this)
          obtain ⟨b, o, c, u, e1, p0, q0, r0⟩ := fds_at HF.out (Below.refl _ _) hlt
          obtain ⟨rfl, -, rfl⟩ := Value.slice.inj e1
          have hlen := HPP.out.2.2.2.1 _ (List.getElem_mem hlt)
          obtain ⟨y, hy⟩ : ∃ y, x.feeds[k] = y := ⟨_, rfl⟩
          rw [hy] at q0 hlen
          obtain ⟨fa, fc, rfl, hmy, -⟩ := id q0
          have p1 := keep HP'.out.low p0
          have p2 := cell_lt p1
          have Q0 := Lib.hid q0
          have P0 := Lib.hid p0
          clear e1 q0 p0 r0 hy hmy
          cases hf : fdOk x.s.areas.length y
          · have HST := Lib.hid (fun W (hT : Pl w W t1 tb wb lo rb x.s al' st f' al' st f' bx cs) => (Step_bad hT.t HS'.out.ok y _ (Q0.out.keep FdAt.stable hT.low) hf))
            have HFE := Lib.hid (fun W (hT : Pl w W t1 tb wb lo rb x.s al' st f' al' st f' bx cs) => by have h := refFeeds_is hT.r HS'.out.ok.mn HS'.out.ok.m24 y _ (Q0.out.keep FdAt.stable hT.low); rw [hf] at h; exact h)
            have HAL := Lib.hid (fun W (hT : Pl w W t1 tb wb lo rb x.s al' st f' al' st f' bx cs) => alike_true hT.t HS'.out.ok (by have := HS'.out.cnt; omega) hT.r)
            have HS3 : Hid (PlS x.s (k + 1) st al') := Lib.hid ⟨HS'.out.len, HS'.out.ok, by have := HS'.out.cnt; omega⟩
            clear hf
            go_wp2_with (first
              | (go_at_call 31; with_reducible refine Calls.mono (HST.out _ HP'.out) ?_; rintro e w6 ⟨rfl, hb⟩; have HP6 := Lib.hid (HP'.out.below hb); obtain ⟨d0, d1, d2, d3, d4, d5, d6, d7, d8, ld⟩ := ply_cells (by have := HP6.out.box; rw [← HCS.out] at this; exact this); have p1 := keep HP6.out.low P0.out; have p2 := cell_lt p1; clear hb)
              | (go_at_call 32; with_reducible refine Calls.mono (HFE.out _ (HP6.out.below (bAlloc (Below.refl _ _) _))) ?_; rintro e w7 ⟨rfl, hb⟩; have HP7 := Lib.hid (HP6.out.below (bThen (bAlloc (Below.refl _ _) _) hb)); obtain ⟨d0, d1, d2, d3, d4, d5, d6, d7, d8, ld⟩ := ply_cells (by have := HP7.out.box; rw [← HCS.out] at this; exact this); have p1 := keep HP7.out.low P0.out; have p2 := cell_lt p1; have z0 := keep hb (cell_new (V := w6) (j := 0) rfl); have z1 := keep hb (cell_new (V := w6) (j := 1) rfl); have z2 := cell_lt z0; clear hb)
              | (go_at_call 30; with_reducible refine Calls.mono (HAL.out _ HP7.out) ?_; rintro e wz ⟨rfl, hb⟩; have HP8 := Lib.hid (HP7.out.below hb); clear hb))
            all_goals first | (exfalso; omega) | skip
            go_roundw
            case rel => exact ⟨k + 1, st, al', f', by omega, by go_num, HS3, HP8⟩
            case measure => simp [intOf]; omega
          · have hst := HS'.out.cnt
            have hfd := (fdOk_parts hf).1.1
            have HST := Lib.hid (fun W (hT : Pl w W t1 tb wb lo rb x.s al' st f' al' st f' bx cs) => (Step_ok hT.t HS'.out.ok (by omega) y fa fc (Q0.out.keep FdAt.stable hT.low) (fun hne p hp => by have := sl_low Q0.out hne p hp; have := hT.lo1; omega) hf (by omega)).mono fun e w' ⟨p, q, r⟩ => (⟨p, hT.stepT q r⟩ : e = Ending.returned (.tuple #[.agg #[.int .i64 (lipF al' x.s.areas.length (shpPlaces x.s) st f'), .int .i64 (nosF al' x.s.areas.length (shpPlaces x.s) st f')], .int .i64 0]) ∧ Pl w w' t1 tb wb lo rb x.s al' (st + 1) (nxtF al' (shpPlaces x.s) st y f') al' st f' bx cs))
            have HFE := Lib.hid (fun W (hT : Pl w W t1 tb wb lo rb x.s al' (st + 1) (nxtF al' (shpPlaces x.s) st y f') al' st f' bx cs) => by have h := refFeeds_is hT.r HS'.out.ok.mn HS'.out.ok.m24 y _ (Q0.out.keep FdAt.stable hT.low); rw [hf] at h; exact h)
            have HRS := Lib.hid (fun W (hT : Pl w W t1 tb wb lo rb x.s al' (st + 1) (nxtF al' (shpPlaces x.s) st y f') al' st f' bx cs) => (refStep_any hT.r HSS.out HS'.out.len HS'.out.ok.ar (by omega) y _ (Q0.out.keep FdAt.stable hT.low) (fun z hz => ⟨(hfd z hz).1, (hfd z hz).2.1⟩) (by omega)).mono fun e w' ⟨p, q, r⟩ => (⟨p, hT.stepR q r, r⟩ : e = Ending.returned (.agg #[.int .i64 (lipF al' x.s.areas.length (shpPlaces x.s) st f'), .int .i64 (nosF al' x.s.areas.length (shpPlaces x.s) st f')]) ∧ Pl w w' t1 tb wb lo rb x.s al' (st + 1) (nxtF al' (shpPlaces x.s) st y f') al' (st + 1) (nxtF al' (shpPlaces x.s) st y f') bx cs ∧ W.grownBy w' (some rb)))
            have HAL := Lib.hid (fun W (hT : Pl w W t1 tb wb lo rb x.s al' (st + 1) (nxtF al' (shpPlaces x.s) st y f') al' (st + 1) (nxtF al' (shpPlaces x.s) st y f') bx cs) => alike_true hT.t HS'.out.ok (by omega) hT.r)
            have HS3 : Hid (PlS x.s (k + 1) (st + 1) al') := Lib.hid ⟨HS'.out.len, HS'.out.ok, by omega⟩
            obtain ⟨L, hL⟩ : ∃ z, lipF al' x.s.areas.length (shpPlaces x.s) st f' = z := ⟨_, rfl⟩
            obtain ⟨N, hN⟩ : ∃ z, nosF al' x.s.areas.length (shpPlaces x.s) st f' = z := ⟨_, rfl⟩
            obtain ⟨F3, hF3⟩ : ∃ z, nxtF al' (shpPlaces x.s) st y f' = z := ⟨_, rfl⟩
            rw [hL, hN] at HST HRS
            rw [hF3] at HST HRS HFE HAL
            have HRL : Hid (∀ W, Pl w W t1 tb wb lo rb x.s al' (st + 1) F3 al' st f' bx cs → rb < W.heap.size) := Lib.hid (fun W hT => by obtain ⟨a1, a2, a3, a4, a5, a6, a7, a8, hx, -⟩ := hT.r; exact (Array.getElem?_eq_some_iff.mp hx).1)
            clear hL hN hF3 hf hfd
            go_upto_region 24 with (first
              | (go_at_call 31; with_reducible refine Calls.mono (HST.out _ HP'.out) ?_; rintro e w6 ⟨rfl, hb⟩; have HP6 := Lib.hid hb; obtain ⟨d0, d1, d2, d3, d4, d5, d6, d7, d8, ld⟩ := ply_cells (by have := HP6.out.box; rw [← HCS.out] at this; exact this); have p1 := keep HP6.out.low P0.out; have p2 := cell_lt p1; clear hb)
              | (go_at_call 32; with_reducible refine Calls.mono (HFE.out _ (HP6.out.below (bAlloc (Below.refl _ _) _))) ?_; rintro e w7 ⟨rfl, hb⟩; have HP7 := Lib.hid (HP6.out.below (bThen (bAlloc (Below.refl _ _) _) hb)); obtain ⟨d0, d1, d2, d3, d4, d5, d6, d7, d8, ld⟩ := ply_cells (by have := HP7.out.box; rw [← HCS.out] at this; exact this); have p1 := keep HP7.out.low P0.out; have p2 := cell_lt p1; have z0 := keep hb (cell_new (V := w6) (j := 0) rfl); have z1 := keep hb (cell_new (V := w6) (j := 1) rfl); have z2 := cell_lt z0; clear hb))
            all_goals first | (exfalso; omega) | skip
            have HNE : Hid (w6.heap.size ≠ rb) := Lib.hid (by have := HRL.out _ HP6.out; omega)
            have Z0 := Lib.hid z0
            have Z1 := Lib.hid z1
            clear HST HFE HRL HP6
            go_cut [134] from 122 to 134 (fun c wd => c = .bool false ∧ Hid (Pl w wd t1 tb wb lo rb x.s al' (st + 1) F3 al' (st + 1) F3 bx cs))
            case first =>
              go_region_with (go_at_call 33; (with_reducible refine Calls.mono (HRS.out _ (HP7.out.below (by (repeat (first | (with_reducible refine Below.drew ?_) | (with_reducible exact Below.refl _ _)))))) ?_); rintro e w8 ⟨rfl, hb, hg⟩; have HP8 := Lib.hid hb; obtain ⟨d0, d1, d2, d3, d4, d5, d6, d7, d8, ld⟩ := ply_cells (by have := HP8.out.box; rw [← HCS.out] at this; exact this); have p1 := keep HP8.out.low P0.out; have p2 := cell_lt p1; have z0 := gb_cell hg Z0.out HNE.out; have z1 := gb_cell hg Z1.out HNE.out; have z2 := cell_lt z0; clear hb hg)
              all_goals
                go_wp2_with fail
                go_meet
                case rel => first
                  | (with_reducible exact ⟨rfl, HP8⟩)
                  | (with_reducible exact ⟨rfl, Lib.hid (HP8.out.below (Below.drew (Below.refl _ _)))⟩)
                  | (refine ⟨rfl, ?_⟩; trace_state; sorry)
            case rest =>
              obtain ⟨rfl, HP8⟩ := hcut
              clear d0 d1 d2 d3 d4 d5 d6 d7 d8 ld p1 p2 z0 z1 z2 Z0 Z1 HP7 HRS
              go_wp2_with (go_at_call 30; with_reducible refine Calls.mono (HAL.out _ HP8.out) ?_; rintro e wz ⟨rfl, hb⟩; have HP9 := Lib.hid (HP8.out.below hb); clear hb)
              all_goals first | (exfalso; omega) | skip
              go_roundw
              case rel => exact ⟨k + 1, st + 1, al', F3, by omega, by go_num, HS3, HP9⟩
              case measure => simp [intOf]; omega
    · obtain rfl : k = x.feeds.length := by omega
      go_wp2_with (go_at_call 17; with_reducible refine Calls.mono (HK.out _) ?_; rintro e wk ⟨rfl, hb⟩; have HBK := Lib.hid hb; clear hb)
      all_goals first | (exfalso; omega) | skip
      go_ret
      exact ⟨rfl, by (try rw [← HBX.out]); exact bThen HP.out.low HBK.out⟩
end Go.Proofs.Ytbmbcbknoflpgaa
