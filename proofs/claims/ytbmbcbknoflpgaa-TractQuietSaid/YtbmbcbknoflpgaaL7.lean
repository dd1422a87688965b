/- The law of quiet steps. -/
import Derived.Test.YtbmbcbknoflpgaaOM
set_option linter.unusedSimpArgs false
set_option linter.unusedVariables false
namespace Go.Proofs.Ytbmbcbknoflpgaa
open Go.RowKit

set_option maxRecDepth 10000 in
set_option maxHeartbeats 8000000 in
theorem law7_neg (x : Ply) (n : Int) (va vb vf vA vB : Value) (w : World) (hk : ∀ w, Calls Try.prog 17 #[] w fun e w' => e = .returned (.bool true) ∧ Below w.heap.size w w') (h : PlyV w va vb vf vA vB x) (hp : plyOk x = true) (hs : shpOk x.s = true) (hn : n < 0) :
    Calls Try.prog 7 #[.agg #[va, vb, .int .i64 x.s.joint, .int .i64 x.s.glottis, .int .i64 x.s.lips, .int .i64 x.s.nose, vf, vA, vB], .int .i64 n] w fun e w' => e = .returned (.bool true) ∧ Below w.heap.size w w' := by
  have HK := Lib.hid hk
  have HFT := Lib.hid (fun W (hB : Below w.heap.size w W) => fits_any x va vb vf vA vB W (h.keep hB))
  have HSH := Lib.hid (fun W (hB : Below w.heap.size w W) => refShape_any x.s va vb W (h.1.keep IntAt.stable hB) (h.2.keep IntAt.stable hB))
  have HNW0 := Lib.hid (fun (hs : shpOk x.s = true) W (hB : Below w.heap.size w W) => New_ok x.s va vb W (h.1.keep IntAt.stable hB) (h.2.keep IntAt.stable hB) hs)
  obtain ⟨h1, h2, h3, h4, h5⟩ := h
  have HF := Lib.hid h3
  obtain ⟨a1, c1, rfl, -⟩ := h1
  obtain ⟨a2, c2, rfl, -⟩ := h2
  obtain ⟨a3, c3, rfl, hm3, -⟩ := h3
  obtain ⟨a4, c4, rfl, -⟩ := h4
  obtain ⟨a5, c5, rfl, -⟩ := h5
  unfold most at hm3
  have HB1 := Lib.hid (bAlloc (Below.refl w.heap.size w) (.cells #[.slice a1 x.s.areas.length c1, .slice a2 x.s.branch.length c2, .int .i64 x.s.joint, .int .i64 x.s.glottis, .int .i64 x.s.lips, .int .i64 x.s.nose, .slice a3 x.feeds.length c3, .slice a4 x.areas.length c4, .slice a5 x.branch.length c5] 39))
  have HX1 := Lib.hid (World.alloc_heap_new w (.cells #[.slice a1 x.s.areas.length c1, .slice a2 x.s.branch.length c2, .int .i64 x.s.joint, .int .i64 x.s.glottis, .int .i64 x.s.lips, .int .i64 x.s.nose, .slice a3 x.feeds.length c3, .slice a4 x.areas.length c4, .slice a5 x.branch.length c5] 39))
  clear hk
  have g0 : ¬ n > 100 := by omega
  have hn2 : n < 0 ∨ 100000 < n := .inl hn
  have HPP := Lib.hid (ply_parts hp)
  have HTO := Lib.hid (shp_tube hs)
  have HNW := Lib.hid (HNW0.out hs)
  rw [hp] at HFT
  rw [hs] at HSH
  obtain ⟨al, hal⟩ : ∃ al, x.s.areas ++ x.s.branch = al := ⟨_, rfl⟩
  obtain ⟨ps, hps⟩ : ∃ ps, shpPlaces x.s = ps := ⟨_, rfl⟩
  rw [hal, hps] at HNW HTO
  clear HNW0 hp hs hal hps
  have h60 := HPP.out.1
  go_enter Try.func7, Try.ntmps7
  go_wp2_with (first
    | (go_at_call 24; with_reducible refine Calls.mono (HFT.out _ HB1.out) ?_; rintro e w2 ⟨rfl, hb⟩; have HB2 := Lib.hid (bThen HB1.out hb); have HX2 := Lib.hid (heap_keep hb HX1.out); obtain ⟨d0, d1, d2, d3, d4, d5, d6, d7, d8, ld⟩ := ply_cells HX2.out; clear hb)
    | (go_at_call 19; with_reducible refine Calls.mono (HSH.out _ HB2.out) ?_; rintro e w3 ⟨rfl, hb⟩; have HB3 := Lib.hid (bThen HB2.out hb); have HX3 := Lib.hid (heap_keep hb HX2.out); obtain ⟨d0, d1, d2, d3, d4, d5, d6, d7, d8, ld⟩ := ply_cells HX3.out; clear hb)
    | (go_at_call 25; with_reducible refine Calls.mono (HNW.out _ HB3.out) ?_; rintro e w4 ⟨⟨tb, wb, rfl, ht⟩, hb⟩; have HB4 := Lib.hid (bThen HB3.out hb); have HT4 := Lib.hid ht; have HX4 := Lib.hid (heap_keep hb HX3.out); obtain ⟨d0, d1, d2, d3, d4, d5, d6, d7, d8, ld⟩ := ply_cells HX4.out; clear hb ht)
    | (go_at_call 25; with_reducible refine Calls.mono (HNW.out _ HB4.out) ?_; rintro e w5 ⟨⟨ub, vb, rfl, hu⟩, hb⟩; have HB5 := Lib.hid (bThen HB4.out hb); have HU5 := Lib.hid hu; have HT5 := Lib.hid (HT4.out.below hb); have HX5 := Lib.hid (heap_keep hb HX4.out); obtain ⟨d0, d1, d2, d3, d4, d5, d6, d7, d8, ld⟩ := ply_cells HX5.out; clear hb hu))
  all_goals first | (exfalso; omega) | skip
  have HT0 : Hid (Two w w5 w3.heap.size tb wb w4.heap.size ub vb al x.s.areas.length ps 0 (fun _ => 0) 0 (fun _ => 0) w.heap.size _) := Lib.hid (by
    have q1 := HT4.out.3.lt
    have q2 : tb < w4.heap.size := by obtain ⟨-, ⟨_, _, _, _, kb, -, -, -⟩, -⟩ := HT4.out; exact (Array.getElem?_eq_some_iff.1 kb).1
    have q3 := HT4.out.1
    have q4 := HU5.out.1
    have q5 := HB3.out.size
    have q6 := HB4.out.size
    exact ⟨HT5.out, HU5.out, by omega, by omega, by omega, HX5.out, HB5.out⟩)
  clear HT4 HT5 HU5 HX2 HX3 HX4 HX5 HX1 HB1 HB2 HB3 HB4 HB5 HFT HSH HNW d0 d1 d2 d3 d4 d5 d6 d7 d8 ld
  generalize w3.heap.size = t1 at *
  generalize w4.heap.size = t2 at *
  obtain ⟨bx, hbx⟩ : ∃ bx, w.heap.size = bx := ⟨_, rfl⟩
  rw [hbx]
  have HBX := Lib.hid hbx
  obtain ⟨cs, hcs⟩ : ∃ cs : Array Value, (#[.slice a1 x.s.areas.length c1, .slice a2 x.s.branch.length c2, .int .i64 x.s.joint, .int .i64 x.s.glottis, .int .i64 x.s.lips, .int .i64 x.s.nose, .slice a3 x.feeds.length c3, .slice a4 x.areas.length c4, .slice a5 x.branch.length c5] : Array Value) = cs := ⟨_, rfl⟩
  have HT1 : Hid (Two w w5 t1 tb wb t2 ub vb al x.s.areas.length ps 0 (fun _ => 0) 0 (fun _ => 0) bx cs) := Lib.hid (by rw [← hbx, ← hcs]; exact HT0.out)
  have HCS := Lib.hid hcs
  clear HT0 hbx hcs
  go_loopw [9] (fun i wr => ∃ (k st : Nat) (f : Nat → Int), k ≤ x.feeds.length ∧ i = .int .i64 k ∧ st ≤ k ∧ Hid (Two w wr t1 tb wb t2 ub vb al x.s.areas.length ps st f st f bx cs)) (fun i _ => x.feeds.length - (intOf i).toNat)
  case atStart => exact ⟨0, 0, _, Nat.zero_le _, rfl, Nat.le_refl _, HT1⟩
  case round =>
    clear HT1
    obtain ⟨k, st, f, hk, rfl, hst, HT⟩ := hrel
    obtain ⟨d0, d1, d2, d3, d4, d5, d6, d7, d8, ld⟩ := ply_cells (by have := HT.out.box; rw [← HCS.out] at this; exact this)
    by_cases hlt : k < x.feeds.length
    · obtain ⟨b, o, c, u, e1, p0, q0, r0⟩ := fds_at HF.out (Below.refl _ _) hlt
      obtain ⟨rfl, -, rfl⟩ := Value.slice.inj e1
      have hlen := HPP.out.2.2.2.1 _ (List.getElem_mem hlt)
      have hkk : (k : Int) < (x.feeds.length : Int) := by omega
      clear e1
      generalize x.feeds[k] = y at *
      obtain ⟨fa, fc, rfl, hmy, -⟩ := id q0
      have p1 := keep HT.out.low p0
      have p2 := cell_lt p1
      have P0 := Lib.hid p0
      have HS1 := Lib.hid (Step_go HT.out.t HTO.out (by omega) y fa fc (q0.keep FdAt.stable HT.out.low) (fun hne p hp => by have := sl_low q0 hne p hp; have := HT.out.lo; omega) (by omega))
      have HS2 := Lib.hid (fun (W : World) (st' : Nat) (f' : Nat → Int) (hT : Two w W t1 tb wb t2 ub vb al x.s.areas.length ps st' f' st f bx cs) => Step_go hT.u HTO.out (by omega) y fa fc (q0.keep FdAt.stable hT.low) (fun hne p hp => by have := sl_low q0 hne p hp; have := HT.out.lo; omega) (by omega))
      have HGO := Lib.hid (goS_le x.s.areas.length y st)
      clear q0 p0
      go_wp2_with (first
        | (go_at_call 31; with_reducible refine Calls.mono HS1.out ?_; rintro e w6 ⟨⟨ea, eb, ec, rfl⟩, ht, hk⟩; have H6 := Lib.hid (HT.out.stepT ht hk); obtain ⟨d0, d1, d2, d3, d4, d5, d6, d7, d8, ld⟩ := ply_cells (by have := H6.out.box; rw [← HCS.out] at this; exact this); have p1 := keep H6.out.low P0.out; have p2 := cell_lt p1; clear ht hk)
        | (go_at_call 31; with_reducible refine Calls.mono (HS2.out _ _ _ H6.out) ?_; rintro e w7 ⟨⟨ea2, eb2, ec2, rfl⟩, ht, hk⟩; have H7 := Lib.hid (H6.out.stepU ht hk); clear ht hk))
      go_roundw
      case rel => exact ⟨k + 1, _, _, by omega, by go_num, by have := HGO.out; omega, H7⟩
      case measure => simp [intOf]; omega
    · obtain rfl : k = x.feeds.length := by omega
      have hst60 : st ≤ 60 := by omega
      have HTS := Lib.hid (fun (W : World) (s2 : Nat) (f1 f2 : Nat → Int) (s1 : Nat) (hT : Two w W t1 tb wb t2 ub vb al x.s.areas.length ps s1 f1 s2 f2 bx cs) => tube_steps hT.t HTO.out)
      have HUS := Lib.hid (fun (W : World) (s2 : Nat) (f1 f2 : Nat → Int) (s1 : Nat) (hT : Two w W t1 tb wb t2 ub vb al x.s.areas.length ps s1 f1 s2 f2 bx cs) => tube_steps hT.u HTO.out)
      have HRB := Lib.hid (Rest_bad HT.out.t HTO.out n hn2)
      clear hn2
      go_wp2_with (first
        | (go_at_call 35; with_reducible refine Calls.mono HRB.out ?_; rintro e w8 ⟨rfl, rfl⟩)
        | (go_at_call 36; with_reducible refine Calls.mono (HTS.out _ _ _ _ _ HT.out) ?_; rintro e w8 ⟨rfl, rfl⟩)
        | (go_at_call 36; with_reducible refine Calls.mono (HUS.out _ _ _ _ _ HT.out) ?_; rintro e w8 ⟨rfl, rfl⟩)
        | (go_at_call 17; with_reducible refine Calls.mono (HK.out _) ?_; rintro e wk ⟨rfl, hb⟩; have HB := Lib.hid hb; clear hb))
      go_ret
      exact ⟨rfl, by (try rw [← HBX.out]); exact bThen HT.out.low HB.out⟩

set_option maxRecDepth 10000 in
set_option maxHeartbeats 8000000 in
theorem law7_far (x : Ply) (n : Int) (va vb vf vA vB : Value) (w : World) (hk : ∀ w, Calls Try.prog 17 #[] w fun e w' => e = .returned (.bool true) ∧ Below w.heap.size w w') (h : PlyV w va vb vf vA vB x) (hp : plyOk x = true) (hs : shpOk x.s = true) (hn : 100000 < n) :
    Calls Try.prog 7 #[.agg #[va, vb, .int .i64 x.s.joint, .int .i64 x.s.glottis, .int .i64 x.s.lips, .int .i64 x.s.nose, vf, vA, vB], .int .i64 n] w fun e w' => e = .returned (.bool true) ∧ Below w.heap.size w w' := by
  have HK := Lib.hid hk
  have HFT := Lib.hid (fun W (hB : Below w.heap.size w W) => fits_any x va vb vf vA vB W (h.keep hB))
  have HSH := Lib.hid (fun W (hB : Below w.heap.size w W) => refShape_any x.s va vb W (h.1.keep IntAt.stable hB) (h.2.keep IntAt.stable hB))
  have HNW0 := Lib.hid (fun (hs : shpOk x.s = true) W (hB : Below w.heap.size w W) => New_ok x.s va vb W (h.1.keep IntAt.stable hB) (h.2.keep IntAt.stable hB) hs)
  obtain ⟨h1, h2, h3, h4, h5⟩ := h
  have HF := Lib.hid h3
  obtain ⟨a1, c1, rfl, -⟩ := h1
  obtain ⟨a2, c2, rfl, -⟩ := h2
  obtain ⟨a3, c3, rfl, hm3, -⟩ := h3
  obtain ⟨a4, c4, rfl, -⟩ := h4
  obtain ⟨a5, c5, rfl, -⟩ := h5
  unfold most at hm3
  have HB1 := Lib.hid (bAlloc (Below.refl w.heap.size w) (.cells #[.slice a1 x.s.areas.length c1, .slice a2 x.s.branch.length c2, .int .i64 x.s.joint, .int .i64 x.s.glottis, .int .i64 x.s.lips, .int .i64 x.s.nose, .slice a3 x.feeds.length c3, .slice a4 x.areas.length c4, .slice a5 x.branch.length c5] 39))
  have HX1 := Lib.hid (World.alloc_heap_new w (.cells #[.slice a1 x.s.areas.length c1, .slice a2 x.s.branch.length c2, .int .i64 x.s.joint, .int .i64 x.s.glottis, .int .i64 x.s.lips, .int .i64 x.s.nose, .slice a3 x.feeds.length c3, .slice a4 x.areas.length c4, .slice a5 x.branch.length c5] 39))
  clear hk
  have g0 : n > 100 := by omega
  have g3 : ¬ n ≤ 100000 := by omega
  have g4 : ¬ n < 0 := by omega
  have g5 : n > 100000 := hn
  have hn2 : n < 0 ∨ 100000 < n := .inr hn
  have HPP := Lib.hid (ply_parts hp)
  have HTO := Lib.hid (shp_tube hs)
  have HNW := Lib.hid (HNW0.out hs)
  rw [hp] at HFT
  rw [hs] at HSH
  obtain ⟨al, hal⟩ : ∃ al, x.s.areas ++ x.s.branch = al := ⟨_, rfl⟩
  obtain ⟨ps, hps⟩ : ∃ ps, shpPlaces x.s = ps := ⟨_, rfl⟩
  rw [hal, hps] at HNW HTO
  clear HNW0 hp hs hal hps
  have h60 := HPP.out.1
  go_enter Try.func7, Try.ntmps7
  go_wp2_with (first
    | (go_at_call 24; with_reducible refine Calls.mono (HFT.out _ HB1.out) ?_; rintro e w2 ⟨rfl, hb⟩; have HB2 := Lib.hid (bThen HB1.out hb); have HX2 := Lib.hid (heap_keep hb HX1.out); obtain ⟨d0, d1, d2, d3, d4, d5, d6, d7, d8, ld⟩ := ply_cells HX2.out; clear hb)
    | (go_at_call 19; with_reducible refine Calls.mono (HSH.out _ HB2.out) ?_; rintro e w3 ⟨rfl, hb⟩; have HB3 := Lib.hid (bThen HB2.out hb); have HX3 := Lib.hid (heap_keep hb HX2.out); obtain ⟨d0, d1, d2, d3, d4, d5, d6, d7, d8, ld⟩ := ply_cells HX3.out; clear hb)
    | (go_at_call 25; with_reducible refine Calls.mono (HNW.out _ HB3.out) ?_; rintro e w4 ⟨⟨tb, wb, rfl, ht⟩, hb⟩; have HB4 := Lib.hid (bThen HB3.out hb); have HT4 := Lib.hid ht; have HX4 := Lib.hid (heap_keep hb HX3.out); obtain ⟨d0, d1, d2, d3, d4, d5, d6, d7, d8, ld⟩ := ply_cells HX4.out; clear hb ht)
    | (go_at_call 25; with_reducible refine Calls.mono (HNW.out _ HB4.out) ?_; rintro e w5 ⟨⟨ub, vb, rfl, hu⟩, hb⟩; have HB5 := Lib.hid (bThen HB4.out hb); have HU5 := Lib.hid hu; have HT5 := Lib.hid (HT4.out.below hb); have HX5 := Lib.hid (heap_keep hb HX4.out); obtain ⟨d0, d1, d2, d3, d4, d5, d6, d7, d8, ld⟩ := ply_cells HX5.out; clear hb hu))
  all_goals first | (exfalso; omega) | skip
  have HT0 : Hid (Two w w5 w3.heap.size tb wb w4.heap.size ub vb al x.s.areas.length ps 0 (fun _ => 0) 0 (fun _ => 0) w.heap.size _) := Lib.hid (by
    have q1 := HT4.out.3.lt
    have q2 : tb < w4.heap.size := by obtain ⟨-, ⟨_, _, _, _, kb, -, -, -⟩, -⟩ := HT4.out; exact (Array.getElem?_eq_some_iff.1 kb).1
    have q3 := HT4.out.1
    have q4 := HU5.out.1
    have q5 := HB3.out.size
    have q6 := HB4.out.size
    exact ⟨HT5.out, HU5.out, by omega, by omega, by omega, HX5.out, HB5.out⟩)
  clear HT4 HT5 HU5 HX2 HX3 HX4 HX5 HX1 HB1 HB2 HB3 HB4 HB5 HFT HSH HNW d0 d1 d2 d3 d4 d5 d6 d7 d8 ld
  generalize w3.heap.size = t1 at *
  generalize w4.heap.size = t2 at *
  obtain ⟨bx, hbx⟩ : ∃ bx, w.heap.size = bx := ⟨_, rfl⟩
  rw [hbx]
  have HBX := Lib.hid hbx
  obtain ⟨cs, hcs⟩ : ∃ cs : Array Value, (#[.slice a1 x.s.areas.length c1, .slice a2 x.s.branch.length c2, .int .i64 x.s.joint, .int .i64 x.s.glottis, .int .i64 x.s.lips, .int .i64 x.s.nose, .slice a3 x.feeds.length c3, .slice a4 x.areas.length c4, .slice a5 x.branch.length c5] : Array Value) = cs := ⟨_, rfl⟩
  have HT1 : Hid (Two w w5 t1 tb wb t2 ub vb al x.s.areas.length ps 0 (fun _ => 0) 0 (fun _ => 0) bx cs) := Lib.hid (by rw [← hbx, ← hcs]; exact HT0.out)
  have HCS := Lib.hid hcs
  clear HT0 hbx hcs
  go_loopw [9] (fun i wr => ∃ (k st : Nat) (f : Nat → Int), k ≤ x.feeds.length ∧ i = .int .i64 k ∧ st ≤ k ∧ Hid (Two w wr t1 tb wb t2 ub vb al x.s.areas.length ps st f st f bx cs)) (fun i _ => x.feeds.length - (intOf i).toNat)
  case atStart => exact ⟨0, 0, _, Nat.zero_le _, rfl, Nat.le_refl _, HT1⟩
  case round =>
    clear HT1
    obtain ⟨k, st, f, hk, rfl, hst, HT⟩ := hrel
    obtain ⟨d0, d1, d2, d3, d4, d5, d6, d7, d8, ld⟩ := ply_cells (by have := HT.out.box; rw [← HCS.out] at this; exact this)
    by_cases hlt : k < x.feeds.length
    · obtain ⟨b, o, c, u, e1, p0, q0, r0⟩ := fds_at HF.out (Below.refl _ _) hlt
      obtain ⟨rfl, -, rfl⟩ := Value.slice.inj e1
      have hlen := HPP.out.2.2.2.1 _ (List.getElem_mem hlt)
      have hkk : (k : Int) < (x.feeds.length : Int) := by omega
      clear e1
      generalize x.feeds[k] = y at *
      obtain ⟨fa, fc, rfl, hmy, -⟩ := id q0
      have p1 := keep HT.out.low p0
      have p2 := cell_lt p1
      have P0 := Lib.hid p0
      have HS1 := Lib.hid (Step_go HT.out.t HTO.out (by omega) y fa fc (q0.keep FdAt.stable HT.out.low) (fun hne p hp => by have := sl_low q0 hne p hp; have := HT.out.lo; omega) (by omega))
      have HS2 := Lib.hid (fun (W : World) (st' : Nat) (f' : Nat → Int) (hT : Two w W t1 tb wb t2 ub vb al x.s.areas.length ps st' f' st f bx cs) => Step_go hT.u HTO.out (by omega) y fa fc (q0.keep FdAt.stable hT.low) (fun hne p hp => by have := sl_low q0 hne p hp; have := HT.out.lo; omega) (by omega))
      have HGO := Lib.hid (goS_le x.s.areas.length y st)
      clear q0 p0
      go_wp2_with (first
        | (go_at_call 31; with_reducible refine Calls.mono HS1.out ?_; rintro e w6 ⟨⟨ea, eb, ec, rfl⟩, ht, hk⟩; have H6 := Lib.hid (HT.out.stepT ht hk); obtain ⟨d0, d1, d2, d3, d4, d5, d6, d7, d8, ld⟩ := ply_cells (by have := H6.out.box; rw [← HCS.out] at this; exact this); have p1 := keep H6.out.low P0.out; have p2 := cell_lt p1; clear ht hk)
        | (go_at_call 31; with_reducible refine Calls.mono (HS2.out _ _ _ H6.out) ?_; rintro e w7 ⟨⟨ea2, eb2, ec2, rfl⟩, ht, hk⟩; have H7 := Lib.hid (H6.out.stepU ht hk); clear ht hk))
      go_roundw
      case rel => exact ⟨k + 1, _, _, by omega, by go_num, by have := HGO.out; omega, H7⟩
      case measure => simp [intOf]; omega
    · obtain rfl : k = x.feeds.length := by omega
      have hst60 : st ≤ 60 := by omega
      have HTS := Lib.hid (fun (W : World) (s2 : Nat) (f1 f2 : Nat → Int) (s1 : Nat) (hT : Two w W t1 tb wb t2 ub vb al x.s.areas.length ps s1 f1 s2 f2 bx cs) => tube_steps hT.t HTO.out)
      have HUS := Lib.hid (fun (W : World) (s2 : Nat) (f1 f2 : Nat → Int) (s1 : Nat) (hT : Two w W t1 tb wb t2 ub vb al x.s.areas.length ps s1 f1 s2 f2 bx cs) => tube_steps hT.u HTO.out)
      have HRB := Lib.hid (Rest_bad HT.out.t HTO.out n hn2)
      clear hn2
      go_wp2_with (first
        | (go_at_call 35; with_reducible refine Calls.mono HRB.out ?_; rintro e w8 ⟨rfl, rfl⟩)
        | (go_at_call 36; with_reducible refine Calls.mono (HTS.out _ _ _ _ _ HT.out) ?_; rintro e w8 ⟨rfl, rfl⟩)
        | (go_at_call 36; with_reducible refine Calls.mono (HUS.out _ _ _ _ _ HT.out) ?_; rintro e w8 ⟨rfl, rfl⟩)
        | (go_at_call 17; with_reducible refine Calls.mono (HK.out _) ?_; rintro e wk ⟨rfl, hb⟩; have HB := Lib.hid hb; clear hb))
      go_ret
      exact ⟨rfl, by (try rw [← HBX.out]); exact bThen HT.out.low HB.out⟩

set_option maxRecDepth 10000 in
set_option maxHeartbeats 8000000 in
theorem law7_few (x : Ply) (N : Nat) (va vb vf vA vB : Value) (w : World) (hk : ∀ w, Calls Try.prog 17 #[] w fun e w' => e = .returned (.bool true) ∧ Below w.heap.size w w') (h : PlyV w va vb vf vA vB x) (hp : plyOk x = true) (hs : shpOk x.s = true) (hN : N ≤ 100) :
    Calls Try.prog 7 #[.agg #[va, vb, .int .i64 x.s.joint, .int .i64 x.s.glottis, .int .i64 x.s.lips, .int .i64 x.s.nose, vf, vA, vB], .int .i64 (N : Int)] w fun e w' => e = .returned (.bool true) ∧ Below w.heap.size w w' := by
  have HK := Lib.hid hk
  have HFT := Lib.hid (fun W (hB : Below w.heap.size w W) => fits_any x va vb vf vA vB W (h.keep hB))
  have HSH := Lib.hid (fun W (hB : Below w.heap.size w W) => refShape_any x.s va vb W (h.1.keep IntAt.stable hB) (h.2.keep IntAt.stable hB))
  have HNW0 := Lib.hid (fun (hs : shpOk x.s = true) W (hB : Below w.heap.size w W) => New_ok x.s va vb W (h.1.keep IntAt.stable hB) (h.2.keep IntAt.stable hB) hs)
  obtain ⟨h1, h2, h3, h4, h5⟩ := h
  have HF := Lib.hid h3
  obtain ⟨a1, c1, rfl, -⟩ := h1
  obtain ⟨a2, c2, rfl, -⟩ := h2
  obtain ⟨a3, c3, rfl, hm3, -⟩ := h3
  obtain ⟨a4, c4, rfl, -⟩ := h4
  obtain ⟨a5, c5, rfl, -⟩ := h5
  unfold most at hm3
  have HB1 := Lib.hid (bAlloc (Below.refl w.heap.size w) (.cells #[.slice a1 x.s.areas.length c1, .slice a2 x.s.branch.length c2, .int .i64 x.s.joint, .int .i64 x.s.glottis, .int .i64 x.s.lips, .int .i64 x.s.nose, .slice a3 x.feeds.length c3, .slice a4 x.areas.length c4, .slice a5 x.branch.length c5] 39))
  have HX1 := Lib.hid (World.alloc_heap_new w (.cells #[.slice a1 x.s.areas.length c1, .slice a2 x.s.branch.length c2, .int .i64 x.s.joint, .int .i64 x.s.glottis, .int .i64 x.s.lips, .int .i64 x.s.nose, .slice a3 x.feeds.length c3, .slice a4 x.areas.length c4, .slice a5 x.branch.length c5] 39))
  clear hk
  have g0 : ¬ (N : Int) > 100 := by omega
  have g1 : ¬ (N : Int) < 0 := by omega
  have g2 : ¬ (N : Int) > 100000 := by omega
  have HPP := Lib.hid (ply_parts hp)
  have HTO := Lib.hid (shp_tube hs)
  have HNW := Lib.hid (HNW0.out hs)
  rw [hp] at HFT
  rw [hs] at HSH
  obtain ⟨al, hal⟩ : ∃ al, x.s.areas ++ x.s.branch = al := ⟨_, rfl⟩
  obtain ⟨ps, hps⟩ : ∃ ps, shpPlaces x.s = ps := ⟨_, rfl⟩
  rw [hal, hps] at HNW HTO
  clear HNW0 hp hs hal hps
  have h60 := HPP.out.1
  go_enter Try.func7, Try.ntmps7
  go_wp2_with (first
    | (go_at_call 24; with_reducible refine Calls.mono (HFT.out _ HB1.out) ?_; rintro e w2 ⟨rfl, hb⟩; have HB2 := Lib.hid (bThen HB1.out hb); have HX2 := Lib.hid (heap_keep hb HX1.out); obtain ⟨d0, d1, d2, d3, d4, d5, d6, d7, d8, ld⟩ := ply_cells HX2.out; clear hb)
    | (go_at_call 19; with_reducible refine Calls.mono (HSH.out _ HB2.out) ?_; rintro e w3 ⟨rfl, hb⟩; have HB3 := Lib.hid (bThen HB2.out hb); have HX3 := Lib.hid (heap_keep hb HX2.out); obtain ⟨d0, d1, d2, d3, d4, d5, d6, d7, d8, ld⟩ := ply_cells HX3.out; clear hb)
    | (go_at_call 25; with_reducible refine Calls.mono (HNW.out _ HB3.out) ?_; rintro e w4 ⟨⟨tb, wb, rfl, ht⟩, hb⟩; have HB4 := Lib.hid (bThen HB3.out hb); have HT4 := Lib.hid ht; have HX4 := Lib.hid (heap_keep hb HX3.out); obtain ⟨d0, d1, d2, d3, d4, d5, d6, d7, d8, ld⟩ := ply_cells HX4.out; clear hb ht)
    | (go_at_call 25; with_reducible refine Calls.mono (HNW.out _ HB4.out) ?_; rintro e w5 ⟨⟨ub, vb, rfl, hu⟩, hb⟩; have HB5 := Lib.hid (bThen HB4.out hb); have HU5 := Lib.hid hu; have HT5 := Lib.hid (HT4.out.below hb); have HX5 := Lib.hid (heap_keep hb HX4.out); obtain ⟨d0, d1, d2, d3, d4, d5, d6, d7, d8, ld⟩ := ply_cells HX5.out; clear hb hu))
  all_goals first | (exfalso; omega) | skip
  have HT0 : Hid (Two w w5 w3.heap.size tb wb w4.heap.size ub vb al x.s.areas.length ps 0 (fun _ => 0) 0 (fun _ => 0) w.heap.size _) := Lib.hid (by
    have q1 := HT4.out.3.lt
    have q2 : tb < w4.heap.size := by obtain ⟨-, ⟨_, _, _, _, kb, -, -, -⟩, -⟩ := HT4.out; exact (Array.getElem?_eq_some_iff.1 kb).1
    have q3 := HT4.out.1
    have q4 := HU5.out.1
    have q5 := HB3.out.size
    have q6 := HB4.out.size
    exact ⟨HT5.out, HU5.out, by omega, by omega, by omega, HX5.out, HB5.out⟩)
  clear HT4 HT5 HU5 HX2 HX3 HX4 HX5 HX1 HB1 HB2 HB3 HB4 HB5 HFT HSH HNW d0 d1 d2 d3 d4 d5 d6 d7 d8 ld
  generalize w3.heap.size = t1 at *
  generalize w4.heap.size = t2 at *
  obtain ⟨bx, hbx⟩ : ∃ bx, w.heap.size = bx := ⟨_, rfl⟩
  rw [hbx]
  have HBX := Lib.hid hbx
  obtain ⟨cs, hcs⟩ : ∃ cs : Array Value, (#[.slice a1 x.s.areas.length c1, .slice a2 x.s.branch.length c2, .int .i64 x.s.joint, .int .i64 x.s.glottis, .int .i64 x.s.lips, .int .i64 x.s.nose, .slice a3 x.feeds.length c3, .slice a4 x.areas.length c4, .slice a5 x.branch.length c5] : Array Value) = cs := ⟨_, rfl⟩
  have HT1 : Hid (Two w w5 t1 tb wb t2 ub vb al x.s.areas.length ps 0 (fun _ => 0) 0 (fun _ => 0) bx cs) := Lib.hid (by rw [← hbx, ← hcs]; exact HT0.out)
  have HCS := Lib.hid hcs
  clear HT0 hbx hcs
  go_loopw [9] (fun i wr => ∃ (k st : Nat) (f : Nat → Int), k ≤ x.feeds.length ∧ i = .int .i64 k ∧ st ≤ k ∧ Hid (Two w wr t1 tb wb t2 ub vb al x.s.areas.length ps st f st f bx cs)) (fun i _ => x.feeds.length - (intOf i).toNat)
  case atStart => exact ⟨0, 0, _, Nat.zero_le _, rfl, Nat.le_refl _, HT1⟩
  case round =>
    clear HT1
    obtain ⟨k, st, f, hk, rfl, hst, HT⟩ := hrel
    obtain ⟨d0, d1, d2, d3, d4, d5, d6, d7, d8, ld⟩ := ply_cells (by have := HT.out.box; rw [← HCS.out] at this; exact this)
    by_cases hlt : k < x.feeds.length
    · obtain ⟨b, o, c, u, e1, p0, q0, r0⟩ := fds_at HF.out (Below.refl _ _) hlt
      obtain ⟨rfl, -, rfl⟩ := Value.slice.inj e1
      have hlen := HPP.out.2.2.2.1 _ (List.getElem_mem hlt)
      have hkk : (k : Int) < (x.feeds.length : Int) := by omega
      clear e1
      generalize x.feeds[k] = y at *
      obtain ⟨fa, fc, rfl, hmy, -⟩ := id q0
      have p1 := keep HT.out.low p0
      have p2 := cell_lt p1
      have P0 := Lib.hid p0
      have HS1 := Lib.hid (Step_go HT.out.t HTO.out (by omega) y fa fc (q0.keep FdAt.stable HT.out.low) (fun hne p hp => by have := sl_low q0 hne p hp; have := HT.out.lo; omega) (by omega))
      have HS2 := Lib.hid (fun (W : World) (st' : Nat) (f' : Nat → Int) (hT : Two w W t1 tb wb t2 ub vb al x.s.areas.length ps st' f' st f bx cs) => Step_go hT.u HTO.out (by omega) y fa fc (q0.keep FdAt.stable hT.low) (fun hne p hp => by have := sl_low q0 hne p hp; have := HT.out.lo; omega) (by omega))
      have HGO := Lib.hid (goS_le x.s.areas.length y st)
      clear q0 p0
      go_wp2_with (first
        | (go_at_call 31; with_reducible refine Calls.mono HS1.out ?_; rintro e w6 ⟨⟨ea, eb, ec, rfl⟩, ht, hk⟩; have H6 := Lib.hid (HT.out.stepT ht hk); obtain ⟨d0, d1, d2, d3, d4, d5, d6, d7, d8, ld⟩ := ply_cells (by have := H6.out.box; rw [← HCS.out] at this; exact this); have p1 := keep H6.out.low P0.out; have p2 := cell_lt p1; clear ht hk)
        | (go_at_call 31; with_reducible refine Calls.mono (HS2.out _ _ _ H6.out) ?_; rintro e w7 ⟨⟨ea2, eb2, ec2, rfl⟩, ht, hk⟩; have H7 := Lib.hid (H6.out.stepU ht hk); clear ht hk))
      go_roundw
      case rel => exact ⟨k + 1, _, _, by omega, by go_num, by have := HGO.out; omega, H7⟩
      case measure => simp [intOf]; omega
    · obtain rfl : k = x.feeds.length := by omega
      have hst60 : st ≤ 60 := by omega
      have HTS := Lib.hid (fun (W : World) (s2 : Nat) (f1 f2 : Nat → Int) (s1 : Nat) (hT : Two w W t1 tb wb t2 ub vb al x.s.areas.length ps s1 f1 s2 f2 bx cs) => tube_steps hT.t HTO.out)
      have HUS := Lib.hid (fun (W : World) (s2 : Nat) (f1 f2 : Nat → Int) (s1 : Nat) (hT : Two w W t1 tb wb t2 ub vb al x.s.areas.length ps s1 f1 s2 f2 bx cs) => tube_steps hT.u HTO.out)
      have HRO := Lib.hid (Rest_ok HT.out.t HTO.out N (by omega))
      go_wp2_with (go_at_call 35; with_reducible refine Calls.mono HRO.out ?_; rintro e w8 ⟨⟨g, rfl, hg, hr⟩, ht, hk⟩; have H8 := Lib.hid (HT.out.stepT ht hk); have HG := Lib.hid hr; clear ht hk hg hr)
      have HGL := Lib.hid HG.out.lt
      obtain ⟨L, hL⟩ : ∃ L : Nat → List (Int × Int), L = fun k => (List.range k).map (quH al x.s.areas.length ps st f) := ⟨_, rfl⟩
      have HL := Lib.hid hL
      have HLL : Hid (∀ k, (L k).length = k) := Lib.hid (by rw [hL]; simp)
      have HLS : Hid (∀ k, L (k + 1) = L k ++ [quH al x.s.areas.length ps st f k]) := Lib.hid (by intro k; rw [hL]; simp [List.range_succ])
      have HL0 : Hid (L 0 = []) := Lib.hid (by rw [hL]; rfl)
      have HW8 : Hid (w.heap.size ≤ w8.heap.size) := Lib.hid H8.out.low.size
      clear hL
      go_wp2_with fail
      go_loopw [12, 13] (fun l i wr => ∃ k : Nat, k ≤ N ∧ i = .int .i64 k ∧ Hid (wr.ownsRow w8.heap.size 51 2 l (L k).length (hdV (L k))) ∧ Hid (Two w wr t1 tb wb t2 ub vb al x.s.areas.length ps (st + N) (quF al ps st f N) (st + k) (quF al ps st f k) bx cs) ∧ Hid (wr.rowIs g 51 (N * 2) (fun j => .int .i64 (hdv (quH al x.s.areas.length ps st f) N j))) ∧ Hid (w8.heap.size ≤ wr.heap.size)) (fun _ i _ => N - (intOf i).toNat)
      case atStart => exact ⟨0, Nat.zero_le _, rfl, Lib.hid (by rw [HL0.out]; exact World.ownsRow_nil _ _ _ _), H8, HG, Lib.hid (Nat.le_refl _)⟩
      case round =>
        clear H8 HG
        obtain ⟨k, hk, rfl, HO, HT8, HG, HZ⟩ := hrel
        obtain ⟨la, lc, rfl⟩ := ownsRow_slice HO.out
        by_cases hlt : k < N
        · have hkk : (k : Int) < (N : Int) := by omega
          have hso := Step_ok HT8.out.u HTO.out (by omega) [] none 0 ⟨none, 0, rfl, ⟨Nat.zero_le _, Nat.zero_le _⟩, .inl rfl⟩ (fun _ p hp => by cases hp) (by simp [fdOk, fdGood, fdSum]) (by simp)
          have HSO : Hid (Calls Try.prog 31 #[.pointer (some ⟨ub, 0, none⟩), .slice none 0 0] wr fun e w' => e = .returned (.tuple #[.agg #[.int .i64 (quH al x.s.areas.length ps st f k).1, .int .i64 (quH al x.s.areas.length ps st f k).2], .int .i64 0]) ∧ TubeIs t2 w' ub al x.s.areas.length ps (st + (k + 1)) vb (quF al ps st f (k + 1)) ∧ Kept wr w' vb ub) := Lib.hid hso
          clear hso
          have HLK := Lib.hid (HLS.out k)
          obtain ⟨q1, hq1⟩ : ∃ q, (quH al x.s.areas.length ps st f k).1 = q := ⟨_, rfl⟩
          obtain ⟨q2, hq2⟩ : ∃ q, (quH al x.s.areas.length ps st f k).2 = q := ⟨_, rfl⟩
          rw [show quH al x.s.areas.length ps st f k = (q1, q2) by rw [← hq1, ← hq2]] at HLK
          rw [hq1, hq2] at HSO
          clear hq1 hq2
          go_wp2_with (first
            | (go_at_call 31; with_reducible refine Calls.mono HSO.out ?_; rintro e w9 ⟨rfl, ht, hk9⟩; have HT9 := Lib.hid (HT8.out.stepU ht hk9); have HO9 := Lib.hid (own_step HT8.out.u hk9 HO.out (by decide) (by decide)); have HG9 := Lib.hid (row_step HT8.out.u hk9 HG.out (by decide) (by decide)); have HZ9 := Lib.hid hk9.size; have HA9 := Lib.hid (bAlloc (bAlloc (Below.refl w9.heap.size w9) (.cells #[.int .i64 q1, .int .i64 q2] 51)) (.cells #[.int .i64 q1, .int .i64 q2] 51)); clear ht hk9)
            | (at_builtin; go_loud (refine wpList_append_hd rfl _ _ rfl w8.heap.size _ (L k) rfl (ownsRow_below HO9.out HA9.out) (w9.heap.size + 1) q1 q2 (by rfl) (cell_new2 (cell_new rfl)) (cell_new2 (cell_new rfl)) (by rw [HLL.out]; omega) (by have := HZ9.out; have := HZ.out; simp; omega) ?_; intro v10 w10 ho10 hg10 hb10)))
          have HO10 : Hid (w10.ownsRow w8.heap.size 51 2 v10 (L (k + 1)).length (hdV (L (k + 1)))) := Lib.hid (by rw [HLK.out]; exact ho10)
          have HT10 := Lib.hid ((HT9.out.below HA9.out).row (ownsRow_below HO9.out HA9.out) hg10 hb10 HW8.out)
          have HG10 := Lib.hid ((rowB HG9.out HA9.out).of_block (hb10.block g HGL.out))
          have HZ10 := Lib.hid hb10.size
          clear ho10 hg10 hb10
          go_roundw
          case rel => exact ⟨k + 1, by omega, by go_num, HO10, HT10, HG10, Lib.hid (by have := HZ10.out; have := HZ9.out; have := HZ.out; simp at *; omega)⟩
          case measure => simp [intOf]; omega
        · obtain rfl : k = N := by omega
          have hsl := hd_slice HG.out (by omega)
          have hol := own_hd HO.out (by rw [HLL.out]; omega)
          have hle : (List.range k).map (quH al x.s.areas.length ps st f) = L k := by rw [HL.out]
          have HALK := Lib.hid (Alike_any _ _ _ _ wr hsl hol hle)
          rw [HLL.out] at HALK ⊢
          have HEN := Lib.hid (fun (W : World) (hT : Two w W t1 tb wb t2 ub vb al x.s.areas.length ps (st + k) (quF al ps st f k) (st + k) (quF al ps st f k) bx cs) => tube_energy hT.t HTO.out (by omega))
          have HEU := Lib.hid (fun (W : World) (hT : Two w W t1 tb wb t2 ub vb al x.s.areas.length ps (st + k) (quF al ps st f k) (st + k) (quF al ps st f k) bx cs) => tube_energy hT.u HTO.out (by omega))
          obtain ⟨E, hE⟩ : ∃ E, wrap64 (enX (fun i => al.getD i 0) (fun i => quF al ps st f k (offO al.length (st + k) + i * 2)) (fun i => quF al ps st f k (offO al.length (st + k) + i * 2 + 1)) al.length) = E := ⟨_, rfl⟩
          rw [hE] at HEN HEU
          clear hE hsl hol hle
          have HRL : Hid (∀ (W : World), 1 ≤ st + k → Two w W t1 tb wb t2 ub vb al x.s.areas.length ps (st + k) (quF al ps st f k) (st + k) (quF al ps st f k) bx cs → Calls Try.prog 35 #[.pointer (some ⟨tb, 0, none⟩), .int .i64 100000] W fun e w' => e = .returned (.tuple #[.slice none 0 0, .int .i64 4]) ∧ W = w') := Lib.hid (fun W h1 hT => Rest_long hT.t HTO.out (by omega) 100000 (by omega) (by omega))
          obtain ⟨S, hS⟩ : ∃ S, st + k = S := ⟨_, rfl⟩
          rw [hS] at HT8 HEN HEU HRL
          clear HG HO hS
          by_cases h0 : S = 0
          · subst h0
            go_wp2_with (first
              | (go_at_call 37; with_reducible refine Calls.mono HALK.out ?_; rintro e w11 ⟨rfl, hb⟩; have H11 := Lib.hid (HT8.out.below hb); clear hb)
              | (go_at_call 34; with_reducible refine Calls.mono (HEN.out _ H11.out) ?_; rintro e w12 ⟨rfl, hb⟩; have H12 := Lib.hid (H11.out.below hb); clear hb)
              | (go_at_call 34; with_reducible refine Calls.mono (HEU.out _ H12.out) ?_; rintro e w13 ⟨rfl, hb⟩; have H13 := Lib.hid (H12.out.below hb); clear hb)
              | (go_at_call 36; with_reducible refine Calls.mono (HTS.out _ _ _ _ _ H13.out) ?_; rintro e w14 ⟨rfl, rfl⟩)
              | (go_at_call 36; with_reducible refine Calls.mono (HUS.out _ _ _ _ _ H13.out) ?_; rintro e w14 ⟨rfl, rfl⟩)
              | (go_at_call 35; with_reducible refine Calls.mono (HRL.out _ hS1 H13.out) ?_; rintro e w14 ⟨rfl, rfl⟩)
              | (go_at_call 17; with_reducible refine Calls.mono (HK.out _) ?_; rintro e wk ⟨rfl, hb⟩; have HB := Lib.hid hb; clear hb))
            all_goals first
              | (exfalso; omega)
              | (go_ret; exact ⟨rfl, by (try rw [← HBX.out]); exact bThen H13.out.low HB.out⟩)
          · have h01 : ((S : Int) == 0) = false := by simp; exact h0
            have hS1 : 1 ≤ S := by omega
            go_wp2_with (first
              | (go_at_call 37; with_reducible refine Calls.mono HALK.out ?_; rintro e w11 ⟨rfl, hb⟩; have H11 := Lib.hid (HT8.out.below hb); clear hb)
              | (go_at_call 34; with_reducible refine Calls.mono (HEN.out _ H11.out) ?_; rintro e w12 ⟨rfl, hb⟩; have H12 := Lib.hid (H11.out.below hb); clear hb)
              | (go_at_call 34; with_reducible refine Calls.mono (HEU.out _ H12.out) ?_; rintro e w13 ⟨rfl, hb⟩; have H13 := Lib.hid (H12.out.below hb); clear hb)
              | (go_at_call 36; with_reducible refine Calls.mono (HTS.out _ _ _ _ _ H13.out) ?_; rintro e w14 ⟨rfl, rfl⟩)
              | (go_at_call 36; with_reducible refine Calls.mono (HUS.out _ _ _ _ _ H13.out) ?_; rintro e w14 ⟨rfl, rfl⟩)
              | (go_at_call 35; with_reducible refine Calls.mono (HRL.out _ hS1 H13.out) ?_; rintro e w14 ⟨rfl, rfl⟩)
              | (go_at_call 17; with_reducible refine Calls.mono (HK.out _) ?_; rintro e wk ⟨rfl, hb⟩; have HB := Lib.hid hb; clear hb))
            all_goals first
              | (exfalso; omega)
              | (go_ret; exact ⟨rfl, by (try rw [← HBX.out]); exact bThen H13.out.low HB.out⟩)

set_option maxRecDepth 10000 in
set_option maxHeartbeats 4000000 in
theorem law7_any (x : Ply) (n : Int) (va vb vf vA vB : Value) (w : World) (hk : ∀ w, Calls Try.prog 17 #[] w fun e w' => e = .returned (.bool true) ∧ Below w.heap.size w w') (h : PlyV w va vb vf vA vB x) :
    Calls Try.prog 7 #[.agg #[va, vb, .int .i64 x.s.joint, .int .i64 x.s.glottis, .int .i64 x.s.lips, .int .i64 x.s.nose, vf, vA, vB], .int .i64 n] w fun e w' => e = .returned (.bool true) ∧ Below w.heap.size w w' := by
  have HK := Lib.hid hk
  have HFT := Lib.hid (fun W (hB : Below w.heap.size w W) => fits_any x va vb vf vA vB W (h.keep hB))
  have HSH := Lib.hid (fun W (hB : Below w.heap.size w W) => refShape_any x.s va vb W (h.1.keep IntAt.stable hB) (h.2.keep IntAt.stable hB))
  have HH := Lib.hid h
  obtain ⟨h1, h2, h3, h4, h5⟩ := h
  have HF := Lib.hid h3
  obtain ⟨a1, c1, rfl, -⟩ := h1
  obtain ⟨a2, c2, rfl, -⟩ := h2
  obtain ⟨a3, c3, rfl, hm3, -⟩ := h3
  obtain ⟨a4, c4, rfl, -⟩ := h4
  obtain ⟨a5, c5, rfl, -⟩ := h5
  unfold most at hm3
  have HB1 := Lib.hid (bAlloc (Below.refl w.heap.size w) (.cells #[.slice a1 x.s.areas.length c1, .slice a2 x.s.branch.length c2, .int .i64 x.s.joint, .int .i64 x.s.glottis, .int .i64 x.s.lips, .int .i64 x.s.nose, .slice a3 x.feeds.length c3, .slice a4 x.areas.length c4, .slice a5 x.branch.length c5] 39))
  have HX1 := Lib.hid (World.alloc_heap_new w (.cells #[.slice a1 x.s.areas.length c1, .slice a2 x.s.branch.length c2, .int .i64 x.s.joint, .int .i64 x.s.glottis, .int .i64 x.s.lips, .int .i64 x.s.nose, .slice a3 x.feeds.length c3, .slice a4 x.areas.length c4, .slice a5 x.branch.length c5] 39))
  cases hp : plyOk x
  · rw [hp] at HFT
    clear HF hp HH hk
    go_enter Try.func7, Try.ntmps7
    go_wp2_with (first
      | (go_at_call 24; with_reducible refine Calls.mono (HFT.out _ HB1.out) ?_; rintro e w2 ⟨rfl, hb⟩; have HB2 := Lib.hid (bThen HB1.out hb); have HX2 := Lib.hid (heap_keep hb HX1.out); obtain ⟨d0, d1, d2, d3, d4, d5, d6, d7, d8, ld⟩ := ply_cells HX2.out; clear hb)
      | (go_at_call 19; with_reducible refine Calls.mono (HSH.out _ HB2.out) ?_; rintro e w3 ⟨rfl, hb⟩; have HB3 := Lib.hid (bThen HB2.out hb); clear hb)
      | (go_at_call 17; with_reducible refine Calls.mono (HK.out _) ?_; rintro e wk ⟨rfl, hb⟩; have HB := Lib.hid hb; clear hb))
    all_goals first
      | (exfalso; omega)
      | (go_ret; exact ⟨rfl, by first | exact bThen HB3.out HB.out | exact bThen HB2.out HB.out⟩)
  cases hs : shpOk x.s
  · rw [hp] at HFT
    rw [hs] at HSH
    clear HF hp hs HH hk
    go_enter Try.func7, Try.ntmps7
    go_wp2_with (first
      | (go_at_call 24; with_reducible refine Calls.mono (HFT.out _ HB1.out) ?_; rintro e w2 ⟨rfl, hb⟩; have HB2 := Lib.hid (bThen HB1.out hb); have HX2 := Lib.hid (heap_keep hb HX1.out); obtain ⟨d0, d1, d2, d3, d4, d5, d6, d7, d8, ld⟩ := ply_cells HX2.out; clear hb)
      | (go_at_call 19; with_reducible refine Calls.mono (HSH.out _ HB2.out) ?_; rintro e w3 ⟨rfl, hb⟩; have HB3 := Lib.hid (bThen HB2.out hb); clear hb)
      | (go_at_call 17; with_reducible refine Calls.mono (HK.out _) ?_; rintro e wk ⟨rfl, hb⟩; have HB := Lib.hid hb; clear hb))
    all_goals first
      | (exfalso; omega)
      | (go_ret; exact ⟨rfl, by first | exact bThen HB3.out HB.out | exact bThen HB2.out HB.out⟩)
  by_cases h6 : 100 < n ∧ n ≤ 100000
  · rw [hp] at HFT
    rw [hs] at HSH
    have h61 : n > 100 := h6.1
    have h62 : n ≤ 100000 := h6.2
    clear HF hp hs h6 HH hk
    go_enter Try.func7, Try.ntmps7
    go_wp2_with (first
      | (go_at_call 24; with_reducible refine Calls.mono (HFT.out _ HB1.out) ?_; rintro e w2 ⟨rfl, hb⟩; have HB2 := Lib.hid (bThen HB1.out hb); have HX2 := Lib.hid (heap_keep hb HX1.out); obtain ⟨d0, d1, d2, d3, d4, d5, d6, d7, d8, ld⟩ := ply_cells HX2.out; clear hb)
      | (go_at_call 19; with_reducible refine Calls.mono (HSH.out _ HB2.out) ?_; rintro e w3 ⟨rfl, hb⟩; have HB3 := Lib.hid (bThen HB2.out hb); clear hb)
      | (go_at_call 17; with_reducible refine Calls.mono (HK.out _) ?_; rintro e wk ⟨rfl, hb⟩; have HB := Lib.hid hb; clear hb))
    all_goals first
      | (exfalso; omega)
      | (go_ret; exact ⟨rfl, by first | exact bThen HB3.out HB.out | exact bThen HB2.out HB.out⟩)
  by_cases h7 : n < 0
  · exact law7_neg x n _ _ _ _ _ w hk HH.out hp hs h7
  by_cases h8 : 100000 < n
  · exact law7_far x n _ _ _ _ _ w hk HH.out hp hs h8
  obtain ⟨N, rfl⟩ : ∃ N : Nat, n = (N : Int) := ⟨n.toNat, by omega⟩
  exact law7_few x N _ _ _ _ _ w hk HH.out hp hs (by omega)
end Go.Proofs.Ytbmbcbknoflpgaa
