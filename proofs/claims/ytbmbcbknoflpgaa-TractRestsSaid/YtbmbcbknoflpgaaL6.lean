/- The law of rest. -/
import Derived.Test.YtbmbcbknoflpgaaP7
import Derived.Test.YtbmbcbknoflpgaaOM
set_option linter.unusedSimpArgs false
set_option linter.unusedVariables false
namespace Go.Proofs.Ytbmbcbknoflpgaa
open Go.RowKit

/-- One tube, and the box of its play. -/
structure One (w W : World) (b1 tb wb : Nat) (al : List Int) (main : Nat) (ps : List Plc) (st : Nat) (f : Nat → Int) (bx : Nat) (cs : Array Value) : Prop where
  t : TubeIs b1 W tb al main ps st wb f
  lo : w.heap.size ≤ tb ∧ w.heap.size ≤ wb
  box : W.heap[bx]? = some (.cells cs 39 (0, 0))
  low : Below w.heap.size w W
theorem One.below {w W W' : World} {b1 tb wb main st bx : Nat} {al : List Int} {ps : List Plc} {f : Nat → Int} {cs : Array Value} (h : One w W b1 tb wb al main ps st f bx cs) (hB : Below W.heap.size W W') : One w W' b1 tb wb al main ps st f bx cs :=
  ⟨h.1.below hB, h.2, heap_keep hB h.3, bThen h.4 hB⟩
theorem One.step {w W W' : World} {b1 tb wb main st st3 bx : Nat} {al cl : List Int} {ps : List Plc} {f f3 : Nat → Int} {cs : Array Value} (h : One w W b1 tb wb al main ps st f bx cs) (ht : TubeIs b1 W' tb cl main ps st3 wb f3) (hk : Kept W W' wb tb) : One w W' b1 tb wb cl main ps st3 f3 bx cs := by
  have h1 := h.3
  obtain ⟨-, ⟨_, _, _, _, kb, -, -, -⟩, kw⟩ := h.1
  exact ⟨ht, h.2, hk.heap h1 (box_ne h1 kw (by decide)) (fun e => by subst e; rw [h1] at kb; simp at kb), h.4.trans (hk.below h.4.size h.2.2 h.2.1)⟩
/-- The energy that is handed back. -/
theorem tube_en6 {base tb main k wb : Nat} {W : World} {al : List Int} {ps : List Plc} {f : Nat → Int} (h : TubeIs base W tb al main ps k wb f) (ok : TubeOk al main ps) (hk : k ≤ 1000000) (hE : enT al k f ≤ 1000000000000) :
    Calls Try.prog 34 #[.pointer (some ⟨tb, 0, none⟩)] W fun e w' => e = .returned (.int .i64 (enT al k f)) ∧ Below W.heap.size W w' := by
  have h1 := tube_energy h ok hk
  rw [en_enX] at h1
  have h0 : 0 ≤ enT al k f := en_nonneg (fun i hi => ok.ar i hi)
  rw [w64_r (by unfold enT at hE h0; omega)] at h1
  exact h1
/-- What the feeds before leave. -/
structure EnK (al : List Int) (k st : Nat) (f : Nat → Int) : Prop where
  cnt : st ≤ k
  bnd : enT al st f ≤ (500 * (k : Int)) * (500 * (k : Int)) * 1000
theorem enk_go {s : Shp} (h : shpOk s = true) {al : List Int} (hl : al.length = s.areas.length + s.branch.length) (ha : ∀ j, j < al.length → 1 ≤ al.getD j 0 ∧ al.getD j 0 ≤ 1000) {k st : Nat} {f : Nat → Int} (hk : k < 60) (ht : EnK al k st f) (y : List Fd) :
    EnK al (k + 1) (goS s.areas.length y st) (goF al s.areas.length (shpPlaces s) y st f) := by
  have hmono : ∀ P : Int, 0 ≤ P → P ≤ 500 * ((k + 1 : Nat) : Int) → P * P * 1000 ≤ (500 * ((k + 1 : Nat) : Int)) * (500 * ((k + 1 : Nat) : Int)) * 1000 := fun P h0 h1 => by
    have := Int.mul_le_mul h1 h1 h0 (by omega)
    omega
  by_cases hf : fdOk s.areas.length y = true
  · have hs := (fdOk_parts hf).2
    have hge := go_energy (P := 500 * (k : Int)) (K := 1000) h hl ha hf (by omega) (by omega) (fun x hx => (ha _ (by have := (fdOk_parts hf).1.1 x hx; have := (shp_parts h).1; omega)).2) (by omega) ht.bnd
    unfold goS goF
    rw [if_pos hf, if_pos hf]
    exact ⟨by have := ht.cnt; omega, Int.le_trans hge (hmono _ (by omega) (by omega))⟩
  · unfold goS goF
    rw [if_neg hf, if_neg hf]
    exact ⟨by have := ht.cnt; omega, Int.le_trans ht.bnd (hmono _ (by omega) (by omega))⟩
set_option maxRecDepth 10000 in
set_option maxHeartbeats 8000000 in
theorem law6_any (x : Ply) (va vb vf vA vB : Value) (w : World) (hk : ∀ w, Calls Try.prog 17 #[] w fun e w' => e = .returned (.bool true) ∧ Below w.heap.size w w') (h : PlyV w va vb vf vA vB x) :
    Calls Try.prog 6 #[.agg #[va, vb, .int .i64 x.s.joint, .int .i64 x.s.glottis, .int .i64 x.s.lips, .int .i64 x.s.nose, vf, vA, vB]] w fun e w' => e = .returned (.bool true) ∧ Below w.heap.size w w' := by
  have HK := Lib.hid hk
  have HFT := Lib.hid (fun W (hB : Below w.heap.size w W) => fits_any x va vb vf vA vB W (h.keep hB))
  have HSH := Lib.hid (fun W (hB : Below w.heap.size w W) => refShape_any x.s va vb W (h.1.keep IntAt.stable hB) (h.2.keep IntAt.stable hB))
  have HNW0 := Lib.hid (fun (hs : shpOk x.s = true) W (hB : Below w.heap.size w W) => New_ok x.s va vb W (h.1.keep IntAt.stable hB) (h.2.keep IntAt.stable hB) hs)
  obtain ⟨h1, h2, h3, h4, h5⟩ := h
  have HF := Lib.hid h3
  obtain ⟨a1, c1, rfl, -⟩ := h1
  obtain ⟨a2, c2, rfl, -⟩ := h2
  obtain ⟨a3, c3, rfl, hm3, -⟩ := h3
  obtain ⟨a4, c4, rfl, hm4, -⟩ := h4
  obtain ⟨a5, c5, rfl, hm5, -⟩ := h5
  unfold most at hm3 hm4 hm5
  have HB1 := Lib.hid (bAlloc (Below.refl w.heap.size w) (.cells #[.slice a1 x.s.areas.length c1, .slice a2 x.s.branch.length c2, .int .i64 x.s.joint, .int .i64 x.s.glottis, .int .i64 x.s.lips, .int .i64 x.s.nose, .slice a3 x.feeds.length c3, .slice a4 x.areas.length c4, .slice a5 x.branch.length c5] 39))
  have HX1 := Lib.hid (World.alloc_heap_new w (.cells #[.slice a1 x.s.areas.length c1, .slice a2 x.s.branch.length c2, .int .i64 x.s.joint, .int .i64 x.s.glottis, .int .i64 x.s.lips, .int .i64 x.s.nose, .slice a3 x.feeds.length c3, .slice a4 x.areas.length c4, .slice a5 x.branch.length c5] 39))
  clear hk
  cases hp : plyOk x
  · rw [hp] at HFT
    clear HNW0 HF hp
    go_enter Try.func6, Try.ntmps6
    go_wp2_with (first
      | (go_at_call 24; with_reducible refine Calls.mono (HFT.out _ HB1.out) ?_; rintro e w2 ⟨rfl, hb⟩; have HB2 := Lib.hid (bThen HB1.out hb); have HX2 := Lib.hid (heap_keep hb HX1.out); obtain ⟨d0, d1, d2, d3, d4, d5, d6, d7, d8, ld⟩ := ply_cells HX2.out; clear hb)
      | (go_at_call 19; with_reducible refine Calls.mono (HSH.out _ HB2.out) ?_; rintro e w3 ⟨rfl, hb⟩; have HB3 := Lib.hid (bThen HB2.out hb); clear hb)
      | (go_at_call 17; with_reducible refine Calls.mono (HK.out _) ?_; rintro e wk ⟨rfl, hb⟩; have HB := Lib.hid hb; clear hb))
    all_goals first
      | (exfalso; omega)
      | (go_ret; exact ⟨rfl, by first | exact bThen HB3.out HB.out | exact bThen HB2.out HB.out⟩)
  cases hs : shpOk x.s
  · rw [hp] at HFT
    rw [hs] at HSH
    clear HNW0 HF hp hs
    go_enter Try.func6, Try.ntmps6
    go_wp2_with (first
      | (go_at_call 24; with_reducible refine Calls.mono (HFT.out _ HB1.out) ?_; rintro e w2 ⟨rfl, hb⟩; have HB2 := Lib.hid (bThen HB1.out hb); have HX2 := Lib.hid (heap_keep hb HX1.out); obtain ⟨d0, d1, d2, d3, d4, d5, d6, d7, d8, ld⟩ := ply_cells HX2.out; clear hb)
      | (go_at_call 19; with_reducible refine Calls.mono (HSH.out _ HB2.out) ?_; rintro e w3 ⟨rfl, hb⟩; have HB3 := Lib.hid (bThen HB2.out hb); clear hb)
      | (go_at_call 17; with_reducible refine Calls.mono (HK.out _) ?_; rintro e wk ⟨rfl, hb⟩; have HB := Lib.hid hb; clear hb))
    all_goals first
      | (exfalso; omega)
      | (go_ret; exact ⟨rfl, by first | exact bThen HB3.out HB.out | exact bThen HB2.out HB.out⟩)
  have HPP := Lib.hid (ply_parts hp)
  have HTO := Lib.hid (shp_tube hs)
  have HNW := Lib.hid (HNW0.out hs)
  have hlen0 : (x.s.areas ++ x.s.branch).length = x.s.areas.length + x.s.branch.length := List.length_append
  have HGO := Lib.hid (fun (k st : Nat) (f : Nat → Int) (hk : k < 60) (ht : EnK (x.s.areas ++ x.s.branch) k st f) (y : List Fd) => enk_go hs hlen0 HTO.out.ar hk ht y)
  have HRL := Lib.hid (fun (st : Nat) (f : Nat → Int) (hE : enT (x.s.areas ++ x.s.branch) st f ≤ 1000000000000) (h0 : 0 < enT (x.s.areas ++ x.s.branch) st f) => rest_loses hs hlen0 HTO.out.ar hE (T := 2 * (x.s.areas ++ x.s.branch).length + 2) (Nat.le_refl _) h0)
  have HRS := Lib.hid (fun (st : Nat) (f : Nat → Int) (hE : enT (x.s.areas ++ x.s.branch) st f = 0) (t : Nat) => rest_silent hs hlen0 HTO.out.ar hE t)
  have HNN := Lib.hid (fun (st : Nat) (f : Nat → Int) => (en_nonneg (fun i hi => HTO.out.ar i hi) : 0 ≤ enT (x.s.areas ++ x.s.branch) st f))
  have HE0 : Hid (EnK (x.s.areas ++ x.s.branch) 0 0 (fun _ => 0)) := Lib.hid ⟨Nat.le_refl _, by
    have : enT (x.s.areas ++ x.s.branch) 0 (fun _ => 0) = 0 := en_zero fun i hi => ⟨rfl, rfl⟩
    rw [this]; omega⟩
  have HLEN := Lib.hid hlen0
  have hsz := HTO.out.n48
  rw [hp] at HFT
  rw [hs] at HSH
  obtain ⟨al, hal⟩ : ∃ al, x.s.areas ++ x.s.branch = al := ⟨_, rfl⟩
  obtain ⟨ps, hps⟩ : ∃ ps, shpPlaces x.s = ps := ⟨_, rfl⟩
  rw [hal, hps] at HNW HTO HGO HRL
  rw [hps] at HRS
  rw [hal] at HE0 HLEN hsz HRS HNN
  clear HNW0 hp hs hlen0 hal hps
  have h60 := HPP.out.1
  go_enter Try.func6, Try.ntmps6
  go_wp2_with (first
    | (go_at_call 24; with_reducible refine Calls.mono (HFT.out _ HB1.out) ?_; rintro e w2 ⟨rfl, hb⟩; have HB2 := Lib.hid (bThen HB1.out hb); have HX2 := Lib.hid (heap_keep hb HX1.out); obtain ⟨d0, d1, d2, d3, d4, d5, d6, d7, d8, ld⟩ := ply_cells HX2.out; clear hb)
    | (go_at_call 19; with_reducible refine Calls.mono (HSH.out _ HB2.out) ?_; rintro e w3 ⟨rfl, hb⟩; have HB3 := Lib.hid (bThen HB2.out hb); have HX3 := Lib.hid (heap_keep hb HX2.out); obtain ⟨d0, d1, d2, d3, d4, d5, d6, d7, d8, ld⟩ := ply_cells HX3.out; clear hb)
    | (go_at_call 25; with_reducible refine Calls.mono (HNW.out _ HB3.out) ?_; rintro e w4 ⟨⟨tb, wb, rfl, ht⟩, hb⟩; have HB4 := Lib.hid (bThen HB3.out hb); have HT4 := Lib.hid ht; have HX4 := Lib.hid (heap_keep hb HX3.out); clear hb ht))
  all_goals first | (exfalso; omega) | skip
  have HO0 : Hid (One w w4 w3.heap.size tb wb al x.s.areas.length ps 0 (fun _ => 0) w.heap.size _) := Lib.hid (by
    have q3 := HT4.out.1
    have q5 := HB3.out.size
    exact ⟨HT4.out, by omega, HX4.out, HB4.out⟩)
  clear HT4 HX2 HX3 HX4 HX1 HB1 HB2 HB3 HB4 HFT HSH HNW d0 d1 d2 d3 d4 d5 d6 d7 d8 ld
  generalize w3.heap.size = t1 at *
  obtain ⟨bx, hbx⟩ : ∃ bx, w.heap.size = bx := ⟨_, rfl⟩
  rw [hbx]
  have HBX := Lib.hid hbx
  obtain ⟨cs, hcs⟩ : ∃ cs : Array Value, (#[.slice a1 x.s.areas.length c1, .slice a2 x.s.branch.length c2, .int .i64 x.s.joint, .int .i64 x.s.glottis, .int .i64 x.s.lips, .int .i64 x.s.nose, .slice a3 x.feeds.length c3, .slice a4 x.areas.length c4, .slice a5 x.branch.length c5] : Array Value) = cs := ⟨_, rfl⟩
  have HO1 : Hid (One w w4 t1 tb wb al x.s.areas.length ps 0 (fun _ => 0) bx cs) := Lib.hid (by rw [← hbx, ← hcs]; exact HO0.out)
  have HCS := Lib.hid hcs
  clear HO0 hbx hcs
  go_loopw [5] (fun i wr => ∃ (k st : Nat) (f : Nat → Int), k ≤ x.feeds.length ∧ i = .int .i64 k ∧ Hid (EnK al k st f) ∧ Hid (One w wr t1 tb wb al x.s.areas.length ps st f bx cs)) (fun i _ => x.feeds.length - (intOf i).toNat)
  case atStart => exact ⟨0, 0, _, Nat.zero_le _, rfl, HE0, HO1⟩
  case round =>
    clear HO1 HE0
    obtain ⟨k, st, f, hk, rfl, HE, HO⟩ := hrel
    obtain ⟨d0, d1, d2, d3, d4, d5, d6, d7, d8, ld⟩ := ply_cells (by have := HO.out.box; rw [← HCS.out] at this; exact this)
    by_cases hlt : k < x.feeds.length
    · obtain ⟨b, o, c, u, e1, p0, q0, r0⟩ := fds_at HF.out (Below.refl _ _) hlt
      obtain ⟨rfl, -, rfl⟩ := Value.slice.inj e1
      have hlen := HPP.out.2.2.2.1 _ (List.getElem_mem hlt)
      have hkk : (k : Int) < (x.feeds.length : Int) := by omega
      clear e1
      generalize x.feeds[k] = y at *
      have HE3 := Lib.hid (HGO.out k st f (by omega) HE.out y)
      obtain ⟨fa, fc, rfl, hmy, -⟩ := id q0
      have p1 := keep HO.out.low p0
      have p2 := cell_lt p1
      have HS1 := Lib.hid (Step_go HO.out.t HTO.out (by have := HE.out.cnt; omega) y fa fc (q0.keep FdAt.stable HO.out.low) (fun hne p hp => by have := sl_low q0 hne p hp; have := HO.out.lo; omega) (by omega))
      clear q0 p0
      go_wp2_with (go_at_call 31; with_reducible refine Calls.mono HS1.out ?_; rintro e w6 ⟨⟨ea, eb, ec, rfl⟩, ht, hk⟩; have H6 := Lib.hid (HO.out.step ht hk); clear ht hk)
      go_roundw
      case rel => exact ⟨k + 1, _, _, by omega, by go_num, HE3, H6⟩
      case measure => simp [intOf]; omega
    · obtain rfl : k = x.feeds.length := by omega
      have hst := HE.out.cnt
      have hbd : enT al st f ≤ 1000000000000 := by
        have h1 := HE.out.bnd
        have h2 := Int.mul_le_mul (show (500 : Int) * (x.feeds.length : Int) ≤ 30000 by omega) (show (500 : Int) * (x.feeds.length : Int) ≤ 30000 by omega) (by omega) (by omega)
        have h3 := Int.mul_le_mul_of_nonneg_right h2 (show (0 : Int) ≤ 1000 by omega)
        omega
      have HBD := Lib.hid hbd
      have hle := HLEN.out
      obtain ⟨M, hM⟩ : ∃ M, 2 * al.length + 2 = M := ⟨_, rfl⟩
      have hM98 : M ≤ 98 := by omega
      rw [hM] at HRL
      have u1 : IntKind.i64.wrap ((x.s.areas.length : Int) + (x.s.branch.length : Int)) = (al.length : Int) := by rw [IntWalk.i64_in _ (by omega)]; omega
      have u2 : IntKind.i64.wrap (2 * (al.length : Int)) = 2 * (al.length : Int) := IntWalk.i64_in _ (by omega)
      have u3 : IntKind.i64.wrap (2 * (al.length : Int) + 2) = (M : Int) := by rw [IntWalk.i64_in _ (by omega)]; omega
      have HST0 : Hid (st ≤ 60 + 0 * 98) := Lib.hid (by omega)
      have HNL := Lib.hid hle
      clear hbd hle hM
      go_wp2_with fail
      go_loopw [7] (fun i wr => ∃ (r st : Nat) (f : Nat → Int), r ≤ 8 ∧ i = .int .i64 r ∧ Hid (st ≤ 60 + r * 98) ∧ Hid (enT al st f ≤ 1000000000000) ∧ Hid (One w wr t1 tb wb al x.s.areas.length ps st f bx cs)) (fun i _ => 8 - (intOf i).toNat)
      case atStart => exact ⟨0, st, f, Nat.zero_le _, rfl, HST0, HBD, HO⟩
      case round =>
        clear HST0 HBD HO HE d0 d1 d2 d3 d4 d5 d6 d7 d8 ld st f hst
        obtain ⟨r, st, f, hr, rfl, HST, HBD, HO⟩ := hrel
        by_cases hr8 : r < 8
        · have hrr : (r : Int) < 8 := by omega
          have hst := HST.out
          have HEN := Lib.hid (tube_en6 HO.out.t HTO.out (by omega) HBD.out)
          have HRO := Lib.hid (fun (W : World) (hT : One w W t1 tb wb al x.s.areas.length ps st f bx cs) => (Rest_ok hT.t HTO.out M (by omega)).mono fun e w' ⟨h1, h2, h3⟩ => (⟨h1, hT.step h2 h3⟩ : (∃ g, e = Ending.returned (.tuple #[.slice (some ⟨g, 0, none⟩) M M, .int .i64 0]) ∧ W.heap.size ≤ g ∧ w'.rowIs g 51 (M * 2) (fun j => .int .i64 (hdv (quH al x.s.areas.length ps st f) M j))) ∧ One w w' t1 tb wb al x.s.areas.length ps (st + M) (quF al ps st f M) bx cs))
          have h0 : 0 ≤ enT al st f := HNN.out st f
          by_cases hz : enT al st f = 0
          · have hs0 := HRS.out st f hz
            have HSI := Lib.hid hs0
            have HEM := Lib.hid (fun (W : World) (hT : One w W t1 tb wb al x.s.areas.length ps (st + M) (quF al ps st f M) bx cs) => tube_en6 hT.t HTO.out (by omega) (by rw [(hs0 M).1]; omega))
            rw [(hs0 M).1] at HEM
            rw [hz] at HEN
            clear hs0 h0 hz
            go_wp2_with (first
              | (go_at_call 34; with_reducible refine Calls.mono HEN.out ?_; rintro e wa ⟨rfl, hb⟩; have Ha := Lib.hid (HO.out.below hb); clear hb)
              | (go_at_call 35; with_reducible refine Calls.mono (HRO.out _ Ha.out) ?_; rintro e wc ⟨⟨g, rfl, hg, hrow⟩, h7⟩; have H7 := Lib.hid h7; have HRW := Lib.hid hrow; clear h7 hrow hg))
            all_goals first | (exfalso; omega) | skip
            go_loopw [11] (fun i wr => ∃ t : Nat, t ≤ M ∧ i = .int .i64 t ∧ Hid (Below wc.heap.size wc wr)) (fun i _ => M - (intOf i).toNat)
            case atStart => exact ⟨0, Nat.zero_le _, rfl, Lib.hid (Below.refl _ _)⟩
            case round =>
              obtain ⟨t, ht, rfl, HBT⟩ := hrel
              by_cases htl : t < M
              · have hr8 := rowB HRW.out HBT.out
                have x0 := hr8.cell (i := t * 2) (by omega)
                have x1 := hr8.cell (i := t * 2 + 1) (by omega)
                have x2 := hr8.lt
                have e0 : hdv (quH al x.s.areas.length ps st f) M (t * 2) = 0 := by unfold hdv; rw [if_pos (by omega), if_pos (by omega), show t * 2 / 2 = t by omega, (HSI.out t).2]
                have e1 : hdv (quH al x.s.areas.length ps st f) M (t * 2 + 1) = 0 := by unfold hdv; rw [if_pos (by omega), if_neg (by omega), show (t * 2 + 1) / 2 = t by omega, (HSI.out t).2]
                rw [e0] at x0
                rw [e1] at x1
                have htt : (t : Int) < (M : Int) := by omega
                clear e0 e1 hr8
                go_wp2_with fail
                all_goals first | (exfalso; omega) | skip
                go_roundw
                case rel => exact ⟨t + 1, by omega, by go_num, HBT⟩
                case measure => simp [intOf]; omega
              · obtain rfl : t = M := by omega
                have H8 := Lib.hid (H7.out.below HBT.out)
                go_wp2_with (first
                  | (go_at_call 34; with_reducible refine Calls.mono (HEM.out _ H8.out) ?_; rintro e wd ⟨rfl, hb⟩; have Hd := Lib.hid (H8.out.below hb); clear hb)
                  | (go_at_call 17; with_reducible refine Calls.mono (HK.out _) ?_; rintro e wk ⟨rfl, hb⟩; have HBK := Lib.hid hb; clear hb))
                all_goals first | (exfalso; omega) | skip
                go_ret
                exact ⟨rfl, by (try rw [← HBX.out]); exact bThen Hd.out.low HBK.out⟩
          · have hlo := HRL.out st f HBD.out (by omega)
            have HEM := Lib.hid (fun (W : World) (hT : One w W t1 tb wb al x.s.areas.length ps (st + M) (quF al ps st f M) bx cs) => tube_en6 hT.t HTO.out (by omega) (by have := HBD.out; omega))
            have HBD2 : Hid (enT al (st + M) (quF al ps st f M) ≤ 1000000000000) := Lib.hid (by have := HBD.out; omega)
            obtain ⟨E0, hE0⟩ : ∃ E, enT al st f = E := ⟨_, rfl⟩
            obtain ⟨E1, hE1⟩ : ∃ E, enT al (st + M) (quF al ps st f M) = E := ⟨_, rfl⟩
            rw [hE0] at HEN h0 hz hlo
            rw [hE1] at HEM hlo
            have g1 : E0 > 0 := by omega
            have g2 : ¬ E1 ≥ E0 := by omega
            clear hE0 hE1 h0 hz hlo
            go_wp2_with (first
              | (go_at_call 34; with_reducible refine Calls.mono HEN.out ?_; rintro e wa ⟨rfl, hb⟩; have Ha := Lib.hid (HO.out.below hb); clear hb)
              | (go_at_call 35; with_reducible refine Calls.mono (HRO.out _ Ha.out) ?_; rintro e wc ⟨⟨g, rfl, hg, hrow⟩, h7⟩; have H7 := Lib.hid h7; clear h7 hrow hg)
              | (go_at_call 34; with_reducible refine Calls.mono (HEM.out _ H7.out) ?_; rintro e wd ⟨rfl, hb⟩; have Hd := Lib.hid (H7.out.below hb); clear hb))
            all_goals first | (exfalso; omega) | skip
            go_roundw
            case rel => exact ⟨r + 1, _, _, by omega, by go_num, Lib.hid (by have := HST.out; omega), HBD2, Hd⟩
            case measure => simp [intOf]; omega
        · obtain rfl : r = 8 := by omega
          go_wp2_with (go_at_call 17; with_reducible refine Calls.mono (HK.out _) ?_; rintro e wk ⟨rfl, hb⟩; have HBK := Lib.hid hb; clear hb)
          all_goals first | (exfalso; omega) | skip
          go_ret
          exact ⟨rfl, by (try rw [← HBX.out]); exact bThen HO.out.low HBK.out⟩
end Go.Proofs.Ytbmbcbknoflpgaa
