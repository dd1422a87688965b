/- The law of energy. -/
import Derived.Test.YtbmbcbknoflpgaaQM
import Derived.Test.YtbmbcbknoflpgaaOM
import Derived.Deep.CutRange
import Derived.Deep.RegionWith
import Derived.StillTailTactics
set_option linter.unusedSimpArgs false
set_option linter.unusedVariables false
namespace Go.Proofs.Ytbmbcbknoflpgaa
open Go.RowKit

/-- One tube, and the box of its play. -/
structure One (w W : World) (b1 tb wb : Nat) (al : List Int) (main : Nat) (ps : List Plc) (st : Nat) (f : Nat → Int) (bx : Nat) (cs : Array Value) : Prop where
  t : TubeIs b1 W tb al main ps st wb f
  lo : w.heap.size ≤ tb ∧ w.heap.size ≤ wb
  box : W.heap[bx]? = some (.cells cs 39 (0, 0))
  low : Below w.heap.size w W
theorem One.below {w W W' : World} {b1 tb wb main st bx : Nat} {al : List Int} {ps : List Plc} {f : Nat → Int} {cs : Array Value} (h : One w W b1 tb wb al main ps st f bx cs) (hB : Below W.heap.size W W') : One w W' b1 tb wb al main ps st f bx cs :=
  ⟨h.1.below hB, h.2, heap_keep hB h.3, bThen h.4 hB⟩
theorem One.step {w W W' : World} {b1 tb wb main st st3 bx : Nat} {al cl : List Int} {ps : List Plc} {f f3 : Nat → Int} {cs : Array Value} (h : One w W b1 tb wb al main ps st f bx cs) (ht : TubeIs b1 W' tb cl main ps st3 wb f3) (hk : Kept W W' wb tb) : One w W' b1 tb wb cl main ps st3 f3 bx cs := by
  have h1 := h.3
  obtain ⟨-, ⟨_, _, _, _, kb, -, -, -⟩, kw⟩ := h.1
  exact ⟨ht, h.2, hk.heap h1 (box_ne h1 kw (by decide)) (fun e => by subst e; rw [h1] at kb; simp at kb), h.4.trans (hk.below h.4.size h.2.2 h.2.1)⟩
/-- A step with any feeds, whatever is heard; what is refused is told. -/
theorem Step_err {base tb main st wb : Nat} {w : World} {al : List Int} {ps : List Plc} {f : Nat → Int} (h : TubeIs base w tb al main ps st wb f) (ok : TubeOk al main ps) (hst : st < 100000) (fl : List Fd) (fa : Option Addr) (fc : Nat) (hfl : SliceV w (.slice fa fl.length fc) 2 FdAt fl) (hfb : fl ≠ [] → ∀ p, fa = some p → p.block ≠ wb) (hfn : fl.length ≤ 1000) (b : Bool) (hb : fdOk main fl = b) :
    Calls Try.prog 31 #[.pointer (some ⟨tb, 0, none⟩), .slice fa fl.length fc] w fun e w' => (∃ a c : Int, e = .returned (.tuple #[.agg #[.int .i64 a, .int .i64 c], .int .i64 (if b = true then 0 else 2)])) ∧ TubeIs base w' tb al main ps (if b = true then st + 1 else st) wb (if b = true then nxtF al ps st fl f else f) ∧ Kept w w' wb tb := by
  cases b
  · exact (Step_bad h ok fl _ hfl hb).mono fun e w' ⟨a, b⟩ => ⟨⟨_, _, a⟩, h.below b, kept_of_grown (gb_below b _)⟩
  · exact (Step_ok h ok hst fl fa fc hfl hfb hb hfn).mono fun e w' ⟨a, b, c⟩ => ⟨⟨_, _, a⟩, b, c⟩
set_option maxRecDepth 10000 in
set_option maxHeartbeats 8000000 in
theorem law5_any (x : Ply) (va vb vf vA vB : Value) (w : World) (hk : ∀ w, Calls Try.prog 17 #[] w fun e w' => e = .returned (.bool true) ∧ Below w.heap.size w w') (h : PlyV w va vb vf vA vB x) :
    Calls Try.prog 5 #[.agg #[va, vb, .int .i64 x.s.joint, .int .i64 x.s.glottis, .int .i64 x.s.lips, .int .i64 x.s.nose, vf, vA, vB]] w fun e w' => e = .returned (.bool true) ∧ Below w.heap.size w w' := by
  have HK := Lib.hid hk
  have HFT := Lib.hid (fun W (hB : Below w.heap.size w W) => fits_any x va vb vf vA vB W (h.keep hB))
  have HSH := Lib.hid (fun W (hB : Below w.heap.size w W) => refShape_any x.s va vb W (h.1.keep IntAt.stable hB) (h.2.keep IntAt.stable hB))
  have HNW0 := Lib.hid (fun (hs : shpOk x.s = true) W (hB : Below w.heap.size w W) => New_ok x.s va vb W (h.1.keep IntAt.stable hB) (h.2.keep IntAt.stable hB) hs)
  obtain ⟨h1, h2, h3, h4, h5⟩ := h
  have HF := Lib.hid h3
  have HSA := Lib.hid h1
  have HAA := Lib.hid h4
  have HBB := Lib.hid h5
  obtain ⟨a1, c1, rfl, -⟩ := h1
  obtain ⟨a2, c2, rfl, -⟩ := h2
  obtain ⟨a3, c3, rfl, hm3, -⟩ := h3
  obtain ⟨a4, c4, rfl, hm4, -⟩ := h4
  obtain ⟨a5, c5, rfl, hm5, -⟩ := h5
  unfold most at hm3 hm4 hm5
  have HB1 := Lib.hid (bAlloc (Below.refl w.heap.size w) (.cells #[.slice a1 x.s.areas.length c1, .slice a2 x.s.branch.length c2, .int .i64 x.s.joint, .int .i64 x.s.glottis, .int .i64 x.s.lips, .int .i64 x.s.nose, .slice a3 x.feeds.length c3, .slice a4 x.areas.length c4, .slice a5 x.branch.length c5] 39))
  have HX1 := Lib.hid (World.alloc_heap_new w (.cells #[.slice a1 x.s.areas.length c1, .slice a2 x.s.branch.length c2, .int .i64 x.s.joint, .int .i64 x.s.glottis, .int .i64 x.s.lips, .int .i64 x.s.nose, .slice a3 x.feeds.length c3, .slice a4 x.areas.length c4, .slice a5 x.branch.length c5] 39))
  clear hk
  cases hp : plyOk x
  · rw [hp] at HFT
    clear HNW0 HF hp
    go_enter Try.func5, Try.ntmps5
    go_wp2_with (first
      | (go_at_call 24; with_reducible refine Calls.mono (HFT.out _ HB1.out) ?_; rintro e w2 ⟨rfl, hb⟩; have HB2 := Lib.hid (bThen HB1.out hb); have HX2 := Lib.hid (heap_keep hb HX1.out); obtain ⟨d0, d1, d2, d3, d4, d5, d6, d7, d8, ld⟩ := ply_cells HX2.out; clear hb)
      | (go_at_call 19; with_reducible refine Calls.mono (HSH.out _ HB2.out) ?_; rintro e w3 ⟨rfl, hb⟩; have HB3 := Lib.hid (bThen HB2.out hb); clear hb)
      | (go_at_call 17; with_reducible refine Calls.mono (HK.out _) ?_; rintro e wk ⟨rfl, hb⟩; have HB := Lib.hid hb; clear hb))
    all_goals first
      | (exfalso; omega)
      | (go_ret; exact ⟨rfl, by first | exact bThen HB3.out HB.out | exact bThen HB2.out HB.out⟩)
  cases hs : shpOk x.s
  · rw [hp] at HFT
    rw [hs] at HSH
    clear HNW0 HF hp hs
    go_enter Try.func5, Try.ntmps5
    go_wp2_with (first
      | (go_at_call 24; with_reducible refine Calls.mono (HFT.out _ HB1.out) ?_; rintro e w2 ⟨rfl, hb⟩; have HB2 := Lib.hid (bThen HB1.out hb); have HX2 := Lib.hid (heap_keep hb HX1.out); obtain ⟨d0, d1, d2, d3, d4, d5, d6, d7, d8, ld⟩ := ply_cells HX2.out; clear hb)
      | (go_at_call 19; with_reducible refine Calls.mono (HSH.out _ HB2.out) ?_; rintro e w3 ⟨rfl, hb⟩; have HB3 := Lib.hid (bThen HB2.out hb); clear hb)
      | (go_at_call 17; with_reducible refine Calls.mono (HK.out _) ?_; rintro e wk ⟨rfl, hb⟩; have HB := Lib.hid hb; clear hb))
    all_goals first
      | (exfalso; omega)
      | (go_ret; exact ⟨rfl, by first | exact bThen HB3.out HB.out | exact bThen HB2.out HB.out⟩)
  have HPP := Lib.hid (ply_parts hp)
  have HTO := Lib.hid (shp_tube hs)
  have HNW := Lib.hid (HNW0.out hs)
  have HSS := Lib.hid hs
  have hlen0 : (x.s.areas ++ x.s.branch).length = x.s.areas.length + x.s.branch.length := List.length_append
  have hen0 : ∀ al : List Int, enT al 0 (fun _ => 0) = 0 := fun al => by
    unfold enT en
    have h := sm_congr (g := fun i => al.getD i 0 * ((0 : Int) * 0) + al.getD i 0 * ((0 : Int) * 0)) (h := fun i => (0 : Int) * 0) (n := al.length) (fun j _ => by omega)
    rw [h, sm_mul 0 (fun _ => 0)]
    omega
  have HE0 : Hid (EnIs x.s 0 0 (x.s.areas ++ x.s.branch) (fun _ => 0) 0 0) := Lib.hid ⟨hlen0, HTO.out, Nat.le_refl _, by omega, by omega, by rw [hen0]; omega⟩
  have HEN0 := Lib.hid hen0
  rw [hp] at HFT
  rw [hs] at HSH
  clear HNW0 hp hs hlen0 hen0
  have h60 := HPP.out.1
  go_enter Try.func5, Try.ntmps5
  go_wp2_with (first
    | (go_at_call 24; with_reducible refine Calls.mono (HFT.out _ HB1.out) ?_; rintro e w2 ⟨rfl, hb⟩; have HB2 := Lib.hid (bThen HB1.out hb); have HX2 := Lib.hid (heap_keep hb HX1.out); obtain ⟨d0, d1, d2, d3, d4, d5, d6, d7, d8, ld⟩ := ply_cells HX2.out; clear hb)
    | (go_at_call 19; with_reducible refine Calls.mono (HSH.out _ HB2.out) ?_; rintro e w3 ⟨rfl, hb⟩; have HB3 := Lib.hid (bThen HB2.out hb); have HX3 := Lib.hid (heap_keep hb HX2.out); obtain ⟨d0, d1, d2, d3, d4, d5, d6, d7, d8, ld⟩ := ply_cells HX3.out; clear hb)
    | (go_at_call 25; with_reducible refine Calls.mono (HNW.out _ HB3.out) ?_; rintro e w4 ⟨⟨tb, wb, rfl, ht⟩, hb⟩; have HB4 := Lib.hid (bThen HB3.out hb); have HT4 := Lib.hid ht; have HX4 := Lib.hid (heap_keep hb HX3.out); have HEE := Lib.hid (tube_en ht HTO.out (by omega) (by rw [HEN0.out]; omega)); rw [HEN0.out] at HEE; clear hb ht)
    | (go_at_call 34; with_reducible refine Calls.mono HEE.out ?_; rintro e w5 ⟨rfl, hb⟩; have HB5 := Lib.hid (bThen HB4.out hb); have HT5 := Lib.hid (HT4.out.below hb); have HX5 := Lib.hid (heap_keep hb HX4.out); obtain ⟨d0, d1, d2, d3, d4, d5, d6, d7, d8, ld⟩ := ply_cells HX5.out; clear hb))
  all_goals first | (exfalso; omega) | skip
  have HO0 : Hid (One w w5 w3.heap.size tb wb (x.s.areas ++ x.s.branch) x.s.areas.length (shpPlaces x.s) 0 (fun _ => 0) w.heap.size _) := Lib.hid (by
    have q3 := HT4.out.1
    have q5 := HB3.out.size
    exact ⟨HT5.out, by omega, HX5.out, HB5.out⟩)
  clear HT4 HT5 HX2 HX3 HX4 HX5 HX1 HB1 HB2 HB3 HB4 HB5 HFT HSH HNW HEE d0 d1 d2 d3 d4 d5 d6 d7 d8 ld HEN0
  generalize w3.heap.size = t1 at *
  obtain ⟨bx, hbx⟩ : ∃ bx, w.heap.size = bx := ⟨_, rfl⟩
  rw [hbx]
  have HBX := Lib.hid hbx
  obtain ⟨cs, hcs⟩ : ∃ cs : Array Value, (#[.slice a1 x.s.areas.length c1, .slice a2 x.s.branch.length c2, .int .i64 x.s.joint, .int .i64 x.s.glottis, .int .i64 x.s.lips, .int .i64 x.s.nose, .slice a3 x.feeds.length c3, .slice a4 x.areas.length c4, .slice a5 x.branch.length c5] : Array Value) = cs := ⟨_, rfl⟩
  have HO1 : Hid (One w w5 t1 tb wb (x.s.areas ++ x.s.branch) x.s.areas.length (shpPlaces x.s) 0 (fun _ => 0) bx cs) := Lib.hid (by rw [← hbx, ← hcs]; exact HO0.out)
  have HCS := Lib.hid hcs
  have HTK0 : Hid ((x.s.areas ++ x.s.branch).take x.s.areas.length = x.s.areas) := Lib.hid (by simp)
  clear HO0 hbx hcs HTO
  go_loopw [8, 5, 6, 7] (fun i p q nw wr => ∃ (k st : Nat) (al : List Int) (f : Nat → Int) (P K : Int) (l : List Int) (na : Option Addr) (nc : Nat), k ≤ x.feeds.length ∧ i = .int .i64 k ∧ p = .int .i64 P ∧ q = .int .i64 K ∧ nw = .slice na l.length nc ∧ Hid (EnIs x.s k st al f P K) ∧ Hid (One w wr t1 tb wb al x.s.areas.length (shpPlaces x.s) st f bx cs) ∧ Hid (SliceV w (.slice na l.length nc) 1 IntAt l) ∧ Hid (al.take x.s.areas.length = l)) (fun i _ _ _ _ => x.feeds.length - (intOf i).toNat)
  case atStart => exact ⟨0, 0, _, _, 0, 0, x.s.areas, a1, c1, Nat.zero_le _, rfl, rfl, rfl, rfl, HE0, HO1, HSA, HTK0⟩
  case round =>
    clear HO1 HE0 HTK0
    obtain ⟨k, st, al, f, P, K, l, na, nc, hk, rfl, rfl, rfl, rfl, HE, HO, HL, HTK⟩ := hrel
    obtain ⟨d0, d1, d2, d3, d4, d5, d6, d7, d8, ld⟩ := ply_cells (by have := HO.out.box; rw [← HCS.out] at this; exact this)
    by_cases hlt : k < x.feeds.length
    · have hkk : (k : Int) < (x.feeds.length : Int) := by omega
      have hmid := HE.out.mid (by omega)
      have HEN := Lib.hid (tube_en HO.out.t HE.out.ok (by have := HE.out.cnt; omega) hmid.1)
      obtain ⟨E0, hE0⟩ : ∃ E, enT al st f = E := ⟨_, rfl⟩
      have HEE0 := Lib.hid hE0
      rw [hE0] at HEN hmid
      clear hE0
      go_wp2_with (go_at_call 34; with_reducible refine Calls.mono HEN.out ?_; rintro e w6 ⟨rfl, hb⟩; have H6 := Lib.hid (HO.out.below hb); obtain ⟨d0, d1, d2, d3, d4, d5, d6, d7, d8, ld⟩ := ply_cells (by have := H6.out.box; rw [← HCS.out] at this; exact this); clear hb)
      clear HEN
      go_cut [80] from 45 to 169 (fun c wc => ∃ (cb : Bool) (al' : List Int) (f' : Nat → Int), c = .bool cb ∧ Hid (EnIs x.s k st al' f' P K) ∧ Hid (One w wc t1 tb wb al' x.s.areas.length (shpPlaces x.s) st f' bx cs) ∧ Hid (enT al' st f' ≤ E0) ∧ Hid (cb = false → al' = al) ∧ Hid (cb = true → k < x.areas.length ∧ al'.take x.s.areas.length = x.areas.getD k []))
      case first =>
        have HE1 := Lib.hid (Int.le_of_eq HEE0.out)
        by_cases hka : k < x.areas.length
        · have hka1 : (k : Int) < (x.areas.length : Int) := by omega
          by_cases hkb : k < x.branch.length
          · have hkb1 : (k : Int) < (x.branch.length : Int) := by omega
            obtain ⟨b7, o7, c7, u7, e7, p7, q7, r7⟩ := wav_at HAA.out (Below.refl _ _) hka
            obtain ⟨rfl, -, rfl⟩ := Value.slice.inj e7
            obtain ⟨b8, o8, c8, u8, e8, p8, q8, r8⟩ := wav_at HBB.out (Below.refl _ _) hkb
            obtain ⟨rfl, -, rfl⟩ := Value.slice.inj e8
            have hgd : x.areas.getD k [] = x.areas[k] := by rw [List.getD_eq_getElem?_getD, List.getElem?_eq_getElem hka]; rfl
            obtain ⟨l1, hl1⟩ : ∃ l1, x.areas[k] = l1 := ⟨_, rfl⟩
            obtain ⟨l2, hl2⟩ : ∃ l2, x.branch[k] = l2 := ⟨_, rfl⟩
            rw [hl1] at q7 hgd
            rw [hl2] at q8
            have HGD := Lib.hid hgd
            obtain ⟨ua, uc, rfl, -⟩ := id q7
            obtain ⟨va, vc, rfl, -⟩ := id q8
            have x7 := keep H6.out.low p7
            have x8 := keep H6.out.low p8
            have y7 := cell_lt x7
            have y8 := cell_lt x8
            have HKA := Lib.hid hka
            have Q7 := Lib.hid q7
            have Q8 := Lib.hid q8
            clear e7 e8 p7 p8 q7 q8 r7 r8 hl1 hl2 hgd
            cases hch : chgOk al.length x.s.areas.length l1 l2
            · have HCB := Lib.hid (fun y : BW w6 => Change_bad (H6.out.t.below y.2) HE.out.ok l1 l2 _ _ (Q7.out.keep IntAt.stable (bThen H6.out.low y.2)) (Q8.out.keep IntAt.stable (bThen H6.out.low y.2)) hch)
              clear hch
              (refine wp_region_below (by kernel_rfl) (by kernel_rfl) ?_; (repeat (first | go_big_quiet_step (with_reducible exact toB HCB.out _) | quiet_step (with_reducible exact toB HCB.out _))); (refine wpQuiet_nil ?_; intro _ hw'; obtain ⟨xq, hw''⟩ := hw'; subst hw''))
              have HX := Lib.hid xq.2
              generalize xq.val = W7 at *
              go_wp2_with fail
              go_meet
              case rel => exact ⟨false, al, f, rfl, HE, Lib.hid (H6.out.below HX.out), HE1, Lib.hid (fun _ => rfl), Lib.hid (fun h => by cases h)⟩
            · obtain ⟨he1, he2, he3⟩ := HE.out.change (by omega) hch
              have HE2 := Lib.hid he1
              have HE3 := Lib.hid (Int.le_trans he2 HE1.out)
              have HTK2 : Hid ((l1 ++ l2).take x.s.areas.length = x.areas.getD k []) := Lib.hid (by rw [← he3, HGD.out]; simp)
              have HCO : Hid (∀ W, Below w6.heap.size w6 W → Calls Try.prog 27 #[.pointer (some ⟨tb, 0, none⟩), .slice ua l1.length uc, .slice va l2.length vc] W fun e w' => e = .returned (.int .i64 0) ∧ One w w' t1 tb wb (l1 ++ l2) x.s.areas.length (shpPlaces x.s) st (chF al (l1 ++ l2) (offO al.length st) al.length f) bx cs) := Lib.hid (fun W hB => (Change_ok (H6.out.t.below hB) HE.out.ok (by have := HE.out.cnt; omega) l1 l2 _ _ (Q7.out.keep IntAt.stable (bThen H6.out.low hB)) (Q8.out.keep IntAt.stable (bThen H6.out.low hB)) hch).mono fun e w' ⟨h1, h2, h3⟩ => ⟨h1, (H6.out.below hB).step h2 h3⟩)
              clear hch he1 he2 he3
              clear HKA
              go_still_tail 24, (by kernel_rfl)
              change wpList _ _ _ _ _ (World.drew _)
              generalize hW : World.drew _ = w7
              have HB7 : Hid (Below w6.heap.size w6 w7) := Lib.hid (by rw [← hW]; exact (Below.refl _ _).drew)
              clear hW
              go_wp2_with (go_at_call 27; with_reducible refine Calls.mono (HCO.out _ HB7.out) ?_; rintro e w8 ⟨rfl, h8⟩; have H8 := Lib.hid h8; clear h8)
              go_meet
              case rel => exact ⟨true, l1 ++ l2, _, rfl, HE2, H8, HE3, Lib.hid (fun h => by cases h), Lib.hid (fun _ => ⟨by omega, HTK2.out⟩)⟩
          · have hkb1 : ¬ (k : Int) < (x.branch.length : Int) := by omega
            (refine wp_region_below (by kernel_rfl) (by kernel_rfl) ?_; (repeat (first | go_big_quiet_step (fail) | quiet_step (fail))); (refine wpQuiet_nil ?_; intro _ hw'; obtain ⟨xq, hw''⟩ := hw'; subst hw''))
            have HX := Lib.hid xq.2
            generalize xq.val = W7 at *
            go_wp2_with fail
            go_meet
            case rel => exact ⟨false, al, f, rfl, HE, Lib.hid (H6.out.below HX.out), HE1, Lib.hid (fun _ => rfl), Lib.hid (fun h => by cases h)⟩
        · have hka1 : ¬ (k : Int) < (x.areas.length : Int) := by omega
          (refine wp_region_below (by kernel_rfl) (by kernel_rfl) ?_; (repeat (first | go_big_quiet_step (fail) | quiet_step (fail))); (refine wpQuiet_nil ?_; intro _ hw'; obtain ⟨xq, hw''⟩ := hw'; subst hw''))
          have HX := Lib.hid xq.2
          generalize xq.val = W7 at *
          go_wp2_with fail
          go_meet
          case rel => exact ⟨false, al, f, rfl, HE, Lib.hid (H6.out.below HX.out), HE1, Lib.hid (fun _ => rfl), Lib.hid (fun h => by cases h)⟩
      case rest =>
        obtain ⟨cb, al', f', rfl, HE', HO', HLE, HF0, HF1⟩ := hcut
        clear H6 HO HE d0 d1 d2 d3 d4 d5 d6 d7 d8 ld HEE0
        obtain ⟨d0, d1, d2, d3, d4, d5, d6, d7, d8, ld⟩ := ply_cells (by have := HO'.out.box; rw [← HCS.out] at this; exact this)
        obtain ⟨b, o, c, u, e1, p0, q0, r0⟩ := fds_at HF.out (Below.refl _ _) hlt
        obtain ⟨rfl, -, rfl⟩ := Value.slice.inj e1
        have hlen := HPP.out.2.2.2.1 _ (List.getElem_mem hlt)
        clear e1
        generalize x.feeds[k] = y at *
        obtain ⟨fa, fc, rfl, hmy, -⟩ := id q0
        have Q0 := Lib.hid q0
        have P0 := Lib.hid p0
        have HLN := Lib.hid hlen
        clear q0 p0 r0 hmy
        have hmd := HE'.out.mid (by omega)
        have hle := HLE.out
        have hcnt := HE'.out.cnt
        have HEG := Lib.hid (fun (W : World) (hT : One w W t1 tb wb al' x.s.areas.length (shpPlaces x.s) st f' bx cs) => tube_en hT.t HE'.out.ok (by omega) hmd.1)
        obtain ⟨E1, hE1⟩ : ∃ E, enT al' st f' = E := ⟨_, rfl⟩
        have HEE1 := Lib.hid hE1
        rw [hE1] at HEG hmd hle
        clear hE1
        have g1 : ¬ E1 > E0 := by omega
        have g2 : ¬ E1 < 0 := by omega
        have g3 : (E1 == E1) = true := by simp
        have HST := Lib.hid (fun (bo : Bool) (hbo : fdOk x.s.areas.length y = bo) (W : World) (hT : One w W t1 tb wb al' x.s.areas.length (shpPlaces x.s) st f' bx cs) => (Step_err hT.t HE'.out.ok (by omega) y fa fc (Q0.out.keep FdAt.stable hT.low) (fun hne p hp => by have := sl_low Q0.out hne p hp; have := hT.lo; omega) (by omega) bo hbo).mono fun e w' ⟨h1, h2, h3⟩ => (⟨h1, hT.step h2 h3⟩ : (∃ a c : Int, e = Ending.returned (.tuple #[.agg #[.int .i64 a, .int .i64 c], .int .i64 (if bo = true then 0 else 2)])) ∧ One w w' t1 tb wb al' x.s.areas.length (shpPlaces x.s) (if bo = true then st + 1 else st) (if bo = true then nxtF al' (shpPlaces x.s) st y f' else f') bx cs))
        cases cb
        · obtain rfl := HF0.out rfl
          cases hfd : fdOk x.s.areas.length y
          · have HSF := Lib.hid (HST.out false hfd)
            simp only [Bool.false_eq_true, if_false] at HSF
            clear HST hfd
            go_wp2_with (first
              | (go_at_call 34; with_reducible refine Calls.mono (HEG.out _ HO'.out) ?_; rintro e wa ⟨rfl, hb⟩; have Ha := Lib.hid (HO'.out.below hb); clear hb)
              | (go_at_call 34; with_reducible refine Calls.mono (HEG.out _ Ha.out) ?_; rintro e wb' ⟨rfl, hb⟩; have Hb := Lib.hid (Ha.out.below hb); clear hb)
              | (go_at_call 34; with_reducible refine Calls.mono (HEG.out _ Hb.out) ?_; rintro e wd ⟨rfl, hb⟩; have Hd := Lib.hid (Hb.out.below hb); obtain ⟨d0, d1, d2, d3, d4, d5, d6, d7, d8, ld⟩ := ply_cells (by have := Hd.out.box; rw [← HCS.out] at this; exact this); have p1 := keep Hd.out.low P0.out; have p2 := cell_lt p1; clear hb)
              | (go_at_call 31; with_reducible refine Calls.mono (HSF.out _ Hd.out) ?_; rintro e we ⟨⟨ra, rb, rfl⟩, he⟩; have He := Lib.hid (he.below (bAlloc (Below.refl we.heap.size we) (.cells #[.int .i64 ra, .int .i64 rb] 51))); clear he)
              | (go_at_call 34; with_reducible refine Calls.mono (HEG.out _ He.out) ?_; rintro e wf ⟨rfl, hb⟩; have Hf := Lib.hid (He.out.below hb); clear hb))
            all_goals first | (exfalso; omega) | skip
            have HE3 := Lib.hid HE'.out.skip
            go_roundw
            case rel =>
              first
                | exact ⟨k + 1, st, al', f', P, K, l, na, nc, by omega, by go_num, rfl, rfl, rfl, HE3, Hf, HL, HTK⟩
                | ((repeat apply Exists.intro); refine ⟨?_, rfl⟩; exact ⟨k + 1, st, al', f', P, K, l, na, nc, by omega, by go_num, rfl, rfl, rfl, HE3, Hf, HL, HTK⟩)
            case measure => simp [intOf]; omega
          · have HSF := Lib.hid (HST.out true hfd)
            simp only [if_true] at HSF
            have HFD := Lib.hid hfd
            have HFG := Lib.hid (fdOk_parts hfd)
            have hpos := HE'.out.pos
            have htop := HE'.out.top
            have hnl : l.length = x.s.areas.length := by rw [← HTK.out, List.length_take]; have := HE'.out.ok.mn; omega
            have HNL := Lib.hid hnl
            clear HST hfd hnl
            go_wp2_with (first
              | (go_at_call 34; with_reducible refine Calls.mono (HEG.out _ HO'.out) ?_; rintro e wa ⟨rfl, hb⟩; have Ha := Lib.hid (HO'.out.below hb); clear hb)
              | (go_at_call 34; with_reducible refine Calls.mono (HEG.out _ Ha.out) ?_; rintro e wb' ⟨rfl, hb⟩; have Hb := Lib.hid (Ha.out.below hb); clear hb)
              | (go_at_call 34; with_reducible refine Calls.mono (HEG.out _ Hb.out) ?_; rintro e wd ⟨rfl, hb⟩; have Hd := Lib.hid (Hb.out.below hb); obtain ⟨d0, d1, d2, d3, d4, d5, d6, d7, d8, ld⟩ := ply_cells (by have := Hd.out.box; rw [← HCS.out] at this; exact this); have p1 := keep Hd.out.low P0.out; have p2 := cell_lt p1; clear hb)
              | (go_at_call 31; with_reducible refine Calls.mono (HSF.out _ Hd.out) ?_; rintro e we ⟨⟨ra, rb, rfl⟩, he⟩; have He := Lib.hid (he.below (bAlloc (Below.refl we.heap.size we) (.cells #[.int .i64 ra, .int .i64 rb] 51))); clear he))
            all_goals first | (exfalso; omega) | skip
            obtain ⟨F2, hF2⟩ : ∃ F2, nxtF al' (shpPlaces x.s) st y f' = F2 := ⟨_, rfl⟩
            have HF2 := Lib.hid hF2
            rw [hF2] at He
            clear hF2 p1 p2 d0 d1 d2 d3 d4 d5 d6 d7 d8 ld Ha Hb Hd HSF
            go_loopw [13, 5, 6, 12] (fun i p q lb wr => ∃ (t : Nat) (K2 : Int) (bl : Bool), t ≤ y.length ∧ i = .int .i64 t ∧ p = .int .i64 (P + (fdSum (y.take t) : Nat)) ∧ q = .int .i64 K2 ∧ lb = .bool bl ∧ Hid (K ≤ K2 ∧ K2 ≤ 1000 ∧ ∀ z ∈ y.take t, al'.getD z.sec.toNat 0 ≤ K2) ∧ Hid (bl = false → ∀ z ∈ y.take t, z.amt = 0) ∧ Hid (One w wr t1 tb wb al' x.s.areas.length (shpPlaces x.s) (st + 1) F2 bx cs)) (fun i _ _ _ _ => y.length - (intOf i).toNat)
            case atStart => exact ⟨0, K, false, Nat.zero_le _, rfl, by simp [fdSum], rfl, rfl, Lib.hid ⟨Int.le_refl _, htop.2, by simp⟩, Lib.hid (by simp), He⟩
            case round =>
              clear He
              obtain ⟨t, K2, bl, ht, rfl, rfl, rfl, rfl, HKK, HBL, HO2⟩ := hrel
              obtain ⟨d0, d1, d2, d3, d4, d5, d6, d7, d8, ld⟩ := ply_cells (by have := HO2.out.box; rw [← HCS.out] at this; exact this)
              have p1 := keep HO2.out.low P0.out
              have p2 := cell_lt p1
              by_cases htl : t < y.length
              · have htt : (t : Int) < (y.length : Int) := by omega
                obtain ⟨b2, o2, rfl, hf⟩ := (Q0.out.keep FdAt.stable HO2.out.low).at (by intro h; simp [h] at htl)
                obtain ⟨k0, k1⟩ := hf t htl
                have HTT : Hid (y.take (t + 1) = y.take t ++ [y[t]]) := Lib.hid (take_succ y t htl)
                have hz := HFG.out.1.1 y[t] (List.getElem_mem htl)
                have HSM : Hid (fdSum (y.take (t + 1)) = fdSum (y.take t) + y[t].amt.natAbs) := Lib.hid (by rw [HTT.out, fdSum_snoc])
                have hsl := fdSum_le (fdGood_take HFG.out.1 t)
                rw [List.length_take_of_le ht] at hsl
                clear hf
                generalize y[t] = z at *
                obtain ⟨zs, zv⟩ := z
                unfold IntAt at k0 k1
                simp only at k0 k1 hz HSM
                have k2 := cell_lt k0
                obtain ⟨s, rfl⟩ : ∃ s : Nat, zs = (s : Int) := ⟨zs.toNat, by omega⟩
                obtain ⟨b9, o9, rfl, hf9⟩ := (HL.out.keep IntAt.stable HO2.out.low).at (by intro h; have h2 := HNL.out; rw [h] at h2; simp at h2; omega)
                have k9 := hf9 s (by have := HNL.out; omega)
                unfold IntAt at k9
                rw [Nat.mul_one, ← gI] at k9
                have hav : l.getD s 0 = al'.getD s 0 := by rw [← HTK.out, List.getD_eq_getElem?_getD, List.getElem?_take, if_pos (by omega), ← List.getD_eq_getElem?_getD]
                obtain ⟨av, hva⟩ : ∃ av, al'.getD s 0 = av := ⟨_, rfl⟩
                rw [hav, hva] at k9
                have havr := HE'.out.ok.ar s (by have := HE'.out.ok.mn; omega)
                rw [hva] at havr
                have k10 := cell_lt k9
                have hsn : (s : Int) < (l.length : Int) := by have := HNL.out; omega
                have HVA := Lib.hid hva
                have HK3 : Hid (K ≤ max K2 av ∧ max K2 av ≤ 1000 ∧ ∀ z ∈ y.take (t + 1), al'.getD z.sec.toNat 0 ≤ max K2 av) := Lib.hid (by
                  have hk3 := HKK.out
                  refine ⟨by omega, by omega, fun z hz => ?_⟩
                  rw [HTT.out] at hz
                  rcases List.mem_append.1 hz with h | h
                  · have := hk3.2.2 z h; omega
                  · obtain rfl := List.mem_singleton.1 h
                    simp only [Int.toNat_natCast]
                    rw [HVA.out]; omega)
                have HO3 := Lib.hid (HO2.out.below (bAlloc (Below.refl wr.heap.size wr) (.cells #[.int .i64 (s : Int), .int .i64 zv] 59)))
                generalize fdSum (y.take t) = S at *
                have hma : zv.natAbs ≤ 500 := by omega
                have v1 : IntKind.i64.wrap (-zv) = -zv := IntWalk.i64_in _ (by omega)
                have v2 : max zv (-zv) = (zv.natAbs : Int) := by omega
                have HBT : Hid ((zv = 0) → (∀ z ∈ y.take t, z.amt = 0) → ∀ z ∈ y.take (t + 1), z.amt = 0) := Lib.hid (fun h0 h1 z hz => by
                  rw [HTT.out] at hz
                  rcases List.mem_append.1 hz with h | h
                  · exact h1 z h
                  · obtain rfl := List.mem_singleton.1 h
                    exact h0)
                have v3 : IntKind.i64.wrap (P + (S : Int) + (zv.natAbs : Int)) = P + (((S + zv.natAbs : Nat)) : Int) := by rw [IntWalk.i64_in _ (by omega)]; omega
                have v5 : IntKind.i64.wrap (P + (S : Int)) = P + (S : Int) := IntWalk.i64_in _ (by omega)
                clear hf9 hav hva hz hsl
                cases bl
                · by_cases hz0 : zv = 0
                  · have hzb : (zv == 0) = true := by simp [hz0]
                    clear hzb
                    have HB3 : Hid (false = false → ∀ z ∈ y.take (t + 1), z.amt = 0) := Lib.hid (fun _ => HBT.out hz0 (HBL.out rfl))
                    clear HBT v1 v2 v3
                    subst hz0
                    go_wp2_with fail
                    all_goals first | (exfalso; omega) | skip
                    go_roundw
                    case rel => exact ⟨t + 1, max K2 av, false, by omega, by go_num, by rw [HSM.out]; exact congrArg (Value.int .i64) (by simp), rfl, (by first | rfl | (simp; done)), HK3, HB3, HO3⟩
                    case measure => simp [intOf]; omega
                  · have hzb : (zv == 0) = false := by simp [hz0]
                    have HB3 : Hid (true = false → ∀ z ∈ y.take (t + 1), z.amt = 0) := Lib.hid (fun h => by cases h)
                    go_wp2_with fail
                    all_goals first | (exfalso; omega) | skip
                    go_roundw
                    case rel => exact ⟨t + 1, max K2 av, true, by omega, by go_num, by rw [HSM.out]; exact congrArg (Value.int .i64) (by omega), rfl, (by first | rfl | exact congrArg Value.bool (by simp; exact hz0)), HK3, HB3, HO3⟩
                    case measure => simp [intOf]; omega
                · have HB3 : Hid (true = false → ∀ z ∈ y.take (t + 1), z.amt = 0) := Lib.hid (fun h => by cases h)
                  go_wp2_with fail
                  all_goals first | (exfalso; omega) | skip
                  go_roundw
                  case rel => exact ⟨t + 1, max K2 av, true, by omega, by go_num, by rw [HSM.out]; exact congrArg (Value.int .i64) (by omega), rfl, rfl, HK3, HB3, HO3⟩
                  case measure => simp [intOf]; omega
              · obtain rfl : t = y.length := by omega
                rw [List.take_length] at HKK HBL ⊢
                have hst := HE'.out.step HSS.out (by omega) HFD.out HKK.out.1 HKK.out.2.1 HKK.out.2.2
                rw [HF2.out] at hst
                have HE3 := Lib.hid hst.1
                have HQT := Lib.hid hst.2
                have hm3 := hst.1.mid (by omega)
                have hb3 := hst.1.bnd
                have hp3 := hst.1.pos
                have ht3 := hst.1.top
                have HEN3 := Lib.hid (fun (W : World) (hT : One w W t1 tb wb al' x.s.areas.length (shpPlaces x.s) (st + 1) F2 bx cs) => tube_en hT.t HE'.out.ok (by omega) hm3.1)
                rw [HEE1.out] at HQT
                clear hst
                generalize enT al' (st + 1) F2 = E2 at *
                generalize fdSum y = S at *
                obtain ⟨Q, hQ⟩ : ∃ Q, P + (S : Int) = Q := ⟨_, rfl⟩
                rw [hQ] at hb3 hp3 HE3 ⊢
                have hq := Int.mul_le_mul (show Q ≤ 30000 by omega) (show Q ≤ 30000 by omega) hp3.1 (by omega)
                have hq0 := Int.mul_nonneg hp3.1 hp3.1
                have hqk := Int.mul_le_mul hq ht3.2 ht3.1 (by omega)
                have hqk0 := Int.mul_nonneg hq0 ht3.1
                obtain ⟨q1, hq1⟩ : ∃ q, Q * Q = q := ⟨_, rfl⟩
                rw [hq1] at hb3 hq hq0 hqk hqk0
                obtain ⟨q2, hq2⟩ : ∃ q, q1 * K2 = q := ⟨_, rfl⟩
                rw [hq2] at hb3 hqk hqk0
                have v1 : IntKind.i64.wrap (Q * Q) = q1 := by rw [hq1]; exact IntWalk.i64_in _ (by omega)
                have v2 : IntKind.i64.wrap (q1 * K2) = q2 := by rw [hq2]; exact IntWalk.i64_in _ (by omega)
                have v3 : ¬ E2 > q2 := by omega
                clear hq1 hq2 hQ hq hq0 hqk hqk0 hb3
                cases bl
                · have v4 : ¬ E2 > E1 := by have := HQT.out (HBL.out rfl); omega
                  go_wp2_with (first
                    | (go_at_call 34; with_reducible refine Calls.mono (HEN3.out _ HO2.out) ?_; rintro e wf ⟨rfl, hb⟩; have Hf := Lib.hid (HO2.out.below hb); clear hb)
                    | (go_at_call 34; with_reducible refine Calls.mono (HEN3.out _ Hf.out) ?_; rintro e wg ⟨rfl, hb⟩; have Hg := Lib.hid (Hf.out.below hb); clear hb))
                  all_goals first | (exfalso; omega) | skip
                  go_roundw
                  case rel =>
                    first
                      | exact ⟨k + 1, st + 1, al', _, _, K2, l, na, nc, by omega, by go_num, rfl, rfl, rfl, HE3, (by first | exact Hg | exact Hf), HL, HTK⟩
                      | ((repeat apply Exists.intro); refine ⟨?_, rfl⟩; exact ⟨k + 1, st + 1, al', _, _, K2, l, na, nc, by omega, by go_num, rfl, rfl, rfl, HE3, (by first | exact Hg | exact Hf), HL, HTK⟩)
                  case measure => simp [intOf]; omega
                · go_wp2_with (first
                    | (go_at_call 34; with_reducible refine Calls.mono (HEN3.out _ HO2.out) ?_; rintro e wf ⟨rfl, hb⟩; have Hf := Lib.hid (HO2.out.below hb); clear hb)
                    | (go_at_call 34; with_reducible refine Calls.mono (HEN3.out _ Hf.out) ?_; rintro e wg ⟨rfl, hb⟩; have Hg := Lib.hid (Hf.out.below hb); clear hb))
                  all_goals first | (exfalso; omega) | skip
                  go_roundw
                  case rel =>
                    first
                      | exact ⟨k + 1, st + 1, al', _, _, K2, l, na, nc, by omega, by go_num, rfl, rfl, rfl, HE3, (by first | exact Hg | exact Hf), HL, HTK⟩
                      | ((repeat apply Exists.intro); refine ⟨?_, rfl⟩; exact ⟨k + 1, st + 1, al', _, _, K2, l, na, nc, by omega, by go_num, rfl, rfl, rfl, HE3, (by first | exact Hg | exact Hf), HL, HTK⟩)
                  case measure => simp [intOf]; omega
        · obtain ⟨hka, htk⟩ := HF1.out rfl
          have hka1 : (k : Int) < (x.areas.length : Int) := by omega
          obtain ⟨b7, o7, c7, u7, e7, p7, q7, r7⟩ := wav_at HAA.out (Below.refl _ _) hka
          obtain ⟨rfl, -, rfl⟩ := Value.slice.inj e7
          have hgd : x.areas.getD k [] = x.areas[k] := by rw [List.getD_eq_getElem?_getD, List.getElem?_eq_getElem hka]; rfl
          rw [hgd] at htk
          clear HTK HL
          obtain ⟨l, hl1⟩ : ∃ l1, x.areas[k] = l1 := ⟨_, rfl⟩
          rw [hl1] at q7 htk
          have HTK := Lib.hid htk
          obtain ⟨na, nc, rfl, -⟩ := id q7
          have HL := Lib.hid q7
          have x7 := keep HO'.out.low p7
          have y7 := cell_lt x7
          clear e7 p7 q7 r7 hl1 hgd htk hka
          cases hfd : fdOk x.s.areas.length y
          · have HSF := Lib.hid (HST.out false hfd)
            simp only [Bool.false_eq_true, if_false] at HSF
            clear HST hfd
            go_wp2_with (first
              | (go_at_call 34; with_reducible refine Calls.mono (HEG.out _ HO'.out) ?_; rintro e wa ⟨rfl, hb⟩; have Ha := Lib.hid (HO'.out.below hb); clear hb)
              | (go_at_call 34; with_reducible refine Calls.mono (HEG.out _ Ha.out) ?_; rintro e wb' ⟨rfl, hb⟩; have Hb := Lib.hid (Ha.out.below hb); clear hb)
              | (go_at_call 34; with_reducible refine Calls.mono (HEG.out _ Hb.out) ?_; rintro e wd ⟨rfl, hb⟩; have Hd := Lib.hid (Hb.out.below hb); obtain ⟨d0, d1, d2, d3, d4, d5, d6, d7, d8, ld⟩ := ply_cells (by have := Hd.out.box; rw [← HCS.out] at this; exact this); have p1 := keep Hd.out.low P0.out; have p2 := cell_lt p1; clear hb)
              | (go_at_call 31; with_reducible refine Calls.mono (HSF.out _ Hd.out) ?_; rintro e we ⟨⟨ra, rb, rfl⟩, he⟩; have He := Lib.hid (he.below (bAlloc (Below.refl we.heap.size we) (.cells #[.int .i64 ra, .int .i64 rb] 51))); clear he)
              | (go_at_call 34; with_reducible refine Calls.mono (HEG.out _ He.out) ?_; rintro e wf ⟨rfl, hb⟩; have Hf := Lib.hid (He.out.below hb); clear hb))
            all_goals first | (exfalso; omega) | skip
            have HE3 := Lib.hid HE'.out.skip
            go_roundw
            case rel =>
              first
                | exact ⟨k + 1, st, al', f', P, K, l, na, nc, by omega, by go_num, rfl, rfl, rfl, HE3, Hf, HL, HTK⟩
                | ((repeat apply Exists.intro); refine ⟨?_, rfl⟩; exact ⟨k + 1, st, al', f', P, K, l, na, nc, by omega, by go_num, rfl, rfl, rfl, HE3, Hf, HL, HTK⟩)
            case measure => simp [intOf]; omega
          · have HSF := Lib.hid (HST.out true hfd)
            simp only [if_true] at HSF
            have HFD := Lib.hid hfd
            have HFG := Lib.hid (fdOk_parts hfd)
            have hpos := HE'.out.pos
            have htop := HE'.out.top
            have hnl : l.length = x.s.areas.length := by rw [← HTK.out, List.length_take]; have := HE'.out.ok.mn; omega
            have HNL := Lib.hid hnl
            clear HST hfd hnl
            go_wp2_with (first
              | (go_at_call 34; with_reducible refine Calls.mono (HEG.out _ HO'.out) ?_; rintro e wa ⟨rfl, hb⟩; have Ha := Lib.hid (HO'.out.below hb); clear hb)
              | (go_at_call 34; with_reducible refine Calls.mono (HEG.out _ Ha.out) ?_; rintro e wb' ⟨rfl, hb⟩; have Hb := Lib.hid (Ha.out.below hb); clear hb)
              | (go_at_call 34; with_reducible refine Calls.mono (HEG.out _ Hb.out) ?_; rintro e wd ⟨rfl, hb⟩; have Hd := Lib.hid (Hb.out.below hb); obtain ⟨d0, d1, d2, d3, d4, d5, d6, d7, d8, ld⟩ := ply_cells (by have := Hd.out.box; rw [← HCS.out] at this; exact this); have p1 := keep Hd.out.low P0.out; have p2 := cell_lt p1; clear hb)
              | (go_at_call 31; with_reducible refine Calls.mono (HSF.out _ Hd.out) ?_; rintro e we ⟨⟨ra, rb, rfl⟩, he⟩; have He := Lib.hid (he.below (bAlloc (Below.refl we.heap.size we) (.cells #[.int .i64 ra, .int .i64 rb] 51))); clear he))
            all_goals first | (exfalso; omega) | skip
            obtain ⟨F2, hF2⟩ : ∃ F2, nxtF al' (shpPlaces x.s) st y f' = F2 := ⟨_, rfl⟩
            have HF2 := Lib.hid hF2
            rw [hF2] at He
            clear hF2 p1 p2 d0 d1 d2 d3 d4 d5 d6 d7 d8 ld Ha Hb Hd HSF
            go_loopw [13, 5, 6, 12] (fun i p q lb wr => ∃ (t : Nat) (K2 : Int) (bl : Bool), t ≤ y.length ∧ i = .int .i64 t ∧ p = .int .i64 (P + (fdSum (y.take t) : Nat)) ∧ q = .int .i64 K2 ∧ lb = .bool bl ∧ Hid (K ≤ K2 ∧ K2 ≤ 1000 ∧ ∀ z ∈ y.take t, al'.getD z.sec.toNat 0 ≤ K2) ∧ Hid (bl = false → ∀ z ∈ y.take t, z.amt = 0) ∧ Hid (One w wr t1 tb wb al' x.s.areas.length (shpPlaces x.s) (st + 1) F2 bx cs)) (fun i _ _ _ _ => y.length - (intOf i).toNat)
            case atStart => exact ⟨0, K, false, Nat.zero_le _, rfl, by simp [fdSum], rfl, rfl, Lib.hid ⟨Int.le_refl _, htop.2, by simp⟩, Lib.hid (by simp), He⟩
            case round =>
              clear He
              obtain ⟨t, K2, bl, ht, rfl, rfl, rfl, rfl, HKK, HBL, HO2⟩ := hrel
              obtain ⟨d0, d1, d2, d3, d4, d5, d6, d7, d8, ld⟩ := ply_cells (by have := HO2.out.box; rw [← HCS.out] at this; exact this)
              have p1 := keep HO2.out.low P0.out
              have p2 := cell_lt p1
              by_cases htl : t < y.length
              · have htt : (t : Int) < (y.length : Int) := by omega
                obtain ⟨b2, o2, rfl, hf⟩ := (Q0.out.keep FdAt.stable HO2.out.low).at (by intro h; simp [h] at htl)
                obtain ⟨k0, k1⟩ := hf t htl
                have HTT : Hid (y.take (t + 1) = y.take t ++ [y[t]]) := Lib.hid (take_succ y t htl)
                have hz := HFG.out.1.1 y[t] (List.getElem_mem htl)
                have HSM : Hid (fdSum (y.take (t + 1)) = fdSum (y.take t) + y[t].amt.natAbs) := Lib.hid (by rw [HTT.out, fdSum_snoc])
                have hsl := fdSum_le (fdGood_take HFG.out.1 t)
                rw [List.length_take_of_le ht] at hsl
                clear hf
                generalize y[t] = z at *
                obtain ⟨zs, zv⟩ := z
                unfold IntAt at k0 k1
                simp only at k0 k1 hz HSM
                have k2 := cell_lt k0
                obtain ⟨s, rfl⟩ : ∃ s : Nat, zs = (s : Int) := ⟨zs.toNat, by omega⟩
                obtain ⟨b9, o9, rfl, hf9⟩ := (HL.out.keep IntAt.stable HO2.out.low).at (by intro h; have h2 := HNL.out; rw [h] at h2; simp at h2; omega)
                have k9 := hf9 s (by have := HNL.out; omega)
                unfold IntAt at k9
                rw [Nat.mul_one, ← gI] at k9
                have hav : l.getD s 0 = al'.getD s 0 := by rw [← HTK.out, List.getD_eq_getElem?_getD, List.getElem?_take, if_pos (by omega), ← List.getD_eq_getElem?_getD]
                obtain ⟨av, hva⟩ : ∃ av, al'.getD s 0 = av := ⟨_, rfl⟩
                rw [hav, hva] at k9
                have havr := HE'.out.ok.ar s (by have := HE'.out.ok.mn; omega)
                rw [hva] at havr
                have k10 := cell_lt k9
                have hsn : (s : Int) < (l.length : Int) := by have := HNL.out; omega
                have HVA := Lib.hid hva
                have HK3 : Hid (K ≤ max K2 av ∧ max K2 av ≤ 1000 ∧ ∀ z ∈ y.take (t + 1), al'.getD z.sec.toNat 0 ≤ max K2 av) := Lib.hid (by
                  have hk3 := HKK.out
                  refine ⟨by omega, by omega, fun z hz => ?_⟩
                  rw [HTT.out] at hz
                  rcases List.mem_append.1 hz with h | h
                  · have := hk3.2.2 z h; omega
                  · obtain rfl := List.mem_singleton.1 h
                    simp only [Int.toNat_natCast]
                    rw [HVA.out]; omega)
                have HO3 := Lib.hid (HO2.out.below (bAlloc (Below.refl wr.heap.size wr) (.cells #[.int .i64 (s : Int), .int .i64 zv] 59)))
                generalize fdSum (y.take t) = S at *
                have hma : zv.natAbs ≤ 500 := by omega
                have v1 : IntKind.i64.wrap (-zv) = -zv := IntWalk.i64_in _ (by omega)
                have v2 : max zv (-zv) = (zv.natAbs : Int) := by omega
                have HBT : Hid ((zv = 0) → (∀ z ∈ y.take t, z.amt = 0) → ∀ z ∈ y.take (t + 1), z.amt = 0) := Lib.hid (fun h0 h1 z hz => by
                  rw [HTT.out] at hz
                  rcases List.mem_append.1 hz with h | h
                  · exact h1 z h
                  · obtain rfl := List.mem_singleton.1 h
                    exact h0)
                have v3 : IntKind.i64.wrap (P + (S : Int) + (zv.natAbs : Int)) = P + (((S + zv.natAbs : Nat)) : Int) := by rw [IntWalk.i64_in _ (by omega)]; omega
                have v5 : IntKind.i64.wrap (P + (S : Int)) = P + (S : Int) := IntWalk.i64_in _ (by omega)
                clear hf9 hav hva hz hsl
                cases bl
                · by_cases hz0 : zv = 0
                  · have hzb : (zv == 0) = true := by simp [hz0]
                    clear hzb
                    have HB3 : Hid (false = false → ∀ z ∈ y.take (t + 1), z.amt = 0) := Lib.hid (fun _ => HBT.out hz0 (HBL.out rfl))
                    clear HBT v1 v2 v3
                    subst hz0
                    go_wp2_with fail
                    all_goals first | (exfalso; omega) | skip
                    go_roundw
                    case rel => exact ⟨t + 1, max K2 av, false, by omega, by go_num, by rw [HSM.out]; exact congrArg (Value.int .i64) (by simp), rfl, (by first | rfl | (simp; done)), HK3, HB3, HO3⟩
                    case measure => simp [intOf]; omega
                  · have hzb : (zv == 0) = false := by simp [hz0]
                    have HB3 : Hid (true = false → ∀ z ∈ y.take (t + 1), z.amt = 0) := Lib.hid (fun h => by cases h)
                    go_wp2_with fail
                    all_goals first | (exfalso; omega) | skip
                    go_roundw
                    case rel => exact ⟨t + 1, max K2 av, true, by omega, by go_num, by rw [HSM.out]; exact congrArg (Value.int .i64) (by omega), rfl, (by first | rfl | exact congrArg Value.bool (by simp; exact hz0)), HK3, HB3, HO3⟩
                    case measure => simp [intOf]; omega
                · have HB3 : Hid (true = false → ∀ z ∈ y.take (t + 1), z.amt = 0) := Lib.hid (fun h => by cases h)
                  go_wp2_with fail
                  all_goals first | (exfalso; omega) | skip
                  go_roundw
                  case rel => exact ⟨t + 1, max K2 av, true, by omega, by go_num, by rw [HSM.out]; exact congrArg (Value.int .i64) (by omega), rfl, rfl, HK3, HB3, HO3⟩
                  case measure => simp [intOf]; omega
              · obtain rfl : t = y.length := by omega
                rw [List.take_length] at HKK HBL ⊢
                have hst := HE'.out.step HSS.out (by omega) HFD.out HKK.out.1 HKK.out.2.1 HKK.out.2.2
                rw [HF2.out] at hst
                have HE3 := Lib.hid hst.1
                have HQT := Lib.hid hst.2
                have hm3 := hst.1.mid (by omega)
                have hb3 := hst.1.bnd
                have hp3 := hst.1.pos
                have ht3 := hst.1.top
                have HEN3 := Lib.hid (fun (W : World) (hT : One w W t1 tb wb al' x.s.areas.length (shpPlaces x.s) (st + 1) F2 bx cs) => tube_en hT.t HE'.out.ok (by omega) hm3.1)
                rw [HEE1.out] at HQT
                clear hst
                generalize enT al' (st + 1) F2 = E2 at *
                generalize fdSum y = S at *
                obtain ⟨Q, hQ⟩ : ∃ Q, P + (S : Int) = Q := ⟨_, rfl⟩
                rw [hQ] at hb3 hp3 HE3 ⊢
                have hq := Int.mul_le_mul (show Q ≤ 30000 by omega) (show Q ≤ 30000 by omega) hp3.1 (by omega)
                have hq0 := Int.mul_nonneg hp3.1 hp3.1
                have hqk := Int.mul_le_mul hq ht3.2 ht3.1 (by omega)
                have hqk0 := Int.mul_nonneg hq0 ht3.1
                obtain ⟨q1, hq1⟩ : ∃ q, Q * Q = q := ⟨_, rfl⟩
                rw [hq1] at hb3 hq hq0 hqk hqk0
                obtain ⟨q2, hq2⟩ : ∃ q, q1 * K2 = q := ⟨_, rfl⟩
                rw [hq2] at hb3 hqk hqk0
                have v1 : IntKind.i64.wrap (Q * Q) = q1 := by rw [hq1]; exact IntWalk.i64_in _ (by omega)
                have v2 : IntKind.i64.wrap (q1 * K2) = q2 := by rw [hq2]; exact IntWalk.i64_in _ (by omega)
                have v3 : ¬ E2 > q2 := by omega
                clear hq1 hq2 hQ hq hq0 hqk hqk0 hb3
                cases bl
                · have v4 : ¬ E2 > E1 := by have := HQT.out (HBL.out rfl); omega
                  go_wp2_with (first
                    | (go_at_call 34; with_reducible refine Calls.mono (HEN3.out _ HO2.out) ?_; rintro e wf ⟨rfl, hb⟩; have Hf := Lib.hid (HO2.out.below hb); clear hb)
                    | (go_at_call 34; with_reducible refine Calls.mono (HEN3.out _ Hf.out) ?_; rintro e wg ⟨rfl, hb⟩; have Hg := Lib.hid (Hf.out.below hb); clear hb))
                  all_goals first | (exfalso; omega) | skip
                  go_roundw
                  case rel =>
                    first
                      | exact ⟨k + 1, st + 1, al', _, _, K2, l, na, nc, by omega, by go_num, rfl, rfl, rfl, HE3, (by first | exact Hg | exact Hf), HL, HTK⟩
                      | ((repeat apply Exists.intro); refine ⟨?_, rfl⟩; exact ⟨k + 1, st + 1, al', _, _, K2, l, na, nc, by omega, by go_num, rfl, rfl, rfl, HE3, (by first | exact Hg | exact Hf), HL, HTK⟩)
                  case measure => simp [intOf]; omega
                · go_wp2_with (first
                    | (go_at_call 34; with_reducible refine Calls.mono (HEN3.out _ HO2.out) ?_; rintro e wf ⟨rfl, hb⟩; have Hf := Lib.hid (HO2.out.below hb); clear hb)
                    | (go_at_call 34; with_reducible refine Calls.mono (HEN3.out _ Hf.out) ?_; rintro e wg ⟨rfl, hb⟩; have Hg := Lib.hid (Hf.out.below hb); clear hb))
                  all_goals first | (exfalso; omega) | skip
                  go_roundw
                  case rel =>
                    first
                      | exact ⟨k + 1, st + 1, al', _, _, K2, l, na, nc, by omega, by go_num, rfl, rfl, rfl, HE3, (by first | exact Hg | exact Hf), HL, HTK⟩
                      | ((repeat apply Exists.intro); refine ⟨?_, rfl⟩; exact ⟨k + 1, st + 1, al', _, _, K2, l, na, nc, by omega, by go_num, rfl, rfl, rfl, HE3, (by first | exact Hg | exact Hf), HL, HTK⟩)
                  case measure => simp [intOf]; omega
    · obtain rfl : k = x.feeds.length := by omega
      go_wp2_with (go_at_call 17; with_reducible refine Calls.mono (HK.out _) ?_; rintro e wk ⟨rfl, hb⟩; have HBK := Lib.hid hb; clear hb)
      go_ret
      exact ⟨rfl, by (try rw [← HBX.out]); exact bThen HO.out.low HBK.out⟩
end Go.Proofs.Ytbmbcbknoflpgaa
