/- The law of the straight tube. -/
import Derived.Test.YtbmbcbknoflpgaaP2
set_option linter.unusedSimpArgs false
set_option linter.unusedVariables false
namespace Go.Proofs.Ytbmbcbknoflpgaa
open Go.RowKit

theorem shp_cells {W : World} {b t : Nat} {v0 v1 v2 v3 v4 v5 : Value} (h : W.heap[b]? = some (.cells #[v0, v1, v2, v3, v4, v5] t (0, 0))) :
    W.cell? ⟨b, 0, none⟩ = some v0 ∧ W.cell? ⟨b, 1, none⟩ = some v1 ∧ W.cell? ⟨b, 2, none⟩ = some v2 ∧ W.cell? ⟨b, 3, none⟩ = some v3 ∧ W.cell? ⟨b, 4, none⟩ = some v4 ∧ W.cell? ⟨b, 5, none⟩ = some v5 ∧ b < W.heap.size := by
  have c := fun (j : Nat) (hj : j < 6) => cell_of_heap (j := j) h hj
  have c0 := c 0 (by omega)
  have c1 := c 1 (by omega)
  have c2 := c 2 (by omega)
  have c3 := c 3 (by omega)
  have c4 := c 4 (by omega)
  have c5 := c 5 (by omega)
  simp at c0 c1 c2 c3 c4 c5
  exact ⟨c0, c1, c2, c3, c4, c5, cell_lt c0⟩
theorem set_first {W : World} {b t : Nat} {v0 v1 v2 v3 v4 v5 : Value} (h : W.heap[b]? = some (.cells #[v0, v1, v2, v3, v4, v5] t (0, 0))) (v : Value) : (W.setCell ⟨b, 0, none⟩ v).heap[b]? = some (.cells #[v, v1, v2, v3, v4, v5] t (0, 0)) := by
  have e := heap_setCell_same W b 0 _ _ v h
  simpa using e
theorem tb_ne {base tb main steps wb : Nat} {w : World} {al : List Int} {ps : List Plc} {f : Nat → Int} (h : TubeIs base w tb al main ps steps wb f) {b t : Nat} {cs : Array Value} (hb : w.heap[b]? = some (.cells cs t (0, 0))) (ht : t ≠ 97) : b ≠ tb := by
  obtain ⟨-, ⟨_, _, _, _, kb, -, -, -⟩, -⟩ := h
  intro e
  subst e
  rw [kb] at hb
  simp only [Option.some.injEq, Obj.cells.injEq] at hb
  exact ht hb.2.1.symm
set_option maxRecDepth 10000 in
set_option maxHeartbeats 8000000 in
theorem law9_any (n a li g x : Int) (w : World) (hk : ∀ w, Calls Try.prog 17 #[] w fun e w' => e = .returned (.bool true) ∧ Below w.heap.size w w') :
    Calls Try.prog 9 #[.int .i64 n, .int .i64 a, .int .i64 li, .int .i64 g, .int .i64 x] w fun e w' => e = .returned (.bool true) ∧ Below w.heap.size w w' := by
  have HK := Lib.hid hk
  clear hk
  by_cases h1 : n < 1
  · go_enter Try.func9, Try.ntmps9
    go_wp2_with (go_at_call 17; with_reducible refine Calls.mono (HK.out _) ?_; rintro e w1 ⟨rfl, hb⟩; have HB := Lib.hid hb; clear hb)
    all_goals first
      | (exfalso; omega)
      | (go_ret; exact ⟨rfl, HB.out⟩)
  by_cases h2 : n > 24
  · go_enter Try.func9, Try.ntmps9
    go_wp2_with (go_at_call 17; with_reducible refine Calls.mono (HK.out _) ?_; rintro e w1 ⟨rfl, hb⟩; have HB := Lib.hid hb; clear hb)
    all_goals first
      | (exfalso; omega)
      | (go_ret; exact ⟨rfl, HB.out⟩)
  by_cases h3 : x < -500
  · go_enter Try.func9, Try.ntmps9
    go_wp2_with (go_at_call 17; with_reducible refine Calls.mono (HK.out _) ?_; rintro e w1 ⟨rfl, hb⟩; have HB := Lib.hid hb; clear hb)
    all_goals first
      | (exfalso; omega)
      | (go_ret; exact ⟨rfl, HB.out⟩)
  by_cases h4 : x > 500
  · go_enter Try.func9, Try.ntmps9
    go_wp2_with (go_at_call 17; with_reducible refine Calls.mono (HK.out _) ?_; rintro e w1 ⟨rfl, hb⟩; have HB := Lib.hid hb; clear hb)
    all_goals first
      | (exfalso; omega)
      | (go_ret; exact ⟨rfl, HB.out⟩)
  obtain ⟨N, rfl⟩ : ∃ N : Nat, n = (N : Int) := ⟨n.toNat, by omega⟩
  have HN : Hid (1 ≤ N ∧ N ≤ 24) := Lib.hid (by omega)
  have HXX : Hid (-500 ≤ x ∧ x ≤ 500) := Lib.hid (by omega)
  have HB0 := Lib.hid (bAlloc (Below.refl w.heap.size w) (.cells #[.slice none 0 0, .slice none 0 0, .int .i64 0, .int .i64 g, .int .i64 li, .int .i64 0] 24))
  have HX0 := Lib.hid (World.alloc_heap_new w (.cells #[.slice none 0 0, .slice none 0 0, .int .i64 0, .int .i64 g, .int .i64 li, .int .i64 0] 24))
  go_enter Try.func9, Try.ntmps9
  go_wp2_with fail
  generalize World.alloc w _ = W1 at *
  obtain ⟨bx, hbx⟩ : ∃ bx, w.heap.size = bx := ⟨_, rfl⟩
  have HBX := Lib.hid hbx
  rw [hbx] at HX0 ⊢
  have HBL : Hid (bx < W1.heap.size) := Lib.hid (Array.getElem?_eq_some_iff.1 HX0.out).1
  clear hbx
  go_loopw [12] (fun i wr => ∃ (k : Nat) (o : Value), k ≤ N ∧ i = .int .i64 k ∧ Hid (wr.heap[bx]? = some (.cells #[o, .slice none 0 0, .int .i64 0, .int .i64 g, .int .i64 li, .int .i64 0] 24 (0, 0))) ∧ Hid (wr.ownsRow W1.heap.size 3 1 o k (intV (List.replicate k a))) ∧ Hid (Below w.heap.size w wr) ∧ Hid (W1.heap.size ≤ wr.heap.size)) (fun i _ => N - (intOf i).toNat)
  case atStart => exact ⟨0, _, Nat.zero_le _, rfl, HX0, Lib.hid (World.ownsRow_nil _ _ _ _), HB0, Lib.hid (Nat.le_refl _)⟩
  case round =>
    clear HX0 HB0
    obtain ⟨k, o, hk, rfl, HX, HO, HB, HZ⟩ := hrel
    obtain ⟨oa, oc, rfl⟩ := ownsRow_slice HO.out
    obtain ⟨c0, c1, c2, c3, c4, c5, cl⟩ := shp_cells HX.out
    by_cases hlt : k < N
    · have hkk : (k : Int) < (N : Int) := by omega
      have HS0 : Hid (SrcI (wr.alloc (.cells #[.int .i64 a] 3)) (some ⟨wr.heap.size, 0, none⟩) [a]) := Lib.hid (.inr ⟨_, rfl, one_new wr (.int .i64 a) 3⟩)
      have HRP : Hid (List.replicate (k + 1) a = List.replicate k a ++ [a]) := Lib.hid (by rw [List.replicate_succ'])
      go_wp2_with (at_builtin; refine wpList_append_ints rfl _ _ rfl W1.heap.size _ k (List.replicate k a) rfl (HO.out.alloc _) (some ⟨wr.heap.size, 0, none⟩) 1 1 [a] (by rfl) rfl HS0.out (by have := HN.out; omega) (by have := HZ.out; simp; omega) ?_; intro v6 w6 ho6 hb6; obtain ⟨ad6, cap6, rfl⟩ := ownsRow_slice ho6; have HX6 := Lib.hid ((hb6.block bx HBL.out).trans (heap_keep (bAlloc (Below.refl _ _) _) HX.out)); have HO6 := Lib.hid ho6; have HB6 := Lib.hid hb6; obtain ⟨e0, e1, e2, e3, e4, e5, el⟩ := shp_cells HX6.out; have ez := frozen_heap (o := 0) HX6.out; clear ho6 hb6)
      have HX7 := Lib.hid (set_first HX6.out (.slice ad6 (k + 1) cap6))
      have HO7 : Hid ((w6.setCell ⟨bx, 0, none⟩ (.slice ad6 (k + 1) cap6)).ownsRow W1.heap.size 3 1 (.slice ad6 (k + 1) cap6) (k + 1) (intV (List.replicate (k + 1) a))) := Lib.hid (by rw [HRP.out]; exact HO6.out.kept (gb_set _ _ _ _) (.inr (own_ne HO6.out HX6.out (fun cs e => by cases e))))
      have HB7 : Hid (Below w.heap.size w (w6.setCell ⟨bx, 0, none⟩ (.slice ad6 (k + 1) cap6))) := Lib.hid (((bAlloc HB.out _).trans (HB6.out.mono (by have := HBX.out; have := HBL.out; omega))).setCell (p := ⟨bx, 0, none⟩) (by have := HBX.out; simp; omega) _)
      have HZ7 : Hid (W1.heap.size ≤ (w6.setCell ⟨bx, 0, none⟩ (.slice ad6 (k + 1) cap6)).heap.size) := Lib.hid (by have h := HB6.out.size; have h2 := HZ.out; simp at h; simp [World.setCell]; omega)
      go_roundw
      case rel => exact ⟨k + 1, _, by omega, by go_num, HX7, HO7, HB7, HZ7⟩
      case measure => simp [intOf]; omega
    · obtain rfl : k = N := by omega
      have hsl := own_slice (W := wr) (l := List.replicate k a) (by rw [List.length_replicate]; exact HO.out) (by rw [List.length_replicate]; have := HN.out; omega)
      have HSH : Hid (Calls Try.prog 19 #[.agg #[.slice oa k oc, .slice none 0 0, .int .i64 0, .int .i64 g, .int .i64 li, .int .i64 0]] wr fun e w' => e = .returned (.bool (shpOk (strS k a g li))) ∧ Below wr.heap.size wr w') := Lib.hid (refShape_any (strS k a g li) _ _ wr hsl (nil_slice _))
      have HNW0 := Lib.hid (fun (hs : shpOk (strS k a g li) = true) W (hB : Below wr.heap.size wr W) => New_ok (strS k a g li) (.slice oa k oc) (.slice none 0 0) W (hsl.keep IntAt.stable hB) (nil_slice _) hs)
      clear hsl
      cases hs : shpOk (strS k a g li)
      · rw [hs] at HSH
        clear HNW0 hs
        go_wp2_with (first
          | (go_at_call 19; with_reducible refine Calls.mono HSH.out ?_; rintro e w2 ⟨rfl, hb⟩; have HB2 := Lib.hid (bThen HB.out hb); clear hb)
          | (go_at_call 17; with_reducible refine Calls.mono (HK.out _) ?_; rintro e wk ⟨rfl, hb⟩; have HBK := Lib.hid hb; clear hb))
        go_ret
        exact ⟨rfl, by (try rw [← HBX.out]); exact bThen HB2.out HBK.out⟩
      · rw [hs] at HSH
        obtain ⟨q1, q2, q3, q4⟩ := str_a hs
        have HPU := Lib.hid (str_pulse (x := x) hs HXX.out)
        have e1 : (strS k a g li).areas ++ (strS k a g li).branch = List.replicate k a := by simp [strS]
        have e2 : (strS k a g li).areas.length = k := by simp [strS]
        have hto := shp_tube hs
        rw [e1, e2, str_places] at hto
        have HTO := Lib.hid hto
        have HNW : Hid (∀ W, Below wr.heap.size wr W → Calls Try.prog 25 #[.agg #[.slice oa k oc, .slice none 0 0, .int .i64 0, .int .i64 g, .int .i64 li, .int .i64 0]] W fun e w' => (∃ tb wb, e = .returned (.tuple #[.pointer (some ⟨tb, 0, none⟩), .int .i64 0]) ∧ TubeIs W.heap.size w' tb (List.replicate k a) k (placesL k 0 0 g li 0) 0 wb (fun _ => 0)) ∧ Below W.heap.size W w') := Lib.hid (fun W hB => by
          have h := HNW0.out hs W hB
          rw [e1, e2, str_places] at h
          exact h)
        obtain ⟨al, hal⟩ : ∃ al, List.replicate k a = al := ⟨_, rfl⟩
        obtain ⟨ps, hps⟩ : ∃ ps, placesL k 0 0 g li 0 = ps := ⟨_, rfl⟩
        rw [hal, hps] at HNW HTO HPU
        obtain ⟨q, hq⟩ : ∃ q, k = q + 1 := ⟨k - 1, by omega⟩
        have u1 : IntKind.i64.wrap ((k : Int) - 1) = (q : Int) := by rw [IntWalk.i64_in _ (by omega)]; omega
        have hm := mul_inN (A := 99) (B := 500) (a := li) (b := x) (by omega) (by omega) (by omega) (by omega)
        have ht := tdiv_in (a := li * x) (b := 100) (by omega) 49500 (by omega)
        obtain ⟨p, hp⟩ : ∃ p, li * x = p := ⟨_, rfl⟩
        obtain ⟨dv, hdvv⟩ : ∃ d, p.tdiv 100 = d := ⟨_, rfl⟩
        rw [hp] at hm ht HPU
        rw [hdvv] at ht HPU
        have u2 : IntKind.i64.wrap (li * x) = p := by rw [hp]; exact IntWalk.i64_in _ (by omega)
        have u3 : IntKind.i64.wrap dv = dv := IntWalk.i64_in _ (by omega)
        have u4 : IntKind.i64.wrap (x - dv) = x - dv := IntWalk.i64_in _ (by have := HXX.out; omega)
        have HQ := Lib.hid hq
        clear HNW0 hs e1 e2 hto hal hps hp ht hm hq q1 q2 q3 q4
        have HS1 := Lib.hid (fun (W : World) (base tb wb : Nat) (hT : TubeIs base W tb al k ps 0 wb (fun _ => 0)) => (show Calls Try.prog 31 #[.pointer (some ⟨tb, 0, none⟩), .slice (some ⟨W.heap.size, 0, none⟩) 1 1] (W.alloc (.cells #[.int .i64 0, .int .i64 x] 59)) fun e w' => e = .returned (.tuple #[.agg #[.int .i64 0, .int .i64 0], .int .i64 0]) ∧ TubeIs base w' tb al k ps 1 wb (nxtF al ps 0 [⟨0, x⟩] (fun _ => 0)) ∧ Below base (W.alloc (.cells #[.int .i64 0, .int .i64 x] 59)) w' from by
          have h := step_one (hT.below (bAlloc (Below.refl _ _) (.cells #[.int .i64 0, .int .i64 x] 59))) HTO.out (by omega) 0 x (by have := HN.out; omega) HXX.out (World.alloc_heap_new W _)
          rw [HPU.out.1, HPU.out.2.1] at h
          exact h))
        go_wp2_with (first
          | (go_at_call 19; with_reducible refine Calls.mono HSH.out ?_; rintro e w2 ⟨rfl, hb⟩; have HB2 := Lib.hid hb; obtain ⟨c0, c1, c2, c3, c4, c5, cl⟩ := shp_cells (heap_keep hb HX.out); clear hb)
          | (go_at_call 25; with_reducible refine Calls.mono (HNW.out _ HB2.out) ?_; rintro e w4 ⟨⟨tb, wb, rfl, ht⟩, hb⟩; have HB4 := Lib.hid (bThen HB2.out hb); have HT4 := Lib.hid ht; clear hb ht)
          | (go_at_call 31; with_reducible refine Calls.mono (HS1.out _ _ _ _ HT4.out) ?_; rintro e w5 ⟨rfl, ht, hb⟩; have HB5 := Lib.hid ((bAlloc' HB4.out HB4.out.size _).trans (hb.mono HB2.out.size)); have HT5 := Lib.hid (ht.below (bAlloc (Below.refl _ _) (.cells #[.int .i64 0, .int .i64 0] 51))); have HX5 := Lib.hid (World.alloc_heap_new w5 (.cells #[.int .i64 0, .int .i64 0] 51)); have HRO := Lib.hid (Rest_ok HT5.out HTO.out k (by have := HN.out; omega)); clear ht hb)
          | (go_at_call 35; (with_reducible refine Calls.mono HRO.out ?_; rintro e w7 ⟨⟨g7, rfl, hg7, hr7⟩, ht7, hk7⟩; have HX7 := Lib.hid (hk7.heap HX5.out (box_ne HX5.out HT5.out.3 (by decide)) (tb_ne HT5.out HX5.out (by decide))); have HR7 := Lib.hid hr7; have HB7 : Hid (Below wr.heap.size wr w7) := Lib.hid ((bAlloc' HB5.out HB5.out.size _).trans (hk7.below (by have := HB5.out.size; simp; omega) (by have := HT5.out.1; have := HB2.out.size; omega) (by have := HT5.out.1; have := HB2.out.size; omega))); have y0 := cell_of_heap (j := 0) HX7.out (show 0 < 2 by omega); have y1 := cell_of_heap (j := 1) HX7.out (show 1 < 2 by omega); have y2 := cell_lt y0; simp at y0 y1; clear hr7 hk7 ht7 hg7)))
        all_goals first | (exfalso; omega) | skip
        have HQU := Lib.hid HPU.out.2.2
        clear y0 y1 y2
        have hkq : k - 1 = q := by have := HQ.out; omega
        rw [hkq] at HQU
        obtain ⟨H, hH⟩ : ∃ H, quH al k ps 1 (nxtF al ps 0 [⟨0, x⟩] (fun _ => 0)) = H := ⟨_, rfl⟩
        rw [hH] at HR7 HQU
        clear hH hkq
        go_loopw [19] (fun i wr => ∃ t : Nat, t ≤ q ∧ i = .int .i64 t ∧ Hid (Below w7.heap.size w7 wr)) (fun i _ => q - (intOf i).toNat)
        case atStart => exact ⟨0, Nat.zero_le _, rfl, Lib.hid (Below.refl _ _)⟩
        case round =>
          obtain ⟨t, ht, rfl, HBT⟩ := hrel
          have hr8 := rowB HR7.out HBT.out
          have HK8 := HQ.out
          by_cases hlt : t < q
          · have x0 := hr8.cell (i := t * 2) (by omega)
            have x1 := hr8.cell (i := t * 2 + 1) (by omega)
            have x2 := hr8.lt
            have e0 : hdv H k (t * 2) = 0 := by unfold hdv; rw [if_pos (by omega), if_pos (by omega), show t * 2 / 2 = t by omega, HQU.out.1 t hlt]
            have e1 : hdv H k (t * 2 + 1) = 0 := by unfold hdv; rw [if_pos (by omega), if_neg (by omega), show (t * 2 + 1) / 2 = t by omega, HQU.out.1 t hlt]
            rw [e0] at x0
            rw [e1] at x1
            have htt : (t : Int) < (q : Int) := by omega
            have htk : (t : Int) < (k : Int) := by omega
            clear e0 e1 hr8 HK8
            go_wp2_with fail
            all_goals first | (exfalso; omega) | skip
            go_roundw
            case rel => exact ⟨t + 1, by omega, by go_num, HBT⟩
            case measure => simp [intOf]; omega
          · obtain rfl : t = q := by omega
            have x0 := hr8.cell (i := t * 2) (by omega)
            have x1 := hr8.cell (i := t * 2 + 1) (by omega)
            have x2 := hr8.lt
            have e0 : hdv H k (t * 2) = x - dv := by unfold hdv; rw [if_pos (by omega), if_pos (by omega), show t * 2 / 2 = t by omega, HQU.out.2]
            have e1 : hdv H k (t * 2 + 1) = 0 := by unfold hdv; rw [if_pos (by omega), if_neg (by omega), show (t * 2 + 1) / 2 = t by omega, HQU.out.2]
            rw [e0] at x0
            rw [e1] at x1
            have htk : (t : Int) < (k : Int) := by omega
            clear e0 e1 hr8 HK8
            go_wp2_with (go_at_call 17; with_reducible refine Calls.mono (HK.out _) ?_; rintro e wk ⟨rfl, hb⟩; have HBK := Lib.hid hb; clear hb)
            all_goals first | (exfalso; omega) | skip
            go_ret
            exact ⟨rfl, by (try rw [← HBX.out]); exact bThen (bThen HB.out (bThen HB7.out HBT.out)) HBK.out⟩
end Go.Proofs.Ytbmbcbknoflpgaa
