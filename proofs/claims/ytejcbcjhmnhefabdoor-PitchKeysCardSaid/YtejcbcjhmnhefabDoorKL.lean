/- The law of keys. -/
import Derived.Test.YtejcbcjhmnhefabDoorKN
import Derived.Deep.DeepCutAuto
set_option linter.unusedSimpArgs false
set_option linter.unusedVariables false
namespace Go.Proofs.YtejcbcjhmnhefabDoor
open Go.RowKit

set_option maxRecDepth 100000 in
set_option maxHeartbeats 16000000 in
theorem lawKeys_any (l : List Note) (v : Value) (w : World) (hv : SliceV w v 6 NoteAt l) (hS : Semi w) :
    Calls Tryd.prog 3 #[v] w fun e w' => e = .returned (.bool true) ∧ Below w.heap.size w w' := by
  have HS := Lib.hid hS
  have HV := Lib.hid hv
  obtain ⟨a, c, rfl, hl, -⟩ := hv
  unfold most at hl
  have H15 : Hid (∀ W, Below w.heap.size w W → Calls Tryd.prog 5 #[] W fun e w' => e = .returned (.bool true) ∧ Below W.heap.size W w') := Lib.hid fun W hB => known_any W (HS.out.keep hB)
  have H44 : Hid (∀ W, Below w.heap.size w W → _) := Lib.hid fun W hB => refNotes_any l (.slice a l.length c) W (HV.out.keep NoteAt.stable hB)
  have H43 : Hid (∀ W, Below w.heap.size w W → _) := Lib.hid fun W hB => Sing_any l (.slice a l.length c) W (HV.out.keep NoteAt.stable hB)
  have HB10 : Hid (Below w.heap.size w w) := Lib.hid (Below.refl _ _)
  clear hS
  by_cases a1 : (l.length : Int) > 20
  · have d1 : decide ((l.length : Int) > 20) = true := decide_eq_true a1
    have HB1 := HB10
    go_enter Tryd.func3, Tryd.ntmps3
    go_wp2_with fail
    refine (H15.out _ HB1.out).mono ?_
    rintro e w9 ⟨rfl, hb⟩
    have HB9 := Lib.hid (bThen HB1.out hb)
    clear hb
    go_wp2_with fail
    go_ret
    exact ⟨rfl, HB9.out⟩
  have d1 : decide ((l.length : Int) > 20) = false := decide_eq_false a1
  cases hok : notesOk l
  · rw [hok] at H44
    clear hok
    go_enter Tryd.func3, Tryd.ntmps3
    go_wp2_with fail
    refine (H44.out _ HB10.out).mono ?_
    rintro e w1 ⟨rfl, hb⟩
    have HB1 := Lib.hid hb
    clear hb
    go_wp2_with fail
    refine (H15.out _ HB1.out).mono ?_
    rintro e w9 ⟨rfl, hb⟩
    have HB9 := Lib.hid (bThen HB1.out hb)
    clear hb
    go_wp2_with fail
    go_ret
    exact ⟨rfl, HB9.out⟩
  · rw [hok] at H44
    obtain ⟨-, hall, -⟩ := notesOk_all hok
    have HALL := Lib.hid hall
    have hslen := singTo_len hall l.length (Nat.le_refl _)
    have H43' : Hid (∀ W, Below w.heap.size w W → Calls Tryd.prog 6 #[.slice a l.length c] W fun e w' => (∃ ad cc, e = .returned (.tuple #[.slice ad (singTo l l.length).length cc, .int .i64 0]) ∧ SliceV w' (.slice ad (singTo l l.length).length cc) 1 IntAt (singTo l l.length)) ∧ Below W.heap.size W w') := Lib.hid fun W hB => (H43.out W hB).mono fun e w' ⟨h, hB⟩ => ⟨h.elim (fun x => by have hn := x.1; rw [hok] at hn; cases hn) (fun x => x.2), hB⟩
    have HAT := Lib.hid (fun n i hn hi => singTo_at (l := l) (n := n) (i := i) hn hi)
    have HST := Lib.hid (fun n hn => singTo_step (l := l) (n := n) hn)
    have HZ : Hid ((singTo l 0).length = 0) := Lib.hid rfl
    obtain ⟨M, hM⟩ : ∃ M, M = (singTo l l.length).length := ⟨_, rfl⟩
    rw [← hM] at H43' hslen
    have HM := Lib.hid hM
    clear hok H43 hall hM
    go_enter Tryd.func3, Tryd.ntmps3
    go_wp2_with fail
    refine (H44.out _ HB10.out).mono ?_
    rintro e w1 ⟨rfl, hb⟩
    have HB1 := Lib.hid hb
    clear hb
    go_wp2_with fail
    refine (H43'.out _ HB1.out).mono ?_
    rintro e w2 ⟨⟨ad, cc, rfl, hsv⟩, hb⟩
    replace HB1 := Lib.hid (bThen HB1.out hb)
    have HSV := Lib.hid hsv
    clear hb hsv
    go_wp2_with fail
    go_loopw [5, 6] (fun at_ nn wr => ∃ n : Nat, n ≤ l.length ∧ nn = .int .i64 n ∧ at_ = .int .i64 ((singTo l n).length : Int) ∧ Hid (Below w2.heap.size w2 wr)) (fun _ nn _ => l.length - (intOf nn).toNat)
    case atStart => exact ⟨0, Nat.zero_le _, rfl, by rw [HZ.out]; rfl, Lib.hid (Below.refl _ _)⟩
    case round =>
      obtain ⟨n, hn, rfl, rfl, HB2⟩ := hrel
      by_cases hlt : n < l.length
      · obtain ⟨nb, no, rfl, c0, c1, c2, c3, c4, c5⟩ := note_at (HV.out.keep NoteAt.stable (bThen HB1.out HB2.out)) hlt
        have hx := HALL.out l[n] (List.getElem_mem hlt)
        have hxi := noteOk_in hx
        have HSTEP0 := Lib.hid (HST.out n hlt)
        have hlnb := cell_lt c0
        have HX := Lib.hid hx
        have HYC0 : Hid (∀ i : Nat, i < l[n].length.toNat → ∀ W, Below w2.heap.size w2 W → (singTo l n).length + i < M ∧ ∃ vb vo, ad = some ⟨vb, vo, none⟩ ∧ W.cell? ⟨vb, vo + ((singTo l n).length + i), none⟩ = some (.int .i64 (centsAt (keyBefore l n) l[n] i))) := Lib.hid fun i hi W hB => by
          obtain ⟨h1, h2⟩ := HAT.out n i hlt hi
          rw [← HM.out] at h1
          refine ⟨h1, ?_⟩
          obtain ⟨vb, vo, hvb, hf⟩ := (HSV.out.keep IntAt.stable hB).at (by intro h; have := HM.out; simp [h] at this; omega)
          refine ⟨vb, vo, hvb, ?_⟩
          have h3 := hf ((singTo l n).length + i) (by rw [← HM.out]; exact h1)
          unfold IntAt at h3
          rw [Nat.mul_one, ← getD_at, h2] at h3
          exact h3
        obtain ⟨vb, vo, hvb, -⟩ := (HYC0.out 0 (by omega) w2 (Below.refl _ _)).2
        subst hvb
        have HYC : Hid (∀ i : Nat, i < l[n].length.toNat → ∀ W, Below w2.heap.size w2 W → (singTo l n).length + i < M ∧ W.cell? ⟨vb, vo + ((singTo l n).length + i), none⟩ = some (.int .i64 (centsAt (keyBefore l n) l[n] i))) := Lib.hid fun i hi W hB => by
          obtain ⟨h1, vb', vo', he, h2⟩ := HYC0.out i hi W hB
          simp only [Option.some.injEq, Addr.mk.injEq, and_true] at he
          obtain ⟨rfl, rfl⟩ := he
          exact ⟨h1, h2⟩
        clear hx HYC0
        obtain ⟨S, hS⟩ : ∃ S, S = (singTo l n).length := ⟨_, rfl⟩
        obtain ⟨L, hL⟩ : ∃ L : Nat, L = l[n].length.toNat := ⟨_, rfl⟩
        have hLx : l[n].length = (L : Int) := by omega
        rw [← hS, ← hL] at HSTEP0
        rw [← hS, ← hL] at HYC
        rw [← hS]
        have HPK : Hid (∀ q (h : q < l.length), n = q + 1 → ∀ W, Below w2.heap.size w2 W → W.cell? ⟨nb, no + q * 6, none⟩ = some (.int .i64 (keyBefore l n))) := Lib.hid fun q h e W hB => by
          subst e
          have h1 : keyBefore l (q + 1) = l[q].key := by unfold keyBefore; rw [Nat.add_sub_cancel, List.getElem?_eq_getElem h]
          rw [h1]
          obtain ⟨b', o', he, c0', -⟩ := note_at (HV.out.keep NoteAt.stable (bThen HB1.out hB)) h
          simp only [Option.some.injEq, Addr.mk.injEq, and_true] at he
          obtain ⟨rfl, rfl⟩ := he
          exact c0'
        have HPI : Hid (0 ≤ keyBefore l n ∧ keyBefore l n ≤ 119) := Lib.hid (by
          unfold keyBefore
          rw [List.getElem?_eq_getElem (show n - 1 < l.length by omega)]
          exact (noteOk_in (HALL.out l[n - 1] (List.getElem_mem _))).1)
        have HPZ : Hid (n = 0 → keyBefore l n = l[n].key) := Lib.hid fun e => by
          subst e; unfold keyBefore; rw [Nat.zero_sub, List.getElem?_eq_getElem hlt]
        generalize keyBefore l n = pk at *
        generalize hxe : l[n] = x at *
        rw [hLx] at c1
        clear hL hS hxe
        obtain ⟨b7, hb7⟩ : ∃ b7, b7 = wr.heap.size := ⟨_, rfl⟩
        go_wp2_with fail
        rw [← hb7]
        generalize hW4 : World.alloc wr _ = W4
        have f0 : W4.cell? ⟨b7, 0, none⟩ = some (.int .i64 x.key) := by rw [← hW4, hb7]; exact cell_new rfl
        have f1 : W4.cell? ⟨b7, 1, none⟩ = some (.int .i64 L) := by rw [← hW4, hb7]; exact cell_new rfl
        have f2 : W4.cell? ⟨b7, 2, none⟩ = some (.int .i64 x.glide) := by rw [← hW4, hb7]; exact cell_new rfl
        have f3 : W4.cell? ⟨b7, 3, none⟩ = some (.int .i64 x.delay) := by rw [← hW4, hb7]; exact cell_new rfl
        have f4 : W4.cell? ⟨b7, 4, none⟩ = some (.int .i64 x.depth) := by rw [← hW4, hb7]; exact cell_new rfl
        have f5 : W4.cell? ⟨b7, 5, none⟩ = some (.int .i64 x.period) := by rw [← hW4, hb7]; exact cell_new rfl
        have HB3 : Hid (Below w2.heap.size w2 W4) := Lib.hid (bThen HB2.out (by rw [← hW4]; exact bAlloc (Below.refl _ _) _))
        clear hW4 hb7 HB2 c0 c1 c2 c3 c4 c5 hlnb
        have hlf := cell_lt f0
        refine wp_opaque fun Q2 hQ2 => ?_
        (refine wp_region_below (by kernel_rfl) (by kernel_rfl) ?_; (repeat (first | go_big_quiet_step ((fail)) | quiet_step ((fail)))); (refine wpQuiet_nil ?_; intro _ hw'; obtain ⟨xq, hw''⟩ := hw'; subst hw''))
        have HB2 := Lib.hid (bThen HB3.out xq.2)
        replace f0 := keep xq.2 f0
        replace f1 := keep xq.2 f1
        replace f2 := keep xq.2 f2
        replace f3 := keep xq.2 f3
        replace f4 := keep xq.2 f4
        replace f5 := keep xq.2 f5
        refine hQ2 _ _ _ ?_
        clear hQ2 Q2 hlf HB3
        generalize xq.val = wB at *
        have hlf := cell_lt f0
        have hpi := HPI.out
        have w1 : IntKind.i64.wrap (100 * x.key) = 100 * x.key := IntWalk.i64_in _ (by omega)
        have w2' : IntKind.i64.wrap (100 * pk) = 100 * pk := IntWalk.i64_in _ (by omega)
        have HW12 := Lib.hid (And.intro w1 w2')
        obtain ⟨gl, hgl⟩ : ∃ gl : Bool, gl = (decide (0 < n) && decide (x.glide > 0)) := ⟨_, rfl⟩
        have HGL := Lib.hid hgl
        clear hgl
        go_upto_region 12 with fail
        go_cut [49] (fun b wc => b = .bool gl ∧ wB = wc)
        case first =>
          by_cases c1 : n = 0
          · have hb : gl = false := by rw [HGL.out, c1]; rfl
            have HBF := Lib.hid hb
            clear hb
            have d1' : ¬ ((n : Int) > 0) := by omega
            have d2' : decide ((n : Int) > 0) = false := decide_eq_false d1'
            clear c1
            go_wp2_with fail
            go_meet
            case rel => exact ⟨by rw [HBF.out], rfl⟩
          · have d0 : 0 < n := by omega
            have d1' : (n : Int) > 0 := by omega
            have d2' : decide ((n : Int) > 0) = true := decide_eq_true d1'
            by_cases c2 : x.glide > 0
            · have hb : gl = true := by rw [HGL.out, decide_eq_true (by omega), decide_eq_true c2]; rfl
              have HBF := Lib.hid hb
              clear hb
              have d3 : decide (x.glide > 0) = true := decide_eq_true c2
              go_wp2_with fail
              go_meet
              case rel => exact ⟨by rw [HBF.out], rfl⟩
            · have hb : gl = false := by rw [HGL.out, decide_eq_false c2, Bool.and_false]
              have HBF := Lib.hid hb
              clear hb
              have d3 : decide (x.glide > 0) = false := decide_eq_false c2
              go_wp2_with fail
              go_meet
              case rel => exact ⟨by rw [HBF.out], rfl⟩
        case rest =>
        obtain ⟨rfl, hwc⟩ := hcut
        subst hwc
        go_upto_if 49 with fail
        go_cut [8, 9] (fun x8 x9 wc => ∃ lw hg : Int, x8 = .int .i64 lw ∧ x9 = .int .i64 hg ∧ (lw ≤ 100 * x.key ∧ 100 * x.key ≤ hg) ∧ (x.glide > 0 → lw ≤ 100 * pk ∧ 100 * pk ≤ hg) ∧ (0 ≤ lw ∧ hg ≤ 11900) ∧ Hid (Below wB.heap.size wB wc))
        case first =>
          cases hg0 : gl
          · have hpz : x.glide > 0 → pk = x.key := fun h => by
              have := HGL.out
              rw [hg0, decide_eq_true h, Bool.and_true] at this
              exact HPZ.out (by have := of_decide_eq_false this.symm; omega)
            have HPZ' := Lib.hid hpz
            clear hpz hg0
            go_wp2_with fail
            go_meet
            case rel => exact ⟨100 * x.key, 100 * x.key, rfl, rfl, by omega, fun h => by have := HPZ'.out h; omega, by omega, Lib.hid (Below.refl _ _)⟩
          · have hnp : 0 < n := by
              have := HGL.out
              rw [hg0] at this
              have h2 := (Bool.and_eq_true _ _ ▸ this.symm : _ ∧ _).1
              exact of_decide_eq_true h2
            obtain ⟨q, hq⟩ : ∃ q, n = q + 1 := ⟨n - 1, by omega⟩
            have cq := HPK.out q (by omega) hq wB HB2.out
            have hlq := cell_lt cq
            have i6 : (n : Int) - 1 = (q : Int) := by omega
            have i7 : (q : Int) < (l.length : Int) := by omega
            have HQQ := Lib.hid hq
            clear hg0 hq
            by_cases m1 : 100 * pk < 100 * x.key
            · have m2 : ¬ (100 * x.key < 100 * pk) := by omega
              go_wp2_with fail
              refine wp_opaque fun Q2 hQ2 => ?_
              (refine wp_region_below (by kernel_rfl) (by kernel_rfl) ?_; (repeat (first | go_big_quiet_step ((fail)) | quiet_step ((fail)))); (refine wpQuiet_nil ?_; intro _ hw'; obtain ⟨xq, hw''⟩ := hw'; subst hw''))
              refine hQ2 _ _ _ ?_
              clear hQ2 Q2
              have HBN := Lib.hid xq.2
              go_wp2_with fail
              go_meet
              case rel => exact ⟨100 * pk, 100 * x.key, rfl, rfl, by omega, fun h => by omega, by omega, HBN⟩
            · by_cases m2 : 100 * x.key < 100 * pk
              · go_wp2_with fail
                refine wp_opaque fun Q2 hQ2 => ?_
                (refine wp_region_below (by kernel_rfl) (by kernel_rfl) ?_; (repeat (first | go_big_quiet_step ((fail)) | quiet_step ((fail)))); (refine wpQuiet_nil ?_; intro _ hw'; obtain ⟨xq, hw''⟩ := hw'; subst hw''))
                refine hQ2 _ _ _ ?_
                clear hQ2 Q2
                have HBN := Lib.hid xq.2
                go_wp2_with fail
                go_meet
                case rel => exact ⟨100 * x.key, 100 * pk, rfl, rfl, by omega, fun h => by omega, by omega, HBN⟩
              · go_wp2_with fail
                refine wp_opaque fun Q2 hQ2 => ?_
                (refine wp_region_below (by kernel_rfl) (by kernel_rfl) ?_; (repeat (first | go_big_quiet_step ((fail)) | quiet_step ((fail)))); (refine wpQuiet_nil ?_; intro _ hw'; obtain ⟨xq, hw''⟩ := hw'; subst hw''))
                refine hQ2 _ _ _ ?_
                clear hQ2 Q2
                have HBN := Lib.hid xq.2
                go_wp2_with fail
                go_meet
                case rel => exact ⟨100 * x.key, 100 * x.key, rfl, rfl, by omega, fun h => by omega, by omega, HBN⟩
        case rest =>
        obtain ⟨lw, hg, rfl, rfl, hk1, hk2, hk3, HBC⟩ := hcut
        have HBOX : Hid (∀ W, Below wc.heap.size wc W → W.cell? ⟨b7, 0, none⟩ = some (.int .i64 x.key) ∧ W.cell? ⟨b7, 1, none⟩ = some (.int .i64 L) ∧ W.cell? ⟨b7, 2, none⟩ = some (.int .i64 x.glide) ∧ W.cell? ⟨b7, 3, none⟩ = some (.int .i64 x.delay) ∧ W.cell? ⟨b7, 4, none⟩ = some (.int .i64 x.depth) ∧ W.cell? ⟨b7, 5, none⟩ = some (.int .i64 x.period)) := Lib.hid fun W hB => (fun hB => ⟨keep hB f0, keep hB f1, keep hB f2, keep hB f3, keep hB f4, keep hB f5⟩) (bThen HBC.out hB)
        replace HB2 := Lib.hid (bThen HB2.out HBC.out)
        have HKO : Hid (∀ i : Nat, KeyOk x pk lw hg (centsAt pk x i) i) := Lib.hid fun i => cents_ok HX.out hk1 hk2
        clear f0 f1 f2 f3 f4 f5 hlf hk1 hk2 HBC
        obtain ⟨g0, g1, -⟩ := HBOX.out wc (Below.refl _ _)
        have hlg := cell_lt g0
        go_wp2_with fail
        clear g0 g1 hlg
        obtain ⟨wq, hwq⟩ : ∃ wq, wq = wc := ⟨_, rfl⟩
        subst hwq
        have HSTEP : Hid ((singTo l (n + 1)).length = S + L) := HSTEP0
        have HYC' : Hid (∀ i : Nat, i < L → S + i < M ∧ ∀ W, Below wq.heap.size wq W → W.cell? ⟨vb, vo + (S + i), none⟩ = some (.int .i64 (centsAt pk x i))) := Lib.hid fun i hi => ⟨(HYC.out i hi wq HB2.out).1, fun W hB => (HYC.out i hi W (bThen HB2.out hB)).2⟩
        have HPK' : Hid (∀ q (h : q < l.length), n = q + 1 → ∀ W, Below wq.heap.size wq W → W.cell? ⟨nb, no + q * 6, none⟩ = some (.int .i64 pk)) := Lib.hid fun q h e W hB => HPK.out q h e W (bThen HB2.out hB)
        have HFST : Hid (x.glide > 0 → centsAt pk x (0 : Nat) = 100 * pk) := Lib.hid fun h => cents_first HX.out h
        clear HYC HPK
        go_loopw [5, 10] (fun at_ ii wr => ∃ i : Nat, i ≤ L ∧ ii = .int .i64 i ∧ at_ = .int .i64 ((S + i : Nat) : Int) ∧ Hid (Below wq.heap.size wq wr)) (fun _ ii _ => L - (intOf ii).toNat)
        case atStart => exact ⟨0, Nat.zero_le _, rfl, rfl, Lib.hid (Below.refl _ _)⟩
        case round =>
          obtain ⟨i, hi, rfl, rfl, HBi⟩ := hrel
          obtain ⟨b0, b1, b2, b3, b4, b5⟩ := HBOX.out wr HBi.out
          have hlb := cell_lt b0
          by_cases hlt2 : i < L
          · have i2 : (i : Int) < (L : Int) := by omega
            obtain ⟨hS1, hye⟩ := HYC'.out i hlt2
            have HK := Lib.hid (HKO.out i)
            have hKge := HK.out.ge
            have hKle := HK.out.le
            have HF0 : Hid (i = 0 → x.glide > 0 → centsAt pk x i = 100 * pk) := Lib.hid fun e h => by subst e; exact HFST.out h
            have HSL : Hid (((S + i : Nat) : Int) + 1 = ((S + (i + 1) : Nat) : Int)) := Lib.hid (by omega)
            generalize centsAt pk x i = y at *
            have HYE := Lib.hid hye
            have ey := hye wr HBi.out
            have hly := cell_lt ey
            have n1 : ¬ (y < lw - x.depth) := by omega
            have n2 : ¬ (y > hg + x.depth) := by omega
            have n3 : decide (y < lw - x.depth) = false := decide_eq_false n1
            have n4 : decide (y > hg + x.depth) = false := decide_eq_false n2
            have n7 : IntKind.i64.wrap (lw - x.depth) = lw - x.depth := IntWalk.i64_in _ (by omega)
            have n8 : IntKind.i64.wrap (hg + x.depth) = hg + x.depth := IntWalk.i64_in _ (by omega)
            obtain ⟨at_, hat⟩ : ∃ at_ : Nat, at_ = S + i := ⟨_, rfl⟩
            rw [← hat] at ey hS1 HSL HYE ⊢
            have n5 : ¬ ((at_ : Int) ≥ (M : Int)) := by omega
            have n6 : decide ((at_ : Int) ≥ (M : Int)) = false := decide_eq_false n5
            have n9 : (at_ : Int) < (M : Int) := by omega
            clear hye hKge hKle hat
            go_upto_region 17 with fail
            go_cut [99] (fun b wd => b = .bool false ∧ Hid (Below wq.heap.size wq wd))
            case first =>
              refine wp_opaque fun Q2 hQ2 => ?_
              (refine wp_region_below (by kernel_rfl) (by kernel_rfl) ?_; (repeat (first | go_big_quiet_step ((fail)) | quiet_step ((fail)))); (refine wpQuiet_nil ?_; intro _ hw'; obtain ⟨xq, hw''⟩ := hw'; subst hw''))
              refine hQ2 _ _ _ ?_
              clear hQ2 Q2
              have HBN := Lib.hid (bThen HBi.out xq.2)
              go_wp2_with fail
              go_meet
              case rel => exact ⟨rfl, HBN⟩
            case rest =>
            obtain ⟨rfl, HBd⟩ := hcut
            clear b0 b1 b2 b3 b4 b5 hlb ey hly n1 n2 n3 n4 n5 n6 n7 n8 HBi
            obtain ⟨wy, hwy⟩ : ∃ wy, wy = wc := ⟨_, rfl⟩
            subst hwy
            obtain ⟨b0, b1, b2, b3, b4, b5⟩ := HBOX.out wy HBd.out
            have hlb := cell_lt b0
            have ey := HYE.out wy HBd.out
            have hly := cell_lt ey
            go_upto_region 19 with fail
            go_cut [124] (fun b wd => b = .bool false ∧ Hid (Below wq.heap.size wq wd))
            case first =>
              by_cases c1 : i = 0
              · have d1'' : ((i : Int) == 0) = true := by simp; omega
                by_cases c2 : n = 0
                · have d2' : ¬ (0 < n) := by omega
                  have d2'' : ¬ ((n : Int) > 0) := by omega
                  have C1 := Lib.hid c1
                  clear c1 c2
                  refine wp_opaque fun Q2 hQ2 => ?_
                  (refine wp_region_below (by kernel_rfl) (by kernel_rfl) ?_; (repeat (first | go_big_quiet_step ((fail)) | quiet_step ((fail)))); (refine wpQuiet_nil ?_; intro _ hw'; obtain ⟨xq, hw''⟩ := hw'; subst hw''))
                  refine hQ2 _ _ _ ?_
                  clear hQ2 Q2
                  have HBN := Lib.hid (bThen HBd.out xq.2)
                  go_wp2_with fail
                  go_meet
                  case rel => exact ⟨rfl, HBN⟩
                · have d2' : 0 < n := by omega
                  have d2'' : (n : Int) > 0 := by omega
                  by_cases c3 : x.glide > 0
                  · have d3 : decide (x.glide > 0) = true := decide_eq_true c3
                    obtain ⟨q, hq⟩ : ∃ q, n = q + 1 := ⟨n - 1, by omega⟩
                    have cq := HPK'.out q (by omega) hq wy HBd.out
                    have hlq := cell_lt cq
                    have i6 : (n : Int) - 1 = (q : Int) := by omega
                    have i7 : (q : Int) < (l.length : Int) := by omega
                    have hyv := HF0.out c1 c3
                    have e4 : (y != 100 * pk) = false := by simp [hyv]
                    have e5 : (y == 100 * pk) = true := by simp [hyv]
                    have C1 := Lib.hid (And.intro c1 (And.intro hq hyv))
                    clear c1 c2 hq hyv
                    refine wp_opaque fun Q2 hQ2 => ?_
                    (refine wp_region_below (by kernel_rfl) (by kernel_rfl) ?_; (repeat (first | go_big_quiet_step ((fail)) | quiet_step ((fail)))); (refine wpQuiet_nil ?_; intro _ hw'; obtain ⟨xq, hw''⟩ := hw'; subst hw''))
                    refine hQ2 _ _ _ ?_
                    clear hQ2 Q2
                    have HBN := Lib.hid (bThen HBd.out xq.2)
                    go_wp2_with fail
                    go_meet
                    case rel => exact ⟨rfl, HBN⟩
                  · have d3 : decide (x.glide > 0) = false := decide_eq_false c3
                    have C1 := Lib.hid c1
                    clear c1
                    refine wp_opaque fun Q2 hQ2 => ?_
                    (refine wp_region_below (by kernel_rfl) (by kernel_rfl) ?_; (repeat (first | go_big_quiet_step ((fail)) | quiet_step ((fail)))); (refine wpQuiet_nil ?_; intro _ hw'; obtain ⟨xq, hw''⟩ := hw'; subst hw''))
                    refine hQ2 _ _ _ ?_
                    clear hQ2 Q2
                    have HBN := Lib.hid (bThen HBd.out xq.2)
                    go_wp2_with fail
                    go_meet
                    case rel => exact ⟨rfl, HBN⟩
              · have d1' : ¬ ((i : Int) = 0) := by omega
                have d1'' : ((i : Int) == 0) = false := by simp; omega
                refine wp_opaque fun Q2 hQ2 => ?_
                (refine wp_region_below (by kernel_rfl) (by kernel_rfl) ?_; (repeat (first | go_big_quiet_step ((fail)) | quiet_step ((fail)))); (refine wpQuiet_nil ?_; intro _ hw'; obtain ⟨xq, hw''⟩ := hw'; subst hw''))
                refine hQ2 _ _ _ ?_
                clear hQ2 Q2
                have HBN := Lib.hid (bThen HBd.out xq.2)
                go_wp2_with fail
                go_meet
                case rel => exact ⟨rfl, HBN⟩
            case rest =>
            obtain ⟨rfl, HBe⟩ := hcut
            clear b0 b1 b2 b3 b4 b5 hlb ey hly HBd
            obtain ⟨wz, hwz⟩ : ∃ wz, wz = wc := ⟨_, rfl⟩
            subst hwz
            obtain ⟨b0, b1, b2, b3, b4, b5⟩ := HBOX.out wz HBe.out
            have hlb := cell_lt b0
            have ey := HYE.out wz HBe.out
            have hly := cell_lt ey
            go_upto_region 21 with fail
            go_cut [149] (fun b wd => b = .bool false ∧ Hid (Below wq.heap.size wq wd))
            case first =>
              by_cases e1 : (i : Int) ≥ x.glide
              · have d1' : decide ((i : Int) ≥ x.glide) = true := decide_eq_true e1
                by_cases e2 : x.depth = 0
                · have d2' : (x.depth == 0) = true := by simp [e2]
                  have hyv := HK.out.late e1 (.inl e2)
                  have e4 : (y != 100 * x.key) = false := by simp [hyv]
                  have e5 : (y == 100 * x.key) = true := by simp [hyv]
                  have C1 := Lib.hid hyv
                  clear hyv
                  refine wp_opaque fun Q2 hQ2 => ?_
                  (refine wp_region_below (by kernel_rfl) (by kernel_rfl) ?_; (repeat (first | go_big_quiet_step ((fail)) | quiet_step ((fail)))); (refine wpQuiet_nil ?_; intro _ hw'; obtain ⟨xq, hw''⟩ := hw'; subst hw''))
                  refine hQ2 _ _ _ ?_
                  clear hQ2 Q2
                  have HBN := Lib.hid (bThen HBe.out xq.2)
                  go_wp2_with fail
                  go_meet
                  case rel => exact ⟨rfl, HBN⟩
                · have d2' : (x.depth == 0) = false := by simp [e2]
                  by_cases e3 : (i : Int) ≤ x.delay
                  · have d3 : decide ((i : Int) ≤ x.delay) = true := decide_eq_true e3
                    have hyv := HK.out.late e1 (.inr e3)
                    have e4 : (y != 100 * x.key) = false := by simp [hyv]
                    have e5 : (y == 100 * x.key) = true := by simp [hyv]
                    have C1 := Lib.hid hyv
                    clear hyv
                    refine wp_opaque fun Q2 hQ2 => ?_
                    (refine wp_region_below (by kernel_rfl) (by kernel_rfl) ?_; (repeat (first | go_big_quiet_step ((fail)) | quiet_step ((fail)))); (refine wpQuiet_nil ?_; intro _ hw'; obtain ⟨xq, hw''⟩ := hw'; subst hw''))
                    refine hQ2 _ _ _ ?_
                    clear hQ2 Q2
                    have HBN := Lib.hid (bThen HBe.out xq.2)
                    go_wp2_with fail
                    go_meet
                    case rel => exact ⟨rfl, HBN⟩
                  · have d3 : decide ((i : Int) ≤ x.delay) = false := decide_eq_false e3
                    refine wp_opaque fun Q2 hQ2 => ?_
                    (refine wp_region_below (by kernel_rfl) (by kernel_rfl) ?_; (repeat (first | go_big_quiet_step ((fail)) | quiet_step ((fail)))); (refine wpQuiet_nil ?_; intro _ hw'; obtain ⟨xq, hw''⟩ := hw'; subst hw''))
                    refine hQ2 _ _ _ ?_
                    clear hQ2 Q2
                    have HBN := Lib.hid (bThen HBe.out xq.2)
                    go_wp2_with fail
                    go_meet
                    case rel => exact ⟨rfl, HBN⟩
              · have d1' : decide ((i : Int) ≥ x.glide) = false := decide_eq_false e1
                refine wp_opaque fun Q2 hQ2 => ?_
                (refine wp_region_below (by kernel_rfl) (by kernel_rfl) ?_; (repeat (first | go_big_quiet_step ((fail)) | quiet_step ((fail)))); (refine wpQuiet_nil ?_; intro _ hw'; obtain ⟨xq, hw''⟩ := hw'; subst hw''))
                refine hQ2 _ _ _ ?_
                clear hQ2 Q2
                have HBN := Lib.hid (bThen HBe.out xq.2)
                go_wp2_with fail
                go_meet
                case rel => exact ⟨rfl, HBN⟩
            case rest =>
            obtain ⟨rfl, HBf⟩ := hcut
            clear b0 b1 b2 b3 b4 b5 hlb ey hly HBe
            go_wp2_with fail
            go_roundw
            case rel =>
              first
                | exact ⟨i + 1, by omega, by go_num, by rw [HSL.out], HBf⟩
                | ((repeat apply Exists.intro); refine ⟨?_, rfl⟩; exact ⟨i + 1, by omega, by go_num, by rw [HSL.out], HBf⟩)
            case measure => simp [intOf]; omega
          · obtain rfl : i = L := by omega
            rw [← HSTEP.out]
            have HB7 := Lib.hid (bThen HB2.out HBi.out)
            go_wp2_with fail
            go_roundw
            case rel =>
              first
                | exact ⟨n + 1, by omega, by go_num, rfl, HB7⟩
                | ((repeat apply Exists.intro); refine ⟨?_, rfl⟩; exact ⟨n + 1, by omega, by go_num, rfl, HB7⟩)
            case measure => simp [intOf]; omega
      · obtain rfl : n = l.length := by omega
        have HME : Hid (((singTo l l.length).length : Int) = (M : Int)) := Lib.hid (by rw [← HM.out])
        rw [HME.out]
        replace HB1 := Lib.hid (bThen HB1.out HB2.out)
        go_wp2_with fail
        refine (H15.out _ HB1.out).mono ?_
        rintro e w9 ⟨rfl, hb⟩
        have HB9 := Lib.hid (bThen HB1.out hb)
        clear hb
        go_wp2_with fail
        go_ret
        exact ⟨rfl, HB9.out⟩
end Go.Proofs.YtejcbcjhmnhefabDoor
