/- The specification's singing; the law of notes sung. -/
import Derived.Test.YtejcbcjhmnhefaaDoorL8
set_option linter.unusedSimpArgs false
set_option linter.unusedVariables false
namespace Go.Proofs.YtejcbcjhmnhefaaDoor
open Go.RowKit

theorem centsAt_eq (k : Int) (x : Note) (f : Int) : centsAt k x f = 100 * x.key + vibC x.delay x.depth x.period f + glideC (k - x.key) x.glide f := by unfold centsAt; omega
set_option maxRecDepth 100000 in
set_option maxHeartbeats 16000000 in
theorem refSing_any (l : List Note) (v : Value) (w : World) (hv : SliceV w v 6 NoteAt l) (hok : ∀ x ∈ l, noteOk x = true) (hl : l.length ≤ 100) :
    Calls Tryd.prog 45 #[v] w fun e w' => (∃ u, e = .returned u ∧ SliceV w' u 1 IntAt (singTo l l.length)) ∧ Below w.heap.size w w' := by
  have HV := Lib.hid hv
  have HOK := Lib.hid hok
  obtain ⟨a, c, rfl, -, -⟩ := hv
  clear hok
  obtain ⟨i3, hi3, hz3, hs3, hb3⟩ := info_parts info3
  have HI := Lib.hid hi3
  clear hi3
  go_enter Tryd.func45, Tryd.ntmps45
  go_wp2_with fail
  go_loopw [3, 4] (fun u i wr => ∃ n : Nat, n ≤ l.length ∧ i = .int .i64 n ∧ Hid (wr.ownsRow w.heap.size 3 1 u (singTo l n).length (intV (singTo l n))) ∧ Hid (Below w.heap.size w wr)) (fun _ i _ => l.length - (intOf i).toNat)
  case atStart => exact ⟨0, Nat.zero_le _, rfl, Lib.hid own_nil, Lib.hid (Below.refl _ _)⟩
  case round =>
    obtain ⟨n, hn, rfl, HR, HB⟩ := hrel
    by_cases hlt : n < l.length
    · obtain ⟨b, o, rfl, k0', k1, k2, k3, k4, k5⟩ := note_at (HV.out.keep NoteAt.stable HB.out) hlt
      have hp1 : n - 1 < l.length := by omega
      have HPK : Hid (∀ j, n = j + 1 → w.cell? ⟨b, o + j * 6, none⟩ = some (.int .i64 (keyBefore l n))) := Lib.hid fun j hj => by
        have hjl : j < l.length := by omega
        obtain ⟨b2, o2, e2, h2⟩ := note_at HV.out hjl
        injection e2 with e2
        injection e2 with e3 e4
        subst e3 e4
        have h3 : keyBefore l n = l[j].key := by
          unfold keyBefore
          rw [hj, Nat.add_sub_cancel, List.getElem?_eq_getElem hjl]
        rw [h3]; exact h2.1
      have hkb := cell_lt k0'
      have hx := noteOk_in (HOK.out _ (List.getElem_mem hlt))
      have hy := (noteOk_in (HOK.out _ (List.getElem_mem hp1))).1
      have hkey : keyBefore l n = l[n - 1].key := by simp [keyBefore, List.getElem?_eq_getElem hp1]
      have HK0 : Hid (n = 0 → keyBefore l n = l[n].key) := Lib.hid fun h => by subst h; exact hkey
      rw [← hkey] at hy
      have hget : l[n]? = some l[n] := List.getElem?_eq_getElem hlt
      have HGET := Lib.hid hget
      have hxo := HOK.out _ (List.getElem_mem hlt)
      have HXO := Lib.hid hxo
      have hdl := singTo_len HOK.out n hn
      clear hget hxo hkey
      generalize l[n] = x at *
      have hnx := singTo_succ l n x HGET.out
      generalize hkbe : keyBefore l n = k0 at *
      clear hkbe
      obtain ⟨D, hD⟩ : ∃ D, D = singTo l n := ⟨_, rfl⟩
      rw [← hD] at hnx HR hdl
      have HNX := Lib.hid hnx
      obtain ⟨L, hL⟩ : ∃ L : Nat, x.length = (L : Int) := ⟨x.length.toNat, by omega⟩
      rw [hL, Int.toNat_natCast] at HNX
      have hL1 : L ≤ 1000 := by omega
      have HLX := Lib.hid hL
      clear hD hnx
      go_wp2_with fail
      generalize hW : World.alloc wr _ = W1
      obtain ⟨pb, hpb⟩ : ∃ pb, pb = wr.heap.size := ⟨_, rfl⟩
      have hp : W1.heap[pb]? = some (.cells #[.int .i64 x.key, .int .i64 (L : Int), .int .i64 x.glide, .int .i64 x.delay, .int .i64 x.depth, .int .i64 x.period] 68 (0, 0)) := by
        rw [← hW, hpb]; exact World.alloc_heap_new wr _
      have hB1 : Below wr.heap.size wr W1 := by rw [← hW]; exact bAlloc (Below.refl _ _) _
      rw [← hpb]
      have HP := Lib.hid hp
      have HR1 : Hid (W1.ownsRow w.heap.size 3 1 u3 (D.length + 0) (intV (D ++ partL k0 x 0))) := Lib.hid (by simpa [partL] using ownsRow_below HR.out hB1)
      have HW1 := Lib.hid (bThen HB.out hB1)
      clear hW hp hB1 hpb k0' k1 k2 k3 k4 k5 hkb hL HR
      obtain ⟨wo, hwo⟩ : ∃ wo, wo = wr := ⟨_, rfl⟩
      subst hwo
      go_loopw [3, 6] (fun u i wr => ∃ f : Nat, f ≤ L ∧ i = .int .i64 f ∧ Hid (wr.ownsRow w.heap.size 3 1 u (D.length + f) (intV (D ++ partL k0 x f))) ∧ Hid (wr.heap[pb]? = some (.cells #[.int .i64 x.key, .int .i64 (L : Int), .int .i64 x.glide, .int .i64 x.delay, .int .i64 x.depth, .int .i64 x.period] 68 (0, 0))) ∧ Hid (Below w.heap.size w wr)) (fun _ i _ => L - (intOf i).toNat)
      case atStart => exact ⟨0, Nat.zero_le _, rfl, HR1, HP, HW1⟩
      case round =>
        obtain ⟨f, hfl, rfl, HR2, HP2, HB2⟩ := hrel
        have hcell : ∀ j u, (#[Value.int .i64 x.key, .int .i64 (L : Int), .int .i64 x.glide, .int .i64 x.delay, .int .i64 x.depth, .int .i64 x.period] : Array Value)[j]? = some u → wr.cell? ⟨pb, j, none⟩ = some u := fun j u h => by simp only [World.cell?, HP2.out]; simpa using h
        have q0 : wr.cell? ⟨pb, 0, none⟩ = some (.int .i64 x.key) := hcell 0 _ rfl
        have q1 : wr.cell? ⟨pb, 1, none⟩ = some (.int .i64 L) := hcell 1 _ rfl
        have q2 : wr.cell? ⟨pb, 2, none⟩ = some (.int .i64 x.glide) := hcell 2 _ rfl
        have q3 : wr.cell? ⟨pb, 3, none⟩ = some (.int .i64 x.delay) := hcell 3 _ rfl
        have q4 : wr.cell? ⟨pb, 4, none⟩ = some (.int .i64 x.depth) := hcell 4 _ rfl
        have q5 : wr.cell? ⟨pb, 5, none⟩ = some (.int .i64 x.period) := hcell 5 _ rfl
        have hplt : pb < wr.heap.size := (Array.getElem?_eq_some_iff.1 HP2.out).1
        clear hcell
        by_cases hlt2 : f < L
        · have hgi := glideC_in (a := k0 - x.key) (g := x.glide) (f := (f : Int)) (by omega) (by omega) (by omega) (by omega) (by omega) (by omega)
          have hvi := vibC_in (dl := x.delay) (dp := x.depth) (pr := x.period) (i := (f : Int)) (by omega) (by omega) (by omega) (by omega) (by omega) (by omega) (by omega) (by omega)
          have h66 : ∀ y : BW wr, Calls Tryd.prog 66 #[.agg #[.int .i64 x.key, .int .i64 (L : Int), .int .i64 x.glide, .int .i64 x.delay, .int .i64 x.depth, .int .i64 x.period], .int .i64 (f : Int)] y.val fun e w' => e = .returned (.int .i64 (vibC x.delay x.depth x.period f)) ∧ Below y.val.heap.size y.val w' := fun y => by
            rw [← HLX.out]
            exact refVib_any x f y.val HXO.out (by omega) (by omega)
          have HCE0 := Lib.hid (centsAt_eq k0 x f)
          go_wp2_with fail
          refine wp_opaque fun Q2 hQ2 => ?_
          (refine wp_region_below (by kernel_rfl) (by kernel_rfl) ?_; (repeat (first | go_big_quiet_step ((go_at_call 66; with_reducible exact toB h66 _)) | quiet_step ((go_at_call 66; with_reducible exact toB h66 _)))); (refine wpQuiet_nil ?_; intro _ hw'; obtain ⟨xq, hw''⟩ := hw'; subst hw''))
          refine hQ2 _ _ _ ?_
          clear hQ2 Q2 h66 q0 q1 q2 q3 q4 q5 hplt
          have hbx := xq.2
          have HR3 := Lib.hid (ownsRow_below HR2.out hbx)
          have HP3 := Lib.hid ((hbx.block pb (Array.getElem?_eq_some_iff.1 HP2.out).1).trans HP2.out)
          have HB3 := Lib.hid (bThen HB2.out hbx)
          clear hbx HR2 HP2 HB2
          generalize xq.val = W4 at *
          clear xq
          generalize vibC x.delay x.depth x.period f = vb at *
          have hcell : ∀ j u, (#[Value.int .i64 x.key, .int .i64 (L : Int), .int .i64 x.glide, .int .i64 x.delay, .int .i64 x.depth, .int .i64 x.period] : Array Value)[j]? = some u → W4.cell? ⟨pb, j, none⟩ = some u := fun j u h => by simp only [World.cell?, HP3.out]; simpa using h
          have q0 : W4.cell? ⟨pb, 0, none⟩ = some (.int .i64 x.key) := hcell 0 _ rfl
          have q2 : W4.cell? ⟨pb, 2, none⟩ = some (.int .i64 x.glide) := hcell 2 _ rfl
          have hplt : pb < W4.heap.size := (Array.getElem?_eq_some_iff.1 HP3.out).1
          clear hcell
          by_cases hg : (f : Int) < x.glide
          · have hgd : decide ((f : Int) < x.glide) = true := decide_eq_true hg
            by_cases hn0 : n = 0
            · have HCE : Hid (centsAt k0 x f = 100 * x.key + vb) := Lib.hid (by
                rw [HCE0.out, HK0.out hn0, Int.sub_self, glideC_zero (by omega)]; omega)
              have hnd : decide (0 < n) = false := decide_eq_false (by omega)
              have hnd2 : ¬ 0 < n := by omega
              have HBX := HB3
              have HRX := HR3
              have HPX := HP3
              obtain ⟨WX, hWX⟩ : ∃ WX, WX = W4 := ⟨_, rfl⟩
              subst hWX
              have HN0 := Lib.hid hn0
              clear hn0
              go_wp2_with (at_builtin; go_loud (refine wpList_append_own _ rfl _ _ 34 rfl w.heap.size 3 i3 (.int .i64 0) 1 8 Tryd.underlying34 HI.out hz3 hs3 hb3 rfl (by decide) u3 _ _ rfl (HRX.out.alloc _) ⟨WX.heap.size, 0, none⟩ 1 1 _ rfl (by rfl) (cell_one_new _ _ _) (by simp [Value.oneCell']) (by unfold maxLen; omega) (by omega) (by have := HBX.out.size; simp; omega) ?_); intro v' w5 hown' hgrow _; have HU := Lib.hid (And.intro hown' hgrow); clear hown' hgrow)
              obtain ⟨hown', hgrow⟩ := HU.out
              have HB5 := Lib.hid (HBX.out.trans (own_step HBX.out.size HRX.out hgrow))
              have HP5 := Lib.hid (block_kept hgrow (HRX.out.alloc _) ((Below.heap_alloc _ _ _ (Array.getElem?_eq_some_iff.1 HPX.out).1).trans HPX.out) (by decide))
              have HR5 : Hid (w5.ownsRow w.heap.size 3 1 v' (D.length + (f + 1)) (intV (D ++ partL k0 x (f + 1)))) := Lib.hid (by
                rw [partL_succ, HCE.out]
                have h := hown'
                rw [Nat.add_assoc] at h
                simpa [intV] using h)
              clear hown' hgrow
              go_roundw
              case rel =>
                first
                  | exact ⟨f + 1, by omega, by go_num, HR5, HP5, HB5⟩
                  | ((repeat apply Exists.intro); refine ⟨?_, rfl⟩; exact ⟨f + 1, by omega, by go_num, HR5, HP5, HB5⟩)
              case measure => simp [intOf]; omega
            · obtain ⟨j, hj⟩ : ∃ j, n = j + 1 := ⟨n - 1, by omega⟩
              have e0 := keep HB3.out (HPK.out j hj)
              have hle := cell_lt e0
              have hnd : decide (0 < n) = true := decide_eq_true (by omega)
              have hnd2 : 0 < n := by omega
              have i6 : (n : Int) - 1 = (j : Int) := by omega
              have i7 : (j : Int) < (l.length : Int) := by omega
              have hgc : glideC (k0 - x.key) x.glide f = rnd (100 * (k0 - x.key) * (x.glide - f)) x.glide := if_neg (by omega)
              have HCE : Hid (centsAt k0 x f = 100 * x.key + vb + rnd (100 * (k0 - x.key) * (x.glide - f)) x.glide) := Lib.hid (by rw [HCE0.out, hgc])
              rw [hgc] at hgi
              have hm1 := mul_in (A := 11900) (B := 1000) (show -11900 ≤ 100 * (k0 - x.key) by omega) (by omega) (show -1000 ≤ x.glide - (f : Int) by omega) (by omega)
              have w1 : IntKind.i64.wrap (100 * (k0 - x.key) * (x.glide - (f : Int))) = 100 * (k0 - x.key) * (x.glide - (f : Int)) := IntWalk.i64_in _ (by omega)
              have h50 : ∀ W, Calls Tryd.prog 50 #[.int .i64 (100 * (k0 - x.key) * (x.glide - (f : Int))), .int .i64 x.glide] W fun e w' => e = .returned (.int .i64 (rnd (100 * (k0 - x.key) * (x.glide - f)) x.glide)) ∧ W = w' := fun W => divide_any _ _ W (by omega) (by omega) (by omega) (by omega)
              generalize rnd (100 * (k0 - x.key) * (x.glide - f)) x.glide = rg at *
              have w2 : IntKind.i64.wrap (100 * x.key + vb + rg) = 100 * x.key + vb + rg := IntWalk.i64_in _ (by omega)
              clear hj hgc hm1 hn0
              go_wp2_with fail
              refine wp_opaque fun Q2 hQ2 => ?_
              (refine wp_region_below (by kernel_rfl) (by kernel_rfl) ?_; (repeat (first | go_big_quiet_step ((go_at_call 50; with_reducible exact toS h50 _)) | quiet_step ((go_at_call 50; with_reducible exact toS h50 _)))); (refine wpQuiet_nil ?_; intro _ hw'; obtain ⟨xq, hw''⟩ := hw'; subst hw''))
              refine hQ2 _ _ _ ?_
              clear hQ2 Q2 h50 q0 q2 hplt e0 hle
              have hbx := xq.2
              have HRX := Lib.hid (ownsRow_below HR3.out hbx)
              have HPX := Lib.hid ((hbx.block pb (Array.getElem?_eq_some_iff.1 HP3.out).1).trans HP3.out)
              have HBX := Lib.hid (bThen HB3.out hbx)
              clear hbx
              generalize xq.val = WX at *
              go_wp2_with (at_builtin; go_loud (refine wpList_append_own _ rfl _ _ 34 rfl w.heap.size 3 i3 (.int .i64 0) 1 8 Tryd.underlying34 HI.out hz3 hs3 hb3 rfl (by decide) u3 _ _ rfl (HRX.out.alloc _) ⟨WX.heap.size, 0, none⟩ 1 1 _ rfl (by rfl) (cell_one_new _ _ _) (by simp [Value.oneCell']) (by unfold maxLen; omega) (by omega) (by have := HBX.out.size; simp; omega) ?_); intro v' w5 hown' hgrow _; have HU := Lib.hid (And.intro hown' hgrow); clear hown' hgrow)
              obtain ⟨hown', hgrow⟩ := HU.out
              have HB5 := Lib.hid (HBX.out.trans (own_step HBX.out.size HRX.out hgrow))
              have HP5 := Lib.hid (block_kept hgrow (HRX.out.alloc _) ((Below.heap_alloc _ _ _ (Array.getElem?_eq_some_iff.1 HPX.out).1).trans HPX.out) (by decide))
              have HR5 : Hid (w5.ownsRow w.heap.size 3 1 v' (D.length + (f + 1)) (intV (D ++ partL k0 x (f + 1)))) := Lib.hid (by
                rw [partL_succ, HCE.out]
                have h := hown'
                rw [Nat.add_assoc] at h
                simpa [intV] using h)
              clear hown' hgrow
              go_roundw
              case rel =>
                first
                  | exact ⟨f + 1, by omega, by go_num, HR5, HP5, HB5⟩
                  | ((repeat apply Exists.intro); refine ⟨?_, rfl⟩; exact ⟨f + 1, by omega, by go_num, HR5, HP5, HB5⟩)
              case measure => simp [intOf]; omega
          · have hgd : decide ((f : Int) < x.glide) = false := decide_eq_false hg
            have HCE : Hid (centsAt k0 x f = 100 * x.key + vb) := Lib.hid (by
              rw [HCE0.out, show glideC (k0 - x.key) x.glide f = 0 from if_pos (by omega)]; omega)
            have HBX := HB3
            have HRX := HR3
            have HPX := HP3
            obtain ⟨WX, hWX⟩ : ∃ WX, WX = W4 := ⟨_, rfl⟩
            subst hWX
            go_wp2_with (at_builtin; go_loud (refine wpList_append_own _ rfl _ _ 34 rfl w.heap.size 3 i3 (.int .i64 0) 1 8 Tryd.underlying34 HI.out hz3 hs3 hb3 rfl (by decide) u3 _ _ rfl (HRX.out.alloc _) ⟨WX.heap.size, 0, none⟩ 1 1 _ rfl (by rfl) (cell_one_new _ _ _) (by simp [Value.oneCell']) (by unfold maxLen; omega) (by omega) (by have := HBX.out.size; simp; omega) ?_); intro v' w5 hown' hgrow _; have HU := Lib.hid (And.intro hown' hgrow); clear hown' hgrow)
            obtain ⟨hown', hgrow⟩ := HU.out
            have HB5 := Lib.hid (HBX.out.trans (own_step HBX.out.size HRX.out hgrow))
            have HP5 := Lib.hid (block_kept hgrow (HRX.out.alloc _) ((Below.heap_alloc _ _ _ (Array.getElem?_eq_some_iff.1 HPX.out).1).trans HPX.out) (by decide))
            have HR5 : Hid (w5.ownsRow w.heap.size 3 1 v' (D.length + (f + 1)) (intV (D ++ partL k0 x (f + 1)))) := Lib.hid (by
              rw [partL_succ, HCE.out]
              have h := hown'
              rw [Nat.add_assoc] at h
              simpa [intV] using h)
            clear hown' hgrow
            go_roundw
            case rel =>
              first
                | exact ⟨f + 1, by omega, by go_num, HR5, HP5, HB5⟩
                | ((repeat apply Exists.intro); refine ⟨?_, rfl⟩; exact ⟨f + 1, by omega, by go_num, HR5, HP5, HB5⟩)
            case measure => simp [intOf]; omega
        · obtain rfl : f = L := by omega
          go_wp2_with fail
          go_roundw
          case rel =>
            first
              | exact ⟨n + 1, by omega, by go_num, Lib.hid (by rw [HNX.out, List.length_append, partL_len]; exact HR2.out), HB2⟩
              | ((repeat apply Exists.intro); refine ⟨?_, rfl⟩; exact ⟨n + 1, by omega, by go_num, Lib.hid (by rw [HNX.out, List.length_append, partL_len]; exact HR2.out), HB2⟩)
          case measure => simp [intOf]; omega
    · obtain rfl : n = l.length := by omega
      have hln := singTo_len HOK.out l.length (Nat.le_refl _)
      have HF : Hid (∀ W u, W.ownsRow w.heap.size 3 1 u (singTo l l.length).length (intV (singTo l l.length)) → SliceV W u 1 IntAt (singTo l l.length)) := Lib.hid fun W u h => vals_slice h (by omega)
      go_wp2_with fail
      go_ret
      exact ⟨⟨_, rfl, HF.out _ _ HR.out⟩, HB.out⟩
end Go.Proofs.YtejcbcjhmnhefaaDoor
