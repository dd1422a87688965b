/- Contracts: crossfades. -/
import Derived.Test.YtbeeddenidfenaaA7
set_option linter.unusedSimpArgs false
set_option linter.unusedVariables false
namespace Go.Proofs.Ytbeeddenidfenaa
open Go.RowKit

/-- The sample i of a crossfade. -/
def fd (x y : List Int) (n : Nat) (i : Nat) : Int := rnd (((n : Int) - i) * x.getD i 0 + ((i : Int) + 1) * y.getD i 0) (n + 1)
def fadeL (x y : List Int) : List Int := (List.range x.length).map (fd x y x.length)
theorem fadeL_len (x y : List Int) : (fadeL x y).length = x.length := by simp [fadeL]
theorem fadeL_get (x y : List Int) {i : Nat} (h : i < (fadeL x y).length) : (fadeL x y)[i] = fd x y x.length i := by simp [fadeL]
theorem gI {l : List Int} {k : Nat} (h : k < l.length) : l.getD k 0 = l[k] := by rw [List.getD_eq_getElem?_getD, List.getElem?_eq_getElem h]; rfl
set_option maxRecDepth 10000 in
set_option maxHeartbeats 4000000 in
theorem fade_any (x y : List Int) (g o N c : Nat) (f : Nat → Value) (v u : Value) (w : World) (hlen : x.length = y.length) (hN : o + x.length ≤ N) (hr : w.rowIs g 3 N f) (hv : SliceV w v 1 IntAt x) (hu : SliceV w u 1 IntAt y)
    (hvg : ∀ W, Below g w W → SliceV W v 1 IntAt x) (hug : ∀ W, Below g w W → SliceV W u 1 IntAt y) (hx : Sm x) (hy : Sm y) (hn : x.length ≤ 110000) :
    Calls Try.prog 66 #[.slice (some ⟨g, o, none⟩) x.length c, v, u] w fun e w' => (∃ r, e = .returned r) ∧ w'.rowIs g 3 N (fun j => if o ≤ j ∧ j < o + x.length then .int .i64 (fd x y x.length (j - o)) else f j) ∧ Below g w w' := by
  have HR0 := Lib.hid hr
  have HV := Lib.hid hvg
  have HU := Lib.hid hug
  have HX := Lib.hid hx
  have HY := Lib.hid hy
  have HLEN := Lib.hid hlen
  have HNN := Lib.hid hN
  obtain ⟨a, c1, rfl, -⟩ := hv
  obtain ⟨b, c2, rfl, -⟩ := hu
  clear hr hvg hug hx hy hlen hN
  have q6 : IntKind.i64.wrap ((x.length : Int) + 1) = (x.length : Int) + 1 := IntWalk.i64_in _ (by omega)
  go_enter Try.func66, Try.ntmps66
  go_wp2_with fail
  go_loopw [12] (fun i wr => ∃ k : Nat, k ≤ x.length ∧ i = .int .i64 k ∧ Hid (wr.rowIs g 3 N (fun j => if o ≤ j ∧ j < o + k then .int .i64 (fd x y x.length (j - o)) else f j)) ∧ Hid (Below g w wr)) (fun i _ => x.length - (intOf i).toNat)
  case atStart => exact ⟨0, Nat.zero_le _, rfl, Lib.hid (HR0.out.congr fun j _ => by rw [if_neg (by omega)]), Lib.hid (Below.refl _ _)⟩
  case round =>
    obtain ⟨k, hk, rfl, HR, HB⟩ := hrel
    by_cases hlt : k < x.length
    · have hly : k < y.length := by have := HLEN.out; omega
      obtain ⟨xb, xo, rfl, hxf⟩ := (HV.out _ HB.out).at (by intro h; simp [h] at hlt)
      obtain ⟨yb, yo, rfl, hyf⟩ := (HU.out _ HB.out).at (by intro h; simp [h] at hly)
      have p0 := hxf k hlt
      have q0 := hyf k hly
      unfold IntAt at p0 q0
      rw [Nat.mul_one] at p0 q0
      have hp := HX.out _ (List.getElem_mem hlt)
      have hq := HY.out _ (List.getElem_mem hly)
      have HFD : Hid (fd x y x.length k = rnd (((x.length : Int) - k) * x[k] + ((k : Int) + 1) * y[k]) (x.length + 1)) := Lib.hid (by unfold fd; rw [gI hlt, gI hly])
      clear hxf hyf
      obtain ⟨p, hpe⟩ : ∃ p, p = x[k] := ⟨_, rfl⟩
      obtain ⟨q, hqe⟩ : ∃ q, q = y[k] := ⟨_, rfl⟩
      rw [← hpe] at p0 hp HFD
      rw [← hqe] at q0 hq HFD
      clear hpe hqe
      have hpb := cell_lt p0
      have hqb := cell_lt q0
      have m1 := mul_in (A := 110000) (B := 32768) (show -110000 ≤ (x.length : Int) - k by omega) (by omega) (show -32768 ≤ p by omega) (by omega)
      have m2 := mul_in (A := 110001) (B := 32768) (show -110001 ≤ (k : Int) + 1 by omega) (by omega) (show -32768 ≤ q by omega) (by omega)
      have q1 : IntKind.i64.wrap ((x.length : Int) - k) = (x.length : Int) - k := IntWalk.i64_in _ (by omega)
      have q2 : IntKind.i64.wrap ((k : Int) + 1) = (k : Int) + 1 := IntWalk.i64_in _ (by omega)
      obtain ⟨s, hse⟩ : ∃ s, s = ((x.length : Int) - k) * p := ⟨_, rfl⟩
      obtain ⟨t, hte⟩ : ∃ t, t = ((k : Int) + 1) * q := ⟨_, rfl⟩
      rw [← hse] at m1 HFD
      rw [← hte] at m2 HFD
      have q3 : IntKind.i64.wrap (((x.length : Int) - k) * p) = s := by rw [← hse]; exact IntWalk.i64_in _ (by omega)
      have q4 : IntKind.i64.wrap (((k : Int) + 1) * q) = t := by rw [← hte]; exact IntWalk.i64_in _ (by omega)
      have q5 : IntKind.i64.wrap (s + t) = s + t := IntWalk.i64_in _ (by omega)
      clear hse hte
      have h88 := fun W => rounded_any (s + t) ((x.length : Int) + 1) W (by omega) (by omega) (by omega) (by omega)
      rw [← HFD.out] at h88
      have H88 := Lib.hid h88
      clear h88
      obtain ⟨r, hre⟩ : ∃ r, r = fd x y x.length k := ⟨_, rfl⟩
      rw [← hre] at H88 HFD
      have HRE := Lib.hid hre
      clear hre
      have hok : o + k < N := by have := HNN.out; omega
      have z0 := HR.out.frozen (o + k)
      have c0 := HR.out.cell (i := o + k) hok
      have hgl := HR.out.lt
      go_wp2_with fail
      refine wp_opaque fun Q2 hQ2 => ?_
      (refine region_below_tail 22 (by kernel_rfl) (by kernel_rfl) ?_; (simp only [List.take_succ_cons, List.take_zero, List.drop_succ_cons, List.drop_zero]); (repeat (first | go_big_quiet_step ((go_at_call 88; with_reducible exact toS H88.out _)) | quiet_step ((go_at_call 88; with_reducible exact toS H88.out _)))); (refine wpQuiet_nil ?_; intro _ hw'; obtain ⟨xq, hw''⟩ := hw'; subst hw''))
      have hbx := xq.2
      have d0 := keep hbx c0
      have y0 := (HR.out.of_block (hbx.block _ hgl)).frozen (o + k)
      have HR2 : Hid ((xq.val.setCell ⟨g, o + k, none⟩ (.int .i64 r)).rowIs g 3 N (fun j => if o ≤ j ∧ j < o + (k + 1) then .int .i64 (fd x y x.length (j - o)) else f j)) := Lib.hid (((HR.out.of_block (hbx.block _ hgl)).set (o + k) (.int .i64 r)).congr fun j _ => by
        by_cases hj : j = o + k
        · subst hj
          rw [if_pos rfl, if_pos (by omega), show o + k - o = k by omega, HRE.out]
        · rw [if_neg hj]
          by_cases hj2 : o ≤ j ∧ j < o + k
          · rw [if_pos hj2, if_pos (by omega)]
          · rw [if_neg hj2, if_neg (by omega)])
      have HB2 : Hid (Below g w (xq.val.setCell ⟨g, o + k, none⟩ (.int .i64 r))) := Lib.hid ((HB.out.trans (hbx.mono (by omega))).setCell (p := ⟨g, o + k, none⟩) (Nat.le_refl _) _)
      go_wp2_with fail
      go_roundw
      case rel =>
        first
          | exact ⟨k + 1, by omega, by go_num, HR2, HB2⟩
          | ((repeat apply Exists.intro); refine ⟨?_, rfl⟩; exact ⟨k + 1, by omega, by go_num, HR2, HB2⟩)
      case measure => simp [intOf]; omega
    · obtain rfl : k = x.length := by omega
      go_wp2_with fail
      go_end0
      exact ⟨⟨_, rfl⟩, HR.out, HB.out⟩
end Go.Proofs.Ytbeeddenidfenaa
