/- Contracts: a wave is thrown back at an end. -/
import Derived.Test.YtbmbcbknoflpgaaE2
import Derived.Test.YtbmbcbknoflpgaaT0
import Derived.Test.YtbmbcbknoflpgaaG0
set_option linter.unusedSimpArgs false
set_option linter.unusedVariables false
namespace Go.Proofs.Ytbmbcbknoflpgaa
open Go.RowKit

theorem toX {P : Program} {f : FuncId} {args : Array Value} {W : World} {v : Value} (h : ∀ x : BW W, Calls P f args x.val fun e w' => e = .returned v ∧ x.val = w') (x : BW W) :
    Calls P f args x.val fun e w'' => e = .returned v ∧ ∃ y : BW W, w'' = y.val :=
  (h x).mono fun _ _ ⟨a, b⟩ => ⟨a, x, b.symm⟩
set_option maxHeartbeats 400000 in
theorem back_any (d : Int) (w : World) (hd : d = 0 ∨ d = 1) : Calls Try.prog 128 #[.int .i64 d] w fun e w' => e = .returned (.int .i64 (1 - d)) ∧ w = w' := by
  have h1 : IntKind.i64.wrap (1 - d) = 1 - d := IntWalk.i64_in _ (by omega)
  go_enter Try.func128, Try.ntmps128
  go_wp2
  go_ret
  exact ⟨rfl, rfl⟩
/-- What an end throws back of a wave. -/
def thr (p x : Int) : Int := (wrap64 (p * x)).tdiv 100
set_option maxRecDepth 10000 in
set_option maxHeartbeats 2000000 in
theorem meetEnd_any (s p : Int) (k d n N wb oo on : Nat) (va : Value) (f : Nat → Int) (w : World) (hs : s = k) (hk : k < n) (hd : d = 0 ∨ d = 1) (hn : n ≤ 100) (ho : oo + 2 * n ≤ N) (hon : on + 2 * n ≤ N)
    (hr : w.rowIs wb 137 N (fun j => .int .i64 (f j))) :
    Calls Try.prog 129 #[.agg #[.int .i64 s, .int .i64 d, .int .i64 p], va, .slice (some ⟨wb, oo, none⟩) n n, .slice (some ⟨wb, on, none⟩) n n] w fun e w' => (∃ r, e = .returned r) ∧ w'.rowIs wb 137 N (fun j => .int .i64 (if j = on + k * 2 + (1 - d) then thr p (f (oo + k * 2 + d)) else f j)) ∧ w.grownBy w' (some wb) := by
  subst hs
  obtain ⟨e, he⟩ : ∃ e : Nat, 1 - d = e := ⟨_, rfl⟩
  have hde : (1 : Int) - (d : Int) = (e : Int) := by omega
  rw [he]
  have HR := Lib.hid (hr.alloc (.cells #[.int .i64 k, .int .i64 d, .int .i64 p] 162))
  have HG0 := Lib.hid (gb_below (bAlloc (Below.refl w.heap.size w) (.cells #[.int .i64 k, .int .i64 d, .int .i64 p] 162)) (some wb))
  have C0 : Hid ((w.alloc (.cells #[.int .i64 k, .int .i64 d, .int .i64 p] 162)).cell? ⟨w.heap.size, 0, none⟩ = some (.int .i64 k)) := Lib.hid (cell_new rfl)
  have C1 : Hid ((w.alloc (.cells #[.int .i64 k, .int .i64 d, .int .i64 p] 162)).cell? ⟨w.heap.size, 1, none⟩ = some (.int .i64 d)) := Lib.hid (cell_new rfl)
  have C2 : Hid ((w.alloc (.cells #[.int .i64 k, .int .i64 d, .int .i64 p] 162)).cell? ⟨w.heap.size, 2, none⟩ = some (.int .i64 p)) := Lib.hid (cell_new rfl)
  clear hr
  go_enter Try.func129, Try.ntmps129
  go_wp2_with fail
  generalize World.alloc w _ = W1 at *
  obtain ⟨bx, hbx⟩ : ∃ bx, w.heap.size = bx := ⟨_, rfl⟩
  rw [hbx] at C0 C1 C2 ⊢
  clear hbx
  have c0 := C0.out
  have c1 := C1.out
  have c2 := C2.out
  have hcl := cell_lt c0
  have x0 := HR.out.cell (i := oo + k * 2 + d) (by omega)
  have hgl := HR.out.lt
  have hkn : (k : Int) < (n : Int) := by omega
  have HB := Lib.hid (fun x : BW W1 => back_any d x.val (by omega))
  obtain ⟨x, hx⟩ : ∃ x, f (oo + k * 2 + d) = x := ⟨_, rfl⟩
  rw [hx] at x0
  have HX := Lib.hid hx
  obtain ⟨t1, ht1⟩ : ∃ t, wrap64 (p * x) = t := ⟨_, rfl⟩
  have u1 : IntKind.i64.wrap (p * x) = t1 := by rw [IntWalk.i64_left]; exact ht1
  have hti := w64_in (p * x)
  rw [ht1] at hti
  have htd := tdiv64 hti (show (1 : Int) ≤ 100 by omega)
  obtain ⟨y, hy⟩ : ∃ y, t1.tdiv 100 = y := ⟨_, rfl⟩
  rw [hy] at htd
  have u2 : IntKind.i64.wrap y = y := IntWalk.i64_in _ (by omega)
  have u3 : ¬ (100 : Int) = 0 := by omega
  have HY : Hid (thr p (f (oo + k * 2 + d)) = y) := Lib.hid (by rw [hx]; unfold thr; rw [ht1, hy])
  clear hx ht1 hti
  rw [hde] at HB
  rcases hd with rfl | rfl
  · obtain rfl : e = 1 := by omega
    rw [Nat.add_zero] at x0
    clear he hde HB
    have HB : Hid (∀ x : BW W1, Calls Try.prog 128 #[.int .i64 0] x.val fun e w' => e = .returned (.int .i64 1) ∧ x.val = w') := Lib.hid (fun x => back_any 0 x.val (.inl rfl))
    refine wp_opaque fun Q2 hQ2 => ?_
    (refine region_below_tail 24 (by kernel_rfl) (by kernel_rfl) ?_; (simp only [List.take_succ_cons, List.take_zero, List.drop_succ_cons, List.drop_zero]); (repeat (first | go_big_quiet_step ((with_reducible exact toX HB.out _)) | quiet_step ((with_reducible exact toX HB.out _)))); (refine wpQuiet_nil ?_; intro _ hw'; obtain ⟨xq, hw''⟩ := hw'; subst hw''))
    have HR2 := Lib.hid (HR.out.of_block (xq.2.block _ hgl))
    have y0 := HR2.out.frozen (on + k * 2 + 1)
    have y1 := HR2.out.cell (i := on + k * 2 + 1) (by omega)
    have y2 := HR2.out.lt
    have HG2 := Lib.hid (gb_trans HG0.out (gb_below xq.2 (some wb)))
    go_wp2_with fail
    go_end0
    refine ⟨⟨_, rfl⟩, ((HR2.out.set (on + k * 2 + 1) (.int .i64 y)).congr fun j _ => ?_), gb_trans HG2.out (gb_set _ _ _ _)⟩
    by_cases hj : j = on + k * 2 + 1
    · rw [if_pos hj, if_pos hj, HY.out]
    · rw [if_neg hj, if_neg hj]
  · obtain rfl : e = 0 := by omega
    clear he hde HB
    have HB : Hid (∀ x : BW W1, Calls Try.prog 128 #[.int .i64 1] x.val fun e w' => e = .returned (.int .i64 0) ∧ x.val = w') := Lib.hid (fun x => back_any 1 x.val (.inr rfl))
    refine wp_opaque fun Q2 hQ2 => ?_
    (refine region_below_tail 24 (by kernel_rfl) (by kernel_rfl) ?_; (simp only [List.take_succ_cons, List.take_zero, List.drop_succ_cons, List.drop_zero]); (repeat (first | go_big_quiet_step ((with_reducible exact toX HB.out _)) | quiet_step ((with_reducible exact toX HB.out _)))); (refine wpQuiet_nil ?_; intro _ hw'; obtain ⟨xq, hw''⟩ := hw'; subst hw''))
    have HR2 := Lib.hid (HR.out.of_block (xq.2.block _ hgl))
    have y0 := HR2.out.frozen (on + k * 2)
    have y1 := HR2.out.cell (i := on + k * 2) (by omega)
    have y2 := HR2.out.lt
    have HG2 := Lib.hid (gb_trans HG0.out (gb_below xq.2 (some wb)))
    go_wp2_with fail
    go_end0
    refine ⟨⟨_, rfl⟩, ((HR2.out.set (on + k * 2) (.int .i64 y)).congr fun j _ => ?_), gb_trans HG2.out (gb_set _ _ _ _)⟩
    rw [Nat.add_zero]
    by_cases hj : j = on + k * 2
    · rw [if_pos hj, if_pos hj, HY.out]
    · rw [if_neg hj, if_neg hj]
end Go.Proofs.Ytbmbcbknoflpgaa
namespace Go.Proofs.Ytbmbcbknoflpgaa
open Go.RowKit

set_option maxRecDepth 10000 in
set_option maxHeartbeats 2000000 in
theorem running_any (wb oo n c : Nat) (d : Nat) (f : Nat → Int) (w : World) (hd : d = 0 ∨ d = 1) (hn : n ≤ 100)
    (hf : ∀ i, i < n → w.cell? ⟨wb, oo + i * 2, none⟩ = some (.int .i64 (f (i * 2))) ∧ w.cell? ⟨wb, oo + i * 2 + 1, none⟩ = some (.int .i64 (f (i * 2 + 1)))) :
    Calls Try.prog 84 #[.slice (some ⟨wb, oo, none⟩) n c, .int .i64 d] w fun e w' => (∃ r, e = .returned r ∧ SliceV w' r 1 IntAt ((List.range n).map fun i => f (i * 2 + d))) ∧ Below w.heap.size w w' := by
  have hmk := makeI n (by omega) w
  have HF := Lib.hid hf
  clear hf
  go_enter Try.func84, Try.ntmps84
  go_wp2_with fail
  have HR0 : Hid ((w.alloc (.cells (madeCells #[Value.int .i64 0] n) 3)).rowIs w.heap.size 3 n (fun i => .int .i64 (if i < 0 then f (i * 2 + d) else 0))) := Lib.hid ((World.rowIs_made w (.int .i64 0) n 3).congr fun i hi => by rw [if_neg (by omega)])
  have HB0 := Lib.hid (bAlloc (Below.refl w.heap.size w) (.cells (madeCells #[Value.int .i64 0] n) 3))
  clear hmk
  generalize World.alloc w _ = W1 at *
  go_loopw [13] (fun i wr => ∃ k : Nat, k ≤ n ∧ i = .int .i64 k ∧ Hid (wr.rowIs w.heap.size 3 n (fun i => .int .i64 (if i < k then f (i * 2 + d) else 0))) ∧ Hid (Below w.heap.size w wr)) (fun i _ => n - (intOf i).toNat)
  case atStart => exact ⟨0, Nat.zero_le _, rfl, HR0, HB0⟩
  case round =>
    obtain ⟨k, hk, rfl, HR, HB⟩ := hrel
    by_cases hlt : k < n
    · obtain ⟨f0, f1⟩ := HF.out k hlt
      replace f0 := keep HB.out f0
      replace f1 := keep HB.out f1
      have hfb := cell_lt f0
      have hkk : (k : Int) < (n : Int) := by omega
      have z0 := HR.out.frozen k
      have c0 := HR.out.cell (i := k) hlt
      have hgl := HR.out.lt
      have HR2 : Hid (((wr.setCell ⟨w.heap.size, k, none⟩ (.int .i64 (f (k * 2 + d)))).alloc (.cells #[.int .i64 (f (k * 2)), .int .i64 (f (k * 2 + 1))] 137)).rowIs w.heap.size 3 n (fun i => .int .i64 (if i < k + 1 then f (i * 2 + d) else 0))) := Lib.hid (((HR.out.set k (.int .i64 (f (k * 2 + d)))).congr fun j _ => by
        by_cases hj : j = k
        · subst hj
          rw [if_pos rfl, if_pos (by omega)]
        · rw [if_neg hj]
          by_cases hj2 : j < k
          · rw [if_pos hj2, if_pos (by omega)]
          · rw [if_neg hj2, if_neg (by omega)]).alloc _)
      have HB2 : Hid (Below w.heap.size w ((wr.setCell ⟨w.heap.size, k, none⟩ (.int .i64 (f (k * 2 + d)))).alloc (.cells #[.int .i64 (f (k * 2)), .int .i64 (f (k * 2 + 1))] 137))) := Lib.hid (bAlloc (HB.out.setCell (p := ⟨w.heap.size, k, none⟩) (Nat.le_refl _) _) _)
      obtain ⟨v, hv⟩ : ∃ v, f (k * 2 + d) = v := ⟨_, rfl⟩
      obtain ⟨x, hx⟩ : ∃ x, f (k * 2) = x := ⟨_, rfl⟩
      obtain ⟨y, hy⟩ : ∃ y, f (k * 2 + 1) = y := ⟨_, rfl⟩
      rw [hv, hx, hy] at HR2 HB2
      rw [hx] at f0
      rw [hy] at f1
      have HD : Hid ((d = 0 → v = x) ∧ (d = 1 → v = y)) := Lib.hid ⟨by rintro rfl; rw [← hv, ← hx]; rfl, by rintro rfl; rw [← hv, ← hy]⟩
      clear hv hx hy
      rcases hd with rfl | rfl
      · obtain rfl : v = x := HD.out.1 rfl
        clear HD
        go_wp2_with fail
        go_roundw
        case rel => exact ⟨k + 1, by omega, by go_num, HR2, HB2⟩
        case measure => simp [intOf]; omega
      · obtain rfl : v = y := HD.out.2 rfl
        clear HD
        go_wp2_with fail
        go_roundw
        case rel => exact ⟨k + 1, by omega, by go_num, HR2, HB2⟩
        case measure => simp [intOf]; omega
    · obtain rfl : k = n := by omega
      go_wp2_with fail
      go_ret
      refine ⟨⟨_, rfl, row_slice HR.out (by simp) (fun i hi => ?_) (by unfold most; omega)⟩, HB.out⟩
      simp at hi
      rw [if_pos hi]
      simp
end Go.Proofs.Ytbmbcbknoflpgaa
