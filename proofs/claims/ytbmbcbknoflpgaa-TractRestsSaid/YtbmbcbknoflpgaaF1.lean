/- Contracts: a wave is thrown back at an end. -/
import Derived.Test.YtbmbcbknoflpgaaE2
import Derived.Test.YtbmbcbknoflpgaaT0
set_option linter.unusedSimpArgs false
set_option linter.unusedVariables false
namespace Go.Proofs.Ytbmbcbknoflpgaa
open Go.RowKit

theorem toX {P : Program} {f : FuncId} {args : Array Value} {W : World} {v : Value} (h : ∀ x : BW W, Calls P f args x.val fun e w' => e = .returned v ∧ x.val = w') (x : BW W) :
    Calls P f args x.val fun e w'' => e = .returned v ∧ ∃ y : BW W, w'' = y.val :=
  (h x).mono fun _ _ ⟨a, b⟩ => ⟨a, x, b.symm⟩
set_option maxHeartbeats 400000 in
theorem back_any (d : Int) (w : World) (hd : d = 0 ∨ d = 1) : Calls Try.prog 128 #[.int .i64 d] w fun e w' => e = .returned (.int .i64 (1 - d)) ∧ w = w' := by
  have h1 : IntKind.i64.wrap (1 - d) = 1 - d := IntWalk.i64_in _ (by omega)
  go_enter Try.func128, Try.ntmps128
  go_wp2
  go_ret
  exact ⟨rfl, rfl⟩
/-- What an end throws back of a wave. -/
def thr (p x : Int) : Int := (wrap64 (p * x)).tdiv 100
set_option maxRecDepth 10000 in
set_option maxHeartbeats 2000000 in
theorem meetEnd_any (s p : Int) (k d n N wb oo on : Nat) (va : Value) (f : Nat → Int) (w : World) (hs : s = k) (hk : k < n) (hd : d = 0 ∨ d = 1) (hn : n ≤ 100) (ho : oo + 2 * n ≤ N) (hon : on + 2 * n ≤ N)
    (hr : w.rowIs wb 137 N (fun j => .int .i64 (f j))) :
    Calls Try.prog 129 #[.agg #[.int .i64 s, .int .i64 d, .int .i64 p], va, .slice (some ⟨wb, oo, none⟩) n n, .slice (some ⟨wb, on, none⟩) n n] w fun e w' => (∃ r, e = .returned r) ∧ w'.rowIs wb 137 N (fun j => .int .i64 (if j = on + k * 2 + (1 - d) then thr p (f (oo + k * 2 + d)) else f j)) ∧ w.grownBy w' (some wb) := by
  subst hs
  obtain ⟨e, he⟩ : ∃ e : Nat, 1 - d = e := ⟨_, rfl⟩
  have hde : (1 : Int) - (d : Int) = (e : Int) := by omega
  rw [he]
  have HR := Lib.hid (hr.alloc (.cells #[.int .i64 k, .int .i64 d, .int .i64 p] 162))
  have HG0 := Lib.hid (gb_below (bAlloc (Below.refl w.heap.size w) (.cells #[.int .i64 k, .int .i64 d, .int .i64 p] 162)) (some wb))
  have C0 : Hid ((w.alloc (.cells #[.int .i64 k, .int .i64 d, .int .i64 p] 162)).cell? ⟨w.heap.size, 0, none⟩ = some (.int .i64 k)) := Lib.hid (cell_new rfl)
  have C1 : Hid ((w.alloc (.cells #[.int .i64 k, .int .i64 d, .int .i64 p] 162)).cell? ⟨w.heap.size, 1, none⟩ = some (.int .i64 d)) := Lib.hid (cell_new rfl)
  have C2 : Hid ((w.alloc (.cells #[.int .i64 k, .int .i64 d, .int .i64 p] 162)).cell? ⟨w.heap.size, 2, none⟩ = some (.int .i64 p)) := Lib.hid (cell_new rfl)
  clear hr
  go_enter Try.func129, Try.ntmps129
  go_wp2_with fail
  generalize World.alloc w _ = W1 at *
  obtain ⟨bx, hbx⟩ : ∃ bx, w.heap.size = bx := ⟨_, rfl⟩
  rw [hbx] at C0 C1 C2 ⊢
  clear hbx
  have c0 := C0.out
  have c1 := C1.out
  have c2 := C2.out
  have hcl := cell_lt c0
  have x0 := HR.out.cell (i := oo + k * 2 + d) (by omega)
  have hgl := HR.out.lt
  have hkn : (k : Int) < (n : Int) := by omega
  have HB := Lib.hid (fun x : BW W1 => back_any d x.val (by omega))
  obtain ⟨x, hx⟩ : ∃ x, f (oo + k * 2 + d) = x := ⟨_, rfl⟩
  rw [hx] at x0
  have HX := Lib.hid hx
  obtain ⟨t1, ht1⟩ : ∃ t, wrap64 (p * x) = t := ⟨_, rfl⟩
  have u1 : IntKind.i64.wrap (p * x) = t1 := by rw [IntWalk.i64_left]; exact ht1
  have hti := w64_in (p * x)
  rw [ht1] at hti
  have htd := tdiv64 hti (show (1 : Int) ≤ 100 by omega)
  obtain ⟨y, hy⟩ : ∃ y, t1.tdiv 100 = y := ⟨_, rfl⟩
  rw [hy] at htd
  have u2 : IntKind.i64.wrap y = y := IntWalk.i64_in _ (by omega)
  have u3 : ¬ (100 : Int) = 0 := by omega
  have HY : Hid (thr p (f (oo + k * 2 + d)) = y) := Lib.hid (by rw [hx]; unfold thr; rw [ht1, hy])
  clear hx ht1 hti
  rw [hde] at HB
  rcases hd with rfl | rfl
  · obtain rfl : e = 1 := by omega
    rw [Nat.add_zero] at x0
    clear he hde HB
    have HB : Hid (∀ x : BW W1, Calls Try.prog 128 #[.int .i64 0] x.val fun e w' => e = .returned (.int .i64 1) ∧ x.val = w') := Lib.hid (fun x => back_any 0 x.val (.inl rfl))
    refine wp_opaque fun Q2 hQ2 => ?_
    (refine region_below_tail 24 (by kernel_rfl) (by kernel_rfl) ?_; (simp only [List.take_succ_cons, List.take_zero, List.drop_succ_cons, List.drop_zero]); (repeat (first | go_big_quiet_step ((with_reducible exact toX HB.out _)) | quiet_step ((with_reducible exact toX HB.out _)))); (refine wpQuiet_nil ?_; intro _ hw'; obtain ⟨xq, hw''⟩ := hw'; subst hw''))
    have HR2 := Lib.hid (HR.out.of_block (xq.2.block _ hgl))
    have y0 := HR2.out.frozen (on + k * 2 + 1)
    have y1 := HR2.out.cell (i := on + k * 2 + 1) (by omega)
    have y2 := HR2.out.lt
    have HG2 := Lib.hid (gb_trans HG0.out (gb_below xq.2 (some wb)))
    go_wp2_with fail
    go_end0
    refine ⟨⟨_, rfl⟩, ((HR2.out.set (on + k * 2 + 1) (.int .i64 y)).congr fun j _ => ?_), gb_trans HG2.out (gb_set _ _ _ _)⟩
    by_cases hj : j = on + k * 2 + 1
    · rw [if_pos hj, if_pos hj, HY.out]
    · rw [if_neg hj, if_neg hj]
  · obtain rfl : e = 0 := by omega
    clear he hde HB
    have HB : Hid (∀ x : BW W1, Calls Try.prog 128 #[.int .i64 1] x.val fun e w' => e = .returned (.int .i64 0) ∧ x.val = w') := Lib.hid (fun x => back_any 1 x.val (.inr rfl))
    refine wp_opaque fun Q2 hQ2 => ?_
    (refine region_below_tail 24 (by kernel_rfl) (by kernel_rfl) ?_; (simp only [List.take_succ_cons, List.take_zero, List.drop_succ_cons, List.drop_zero]); (repeat (first | go_big_quiet_step ((with_reducible exact toX HB.out _)) | quiet_step ((with_reducible exact toX HB.out _)))); (refine wpQuiet_nil ?_; intro _ hw'; obtain ⟨xq, hw''⟩ := hw'; subst hw''))
    have HR2 := Lib.hid (HR.out.of_block (xq.2.block _ hgl))
    have y0 := HR2.out.frozen (on + k * 2)
    have y1 := HR2.out.cell (i := on + k * 2) (by omega)
    have y2 := HR2.out.lt
    have HG2 := Lib.hid (gb_trans HG0.out (gb_below xq.2 (some wb)))
    go_wp2_with fail
    go_end0
    refine ⟨⟨_, rfl⟩, ((HR2.out.set (on + k * 2) (.int .i64 y)).congr fun j _ => ?_), gb_trans HG2.out (gb_set _ _ _ _)⟩
    rw [Nat.add_zero]
    by_cases hj : j = on + k * 2
    · rw [if_pos hj, if_pos hj, HY.out]
    · rw [if_neg hj, if_neg hj]
end Go.Proofs.Ytbmbcbknoflpgaa
