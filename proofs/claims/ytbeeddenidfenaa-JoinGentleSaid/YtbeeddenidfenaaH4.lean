/- Contracts: Smooth. -/
import Derived.Test.YtbeeddenidfenaaH3
import Derived.Test.YtbeeddenidfenaaG7
set_option linter.unusedSimpArgs false
set_option linter.unusedVariables false
namespace Go.Proofs.Ytbeeddenidfenaa
open Go.RowKit

/-- What smoothing hands back. -/
def smE (m : Mk) (x : Int) : Int := mkErr (betw x 1 1000) m
def smR (m : Mk) (x : Int) : Mk := if smE m x = 0 then smV m x.toNat else ⟨[], []⟩
set_option maxRecDepth 10000 in
set_option maxHeartbeats 4000000 in
theorem Smooth_any (m : Mk) (x : Int) (vs vm : Value) (w : World) (hv : MkV w vs vm m) (hn : m.sam.length ≤ 1000000) :
    Calls Try.prog 50 #[.agg #[vs, vm], .int .i64 x] w fun e w' => TfPost (smE m x) (smR m x) e w' ∧ Below w.heap.size w w' := by
  have HV := Lib.hid hv
  have HRR : Hid (∀ W, Calls Try.prog 75 #[.int .i64 x, .int .i64 1, .int .i64 1000] W fun e w' => e = .returned (.bool (betw x 1 1000)) ∧ W = w') := Lib.hid (fun W => between_any x 1 1000 W)
  obtain ⟨⟨a, c, rfl, hl, -⟩, ⟨am, cm, rfl, hlm, -⟩⟩ := hv
  obtain ⟨er, her⟩ : ∃ er, er = mkErr (betw x 1 1000) m := ⟨_, rfl⟩
  have HER := Lib.hid her
  have HCM : Hid (∀ W, Below w.heap.size w W → Calls Try.prog 57 #[.bool (betw x 1 1000), .agg #[.slice a m.sam.length c, .slice am m.marks.length cm]] W fun e w' => e = .returned (.int .i64 er) ∧ Below W.heap.size W w') := Lib.hid (fun W hB => by rw [her]; exact checkMarked_any (betw x 1 1000) m _ _ W (HV.out.keep hB) hn)
  clear her
  obtain ⟨rk, hrk⟩ : ∃ rk, rk = betw x 1 1000 := ⟨_, rfl⟩
  rw [← hrk] at HRR HCM HER
  have HRK := Lib.hid hrk
  clear hrk
  go_enter Try.func50, Try.ntmps50
  go_wp2_with fail
  generalize hW1 : World.alloc (World.alloc w _) _ = W1
  have HB1 : Hid (Below w.heap.size w W1) := Lib.hid (by rw [← hW1]; exact bAlloc (bAlloc (Below.refl _ _) _) _)
  have HM1 : Hid (W1.heap[w.heap.size]? = some (.cells #[.slice a m.sam.length c, .slice am m.marks.length cm] 24 (0, 0))) := Lib.hid (by rw [← hW1]; exact heap_past (by simp) (heap_at rfl))
  have HR1 : Hid (W1.heap[w.heap.size + 1]? = some (.cells #[.slice none 0 0, .slice none 0 0] 24 (0, 0))) := Lib.hid (by rw [← hW1]; exact heap_at (by simp))
  clear hW1
  have c0 := (mcell HM1.out).1
  have c1 := (mcell HM1.out).2
  have l0 := cell_lt c0
  (refine wp_region_below (by kernel_rfl) (by kernel_rfl) ?_; (repeat (first | go_big_quiet_step ((first | (with_reducible exact toS HRR.out _) | (with_reducible exact toB (fun x => HCM.out _ (bThen HB1.out x.2)) _))) | quiet_step ((first | (with_reducible exact toS HRR.out _) | (with_reducible exact toB (fun x => HCM.out _ (bThen HB1.out x.2)) _))))); (refine wpQuiet_nil ?_; intro _ hw'; obtain ⟨xq, hw''⟩ := hw'; subst hw''))
  have HB2 := Lib.hid (bThen HB1.out xq.2)
  have HM2 := Lib.hid (heap_keep xq.2 HM1.out)
  have HR2 := Lib.hid (heap_keep xq.2 HR1.out)
  generalize xq.val = W2 at *
  clear c0 c1 l0 HM1 HR1 HB1
  have c0 := (mcell HM2.out).1
  have c1 := (mcell HM2.out).2
  have l0 := cell_lt c0
  have r0 := (mcell HR2.out).1
  have r1 := (mcell HR2.out).2
  have rl := cell_lt r0
  have rf0 := frz HR2.out 0
  have rf1 := frz HR2.out 1
  by_cases he : er = 0
  · subst he
    obtain ⟨hr, hmr, hsm⟩ := mkErr_ok (r := rk) (m := m) HER.out.symm
    rw [HRK.out] at hr
    simp only [betw, Bool.and_eq_true, decide_eq_true_eq] at hr
    obtain ⟨W, rfl⟩ : ∃ W : Nat, x = (W : Int) := ⟨x.toNat, by omega⟩
    have hc0 : smE m (W : Int) = 0 := by unfold smE; rw [← HRK.out]; exact HER.out.symm
    have hcv : smR m (W : Int) = smV m W := by unfold smR; rw [if_pos hc0, Int.toNat_natCast]
    have HC0 := Lib.hid hc0
    have HCV := Lib.hid hcv
    have HSM : Hid (∀ X, Below w.heap.size w X → Calls Try.prog 76 #[.agg #[.slice a m.sam.length c, .slice am m.marks.length cm], .int .i64 (W : Int)] X _) := Lib.hid (fun X hB => smoothed_any m W _ _ X (HV.out.keep hB) hmr hsm (by omega) (by omega))
    clear hc0 hcv hr hmr hsm
    go_wp2_with (go_at_call 76; (with_reducible refine Calls.mono (HSM.out _ HB2.out) ?_); rintro e w4 ⟨⟨ra, rc, qa, qc, rfl, hmv⟩, hb4⟩; have s0 := keep hb4 r0; have s1 := keep hb4 r1; have s2 := frz (heap_keep hb4 HR2.out) 0; have s3 := frz (heap_keep hb4 HR2.out) 1; have s4 := cell_lt s0; have HMV := Lib.hid hmv; have HBB := Lib.hid hb4; clear hmv)
    (try simp only [Exit.inBlock, Exit.then])
    have hq1 := heap_keep HBB.out HR2.out
    refine bodyPost_ret (results_row_tmp rfl _ _ (w.heap.size + 1) 24 _ (0, 0) _ rfl (set2_1 (set2_0 hq1 _) _) Try.underlying24 rfl (by kernel_rfl)) rfl ?_
    rw [HC0.out, HCV.out]
    exact ⟨⟨_, _, rfl, ints_set2 HMV.out.1 hq1, ints_set2 HMV.out.2 hq1⟩, ((bThen HB2.out HBB.out).setCell (p := ⟨w.heap.size + 1, 0, none⟩) (Nat.le_succ _) _).setCell (p := ⟨w.heap.size + 1, 1, none⟩) (Nat.le_succ _) _⟩
  · have hb0 : (er == 0) = false := beq_eq_false_iff_ne.2 he
    go_wp2_with fail
    (try simp only [Exit.inBlock, Exit.then])
    refine bodyPost_ret (results_row_tmp rfl _ _ (w.heap.size + 1) 24 _ (0, 0) _ rfl (set2_1 (set2_0 HR2.out _) _) Try.underlying24 rfl (by kernel_rfl)) rfl ?_
    have hte : smE m x = er := by unfold smE; rw [← HRK.out, ← HER.out]
    have htv : smR m x = ⟨[], []⟩ := by unfold smR; rw [hte, if_neg he]
    rw [hte, htv]
    exact ⟨⟨_, _, rfl, empty_mk _⟩, (HB2.out.setCell (p := ⟨w.heap.size + 1, 0, none⟩) (Nat.le_succ _) _).setCell (p := ⟨w.heap.size + 1, 1, none⟩) (Nat.le_succ _) _⟩
end Go.Proofs.Ytbeeddenidfenaa
