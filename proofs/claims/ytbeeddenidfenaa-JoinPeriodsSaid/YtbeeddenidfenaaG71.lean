/- Contracts: Transpose, Sing. -/
import Derived.Test.YtbeeddenidfenaaG7
set_option linter.unusedSimpArgs false
set_option linter.unusedVariables false
namespace Go.Proofs.Ytbeeddenidfenaa
open Go.RowKit

set_option maxRecDepth 10000 in
set_option maxHeartbeats 4000000 in
theorem Transpose_any (m : Mk) (num den : Int) (vs vm : Value) (w : World) (hv : MkV w vs vm m) (hn : m.sam.length ≤ 1000000) :
    Calls Try.prog 42 #[.agg #[vs, vm], .int .i64 num, .int .i64 den] w fun e w' => TfPost (tfErr m num den (gsTra num den)) (tfV m num den (gsTra num den)) e w' ∧ Below w.heap.size w w' := by
  have HV := Lib.hid hv
  have HRR : Hid (∀ W, Calls Try.prog 69 #[.int .i64 num, .int .i64 den] W fun e w' => e = .returned (.bool (ratOk num den)) ∧ W = w') := Lib.hid (ratioRight_any num den)
  obtain ⟨⟨a, c, rfl, hl, -⟩, ⟨am, cm, rfl, hlm, -⟩⟩ := hv
  obtain ⟨er, her⟩ : ∃ er, er = mkErr (ratOk num den) m := ⟨_, rfl⟩
  have HER := Lib.hid her
  have HCM : Hid (∀ W, Below w.heap.size w W → Calls Try.prog 57 #[.bool (ratOk num den), .agg #[.slice a m.sam.length c, .slice am m.marks.length cm]] W fun e w' => e = .returned (.int .i64 er) ∧ Below W.heap.size W w') := Lib.hid (fun W hB => by rw [her]; exact checkMarked_any (ratOk num den) m _ _ W (HV.out.keep hB) hn)
  clear her
  obtain ⟨rk, hrk⟩ : ∃ rk, rk = ratOk num den := ⟨_, rfl⟩
  rw [← hrk] at HRR HCM HER
  have HRK := Lib.hid hrk
  clear hrk
  go_enter Try.func42, Try.ntmps42
  go_wp2_with fail
  generalize hW1 : World.alloc (World.alloc w _) _ = W1
  have HB1 : Hid (Below w.heap.size w W1) := Lib.hid (by rw [← hW1]; exact bAlloc (bAlloc (Below.refl _ _) _) _)
  have HM1 : Hid (W1.heap[w.heap.size]? = some (.cells #[.slice a m.sam.length c, .slice am m.marks.length cm] 24 (0, 0))) := Lib.hid (by rw [← hW1]; exact heap_past (by simp) (heap_at rfl))
  have HR1 : Hid (W1.heap[w.heap.size + 1]? = some (.cells #[.slice none 0 0, .slice none 0 0] 24 (0, 0))) := Lib.hid (by rw [← hW1]; exact heap_at (by simp))
  have hz1 : w.heap.size + 1 < W1.heap.size := by rw [← hW1]; simp
  clear hW1
  have c0 := (mcell HM1.out).1
  have c1 := (mcell HM1.out).2
  have l0 := cell_lt c0
  (refine wp_region_below (by kernel_rfl) (by kernel_rfl) ?_; (repeat (first | go_big_quiet_step ((first | (with_reducible exact toS HRR.out _) | (with_reducible exact toB (fun x => HCM.out _ (bThen HB1.out x.2)) _))) | quiet_step ((first | (with_reducible exact toS HRR.out _) | (with_reducible exact toB (fun x => HCM.out _ (bThen HB1.out x.2)) _))))); (refine wpQuiet_nil ?_; intro _ hw'; obtain ⟨xq, hw''⟩ := hw'; subst hw''))
  have HB2 := Lib.hid (bThen HB1.out xq.2)
  have HM2 := Lib.hid (heap_keep xq.2 HM1.out)
  have HR2 := Lib.hid (heap_keep xq.2 HR1.out)
  have hz2 : w.heap.size + 1 < xq.val.heap.size := by have := xq.2.size; omega
  generalize xq.val = W2 at *
  clear c0 c1 l0 HM1 HR1 HB1 hz1
  have c0 := (mcell HM2.out).1
  have c1 := (mcell HM2.out).2
  have l0 := cell_lt c0
  have r0 := (mcell HR2.out).1
  have r1 := (mcell HR2.out).2
  have rf0 := frz HR2.out 0
  have rf1 := frz HR2.out 1
  by_cases he : er = 0
  · subst he
    obtain ⟨hr, hmr, -⟩ := mkErr_ok (r := rk) (m := m) HER.out.symm
    rw [HRK.out] at hr
    have hri := ratOk_in hr
    obtain ⟨nn, rfl⟩ : ∃ nn : Nat, num = (nn : Int) := ⟨num.toNat, by omega⟩
    obtain ⟨dd, rfl⟩ : ∃ dd : Nat, den = (dd : Int) := ⟨den.toNat, by omega⟩
    have hfo := fin_tra hmr hr
    have hc0 : mkErr (ratOk (nn : Int) (dd : Int)) m = 0 := by rw [← HRK.out]; exact HER.out.symm
    have HTR : Hid (∀ W, Calls Try.prog 72 #[.int .i64 (nn : Int), .int .i64 (dd : Int)] W _) := Lib.hid (transposing_any nn dd)
    have HRB : Hid (∀ W nb db q, Below w.heap.size w W → W.cell? ⟨q, 0, none⟩ = some (.func (.func 93) #[] #[.pointer (some ⟨db, 0, none⟩), .pointer (some ⟨nb, 0, none⟩)]) → W.cell? ⟨nb, 0, none⟩ = some (.int .i64 (nn : Int)) → W.cell? ⟨db, 0, none⟩ = some (.int .i64 (dd : Int)) →
        Calls Try.prog 70 #[.agg #[.slice a m.sam.length c, .slice am m.marks.length cm], .slice (some ⟨q, 0, none⟩) 1 1] W _) := Lib.hid (fun W nb db q hB hq ha hb => rebuilt_tf hc0 hmr (HV.out.keep hB) (one_chg hq (chg_tra (Nat.le_refl _) (by omega) (by omega) (by omega) (cell_lt ha) (cell_lt hb) ha hb)) (by show 1 ≤ 10; omega) hfo)
    have hgs : [gTra (nn : Int) dd] = gsTra nn dd := rfl
    rw [hgs] at HRB
    have HK : Hid (∀ W', Below (w.heap.size + 1) W2 W' → (W'.cell? ⟨w.heap.size, 0, none⟩ = some (.slice a m.sam.length c) ∧ W'.cell? ⟨w.heap.size, 1, none⟩ = some (.slice am m.marks.length cm))) := Lib.hid fun W' hB => ⟨(hB.cell (p := ⟨w.heap.size, 0, none⟩) (Nat.lt_succ_self _)).trans c0, (hB.cell (p := ⟨w.heap.size, 1, none⟩) (Nat.lt_succ_self _)).trans c1⟩
    have hzl : w.heap.size + 1 ≤ W2.heap.size := Nat.le_of_lt hz2
    clear hgs hfo hri hr hmr hc0
    go_wp2_with fail
    go_region_held3 (fun W' => (W'.cell? ⟨w.heap.size, 0, none⟩ = some (.slice a m.sam.length c) ∧ W'.cell? ⟨w.heap.size, 1, none⟩ = some (.slice am m.marks.length cm))) (((try dsimp only); exact HK.out _ (by first | (refine Below.mono ?_ hzl; (repeat (first | exact Below.refl _ _ | exact hbA | exact hbB | refine Below.drew ?_ | refine bAlloc ?_ _)); done) | exact (Below.setCell (p := ⟨w.heap.size + 1, 1, none⟩) (Below.setCell (p := ⟨w.heap.size + 1, 0, none⟩) (hbB.mono hzl) (Nat.le_refl _) _) (Nat.le_refl _) _) | exact (Below.setCell (p := ⟨w.heap.size + 1, 1, none⟩) (Below.setCell (p := ⟨w.heap.size + 1, 0, none⟩) ((Below.drew hbB).mono hzl) (Nat.le_refl _) _) (Nat.le_refl _) _)))) (first
      | (go_at_call 72; with_reducible refine Calls.mono (HTR.out _) ?_; rintro e w3 ⟨⟨nb, db, rfl, hca, hcb⟩, hb⟩; have hbA : Below W2.heap.size W2 w3 := bThen (by (repeat (first | exact Below.refl _ _ | refine Below.drew ?_ | refine bAlloc ?_ _))) hb)
      | (go_at_call 70; with_reducible refine Calls.mono (HRB.out _ nb db _ (bThen HB2.out (by (repeat (first | exact hbA | exact Below.refl _ _ | refine Below.drew ?_ | refine bAlloc ?_ _)))) (by first | exact cell_new rfl | (show (World.alloc _ _).cell? _ = _; exact cell_new rfl)) (keep (by (repeat (first | exact Below.refl _ _ | refine Below.drew ?_ | refine bAlloc ?_ _))) hca) (keep (by (repeat (first | exact Below.refl _ _ | refine Below.drew ?_ | refine bAlloc ?_ _))) hcb)) ?_; rintro e w4 ⟨⟨ra, rc, qa, qc, rfl, hmv⟩, hb4⟩; have hbB : Below W2.heap.size W2 w4 := bThen (by (repeat (first | exact hbA | exact Below.refl _ _ | refine Below.drew ?_ | refine bAlloc ?_ _))) hb4; have s0 := keep hbB r0; have s1 := keep hbB r1; have s2 := frz (heap_keep hbB HR2.out) 0; have s3 := frz (heap_keep hbB HR2.out) 1; have s4 := cell_lt s0; have HMV := Lib.hid hmv; have HBB := Lib.hid hbB; clear hmv))
    all_goals
      go_wp2_with fail
      (try simp only [Exit.inBlock, Exit.then])
      refine bodyPost_ret (results_row_tmp rfl _ _ (w.heap.size + 1) 24 _ (0, 0) _ rfl (set2_1 (set2_0 (heap_keep HBB.out HR2.out) _) _) Try.underlying24 rfl (by kernel_rfl)) rfl ?_
      have hq1 := heap_keep HBB.out HR2.out
      have hq2 := set2_0 hq1 (.slice ra (tfV m nn dd (gsTra nn dd)).sam.length rc)
      exact ⟨⟨_, _, rfl, (HMV.out.set hq1 0 _).set hq2 1 _⟩, ((bThen HB2.out HBB.out).setCell (p := ⟨w.heap.size + 1, 0, none⟩) (Nat.le_succ _) _).setCell (p := ⟨w.heap.size + 1, 1, none⟩) (Nat.le_succ _) _⟩
  · have hb0 : (er == 0) = false := beq_eq_false_iff_ne.2 he
    go_wp2_with fail
    (try simp only [Exit.inBlock, Exit.then])
    refine bodyPost_ret (results_row_tmp rfl _ _ (w.heap.size + 1) 24 _ (0, 0) _ rfl (set2_1 (set2_0 HR2.out _) _) Try.underlying24 rfl (by kernel_rfl)) rfl ?_
    have hte : tfErr m num den (gsTra num den) = er := by unfold tfErr; rw [← HRK.out, ← HER.out, if_neg he]
    have htv : tfV m num den (gsTra num den) = ⟨[], []⟩ := by unfold tfV; rw [hte, if_neg he]
    rw [hte, htv]
    exact ⟨⟨_, _, rfl, empty_mk _⟩, (HB2.out.setCell (p := ⟨w.heap.size + 1, 0, none⟩) (Nat.le_succ _) _).setCell (p := ⟨w.heap.size + 1, 1, none⟩) (Nat.le_succ _) _⟩
set_option maxRecDepth 10000 in
set_option maxHeartbeats 4000000 in
theorem Sing_any (m : Mk) (num den : Int) (vs vm : Value) (w : World) (hv : MkV w vs vm m) (hn : m.sam.length ≤ 1000000) :
    Calls Try.prog 43 #[.agg #[vs, vm], .int .i64 num, .int .i64 den] w fun e w' => TfPost (tfErr m num den (gsSing m num den)) (tfV m num den (gsSing m num den)) e w' ∧ Below w.heap.size w w' := by
  have HV := Lib.hid hv
  have HRR : Hid (∀ W, Calls Try.prog 69 #[.int .i64 num, .int .i64 den] W fun e w' => e = .returned (.bool (ratOk num den)) ∧ W = w') := Lib.hid (ratioRight_any num den)
  obtain ⟨⟨a, c, rfl, hl, -⟩, ⟨am, cm, rfl, hlm, -⟩⟩ := hv
  obtain ⟨er, her⟩ : ∃ er, er = mkErr (ratOk num den) m := ⟨_, rfl⟩
  have HER := Lib.hid her
  have HCM : Hid (∀ W, Below w.heap.size w W → Calls Try.prog 57 #[.bool (ratOk num den), .agg #[.slice a m.sam.length c, .slice am m.marks.length cm]] W fun e w' => e = .returned (.int .i64 er) ∧ Below W.heap.size W w') := Lib.hid (fun W hB => by rw [her]; exact checkMarked_any (ratOk num den) m _ _ W (HV.out.keep hB) hn)
  clear her
  obtain ⟨rk, hrk⟩ : ∃ rk, rk = ratOk num den := ⟨_, rfl⟩
  rw [← hrk] at HRR HCM HER
  have HRK := Lib.hid hrk
  clear hrk
  go_enter Try.func43, Try.ntmps43
  go_wp2_with fail
  generalize hW1 : World.alloc (World.alloc w _) _ = W1
  have HB1 : Hid (Below w.heap.size w W1) := Lib.hid (by rw [← hW1]; exact bAlloc (bAlloc (Below.refl _ _) _) _)
  have HM1 : Hid (W1.heap[w.heap.size]? = some (.cells #[.slice a m.sam.length c, .slice am m.marks.length cm] 24 (0, 0))) := Lib.hid (by rw [← hW1]; exact heap_past (by simp) (heap_at rfl))
  have HR1 : Hid (W1.heap[w.heap.size + 1]? = some (.cells #[.slice none 0 0, .slice none 0 0] 24 (0, 0))) := Lib.hid (by rw [← hW1]; exact heap_at (by simp))
  have hz1 : w.heap.size + 1 < W1.heap.size := by rw [← hW1]; simp
  clear hW1
  have c0 := (mcell HM1.out).1
  have c1 := (mcell HM1.out).2
  have l0 := cell_lt c0
  (refine wp_region_below (by kernel_rfl) (by kernel_rfl) ?_; (repeat (first | go_big_quiet_step ((first | (with_reducible exact toS HRR.out _) | (with_reducible exact toB (fun x => HCM.out _ (bThen HB1.out x.2)) _))) | quiet_step ((first | (with_reducible exact toS HRR.out _) | (with_reducible exact toB (fun x => HCM.out _ (bThen HB1.out x.2)) _))))); (refine wpQuiet_nil ?_; intro _ hw'; obtain ⟨xq, hw''⟩ := hw'; subst hw''))
  have HB2 := Lib.hid (bThen HB1.out xq.2)
  have HM2 := Lib.hid (heap_keep xq.2 HM1.out)
  have HR2 := Lib.hid (heap_keep xq.2 HR1.out)
  have hz2 : w.heap.size + 1 < xq.val.heap.size := by have := xq.2.size; omega
  generalize xq.val = W2 at *
  clear c0 c1 l0 HM1 HR1 HB1 hz1
  have c0 := (mcell HM2.out).1
  have c1 := (mcell HM2.out).2
  have l0 := cell_lt c0
  have r0 := (mcell HR2.out).1
  have r1 := (mcell HR2.out).2
  have rf0 := frz HR2.out 0
  have rf1 := frz HR2.out 1
  by_cases he : er = 0
  · subst he
    obtain ⟨hr, hmr, -⟩ := mkErr_ok (r := rk) (m := m) HER.out.symm
    rw [HRK.out] at hr
    have hri := ratOk_in hr
    obtain ⟨nn, rfl⟩ : ∃ nn : Nat, num = (nn : Int) := ⟨num.toNat, by omega⟩
    obtain ⟨dd, rfl⟩ : ∃ dd : Nat, den = (dd : Int) := ⟨den.toNat, by omega⟩
    have hpn := hmr.pN_in
    have hsa := strA_in hmr hr
    have hfo := fin_sing hmr hr
    have hc0 : mkErr (ratOk (nn : Int) (dd : Int)) m = 0 := by rw [← HRK.out]; exact HER.out.symm
    have HST : Hid (∀ W, Below w.heap.size w W → Calls Try.prog 71 #[.agg #[.slice a m.sam.length c, .slice am m.marks.length cm], .int .i64 (nn : Int), .int .i64 (dd : Int)] W fun e w' => (∃ fb ba bb, e = .returned (.agg #[.func (.func 92) #[] #[.pointer (some ⟨fb, 0, none⟩)]]) ∧
        w'.cell? ⟨fb, 0, none⟩ = some (.func (.func 91) #[] #[.pointer (some ⟨ba, 0, none⟩), .pointer (some ⟨bb, 0, none⟩)]) ∧ w'.cell? ⟨ba, 0, none⟩ = some (.int .i64 (strA m nn dd : Nat)) ∧ w'.cell? ⟨bb, 0, none⟩ = some (.int .i64 (pN m : Nat))) ∧ Below W.heap.size W w') := Lib.hid (fun W hB => by
      have h := stretching_any m nn dd _ _ W (HV.out.keep hB) (by omega) (by omega) (by omega) (by omega) (by omega) (by rw [show (m.marks.length : Int) - 1 = (pN m : Int) by omega]; omega)
      rw [show (m.marks.length : Int) - 1 = (pN m : Int) by omega, hsa.1] at h
      exact h)
    have HTR : Hid (∀ W, Calls Try.prog 72 #[.int .i64 (nn : Int), .int .i64 (dd : Int)] W _) := Lib.hid (transposing_any nn dd)
    have HRB : Hid (∀ W nb db fb ba bb q, Below w.heap.size w W → W.cell? ⟨q, 0, none⟩ = some (.func (.func 93) #[] #[.pointer (some ⟨db, 0, none⟩), .pointer (some ⟨nb, 0, none⟩)]) → W.cell? ⟨q, 1, none⟩ = some (.func (.func 92) #[] #[.pointer (some ⟨fb, 0, none⟩)]) → W.cell? ⟨nb, 0, none⟩ = some (.int .i64 (nn : Int)) → W.cell? ⟨db, 0, none⟩ = some (.int .i64 (dd : Int)) → W.cell? ⟨fb, 0, none⟩ = some (.func (.func 91) #[] #[.pointer (some ⟨ba, 0, none⟩), .pointer (some ⟨bb, 0, none⟩)]) → W.cell? ⟨ba, 0, none⟩ = some (.int .i64 (strA m nn dd : Nat)) → W.cell? ⟨bb, 0, none⟩ = some (.int .i64 (pN m : Nat)) →
        Calls Try.prog 70 #[.agg #[.slice a m.sam.length c, .slice am m.marks.length cm], .slice (some ⟨q, 0, none⟩) 2 2] W _) := Lib.hid (fun W nb db fb ba bb q hB hq hq1 hn hd hf ha hb => rebuilt_tf hc0 hmr (HV.out.keep hB) (two_chg hq hq1 (chg_tra (Nat.le_refl _) (by omega) (by omega) (by omega) (cell_lt hn) (cell_lt hd) hn hd) (chg_str (Nat.le_refl _) (by omega) hpn.1 (by omega) (cell_lt hf) (cell_lt ha) (cell_lt hb) hf ha hb)) (by show 2 ≤ 10; omega) hfo)
    have hgs : [gTra (nn : Int) dd, gStr (strA m (nn : Int) dd) (pN m)] = gsSing m nn dd := rfl
    rw [hgs] at HRB
    have HK : Hid (∀ W', Below (w.heap.size + 1) W2 W' → (W'.cell? ⟨w.heap.size, 0, none⟩ = some (.slice a m.sam.length c) ∧ W'.cell? ⟨w.heap.size, 1, none⟩ = some (.slice am m.marks.length cm))) := Lib.hid fun W' hB => ⟨(hB.cell (p := ⟨w.heap.size, 0, none⟩) (Nat.lt_succ_self _)).trans c0, (hB.cell (p := ⟨w.heap.size, 1, none⟩) (Nat.lt_succ_self _)).trans c1⟩
    have hzl : w.heap.size + 1 ≤ W2.heap.size := Nat.le_of_lt hz2
    clear hgs hfo hsa hpn hri hr hmr hc0
    go_wp2_with fail
    go_region_held3 (fun W' => (W'.cell? ⟨w.heap.size, 0, none⟩ = some (.slice a m.sam.length c) ∧ W'.cell? ⟨w.heap.size, 1, none⟩ = some (.slice am m.marks.length cm))) (((try dsimp only); exact HK.out _ (by first | (refine Below.mono ?_ hzl; (repeat (first | exact Below.refl _ _ | exact hbT | exact hbA | exact hbB | refine Below.drew ?_ | refine bAlloc ?_ _)); done) | exact (Below.setCell (p := ⟨w.heap.size + 1, 1, none⟩) (Below.setCell (p := ⟨w.heap.size + 1, 0, none⟩) (hbB.mono hzl) (Nat.le_refl _) _) (Nat.le_refl _) _) | exact (Below.setCell (p := ⟨w.heap.size + 1, 1, none⟩) (Below.setCell (p := ⟨w.heap.size + 1, 0, none⟩) ((Below.drew hbB).mono hzl) (Nat.le_refl _) _) (Nat.le_refl _) _)))) (first
      | (go_at_call 72; with_reducible refine Calls.mono (HTR.out _) ?_; rintro e wt ⟨⟨nb, db, rfl, hta, htb⟩, hbt⟩; have hbT : Below W2.heap.size W2 wt := bThen (by (repeat (first | exact Below.refl _ _ | refine Below.drew ?_ | refine bAlloc ?_ _))) hbt)
      | (go_at_call 71; with_reducible refine Calls.mono (HST.out _ (bThen HB2.out (by (repeat (first | exact Below.refl _ _ | exact hbT | refine Below.drew ?_ | refine bAlloc ?_ _))))) ?_; rintro e w3 ⟨⟨fb, ba, bb, rfl, hcf, hca, hcb⟩, hb⟩; have hbA : Below W2.heap.size W2 w3 := bThen (by (repeat (first | exact Below.refl _ _ | exact hbT | refine Below.drew ?_ | refine bAlloc ?_ _))) hb; have hna := keep (bThen (by (repeat (first | exact Below.refl _ _ | refine Below.drew ?_ | refine bAlloc ?_ _))) hb) hta; have hnb := keep (bThen (by (repeat (first | exact Below.refl _ _ | refine Below.drew ?_ | refine bAlloc ?_ _))) hb) htb)
      | (go_at_call 70; with_reducible refine Calls.mono (HRB.out _ nb db fb ba bb _ (bThen HB2.out (by (repeat (first | exact hbA | exact Below.refl _ _ | refine Below.drew ?_ | refine bAlloc ?_ _)))) (by first | exact cell_new rfl | (show (World.alloc _ _).cell? _ = _; exact cell_new rfl)) (by first | exact cell_new rfl | (show (World.alloc _ _).cell? _ = _; exact cell_new rfl)) (keep (by (repeat (first | exact Below.refl _ _ | refine Below.drew ?_ | refine bAlloc ?_ _))) hna) (keep (by (repeat (first | exact Below.refl _ _ | refine Below.drew ?_ | refine bAlloc ?_ _))) hnb) (keep (by (repeat (first | exact Below.refl _ _ | refine Below.drew ?_ | refine bAlloc ?_ _))) hcf) (keep (by (repeat (first | exact Below.refl _ _ | refine Below.drew ?_ | refine bAlloc ?_ _))) hca) (keep (by (repeat (first | exact Below.refl _ _ | refine Below.drew ?_ | refine bAlloc ?_ _))) hcb)) ?_; rintro e w4 ⟨⟨ra, rc, qa, qc, rfl, hmv⟩, hb4⟩; have hbB : Below W2.heap.size W2 w4 := bThen (by (repeat (first | exact hbA | exact Below.refl _ _ | refine Below.drew ?_ | refine bAlloc ?_ _))) hb4; have s0 := keep hbB r0; have s1 := keep hbB r1; have s2 := frz (heap_keep hbB HR2.out) 0; have s3 := frz (heap_keep hbB HR2.out) 1; have s4 := cell_lt s0; have HMV := Lib.hid hmv; have HBB := Lib.hid hbB; clear hmv))
    all_goals
      go_wp2_with fail
      (try simp only [Exit.inBlock, Exit.then])
      refine bodyPost_ret (results_row_tmp rfl _ _ (w.heap.size + 1) 24 _ (0, 0) _ rfl (set2_1 (set2_0 (heap_keep HBB.out HR2.out) _) _) Try.underlying24 rfl (by kernel_rfl)) rfl ?_
      have hq1 := heap_keep HBB.out HR2.out
      have hq2 := set2_0 hq1 (.slice ra (tfV m nn dd (gsSing m nn dd)).sam.length rc)
      exact ⟨⟨_, _, rfl, (HMV.out.set hq1 0 _).set hq2 1 _⟩, ((bThen HB2.out HBB.out).setCell (p := ⟨w.heap.size + 1, 0, none⟩) (Nat.le_succ _) _).setCell (p := ⟨w.heap.size + 1, 1, none⟩) (Nat.le_succ _) _⟩
  · have hb0 : (er == 0) = false := beq_eq_false_iff_ne.2 he
    go_wp2_with fail
    (try simp only [Exit.inBlock, Exit.then])
    refine bodyPost_ret (results_row_tmp rfl _ _ (w.heap.size + 1) 24 _ (0, 0) _ rfl (set2_1 (set2_0 HR2.out _) _) Try.underlying24 rfl (by kernel_rfl)) rfl ?_
    have hte : tfErr m num den (gsSing m num den) = er := by unfold tfErr; rw [← HRK.out, ← HER.out, if_neg he]
    have htv : tfV m num den (gsSing m num den) = ⟨[], []⟩ := by unfold tfV; rw [hte, if_neg he]
    rw [hte, htv]
    exact ⟨⟨_, _, rfl, empty_mk _⟩, (HB2.out.setCell (p := ⟨w.heap.size + 1, 0, none⟩) (Nat.le_succ _) _).setCell (p := ⟨w.heap.size + 1, 1, none⟩) (Nat.le_succ _) _⟩
end Go.Proofs.Ytbeeddenidfenaa
