/- Contracts: Stretch, Transpose, Sing. -/
import Derived.Test.YtbeeddenidfenaaG6
set_option linter.unusedSimpArgs false
set_option linter.unusedVariables false
namespace Go.Proofs.Ytbeeddenidfenaa
open Go.RowKit

def tfErr (m : Mk) (num den : Int) (gs : List Eff) : Int := if mkErr (ratOk num den) m = 0 then (if 100000 < rebLen m gs then 4 else 0) else mkErr (ratOk num den) m
def tfV (m : Mk) (num den : Int) (gs : List Eff) : Mk := if tfErr m num den gs = 0 then bldM m (said m gs) else ⟨[], []⟩
/-- What a transformation hands back. -/
def TfPost (er : Int) (r : Mk) (e : Ending) (w' : World) : Prop := ∃ rs rm, e = .returned (.tuple #[.agg #[rs, rm], .int .i64 er]) ∧ MkV w' rs rm r
theorem empty_mk (w : World) : MkV w (.slice none 0 0) (.slice none 0 0) ⟨[], []⟩ := ⟨⟨none, 0, rfl, ⟨Nat.zero_le _, Nat.zero_le _⟩, .inl rfl⟩, ⟨none, 0, rfl, ⟨Nat.zero_le _, Nat.zero_le _⟩, .inl rfl⟩⟩
theorem reb_post {m : Mk} {gs : List Eff} {num den : Int} (hc : mkErr (ratOk num den) m = 0) {e : Ending} {w' : World} (h : RebPost m gs e w') : TfPost (tfErr m num den gs) (tfV m num den gs) e w' := by
  rcases h with ⟨h1, rfl⟩ | ⟨h1, vs, vm, rfl, h2⟩
  · have h3 : tfErr m num den gs = 4 := by unfold tfErr; rw [if_pos hc, if_pos h1]
    refine ⟨_, _, by rw [h3], ?_⟩
    unfold tfV
    rw [h3, if_neg (by decide)]
    exact empty_mk w'
  · have h3 : tfErr m num den gs = 0 := by unfold tfErr; rw [if_pos hc, if_neg (by omega)]
    refine ⟨_, _, by rw [h3], ?_⟩
    unfold tfV
    rw [h3, if_pos rfl]
    exact h2
/-- A slice of one change, just laid. -/
theorem one_chg {n N : Nat} {w0 W : World} {b : Nat} {v : Value} {g : Eff} (h : W.cell? ⟨b, 0, none⟩ = some v) (hc : Chg n N w0 v g) : SliceV W (.slice (some ⟨b, 0, none⟩) 1 1) 1 (ChgAt n N w0) [g] :=
  ⟨_, 1, rfl, ⟨by show 1 ≤ most; unfold most; omega, Nat.le_refl 1⟩, .inr ⟨b, 0, rfl, fun i hi => by
    obtain rfl : i = 0 := by have : i < 1 := hi; omega
    exact ⟨v, h, hc⟩⟩⟩
theorem two_chg {n N : Nat} {w0 W : World} {b : Nat} {u v : Value} {f g : Eff} (h1 : W.cell? ⟨b, 0, none⟩ = some u) (h2 : W.cell? ⟨b, 1, none⟩ = some v) (hf : Chg n N w0 u f) (hg : Chg n N w0 v g) : SliceV W (.slice (some ⟨b, 0, none⟩) 2 2) 1 (ChgAt n N w0) [f, g] :=
  ⟨_, 2, rfl, ⟨by show 2 ≤ most; unfold most; omega, Nat.le_refl 2⟩, .inr ⟨b, 0, rfl, fun i hi => by
    have : i < 2 := hi
    obtain rfl | rfl : i = 0 ∨ i = 1 := by omega
    · exact ⟨u, h1, hf⟩
    · exact ⟨v, h2, hg⟩⟩⟩
/-- The wave is rebuilt, whatever slices hold it. -/
theorem rebuilt_of {m : Mk} {gs : List Eff} {vs vm cv : Value} {w : World} (hm : MkR m) (hv : MkV w vs vm m) (hc : SliceV w cv 1 (ChgAt w.heap.size (pN m) w) gs) (hgs : gs.length ≤ 10) (hf : FinOk m gs) :
    Calls Try.prog 70 #[.agg #[vs, vm], cv] w fun e w' => RebPost m gs e w' ∧ Below w.heap.size w w' := by
  obtain ⟨h1, h2⟩ := hv
  obtain ⟨a, c, rfl, -⟩ := id h1
  obtain ⟨am, cm, rfl, -⟩ := id h2
  obtain ⟨b, o, rfl, -⟩ := h1.at hm.ne
  exact rebuilt_any m gs b o c cm am cv w hm h1 h2 hc hgs hf

theorem rebuilt_tf {m : Mk} {gs : List Eff} {vs vm cv : Value} {w : World} {num den : Int} (hc0 : mkErr (ratOk num den) m = 0) (hm : MkR m) (hv : MkV w vs vm m) (hc : SliceV w cv 1 (ChgAt w.heap.size (pN m) w) gs) (hgs : gs.length ≤ 10) (hf : FinOk m gs) :
    Calls Try.prog 70 #[.agg #[vs, vm], cv] w fun e w' => (∃ ra rc qa qc, e = .returned (.tuple #[.agg #[.slice ra (tfV m num den gs).sam.length rc, .slice qa (tfV m num den gs).marks.length qc], .int .i64 (tfErr m num den gs)]) ∧ MkV w' (.slice ra (tfV m num den gs).sam.length rc) (.slice qa (tfV m num den gs).marks.length qc) (tfV m num den gs)) ∧ Below w.heap.size w w' :=
  (rebuilt_of hm hv hc hgs hf).mono fun e w' ⟨h1, h2⟩ => by
    obtain ⟨rs, rm, rfl, h3, h4⟩ := reb_post hc0 h1
    obtain ⟨ra, rc, rfl, h5⟩ := id h3
    obtain ⟨qa, qc, rfl, h6⟩ := id h4
    exact ⟨⟨ra, rc, qa, qc, rfl, h3, h4⟩, h2⟩
theorem ints_set {W : World} {v : Value} {l : List Int} {r n1 c1 n2 c2 : Nat} {a1 a2 : Option Addr} {t : TypeId} (h : SliceV W v 1 IntAt l) (hR : W.heap[r]? = some (.cells #[.slice a1 n1 c1, .slice a2 n2 c2] t (0, 0))) (o : Nat) (x : Value) : SliceV (W.setCell ⟨r, o, none⟩ x) v 1 IntAt l := by
  obtain ⟨a, c, rfl, hl, hx⟩ := h
  refine ⟨a, c, rfl, hl, hx.imp id fun ⟨b, o', ha, hi⟩ => ⟨b, o', ha, fun i hi' => ?_⟩⟩
  have h0 := hi i hi'
  have hne : b ≠ r := by
    rintro rfl
    unfold IntAt at h0
    simp only [World.cell?, hR] at h0
    generalize o' + i * 1 = k at h0
    match k with
    | 0 => simp at h0
    | 1 => simp at h0
    | k + 2 => simp at h0
  exact (World.cell?_of_block (w := W) (Below.heap_setCell _ _ _ _ hne)).trans h0
theorem MkV.set {W : World} {v u : Value} {m : Mk} {r n1 c1 n2 c2 : Nat} {a1 a2 : Option Addr} {t : TypeId} (h : MkV W v u m) (hR : W.heap[r]? = some (.cells #[.slice a1 n1 c1, .slice a2 n2 c2] t (0, 0))) (o : Nat) (x : Value) : MkV (W.setCell ⟨r, o, none⟩ x) v u m := ⟨ints_set h.1 hR o x, ints_set h.2 hR o x⟩
set_option maxRecDepth 10000 in
set_option maxHeartbeats 4000000 in
theorem Stretch_any (m : Mk) (num den : Int) (vs vm : Value) (w : World) (hv : MkV w vs vm m) (hn : m.sam.length ≤ 1000000) :
    Calls Try.prog 41 #[.agg #[vs, vm], .int .i64 num, .int .i64 den] w fun e w' => TfPost (tfErr m num den (gsStr m num den)) (tfV m num den (gsStr m num den)) e w' ∧ Below w.heap.size w w' := by
  have HV := Lib.hid hv
  have HRR : Hid (∀ W, Calls Try.prog 69 #[.int .i64 num, .int .i64 den] W fun e w' => e = .returned (.bool (ratOk num den)) ∧ W = w') := Lib.hid (ratioRight_any num den)
  obtain ⟨⟨a, c, rfl, hl, -⟩, ⟨am, cm, rfl, hlm, -⟩⟩ := hv
  obtain ⟨er, her⟩ : ∃ er, er = mkErr (ratOk num den) m := ⟨_, rfl⟩
  have HER := Lib.hid her
  have HCM : Hid (∀ W, Below w.heap.size w W → Calls Try.prog 57 #[.bool (ratOk num den), .agg #[.slice a m.sam.length c, .slice am m.marks.length cm]] W fun e w' => e = .returned (.int .i64 er) ∧ Below W.heap.size W w') := Lib.hid (fun W hB => by rw [her]; exact checkMarked_any (ratOk num den) m _ _ W (HV.out.keep hB) hn)
  clear her
  obtain ⟨rk, hrk⟩ : ∃ rk, rk = ratOk num den := ⟨_, rfl⟩
  rw [← hrk] at HRR HCM HER
  have HRK := Lib.hid hrk
  clear hrk
  go_enter Try.func41, Try.ntmps41
  go_wp2_with fail
  generalize hW1 : World.alloc (World.alloc w _) _ = W1
  have HB1 : Hid (Below w.heap.size w W1) := Lib.hid (by rw [← hW1]; exact bAlloc (bAlloc (Below.refl _ _) _) _)
  have HM1 : Hid (W1.heap[w.heap.size]? = some (.cells #[.slice a m.sam.length c, .slice am m.marks.length cm] 24 (0, 0))) := Lib.hid (by rw [← hW1]; exact heap_past (by simp) (heap_at rfl))
  have HR1 : Hid (W1.heap[w.heap.size + 1]? = some (.cells #[.slice none 0 0, .slice none 0 0] 24 (0, 0))) := Lib.hid (by rw [← hW1]; exact heap_at (by simp))
  have hz1 : w.heap.size + 1 < W1.heap.size := by rw [← hW1]; simp
  clear hW1
  have c0 := (mcell HM1.out).1
  have c1 := (mcell HM1.out).2
  have l0 := cell_lt c0
  (refine wp_region_below (by kernel_rfl) (by kernel_rfl) ?_; (repeat (first | go_big_quiet_step ((first | (with_reducible exact toS HRR.out _) | (with_reducible exact toB (fun x => HCM.out _ (bThen HB1.out x.2)) _))) | quiet_step ((first | (with_reducible exact toS HRR.out _) | (with_reducible exact toB (fun x => HCM.out _ (bThen HB1.out x.2)) _))))); (refine wpQuiet_nil ?_; intro _ hw'; obtain ⟨xq, hw''⟩ := hw'; subst hw''))
  have HB2 := Lib.hid (bThen HB1.out xq.2)
  have HM2 := Lib.hid (heap_keep xq.2 HM1.out)
  have HR2 := Lib.hid (heap_keep xq.2 HR1.out)
  have hz2 : w.heap.size + 1 < xq.val.heap.size := by have := xq.2.size; omega
  generalize xq.val = W2 at *
  clear c0 c1 l0 HM1 HR1 HB1 hz1
  have c0 := (mcell HM2.out).1
  have c1 := (mcell HM2.out).2
  have l0 := cell_lt c0
  have r0 := (mcell HR2.out).1
  have r1 := (mcell HR2.out).2
  have rf0 := frz HR2.out 0
  have rf1 := frz HR2.out 1
  by_cases he : er = 0
  · subst he
    obtain ⟨hr, hmr, -⟩ := mkErr_ok (r := rk) (m := m) HER.out.symm
    rw [HRK.out] at hr
    have hri := ratOk_in hr
    obtain ⟨nn, rfl⟩ : ∃ nn : Nat, num = (nn : Int) := ⟨num.toNat, by omega⟩
    obtain ⟨dd, rfl⟩ : ∃ dd : Nat, den = (dd : Int) := ⟨den.toNat, by omega⟩
    have hpn := hmr.pN_in
    have hsa := strA_in hmr hr
    have hfo := fin_str hmr hr
    have hc0 : mkErr (ratOk (nn : Int) (dd : Int)) m = 0 := by rw [← HRK.out]; exact HER.out.symm
    have HST : Hid (∀ W, Below w.heap.size w W → Calls Try.prog 71 #[.agg #[.slice a m.sam.length c, .slice am m.marks.length cm], .int .i64 (nn : Int), .int .i64 (dd : Int)] W fun e w' => (∃ fb ba bb, e = .returned (.agg #[.func (.func 92) #[] #[.pointer (some ⟨fb, 0, none⟩)]]) ∧
        w'.cell? ⟨fb, 0, none⟩ = some (.func (.func 91) #[] #[.pointer (some ⟨ba, 0, none⟩), .pointer (some ⟨bb, 0, none⟩)]) ∧ w'.cell? ⟨ba, 0, none⟩ = some (.int .i64 (strA m nn dd : Nat)) ∧ w'.cell? ⟨bb, 0, none⟩ = some (.int .i64 (pN m : Nat))) ∧ Below W.heap.size W w') := Lib.hid (fun W hB => by
      have h := stretching_any m nn dd _ _ W (HV.out.keep hB) (by omega) (by omega) (by omega) (by omega) (by omega) (by rw [show (m.marks.length : Int) - 1 = (pN m : Int) by omega]; omega)
      rw [show (m.marks.length : Int) - 1 = (pN m : Int) by omega, hsa.1] at h
      exact h)
    have HRB : Hid (∀ W fb ba bb q, Below w.heap.size w W → W.cell? ⟨q, 0, none⟩ = some (.func (.func 92) #[] #[.pointer (some ⟨fb, 0, none⟩)]) → W.cell? ⟨fb, 0, none⟩ = some (.func (.func 91) #[] #[.pointer (some ⟨ba, 0, none⟩), .pointer (some ⟨bb, 0, none⟩)]) → W.cell? ⟨ba, 0, none⟩ = some (.int .i64 (strA m nn dd : Nat)) → W.cell? ⟨bb, 0, none⟩ = some (.int .i64 (pN m : Nat)) →
        Calls Try.prog 70 #[.agg #[.slice a m.sam.length c, .slice am m.marks.length cm], .slice (some ⟨q, 0, none⟩) 1 1] W _) := Lib.hid (fun W fb ba bb q hB hq hf ha hb => rebuilt_tf hc0 hmr (HV.out.keep hB) (one_chg hq (chg_str (Nat.le_refl _) (by omega) hpn.1 (by omega) (cell_lt hf) (cell_lt ha) (cell_lt hb) hf ha hb)) (by show 1 ≤ 10; omega) hfo)
    have hgs : [gStr (strA m (nn : Int) dd) (pN m)] = gsStr m nn dd := rfl
    rw [hgs] at HRB
    have HK : Hid (∀ W', Below (w.heap.size + 1) W2 W' → (W'.cell? ⟨w.heap.size, 0, none⟩ = some (.slice a m.sam.length c) ∧ W'.cell? ⟨w.heap.size, 1, none⟩ = some (.slice am m.marks.length cm))) := Lib.hid fun W' hB => ⟨(hB.cell (p := ⟨w.heap.size, 0, none⟩) (Nat.lt_succ_self _)).trans c0, (hB.cell (p := ⟨w.heap.size, 1, none⟩) (Nat.lt_succ_self _)).trans c1⟩
    have hzl : w.heap.size + 1 ≤ W2.heap.size := Nat.le_of_lt hz2
    clear hgs hfo hsa hpn hri hr hmr hc0
    go_wp2_with fail
    go_region_held3 (fun W' => (W'.cell? ⟨w.heap.size, 0, none⟩ = some (.slice a m.sam.length c) ∧ W'.cell? ⟨w.heap.size, 1, none⟩ = some (.slice am m.marks.length cm))) (((try dsimp only); exact HK.out _ (by first | (refine Below.mono ?_ hzl; (repeat (first | exact Below.refl _ _ | exact hbA | exact hbB | refine Below.drew ?_ | refine bAlloc ?_ _)); done) | exact (Below.setCell (p := ⟨w.heap.size + 1, 1, none⟩) (Below.setCell (p := ⟨w.heap.size + 1, 0, none⟩) (hbB.mono hzl) (Nat.le_refl _) _) (Nat.le_refl _) _) | exact (Below.setCell (p := ⟨w.heap.size + 1, 1, none⟩) (Below.setCell (p := ⟨w.heap.size + 1, 0, none⟩) ((Below.drew hbB).mono hzl) (Nat.le_refl _) _) (Nat.le_refl _) _)))) (first
      | (go_at_call 71; with_reducible refine Calls.mono (HST.out _ (bThen HB2.out (by (repeat (first | exact Below.refl _ _ | refine Below.drew ?_ | refine bAlloc ?_ _))))) ?_; rintro e w3 ⟨⟨fb, ba, bb, rfl, hcf, hca, hcb⟩, hb⟩; have hbA : Below W2.heap.size W2 w3 := bThen (by (repeat (first | exact Below.refl _ _ | refine Below.drew ?_ | refine bAlloc ?_ _))) hb)
      | (go_at_call 70; with_reducible refine Calls.mono (HRB.out _ fb ba bb _ (bThen HB2.out (by (repeat (first | exact hbA | exact Below.refl _ _ | refine Below.drew ?_ | refine bAlloc ?_ _)))) (by first | exact cell_new rfl | (show (World.alloc _ _).cell? _ = _; exact cell_new rfl)) (keep (by (repeat (first | exact Below.refl _ _ | refine Below.drew ?_ | refine bAlloc ?_ _))) hcf) (keep (by (repeat (first | exact Below.refl _ _ | refine Below.drew ?_ | refine bAlloc ?_ _))) hca) (keep (by (repeat (first | exact Below.refl _ _ | refine Below.drew ?_ | refine bAlloc ?_ _))) hcb)) ?_; rintro e w4 ⟨⟨ra, rc, qa, qc, rfl, hmv⟩, hb4⟩; have hbB : Below W2.heap.size W2 w4 := bThen (by (repeat (first | exact hbA | exact Below.refl _ _ | refine Below.drew ?_ | refine bAlloc ?_ _))) hb4; have s0 := keep hbB r0; have s1 := keep hbB r1; have s2 := frz (heap_keep hbB HR2.out) 0; have s3 := frz (heap_keep hbB HR2.out) 1; have s4 := cell_lt s0; have HMV := Lib.hid hmv; have HBB := Lib.hid hbB; clear hmv))
    all_goals
      go_wp2_with fail
      (try simp only [Exit.inBlock, Exit.then])
      refine bodyPost_ret (results_row_tmp rfl _ _ (w.heap.size + 1) 24 _ (0, 0) _ rfl (set2_1 (set2_0 (heap_keep HBB.out HR2.out) _) _) Try.underlying24 rfl (by kernel_rfl)) rfl ?_
      have hq1 := heap_keep HBB.out HR2.out
      have hq2 := set2_0 hq1 (.slice ra (tfV m nn dd (gsStr m nn dd)).sam.length rc)
      exact ⟨⟨_, _, rfl, (HMV.out.set hq1 0 _).set hq2 1 _⟩, ((bThen HB2.out HBB.out).setCell (p := ⟨w.heap.size + 1, 0, none⟩) (Nat.le_succ _) _).setCell (p := ⟨w.heap.size + 1, 1, none⟩) (Nat.le_succ _) _⟩
  · have hb0 : (er == 0) = false := beq_eq_false_iff_ne.2 he
    go_wp2_with fail
    (try simp only [Exit.inBlock, Exit.then])
    refine bodyPost_ret (results_row_tmp rfl _ _ (w.heap.size + 1) 24 _ (0, 0) _ rfl (set2_1 (set2_0 HR2.out _) _) Try.underlying24 rfl (by kernel_rfl)) rfl ?_
    have hte : tfErr m num den (gsStr m num den) = er := by unfold tfErr; rw [← HRK.out, ← HER.out, if_neg he]
    have htv : tfV m num den (gsStr m num den) = ⟨[], []⟩ := by unfold tfV; rw [hte, if_neg he]
    rw [hte, htv]
    exact ⟨⟨_, _, rfl, empty_mk _⟩, (HB2.out.setCell (p := ⟨w.heap.size + 1, 0, none⟩) (Nat.le_succ _) _).setCell (p := ⟨w.heap.size + 1, 1, none⟩) (Nat.le_succ _) _⟩
end Go.Proofs.Ytbeeddenidfenaa
