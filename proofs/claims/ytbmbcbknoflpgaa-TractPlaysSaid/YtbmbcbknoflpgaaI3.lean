/- Contracts: Step. -/
import Derived.Test.YtbmbcbknoflpgaaH9
set_option linter.unusedSimpArgs false
set_option linter.unusedVariables false
namespace Go.Proofs.Ytbmbcbknoflpgaa
open Go.RowKit

/-- What is heard, with an error. -/
theorem ret_heard {tmps : Array Value} {w : World} {rb : Nat} {a b e : Int} (hp : tmps.getD 4 undef = .pointer (some ⟨rb, 0, none⟩)) (he : tmps.getD 5 undef = .int .i64 e) (hg : w.heap[rb]? = some (.cells #[.int .i64 a, .int .i64 b] 51 (0, 0))) :
    (results Try.f31 tmps).run Try.prog w = .ok (.tuple #[.agg #[.int .i64 a, .int .i64 b], .int .i64 e]) w := by
  rw [results_cell_tmp rfl, hp, he]
  simp [asAddr, Result.andThen, run_loadVar_row w rb 51 51 _ _ _ hg Try.underlying51 rfl infoHd]
set_option maxRecDepth 10000 in
set_option maxHeartbeats 1000000 in
theorem Step_none (tp : Value) (v : Value) (w : World) (hN : ∀ W, Below w.heap.size w W → Calls Try.prog 62 #[tp] W fun e w' => e = .returned (.bool true) ∧ W = w') :
    Calls Try.prog 31 #[tp, v] w fun e w' => e = .returned (.tuple #[.agg #[.int .i64 0, .int .i64 0], .int .i64 1]) ∧ Below w.heap.size w w' := by
  have HB := Lib.hid (bAlloc (Below.refl w.heap.size w) (.cells #[.int .i64 0, .int .i64 0] 51))
  have HN := Lib.hid (hN _ HB.out)
  have HR : Hid ((w.alloc (.cells #[.int .i64 0, .int .i64 0] 51)).heap[w.heap.size]? = some (.cells #[.int .i64 0, .int .i64 0] 51 (0, 0))) := Lib.hid (World.alloc_heap_new w _)
  clear hN
  go_enter Try.func31, Try.ntmps31
  go_wp2_with (go_at_call 62; with_reducible refine Calls.mono HN.out ?_; rintro e w1 ⟨rfl, rfl⟩)
  (try simp only [Exit.inBlock, Exit.then])
  refine bodyPost_ret (ret_heard rfl rfl HR.out) rfl ?_
  exact ⟨rfl, HB.out⟩
/-- Where the waves of a state lie; the state after a step, without and with feeds; what is heard. -/
def offO (n steps : Nat) : Nat := steps % 2 * n * 2
def stpF (al : List Int) (ps : List Plc) (steps : Nat) (f : Nat → Int) : Nat → Int := meetsA (fun i => al.getD i 0) (offO al.length steps) (offO al.length (steps + 1)) ps f
def nxtF (al : List Int) (ps : List Plc) (steps : Nat) (fl : List Fd) (f : Nat → Int) : Nat → Int := feedsA (offO al.length (steps + 1)) fl (stpF al ps steps f)
def lipF (al : List Int) (main : Nat) (ps : List Plc) (steps : Nat) (f : Nat → Int) : Int := heardL main (offO al.length steps) (offO al.length (steps + 1)) (stpF al ps steps f)
def nosF (al : List Int) (main : Nat) (ps : List Plc) (steps : Nat) (f : Nat → Int) : Int := noseL main al.length (offO al.length steps) (offO al.length (steps + 1)) (stpF al ps steps f)
/-- All that is asked of a tube. -/
structure TubeOk (al : List Int) (main : Nat) (ps : List Plc) : Prop where
  m1 : 1 ≤ main
  mn : main ≤ al.length
  m24 : main ≤ 24
  n48 : al.length ≤ 48
  plc : ∀ p ∈ ps, plcOk al.length p
  pl : ps.length ≤ 100
  ar : ∀ j, j < al.length → 1 ≤ al.getD j 0 ∧ al.getD j 0 ≤ 1000
theorem fdOk_parts {n : Int} {l : List Fd} (h : fdOk n l = true) : fdGood n l ∧ fdSum l ≤ 500 := by simpa [fdOk] using h
theorem set2 {W : World} {rb t : Nat} {x y : Value} (h : W.heap[rb]? = some (.cells #[x, y] t (0, 0))) (a b : Value) : ((W.setCell ⟨rb, 0, none⟩ a).setCell ⟨rb, 1, none⟩ b).heap[rb]? = some (.cells #[a, b] t (0, 0)) := by
  have e2 := heap_setCell_same _ rb 0 _ _ a h
  simp at e2
  have e3 := heap_setCell_same _ rb 1 _ _ b e2
  simpa using e3
theorem below2 {B rb : Nat} {w W : World} (h : Below B w W) (hb : B ≤ rb) (a b : Value) : Below B w ((W.setCell ⟨rb, 0, none⟩ a).setCell ⟨rb, 1, none⟩ b) :=
  (h.setCell (p := ⟨rb, 0, none⟩) hb _).setCell (p := ⟨rb, 1, none⟩) hb _
set_option maxRecDepth 10000 in
set_option maxHeartbeats 2000000 in
theorem Step_bad {base tb main steps wb : Nat} {w : World} {al : List Int} {ps : List Plc} {f : Nat → Int} (h : TubeIs base w tb al main ps steps wb f) (ok : TubeOk al main ps) (fl : List Fd) (v : Value) (hfl : SliceV w v 2 FdAt fl) (hk : fdOk main fl = false) :
    Calls Try.prog 31 #[.pointer (some ⟨tb, 0, none⟩), v] w fun e w' => e = .returned (.tuple #[.agg #[.int .i64 0, .int .i64 0], .int .i64 2]) ∧ Below w.heap.size w w' := by
  obtain ⟨av, ac, pa, pc, xs, ht, -, -, -⟩ := h.cells (by have := ok.n48; omega)
  have hB := bAlloc (Below.refl w.heap.size w) (.cells #[.int .i64 0, .int .i64 0] 51)
  have HN := Lib.hid (isNone_any tb main _ (keep hB ht.main))
  rw [decide_eq_false (by have := ok.m1; omega)] at HN
  have HF := Lib.hid (feedsRight_any fl main v _ (hfl.keep FdAt.stable hB) ok.m24)
  rw [hk] at HF
  have c1 := keep hB ht.main
  have hl := cell_lt ht.main
  have HB := Lib.hid hB
  have HR : Hid ((w.alloc (.cells #[.int .i64 0, .int .i64 0] 51)).heap[w.heap.size]? = some (.cells #[.int .i64 0, .int .i64 0] 51 (0, 0))) := Lib.hid (World.alloc_heap_new w _)
  clear h hfl ht hB ok hk
  go_enter Try.func31, Try.ntmps31
  go_wp2_with fail
  generalize World.alloc w _ = W1 at *
  have l1 := cell_lt c1
  obtain ⟨rb, hrb⟩ : ∃ rb, w.heap.size = rb := ⟨_, rfl⟩
  rw [hrb] at HR ⊢
  have HRB := Lib.hid hrb
  clear hrb hl
  go_wp2_with (first
    | (go_at_call 62; with_reducible refine Calls.mono HN.out ?_; rintro e w1 ⟨rfl, rfl⟩)
    | (go_at_call 67; with_reducible refine Calls.mono HF.out ?_; rintro e w2 ⟨rfl, hb⟩; have HB2 := Lib.hid hb; have HR2 := Lib.hid (heap_keep hb HR.out); have z0 := frozen_heap (o := 0) HR2.out; have z1 := frozen_heap (o := 1) HR2.out; have y0 := cell_of_heap (j := 0) HR2.out (show 0 < 2 by omega); have y1 := cell_of_heap (j := 1) HR2.out (show 1 < 2 by omega); have y2 := cell_lt y0; clear hb))
  (try simp only [Exit.inBlock, Exit.then])
  refine bodyPost_ret (ret_heard rfl rfl (set2 HR2.out _ _)) rfl ?_
  exact ⟨rfl, below2 (bThen HB.out HB2.out) (by have := HRB.out; omega) _ _⟩
theorem Kept.pre {w W w' : World} {a b : Nat} (hB : Below w.heap.size w W) (h : Kept W w' a b) : Kept w w' a b :=
  ⟨h.os.trans hB.os, h.tape.trans hB.tape, h.output.trans hB.output, Nat.le_trans hB.size h.size, fun k hk ha hb => (h.block k (Nat.lt_of_lt_of_le hk hB.size) ha hb).trans (hB.block k hk)⟩
set_option maxRecDepth 10000 in
set_option maxHeartbeats 2000000 in
theorem Step_ok {base tb main steps wb : Nat} {w : World} {al : List Int} {ps : List Plc} {f : Nat → Int} (h : TubeIs base w tb al main ps steps wb f) (ok : TubeOk al main ps) (hst : steps < 100000) (fl : List Fd) (fa : Option Addr) (fc : Nat) (hfl : SliceV w (.slice fa fl.length fc) 2 FdAt fl) (hfb : fl ≠ [] → ∀ p, fa = some p → p.block ≠ wb) (hk : fdOk main fl = true) (hfn : fl.length ≤ 1000) :
    Calls Try.prog 31 #[.pointer (some ⟨tb, 0, none⟩), .slice fa fl.length fc] w fun e w' => e = .returned (.tuple #[.agg #[.int .i64 (lipF al main ps steps f), .int .i64 (nosF al main ps steps f)], .int .i64 0]) ∧ TubeIs base w' tb al main ps (steps + 1) wb (nxtF al ps steps fl f) ∧ Kept w w' wb tb := by
  obtain ⟨av, ac, pa, pc, xs, ht, -, -, -⟩ := h.cells (by have := ok.n48; omega)
  have hB := bAlloc (Below.refl w.heap.size w) (.cells #[.int .i64 0, .int .i64 0] 51)
  have HN := Lib.hid (isNone_any tb main _ (keep hB ht.main))
  rw [decide_eq_false (by have := ok.m1; omega)] at HN
  have HF := Lib.hid (feedsRight_any fl main (.slice fa fl.length fc) _ (hfl.keep FdAt.stable hB) ok.m24)
  rw [hk] at HF
  have HS := Lib.hid (fun (W : World) (hW : Below w.heap.size w W) => step_any (h.below hW) ok.m1 ok.mn ok.n48 (Nat.le_of_lt hst) ok.plc ok.pl ok.ar fl fa fc _ _ (hfl.keep FdAt.stable hW) hfb (fun x hx => by
    have := (fdOk_parts hk).1.1 x hx
    have := ok.mn
    omega) hfn rfl rfl)
  have c1 := keep hB ht.main
  have c4 := keep hB ht.steps
  have hl := cell_lt ht.main
  have HB := Lib.hid hB
  have HR : Hid ((w.alloc (.cells #[.int .i64 0, .int .i64 0] 51)).heap[w.heap.size]? = some (.cells #[.int .i64 0, .int .i64 0] 51 (0, 0))) := Lib.hid (World.alloc_heap_new w _)
  have HWB : Hid (wb < w.heap.size ∧ tb < w.heap.size) := Lib.hid ⟨h.3.lt, hl⟩
  obtain ⟨sI, hsI⟩ : ∃ sI : Int, (steps : Int) = sI := ⟨_, rfl⟩
  rw [hsI] at c4
  have hge : ¬ (sI ≥ 100000) := by omega
  clear hsI
  obtain ⟨LP, hLP⟩ : ∃ x, lipF al main ps steps f = x := ⟨_, rfl⟩
  obtain ⟨NP, hNP⟩ : ∃ x, nosF al main ps steps f = x := ⟨_, rfl⟩
  obtain ⟨NX, hNX⟩ : ∃ x, nxtF al ps steps fl f = x := ⟨_, rfl⟩
  have hS2 : Hid (∀ (W : World), Below w.heap.size w W → Calls Try.prog 68 #[.pointer (some ⟨tb, 0, none⟩), .slice fa fl.length fc] W fun e w' => e = .returned (.agg #[.int .i64 LP, .int .i64 NP]) ∧ TubeIs base w' tb al main ps (steps + 1) wb NX ∧ Kept W w' wb tb) := Lib.hid (by rw [← hLP, ← hNP, ← hNX]; exact HS.out)
  rw [hLP, hNP, hNX]
  clear h hfl ht hB ok hk hst hfb HS hLP hNP hNX
  go_enter Try.func31, Try.ntmps31
  go_wp2_with fail
  generalize World.alloc w _ = W1 at *
  have l1 := cell_lt c1
  obtain ⟨rb, hrb⟩ : ∃ rb, w.heap.size = rb := ⟨_, rfl⟩
  rw [hrb] at HR ⊢
  have HRB := Lib.hid hrb
  clear hrb hl
  go_wp2_with (first
    | (go_at_call 62; with_reducible refine Calls.mono HN.out ?_; rintro e w1 ⟨rfl, rfl⟩)
    | (go_at_call 67; with_reducible refine Calls.mono HF.out ?_; rintro e w2 ⟨rfl, hb⟩; have HB2 := Lib.hid (bThen HB.out hb); have HR2 := Lib.hid (heap_keep hb HR.out); have d4 := keep hb c4; have l2 := cell_lt d4; clear hb)
    | (go_at_call 68; with_reducible refine Calls.mono (hS2.out _ HB2.out) ?_; rintro e w3 ⟨rfl, ht3, hk3⟩; have HT3 := Lib.hid ht3; have HK3 := Lib.hid hk3; have HR3 := Lib.hid ((hk3.block rb (Array.getElem?_eq_some_iff.1 HR2.out).1 (by have := HWB.out; have := HRB.out; omega) (by have := HWB.out; have := HRB.out; omega)).trans HR2.out); have z0 := frozen_heap (o := 0) HR3.out; have z1 := frozen_heap (o := 1) HR3.out; have y0 := cell_of_heap (j := 0) HR3.out (show 0 < 2 by omega); have y1 := cell_of_heap (j := 1) HR3.out (show 1 < 2 by omega); have y2 := cell_lt y0; clear ht3 hk3))
  (try simp only [Exit.inBlock, Exit.then])
  refine bodyPost_ret (ret_heard rfl rfl (set2 HR3.out _ _)) rfl ?_
  have e3 := heap_setCell_same _ rb 0 _ _ (.int .i64 LP) HR3.out
  simp at e3
  have t1 := HT3.out.kept (gb_set _ rb 0 (.int .i64 LP)) HR3.out (by decide) (by decide) (by decide) (by decide) (by decide)
  have t2 := t1.kept (gb_set _ rb 1 (.int .i64 NP)) e3 (by decide) (by decide) (by decide) (by decide) (by decide)
  exact ⟨rfl, t2, ((Kept.pre HB2.out HK3.out).setNew 0 _ (by have := HRB.out; omega)).setNew 1 _ (by have := HRB.out; omega)⟩
end Go.Proofs.Ytbmbcbknoflpgaa
