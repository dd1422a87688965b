/- The law of turned waves. -/
import Derived.Test.YtbmbcbknoflpgaaP5
set_option linter.unusedSimpArgs false
set_option linter.unusedVariables false
namespace Go.Proofs.Ytbmbcbknoflpgaa
open Go.RowKit

def fdV : List Fd → List Value
  | [] => []
  | x :: l => .int .i64 x.sec :: .int .i64 x.amt :: fdV l
theorem fdV_len (l : List Fd) : (fdV l).length = l.length * 2 := by
  induction l with
  | nil => rfl
  | cons x l ih => simp only [fdV, List.length_cons, ih]; omega
theorem fdV_append (l m : List Fd) : fdV (l ++ m) = fdV l ++ fdV m := by
  induction l with
  | nil => rfl
  | cons x l ih => simp [fdV, ih]
theorem fdV_get (l : List Fd) (i : Nat) (h : i < l.length) : (fdV l)[i * 2]? = some (.int .i64 l[i].sec) ∧ (fdV l)[i * 2 + 1]? = some (.int .i64 l[i].amt) := by
  induction l generalizing i with
  | nil => simp at h
  | cons x l ih =>
    cases i with
    | zero => simp [fdV]
    | succ i =>
      have h2 := ih i (by simp at h; omega)
      have e : (i + 1) * 2 = i * 2 + 1 + 1 := by omega
      rw [e]
      simpa [fdV] using h2
theorem own_fd {W : World} {base : Nat} {u : Value} {l : List Fd} (h : W.ownsRow base 59 2 u l.length (fdV l)) (hl : l.length ≤ 1000000) : SliceV W u 2 FdAt l := by
  rcases h.2 with ⟨rfl, h0⟩ | ⟨g, cap, cur, rfl, _, hb, hc, _, _, hx⟩
  · exact ⟨none, 0, by rw [h0], by rw [h0]; exact ⟨Nat.zero_le _, Nat.zero_le _⟩, .inl (List.eq_nil_of_length_eq_zero h0)⟩
  · refine ⟨_, cap, rfl, ⟨by unfold most; omega, hc⟩, .inr ⟨g, 0, rfl, fun i hi => ?_⟩⟩
    obtain ⟨e1, e2⟩ := fdV_get l i hi
    have c1 := h.cellAt (i * 2) (by omega)
    have c2 := h.cellAt (i * 2 + 1) (by omega)
    rw [e1] at c1
    rw [e2] at c2
    refine ⟨?_, ?_⟩
    · show W.cell? ⟨g, 0 + i * 2, none⟩ = _
      rw [Nat.zero_add]; exact c1
    · show W.cell? ⟨g, 0 + i * 2 + 1, none⟩ = _
      rw [Nat.zero_add]; exact c2
theorem infoFz : (Try.prog.info? 59).map (fun i => (i.zero.map (fun z => z.cells.size), i.size, i.bytes)) = some (some 2, 2, 16) := by kernel_rfl
theorem wpList_append_fd {w : World} {ops : Array Oper} {rest : List Oper} {o : Oper} {a : Act} {Q : Exit → Act → World → Prop} (hgd : o.guard = none) (s x : Operand)
    (ho : o.op = .call { callee := .builtin .append, args := #[s, x], argTypes := #[54, 54] })
    (base : Nat) (v : Value) (l : List Fd) (n : Nat) (hn : l.length = n) (hs : a.eval s = v) (hown : w.ownsRow base 59 2 v n (fdV l))
    (b : Nat) (p q : Int) (hx : a.eval x = .slice (some ⟨b, 0, none⟩) 1 1) (hy : w.cell? ⟨b, 0, none⟩ = some (.int .i64 p)) (hz : w.cell? ⟨b, 1, none⟩ = some (.int .i64 q)) (h63 : n ≤ 1000000) (hbase : base ≤ w.heap.size)
    (h : ∀ v' w', w'.ownsRow base 59 2 v' (n + 1) (fdV (l ++ [(⟨p, q⟩ : Fd)])) → w.grownBy w' v.ownBlock → Below base w w' → wpList Try.prog ops Q rest (a.put o.dst v') w') : wpList Try.prog ops Q (o :: rest) a w := by
  obtain ⟨i, z, hi, hz0, hzs, hz1, hz2⟩ := info_z infoFz
  refine wpList_append_lies w hgd s x 54 ho base 59 i z 2 16 Try.underlying54 hi hz0 hz1 hz2 hzs (by decide) v n (fdV l) hs hown ⟨b, 0, none⟩ 1 1 [.int .i64 p, .int .i64 q] hx rfl (fun j u hu => ?_) (by intro u hu; simp at hu; rcases hu with rfl | rfl <;> rfl) (by omega) (by unfold maxLen; omega) (by omega) hbase w.heap.size rfl ?_
  · cases j with
    | zero => simp at hu; subst hu; simpa [Addr.add] using hy
    | succ j =>
      cases j with
      | zero => simp at hu; subst hu; simpa [Addr.add] using hz
      | succ j => simp at hu
  · intro g cap w' h1 h2 _ _
    exact h _ w' (by rw [fdV_append]; simpa [fdV] using h1) h2 (below_grown h2 hown hbase)
/-- What is heard of a step with any feeds, and its error. -/
def goL (al : List Int) (main : Nat) (ps : List Plc) (fl : List Fd) (st : Nat) (f : Nat → Int) : Int := if fdOk main fl = true then lipF al main ps st f else 0
def goN (al : List Int) (main : Nat) (ps : List Plc) (fl : List Fd) (st : Nat) (f : Nat → Int) : Int := if fdOk main fl = true then nosF al main ps st f else 0
def goE (main : Nat) (fl : List Fd) : Int := if fdOk main fl = true then 0 else 2
theorem Step_val {base tb main st wb : Nat} {w : World} {al : List Int} {ps : List Plc} {f : Nat → Int} (h : TubeIs base w tb al main ps st wb f) (ok : TubeOk al main ps) (hst : st < 100000) (fl : List Fd) (fa : Option Addr) (n fc : Nat) (hn : n = fl.length) (hfl : SliceV w (.slice fa n fc) 2 FdAt fl) (hfb : fl ≠ [] → ∀ p, fa = some p → p.block ≠ wb) (hfn : fl.length ≤ 1000) :
    Calls Try.prog 31 #[.pointer (some ⟨tb, 0, none⟩), .slice fa n fc] w fun e w' => e = .returned (.tuple #[.agg #[.int .i64 (goL al main ps fl st f), .int .i64 (goN al main ps fl st f)], .int .i64 (goE main fl)]) ∧ TubeIs base w' tb al main ps (goS main fl st) wb (goF al main ps fl st f) ∧ Kept w w' wb tb := by
  subst hn
  by_cases hk : fdOk main fl = true
  · unfold goS goF goL goN goE
    rw [if_pos hk, if_pos hk, if_pos hk, if_pos hk, if_pos hk]
    exact Step_ok h ok hst fl fa fc hfl hfb hk hfn
  · unfold goS goF goL goN goE
    rw [if_neg hk, if_neg hk, if_neg hk, if_neg hk, if_neg hk]
    exact (Step_bad h ok fl _ hfl (by simpa using hk)).mono fun e w' ⟨a, b⟩ => ⟨a, h.below b, kept_of_grown (gb_below b _)⟩
theorem Two.rowE {w W W' : World} {b1 tb wb b2 ub vb main st st2 bx B n e size : Nat} {al : List Int} {ps : List Plc} {f f2 : Nat → Int} {cs : Array Value} {v : Value} {xs : List Value} (h : Two w W b1 tb wb b2 ub vb al main ps st f st2 f2 bx cs) (ho : W.ownsRow B e size v n xs) (hg : W.grownBy W' v.ownBlock) (hb : Below B W W') (hB : w.heap.size ≤ B) (h1 : e ≠ 97) (h2 : e ≠ 3) (h3 : e ≠ 143) (h4 : e ≠ 160) (h5 : e ≠ 137) (h6 : 39 ≠ e) : Two w W' b1 tb wb b2 ub vb al main ps st f st2 f2 bx cs :=
  ⟨h.1.row ho hg h1 h2 h3 h4 h5, h.2.row ho hg h1 h2 h3 h4 h5, h.3, h.4, h.5, blk_row h.6 ho hg h6, h.7.trans (hb.mono hB)⟩
theorem tb_ne8 {base tb main steps wb : Nat} {w : World} {al : List Int} {ps : List Plc} {f : Nat → Int} (h : TubeIs base w tb al main ps steps wb f) {b t : Nat} {cs : Array Value} (hb : w.heap[b]? = some (.cells cs t (0, 0))) (ht : t ≠ 97) : b ≠ tb := by
  obtain ⟨-, ⟨_, _, _, _, kb, -, -, -⟩, -⟩ := h
  intro e
  subst e
  rw [kb] at hb
  simp only [Option.some.injEq, Obj.cells.injEq] at hb
  exact ht hb.2.1.symm
/-- A block of another type is kept where a tube is stepped. -/
theorem blk_step {base tb main steps wb : Nat} {w w' : World} {al : List Int} {ps : List Plc} {f : Nat → Int} (h : TubeIs base w tb al main ps steps wb f) (hk : Kept w w' wb tb) {b t : Nat} {cs : Array Value} (hb : w.heap[b]? = some (.cells cs t (0, 0))) (ht : t ≠ 97) (hw : t ≠ 137) : w'.heap[b]? = some (.cells cs t (0, 0)) :=
  hk.heap hb (box_ne hb h.3 hw) (tb_ne8 h hb ht)
/-- What is so of both tubes, one turned. -/
structure Turn (s : Shp) (al : List Int) (k st : Nat) (f : Nat → Int) : Prop where
  cnt : st ≤ k
  bnd : enT al st f ≤ (500 * (k : Int)) * (500 * (k : Int)) * 1000
theorem turn_go {s : Shp} (h : shpOk s = true) {al : List Int} (hl : al.length = s.areas.length + s.branch.length) (ha : ∀ j, j < al.length → 1 ≤ al.getD j 0 ∧ al.getD j 0 ≤ 1000) {k st : Nat} {f : Nat → Int} (hk : k < 60) (ht : Turn s al k st f) (y : List Fd) :
    Turn s al (k + 1) (goS s.areas.length y st) (goF al s.areas.length (shpPlaces s) y st f) ∧ goS s.areas.length (y.map ngF) st = goS s.areas.length y st ∧ goF al s.areas.length (shpPlaces s) (y.map ngF) st (ng f) = ng (goF al s.areas.length (shpPlaces s) y st f) ∧
    goE s.areas.length (y.map ngF) = goE s.areas.length y ∧ goL al s.areas.length (shpPlaces s) (y.map ngF) st (ng f) = -goL al s.areas.length (shpPlaces s) y st f ∧ goN al s.areas.length (shpPlaces s) (y.map ngF) st (ng f) = -goN al s.areas.length (shpPlaces s) y st f ∧
    (-4000000 ≤ goL al s.areas.length (shpPlaces s) y st f ∧ goL al s.areas.length (shpPlaces s) y st f ≤ 4000000) ∧ (-4000000 ≤ goN al s.areas.length (shpPlaces s) y st f ∧ goN al s.areas.length (shpPlaces s) y st f ≤ 4000000) := by
  have hmono : ∀ P : Int, 0 ≤ P → P ≤ 500 * ((k + 1 : Nat) : Int) → P * P * 1000 ≤ (500 * ((k + 1 : Nat) : Int)) * (500 * ((k + 1 : Nat) : Int)) * 1000 := fun P h0 h1 => by
    have := Int.mul_le_mul h1 h1 h0 (by omega)
    omega
  by_cases hf : fdOk s.areas.length y = true
  · have hs := (fdOk_parts hf).2
    have hge := go_energy (P := 500 * (k : Int)) (K := 1000) h hl ha hf (by omega) (by omega) (fun x hx => (ha _ (by have := (fdOk_parts hf).1.1 x hx; have := (shp_parts h).1; omega)).2) (by omega) ht.bnd
    obtain ⟨e1, e2, e3, e4, e5⟩ := go_neg (P := 500 * (k : Int)) h hl ha hf (by omega) (by omega) ht.bnd
    have hf2 : fdOk s.areas.length (y.map ngF) = true := by rw [fdOk_neg]; exact hf
    unfold goS goF goE goL goN
    simp only [if_pos hf, if_pos hf2]
    exact ⟨⟨by have := ht.cnt; omega, Int.le_trans hge (hmono _ (by omega) (by omega))⟩, by first | rfl | trivial, e1, by first | rfl | trivial, e2, e3, e4, e5⟩
  · have hf2 : ¬ fdOk s.areas.length (y.map ngF) = true := by rw [fdOk_neg]; exact hf
    unfold goS goF goE goL goN
    simp only [if_neg hf, if_neg hf2]
    exact ⟨⟨by have := ht.cnt; omega, Int.le_trans ht.bnd (hmono _ (by omega) (by omega))⟩, by first | rfl | trivial, by first | rfl | trivial, by first | rfl | trivial, by omega, by omega, by omega, by omega⟩
set_option maxRecDepth 10000 in
set_option maxHeartbeats 8000000 in
theorem law8_any (x : Ply) (va vb vf vA vB : Value) (w : World) (hk : ∀ w, Calls Try.prog 17 #[] w fun e w' => e = .returned (.bool true) ∧ Below w.heap.size w w') (h : PlyV w va vb vf vA vB x) (hrg : ∀ l ∈ x.feeds, ∀ f ∈ l, f.amt ≤ 9223372036854775807) :
    Calls Try.prog 8 #[.agg #[va, vb, .int .i64 x.s.joint, .int .i64 x.s.glottis, .int .i64 x.s.lips, .int .i64 x.s.nose, vf, vA, vB]] w fun e w' => e = .returned (.bool true) ∧ Below w.heap.size w w' := by
  have HK := Lib.hid hk
  have HFT := Lib.hid (fun W (hB : Below w.heap.size w W) => fits_any x va vb vf vA vB W (h.keep hB))
  have HSH := Lib.hid (fun W (hB : Below w.heap.size w W) => refShape_any x.s va vb W (h.1.keep IntAt.stable hB) (h.2.keep IntAt.stable hB))
  have HNW0 := Lib.hid (fun (hs : shpOk x.s = true) W (hB : Below w.heap.size w W) => New_ok x.s va vb W (h.1.keep IntAt.stable hB) (h.2.keep IntAt.stable hB) hs)
  obtain ⟨h1, h2, h3, h4, h5⟩ := h
  have HF := Lib.hid h3
  obtain ⟨a1, c1, rfl, -⟩ := h1
  obtain ⟨a2, c2, rfl, -⟩ := h2
  obtain ⟨a3, c3, rfl, hm3, -⟩ := h3
  obtain ⟨a4, c4, rfl, -⟩ := h4
  obtain ⟨a5, c5, rfl, -⟩ := h5
  unfold most at hm3
  have HB1 := Lib.hid (bAlloc (Below.refl w.heap.size w) (.cells #[.slice a1 x.s.areas.length c1, .slice a2 x.s.branch.length c2, .int .i64 x.s.joint, .int .i64 x.s.glottis, .int .i64 x.s.lips, .int .i64 x.s.nose, .slice a3 x.feeds.length c3, .slice a4 x.areas.length c4, .slice a5 x.branch.length c5] 39))
  have HX1 := Lib.hid (World.alloc_heap_new w (.cells #[.slice a1 x.s.areas.length c1, .slice a2 x.s.branch.length c2, .int .i64 x.s.joint, .int .i64 x.s.glottis, .int .i64 x.s.lips, .int .i64 x.s.nose, .slice a3 x.feeds.length c3, .slice a4 x.areas.length c4, .slice a5 x.branch.length c5] 39))
  clear hk
  cases hp : plyOk x
  · rw [hp] at HFT
    clear HNW0 HF hp
    go_enter Try.func8, Try.ntmps8
    go_wp2_with (first
      | (go_at_call 24; with_reducible refine Calls.mono (HFT.out _ HB1.out) ?_; rintro e w2 ⟨rfl, hb⟩; have HB2 := Lib.hid (bThen HB1.out hb); have HX2 := Lib.hid (heap_keep hb HX1.out); obtain ⟨d0, d1, d2, d3, d4, d5, d6, d7, d8, ld⟩ := ply_cells HX2.out; clear hb)
      | (go_at_call 19; with_reducible refine Calls.mono (HSH.out _ HB2.out) ?_; rintro e w3 ⟨rfl, hb⟩; have HB3 := Lib.hid (bThen HB2.out hb); clear hb)
      | (go_at_call 17; with_reducible refine Calls.mono (HK.out _) ?_; rintro e wk ⟨rfl, hb⟩; have HB := Lib.hid hb; clear hb))
    all_goals first
      | (exfalso; omega)
      | (go_ret; exact ⟨rfl, by first | exact bThen HB3.out HB.out | exact bThen HB2.out HB.out⟩)
  cases hs : shpOk x.s
  · rw [hp] at HFT
    rw [hs] at HSH
    clear HNW0 HF hp hs
    go_enter Try.func8, Try.ntmps8
    go_wp2_with (first
      | (go_at_call 24; with_reducible refine Calls.mono (HFT.out _ HB1.out) ?_; rintro e w2 ⟨rfl, hb⟩; have HB2 := Lib.hid (bThen HB1.out hb); have HX2 := Lib.hid (heap_keep hb HX1.out); obtain ⟨d0, d1, d2, d3, d4, d5, d6, d7, d8, ld⟩ := ply_cells HX2.out; clear hb)
      | (go_at_call 19; with_reducible refine Calls.mono (HSH.out _ HB2.out) ?_; rintro e w3 ⟨rfl, hb⟩; have HB3 := Lib.hid (bThen HB2.out hb); clear hb)
      | (go_at_call 17; with_reducible refine Calls.mono (HK.out _) ?_; rintro e wk ⟨rfl, hb⟩; have HB := Lib.hid hb; clear hb))
    all_goals first
      | (exfalso; omega)
      | (go_ret; exact ⟨rfl, by first | exact bThen HB3.out HB.out | exact bThen HB2.out HB.out⟩)
  have HPP := Lib.hid (ply_parts hp)
  have HTO := Lib.hid (shp_tube hs)
  have HNW := Lib.hid (HNW0.out hs)
  have HTG := Lib.hid (fun (k st : Nat) (f : Nat → Int) (hk : k < 60) (ht : Turn x.s (x.s.areas ++ x.s.branch) k st f) (y : List Fd) => turn_go hs (List.length_append) HTO.out.ar hk ht y)
  have HT00 : Hid (Turn x.s (x.s.areas ++ x.s.branch) 0 0 (fun _ => 0)) := Lib.hid ⟨Nat.le_refl _, by
    have : enT (x.s.areas ++ x.s.branch) 0 (fun _ => 0) = 0 := by
      unfold enT en
      have h := sm_congr (g := fun i => (x.s.areas ++ x.s.branch).getD i 0 * ((0 : Int) * 0) + (x.s.areas ++ x.s.branch).getD i 0 * ((0 : Int) * 0)) (h := fun i => (0 : Int) * 0) (n := (x.s.areas ++ x.s.branch).length) (fun j _ => by omega)
      rw [h, sm_mul 0 (fun _ => 0)]
      omega
    rw [this]; omega⟩
  rw [hp] at HFT
  rw [hs] at HSH
  obtain ⟨al, hal⟩ : ∃ al, x.s.areas ++ x.s.branch = al := ⟨_, rfl⟩
  obtain ⟨ps, hps⟩ : ∃ ps, shpPlaces x.s = ps := ⟨_, rfl⟩
  rw [hal, hps] at HNW HTO HTG
  rw [hal] at HT00
  clear HNW0 hp hs hal hps
  have h60 := HPP.out.1
  go_enter Try.func8, Try.ntmps8
  go_wp2_with (first
    | (go_at_call 24; with_reducible refine Calls.mono (HFT.out _ HB1.out) ?_; rintro e w2 ⟨rfl, hb⟩; have HB2 := Lib.hid (bThen HB1.out hb); have HX2 := Lib.hid (heap_keep hb HX1.out); obtain ⟨d0, d1, d2, d3, d4, d5, d6, d7, d8, ld⟩ := ply_cells HX2.out; clear hb)
    | (go_at_call 19; with_reducible refine Calls.mono (HSH.out _ HB2.out) ?_; rintro e w3 ⟨rfl, hb⟩; have HB3 := Lib.hid (bThen HB2.out hb); have HX3 := Lib.hid (heap_keep hb HX2.out); obtain ⟨d0, d1, d2, d3, d4, d5, d6, d7, d8, ld⟩ := ply_cells HX3.out; clear hb)
    | (go_at_call 25; with_reducible refine Calls.mono (HNW.out _ HB3.out) ?_; rintro e w4 ⟨⟨tb, wb, rfl, ht⟩, hb⟩; have HB4 := Lib.hid (bThen HB3.out hb); have HT4 := Lib.hid ht; have HX4 := Lib.hid (heap_keep hb HX3.out); obtain ⟨d0, d1, d2, d3, d4, d5, d6, d7, d8, ld⟩ := ply_cells HX4.out; clear hb ht)
    | (go_at_call 25; with_reducible refine Calls.mono (HNW.out _ HB4.out) ?_; rintro e w5 ⟨⟨ub, vb, rfl, hu⟩, hb⟩; have HB5 := Lib.hid (bThen HB4.out hb); have HU5 := Lib.hid hu; have HT5 := Lib.hid (HT4.out.below hb); have HX5 := Lib.hid (heap_keep hb HX4.out); obtain ⟨d0, d1, d2, d3, d4, d5, d6, d7, d8, ld⟩ := ply_cells HX5.out; clear hb hu))
  all_goals first | (exfalso; omega) | skip
  have hng : (fun _ => 0 : Nat → Int) = ng (fun _ => 0) := by funext q; simp [ng]
  have HT0 : Hid (Two w w5 w3.heap.size tb wb w4.heap.size ub vb al x.s.areas.length ps 0 (fun _ => 0) 0 (ng (fun _ => 0)) w.heap.size _) := Lib.hid (by
    rw [← hng]
    have q1 := HT4.out.3.lt
    have q2 : tb < w4.heap.size := by obtain ⟨-, ⟨_, _, _, _, kb, -, -, -⟩, -⟩ := HT4.out; exact (Array.getElem?_eq_some_iff.1 kb).1
    have q3 := HT4.out.1
    have q4 := HU5.out.1
    have q5 := HB3.out.size
    have q6 := HB4.out.size
    exact ⟨HT5.out, HU5.out, by omega, by omega, by omega, HX5.out, HB5.out⟩)
  clear HT4 HT5 HU5 HX2 HX3 HX4 HX5 HX1 HB1 HB2 HB3 HB4 HB5 HFT HSH HNW d0 d1 d2 d3 d4 d5 d6 d7 d8 ld hng
  generalize w3.heap.size = t1 at *
  generalize w4.heap.size = t2 at *
  obtain ⟨bx, hbx⟩ : ∃ bx, w.heap.size = bx := ⟨_, rfl⟩
  rw [hbx]
  have HBX := Lib.hid hbx
  obtain ⟨cs, hcs⟩ : ∃ cs : Array Value, (#[.slice a1 x.s.areas.length c1, .slice a2 x.s.branch.length c2, .int .i64 x.s.joint, .int .i64 x.s.glottis, .int .i64 x.s.lips, .int .i64 x.s.nose, .slice a3 x.feeds.length c3, .slice a4 x.areas.length c4, .slice a5 x.branch.length c5] : Array Value) = cs := ⟨_, rfl⟩
  obtain ⟨nm, hnm⟩ : ∃ nm, x.s.areas.length = nm := ⟨_, rfl⟩
  have HNMM := Lib.hid hnm
  rw [hnm] at HTO
  have HT1 : Hid (Two w w5 t1 tb wb t2 ub vb al nm ps 0 (fun _ => 0) 0 (ng (fun _ => 0)) bx cs) := Lib.hid (by rw [← hbx, ← hcs, ← hnm]; exact HT0.out)
  clear hnm
  have HCS := Lib.hid hcs
  clear HT0 hbx hcs
  go_loopw [7] (fun i wr => ∃ (k st : Nat) (f : Nat → Int), k ≤ x.feeds.length ∧ i = .int .i64 k ∧ Hid (Turn x.s al k st f) ∧ Hid (Two w wr t1 tb wb t2 ub vb al nm ps st f st (ng f) bx cs)) (fun i _ => x.feeds.length - (intOf i).toNat)
  case atStart => exact ⟨0, 0, _, Nat.zero_le _, rfl, HT00, HT1⟩
  case round =>
    clear HT1 HT00
    obtain ⟨k, st, f, hk, rfl, HTN, HT⟩ := hrel
    obtain ⟨d0, d1, d2, d3, d4, d5, d6, d7, d8, ld⟩ := ply_cells (by have := HT.out.box; rw [← HCS.out] at this; exact this)
    by_cases hlt : k < x.feeds.length
    · obtain ⟨b, o, c, u, e1, p0, q0, r0⟩ := fds_at HF.out (Below.refl _ _) hlt
      obtain ⟨rfl, -, rfl⟩ := Value.slice.inj e1
      have hlen := HPP.out.2.2.2.1 _ (List.getElem_mem hlt)
      have hkk : (k : Int) < (x.feeds.length : Int) := by omega
      have HGO := Lib.hid (HTG.out k st f (by omega) HTN.out x.feeds[k])
      have HRY := Lib.hid (hrg _ (List.getElem_mem hlt))
      clear e1
      generalize x.feeds[k] = y at *
      obtain ⟨fa, fc, rfl, hmy, -⟩ := id q0
      have Q0 := Lib.hid q0
      have P0 := Lib.hid p0
      have HLN := Lib.hid hlen
      clear q0 p0 r0 hmy hlen
      obtain ⟨wo, hwo⟩ : ∃ wo, wo = wr := ⟨_, rfl⟩
      subst hwo
      have HWO : Hid (w.heap.size ≤ wo.heap.size) := Lib.hid HT.out.low.size
      go_wp2_with fail
      clear d0 d1 d2 d3 d4 d5 d6 d7 d8 ld
      go_loopw [9, 8] (fun i l wr => ∃ t : Nat, t ≤ y.length ∧ i = .int .i64 t ∧ Hid (wr.ownsRow wo.heap.size 59 2 l t (fdV ((y.take t).map ngF))) ∧ Hid (Two w wr t1 tb wb t2 ub vb al nm ps st f st (ng f) bx cs) ∧ Hid (wo.heap.size ≤ wr.heap.size)) (fun i _ _ => y.length - (intOf i).toNat)
      case atStart => exact ⟨0, Nat.zero_le _, rfl, Lib.hid (World.ownsRow_nil _ _ _ _), HT, Lib.hid (Nat.le_refl _)⟩
      case round =>
        clear HT
        obtain ⟨t, ht, rfl, HO, HT, HZ⟩ := hrel
        obtain ⟨d0, d1, d2, d3, d4, d5, d6, d7, d8, ld⟩ := ply_cells (by have := HT.out.box; rw [← HCS.out] at this; exact this)
        have p1 := keep HT.out.low P0.out
        have p2 := cell_lt p1
        obtain ⟨la, lc, rfl⟩ := ownsRow_slice HO.out
        by_cases htl : t < y.length
        · have htt : (t : Int) < (y.length : Int) := by omega
          obtain ⟨b2, o2, rfl, hf⟩ := (Q0.out.keep FdAt.stable HT.out.low).at (by intro h; simp [h] at htl)
          obtain ⟨k0, k1⟩ := hf t htl
          have HTK : Hid ((y.take (t + 1)).map ngF = (y.take t).map ngF ++ [ngF y[t]]) := Lib.hid (by rw [take_succ y t htl, List.map_append]; rfl)
          have HZM := Lib.hid (HRY.out _ (List.getElem_mem htl))
          clear hf
          generalize y[t] = z at *
          obtain ⟨zs, zv⟩ := z
          unfold IntAt at k0 k1
          simp only at k0 k1
          have k2 := cell_lt k0
          by_cases hz : zv < -500
          · go_wp2_with (go_at_call 17; with_reducible refine Calls.mono (HK.out _) ?_; rintro e wk ⟨rfl, hb⟩; have HBK := Lib.hid hb; clear hb)
            all_goals first | (exfalso; omega) | skip
            go_ret
            exact ⟨rfl, by (try rw [← HBX.out]); exact bThen (bAlloc HT.out.low _) HBK.out⟩
          · have zlo : -500 ≤ zv := by omega
            have zhi : zv ≤ 9223372036854775807 := by have := HZM.out; exact this
            have u1 : IntKind.i64.wrap (-zv) = -zv := IntWalk.i64_in _ (by omega)
            have HC : Hid (((wr.alloc (.cells #[.int .i64 zs, .int .i64 (-zv)] 59)).alloc (.cells #[.int .i64 zs, .int .i64 (-zv)] 59)).cell? ⟨wr.heap.size + 1, 0, none⟩ = some (.int .i64 zs) ∧ ((wr.alloc (.cells #[.int .i64 zs, .int .i64 (-zv)] 59)).alloc (.cells #[.int .i64 zs, .int .i64 (-zv)] 59)).cell? ⟨wr.heap.size + 1, 1, none⟩ = some (.int .i64 (-zv))) := Lib.hid ⟨cell_new2 (cell_new rfl), cell_new2 (cell_new rfl)⟩
            have HB3 := Lib.hid (bAlloc (bAlloc (Below.refl wr.heap.size wr) (.cells #[.int .i64 zs, .int .i64 (-zv)] 59)) (.cells #[.int .i64 zs, .int .i64 (-zv)] 59))
            have hyl := HLN.out
            have HLT : Hid (((y.take t).map ngF).length = t) := Lib.hid (by rw [List.length_map, List.length_take]; omega)
            go_wp2_with (at_builtin; refine wpList_append_fd rfl _ _ rfl wo.heap.size _ ((y.take t).map ngF) t HLT.out rfl (ownsRow_below HO.out HB3.out) (wr.heap.size + 1) zs (-zv) (by rfl) HC.out.1 HC.out.2 (by have := HLN.out; omega) (by have := HZ.out; have := HB3.out.size; omega) ?_; intro v10 w10 ho10 hg10 hb10; have HO10 := Lib.hid ho10; have HT10 := Lib.hid ((HT.out.below HB3.out).rowE (ownsRow_below HO.out HB3.out) hg10 hb10 HWO.out (by decide) (by decide) (by decide) (by decide) (by decide) (by decide)); have HZ10 := Lib.hid hb10.size; clear ho10 hg10 hb10)
            go_roundw
            case rel => exact ⟨t + 1, by omega, by go_num, by rw [HTK.out]; exact HO10, HT10, Lib.hid (by have := HZ10.out; have := HB3.out.size; have := HZ.out; omega)⟩
            case measure => simp [intOf]; omega
        · obtain rfl : t = y.length := by omega
          rw [List.take_length] at HO
          obtain ⟨q1, q2, q3, q4, q5, q6, q7, q8⟩ := HGO.out
          rw [HNMM.out] at q1 q2 q3 q4 q5 q6 q7 q8
          have HQ1 := Lib.hid q1
          have HS1 := Lib.hid (Step_val HT.out.t HTO.out (by have := HTN.out.cnt; omega) y fa y.length fc rfl (Q0.out.keep FdAt.stable HT.out.low) (fun hne p hp => by have := sl_low Q0.out hne p hp; have := HT.out.lo; omega) (by have := HLN.out; omega))
          have HS2 := Lib.hid (fun (W : World) (st' : Nat) (f' : Nat → Int) (hT : Two w W t1 tb wb t2 ub vb al nm ps st' f' st (ng f) bx cs) (ho : W.ownsRow wo.heap.size 59 2 (.slice la y.length lc) y.length (fdV (y.map ngF))) => Step_val hT.u HTO.out (by have := HTN.out.cnt; omega) (y.map ngF) la y.length lc (by simp) (own_fd (by rw [List.length_map]; exact ho) (by rw [List.length_map]; have := HLN.out; omega)) (fun _ p hp => own_ne_row ho hT.u.3 (by decide) p _ _ (by rw [hp])) (by rw [List.length_map]; have := HLN.out; omega))
          rw [q2, q3, q4, q5, q6] at HS2
          obtain ⟨hl, hhl⟩ : ∃ v, goL al nm ps y st f = v := ⟨_, rfl⟩
          obtain ⟨hn, hhn⟩ : ∃ v, goN al nm ps y st f = v := ⟨_, rfl⟩
          obtain ⟨he, hhe⟩ : ∃ v, goE nm y = v := ⟨_, rfl⟩
          rw [hhl, hhn, hhe] at HS1 HS2
          rw [hhl] at q7
          rw [hhn] at q8
          have v1 : IntKind.i64.wrap (- -hl) = hl := by rw [Int.neg_neg]; exact IntWalk.i64_in _ (by omega)
          have v2 : IntKind.i64.wrap (- -hn) = hn := by rw [Int.neg_neg]; exact IntWalk.i64_in _ (by omega)
          have v3 : IntKind.i64.wrap hl = hl := IntWalk.i64_in _ (by omega)
          have v4 : IntKind.i64.wrap hn = hn := IntWalk.i64_in _ (by omega)
          clear q1 q2 q3 q4 q5 q6 q7 q8 hhl hhn hhe
          go_wp2_with (first
            | (go_at_call 31; with_reducible refine Calls.mono HS1.out ?_; rintro e w6 ⟨rfl, ht6, hk6⟩; have HB6 := Lib.hid (bAlloc (Below.refl w6.heap.size w6) (.cells #[.int .i64 hl, .int .i64 hn] 51)); have H6 := Lib.hid ((HT.out.stepT ht6 hk6).below HB6.out); have HO6 := Lib.hid (ownsRow_below (own_step HT.out.t hk6 HO.out (by decide) (by decide)) HB6.out); have HX6 := Lib.hid (World.alloc_heap_new w6 (.cells #[.int .i64 hl, .int .i64 hn] 51)); clear ht6 hk6)
            | (go_at_call 31; with_reducible refine Calls.mono (HS2.out _ _ _ H6.out HO6.out) ?_; rintro e w7 ⟨rfl, ht7, hk7⟩; have H7 := Lib.hid ((H6.out.stepU ht7 hk7).below (bAlloc (Below.refl w7.heap.size w7) (.cells #[.int .i64 (-hl), .int .i64 (-hn)] 51))); have hx7 := blk_step H6.out.u hk7 HX6.out (by decide) (by decide); have y0 := cell_of_heap (j := 0) hx7 (show 0 < 2 by omega); have y1 := cell_of_heap (j := 1) hx7 (show 1 < 2 by omega); have y2 := cell_lt y0; simp at y0 y1; replace y0 := keep (bAlloc (Below.refl w7.heap.size w7) (.cells #[.int .i64 (-hl), .int .i64 (-hn)] 51)) y0; replace y1 := keep (bAlloc (Below.refl w7.heap.size w7) (.cells #[.int .i64 (-hl), .int .i64 (-hn)] 51)) y1; clear ht7 hk7 hx7))
          all_goals first | (exfalso; omega) | skip
          refine ⟨⟨k + 1, _, _, by omega, by go_num, HQ1, H7⟩, by simp [intOf]; omega⟩
    · obtain rfl : k = x.feeds.length := by omega
      have hst6 : st ≤ 60 := by have := HTN.out.cnt; omega
      have HEN := Lib.hid (tube_energy HT.out.t HTO.out (by omega))
      have HEU := Lib.hid (fun (W : World) (hT : Two w W t1 tb wb t2 ub vb al nm ps st f st (ng f) bx cs) => tube_energy hT.u HTO.out (by omega))
      simp only [en_enX, en_neg] at HEN HEU
      obtain ⟨E, hE⟩ : ∃ E, wrap64 (en (fun i => al.getD i 0) f (offO al.length st) al.length) = E := ⟨_, rfl⟩
      rw [hE] at HEN HEU
      clear hE
      go_wp2_with (first
        | (go_at_call 34; with_reducible refine Calls.mono HEN.out ?_; rintro e w12 ⟨rfl, hb⟩; have H12 := Lib.hid (HT.out.below hb); clear hb)
        | (go_at_call 34; with_reducible refine Calls.mono (HEU.out _ H12.out) ?_; rintro e w13 ⟨rfl, hb⟩; have H13 := Lib.hid (H12.out.below hb); clear hb)
        | (go_at_call 17; with_reducible refine Calls.mono (HK.out _) ?_; rintro e wk ⟨rfl, hb⟩; have HBK := Lib.hid hb; clear hb))
      all_goals first | (exfalso; omega) | skip
      go_ret
      exact ⟨rfl, by (try rw [← HBX.out]); exact bThen H13.out.low HBK.out⟩
end Go.Proofs.Ytbmbcbknoflpgaa
