/- Contracts: Settled. Contracts: the specification's Settled; before. -/
import Derived.Test.YtejcbcjhmnhefaaDoorN5
import Derived.Test.YtejcbcjhmnhefaaDoorM7
import Derived.Test.YtejcbcjhmnhefaaDoorL6
import Derived.Deep.AppendLies
set_option linter.unusedSimpArgs false
set_option linter.unusedVariables false
namespace Go.Proofs.YtejcbcjhmnhefaaDoor
open Go.RowKit

def SetOut (p : Con) (vs : List Int) (e : Ending) : Prop := (conOk p && ctrOk p vs) = false ∧ e = .returned (.tuple #[.bool false, .int .i64 2]) ∨ (conOk p && ctrOk p vs) = true ∧ ∃ b : Bool, e = .returned (.tuple #[.bool b, .int .i64 0]) ∧ (b = true ↔ Sett p vs)
theorem canShift_any (p : Con) (vs : List Int) (d : Int) (tv vv : Value) (w : World) (hd : d = 1 ∨ d = -1) (hok : conOk p = true) (hc : ctrOk p vs = true) (hv : SliceV w tv 3 TgtAt p.targets) (hu : SliceV w vv 1 IntAt vs) :
    Calls Tryd.prog 58 #[p.val tv, vv, .int .i64 d] w fun e w' => (∃ b : Bool, e = .returned (.bool b) ∧ (b = true ↔ ∃ i j, i ≤ j ∧ j < p.frames.toNat ∧ Chp p vs p.frames.toNat d i j)) ∧ Below w.heap.size w w' := by
  obtain ⟨hf, hlo, hhi, hsl, hsm, htl, _⟩ := conOk_parts hok
  have hts := frames_tgt hok
  have hl := (ctrOk_in hc).1
  have hin := (ctrOk_in hc).2
  obtain ⟨fr, lo, hi, sl, sm, ts⟩ := p
  obtain ⟨F, rfl⟩ : ∃ F : Nat, fr = (F : Int) := ⟨fr.toNat, by simp only at hf; omega⟩
  simp only [Int.toNat_natCast] at *
  exact canShift_any' F lo hi sl sm d ts vs tv vv w (by omega) (by omega) hlo (by omega) hsl hsm hd hts htl hv (by omega) (fun i hi => by rw [getD_at (by omega)]; exact hin _ (List.getElem_mem _)) hu
theorem sett_two {p : Con} {vs : List Int} {b c : Bool} (h1 : b = true ↔ ∃ i j, i ≤ j ∧ j < p.frames.toNat ∧ Chp p vs p.frames.toNat 1 i j) (h2 : c = true ↔ ∃ i j, i ≤ j ∧ j < p.frames.toNat ∧ Chp p vs p.frames.toNat (-1) i j) : ((!b && !c) = true ↔ Sett p vs) := by
  simp only [Bool.and_eq_true, Bool.not_eq_true', ← Bool.not_eq_true, h1, h2]
  constructor
  · rintro ⟨a, b⟩ d i j hd hij hj h
    rcases hd with rfl | rfl
    · exact a ⟨i, j, hij, hj, h⟩
    · exact b ⟨i, j, hij, hj, h⟩
  · intro h
    exact ⟨fun ⟨i, j, h1, h2, h3⟩ => h 1 i j (.inl rfl) h1 h2 h3, fun ⟨i, j, h1, h2, h3⟩ => h (-1) i j (.inr rfl) h1 h2 h3⟩

set_option maxRecDepth 100000 in
set_option maxHeartbeats 8000000 in
theorem Settled_any (p : Con) (vs : List Int) (v vv : Value) (w : World) (hv : SliceV w v 3 TgtAt p.targets) (hu : SliceV w vv 1 IntAt vs) :
    Calls Tryd.prog 30 #[p.val v, vv] w fun e w' => SetOut p vs e ∧ Below w.heap.size w w' := by
  have HV := Lib.hid hv
  have HU := Lib.hid hu
  obtain ⟨a, c, rfl, -, -⟩ := hv
  obtain ⟨va, vc, rfl, -, -⟩ := hu
  have H53 : Hid (∀ W, Below w.heap.size w W → _) := Lib.hid fun W hB => problemRight_any p (.slice a p.targets.length c) W (HV.out.keep TgtAt.stable hB)
  have H57 : Hid (∀ W, Below w.heap.size w W → conOk p = true → _) := Lib.hid fun W hB ho => contourRight_any p vs (.slice a p.targets.length c) (.slice va vs.length vc) W ho (HU.out.keep IntAt.stable hB)
  have H58 : Hid (∀ W d, (d = 1 ∨ d = -1) → Below w.heap.size w W → conOk p = true → ctrOk p vs = true → _) := Lib.hid fun W d hd hB ho hc => canShift_any p vs d (.slice a p.targets.length c) (.slice va vs.length vc) W hd ho hc (HV.out.keep TgtAt.stable hB) (HU.out.keep IntAt.stable hB)
  have HST := Lib.hid (fun b c => sett_two (p := p) (vs := vs) (b := b) (c := c))
  have HBAD : Hid ((conOk p && ctrOk p vs) = false → SetOut p vs (.returned (.tuple #[.bool false, .int .i64 2]))) := Lib.hid fun h => .inl ⟨h, rfl⟩
  have HGOOD : Hid ((conOk p && ctrOk p vs) = true → ∀ b : Bool, (b = true ↔ Sett p vs) → SetOut p vs (.returned (.tuple #[.bool b, .int .i64 0]))) := Lib.hid fun h b hb => .inr ⟨h, b, rfl, hb⟩
  generalize SetOut p vs = SO at *
  have HBX := Lib.hid (bAlloc (Below.refl w.heap.size w) (.cells #[.int .i64 p.frames, .int .i64 p.low, .int .i64 p.high, .int .i64 p.slope, .int .i64 p.smooth, .slice a p.targets.length c] 43))
  obtain ⟨b2, hb2⟩ : ∃ b2, b2 = w.heap.size := ⟨_, rfl⟩
  have hbx : BoxC (w.alloc (.cells #[.int .i64 p.frames, .int .i64 p.low, .int .i64 p.high, .int .i64 p.slope, .int .i64 p.smooth, .slice a p.targets.length c] 43)) b2 p.frames p.low p.high p.slope p.smooth (.slice a p.targets.length c) := by rw [hb2]; exact World.alloc_heap_new _ _
  obtain ⟨W1, hW1⟩ : ∃ W1, w.alloc (.cells #[.int .i64 p.frames, .int .i64 p.low, .int .i64 p.high, .int .i64 p.slope, .int .i64 p.smooth, .slice a p.targets.length c] 43) = W1 := ⟨_, rfl⟩
  rw [hW1] at hbx HBX
  have HKK : Hid (∀ W', Below W1.heap.size W1 W' → BoxC W' b2 p.frames p.low p.high p.slope p.smooth (.slice a p.targets.length c)) := Lib.hid fun W' hB => (hB.block b2 hbx.lt).trans hbx
  obtain ⟨k0, k1, k2, k3, k4, k5⟩ := hbx.cell
  have hlk := hbx.lt
  rw [hb2] at k0 k1 k2 k3 k4 k5 hlk
  have HB2 := Lib.hid hb2
  clear hbx hb2
  obtain ⟨S, hS⟩ : ∃ S : Prop, S = Sett p vs := ⟨_, rfl⟩
  rw [← hS] at HST HGOOD
  clear hS
  cases hok : conOk p
  · rw [hok] at H53
    replace HBAD := Lib.hid (HBAD.out (by rw [hok]; rfl))
    clear HGOOD H57 H58 hok
    unfold Con.val at H53 ⊢
    go_enter Tryd.func30, Tryd.ntmps30
    go_wp2_with (go_at_call 53; refine (H53.out _ HBX.out).mono ?_; rintro e w1 ⟨rfl, hb⟩)
    go_ret2
    exact ⟨HBAD.out, bThen HBX.out hb⟩
  · rw [hok] at H53
    cases hct : ctrOk p vs
    · rw [hct] at H57
      have H57' := Lib.hid (fun W hB => H57.out W hB hok)
      replace HBAD := Lib.hid (HBAD.out (by rw [hok, hct]; rfl))
      clear HGOOD H57 H58 hok hct
      unfold Con.val at H53 H57' ⊢
      go_enter Tryd.func30, Tryd.ntmps30
      go_wp2_with (first | (go_at_call 53; refine (H53.out _ HBX.out).mono ?_; rintro e w1 ⟨rfl, hb⟩; have HB1' := Lib.hid hb; obtain ⟨k0, k1, k2, k3, k4, k5⟩ := (HKK.out w1 hb).cell; have hlk := cell_lt k0; rw [HB2.out] at k0 k1 k2 k3 k4 k5 hlk; clear hb) | (go_at_call 57; refine (H57'.out _ (bThen HBX.out HB1'.out)).mono ?_; rintro e w2 ⟨rfl, hb⟩))
      go_ret2
      exact ⟨HBAD.out, bThen (bThen HBX.out HB1'.out) hb⟩
    · rw [hct] at H57
      have H57' := Lib.hid (fun W hB => H57.out W hB hok)
      have H58a := Lib.hid (fun W hB => H58.out W 1 (.inl rfl) hB hok hct)
      have H58b := Lib.hid (fun W hB => H58.out W (-1) (.inr rfl) hB hok hct)
      replace HGOOD := Lib.hid (HGOOD.out (by rw [hok, hct]; rfl))
      clear HBAD H57 H58 hok hct
      unfold Con.val at H53 H57' H58a H58b ⊢
      go_enter Tryd.func30, Tryd.ntmps30
      go_wp2_with (first | (go_at_call 53; refine (H53.out _ HBX.out).mono ?_; rintro e w1 ⟨rfl, hb⟩; have HB1' := Lib.hid hb; obtain ⟨k0, k1, k2, k3, k4, k5⟩ := (HKK.out w1 hb).cell; have hlk := cell_lt k0; rw [HB2.out] at k0 k1 k2 k3 k4 k5 hlk; clear hb) | (go_at_call 57; refine (H57'.out _ (bThen HBX.out HB1'.out)).mono ?_; rintro e w2 ⟨rfl, hb⟩; have HB1 := Lib.hid (bThen HB1'.out hb); obtain ⟨k0, k1, k2, k3, k4, k5⟩ := (HKK.out w2 HB1.out).cell; have hlk := cell_lt k0; rw [HB2.out] at k0 k1 k2 k3 k4 k5 hlk; clear hb))
      refine (H58a.out _ (bThen HBX.out HB1.out)).mono ?_
      rintro e w3 ⟨⟨b, rfl, hb1⟩, hb⟩
      replace HB1 := Lib.hid (bThen HB1.out hb)
      have HP1 := Lib.hid hb1
      clear hb1
      clear hb k0 k1 k2 k3 k4 k5 hlk
      obtain ⟨k0, k1, k2, k3, k4, k5⟩ := (HKK.out _ HB1.out).cell
      have hlk := cell_lt k0
      rw [HB2.out] at k0 k1 k2 k3 k4 k5 hlk
      cases b
      · go_wp2_with fail
        refine (H58b.out _ (bThen HBX.out HB1.out)).mono ?_
        rintro e w4 ⟨⟨c, rfl, hb1⟩, hb⟩
        replace HB1 := Lib.hid (bThen HB1.out hb)
        have HP2 := Lib.hid hb1
        clear hb1
        clear hb k0 k1 k2 k3 k4 k5 hlk
        obtain ⟨k0, k1, k2, k3, k4, k5⟩ := (HKK.out _ HB1.out).cell
        have hlk := cell_lt k0
        rw [HB2.out] at k0 k1 k2 k3 k4 k5 hlk
        have HR := Lib.hid (HST.out false c HP1.out HP2.out)
        cases c
        · go_wp2_with fail
          go_ret2
          exact ⟨HGOOD.out true HR.out, bThen HBX.out HB1.out⟩
        · go_wp2_with fail
          go_ret2
          exact ⟨HGOOD.out false HR.out, bThen HBX.out HB1.out⟩
      · have hnot : ¬ S := fun h => by
          by_cases hc : ∃ i j, i ≤ j ∧ j < p.frames.toNat ∧ Chp p vs p.frames.toNat (-1) i j
          · have := (HST.out true true HP1.out ⟨fun _ => hc, fun _ => rfl⟩).2 h; cases this
          · have := (HST.out true false HP1.out ⟨fun h => (by cases h), fun h => absurd h hc⟩).2 h; cases this
        have HR : Hid (false = true ↔ S) := Lib.hid ⟨fun h => (by cases h), fun h => absurd h hnot⟩
        clear hnot
        go_wp2_with fail
        go_ret2
        exact ⟨HGOOD.out false HR.out, bThen HBX.out HB1.out⟩
end Go.Proofs.YtejcbcjhmnhefaaDoor
namespace Go.Proofs.YtejcbcjhmnhefaaDoor
open Go.RowKit

/-- The first cells of a row of ints. -/
def RowC (W : World) (g n : Nat) (f : Nat → Int) : Prop := ∃ cur : Array Value, W.heap[g]? = some (.cells cur 3 (0, 0)) ∧ n ≤ cur.size ∧ ∀ i, i < n → cur[i]? = some (.int .i64 (f i))
theorem RowC.cell {W : World} {g n : Nat} {f : Nat → Int} (h : RowC W g n f) {i : Nat} (hi : i < n) : W.cell? ⟨g, i, none⟩ = some (.int .i64 (f i)) := by
  obtain ⟨c, hb, _, hc⟩ := h
  simp [World.cell?, hb, hc i hi]
theorem RowC.frozen {W : World} {g n : Nat} {f : Nat → Int} (h : RowC W g n f) (i : Nat) : W.frozen? ⟨g, i, none⟩ = false := by
  obtain ⟨c, hb, _, _⟩ := h
  simp [World.frozen?, hb]
theorem RowC.lt {W : World} {g n : Nat} {f : Nat → Int} (h : RowC W g n f) : g < W.heap.size := by
  obtain ⟨c, hb, _, _⟩ := h
  exact (Array.getElem?_eq_some_iff.1 hb).1
theorem RowC.congr {W : World} {g n : Nat} {f f' : Nat → Int} (h : RowC W g n f) (e : ∀ i, i < n → f i = f' i) : RowC W g n f' := by
  obtain ⟨c, hb, hn, hc⟩ := h
  exact ⟨c, hb, hn, fun i hi => by rw [hc i hi, e i hi]⟩
theorem RowC.keep {W W' : World} {g n : Nat} {f : Nat → Int} (h : RowC W g n f) (hB : Below W.heap.size W W') : RowC W' g n f := by
  obtain ⟨c, hb, hn, hc⟩ := h
  exact ⟨c, (hB.block g (Array.getElem?_eq_some_iff.1 hb).1).trans hb, hn, hc⟩
theorem RowC.set {W : World} {g n : Nat} {f : Nat → Int} (h : RowC W g n f) (i : Nat) (v : Int) : RowC (W.setCell ⟨g, i, none⟩ (.int .i64 v)) g n (fun j => if j = i then v else f j) := by
  obtain ⟨c, hb, hn, hc⟩ := h
  refine ⟨c.setIfInBounds i (.int .i64 v), ?_, by simpa using hn, fun j hj => ?_⟩
  · simp [World.setCell, Array.getElem?_modify, hb]
  · rw [Array.getElem?_setIfInBounds]
    by_cases e : j = i
    · subst e
      have : j < c.size := by omega
      simp [this]
    · rw [if_neg (fun h => e h.symm)]
      show c[j]? = some (.int .i64 (if j = i then v else f j))
      rw [if_neg e]
      exact hc j hj
theorem RowC.slice {W : World} {g n cap : Nat} {f : Nat → Int} (h : RowC W g n f) (hn : n ≤ 1000000) : SliceV W (.slice (some ⟨g, 0, none⟩) n cap) 1 IntAt ((List.range n).map f) :=
  ⟨_, cap, by rw [List.length_map, List.length_range], by rw [List.length_map, List.length_range]; unfold most; omega, .inr ⟨g, 0, rfl, fun i hi => by
    rw [List.length_map, List.length_range] at hi
    have h1 := h.cell hi
    unfold IntAt
    rw [Nat.zero_add, Nat.mul_one, h1]; simp⟩⟩
theorem rowC_own {W : World} {base g n cap : Nat} {L : List Int} (h : W.ownsRow base 3 1 (.slice (some ⟨g, 0, none⟩) n cap) n (intV L)) (hn : L.length = n) : RowC W g n (fun i => L.getD i 0) := by
  rcases h.2 with ⟨h0, _⟩ | ⟨g', cap', cur, hv, _, hb, h1, _, h3, h4⟩
  · cases h0
  · cases hv
    refine ⟨cur, hb, by omega, fun i hi => ?_⟩
    have h5 : (intV L)[i]? = some (.int .i64 (L.getD i 0)) := by
      unfold intV
      rw [List.getElem?_map, List.getElem?_eq_getElem (by omega)]
      simp [List.getD, show i < L.length by omega]
    rw [← h4, Nat.mul_one, List.getElem?_take, if_pos hi] at h5
    simpa using h5
/-- What the specification looks for. -/
def NoChp (p : Con) (vs : List Int) (F : Nat) (d : Int) (i j : Nat) : Prop := ¬ (ctrOk p (shL F vs d i j) = true ∧ costOf p (shL F vs d i j) < costOf p vs)
theorem sett_ref {p : Con} {vs : List Int} (hok : conOk p = true) (hc : ctrOk p vs = true) : Sett p vs ↔ ∀ d i j, (d = 1 ∨ d = -1) → i ≤ j → j < p.frames.toNat → NoChp p vs p.frames.toNat d i j := by
  obtain ⟨hf, _⟩ := conOk_parts hok
  have hF : p.frames = ((p.frames.toNat : Nat) : Int) := by omega
  have hl : vs.length = p.frames.toNat := by have := (ctrOk_in hc).1; omega
  have ht := frames_tgt hok
  unfold Sett NoChp
  constructor
  · intro h d i j hd hij hj
    rw [← chp_iff hF hl ht hc hd hij hj]; exact h d i j hd hij hj
  · intro h d i j hd hij hj
    rw [chp_iff hF hl ht hc hd hij hj]; exact h d i j hd hij hj

set_option maxRecDepth 100000 in
set_option maxHeartbeats 16000000 in
theorem refSettled_any' (p : Con) (F : Nat) (vs : List Int) (v vv : Value) (w : World) (hok : conOk p = true) (hc : ctrOk p vs = true) (hF : p.frames = (F : Int)) (hv : SliceV w v 3 TgtAt p.targets) (hu : SliceV w vv 1 IntAt vs) :
    Calls Tryd.prog 32 #[p.val v, vv] w fun e w' => (∃ b : Bool, e = .returned (.bool b) ∧ (b = true ↔ ∀ d i j, (d = 1 ∨ d = -1) → i ≤ j → j < F → NoChp p vs F d i j)) ∧ Below w.heap.size w w' := by
  have HV := Lib.hid hv
  have HU := Lib.hid hu
  obtain ⟨a, c, rfl, -, -⟩ := hv
  obtain ⟨va, vc, rfl, -, -⟩ := hu
  obtain ⟨hf, hlo, hhi, _⟩ := conOk_parts hok
  have hin := (ctrOk_in hc).2
  have hvl : vs.length = F := by have := (ctrOk_in hc).1; omega
  obtain ⟨vb, vo, rfl, hy⟩ := HU.out.at (by intro h; simp [h] at hvl; omega)
  have HX : Hid (∀ i, i < F → w.cell? ⟨vb, vo + i, none⟩ = some (.int .i64 (vs.getD i 0))) := Lib.hid fun i hi => by
    have h := hy i (by omega)
    rw [Nat.mul_one] at h
    rw [getD_at (by omega)]; exact h
  have HVI : Hid (∀ i, i < F → -100000 ≤ vs.getD i 0 ∧ vs.getD i 0 ≤ 100400) := Lib.hid fun i hi => by
    have := hin (vs.getD i 0) (by rw [getD_at (by omega)]; exact List.getElem_mem _); omega
  have H31 : Hid (∀ W d i j u, Below w.heap.size w W → SliceV W u 1 IntAt (shL F vs d i j) → _) := Lib.hid fun W d i j u hB hu => refContour_any p (shL F vs d i j) (.slice a p.targets.length c) u W hok hu
  have H28 : Hid (∀ W d i j u, Below w.heap.size w W → ctrOk p (shL F vs d i j) = true → SliceV W u 1 IntAt (shL F vs d i j) → _) := Lib.hid fun W d i j u hB ho hu => refCost_any p (shL F vs d i j) (.slice a p.targets.length c) u W hok (HV.out.keep TgtAt.stable hB) (ctrOk_in ho).1 (ctrOk_in ho).2 hu
  have H28v : Hid (∀ W, Below w.heap.size w W → _) := Lib.hid fun W hB => refCost_any p vs (.slice a p.targets.length c) (.slice (some ⟨vb, vo, none⟩) vs.length vc) W hok (HV.out.keep TgtAt.stable hB) (ctrOk_in hc).1 (ctrOk_in hc).2 (HU.out.keep IntAt.stable hB)
  have HNC : Hid (∀ d i j, NoChp p vs F d i j ↔ ¬ (ctrOk p (shL F vs d i j) = true ∧ costOf p (shL F vs d i j) < costOf p vs)) := Lib.hid fun _ _ _ => Iff.rfl
  rw [hvl] at HU H28v ⊢
  have hFF : 1 ≤ F ∧ F ≤ 200 := by omega
  have HVL := Lib.hid hvl
  clear hok hc hF hf hlo hhi hin hvl hy
  have HBX := Lib.hid (bAlloc (Below.refl w.heap.size w) (.cells #[.int .i64 p.frames, .int .i64 p.low, .int .i64 p.high, .int .i64 p.slope, .int .i64 p.smooth, .slice a p.targets.length c] 43))
  obtain ⟨b2, hb2⟩ : ∃ b2, b2 = w.heap.size := ⟨_, rfl⟩
  have hbx : BoxC (w.alloc (.cells #[.int .i64 p.frames, .int .i64 p.low, .int .i64 p.high, .int .i64 p.slope, .int .i64 p.smooth, .slice a p.targets.length c] 43)) b2 p.frames p.low p.high p.slope p.smooth (.slice a p.targets.length c) := by rw [hb2]; exact World.alloc_heap_new _ _
  obtain ⟨W1, hW1⟩ : ∃ W1, w.alloc (.cells #[.int .i64 p.frames, .int .i64 p.low, .int .i64 p.high, .int .i64 p.slope, .int .i64 p.smooth, .slice a p.targets.length c] 43) = W1 := ⟨_, rfl⟩
  rw [hW1] at hbx HBX
  have HKK : Hid (∀ W', Below W1.heap.size W1 W' → BoxC W' b2 p.frames p.low p.high p.slope p.smooth (.slice a p.targets.length c)) := Lib.hid fun W' hB => (hB.block b2 hbx.lt).trans hbx
  obtain ⟨k0, k1, k2, k3, k4, k5⟩ := hbx.cell
  have hlk := hbx.lt
  rw [hb2] at k0 k1 k2 k3 k4 k5 hlk
  have HB2 := Lib.hid hb2
  clear hbx hb2
  have HONE : Hid (∀ u ∈ intV vs, u.oneCell' = true) := Lib.hid fun u hu => by
    unfold intV at hu
    obtain ⟨x, -, rfl⟩ := List.mem_map.1 hu
    rfl
  have HLEN : Hid ((intV vs).length = F * 1) := Lib.hid (by rw [intV, List.length_map, HVL.out, Nat.mul_one])
  generalize costOf p vs = cv at *
  unfold Con.val at H31 H28 H28v ⊢
  obtain ⟨i3, hi3, hz3, hs3, hb3⟩ := info_parts info3
  have HI := Lib.hid hi3
  clear hi3
  go_enter Tryd.func32, Tryd.ntmps32
  go_wp2_with fail
  refine (H28v.out _ HBX.out).mono ?_
  rintro e w2 ⟨rfl, hb⟩
  have HB1 := Lib.hid hb
  clear hb k0 k1 k2 k3 k4 k5 hlk
  go_wp2_with fail
  go_loopw [6] (fun x wr => ∃ i : Nat, i ≤ F ∧ x = .int .i64 i ∧ Hid (∀ d i' j, i' < i → (d = 1 ∨ d = -1) → i' ≤ j → j < F → NoChp p vs F d i' j) ∧ Hid (Below W1.heap.size W1 wr)) (fun x _ => F - (intOf x).toNat)
  case atStart => exact ⟨0, Nat.zero_le _, rfl, Lib.hid (fun d i' j h => by omega), HB1⟩
  case round =>
    obtain ⟨i, hi, rfl, HN1, HBa⟩ := hrel
    by_cases hlt : i < F
    · go_wp2_with fail
      go_loopw [7] (fun x wr => ∃ j : Nat, i ≤ j ∧ j ≤ F ∧ x = .int .i64 j ∧ Hid (∀ d j', (d = 1 ∨ d = -1) → i ≤ j' → j' < j → NoChp p vs F d i j') ∧ Hid (Below W1.heap.size W1 wr)) (fun x _ => F - (intOf x).toNat)
      case atStart => exact ⟨i, Nat.le_refl _, by omega, rfl, Lib.hid (fun d j h h1 h2 => by omega), HBa⟩
      case round =>
        obtain ⟨j, hij, hj, rfl, HN2, HBb⟩ := hrel
        by_cases hlt2 : j < F
        · go_wp2_with fail
          go_loopw [8] (fun x wr => ∃ n : Nat, n ≤ 2 ∧ x = .int .i64 (2 * (n : Int) - 1) ∧ Hid (∀ m : Nat, m < n → NoChp p vs F (2 * (m : Int) - 1) i j) ∧ Hid (Below W1.heap.size W1 wr)) (fun x _ => (3 - intOf x).toNat)
          case atStart => exact ⟨0, by omega, rfl, Lib.hid (fun m h => by omega), HBb⟩
          case round =>
            obtain ⟨n, hn, rfl, HN3, HBc⟩ := hrel
            by_cases hlt3 : n < 2
            · obtain ⟨d, hdn⟩ : ∃ d : Int, d = 2 * (n : Int) - 1 := ⟨_, rfl⟩
              rw [← hdn]
              have HDN : Hid (d + 2 = 2 * ((n + 1 : Nat) : Int) - 1) := Lib.hid (by omega)
              have HDN2 := Lib.hid hdn
              have hd : d = 1 ∨ d = -1 := by omega
              have HD := Lib.hid hd
              have hd1 : d ≤ 1 := by omega
              have hd2 : -1 ≤ d := by omega
              clear hdn hd
              obtain ⟨wp, hwp⟩ : ∃ wp, wp = wr := ⟨_, rfl⟩
              subst hwp
              have hnews : ∀ j u, (intV vs)[j]? = some u → wp.cell? (Addr.add ⟨vb, vo, none⟩ j) = some u := fun m u h => by
                have hm : m < F := by
                  rw [← HVL.out]
                  by_cases c : m < vs.length
                  · exact c
                  · rw [List.getElem?_eq_none (by rw [intV, List.length_map]; omega)] at h; cases h
                have h2 := keep (bThen HBX.out HBc.out) (HX.out m hm)
                rw [Addr.add_lit]
                rw [h2, ← h, intV, List.getElem?_map, List.getElem?_eq_getElem (by rw [HVL.out]; exact hm), getD_at (by rw [HVL.out]; exact hm)]; rfl
              have HNEWS := Lib.hid hnews
              clear hnews
              go_wp2_with (at_builtin; go_loud (refine wpList_append_lies _ rfl _ _ 34 rfl wp.heap.size 3 i3 (.int .i64 0) 1 8 Tryd.underlying34 HI.out hz3 hs3 hb3 rfl (by decide) (.slice none 0 0) 0 [] rfl own_nil ⟨vb, vo, none⟩ F vc (intV vs) rfl HLEN.out HNEWS.out HONE.out (by omega) (by unfold maxLen; omega) (by omega) (Nat.le_refl _) _ rfl ?_); intro g cap w4 hown hgrow hg hglt; have HU := Lib.hid (And.intro hown (And.intro hgrow (And.intro hg hglt))); clear hown hgrow hg hglt)
              obtain ⟨hown, hgrow, hg, hglt⟩ := HU.out
              rw [Nat.zero_add, List.nil_append] at hown
              have hgE : g = wp.heap.size := by
                rcases hg with h | h
                · cases h
                · exact h
              have HR0 := Lib.hid ((rowC_own hown HVL.out).congr (f' := fun m => if i ≤ m ∧ m < i then vs.getD m 0 + d else vs.getD m 0) (fun m _ => by rw [if_neg (by omega)]))
              have HB4 : Hid (Below wp.heap.size wp w4) := Lib.hid (grown_below hgrow own_nil (Nat.le_refl _))
              have HGE := Lib.hid hgE
              clear hown hgrow hg hglt hgE
              go_loopw [10] (fun x wr => ∃ k : Nat, i ≤ k ∧ k ≤ j + 1 ∧ x = .int .i64 k ∧ Hid (RowC wr g F (fun m => if i ≤ m ∧ m < k then vs.getD m 0 + d else vs.getD m 0)) ∧ Hid (Below wp.heap.size wp wr)) (fun x _ => j + 1 - (intOf x).toNat)
              case atStart => exact ⟨i, Nat.le_refl _, by omega, rfl, HR0, HB4⟩
              case round =>
                obtain ⟨k, hik, hkj, rfl, HRK, HBk⟩ := hrel
                by_cases hlt4 : k ≤ j
                · have e0 := HRK.out.cell (i := k) (by omega)
                  rw [if_neg (by omega)] at e0
                  have z0 := HRK.out.frozen k
                  have hlg := HRK.out.lt
                  have hvk := HVI.out k (by omega)
                  have HRN : Hid (RowC (wr.setCell ⟨g, k, none⟩ (.int .i64 (vs.getD k 0 + d))) g F (fun m => if i ≤ m ∧ m < k + 1 then vs.getD m 0 + d else vs.getD m 0)) := Lib.hid ((HRK.out.set k _).congr fun m _ => by
                    by_cases e : m = k
                    · subst e; rw [if_pos rfl, if_pos (by omega)]
                    · rw [if_neg e]
                      by_cases c : i ≤ m ∧ m < k
                      · rw [if_pos c, if_pos (by omega)]
                      · rw [if_neg c, if_neg (by omega)])
                  have HBN : Hid (Below wp.heap.size wp (wr.setCell ⟨g, k, none⟩ (.int .i64 (vs.getD k 0 + d)))) := Lib.hid (HBk.out.setCell (by show wp.heap.size ≤ g; rw [HGE.out]; exact Nat.le_refl _) _)
                  generalize vs.getD k 0 = y at *
                  have w1' : IntKind.i64.wrap (y + d) = y + d := IntWalk.i64_in _ (by omega)
                  have i1 : (k : Int) < (F : Int) := by omega
                  go_wp2_with fail
                  go_roundw
                  case rel =>
                    first
                      | exact ⟨k + 1, by omega, by omega, by go_num, HRN, HBN⟩
                      | ((repeat apply Exists.intro); refine ⟨?_, rfl⟩; exact ⟨k + 1, by omega, by omega, by go_num, HRN, HBN⟩)
                  case measure => simp [intOf]; omega
                · obtain rfl : k = j + 1 := by omega
                  have HSL : Hid (∀ W, Below wr.heap.size wr W → SliceV W (.slice (some ⟨g, 0, none⟩) F cap) 1 IntAt (shL F vs d i j)) := Lib.hid fun W hB => by
                    have h := (HRK.out.congr (f' := shV (vF vs) d i j) (fun m _ => by
                      unfold shV vF
                      by_cases c : i ≤ m ∧ m < j + 1
                      · rw [if_pos c, if_pos (by omega)]
                      · rw [if_neg c, if_neg (by omega)])).keep hB
                    exact h.slice (by omega)
                  have HBq := Lib.hid (bThen HBc.out HBk.out)
                  obtain ⟨k0, k1, k2, k3, k4, k5⟩ := (HKK.out wr HBq.out).cell
                  have hlk := cell_lt k0
                  rw [HB2.out] at k0 k1 k2 k3 k4 k5 hlk
                  have H31' := Lib.hid (H31.out wr d i j _ (bThen HBX.out HBq.out) (HSL.out wr (Below.refl _ _)))
                  have HNCd := Lib.hid (HNC.out d i j)
                  have H28' := Lib.hid (fun W hB ho => H28.out W d i j _ (bThen (bThen HBX.out HBq.out) hB) ho (HSL.out W hB))
                  have HNX0 : Hid (NoChp p vs F d i j → ∀ m : Nat, m < n + 1 → NoChp p vs F (2 * (m : Int) - 1) i j) := Lib.hid fun h m hm => by
                    by_cases e : m = n
                    · subst e; rw [← HDN2.out]; exact h
                    · exact HN3.out m (by omega)
                  generalize costOf p (shL F vs d i j) = cs at *
                  cases hct : ctrOk p (shL F vs d i j)
                  · rw [hct] at H31'
                    have HNX := Lib.hid (HNX0.out (HNCd.out.2 (by rw [hct]; rintro ⟨h, _⟩; cases h)))
                    clear hct
                    go_wp2_with fail
                    refine H31'.out.mono ?_
                    rintro e w5 ⟨rfl, hb⟩
                    have HBX9 := Lib.hid (bThen HBq.out hb)
                    clear hb k0 k1 k2 k3 k4 k5 hlk
                    go_wp2_with fail
                    go_roundw
                    case rel =>
                      first
                        | exact ⟨n + 1, by omega, by rw [HDN.out], HNX, HBX9⟩
                        | ((repeat apply Exists.intro); refine ⟨?_, rfl⟩; exact ⟨n + 1, by omega, by rw [HDN.out], HNX, HBX9⟩)
                    case measure =>
                      have := HDN2.out
                      simp [intOf]; omega
                  · rw [hct] at H31'
                    have H28'' := Lib.hid (fun W hB => H28'.out W hB hct)
                    by_cases hcc : cs < cv
                    · have hbad : ¬ NoChp p vs F d i j := fun h => HNCd.out.1 h ⟨hct, hcc⟩
                      have HBAD := Lib.hid hbad
                      have d9 : decide (cs < cv) = true := decide_eq_true hcc
                      clear hct hbad
                      go_wp2_with fail
                      refine H31'.out.mono ?_
                      rintro e w5 ⟨rfl, hb⟩
                      have HBX8 := Lib.hid hb
                      clear k0 k1 k2 k3 k4 k5 hlk
                      obtain ⟨k0, k1, k2, k3, k4, k5⟩ := (HKK.out w5 (bThen HBq.out hb)).cell
                      have hlk := cell_lt k0
                      rw [HB2.out] at k0 k1 k2 k3 k4 k5 hlk
                      clear hb
                      go_wp2_with fail
                      refine (H28''.out w5 HBX8.out).mono ?_
                      rintro e w6 ⟨rfl, hb⟩
                      have HBX9 := Lib.hid (bThen (bThen HBq.out HBX8.out) hb)
                      clear hb k0 k1 k2 k3 k4 k5 hlk
                      go_wp2_with fail
                      go_ret
                      exact ⟨⟨false, rfl, fun h => (by cases h), fun h => absurd (h d i j HD.out hij hlt2) HBAD.out⟩, bThen HBX.out HBX9.out⟩
                    · have HNX := Lib.hid (HNX0.out (HNCd.out.2 (by rintro ⟨_, h⟩; exact hcc h)))
                      have d9 : decide (cs < cv) = false := decide_eq_false hcc
                      clear hct
                      go_wp2_with fail
                      refine H31'.out.mono ?_
                      rintro e w5 ⟨rfl, hb⟩
                      have HBX8 := Lib.hid hb
                      clear k0 k1 k2 k3 k4 k5 hlk
                      obtain ⟨k0, k1, k2, k3, k4, k5⟩ := (HKK.out w5 (bThen HBq.out hb)).cell
                      have hlk := cell_lt k0
                      rw [HB2.out] at k0 k1 k2 k3 k4 k5 hlk
                      clear hb
                      go_wp2_with fail
                      refine (H28''.out w5 HBX8.out).mono ?_
                      rintro e w6 ⟨rfl, hb⟩
                      have HBX9 := Lib.hid (bThen (bThen HBq.out HBX8.out) hb)
                      clear hb k0 k1 k2 k3 k4 k5 hlk
                      go_wp2_with fail
                      go_roundw
                      case rel =>
                        first
                          | exact ⟨n + 1, by omega, by rw [HDN.out], HNX, HBX9⟩
                          | ((repeat apply Exists.intro); refine ⟨?_, rfl⟩; exact ⟨n + 1, by omega, by rw [HDN.out], HNX, HBX9⟩)
                      case measure =>
                        have := HDN2.out
                        simp [intOf]; omega
            · obtain rfl : n = 2 := by omega
              have HNX : Hid (∀ d j', (d = 1 ∨ d = -1) → i ≤ j' → j' < j + 1 → NoChp p vs F d i j') := Lib.hid fun d j' hd h1 h2 => by
                by_cases e : j' = j
                · subst e
                  rcases hd with rfl | rfl
                  · exact HN3.out 1 (by omega)
                  · exact HN3.out 0 (by omega)
                · exact HN2.out d j' hd h1 (by omega)
              rw [show 2 * ((2 : Nat) : Int) - 1 = 3 from rfl]
              go_wp2_with fail
              go_roundw
              case rel =>
                first
                  | exact ⟨j + 1, by omega, by omega, by go_num, HNX, HBc⟩
                  | ((repeat apply Exists.intro); refine ⟨?_, rfl⟩; exact ⟨j + 1, by omega, by omega, by go_num, HNX, HBc⟩)
              case measure => simp [intOf]; omega
        · obtain rfl : j = F := by omega
          have HNX : Hid (∀ d i' j', i' < i + 1 → (d = 1 ∨ d = -1) → i' ≤ j' → j' < j → NoChp p vs j d i' j') := Lib.hid fun d i' j' h1 hd h2 h3 => by
            by_cases e : i' = i
            · subst e; exact HN2.out d j' hd h2 h3
            · exact HN1.out d i' j' (by omega) hd h2 h3
          go_wp2_with fail
          go_roundw
          case rel =>
            first
              | exact ⟨i + 1, by omega, by go_num, HNX, HBb⟩
              | ((repeat apply Exists.intro); refine ⟨?_, rfl⟩; exact ⟨i + 1, by omega, by go_num, HNX, HBb⟩)
          case measure => simp [intOf]; omega
    · obtain rfl : i = F := by omega
      go_wp2_with fail
      go_ret
      exact ⟨⟨true, rfl, fun _ d i' j' hd h1 h2 => HN1.out d i' j' (by omega) hd h1 h2, fun _ => rfl⟩, bThen HBX.out HBa.out⟩
theorem refSettled_any (p : Con) (vs : List Int) (v vv : Value) (w : World) (hok : conOk p = true) (hc : ctrOk p vs = true) (hv : SliceV w v 3 TgtAt p.targets) (hu : SliceV w vv 1 IntAt vs) :
    Calls Tryd.prog 32 #[p.val v, vv] w fun e w' => (∃ b : Bool, e = .returned (.bool b) ∧ (b = true ↔ Sett p vs)) ∧ Below w.heap.size w w' := by
  have hf := (conOk_parts hok).1
  refine (refSettled_any' p p.frames.toNat vs v vv w hok hc (by omega) hv hu).mono ?_
  rintro e w' ⟨⟨b, rfl, hb⟩, hB⟩
  exact ⟨⟨b, rfl, by rw [hb, sett_ref hok hc]⟩, hB⟩
set_option maxRecDepth 20000 in
set_option maxHeartbeats 4000000 in
/-- A list that does not fall below another one where they first part. -/
theorem before_any (xs ys : List Int) (v u : Value) (w : World) (hl : xs.length = ys.length) (H : ∀ i, i < xs.length → (∀ j, j < i → xs.getD j 0 = ys.getD j 0) → ys.getD i 0 ≤ xs.getD i 0) (hv : SliceV w v 1 IntAt xs) (hu : SliceV w u 1 IntAt ys) :
    Calls Tryd.prog 33 #[v, u] w fun e w' => e = .returned (.bool false) ∧ Below w.heap.size w w' := by
  have HV := Lib.hid hv
  have HU := Lib.hid hu
  have HL := Lib.hid hl
  have HH := Lib.hid H
  obtain ⟨xa, xc, rfl, hxl, -⟩ := hv
  obtain ⟨ya, yc, rfl, -, -⟩ := hu
  unfold most at hxl
  obtain ⟨n, hn⟩ : ∃ n, n = xs.length := ⟨_, rfl⟩
  rw [← hl, ← hn] at HU ⊢
  rw [← hn] at HV hxl
  have HN := Lib.hid hn
  clear hl H hn
  go_enter Tryd.func33, Tryd.ntmps33
  go_wp2_with fail
  go_loopw [5] (fun i wr => ∃ k : Nat, k ≤ n ∧ i = .int .i64 k ∧ Hid (∀ j, j < k → xs.getD j 0 = ys.getD j 0) ∧ Below w.heap.size w wr) (fun i _ => n - (intOf i).toNat)
  case atStart => exact ⟨0, Nat.zero_le _, rfl, Lib.hid (fun j h => by omega), Below.refl _ _⟩
  case round =>
    obtain ⟨k, hk, rfl, HT, hB⟩ := hrel
    by_cases hlt : k < n
    · obtain ⟨xb, xo, rfl, hxf⟩ := HV.out.at (by intro h; have := HN.out; simp [h] at this; omega)
      obtain ⟨yb, yo, rfl, hyf⟩ := HU.out.at (by intro h; have h1 := HN.out; have h2 := HL.out; simp [h] at h2; simp [h2] at h1; omega)
      have p0 : wr.cell? ⟨xb, xo + k, none⟩ = some (.int .i64 (xs.getD k 0)) := by
        have := keep hB (hxf k (by have := HN.out; omega))
        rw [getD_at (by have := HN.out; omega)]; simpa using this
      have q0 : wr.cell? ⟨yb, yo + k, none⟩ = some (.int .i64 (ys.getD k 0)) := by
        have := keep hB (hyf k (by have := HN.out; have := HL.out; omega))
        rw [getD_at (by have := HN.out; have := HL.out; omega)]; simpa using this
      have hle := HH.out k (by have := HN.out; omega) HT.out
      have HNX : Hid (xs.getD k 0 = ys.getD k 0 → Hid (∀ j, j < k + 1 → xs.getD j 0 = ys.getD j 0)) := Lib.hid fun e => Lib.hid fun j hj => by
        by_cases c : j = k
        · subst c; exact e
        · exact HT.out j (by omega)
      have hpb := cell_lt p0
      have hqb := cell_lt q0
      have i1 : (k : Int) < (n : Int) := by omega
      clear hxf hyf
      generalize xs.getD k 0 = p at *
      generalize ys.getD k 0 = q at *
      by_cases he : p = q
      · have h1 : (p != q) = false := by simp [he]
        have h2 : (p == q) = true := by simp [he]
        have HEQ := Lib.hid he
        clear he
        go_wp2_with fail
        refine wp_opaque fun Q2 hQ2 => ?_
        (refine wp_region_below (by kernel_rfl) (by kernel_rfl) ?_; (repeat (first | go_big_quiet_step ((fail)) | quiet_step ((fail)))); (refine wpQuiet_nil ?_; intro _ hw'; obtain ⟨xq, hw''⟩ := hw'; subst hw''))
        refine hQ2 _ _ _ ?_
        clear hQ2 Q2
        go_wp2_with fail
        go_roundw
        case rel => exact ⟨k + 1, by omega, by go_num, HNX.out HEQ.out, bThen hB xq.2⟩
        case measure => simp [intOf]; omega
      · have h1 : (p != q) = true := by simp [he]
        have h2 : (p == q) = false := by simp [he]
        have h3 : decide (p < q) = false := decide_eq_false (by omega)
        have h4 : ¬ (p < q) := by omega
        go_wp2_with fail
        refine wp_opaque fun Q2 hQ2 => ?_
        (refine wp_region_below (by kernel_rfl) (by kernel_rfl) ?_; (repeat (first | go_big_quiet_step ((fail)) | quiet_step ((fail)))); (refine wpQuiet_nil ?_; intro _ hw'; obtain ⟨xq, hw''⟩ := hw'; subst hw''))
        refine hQ2 _ _ _ ?_
        clear hQ2 Q2
        have hB2 := bThen hB xq.2
        have p1 := keep xq.2 p0
        have q1 := keep xq.2 q0
        have hpb1 := cell_lt p1
        have hqb1 := cell_lt q1
        clear p0 q0 hpb hqb
        generalize xq.val = w7 at *
        go_wp2_with fail
        refine wp_opaque fun Q2 hQ2 => ?_
        (refine wp_region_below (by kernel_rfl) (by kernel_rfl) ?_; (repeat (first | go_big_quiet_step ((fail)) | quiet_step ((fail)))); (refine wpQuiet_nil ?_; intro _ hw'; obtain ⟨xq, hw''⟩ := hw'; subst hw''))
        refine hQ2 _ _ _ ?_
        clear hQ2 Q2
        have hB3 := bThen hB2 xq.2
        go_wp2_with fail
        go_ret
        exact ⟨rfl, hB3⟩
    · obtain rfl : k = n := by omega
      go_wp2_with fail
      go_ret
      exact ⟨rfl, hB⟩
end Go.Proofs.YtejcbcjhmnhefaaDoor
