/- Contracts: the areas of a score by the specification. -/
import Derived.Test.YtbmbcbknoflpgaaN0
import Derived.Test.YtbmbcbknoflpgaaI2
import Derived.Test.YtbmbcbknoflpgaaJ8
set_option linter.unusedSimpArgs false
set_option linter.unusedVariables false
namespace Go.Proofs.Ytbmbcbknoflpgaa
open Go.RowKit

/-- A list in a block of its own, which does not lie below. -/
def CpV (B : Nat) (xs : List Int) (v : Value) (W : World) : Prop := ∃ (g cap : Nat) (z : Nat → Value), v = .slice (some ⟨g, 0, none⟩) xs.length cap ∧ B ≤ g ∧ xs.length ≤ cap ∧ W.rowIs g 3 cap (fun j => if j < xs.length then .int .i64 (xs.getD j 0) else z j)
theorem CpV.keep {B : Nat} {xs : List Int} {v : Value} {W W' : World} (h : CpV B xs v W) (k : ∀ i, B ≤ i → i < W.heap.size → (∃ cur u, W.heap[i]? = some (.cells cur 3 u)) → W'.heap[i]? = W.heap[i]?) : CpV B xs v W' := by
  obtain ⟨g, cap, z, e, hb, hc, hr⟩ := h
  refine ⟨g, cap, z, e, hb, hc, hr.of_block (k g hb hr.lt ?_)⟩
  obtain ⟨cur, hh, -⟩ := hr
  exact ⟨_, _, hh⟩
theorem CpV.slice {B : Nat} {xs : List Int} {v : Value} {W : World} (h : CpV B xs v W) (hm : xs.length ≤ 1000) : SliceV W v 1 IntAt xs := by
  obtain ⟨g, cap, z, rfl, hb, hc, hr⟩ := h
  exact row_sliceC hr rfl hc hc (fun i hi => by rw [if_pos hi]) (by unfold most; omega)
/-- A row of waves of one's own reads as a slice of waves. -/
theorem own_waves {W : World} {base : Nat} {v : Value} {vals : List Value} {ls : List (List Int)} (h : W.ownsRow base 22 1 v ls.length vals) (hl : ls.length ≤ 1000000)
    (hv : ∀ i (hi : i < ls.length), ∃ u, vals[i]? = some u ∧ SliceV W u 1 IntAt ls[i]) : SliceV W v 1 WaveAt ls := by
  rcases h.2 with ⟨rfl, h0⟩ | ⟨g, cap, cur, rfl, _, hb, hc, _, _, hx⟩
  · exact ⟨none, 0, by rw [h0], by rw [h0]; exact ⟨Nat.zero_le _, Nat.zero_le _⟩, .inl (List.eq_nil_of_length_eq_zero h0)⟩
  · refine ⟨_, cap, rfl, ⟨by unfold most; omega, hc⟩, .inr ⟨g, 0, rfl, fun i hi => ?_⟩⟩
    obtain ⟨u, h1, h2⟩ := hv i hi
    rw [← hx, Nat.mul_one, List.getElem?_take, if_pos hi] at h1
    refine ⟨u, ?_, h2⟩
    show W.cell? ⟨g, 0 + i * 1, none⟩ = _
    simp only [World.cell?, hb]
    simpa using h1
/-- What the areas by the specification keep between two times. -/
structure RefA (B : Nat) (rest : List Int) (l : List Ges) (g1 c1 g2 c2 : Nat) (z1 z2 : Nat → Value) (t : Nat) (o : Value) (W : World) : Prop where
  x : W.rowIs g1 3 c1 (fun j => if j < rest.length then .int .i64 (wlk rest l t j).1 else z1 j)
  y : W.rowIs g2 3 c2 (fun j => if j < rest.length then .int .i64 (wlk rest l t j).2 else z2 j)
  out : ∃ vals, W.ownsRow B 22 1 o t vals ∧ ∀ (j : Nat) (x : Value), vals[j]? = some x → CpV B (arL rest l j) x W
theorem own_keptB {W W' : World} {B e size k : Nat} {v : Value} {xs : List Value} (h : W.ownsRow B e size v k xs) (hk : ∀ i, B ≤ i → i < W.heap.size → W'.heap[i]? = W.heap[i]?) : W'.ownsRow B e size v k xs := by
  refine ⟨h.1, ?_⟩
  rcases h.2 with hn | ⟨g, cap, cur, hv, hb, hg, rest⟩
  · exact .inl hn
  · exact .inr ⟨g, cap, cur, hv, hb, (hk g hb (Array.getElem?_eq_some_iff.1 hg).1).trans hg, rest⟩
theorem own_lt {W : World} {B e size k j : Nat} {v : Value} {xs : List Value} (h : W.ownsRow B e size v k xs) (hj : j < B) : v.ownBlock ≠ some j := by
  rcases h.2 with ⟨rfl, _⟩ | ⟨g, cap, cur, rfl, hb, _⟩
  · simp [Value.ownBlock]
  · intro e
    obtain rfl : g = j := by simpa [Value.ownBlock] using e
    omega
theorem kept_refl (w : World) (a b : Nat) : Kept w w a b := ⟨rfl, rfl, rfl, Nat.le_refl _, fun _ _ _ _ => rfl⟩
theorem Kept.trans {w w' w2 : World} {a b : Nat} (h : Kept w w' a b) (k : Kept w' w2 a b) : Kept w w2 a b :=
  ⟨k.os.trans h.os, k.tape.trans h.tape, k.output.trans h.output, Nat.le_trans h.size k.size, fun i hi ha hb => (k.block i (Nat.lt_of_lt_of_le hi h.size) ha hb).trans (h.block i hi ha hb)⟩
theorem Kept.setA {w w' : World} {a b : Nat} (h : Kept w w' a b) (o : Nat) (v : Value) : Kept w (w'.setCell ⟨a, o, none⟩ v) a b :=
  ⟨h.os, h.tape, h.output, by simpa [World.setCell] using h.size, fun k hk ha hb => (Below.heap_setCell _ _ _ k ha).trans (h.block k hk ha hb)⟩
theorem Kept.thenB {w w' w2 : World} {a b : Nat} (h : Kept w w' a b) (k : Below w'.heap.size w' w2) : Kept w w2 a b :=
  ⟨k.os.trans h.os, k.tape.trans h.tape, k.output.trans h.output, Nat.le_trans h.size k.size, fun i hi ha hb => (k.block i (Nat.lt_of_lt_of_le hi h.size)).trans (h.block i hi ha hb)⟩
theorem hit_ways (s t : Int) (g : Ges) (h : hitG s t g = false) : ¬ g.fst ≤ s ∨ (g.fst ≤ s ∧ ¬ s ≤ g.lst) ∨ (g.fst ≤ s ∧ s ≤ g.lst ∧ ¬ g.beg ≤ t) ∨ (g.fst ≤ s ∧ s ≤ g.lst ∧ g.beg ≤ t ∧ ¬ t < g.fin) := by
  have hn : ¬ (g.fst ≤ s ∧ s ≤ g.lst ∧ g.beg ≤ t ∧ t < g.fin) := by
    intro hh
    have : hitG s t g = true := by simp only [hitG, Bool.and_eq_true, betw_iff]; omega
    rw [h] at this
    cases this
  omega
theorem hit_in {s t : Int} {g : Ges} (h : hitG s t g = true) : g.fst ≤ s ∧ s ≤ g.lst ∧ g.beg ≤ t ∧ t < g.fin := by
  simp only [hitG, Bool.and_eq_true, betw_iff] at h
  omega
set_option maxRecDepth 10000 in
set_option maxHeartbeats 4000000 in
theorem refAreas_any (rest : List Int) (l : List Ges) (va vb : Value) (T : Nat) (w : World) (ha : SliceV w va 1 IntAt rest) (hb : SliceV w vb 6 GesAt l) (hok : scoOk rest l = true) (hT : T ≤ 100000) :
    Calls Try.prog 42 #[va, vb, .int .i64 (T : Int)] w fun e w' => (∃ oa oc, e = .returned (.slice oa T oc) ∧ SliceV w' (.slice oa T oc) 1 WaveAt ((List.range T).map (arL rest l))) ∧ Below w.heap.size w w' := by
  have HA := Lib.hid ha
  have HL := Lib.hid hb
  have HK := Lib.hid hok
  obtain ⟨p1, p2, p3, p4, p5⟩ := sco_parts hok
  have HNE : Hid (rest ≠ []) := Lib.hid (by intro h; rw [h] at p1; simp at p1)
  have HN : Hid (1 ≤ rest.length ∧ rest.length ≤ 24) := Lib.hid ⟨p1, p2⟩
  obtain ⟨a, c, rfl, -⟩ := ha
  obtain ⟨b, d, rfl, -⟩ := hb
  have HS := Lib.hid (fun (W : World) (hB : Below w.heap.size w W) => src_of (HA.out.keep IntAt.stable hB))
  obtain ⟨i3, hi, hz0, hz1, hz2⟩ := info_parts infoIz
  have HI := Lib.hid hi
  clear hi hok p1 p3 p5
  go_enter Try.func42, Try.ntmps42
  go_wp2_with (first
    | (at_builtin; refine wpList_append_ints rfl _ _ rfl w.heap.size (.slice none 0 0) 0 [] (by rfl) (own_nil _ _) a rest.length c rest (by rfl) rfl (HS.out w (Below.refl _ _)) (by omega) (by exact Nat.le_refl _) ?_; intro v1 w1 hown1 hb1; have HB1 := Lib.hid hb1; have HO1 : Hid (w1.ownsRow w.heap.size 3 1 v1 rest.length (intV rest)) := Lib.hid (by simpa using hown1); clear hown1 hb1)
    | (at_builtin; refine wpList_append_ints rfl _ _ rfl w1.heap.size (.slice none 0 0) 0 [] (by rfl) (own_nil _ _) a rest.length c rest (by rfl) rfl (HS.out w1 HB1.out) (by omega) (by exact Nat.le_refl _) ?_; intro v2 w2 hown2 hb2; have HB2 := Lib.hid hb2; have HO2 : Hid (w2.ownsRow w1.heap.size 3 1 v2 rest.length (intV rest)) := Lib.hid (by simpa using hown2); clear hown2 hb2))
  obtain ⟨g1, c1, z1, rfl, hg1, hc1, hr1⟩ := own_rowR HO1.out HNE.out
  obtain ⟨g2, c2, z2, rfl, hg2, hc2, hr2⟩ := own_rowR HO2.out HNE.out
  have hl1 := hr1.lt
  have hl2 := hr2.lt
  have HQ : Hid (w.heap.size ≤ g1 ∧ w.heap.size ≤ g2 ∧ g1 < w2.heap.size ∧ g2 < w2.heap.size ∧ g1 ≠ g2 ∧ rest.length ≤ c1 ∧ rest.length ≤ c2) := Lib.hid (by have h1 := HB1.out.size; have h2 := HB2.out.size; omega)
  have HR0 : Hid (RefA w2.heap.size rest l g1 c1 g2 c2 z1 z2 0 (.slice none 0 0) w2) := Lib.hid ⟨rowB hr1 HB2.out, hr2, [], World.ownsRow_nil _ _ _ _, by intro j x hx; simp at hx⟩
  have HB0 := Lib.hid (bThen HB1.out HB2.out)
  clear hr1 hr2 hl1 hl2 hg1 hg2 hc1 hc2 HO1 HO2 HB1 HB2
  go_loopw [9, 10] (fun o i wr => ∃ t : Nat, t ≤ T ∧ i = .int .i64 t ∧ Hid (RefA w2.heap.size rest l g1 c1 g2 c2 z1 z2 t o wr) ∧ Hid (Below w.heap.size w wr) ∧ Hid (w2.heap.size ≤ wr.heap.size)) (fun _ i _ => T - (intOf i).toNat)
  case atStart => exact ⟨0, Nat.zero_le _, rfl, HR0, HB0, Lib.hid (Nat.le_refl _)⟩
  case round =>
    clear HR0 HB0
    obtain ⟨t, ht, rfl, HR, HB, HZ⟩ := hrel
    obtain ⟨vals0, hv0, -⟩ := HR.out.out
    obtain ⟨oa, oc, rfl⟩ := ownsRow_slice hv0
    clear hv0 vals0
    by_cases hlt : t < T
    · have htt : (t : Int) < (T : Int) := by omega
      obtain ⟨wo, hwo⟩ : ∃ wo, wo = wr := ⟨_, rfl⟩
      subst hwo
      have HX0 : Hid (wo.rowIs g1 3 c1 (fun j => if j < rest.length then .int .i64 (if j < 0 then (wlk rest l (t + 1) j).1 else (wlk rest l t j).1) else z1 j)) := Lib.hid (HR.out.x.congr fun j _ => by simp)
      have HY0 : Hid (wo.rowIs g2 3 c2 (fun j => if j < rest.length then .int .i64 (if j < 0 then (wlk rest l (t + 1) j).2 else (wlk rest l t j).2) else z2 j)) := Lib.hid (HR.out.y.congr fun j _ => by simp)
      go_wp2_with fail
      go_loopw [11] (fun i wr => ∃ s : Nat, s ≤ rest.length ∧ i = .int .i64 s ∧ Hid (wr.rowIs g1 3 c1 (fun j => if j < rest.length then .int .i64 (if j < s then (wlk rest l (t + 1) j).1 else (wlk rest l t j).1) else z1 j)) ∧ Hid (wr.rowIs g2 3 c2 (fun j => if j < rest.length then .int .i64 (if j < s then (wlk rest l (t + 1) j).2 else (wlk rest l t j).2) else z2 j)) ∧ Hid (Kept wo wr g1 g2)) (fun i _ => rest.length - (intOf i).toNat)
      case atStart => exact ⟨0, Nat.zero_le _, rfl, HX0, HY0, Lib.hid (kept_refl _ _ _)⟩
      case round =>
        clear HX0 HY0
        obtain ⟨s, hs, rfl, HX, HY, HKP⟩ := hrel
        have HBW : Hid (Below w.heap.size w wr) := Lib.hid (HB.out.trans (HKP.out.below HB.out.size HQ.out.1 HQ.out.2.1))
        by_cases hsl : s < rest.length
        · have hss : (s : Int) < (rest.length : Int) := by omega
          obtain ⟨b1, o1, rfl, hf⟩ := (HA.out.keep IntAt.stable HBW.out).at (by intro h; simp [h] at hsl)
          have r0 := hf s hsl
          unfold IntAt at r0
          rw [Nat.mul_one, ← gI hsl] at r0
          have r1 := cell_lt r0
          obtain ⟨rv, hrv⟩ : ∃ rv, rest.getD s 0 = rv := ⟨_, rfl⟩
          rw [hrv] at r0
          have HG0 : Hid (golG rest (l.take 0) s t = (rv, 100)) := Lib.hid (by rw [List.take_zero, golG_nil, hrv])
          clear hf hrv
          obtain ⟨wi, hwi⟩ : ∃ wi, wi = wr := ⟨_, rfl⟩
          subst hwi
          go_wp2_with fail
          go_loopw [14, 12, 13] (fun i g p wr => ∃ (k : Nat) (gl sp : Int), k ≤ l.length ∧ i = .int .i64 k ∧ g = .int .i64 gl ∧ p = .int .i64 sp ∧ Hid (golG rest (l.take k) s t = (gl, sp)) ∧ Hid (Below wi.heap.size wi wr)) (fun i _ _ _ => l.length - (intOf i).toNat)
          case atStart => exact ⟨0, rv, 100, Nat.zero_le _, rfl, rfl, rfl, HG0, Lib.hid (Below.refl _ _)⟩
          case round =>
            clear HG0
            obtain ⟨k, gl, sp, hk, rfl, rfl, rfl, HG, HBK⟩ := hrel
            by_cases hkl : k < l.length
            · obtain ⟨b2, o2, rfl, hf2⟩ := (HL.out.keep GesAt.stable (bThen HBW.out HBK.out)).at (by intro h; simp [h] at hkl)
              obtain ⟨k0, k1, k2, k3, k4, k5⟩ := hf2 k hkl
              have HTK : Hid (l.take (k + 1) = l.take k ++ [l[k]]) := Lib.hid (take_succ l k hkl)
              have HSN := Lib.hid (golG_snoc rest (l.take k) l[k] s t)
              have hkk : (k : Int) < (l.length : Int) := by omega
              clear hf2
              generalize l[k] = x at *
              obtain ⟨l2, hl2⟩ : ∃ l2, l.take k ++ [x] = l2 := ⟨_, rfl⟩
              rw [hl2] at HTK HSN
              have hways := hit_ways s t x
              have hin := @hit_in s t x
              have HHX : Hid (x = x) := Lib.hid rfl
              unfold IntAt at k0 k1 k2 k3 k4 k5
              have hkb := cell_lt k0
              cases hh : hitG s t x
              · have HH := Lib.hid hh
                have hw := hways hh
                clear hways hin hh hl2
                obtain ⟨xa, xb, xc, xd, xf, xs⟩ := x
                simp only at k0 k1 k2 k3 k4 k5 hw
                rcases hw with h | ⟨h1, h⟩ | ⟨h1, h2, h⟩ | ⟨h1, h2, h3, h⟩
                · have HE : Hid (golG rest l2 s t = (gl, sp)) := Lib.hid (by rw [HSN.out, if_neg (by rw [HH.out]; simp)]; exact HG.out)
                  go_wp2_with fail
                  go_roundw
                  case rel => exact ⟨k + 1, gl, sp, by omega, by go_num, rfl, rfl, by rw [HTK.out]; exact HE, Lib.hid (bAlloc HBK.out _)⟩
                  case measure => simp [intOf]; omega
                · have HE : Hid (golG rest l2 s t = (gl, sp)) := Lib.hid (by rw [HSN.out, if_neg (by rw [HH.out]; simp)]; exact HG.out)
                  go_wp2_with fail
                  go_roundw
                  case rel => exact ⟨k + 1, gl, sp, by omega, by go_num, rfl, rfl, by rw [HTK.out]; exact HE, Lib.hid (bAlloc HBK.out _)⟩
                  case measure => simp [intOf]; omega
                · have HE : Hid (golG rest l2 s t = (gl, sp)) := Lib.hid (by rw [HSN.out, if_neg (by rw [HH.out]; simp)]; exact HG.out)
                  go_wp2_with fail
                  go_roundw
                  case rel => exact ⟨k + 1, gl, sp, by omega, by go_num, rfl, rfl, by rw [HTK.out]; exact HE, Lib.hid (bAlloc HBK.out _)⟩
                  case measure => simp [intOf]; omega
                · have HE : Hid (golG rest l2 s t = (gl, sp)) := Lib.hid (by rw [HSN.out, if_neg (by rw [HH.out]; simp)]; exact HG.out)
                  go_wp2_with fail
                  go_roundw
                  case rel => exact ⟨k + 1, gl, sp, by omega, by go_num, rfl, rfl, by rw [HTK.out]; exact HE, Lib.hid (bAlloc HBK.out _)⟩
                  case measure => simp [intOf]; omega
              · have HH := Lib.hid hh
                obtain ⟨h1, h2, h3, h4⟩ := hin hh
                clear hways hin hh hl2
                obtain ⟨xa, xb, xc, xd, xf, xs⟩ := x
                simp only at k0 k1 k2 k3 k4 k5 h1 h2 h3 h4
                have HE : Hid (golG rest l2 s t = (xf, xs)) := Lib.hid (by rw [HSN.out, if_pos HH.out])
                have E4 : Hid ((wr.alloc (.cells #[.int .i64 xa, .int .i64 xb, .int .i64 xc, .int .i64 xd, .int .i64 xf, .int .i64 xs] 76)).cell? ⟨wr.heap.size, 4, none⟩ = some (.int .i64 xf)) := Lib.hid (cell_new rfl)
                have E5 : Hid ((wr.alloc (.cells #[.int .i64 xa, .int .i64 xb, .int .i64 xc, .int .i64 xd, .int .i64 xf, .int .i64 xs] 76)).cell? ⟨wr.heap.size, 5, none⟩ = some (.int .i64 xs)) := Lib.hid (cell_new rfl)
                have HB3 := Lib.hid (bAlloc HBK.out (.cells #[.int .i64 xa, .int .i64 xb, .int .i64 xc, .int .i64 xd, .int .i64 xf, .int .i64 xs] 76))
                go_wp2_with fail
                generalize World.alloc wr _ = W3 at *
                obtain ⟨bx, hbx⟩ : ∃ bx, wr.heap.size = bx := ⟨_, rfl⟩
                rw [hbx] at E4 E5 ⊢
                clear hbx k0 k1 k2 k3 k4 k5 hkb
                have e4 := E4.out
                have e5 := E5.out
                have e6 := cell_lt e4
                go_quiet (fail)
                go_wp2_with fail
                go_roundw
                case rel => exact ⟨k + 1, xf, xs, by omega, by go_num, rfl, rfl, by rw [HTK.out]; exact HE, Lib.hid (bDrew HB3.out _)⟩
                case measure => simp [intOf]; omega
            · obtain rfl : k = l.length := by omega
              rw [List.take_length] at HG
              have HXW := Lib.hid (rowB HX.out HBK.out)
              have HYW := Lib.hid (rowB HY.out HBK.out)
              have x0 := HXW.out.cell (i := s) (by have := HQ.out; omega)
              have x1 := HXW.out.frozen s
              have x2 := HXW.out.lt
              rw [if_pos hsl, if_neg (Nat.lt_irrefl s)] at x0
              have wr1 := wlk_range HK.out s hsl t
              have gr1 := gol_range HK.out s t hsl
              have HW1 : Hid ((wlk rest l (t + 1) s).1 = flw (wlk rest l t s).1 gl sp) := Lib.hid (by show flw _ (golG rest l s t).1 (golG rest l s t).2 = _; rw [HG.out])
              have HW2 : Hid ((wlk rest l (t + 1) s).2 = flw (wlk rest l t s).2 (flw (wlk rest l t s).1 gl sp) sp) := Lib.hid (by show flw _ (flw _ (golG rest l s t).1 (golG rest l s t).2) (golG rest l s t).2 = _; rw [HG.out])
              rw [HG.out] at gr1
              simp only at gr1
              obtain ⟨xv, hxv⟩ : ∃ xv, (wlk rest l t s).1 = xv := ⟨_, rfl⟩
              obtain ⟨yv, hyv⟩ : ∃ yv, (wlk rest l t s).2 = yv := ⟨_, rfl⟩
              rw [hxv] at x0 HW1 HW2 wr1
              rw [hyv] at HW2 wr1
              have hp := flw_range xv gl sp wr1.1 gr1.1 gr1.2
              have HF1 := Lib.hid (fun W => refFollow_any xv gl sp W (by omega) (by omega) (by omega) (by omega))
              obtain ⟨xn, hxn⟩ : ∃ xn, flw xv gl sp = xn := ⟨_, rfl⟩
              rw [hxn] at HF1 HW1 HW2 hp
              have HF2 := Lib.hid (fun W => refFollow_any yv xn sp W (by omega) (by omega) (by omega) (by omega))
              obtain ⟨yn, hyn⟩ : ∃ yn, flw yv xn sp = yn := ⟨_, rfl⟩
              rw [hyn] at HF2 HW2
              have HYV := Lib.hid hyv
              clear hyn hxn hp wr1 gr1 hxv hyv hkl
              have hxc : (s : Int) < (c1 : Int) := by have := HQ.out; omega
              have hyc : (s : Int) < (c2 : Int) := by have := HQ.out; omega
              go_wp2_with (go_at_call 39; with_reducible refine Calls.mono (HF1.out _) ?_; rintro e w4 ⟨rfl, rfl⟩)
              have HX5 : Hid ((wr.setCell ⟨g1, s, none⟩ (.int .i64 xn)).rowIs g1 3 c1 (fun j => if j < rest.length then .int .i64 (if j < s + 1 then (wlk rest l (t + 1) j).1 else (wlk rest l t j).1) else z1 j)) := Lib.hid ((HXW.out.set s (.int .i64 xn)).congr fun j _ => by
                by_cases hj : j = s
                · subst hj; rw [if_pos rfl, if_pos hsl, if_pos (Nat.lt_succ_self _), HW1.out]
                · rw [if_neg hj]
                  by_cases h1 : j < s
                  · rw [if_pos h1, if_pos (show j < s + 1 by omega)]
                  · rw [if_neg h1, if_neg (show ¬ j < s + 1 by omega)])
              have HY5 : Hid ((wr.setCell ⟨g1, s, none⟩ (.int .i64 xn)).rowIs g2 3 c2 (fun j => if j < rest.length then .int .i64 (if j < s then (wlk rest l (t + 1) j).2 else (wlk rest l t j).2) else z2 j)) := Lib.hid (HYW.out.of_block (Below.heap_setCell _ _ _ _ (by have := HQ.out; exact fun e => this.2.2.2.2.1 e.symm)))
              have HK5 : Hid (Kept wo (wr.setCell ⟨g1, s, none⟩ (.int .i64 xn)) g1 g2) := Lib.hid ((HKP.out.thenB HBK.out).setA s _)
              clear x0 x1 x2
              generalize World.setCell wr _ _ = W5 at *
              have x0 := HX5.out.cell (i := s) (by have := HQ.out; omega)
              have y0 := HY5.out.cell (i := s) (by have := HQ.out; omega)
              rw [if_pos hsl, if_pos (Nat.lt_succ_self _), HW1.out] at x0
              rw [if_pos hsl, if_neg (Nat.lt_irrefl s), HYV.out] at y0
              have x2 := HX5.out.lt
              have y1 := HY5.out.frozen s
              have y2 := HY5.out.lt
              have hend : ∀ W6 : World, (W6 = W5.drew ∨ W6 = W5) → (W6.setCell ⟨g2, s, none⟩ (.int .i64 yn)).rowIs g1 3 c1 (fun j => if j < rest.length then .int .i64 (if j < s + 1 then (wlk rest l (t + 1) j).1 else (wlk rest l t j).1) else z1 j) ∧ (W6.setCell ⟨g2, s, none⟩ (.int .i64 yn)).rowIs g2 3 c2 (fun j => if j < rest.length then .int .i64 (if j < s + 1 then (wlk rest l (t + 1) j).2 else (wlk rest l t j).2) else z2 j) ∧ Kept wo (W6.setCell ⟨g2, s, none⟩ (.int .i64 yn)) g1 g2 := by
                intro W6 h6
                have hb6 : Below W5.heap.size W5 W6 := by rcases h6 with rfl | rfl; exact Below.drew (Below.refl _ _); exact Below.refl _ _
                have k5 := HK5.out.thenB hb6
                refine ⟨(rowB HX5.out hb6).of_block (Below.heap_setCell _ _ _ _ (by have := HQ.out; exact fun e => this.2.2.2.2.1 e)), ((rowB HY5.out hb6).set s (.int .i64 yn)).congr fun j _ => ?_, k5.set s _⟩
                by_cases hj : j = s
                · subst hj; rw [if_pos rfl, if_pos hsl, if_pos (Nat.lt_succ_self _), HW2.out]
                · rw [if_neg hj]
                  by_cases h1 : j < s
                  · rw [if_pos h1, if_pos (show j < s + 1 by omega)]
                  · rw [if_neg h1, if_neg (show ¬ j < s + 1 by omega)]
              have HEND := Lib.hid hend
              clear hend
              go_region_with (go_at_call 39; with_reducible refine Calls.mono (HF2.out _) ?_; rintro e w4 ⟨rfl, rfl⟩)
              all_goals
                go_wp2_with fail
                go_roundw
                case rel =>
                  obtain ⟨q1, q2, q3⟩ := HEND.out _ (.inl rfl)
                  exact ⟨s + 1, by omega, by go_num, Lib.hid q1, Lib.hid q2, Lib.hid q3⟩
                case measure => simp [intOf]; omega
        · obtain rfl : s = rest.length := by omega
          have hX : wr.rowIs g1 3 c1 (fun j => if j < rest.length then .int .i64 (wlk rest l (t + 1) j).1 else z1 j) := HX.out.congr fun j _ => by
            by_cases h : j < rest.length
            · rw [if_pos h, if_pos h, if_pos h]
            · rw [if_neg h, if_neg h]
          have hY : wr.rowIs g2 3 c2 (fun j => if j < rest.length then .int .i64 (wlk rest l (t + 1) j).2 else z2 j) := HY.out.congr fun j _ => by
            by_cases h : j < rest.length
            · rw [if_pos h, if_pos h, if_pos h]
            · rw [if_neg h, if_neg h]
          have HX2 := Lib.hid hX
          have HY2 := Lib.hid hY
          obtain ⟨vals, ho, hv⟩ := HR.out.out
          have hkb : ∀ i, w2.heap.size ≤ i → i < wo.heap.size → wr.heap[i]? = wo.heap[i]? := fun i h1 h2 => HKP.out.block i h2 (by have := HQ.out; omega) (by have := HQ.out; omega)
          have HO2 := Lib.hid (own_keptB ho hkb)
          have HV2 : Hid (∀ (j : Nat) (x : Value), vals[j]? = some x → CpV w2.heap.size (arL rest l j) x wr) := Lib.hid (fun j x hx => (hv j x hx).keep fun i h1 h2 _ => hkb i h1 h2)
          have hys : SliceV wr (.slice (some ⟨g2, 0, none⟩) rest.length c2) 1 IntAt (arL rest l t) := row_sliceC hY (arL_len _ _ _) HQ.out.2.2.2.2.2.2 HQ.out.2.2.2.2.2.2 (fun i hi => by rw [if_pos hi, arL_get _ _ _ _ hi]) (by have := HN.out; unfold most; omega)
          have HYS := Lib.hid (src_of hys)
          have hsz : w2.heap.size ≤ wr.heap.size := by have := HZ.out; have := HKP.out.size; omega
          have HSZ := Lib.hid hsz
          clear hX hY ho hv hkb hys HX HY
          go_wp2_with (first
            | (at_builtin; refine wpList_append_ints rfl _ _ rfl wr.heap.size (.slice none 0 0) 0 [] (by rfl) (own_nil _ _) (some ⟨g2, 0, none⟩) rest.length c2 (arL rest l t) (by rfl) (arL_len _ _ _) HYS.out (by have := HN.out; omega) (by exact Nat.le_refl _) ?_; intro v7 w7 hown7 hb7; have HB7 := Lib.hid hb7; have HO7 : Hid (w7.ownsRow wr.heap.size 3 1 v7 (arL rest l t).length (intV (arL rest l t))) := Lib.hid (by rw [arL_len]; simpa using hown7); clear hown7 hb7; obtain ⟨g7, c7, z7, rfl, hg7, hc7, hr7⟩ := own_rowR HO7.out (by intro h; have h2 := congrArg List.length h; rw [arL_len] at h2; have h3 := HN.out; simp only [List.length_nil] at h2; omega); have HR7 := Lib.hid hr7; have HO8 := Lib.hid (own_keptB HO2.out (fun i _ h2 => HB7.out.block i h2)))
            | (at_builtin; refine wpList_append_lies _ rfl _ _ 37 rfl w2.heap.size 22 i3 _ 1 24 Try.underlying37 HI.out hz0 hz1 hz2 rfl (by decide) (.slice oa t oc) t _ (by rfl) (HO8.out.alloc _) ⟨w7.heap.size, 0, none⟩ 1 1 [.slice (some ⟨g7, 0, none⟩) (arL rest l t).length c7] (by rfl) (by rfl) (one_new _ _ _) (by simp [Value.oneCell']) (by omega) (by unfold maxLen; omega) (by omega) (by simp; have := HB7.out.size; omega) (w7.heap.size + 1) (by simp) ?_; intro g6 cap6 w6 hown hgrow hat6 hlt6))
          have HB9 : Hid (Below w.heap.size w w6) := Lib.hid ((bAlloc (bThen HBW.out HB7.out) _).trans (below_grown hgrow ((HO8.out.alloc _).mono (by have := HQ.out; omega)) (by simp; have := HB7.out.size; have := HBW.out.size; omega)))
          have HZ9 : Hid (w2.heap.size ≤ w6.heap.size) := Lib.hid (by have := hgrow.size; simp at this; have := HB7.out.size; have := HSZ.out; omega)
          have hk7 : ∀ i, i < w7.heap.size → (Value.slice oa t oc).ownBlock ≠ some i → w6.heap[i]? = w7.heap[i]? := fun i h1 h2 => (hgrow.block i (by simp; omega) (fun e => h2 (by first | exact e | exact e.symm))).trans ((bAlloc (Below.refl _ _) _).block i h1)
          have hk6 : ∀ i, i < wr.heap.size → (Value.slice oa t oc).ownBlock ≠ some i → w6.heap[i]? = wr.heap[i]? := fun i h1 h2 => (hk7 i (by have := HB7.out.size; omega) h2).trans (HB7.out.block i h1)
          have hlen : vals.length = t := by have := HO2.out.1; omega
          have HR9 : Hid (RefA w2.heap.size rest l g1 c1 g2 c2 z1 z2 (t + 1) (.slice (some ⟨g6, 0, none⟩) (t + 1) cap6) w6) := Lib.hid ⟨HX2.out.of_block (hk6 g1 HX2.out.lt (own_lt HO2.out HQ.out.2.2.1)), HY2.out.of_block (hk6 g2 HY2.out.lt (own_lt HO2.out HQ.out.2.2.2.1)), _, hown, fun j x hx => by
            by_cases hj : j < vals.length
            · rw [List.getElem?_append_left hj] at hx
              exact (HV2.out j x hx).keep fun i h1 h2 ⟨cur, u, hh⟩ => hk6 i h2 (own_ne HO2.out hh (fun cs e => by cases e))
            · rw [List.getElem?_append_right (by omega)] at hx
              have hj0 : j - vals.length = 0 := by
                by_cases h0 : j - vals.length = 0
                · exact h0
                · rw [List.getElem?_eq_none (by simp; omega)] at hx; cases hx
              rw [hj0] at hx
              simp at hx
              subst hx
              obtain rfl : j = t := by omega
              obtain ⟨cur, hh, -⟩ := id HR7.out
              exact ⟨g7, c7, z7, rfl, by have := HSZ.out; omega, hc7, HR7.out.of_block (hk7 g7 HR7.out.lt (own_ne HO8.out hh (fun cs e => by cases e)))⟩⟩
          clear hk7 hk6 hgrow hown hr7
          go_roundw
          case rel => exact ⟨t + 1, by omega, by go_num, HR9, HB9, HZ9⟩
          case measure => simp [intOf]; omega
    · obtain rfl : t = T := by omega
      obtain ⟨vals, ho, hv⟩ := HR.out.out
      have hlen : vals.length = t := by have := ho.1; omega
      have hll : ((List.range t).map (arL rest l)).length = t := by simp
      have ho2 := ho
      rw [← hll] at ho2
      have HS8 := own_waves (ls := (List.range t).map (arL rest l)) ho2 (by rw [hll]; omega) (fun i hi => by
        rw [hll] at hi
        have hx : vals[i]? = some (vals[i]'(by omega)) := List.getElem?_eq_getElem (by omega)
        refine ⟨_, hx, ?_⟩
        rw [List.getElem_map, List.getElem_range]
        exact (hv i _ hx).slice (by rw [arL_len]; have := HN.out; omega))
      rw [hll] at HS8
      have HS9 := Lib.hid HS8
      clear HS8 ho ho2 hv
      go_wp2_with fail
      go_ret
      exact ⟨⟨_, _, rfl, HS9.out⟩, HB.out⟩
end Go.Proofs.Ytbmbcbknoflpgaa
