/- The maths of smoothing at one mark; the law, given the examples. -/
import Derived.Test.YtbeeddenidfenaaL13
import Derived.Test.YtbeeddenidfenaaK1
import Derived.Deep.Cut
set_option linter.unusedSimpArgs false
set_option linter.unusedVariables false
namespace Go.Proofs.Ytbeeddenidfenaa
open Go.RowKit

theorem rnd_between {D w : Int} (hD : 0 ≤ D) (hw : 1 ≤ w) : 0 ≤ rnd (D * w) (2 * w + 1) ∧ rnd (D * w) (2 * w + 1) ≤ D ∧ (2 * w + 1) * (D - 2 * rnd (D * w) (2 * w + 1)) ≤ D + (2 * w + 1) ∧ (2 * w + 1) * (2 * rnd (D * w) (2 * w + 1) - D) ≤ (2 * w + 1) := by
  have h0 : 0 ≤ D * w := Int.mul_nonneg hD (by omega)
  have hi := rnd_in h0 (show 0 < 2 * w + 1 by omega)
  rw [rnd_pos h0] at hi ⊢
  obtain ⟨q, hq⟩ : ∃ q, q = (2 * (D * w) + (2 * w + 1)) / (2 * (2 * w + 1)) := ⟨_, rfl⟩
  rw [← hq] at hi ⊢
  have h1 := Int.mul_ediv_self_le (x := 2 * (D * w) + (2 * w + 1)) (k := 2 * (2 * w + 1)) (by omega)
  have h2 := Int.lt_mul_ediv_self_add (x := 2 * (D * w) + (2 * w + 1)) (k := 2 * (2 * w + 1)) (by omega)
  rw [← hq] at h1 h2
  obtain ⟨B, hB⟩ : ∃ B, B = 2 * w + 1 := ⟨_, rfl⟩
  have e1 : 2 * (D * w) = D * B - D := by rw [hB, Int.mul_add, Int.mul_one, Int.mul_left_comm]; omega
  rw [← hB] at h1 h2 ⊢
  have e2 : 2 * B * q = 2 * (B * q) := Int.mul_assoc 2 B q
  rw [e2] at h1 h2
  have e3 : B * (D - 2 * q) = D * B - 2 * (B * q) := by rw [Int.mul_sub, Int.mul_comm B D, Int.mul_left_comm]
  have e4 : B * (2 * q - D) = 2 * (B * q) - D * B := by rw [Int.mul_sub, Int.mul_comm B D, Int.mul_left_comm]
  refine ⟨hi.1, ?_, by omega, by omega⟩
  by_cases h : q ≤ D
  · exact h
  · exfalso
    have h3 : B * (D + 1) ≤ B * q := Int.mul_le_mul_of_nonneg_left (by omega) (by omega)
    rw [Int.mul_add, Int.mul_one, Int.mul_comm B D] at h3
    have h4 : 0 ≤ D * B := Int.mul_nonneg hD (by omega)
    omega
theorem clp_id {n : Int} (h : -32768 ≤ n ∧ n ≤ 32767) : clp n = n := by unfold clp; rw [if_neg (by omega), if_neg (by omega)]
/-- The step at the mark, behind its smoothing. -/
theorem gentle {x y w : Int} (hx : -32768 ≤ x ∧ x ≤ 32767) (hy : -32768 ≤ y ∧ y ≤ 32767) (hw : 1 ≤ w) :
    (2 * w + 1) * (max (clp (x - rnd ((x - y) * w) (2 * w + 1)) - clp (y + rnd ((x - y) * w) (2 * w + 1))) (-(clp (x - rnd ((x - y) * w) (2 * w + 1)) - clp (y + rnd ((x - y) * w) (2 * w + 1)))) - 1) ≤ max (x - y) (-(x - y)) := by
  have key : ∀ a b : Int, (-32768 ≤ a ∧ a ≤ 32767) → (-32768 ≤ b ∧ b ≤ 32767) → b ≤ a → ∀ t, t = rnd ((a - b) * w) (2 * w + 1) → clp (a - t) = a - t ∧ clp (b + t) = b + t ∧ (2 * w + 1) * (max (a - t - (b + t)) (-(a - t - (b + t))) - 1) ≤ a - b := by
    intro a b ha hb hab t ht
    have h := rnd_between (D := a - b) (w := w) (by omega) hw
    rw [← ht] at h
    obtain ⟨h1, h2, h3, h4⟩ := h
    refine ⟨clp_id (by omega), clp_id (by omega), ?_⟩
    rw [Int.mul_sub, Int.mul_one]
    rcases Int.le_total 0 (a - t - (b + t)) with h5 | h5
    · rw [show max (a - t - (b + t)) (-(a - t - (b + t))) = a - b - 2 * t by omega]; omega
    · rw [show max (a - t - (b + t)) (-(a - t - (b + t))) = 2 * t - (a - b) by omega]; omega
  rcases Int.le_total y x with h | h
  · obtain ⟨k1, k2, k3⟩ := key x y hx hy h _ rfl
    rw [k1, k2, show max (x - y) (-(x - y)) = x - y by omega]
    exact k3
  · by_cases e : x = y
    · subst e
      obtain ⟨k1, k2, k3⟩ := key x x hx hx (Int.le_refl _) _ rfl
      rw [k1, k2, show max (x - x) (-(x - x)) = x - x by omega]
      exact k3
    · have hp : 0 < (y - x) * w := Int.mul_pos (by omega) (by omega)
      have e1 : (x - y) * w = -((y - x) * w) := by rw [← Int.neg_mul]; congr 1; omega
      have hr : rnd ((x - y) * w) (2 * w + 1) = -rnd ((y - x) * w) (2 * w + 1) := by rw [e1, rnd_neg (by omega), Int.neg_neg]
      rw [hr]
      obtain ⟨k1, k2, k3⟩ := key y x hy hx h _ rfl
      generalize rnd ((y - x) * w) (2 * w + 1) = t at *
      rw [show x - -t = x + t by omega, show y + -t = y - t by omega, k1, k2, show max (x - y) (-(x - y)) = y - x by omega, show max (x + t - (y - t)) (-(x + t - (y - t))) = max (y - t - (x + t)) (-(y - t - (x + t))) by omega]
      exact k3
/-- The wave of the law. -/
def gM (a : List Int) (p : Nat) : Mk := ⟨a, [0, (p : Int), (a.length : Int)]⟩
theorem gM_in (a : List Int) (p : Nat) : smIn (gM a p) = [(p : Int)] := rfl
theorem gM_right {a : List Int} {p W : Nat} (ha : a.length ≤ 400) (hW : 1 ≤ W) (h1 : W + 1 ≤ p) (h2 : p + W ≤ a.length) : MkR (gM a p) := by
  refine ⟨by show 2 ≤ 3; omega, by show a.length ≤ 100000; omega, by show 3 ≤ 100001; omega, fun i hi => ?_, fun i hi => ?_, fun i hi => ?_⟩
  · have : i < 3 := hi
    rcases (show i = 0 ∨ i = 1 ∨ i = 2 by omega) with rfl | rfl | rfl <;> simp [gM]
  · have : i < 3 := hi
    rcases (show i = 0 ∨ i = 1 ∨ i = 2 by omega) with rfl | rfl | rfl <;> simp [gM] <;> omega
  · have : i + 1 < 3 := hi
    rcases (show i = 0 ∨ i = 1 by omega) with rfl | rfl <;> simp [gM] <;> omega
theorem gM_sm {a : List Int} {p W : Nat} (h1 : W ≤ p) (h2 : p + W ≤ a.length) : smL (gM a p) W = (List.range a.length).map (smS (fun j => a.getD j 0) (p - W) W W) := by
  unfold smL
  rw [gM_in]
  show (List.range a.length).map (smF W a.length (fun j => a.getD j 0) [(p : Int)]) = _
  simp only [smF]
  rw [if_pos (by omega), show ((p : Int) - W).toNat = p - W by omega]
theorem gM_get {a : List Int} {lo W : Nat} {j : Nat} (hj : j < a.length) : ((List.range a.length).map (smS (fun j => a.getD j 0) lo W W))[j]'(by simpa using hj) = smS (fun j => a.getD j 0) lo W W j := by simp
theorem gM_low {a : List Int} {lo W : Nat} (h : lo + W + W ≤ a.length) : ((List.range a.length).map (smS (fun j => a.getD j 0) lo W W)).take lo = a.take lo := by
  apply List.ext_getElem
  · simp
  · intro j h1 h2
    rw [List.length_take] at h2
    rw [List.getElem_take, List.getElem_take, gM_get (by omega)]
    unfold smS
    rw [if_neg (by omega), if_neg (by omega)]
    exact gI (by omega)
theorem gM_high {a : List Int} {lo W : Nat} (h : lo + W + W ≤ a.length) : ((List.range a.length).map (smS (fun j => a.getD j 0) lo W W)).drop (lo + W + W) = a.drop (lo + W + W) := by
  apply List.ext_getElem
  · simp
  · intro j h1 h2
    rw [List.length_drop] at h2
    rw [List.getElem_drop, List.getElem_drop, gM_get (by omega)]
    unfold smS
    rw [if_neg (by omega), if_neg (by omega)]
    exact gI (by omega)
theorem rnd_zero (b : Int) (h : 0 < b) : rnd 0 b = 0 := by rw [rnd_pos (Int.le_refl _)]; exact Int.ediv_eq_zero_of_lt (by omega) (by omega)
theorem gM_still {a : List Int} {lo W : Nat} (hs : Sm a) (h : lo + W + W ≤ a.length) (hd : a.getD (lo + W) 0 = a.getD (lo + W - 1) 0) : (List.range a.length).map (smS (fun j => a.getD j 0) lo W W) = a := by
  apply List.ext_getElem
  · simp
  · intro j h1 h2
    rw [gM_get h2]
    have hj := hs _ (List.getElem_mem h2)
    unfold smS
    simp only [hd, Int.sub_self, Int.zero_mul]
    rw [rnd_zero _ (by omega)]
    simp only [Int.add_zero, Int.sub_zero]
    rw [gI h2, clp_id hj]
    simp

theorem wave_ok {x : List Int} (h : chk true [x] = 0) : x.length ≤ 100000 ∧ Sm x := by
  rw [chk_one] at h
  by_cases h1 : 100000 < (x.length : Int)
  · rw [if_pos h1] at h; cases h
  · rw [if_neg h1] at h
    by_cases h2 : true = true ∧ waveOk x = true
    · exact ⟨by omega, sm_of h2.2⟩
    · rw [if_neg h2] at h; cases h
set_option maxRecDepth 10000 in
set_option maxHeartbeats 4000000 in
theorem law14_any (x : List Int) (p u : Int) (v : Value) (w : World) (hK : Known) (hv : SliceV w v 1 IntAt x) (hp : -9223372036854775808 ≤ p ∧ p ≤ 9223372036854775807) (hu : -9223372036854775808 ≤ u ∧ u ≤ 9223372036854775807) :
    Calls Try.prog 14 #[v, .int .i64 p, .int .i64 u] w fun e w' => e = .returned (.bool true) ∧ Below w.heap.size w w' := by
  have HK : Hid (∀ W, Calls Try.prog 18 #[] W fun e w' => e = .returned (.bool true) ∧ Below W.heap.size W w') := Lib.hid hK
  have HV := Lib.hid hv
  have HWA := Lib.hid (Wave_any x v w hv)
  obtain ⟨a, c, rfl, hl, -⟩ := id hv
  unfold most at hl
  clear hv hK
  obtain ⟨er, her⟩ : ∃ er, er = chk true [x] := ⟨_, rfl⟩
  have HER := Lib.hid her
  rw [← her] at HWA
  clear her
  obtain ⟨n, hn⟩ : ∃ n, x.length = n := ⟨_, rfl⟩
  have HN := Lib.hid hn
  rw [hn] at HV HWA hl ⊢
  clear hn
  by_cases g1 : (400 : Int) < n
  · go_enter Try.func14, Try.ntmps14
    go_wp2_with (first
      | (go_at_call 23; with_reducible refine Calls.mono HWA.out ?_; rintro e w1 ⟨rfl, rfl⟩)
      | (go_at_call 18; with_reducible refine Calls.mono (HK.out _) ?_; rintro e wk ⟨rfl, hb⟩; have HBK := Lib.hid hb; clear hb))
    all_goals first
      | (exfalso; omega)
      | (go_ret; exact ⟨rfl, HBK.out⟩)
  have g1' : ¬ (400 : Int) < n := g1
  by_cases g2 : er = 0
  case neg =>
    have hb0 : (er == 0) = false := beq_eq_false_iff_ne.2 g2
    go_enter Try.func14, Try.ntmps14
    go_wp2_with (first
      | (go_at_call 23; with_reducible refine Calls.mono HWA.out ?_; rintro e w1 ⟨rfl, rfl⟩)
      | (go_at_call 18; with_reducible refine Calls.mono (HK.out _) ?_; rintro e wk ⟨rfl, hb⟩; have HBK := Lib.hid hb; clear hb))
    all_goals first
      | (exfalso; omega)
      | (go_ret; exact ⟨rfl, HBK.out⟩)
  subst g2
  by_cases g3 : u < 1
  · go_enter Try.func14, Try.ntmps14
    go_wp2_with (first
      | (go_at_call 23; with_reducible refine Calls.mono HWA.out ?_; rintro e w1 ⟨rfl, rfl⟩)
      | (go_at_call 18; with_reducible refine Calls.mono (HK.out _) ?_; rintro e wk ⟨rfl, hb⟩; have HBK := Lib.hid hb; clear hb))
    all_goals first
      | (exfalso; omega)
      | (go_ret; exact ⟨rfl, HBK.out⟩)
  by_cases g4 : 100 < u
  · go_enter Try.func14, Try.ntmps14
    go_wp2_with (first
      | (go_at_call 23; with_reducible refine Calls.mono HWA.out ?_; rintro e w1 ⟨rfl, rfl⟩)
      | (go_at_call 18; with_reducible refine Calls.mono (HK.out _) ?_; rintro e wk ⟨rfl, hb⟩; have HBK := Lib.hid hb; clear hb))
    all_goals first
      | (exfalso; omega)
      | (go_ret; exact ⟨rfl, HBK.out⟩)
  by_cases g5 : p < 0
  · go_enter Try.func14, Try.ntmps14
    go_wp2_with (first
      | (go_at_call 23; with_reducible refine Calls.mono HWA.out ?_; rintro e w1 ⟨rfl, rfl⟩)
      | (go_at_call 18; with_reducible refine Calls.mono (HK.out _) ?_; rintro e wk ⟨rfl, hb⟩; have HBK := Lib.hid hb; clear hb))
    all_goals first
      | (exfalso; omega)
      | (go_ret; exact ⟨rfl, HBK.out⟩)
  by_cases g6 : (n : Int) < p
  · go_enter Try.func14, Try.ntmps14
    go_wp2_with (first
      | (go_at_call 23; with_reducible refine Calls.mono HWA.out ?_; rintro e w1 ⟨rfl, rfl⟩)
      | (go_at_call 18; with_reducible refine Calls.mono (HK.out _) ?_; rintro e wk ⟨rfl, hb⟩; have HBK := Lib.hid hb; clear hb))
    all_goals first
      | (exfalso; omega)
      | (go_ret; exact ⟨rfl, HBK.out⟩)
  have q1 : IntKind.i64.wrap (p - u) = p - u := IntWalk.i64_in _ (by omega)
  have q2 : IntKind.i64.wrap (p + u) = p + u := IntWalk.i64_in _ (by omega)
  by_cases g7 : p - u < 1
  · go_enter Try.func14, Try.ntmps14
    go_wp2_with (first
      | (go_at_call 23; with_reducible refine Calls.mono HWA.out ?_; rintro e w1 ⟨rfl, rfl⟩)
      | (go_at_call 18; with_reducible refine Calls.mono (HK.out _) ?_; rintro e wk ⟨rfl, hb⟩; have HBK := Lib.hid hb; clear hb))
    all_goals first
      | (exfalso; omega)
      | (go_ret; exact ⟨rfl, HBK.out⟩)
  by_cases g8 : (n : Int) < p + u
  · go_enter Try.func14, Try.ntmps14
    go_wp2_with (first
      | (go_at_call 23; with_reducible refine Calls.mono HWA.out ?_; rintro e w1 ⟨rfl, rfl⟩)
      | (go_at_call 18; with_reducible refine Calls.mono (HK.out _) ?_; rintro e wk ⟨rfl, hb⟩; have HBK := Lib.hid hb; clear hb))
    all_goals first
      | (exfalso; omega)
      | (go_ret; exact ⟨rfl, HBK.out⟩)
  obtain ⟨W, rfl⟩ : ∃ W : Nat, u = (W : Int) := ⟨u.toNat, by omega⟩
  obtain ⟨P, rfl⟩ : ∃ P : Nat, p = (P : Int) := ⟨p.toNat, by omega⟩
  obtain ⟨lo, rfl⟩ : ∃ lo, P = lo + W := ⟨P - W, by omega⟩
  have hW : 1 ≤ W := by omega
  have hlo : 1 ≤ lo := by omega
  have hnn : lo + W + W ≤ n := by omega
  have hn4 : n ≤ 400 := by omega
  obtain ⟨hx1, hsm⟩ := wave_ok HER.out.symm
  have hmr : MkR (gM x (lo + W)) := gM_right (W := W) (by rw [HN.out]; omega) hW (by omega) (by rw [HN.out]; omega)
  obtain ⟨b, o, rfl, -⟩ := HV.out.at (by intro e; have := HN.out; rw [e] at this; simp at this; omega)
  have hE : smE (gM x (lo + W)) (W : Int) = 0 := by
    unfold smE
    rw [mkErr_true (mk_right hmr hsm), if_pos]
    simp only [betw, Bool.and_eq_true, decide_eq_true_eq]; omega
  have hR : smR (gM x (lo + W)) (W : Int) = smV (gM x (lo + W)) W := by unfold smR; rw [if_pos hE, Int.toNat_natCast]
  obtain ⟨y, hy⟩ : ∃ y, y = (List.range x.length).map (smS (fun j => x.getD j 0) lo W W) := ⟨_, rfl⟩
  have hyv : (smV (gM x (lo + W)) W).sam = y := by
    show smL (gM x (lo + W)) W = y
    rw [gM_sm (by omega) (by rw [HN.out]; omega), hy, show lo + W - W = lo by omega]
  have hyl : y.length = n := by rw [hy, List.length_map, List.length_range, HN.out]
  have HSO : Hid (∀ X vm, Below w.heap.size w X → SliceV X vm 1 IntAt [0, ((lo + W : Nat) : Int), (n : Int)] → Calls Try.prog 50 #[.agg #[.slice (some ⟨b, o, none⟩) n c, vm], .int .i64 (W : Int)] X fun e w' => (∃ rb ro rc qa qc, e = .returned (.tuple #[.agg #[.slice (some ⟨rb, ro, none⟩) n rc, .slice qa 3 qc], .int .i64 0]) ∧ SliceV w' (.slice (some ⟨rb, ro, none⟩) n rc) 1 IntAt y) ∧ Below X.heap.size X w') := Lib.hid fun X vm hB hvm => by
    have hmv : MkV X (.slice (some ⟨b, o, none⟩) n c) vm (gM x (lo + W)) := ⟨HV.out.keep IntAt.stable hB, by show SliceV X vm 1 IntAt [0, ((lo + W : Nat) : Int), (x.length : Int)]; rw [HN.out]; exact hvm⟩
    refine (Smooth_any (gM x (lo + W)) (W : Int) _ _ X hmv (by show x.length ≤ 1000000; rw [HN.out]; omega)).mono fun e w' ⟨h, hb⟩ => ?_
    rw [hE, hR] at h
    obtain ⟨rs, rm, rfl, h3, h4⟩ := h
    rw [hyv] at h3
    obtain ⟨ra, rc, rfl, h5⟩ := id h3
    obtain ⟨qa, qc, rfl, h6⟩ := id h4
    rw [hyl] at h3 ⊢
    obtain ⟨rb, ro, rfl, -⟩ := h3.at (by intro e; rw [e] at hyl; simp at hyl; omega)
    exact ⟨⟨rb, ro, rc, qa, qc, rfl, h3⟩, hb⟩
  have HY1 : Hid (y.take lo = x.take lo) := Lib.hid (by rw [hy]; exact gM_low (by rw [HN.out]; exact hnn))
  have HY2 : Hid (y.drop (lo + W + W) = x.drop (lo + W + W)) := Lib.hid (by rw [hy]; exact gM_high (by rw [HN.out]; exact hnn))
  have f0 : x.getD (lo + W) 0 = x[lo + W]'(by rw [HN.out]; omega) := gI _
  have f1 : x.getD (lo + W - 1) 0 = x[lo + W - 1]'(by rw [HN.out]; omega) := gI _
  have hb0 := hsm _ (List.getElem_mem (show lo + W < x.length by rw [HN.out]; omega))
  have hb1 := hsm _ (List.getElem_mem (show lo + W - 1 < x.length by rw [HN.out]; omega))
  rw [← f0] at hb0
  rw [← f1] at hb1
  have HY3 : Hid (x.getD (lo + W) 0 = x.getD (lo + W - 1) 0 → y = x) := Lib.hid fun h => by rw [hy]; exact gM_still hsm (by rw [HN.out]; exact hnn) h
  have hy0 : y[lo + W]'(by rw [hyl]; omega) = clp (x.getD (lo + W) 0 - rnd ((x.getD (lo + W) 0 - x.getD (lo + W - 1) 0) * (W : Int)) (2 * (W : Int) + 1)) := by
    subst hy
    rw [gM_get (by rw [HN.out]; omega)]
    unfold smS
    rw [if_neg (by omega), if_pos (by omega)]
    simp
  have hy1 : y[lo + W - 1]'(by rw [hyl]; omega) = clp (x.getD (lo + W - 1) 0 + rnd ((x.getD (lo + W) 0 - x.getD (lo + W - 1) 0) * (W : Int)) (2 * (W : Int) + 1)) := by
    subst hy
    rw [gM_get (by rw [HN.out]; omega)]
    unfold smS
    rw [if_pos (by omega)]
    simp
  have hge := gentle (w := (W : Int)) hb0 hb1 (by omega)
  have hcb0 := clp_in (x.getD (lo + W) 0 - rnd ((x.getD (lo + W) 0 - x.getD (lo + W - 1) 0) * (W : Int)) (2 * (W : Int) + 1))
  have hcb1 := clp_in (x.getD (lo + W - 1) 0 + rnd ((x.getD (lo + W) 0 - x.getD (lo + W - 1) 0) * (W : Int)) (2 * (W : Int) + 1))
  rw [← hy0, ← hy1] at hge
  rw [← hy0] at hcb0
  rw [← hy1] at hcb1
  have HXC : Hid (∀ X, Below w.heap.size w X → X.cell? ⟨b, o + (lo + W), none⟩ = some (.int .i64 (x.getD (lo + W) 0)) ∧ X.cell? ⟨b, o + (lo + W - 1), none⟩ = some (.int .i64 (x.getD (lo + W - 1) 0))) := Lib.hid fun X hB => by
    obtain ⟨b', o', he, hf⟩ := (HV.out.keep IntAt.stable hB).at (by intro e; have := HN.out; rw [e] at this; simp at this; omega)
    cases he
    have k0 := hf (lo + W) (by rw [HN.out]; omega)
    have k1 := hf (lo + W - 1) (by rw [HN.out]; omega)
    unfold IntAt at k0 k1
    rw [Nat.mul_one] at k0 k1
    rw [f0, f1]
    exact ⟨k0, k1⟩
  obtain ⟨y0, hy0'⟩ : ∃ t, t = y[lo + W]'(by rw [hyl]; omega) := ⟨_, rfl⟩
  obtain ⟨y1, hy1'⟩ : ∃ t, t = y[lo + W - 1]'(by rw [hyl]; omega) := ⟨_, rfl⟩
  have HYC : Hid (∀ X rb ro rc, SliceV X (.slice (some ⟨rb, ro, none⟩) n rc) 1 IntAt y → X.cell? ⟨rb, ro + (lo + W), none⟩ = some (.int .i64 y0) ∧ X.cell? ⟨rb, ro + (lo + W - 1), none⟩ = some (.int .i64 y1)) := Lib.hid fun X rb ro rc h => by
    obtain ⟨b', o', he, hf⟩ := h.at (by intro e; rw [e] at hyl; simp at hyl; omega)
    cases he
    have k0 := hf (lo + W) (by rw [hyl]; omega)
    have k1 := hf (lo + W - 1) (by rw [hyl]; omega)
    unfold IntAt at k0 k1
    rw [Nat.mul_one] at k0 k1
    rw [hy0', hy1']
    exact ⟨k0, k1⟩
  rw [← hy0', ← hy1'] at hge
  rw [← hy0'] at hcb0
  rw [← hy1'] at hcb1
  obtain ⟨x0, hx0⟩ : ∃ t, t = x.getD (lo + W) 0 := ⟨_, rfl⟩
  obtain ⟨x1, hx1⟩ : ∃ t, t = x.getD (lo + W - 1) 0 := ⟨_, rfl⟩
  rw [← hx0] at HXC HY3 hb0 hge
  rw [← hx1] at HXC HY3 hb1 hge
  have HYL := Lib.hid hyl
  clear hy0 hy1 hy0' hy1' hx0 hx1 f0 f1 hyl hyv hy hE hR hmr hsm q1 q2
  simp only [Int.natCast_add] at HSO g5 g6 g7 g8 hp ⊢
  have q1 : IntKind.i64.wrap ((lo : Int) + W - W) = (lo : Int) := by rw [show (lo : Int) + W - W = (lo : Int) by omega]; exact IntWalk.i64_in _ (by omega)
  obtain ⟨hi, hhi⟩ : ∃ hi, hi = lo + W + W := ⟨_, rfl⟩
  rw [← hhi] at HY2 hnn
  have HHI := Lib.hid hhi
  have q2 : IntKind.i64.wrap ((lo : Int) + W + W) = (hi : Int) := by rw [show (lo : Int) + W + W = (hi : Int) by omega]; exact IntWalk.i64_in _ (by omega)
  have q3 : IntKind.i64.wrap ((lo : Int) + W - 1) = (lo : Int) + W - 1 := IntWalk.i64_in _ (by omega)
  have g9 : ((lo : Int) + W == (n : Int)) = false := by simp; omega
  have g10 : ¬ (lo : Int) + W = (n : Int) := by omega
  have t1 : ¬ (W : Int) < 1 := by omega
  have t2 : ¬ (lo : Int) < 1 := by omega
  have t3 : ¬ (n : Int) < (hi : Int) := by omega
  have t4 : ¬ (n : Int) < (lo : Int) + W := by omega
  have t5 : ¬ (lo : Int) + W < 0 := by omega
  have s1 : (0 : Int) ≤ (lo : Int) := by omega
  have s2 : (lo : Int) ≤ (n : Int) := by omega
  have s3 : (hi : Int) ≤ (n : Int) := by omega
  have s6 : (lo : Int) ≤ (c : Int) := by omega
  have s7 : (n : Int) ≤ (c : Int) := by omega
  have HLS : Hid (∀ X : World, SliceV (X.alloc (.cells #[.int .i64 0, .int .i64 ((lo : Int) + W), .int .i64 (n : Int)] 3)) (.slice (some ⟨X.heap.size, 0, none⟩) 3 3) 1 IntAt [0, (lo : Int) + W, (n : Int)]) := Lib.hid fun X => lit_slice X [0, (lo : Int) + W, (n : Int)] (by show 3 ≤ 1000000; omega)
  clear hhi
  go_enter Try.func14, Try.ntmps14
  go_upto_region 9 with (first
    | (go_at_call 23; with_reducible refine Calls.mono HWA.out ?_; rintro e w1 ⟨rfl, rfl⟩)
    | (go_at_call 50; with_reducible refine Calls.mono (HSO.out _ _ (bAlloc (Below.refl _ _) _) (HLS.out _)) ?_; rintro e w2 ⟨⟨rb, ro, rc, qa, qc, rfl, hyv⟩, hb⟩; have HYV := Lib.hid hyv; have HB2 := Lib.hid (bThen (bAlloc (Below.refl _ _) _) hb); clear hb hyv))
  generalize hW3 : World.alloc w2 _ = W3
  have HB3 := Lib.hid (show Below w.heap.size w W3 by rw [← hW3]; exact bAlloc HB2.out _)
  have HY3' := Lib.hid (show SliceV W3 (.slice (some ⟨rb, ro, none⟩) n rc) 1 IntAt y by rw [← hW3]; exact HYV.out.keep IntAt.stable (bAlloc (Below.refl _ _) _))
  clear hW3
  have HA1 : Hid (∀ X, Below W3.heap.size W3 X → Calls Try.prog 31 #[.slice (some ⟨b, o, none⟩) lo c, .slice (some ⟨rb, ro, none⟩) lo rc] X fun e w' => e = .returned (.bool true) ∧ Below X.heap.size X w') := Lib.hid fun X hB => by
    have h1 := (HV.out.keep IntAt.stable (bThen HB3.out hB)).part 0 lo c (by rw [HN.out]; omega) (by omega)
    have h2 := (HY3'.out.keep IntAt.stable hB).part 0 lo rc (by rw [HYL.out]; omega) (by obtain ⟨_, _, he, hl, -⟩ := HY3'.out; cases he; rw [HYL.out] at hl; omega)
    rw [List.drop_zero, Nat.add_zero] at h1 h2
    rw [HY1.out] at h2
    have h := Same_any _ _ _ _ X h1 h2
    rwa [decide_eq_true rfl] at h
  have HA2 : Hid (∀ X, Below W3.heap.size W3 X → Calls Try.prog 31 #[.slice (if c = hi then some ⟨b, o, none⟩ else some ⟨b, o + (hi), none⟩) (n - (hi)) (c - (hi)), .slice (if rc = hi then some ⟨rb, ro, none⟩ else some ⟨rb, ro + (hi), none⟩) (n - (hi)) (rc - (hi))] X fun e w' => e = .returned (.bool true) ∧ Below X.heap.size X w') := Lib.hid fun X hB => by
    have h1 := (HV.out.keep IntAt.stable (bThen HB3.out hB)).from (hi) (by omega)
    have h2 := (HY3'.out.keep IntAt.stable hB).from (hi) (by omega)
    rw [HY2.out] at h2
    have h := Same_any _ _ _ _ X h1 h2
    rwa [decide_eq_true rfl] at h
  have hrc : n ≤ rc := by obtain ⟨_, _, he, hl, -⟩ := HY3'.out; cases he; rw [HYL.out] at hl; omega
  have s8 : (n : Int) ≤ (rc : Int) := by omega
  have s9 : (lo : Int) ≤ (rc : Int) := by omega
  go_cut [110] from 12 (fun bq wc => bq = .bool false ∧ Hid (Below W3.heap.size W3 wc))
  case first =>
    by_cases hc : c = hi
    · rw [if_pos hc] at HA2
      have hc' := hc.symm
      subst hc'
      have hnh : n - hi = 0 := by omega
      simp only [Nat.sub_self, hnh] at HA2
      by_cases hr : rc = hi
      · rw [if_pos hr] at HA2
        have hr' := hr.symm
        subst hr'
        have hnh2 : n - hi = 0 := by omega
        simp only [Nat.sub_self, hnh2] at HA2
        (refine wp_region_below (by kernel_rfl) (by kernel_rfl) ?_; (repeat (first | go_big_quiet_step ((first | (with_reducible exact toB (fun x => HA1.out _ x.2) _) | (with_reducible exact toB (fun x => HA2.out _ x.2) _))) | quiet_step ((first | (with_reducible exact toB (fun x => HA1.out _ x.2) _) | (with_reducible exact toB (fun x => HA2.out _ x.2) _))))); (refine wpQuiet_nil ?_; intro _ hw'; obtain ⟨xq, hw''⟩ := hw'; subst hw''))
        go_wp2_with fail
        go_meet
        case rel => exact ⟨rfl, Lib.hid xq.2⟩
      · rw [if_neg hr] at HA2
        (refine wp_region_below (by kernel_rfl) (by kernel_rfl) ?_; (repeat (first | go_big_quiet_step ((first | (with_reducible exact toB (fun x => HA1.out _ x.2) _) | (with_reducible exact toB (fun x => HA2.out _ x.2) _))) | quiet_step ((first | (with_reducible exact toB (fun x => HA1.out _ x.2) _) | (with_reducible exact toB (fun x => HA2.out _ x.2) _))))); (refine wpQuiet_nil ?_; intro _ hw'; obtain ⟨xq, hw''⟩ := hw'; subst hw''))
        go_wp2_with fail
        go_meet
        case rel => exact ⟨rfl, Lib.hid xq.2⟩
    · rw [if_neg hc] at HA2
      by_cases hr : rc = hi
      · rw [if_pos hr] at HA2
        have hr' := hr.symm
        subst hr'
        have hnh2 : n - hi = 0 := by omega
        simp only [Nat.sub_self, hnh2] at HA2
        (refine wp_region_below (by kernel_rfl) (by kernel_rfl) ?_; (repeat (first | go_big_quiet_step ((first | (with_reducible exact toB (fun x => HA1.out _ x.2) _) | (with_reducible exact toB (fun x => HA2.out _ x.2) _))) | quiet_step ((first | (with_reducible exact toB (fun x => HA1.out _ x.2) _) | (with_reducible exact toB (fun x => HA2.out _ x.2) _))))); (refine wpQuiet_nil ?_; intro _ hw'; obtain ⟨xq, hw''⟩ := hw'; subst hw''))
        go_wp2_with fail
        go_meet
        case rel => exact ⟨rfl, Lib.hid xq.2⟩
      · rw [if_neg hr] at HA2
        (refine wp_region_below (by kernel_rfl) (by kernel_rfl) ?_; (repeat (first | go_big_quiet_step ((first | (with_reducible exact toB (fun x => HA1.out _ x.2) _) | (with_reducible exact toB (fun x => HA2.out _ x.2) _))) | quiet_step ((first | (with_reducible exact toB (fun x => HA1.out _ x.2) _) | (with_reducible exact toB (fun x => HA2.out _ x.2) _))))); (refine wpQuiet_nil ?_; intro _ hw'; obtain ⟨xq, hw''⟩ := hw'; subst hw''))
        go_wp2_with fail
        go_meet
        case rel => exact ⟨rfl, Lib.hid xq.2⟩
  case rest =>
    obtain ⟨rfl, HBC⟩ := hcut
    have k0 := (HXC.out wc (bThen HB3.out HBC.out)).1
    have k1 := (HXC.out wc (bThen HB3.out HBC.out)).2
    have j0 := (HYC.out wc rb ro rc (HY3'.out.keep IntAt.stable HBC.out)).1
    have j1 := (HYC.out wc rb ro rc (HY3'.out.keep IntAt.stable HBC.out)).2
    have kl := cell_lt k0
    have jl := cell_lt j0
    obtain ⟨D, hD⟩ : ∃ D, D = x0 - x1 := ⟨_, rfl⟩
    obtain ⟨E, hE⟩ : ∃ E, E = y0 - y1 := ⟨_, rfl⟩
    have d1 : IntKind.i64.wrap (x0 - x1) = D := by rw [hD]; exact IntWalk.i64_in _ (by omega)
    have d2 : IntKind.i64.wrap (y0 - y1) = E := by rw [hE]; exact IntWalk.i64_in _ (by omega)
    rw [← hD, ← hE] at hge
    have hDb : -65535 ≤ D ∧ D ≤ 65535 := by omega
    have hEb : -65535 ≤ E ∧ E ≤ 65535 := by omega
    have d3 : IntKind.i64.wrap (-D) = -D := IntWalk.i64_in _ (by omega)
    have d4 : IntKind.i64.wrap (-E) = -E := IntWalk.i64_in _ (by omega)
    have HSA : Hid (D = 0 → ∀ X, Below wc.heap.size wc X → Calls Try.prog 31 #[.slice (some ⟨b, o, none⟩) n c, .slice (some ⟨rb, ro, none⟩) n rc] X fun e w' => e = .returned (.bool true) ∧ Below X.heap.size X w') := Lib.hid fun h0 X hB => by
      have h1 := HV.out.keep IntAt.stable (bThen HB3.out (bThen HBC.out hB))
      have h2 := HY3'.out.keep IntAt.stable (bThen HBC.out hB)
      rw [HY3.out (by omega)] at h2
      have h := Same_any _ _ _ _ X h1 h2
      rwa [decide_eq_true rfl] at h
    have r1 : ((lo : Int) + W - 1).toNat = lo + W - 1 := by omega
    have r2 : ((lo : Int) + W).toNat = lo + W := by omega
    have r3 : (0 : Int) ≤ (lo : Int) + W - 1 := by omega
    have r4 : (lo : Int) + W - 1 < (n : Int) := by have := HHI.out; omega
    have r5 : (lo : Int) + W < (n : Int) := by have := HHI.out; omega
    have r6 : IntKind.i64.wrap (2 * (W : Int)) = 2 * (W : Int) := IntWalk.i64_in _ (by omega)
    have r7 : IntKind.i64.wrap (2 * (W : Int) + 1) = 2 * (W : Int) + 1 := IntWalk.i64_in _ (by omega)
    have HHG := Lib.hid hge
    have a1 : IntKind.i64.wrap (E - 1) = E - 1 := IntWalk.i64_in _ (by omega)
    have a2 : IntKind.i64.wrap (-E - 1) = -E - 1 := IntWalk.i64_in _ (by omega)
    have a3 : IntKind.i64.wrap ((2 * (W : Int) + 1) * (E - 1)) = (2 * (W : Int) + 1) * (E - 1) := IntWalk.i64_in _ (by have := mul_in (A := 1000) (B := 100000) (a := 2 * (W : Int) + 1) (b := E - 1) (by omega) (by omega) (by omega) (by omega); omega)
    have a4 : IntKind.i64.wrap ((2 * (W : Int) + 1) * (-E - 1)) = (2 * (W : Int) + 1) * (-E - 1) := IntWalk.i64_in _ (by have := mul_in (A := 1000) (B := 100000) (a := 2 * (W : Int) + 1) (b := -E - 1) (by omega) (by omega) (by omega) (by omega); omega)
    have HBL := Lib.hid (bThen HB3.out HBC.out)
    clear hD hE hge
    go_wp2_with fail
    refine wp_opaque fun Q2 hQ2 => ?_
    (refine wp_region_below (by kernel_rfl) (by kernel_rfl) ?_; (repeat (first | go_big_quiet_step (fail) | quiet_step (fail))); (refine wpQuiet_nil ?_; intro _ hw'; obtain ⟨xq, hw''⟩ := hw'; subst hw''))
    refine hQ2 _ _ _ ?_
    have HBX := Lib.hid xq.2
    generalize xq.val = wx at HBX ⊢
    clear k0 k1 j0 j1 kl jl
    by_cases hD0 : D < -D
    · by_cases hE0 : E < -E
      · have hle := HHG.out
        first
          | rw [show max D (-D) = D by omega] at hle
          | rw [show max D (-D) = -D by omega] at hle
        first
          | rw [show max E (-E) = E by omega] at hle
          | rw [show max E (-E) = -E by omega] at hle
        by_cases hp : D = 0
        · have hp1 : ¬ 0 < D := by omega
          have hp2 : ¬ 0 < -D := by omega
          have HSB := Lib.hid (HSA.out hp)
          clear hp
          go_wp2_with (first
            | (go_at_call 31; with_reducible refine Calls.mono (HSB.out _ HBX.out) ?_; rintro e w3 ⟨rfl, hb⟩; have HB3 := Lib.hid (bThen HBX.out hb); clear hb)
            | (go_at_call 18; with_reducible refine Calls.mono (HK.out _) ?_; rintro e wk ⟨rfl, hb⟩; have HBK := Lib.hid (bThen HB3.out hb); clear hb))
          all_goals first
            | (exfalso; omega)
            | (go_ret; exact ⟨rfl, bThen HBL.out HBK.out⟩)
        · first
            | (have hp1 : 0 < D := by omega
               clear hp
               go_wp2_with (go_at_call 18; with_reducible refine Calls.mono (HK.out _) ?_; rintro e wk ⟨rfl, hb⟩; have HBK := Lib.hid (bThen HBX.out hb); clear hb)
               all_goals first
                 | (exfalso; omega)
                 | (go_ret; exact ⟨rfl, bThen HBL.out HBK.out⟩)
               done)
            | (have hp1 : 0 < -D := by omega
               clear hp
               go_wp2_with (go_at_call 18; with_reducible refine Calls.mono (HK.out _) ?_; rintro e wk ⟨rfl, hb⟩; have HBK := Lib.hid (bThen HBX.out hb); clear hb)
               all_goals first
                 | (exfalso; omega)
                 | (go_ret; exact ⟨rfl, bThen HBL.out HBK.out⟩)
               done)
            | fail
      · have hle := HHG.out
        first
          | rw [show max D (-D) = D by omega] at hle
          | rw [show max D (-D) = -D by omega] at hle
        first
          | rw [show max E (-E) = E by omega] at hle
          | rw [show max E (-E) = -E by omega] at hle
        by_cases hp : D = 0
        · have hp1 : ¬ 0 < D := by omega
          have hp2 : ¬ 0 < -D := by omega
          have HSB := Lib.hid (HSA.out hp)
          clear hp
          go_wp2_with (first
            | (go_at_call 31; with_reducible refine Calls.mono (HSB.out _ HBX.out) ?_; rintro e w3 ⟨rfl, hb⟩; have HB3 := Lib.hid (bThen HBX.out hb); clear hb)
            | (go_at_call 18; with_reducible refine Calls.mono (HK.out _) ?_; rintro e wk ⟨rfl, hb⟩; have HBK := Lib.hid (bThen HB3.out hb); clear hb))
          all_goals first
            | (exfalso; omega)
            | (go_ret; exact ⟨rfl, bThen HBL.out HBK.out⟩)
        · first
            | (have hp1 : 0 < D := by omega
               clear hp
               go_wp2_with (go_at_call 18; with_reducible refine Calls.mono (HK.out _) ?_; rintro e wk ⟨rfl, hb⟩; have HBK := Lib.hid (bThen HBX.out hb); clear hb)
               all_goals first
                 | (exfalso; omega)
                 | (go_ret; exact ⟨rfl, bThen HBL.out HBK.out⟩)
               done)
            | (have hp1 : 0 < -D := by omega
               clear hp
               go_wp2_with (go_at_call 18; with_reducible refine Calls.mono (HK.out _) ?_; rintro e wk ⟨rfl, hb⟩; have HBK := Lib.hid (bThen HBX.out hb); clear hb)
               all_goals first
                 | (exfalso; omega)
                 | (go_ret; exact ⟨rfl, bThen HBL.out HBK.out⟩)
               done)
            | fail
    · by_cases hE0 : E < -E
      · have hle := HHG.out
        first
          | rw [show max D (-D) = D by omega] at hle
          | rw [show max D (-D) = -D by omega] at hle
        first
          | rw [show max E (-E) = E by omega] at hle
          | rw [show max E (-E) = -E by omega] at hle
        by_cases hp : D = 0
        · have hp1 : ¬ 0 < D := by omega
          have hp2 : ¬ 0 < -D := by omega
          have HSB := Lib.hid (HSA.out hp)
          clear hp
          go_wp2_with (first
            | (go_at_call 31; with_reducible refine Calls.mono (HSB.out _ HBX.out) ?_; rintro e w3 ⟨rfl, hb⟩; have HB3 := Lib.hid (bThen HBX.out hb); clear hb)
            | (go_at_call 18; with_reducible refine Calls.mono (HK.out _) ?_; rintro e wk ⟨rfl, hb⟩; have HBK := Lib.hid (bThen HB3.out hb); clear hb))
          all_goals first
            | (exfalso; omega)
            | (go_ret; exact ⟨rfl, bThen HBL.out HBK.out⟩)
        · first
            | (have hp1 : 0 < D := by omega
               clear hp
               go_wp2_with (go_at_call 18; with_reducible refine Calls.mono (HK.out _) ?_; rintro e wk ⟨rfl, hb⟩; have HBK := Lib.hid (bThen HBX.out hb); clear hb)
               all_goals first
                 | (exfalso; omega)
                 | (go_ret; exact ⟨rfl, bThen HBL.out HBK.out⟩)
               done)
            | (have hp1 : 0 < -D := by omega
               clear hp
               go_wp2_with (go_at_call 18; with_reducible refine Calls.mono (HK.out _) ?_; rintro e wk ⟨rfl, hb⟩; have HBK := Lib.hid (bThen HBX.out hb); clear hb)
               all_goals first
                 | (exfalso; omega)
                 | (go_ret; exact ⟨rfl, bThen HBL.out HBK.out⟩)
               done)
            | fail
      · have hle := HHG.out
        first
          | rw [show max D (-D) = D by omega] at hle
          | rw [show max D (-D) = -D by omega] at hle
        first
          | rw [show max E (-E) = E by omega] at hle
          | rw [show max E (-E) = -E by omega] at hle
        by_cases hp : D = 0
        · have hp1 : ¬ 0 < D := by omega
          have hp2 : ¬ 0 < -D := by omega
          have HSB := Lib.hid (HSA.out hp)
          clear hp
          go_wp2_with (first
            | (go_at_call 31; with_reducible refine Calls.mono (HSB.out _ HBX.out) ?_; rintro e w3 ⟨rfl, hb⟩; have HB3 := Lib.hid (bThen HBX.out hb); clear hb)
            | (go_at_call 18; with_reducible refine Calls.mono (HK.out _) ?_; rintro e wk ⟨rfl, hb⟩; have HBK := Lib.hid (bThen HB3.out hb); clear hb))
          all_goals first
            | (exfalso; omega)
            | (go_ret; exact ⟨rfl, bThen HBL.out HBK.out⟩)
        · first
            | (have hp1 : 0 < D := by omega
               clear hp
               go_wp2_with (go_at_call 18; with_reducible refine Calls.mono (HK.out _) ?_; rintro e wk ⟨rfl, hb⟩; have HBK := Lib.hid (bThen HBX.out hb); clear hb)
               all_goals first
                 | (exfalso; omega)
                 | (go_ret; exact ⟨rfl, bThen HBL.out HBK.out⟩)
               done)
            | (have hp1 : 0 < -D := by omega
               clear hp
               go_wp2_with (go_at_call 18; with_reducible refine Calls.mono (HK.out _) ?_; rintro e wk ⟨rfl, hb⟩; have HBK := Lib.hid (bThen HBX.out hb); clear hb)
               all_goals first
                 | (exfalso; omega)
                 | (go_ret; exact ⟨rfl, bThen HBL.out HBK.out⟩)
               done)
            | fail
end Go.Proofs.Ytbeeddenidfenaa
