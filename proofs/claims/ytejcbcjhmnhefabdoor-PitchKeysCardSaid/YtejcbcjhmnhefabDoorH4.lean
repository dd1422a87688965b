/- Contracts: the best contour. -/
import Derived.Test.YtejcbcjhmnhefabDoorH3
import Derived.Test.YtejcbcjhmnhefabDoorE2
set_option linter.unusedSimpArgs false
set_option linter.unusedVariables false
namespace Go.Proofs.YtejcbcjhmnhefabDoor
open Go.RowKit

def bestL (p : Con) : List Int := (List.range p.frames.toNat).map fun i => p.low + (bestP (tgtC p.low p.targets) p.slope.toNat p.smooth (p.high - p.low + 1).toNat p.frames.toNat i : Nat)
def stepC (T : Nat → Nat → Int) (s : Nat) (sm : Int) (Wd F m : Nat) (j : Nat) : Int := if m ≤ j / Wd then rowCost T s sm Wd F (j / Wd) (j % Wd) else T (j / Wd) (j % Wd)
def stepN (T : Nat → Nat → Int) (s : Nat) (sm : Int) (Wd F m : Nat) (j : Nat) : Int := if m ≤ j / Wd then (rowNext T s sm Wd F (j / Wd) (j % Wd) : Nat) else 0
def BestPost (w : World) (p : Con) (e : Ending) (w' : World) : Prop := ∃ v, e = .returned v ∧ SliceV w' v 1 IntAt (bestL p) ∧ Below w.heap.size w w'
theorem divmod {q W k v : Nat} (hq : q = k * W) (hv : v < W) : (q + v) / W = k ∧ (q + v) % W = v := by
  rw [hq]
  exact ⟨by rw [Nat.mul_comm, Nat.mul_add_div (by omega), Nat.div_eq_of_lt hv, Nat.add_zero], by rw [Nat.mul_comm, Nat.mul_add_mod, Nat.mod_eq_of_lt hv]⟩
theorem div_of {q W k j : Nat} (hq : q = k * W) (hW : 0 < W) : (q ≤ j ∧ j < q + W) ↔ j / W = k := by
  rw [hq]
  constructor
  · rintro ⟨h1, h2⟩
    have h3 : j / W < k + 1 := (Nat.div_lt_iff_lt_mul hW).2 (by rw [Nat.add_mul, Nat.one_mul]; omega)
    have h4 : k ≤ j / W := (Nat.le_div_iff_mul_le hW).2 h1
    omega
  · rintro rfl
    have h3 := Nat.div_add_mod j W
    have h4 := Nat.mod_lt j hW
    rw [Nat.mul_comm] at h3
    omega
theorem stepC_next {T : Nat → Nat → Int} {s : Nat} {sm : Int} {Wd F k q j : Nat} (hq : q = k * Wd) (hW : 0 < Wd) (hk : k + 1 < F) :
    (if q ≤ j ∧ j < q + Wd then stepC T s sm Wd F (k + 1) j + restC (fun u => stepC T s sm Wd F (k + 1) (q + Wd + u)) s sm Wd (j - q) else stepC T s sm Wd F (k + 1) j) = stepC T s sm Wd F k j := by
  by_cases h : q ≤ j ∧ j < q + Wd
  · rw [if_pos h]
    have h1 := (div_of hq hW).1 h
    have h2 : j % Wd = j - q := by
      have h3 := Nat.div_add_mod j Wd
      rw [h1, Nat.mul_comm, ← hq] at h3; omega
    rw [show stepC T s sm Wd F k j = rowCost T s sm Wd F k (j - q) by unfold stepC; rw [h1, h2, if_pos (Nat.le_refl _)], show stepC T s sm Wd F (k + 1) j = T k (j - q) by unfold stepC; rw [h1, h2, if_neg (by omega)], rowCost_step hk]
    congr 1
    refine restC_congr (fun u hu => ?_) (by omega)
    have h3 := divmod (q := q + Wd) (k := k + 1) (v := u) (by rw [hq, Nat.add_mul, Nat.one_mul]) hu
    unfold stepC
    rw [h3.1, h3.2, if_pos (Nat.le_refl _)]
  · rw [if_neg h]
    have h1 : j / Wd ≠ k := fun e => h ((div_of hq hW).2 e)
    unfold stepC
    by_cases h2 : k + 1 ≤ j / Wd
    · rw [if_pos h2, if_pos (by omega)]
    · rw [if_neg h2, if_neg (by omega)]
theorem stepN_next {T : Nat → Nat → Int} {s : Nat} {sm : Int} {Wd F k q j : Nat} (hq : q = k * Wd) (hW : 0 < Wd) (hk : k + 1 < F) :
    (if q ≤ j ∧ j < q + Wd then (front (fun u => stepC T s sm Wd F (k + 1) (q + Wd + u)) s sm Wd (j - q + 1) : Int) else stepN T s sm Wd F (k + 1) j) = stepN T s sm Wd F k j := by
  by_cases h : q ≤ j ∧ j < q + Wd
  · rw [if_pos h]
    have h1 := (div_of hq hW).1 h
    have h2 : j % Wd = j - q := by
      have h3 := Nat.div_add_mod j Wd
      rw [h1, Nat.mul_comm, ← hq] at h3; omega
    unfold stepN
    rw [h1, h2, if_pos (Nat.le_refl _)]
    unfold rowNext
    rw [if_pos hk]
    rw [front_congr (A' := rowCost T s sm Wd F (k + 1)) (fun u hu => ?_) _ (by omega)]
    have h3 := divmod (q := q + Wd) (k := k + 1) (v := u) (by rw [hq, Nat.add_mul, Nat.one_mul]) hu
    unfold stepC
    rw [h3.1, h3.2, if_pos (Nat.le_refl _)]
  · rw [if_neg h]
    have h1 : j / Wd ≠ k := fun e => h ((div_of hq hW).2 e)
    unfold stepN
    by_cases h2 : k + 1 ≤ j / Wd
    · rw [if_pos h2, if_pos (by omega)]
    · rw [if_neg h2, if_neg (by omega)]
theorem Kp2.mono {B B' a b : Nat} {w w' : World} (h : Kp2 B' a b w w') (hB : B ≤ B') : Kp2 B a b w w' := ⟨h.os, h.tape, h.output, h.size, fun k h1 h2 h3 => h.block k (by omega) h2 h3⟩
theorem stepC_in {lo : Int} {l : List Tgt} {F s Wd m : Nat} {sm : Int} (hlo : -100000 ≤ lo ∧ lo ≤ 100000) (h : ∀ x ∈ l, tgtOk F x = true) (hl : l.length ≤ 200) (hF : F ≤ 200) (hW : Wd ≤ 401) (hW0 : 0 < Wd) (hs : 0 ≤ sm ∧ sm ≤ 1000) {j : Nat} (hj : j < F * Wd) :
    0 ≤ stepC (tgtC lo l) s sm Wd F m j ∧ stepC (tgtC lo l) s sm Wd F m j ≤ 1000000000000000000 := by
  have h1 : j / Wd < F := (Nat.div_lt_iff_lt_mul hW0).2 hj
  have h2 := Nat.mod_lt j hW0
  unfold stepC
  split
  · have := rowCost_in (s := s) hlo h hl hF hW hs h1 h2; omega
  · have := tgtC_in (t := j / Wd) hlo (show j % Wd ≤ 400 by omega) (show (F : Int) ≤ 1000 by omega) h hl; omega

set_option maxRecDepth 20000 in
set_option maxHeartbeats 16000000 in
theorem best_any' (F Wd M s : Nat) (lo hi sm : Int) (ts : List Tgt) (tv : Value) (w : World) (hF : 1 ≤ F) (hF2 : F ≤ 200) (hW1 : 1 ≤ Wd) (hW2 : Wd ≤ 401) (hwd : hi - lo + 1 = (Wd : Int)) (hM : F * Wd = M) (hlo : -100000 ≤ lo ∧ lo ≤ 100000) (hs : s ≤ 400) (hsm : 0 ≤ sm ∧ sm ≤ 1000)
    (hts : ts.all (tgtOk F) = true) (htl : ts.length ≤ 200) (hv : SliceV w tv 3 TgtAt ts) :
    Calls Tryd.prog 22 #[.agg #[.int .i64 (F : Int), .int .i64 lo, .int .i64 hi, .int .i64 s, .int .i64 sm, tv]] w
      fun e w' => ∃ g : Nat, e = .returned (.slice (some ⟨g, 0, none⟩) F F) ∧ w'.rowIs g 3 F (fun i => .int .i64 (lo + (bestP (tgtC lo ts) s sm Wd F i : Nat))) ∧ Below w.heap.size w w' := by
  have HV := Lib.hid hv
  obtain ⟨ta, tc, rfl, hl, hx⟩ := hv
  have hM2 : M ≤ 80200 := by
    rw [← hM]; exact Nat.mul_le_mul hF2 hW2
  have hall : ∀ x ∈ ts, tgtOk F x = true := List.all_eq_true.1 hts
  have HST : Hid (∀ m j, j < M → 0 ≤ stepC (tgtC lo ts) s sm Wd F m j ∧ stepC (tgtC lo ts) s sm Wd F m j ≤ 1000000000000000000) := Lib.hid fun m j hj => stepC_in hlo hall htl hF2 hW2 (by omega) hsm (by rw [hM]; exact hj)
  have HM := Lib.hid hM
  have HTS := Lib.hid hts
  clear hM hx hts hall
  obtain ⟨b0, hb0⟩ : ∃ b0, b0 = w.heap.size := ⟨_, rfl⟩
  go_enter Tryd.func22, Tryd.ntmps22
  go_wp2_with fail
  rw [← hb0]
  generalize hW1' : World.alloc w _ = W1
  have hB1 : Below w.heap.size w W1 := by rw [← hW1']; exact bAlloc (Below.refl _ _) _
  have hs1 : b0 + 1 = W1.heap.size := by rw [← hW1', World.size_alloc, hb0]
  have hp : ∀ j v, (#[Value.int .i64 (F : Int), .int .i64 lo, .int .i64 hi, .int .i64 s, .int .i64 sm, .slice ta ts.length tc] : Array Value)[j]? = some v → W1.cell? ⟨b0, j, none⟩ = some v := fun j v h => by
    rw [← hW1', hb0]; exact cell_new h
  have HP : Hid (∀ j v, (#[Value.int .i64 (F : Int), .int .i64 lo, .int .i64 hi, .int .i64 s, .int .i64 sm, .slice ta ts.length tc] : Array Value)[j]? = some v → W1.cell? ⟨b0, j, none⟩ = some v) := Lib.hid hp
  have HB1 := Lib.hid hB1
  have HB0 := Lib.hid hb0
  have HS1 := Lib.hid hs1
  clear hW1' hB1 hb0 hs1 hp
  have H77 := Lib.hid (newRows_any F Wd M lo hi s sm ts (.slice ta ts.length tc) W1 hF hF2 hW1 hW2 hwd HM.out hlo HTS.out htl (HV.out.keep TgtAt.stable HB1.out))
  go_at_call 40
  refine H77.out.mono ?_
  rintro e w2 ⟨gr, gc, gn, rfl, hrows, hne, hge, hb2⟩
  have hk0 := keep hb2 (HP.out 0 _ rfl)
  have hk1 := keep hb2 (HP.out 1 _ rfl)
  have hk2 := keep hb2 (HP.out 2 _ rfl)
  have hk3 := keep hb2 (HP.out 3 _ rfl)
  have hk4 := keep hb2 (HP.out 4 _ rfl)
  have hk5 := keep hb2 (HP.out 5 _ rfl)
  obtain ⟨B, hB⟩ : ∃ B, B = w2.heap.size := ⟨_, rfl⟩
  have hbB : b0 < B ∧ gr < B ∧ gc < B ∧ gn < B := by
    have h1 := cell_lt hk0; have h2 := hrows.rows.lt; have h3 := hrows.costs.lt; have h4 := hrows.next.lt; omega
  have hbn : b0 ≠ gr ∧ b0 ≠ gc ∧ b0 ≠ gn := by have := HS1.out; omega
  have HPB : Hid (∀ W', Kp2 B gc gn w2 W' → W'.cell? ⟨b0, 0, none⟩ = some (.int .i64 F) ∧ W'.cell? ⟨b0, 1, none⟩ = some (.int .i64 lo) ∧ W'.cell? ⟨b0, 2, none⟩ = some (.int .i64 hi) ∧ W'.cell? ⟨b0, 3, none⟩ = some (.int .i64 s) ∧ W'.cell? ⟨b0, 4, none⟩ = some (.int .i64 sm) ∧ W'.cell? ⟨b0, 5, none⟩ = some (.slice ta ts.length tc) ∧ W'.rowIs gr 89 (F * 2) (rowF gc gn Wd)) :=
    Lib.hid fun W' hK => ⟨(hK.cell hbB.1 hbn.2.1 hbn.2.2).trans hk0, (hK.cell hbB.1 hbn.2.1 hbn.2.2).trans hk1, (hK.cell hbB.1 hbn.2.1 hbn.2.2).trans hk2, (hK.cell hbB.1 hbn.2.1 hbn.2.2).trans hk3, (hK.cell hbB.1 hbn.2.1 hbn.2.2).trans hk4, (hK.cell hbB.1 hbn.2.1 hbn.2.2).trans hk5, hrows.rows.of_block (hK.block gr hbB.2.1 hne.2.1 hne.2.2)⟩
  have HC0 : Hid (w2.rowIs gc 3 M (fun j => .int .i64 (stepC (tgtC lo ts) s sm Wd F (F - 1) j))) := Lib.hid (by
    rw [← HM.out]
    refine hrows.costs.congr fun j hj => ?_
    have h1 : j / Wd < F := (Nat.div_lt_iff_lt_mul (by omega)).2 hj
    unfold stepC
    by_cases h : F - 1 ≤ j / Wd
    · rw [if_pos h, show j / Wd = F - 1 by omega, rowCost_last]
    · rw [if_neg h])
  have HN0 : Hid (w2.rowIs gn 3 M (fun j => .int .i64 (stepN (tgtC lo ts) s sm Wd F (F - 1) j))) := Lib.hid (by
    rw [← HM.out]
    refine hrows.next.congr fun j hj => ?_
    have h1 : j / Wd < F := (Nat.div_lt_iff_lt_mul (by omega)).2 hj
    unfold stepN rowNext
    by_cases h : F - 1 ≤ j / Wd
    · rw [if_pos h, if_neg (by omega)]; rfl
    · rw [if_neg h])
  have HB := Lib.hid hB
  have HB2 := Lib.hid hb2
  have hcn := hne.1
  have hl0 := cell_lt hk0
  have HGE := Lib.hid hge
  clear hk1 hk2 hk3 hk4 hk5 hb2 hrows hB hge
  go_wp2_with fail
  rw [show (F : Int) - 2 = ((F - 1 : Nat) : Int) - 1 by omega]
  clear hk0 hl0
  go_loopw [4] (fun i wr => ∃ m : Nat, m ≤ F - 1 ∧ i = .int .i64 ((m : Int) - 1) ∧ Hid (wr.rowIs gc 3 M (fun j => .int .i64 (stepC (tgtC lo ts) s sm Wd F m j))) ∧ Hid (wr.rowIs gn 3 M (fun j => .int .i64 (stepN (tgtC lo ts) s sm Wd F m j))) ∧ Hid (Kp2 B gc gn w2 wr)) (fun i _ => (intOf i + 1).toNat)
  case atStart => exact ⟨F - 1, Nat.le_refl _, rfl, HC0, HN0, Lib.hid (Kp2.refl _ _ _ _)⟩
  case round =>
    obtain ⟨m, hm, rfl, HC, HN, HK⟩ := hrel
    by_cases hm0 : m = 0
    · subst hm0
      rw [show ((0 : Nat) : Int) - 1 = -1 by omega]
      obtain ⟨p0, p1, -, -, -, -, hrr⟩ := HPB.out wr HK.out
      have HPW := Lib.hid (And.intro p0 p1)
      have HRR := Lib.hid hrr
      have HFC : Hid (∀ v, v < Wd → wr.cell? ⟨gc, v, none⟩ = some (.int .i64 (rowCost (tgtC lo ts) s sm Wd F 0 v))) := Lib.hid fun v hv => by
        have h1 : Wd ≤ M := by rw [← HM.out]; exact Nat.le_mul_of_pos_left _ (by omega)
        rw [HC.out.cell (by omega)]
        unfold stepC
        rw [if_pos (Nat.zero_le _), Nat.div_eq_of_lt hv, Nat.mod_eq_of_lt hv]
      have HPI : Hid (∀ i, bestP (tgtC lo ts) s sm Wd F (i + 1) = rowNext (tgtC lo ts) s sm Wd F i (bestP (tgtC lo ts) s sm Wd F i)) := Lib.hid fun i => rfl
      have HP0 : Hid (bestP (tgtC lo ts) s sm Wd F 0 = argM (rowCost (tgtC lo ts) s sm Wd F 0) Wd) := Lib.hid rfl
      have HPL : Hid (∀ i, bestP (tgtC lo ts) s sm Wd F i < Wd) := Lib.hid fun i => bestP_lt (by omega) i
      have HNC : Hid (∀ i, i < F → wr.cell? ⟨gn, i * Wd + bestP (tgtC lo ts) s sm Wd F i, none⟩ = some (.int .i64 (bestP (tgtC lo ts) s sm Wd F (i + 1) : Nat))) := Lib.hid fun i hi => by
        have h2 := HPL.out i
        have h1 : i * Wd + Wd ≤ M := by
          rw [← HM.out, show i * Wd + Wd = (i + 1) * Wd by rw [Nat.add_mul, Nat.one_mul]]
          exact Nat.mul_le_mul_right _ hi
        rw [HN.out.cell (by omega)]
        unfold stepN
        have h3 := divmod (q := i * Wd) (k := i) rfl h2
        rw [if_pos (Nat.zero_le _), h3.1, h3.2, HPI.out]
      generalize hfe : rowCost (tgtC lo ts) s sm Wd F 0 = fc at *
      clear hfe
      generalize hpe : bestP (tgtC lo ts) s sm Wd F = pth at *
      have HPE := Lib.hid hpe
      clear hpe
      have e0 := hrr.cell (i := 0) (by omega)
      rw [show rowF gc gn Wd 0 = .slice (some ⟨gc, 0, none⟩) Wd Wd by simp [rowF]] at e0
      have E0 := Lib.hid e0
      have hlr := hrr.lt
      have i0 : (0 : Int) < (F : Int) := by omega
      clear hrr p0 p1 HC HN HPB
      go_wp2_with fail
      clear e0 hlr
      go_loop [5, 36] (fun x i => ∃ v : Nat, v ≤ Wd ∧ i = .int .i64 v ∧ x = .int .i64 (argM fc v : Nat)) (fun _ i => Wd - (intOf i).toNat)
      case atStart => exact ⟨0, Nat.zero_le _, rfl, rfl⟩
      case round =>
        obtain ⟨v, hv, rfl, rfl⟩ := hrel
        have hal := argM_le fc v
        by_cases hlt : v < Wd
        · have HA1 : Hid (argM fc (v + 1) = if fc v < fc (argM fc v) then v else argM fc v) := Lib.hid rfl
          have e0 := E0.out
          have c0 := HFC.out v hlt
          have c1 := HFC.out (argM fc v) (by omega)
          have hal2 : (argM fc v : Int) < (Wd : Int) := by omega
          have hlt2 : (v : Int) < (Wd : Int) := by omega
          generalize argM fc v = av at *
          have hlr := cell_lt e0
          have hlc := cell_lt c0
          by_cases hc : fc v < fc av
          · have hd : decide (fc v < fc av) = true := decide_eq_true hc
            go_wp2_with fail
            go_round
            case rel => exact ⟨v + 1, by omega, by go_num, by rw [HA1.out, if_pos hc]⟩
            case measure => simp [intOf]; omega
          · have hd : decide (fc v < fc av) = false := decide_eq_false hc
            go_wp2_with fail
            go_round
            case rel => exact ⟨v + 1, by omega, by go_num, by rw [HA1.out, if_neg hc]⟩
            case measure => simp [intOf]; omega
        · obtain rfl : v = Wd := by omega
          rw [← HP0.out]
          obtain ⟨p0, p1⟩ := HPW.out
          have hk34 := make34 F (by omega)
          have hlp := cell_lt p0
          go_wp2_with fail
          generalize hW4 : World.alloc wr _ = W4
          obtain ⟨g, hg⟩ : ∃ g, g = wr.heap.size := ⟨_, rfl⟩
          rw [← hg]
          have hB4 : Below wr.heap.size wr W4 := by rw [← hW4]; exact bAlloc (Below.refl _ _) _
          have hr4 : W4.rowIs g 3 F (fun _ => .int .i64 0) := by rw [← hW4, hg]; exact World.rowIs_made wr _ F 3
          have hlcB : gr < wr.heap.size ∧ gn < wr.heap.size ∧ b0 < wr.heap.size := by have := HRR.out.lt; have := HK.out.size; have := HB.out; omega
          have HR4 := Lib.hid (HRR.out.of_block (hB4.block gr hlcB.1))
          have HN4 : Hid (∀ i, i < F → W4.cell? ⟨gn, i * v + pth i, none⟩ = some (.int .i64 (pth (i + 1) : Nat))) := Lib.hid fun i hi => keep hB4 (HNC.out i hi)
          have HP4 := Lib.hid (keep hB4 p1)
          have HB4 := Lib.hid hB4
          obtain ⟨B4, hB4e⟩ : ∃ B4, B4 = W4.heap.size := ⟨_, rfl⟩
          have hb4 : g < B4 ∧ gr < g ∧ gn < g ∧ b0 < g ∧ gc < g := by have := hr4.lt; have := HK.out.size; have := HB.out; omega
          have HB4E := Lib.hid hB4e
          have HG := Lib.hid hg
          have HZ : Hid (W4.rowIs g 3 F (fun j => .int .i64 (if j < 0 then lo + (pth j : Nat) else 0))) := Lib.hid (hr4.congr fun j _ => by rw [if_neg (by omega)])
          clear hW4 hB4 hr4 hg hB4e p0 p1 hk34 hlp HFC HNC HRR HPI HP0
          obtain ⟨wv, hwv⟩ : ∃ wv, wv = wr := ⟨_, rfl⟩
          subst hwv
          go_loopw [5, 57] (fun x i wq => ∃ k : Nat, k ≤ F ∧ i = .int .i64 k ∧ x = .int .i64 (pth k : Nat) ∧ Hid (wq.rowIs g 3 F (fun j => .int .i64 (if j < k then lo + (pth j : Nat) else 0))) ∧ Hid (Kp2 B4 g g W4 wq)) (fun _ i _ => F - (intOf i).toNat)
          case atStart => exact ⟨0, Nat.zero_le _, rfl, rfl, HZ, Lib.hid (Kp2.refl _ _ _ _)⟩
          case round =>
            obtain ⟨k, hk, rfl, rfl, HG5, HK5⟩ := hrel
            by_cases hlt : k < F
            · have hr5 := HR4.out.of_block (HK5.out.block gr (by omega) (by omega) (by omega))
              have e0 := hr5.cell (i := k * 2) (by omega)
              rw [show rowF gc gn v (k * 2) = .slice (some ⟨gc, k * v, none⟩) v v by rw [rowF, if_pos (by omega), show k * 2 / 2 = k by omega]] at e0
              have e1 := hr5.cell (i := k * 2 + 1) (by omega)
              rw [show rowF gc gn v (k * 2 + 1) = .slice (some ⟨gn, k * v, none⟩) v v by rw [rowF, if_neg (by omega), show (k * 2 + 1) / 2 = k by omega]] at e1
              have c1 := (HK5.out.cell (o := k * v + pth k) (c := gn) (by omega) (by omega) (by omega)).trans (HN4.out k hlt)
              have a1 := (HK5.out.cell (o := 1) (c := b0) (by omega) (by omega) (by omega)).trans HP4.out
              have c2 := HG5.out.cell (i := k) hlt
              have z2 := HG5.out.frozen k
              have hpl := HPL.out k
              have hpl2 := HPL.out (k + 1)
              have HGN : Hid (∀ W' : World, W'.rowIs g 3 F (fun j => .int .i64 (if j < k then lo + (pth j : Nat) else 0)) → (W'.setCell ⟨g, k, none⟩ (.int .i64 (lo + (pth k : Nat)))).rowIs g 3 F (fun j => .int .i64 (if j < k + 1 then lo + (pth j : Nat) else 0))) := Lib.hid fun W' h => (h.set k _).congr fun j _ => by
                by_cases h1 : j = k
                · subst h1; rw [if_pos rfl, if_pos (by omega)]
                · rw [if_neg h1]
                  by_cases h2 : j < k
                  · rw [if_pos h2, if_pos (by omega)]
                  · rw [if_neg h2, if_neg (by omega)]
              generalize pth k = pk at *
              have hsz : B4 ≤ wr.heap.size := by have := HK5.out.size; have := HB4E.out; omega
              have hl1 := cell_lt e0
              have hl2 := cell_lt c1
              have hl3 := cell_lt a1
              have hl4 := cell_lt c2
              have i2 : (pk : Int) < (v : Int) := by omega
              have i3 : (k : Int) < (F : Int) := by omega
              clear hr5
              go_wp2_with fail
              have hrn := (HGN.out _ HG5.out).alloc (.cells #[Value.slice (some ⟨gc, k * v, none⟩) v v, .slice (some ⟨gn, k * v, none⟩) v v] 89)
              have hkn : Kp2 B4 g g W4 ((wr.setCell ⟨g, k, none⟩ (.int .i64 (lo + (pk : Nat)))).alloc (.cells #[Value.slice (some ⟨gc, k * v, none⟩) v v, .slice (some ⟨gn, k * v, none⟩) v v] 89)) :=
                (HK5.out.trans (Kp2.setCell (.inl rfl))).trans (Kp2.of_below ((bAlloc (Below.refl _ _) _).mono (by simp; omega)))
              go_roundw
              case rel =>
                first
                  | exact ⟨k + 1, by omega, by go_num, rfl, Lib.hid hrn, Lib.hid hkn⟩
                  | ((repeat apply Exists.intro); refine ⟨?_, rfl⟩; exact ⟨k + 1, by omega, by go_num, rfl, Lib.hid hrn, Lib.hid hkn⟩)
              case measure => simp [intOf]; omega
            · obtain rfl : k = F := by omega
              have hfin : Below w.heap.size w wr := by
                have h1 := HB1.out.size
                have h2 := HB2.out.size
                have h3 := HGE.out
                have h4 := HB.out
                have h5 := HB4E.out
                have h6 := HG.out
                have hw2 : Below w.heap.size w w2 := bThen HB1.out HB2.out
                have hwr : Below w.heap.size w wv := hw2.trans ⟨HK.out.os, HK.out.tape, HK.out.output, HK.out.size, fun j hj => HK.out.block j (by omega) (by omega) (by omega)⟩
                have h7 := hwr.size
                exact (bThen hwr HB4.out).trans ⟨HK5.out.os, HK5.out.tape, HK5.out.output, HK5.out.size, fun j hj => HK5.out.block j (by omega) (by omega) (by omega)⟩
              have hgf : wr.rowIs g 3 k (fun j => .int .i64 (lo + (pth j : Nat))) := HG5.out.congr fun j hj => by rw [if_pos hj]
              have HF1 := Lib.hid hfin
              have HF2 := Lib.hid hgf
              clear hfin hgf
              go_wp2_with fail
              go_ret
              exact ⟨g, rfl, (by have h := HF2.out; rw [← HPE.out] at h; exact h), HF1.out⟩
    · obtain ⟨k, rfl⟩ : ∃ k, m = k + 1 := ⟨m - 1, by omega⟩
      rw [show ((k + 1 : Nat) : Int) - 1 = (k : Int) by omega]
      obtain ⟨q, hq⟩ : ∃ q, q = k * Wd := ⟨_, rfl⟩
      have hqM : q + Wd + Wd ≤ M := by
        rw [hq, ← HM.out, show k * Wd + Wd + Wd = (k + 2) * Wd by rw [Nat.add_mul]; omega]
        exact Nat.mul_le_mul_right _ (by omega)
      obtain ⟨p0, p1, p2, p3, p4, p5, hrr⟩ := HPB.out wr HK.out
      have e0 := hrr.cell (i := k * 2) (by omega)
      rw [show rowF gc gn Wd (k * 2) = .slice (some ⟨gc, q, none⟩) Wd Wd by rw [rowF, if_pos (by omega), show k * 2 / 2 = k by omega, ← hq]] at e0
      have e1 := hrr.cell (i := k * 2 + 1) (by omega)
      rw [show rowF gc gn Wd (k * 2 + 1) = .slice (some ⟨gn, q, none⟩) Wd Wd by rw [rowF, if_neg (by omega), show (k * 2 + 1) / 2 = k by omega, ← hq]] at e1
      have hq2 : (k + 1) * Wd = q + Wd := by rw [hq, Nat.add_mul, Nat.one_mul]
      have e2 := hrr.cell (i := (k + 1) * 2) (by omega)
      rw [show rowF gc gn Wd ((k + 1) * 2) = .slice (some ⟨gc, q + Wd, none⟩) Wd Wd by rw [rowF, if_pos (by omega), show (k + 1) * 2 / 2 = k + 1 by omega, hq2]] at e2
      have e3 := hrr.cell (i := (k + 1) * 2 + 1) (by omega)
      rw [show rowF gc gn Wd ((k + 1) * 2 + 1) = .slice (some ⟨gn, q + Wd, none⟩) Wd Wd by rw [rowF, if_neg (by omega), show ((k + 1) * 2 + 1) / 2 = k + 1 by omega, hq2]] at e3
      have HQ := Lib.hid hq
      have hlp := cell_lt p0
      have hlr := hrr.lt
      have hlc := HC.out.lt
      have hln := HN.out.lt
      have i1 : (0 : Int) ≤ (k : Int) + 1 := by omega
      have i2 : (k : Int) + 1 < (F : Int) := by omega
      have i3 : (k : Int) < (F : Int) := by omega
      have i4 : ((k : Int) + 1).toNat = k + 1 := by omega
      have i5 : IntKind.i64.wrap ((k : Int) + 1) = (k : Int) + 1 := IntWalk.i64_in _ (by omega)
      have H78 : Hid (∀ x : BW wr, Calls Tryd.prog 41 #[.agg #[.int .i64 (F : Int), .int .i64 lo, .int .i64 hi, .int .i64 s, .int .i64 sm, .slice ta ts.length tc], .agg #[.slice (some ⟨gc, q, none⟩) Wd Wd, .slice (some ⟨gn, q, none⟩) Wd Wd], .agg #[.slice (some ⟨gc, q + Wd, none⟩) Wd Wd, .slice (some ⟨gn, q + Wd, none⟩) Wd Wd]] x.val
          fun e w' => (∃ v, e = .returned v) ∧ w'.rowIs gc 3 M (fun j => .int .i64 (stepC (tgtC lo ts) s sm Wd F k j)) ∧ w'.rowIs gn 3 M (fun j => .int .i64 (stepN (tgtC lo ts) s sm Wd F k j)) ∧ Kp2 x.val.heap.size gc gn x.val w') := Lib.hid fun x =>
        (addRest_any F lo hi sm s (.slice ta ts.length tc) Wd gc gn q (q + Wd) M _ _ x.val hW1 hW2 hs hsm (Nat.le_refl _) hqM (by omega) hcn (HC.out.of_block (x.2.block gc hlc)) (HN.out.of_block (x.2.block gn hln)) (fun j hj => HST.out (k + 1) j hj) ⟨_, _, _, rfl⟩).mono (by
          rintro e w' ⟨⟨v, rfl⟩, h1, h2, h3⟩
          exact ⟨⟨v, rfl⟩, h1.congr (fun j _ => congrArg _ (stepC_next HQ.out (by omega) (by omega))), h2.congr (fun j _ => congrArg _ (stepN_next HQ.out (by omega) (by omega))), h3⟩)
      clear hq hrr hq2 hlc hln
      go_wp2_with fail
      refine wp_opaque fun Q2 hQ2 => ?_
      (refine region_below_tail 10 (by kernel_rfl) (by kernel_rfl) ?_; (simp only [List.take_succ_cons, List.take_zero, List.drop_succ_cons, List.drop_zero]); (repeat (first | go_big_quiet_step ((fail)) | quiet_step ((fail)))); (refine wpQuiet_nil ?_; intro _ hw'; obtain ⟨xq, hw''⟩ := hw'; subst hw''))
      have HBX := Lib.hid xq.2
      have hbxB : Below B wr xq.val := xq.2.mono (by have := HK.out.size; have := HB.out; omega)
      have HBXB := Lib.hid hbxB
      clear hbxB p0 p1 p2 p3 p4 p5 e0 e1 e2 e3 hlp hlr
      go_wp2_with (go_at_call 41; refine (H78.out xq).mono ?_; rintro e w8 ⟨⟨vv, rfl⟩, hc8, hn8, hk8⟩; have HC8 := Lib.hid hc8; have HN8 := Lib.hid hn8; have HK8 : Hid (Kp2 B gc gn w2 w8) := Lib.hid ((HK.out.trans (Kp2.of_below HBXB.out)).trans (hk8.mono (by have := HK.out.size; have := HB.out; have := HBXB.out.size; omega))); clear hc8 hn8 hk8)
      go_roundw
      case rel =>
        first
          | exact ⟨k, by omega, rfl, HC8, HN8, HK8⟩
          | ((repeat apply Exists.intro); refine ⟨?_, rfl⟩; exact ⟨k, by omega, rfl, HC8, HN8, HK8⟩)
      case measure => simp [intOf]
theorem conOk_in {p : Con} (h : conOk p = true) : (1 ≤ p.frames ∧ p.frames ≤ 200) ∧ (-100000 ≤ p.low ∧ p.low ≤ 100000) ∧ (p.low ≤ p.high ∧ p.high ≤ p.low + 400 ∧ p.high ≤ 100000) ∧ (0 ≤ p.slope ∧ p.slope ≤ 400) ∧ (0 ≤ p.smooth ∧ p.smooth ≤ 1000) ∧ p.targets.length ≤ 200 ∧ p.targets.all (tgtOk p.frames) = true := by
  simp only [conOk, betw, Bool.and_eq_true, decide_eq_true_eq, Bool.not_eq_true', List.any_eq_false] at h
  obtain ⟨⟨⟨⟨⟨⟨h1, h2⟩, h3⟩, h4⟩, h5⟩, h6⟩, h7⟩ := h
  refine ⟨h1, h2, ⟨h3.1, ?_, ?_⟩, h4, h5, by omega, ?_⟩
  · have := h3.2; split at this <;> omega
  · have := h3.2; split at this <;> omega
  · rw [List.all_eq_true]
    intro x hx
    simpa using h7 x hx
theorem best_any (p : Con) (v : Value) (w : World) (hok : conOk p = true) (hv : SliceV w v 3 TgtAt p.targets) : Calls Tryd.prog 22 #[p.val v] w (BestPost w p) := by
  obtain ⟨h1, h2, h3, h4, h5, h6, h7⟩ := conOk_in hok
  obtain ⟨F, hF⟩ : ∃ F : Nat, p.frames = F := ⟨p.frames.toNat, by omega⟩
  obtain ⟨s, hs⟩ : ∃ s : Nat, p.slope = s := ⟨p.slope.toNat, by omega⟩
  have h := best_any' F (p.high - p.low + 1).toNat (F * (p.high - p.low + 1).toNat) s p.low p.high p.smooth p.targets v w (by omega) (by omega) (by omega) (by omega) (by omega) rfl h2 (by omega) h5 (by rw [← hF]; exact h7) h6 hv
  unfold Con.val
  rw [hF, hs]
  refine h.mono ?_
  rintro e w' ⟨g, rfl, hr, hb⟩
  refine ⟨_, rfl, ?_, hb⟩
  have hl := row_slice hr (by omega)
  unfold bestL
  rw [hF, hs, Int.toNat_natCast, Int.toNat_natCast]
  exact hl
end Go.Proofs.YtejcbcjhmnhefabDoor
