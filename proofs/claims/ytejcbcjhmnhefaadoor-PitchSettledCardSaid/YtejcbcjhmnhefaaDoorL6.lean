/- The specification's pulses; the law of pulses. -/
import Derived.Test.YtejcbcjhmnhefaaDoorL3
import Derived.Test.YtejcbcjhmnhefaaDoorF3
set_option linter.unusedSimpArgs false
set_option linter.unusedVariables false
namespace Go.Proofs.YtejcbcjhmnhefaaDoor
open Go.RowKit

theorem own_nil {W : World} {base : Nat} : W.ownsRow base 3 1 (.slice none 0 0) 0 [] := ⟨by simp, .inl ⟨rfl, rfl⟩⟩
def pulK (c : Int) (l : List Int) (k : Nat) : List Int := ((List.range k).filter (hit c l)).map fun n : Nat => (n : Int)
theorem pulK_succ (c : Int) (l : List Int) (k : Nat) : pulK c l (k + 1) = pulK c l k ++ if hit c l k = true then [(k : Int)] else [] := by
  unfold pulK
  rw [List.range_succ, List.filter_append, List.map_append]
  cases h : hit c l k <;> simp [h]
theorem pulK_len (c : Int) (l : List Int) (k : Nat) : (pulK c l k).length ≤ k := by
  unfold pulK
  rw [List.length_map]
  have := List.length_filter_le (hit c l) (List.range k)
  rwa [List.length_range] at this
theorem pulK_all (c : Int) (l : List Int) : pulK c l l.length = (pulses c l).map fun n : Nat => (n : Int) := rfl
theorem freqsOk_of {rate : Int} {l : List Int} (h1 : betw rate 1 192000 = true) (h2 : (l.length : Int) ≤ 400000) : freqsOk rate l = l.all (samOk rate) := by
  unfold freqsOk
  rw [h1, decide_eq_true h2, List.all_eq_not_any_not]
  rfl
set_option maxRecDepth 20000 in
set_option maxHeartbeats 4000000 in
theorem refVoice_any (rate : Int) (l : List Int) (v : Value) (w : World) (hv : SliceV w v 1 IntAt l) :
    Calls Tryd.prog 41 #[.int .i64 rate, v] w fun e w' => e = .returned (.bool (freqsOk rate l)) ∧ Below w.heap.size w w' := by
  have HV := Lib.hid hv
  obtain ⟨a, c, rfl, hl, -⟩ := hv
  unfold most at hl
  cases g1 : betw rate 1 192000
  · have hf : freqsOk rate l = false := by simp [freqsOk, g1]
    rw [hf]
    go_enter Tryd.func41, Tryd.ntmps41
    go_wp2_with (go_at_call 49; refine (in_any _ _ _ _).mono ?_; rintro e w' ⟨rfl, rfl⟩)
    go_ret
    exact ⟨rfl, Below.refl _ _⟩
  by_cases g2 : (l.length : Int) > 400000
  · have hf : freqsOk rate l = false := by simp [freqsOk]; omega
    have g2' : decide ((l.length : Int) > 400000) = true := decide_eq_true g2
    rw [hf]
    go_enter Tryd.func41, Tryd.ntmps41
    go_wp2_with (go_at_call 49; refine (in_any _ _ _ _).mono ?_; rintro e w' ⟨rfl, rfl⟩)
    go_ret
    exact ⟨rfl, Below.refl _ _⟩
  have g2' : decide ((l.length : Int) > 400000) = false := decide_eq_false g2
  have hr := betw_in g1
  have HF : Hid (freqsOk rate l = l.all (samOk rate)) := Lib.hid (freqsOk_of g1 (by omega))
  go_enter Tryd.func41, Tryd.ntmps41
  go_wp2_with (go_at_call 49; refine (in_any _ _ _ _).mono ?_; rintro e w' ⟨rfl, rfl⟩)
  go_loop [5] (fun i => ∃ k : Nat, k ≤ l.length ∧ i = .int .i64 k ∧ Hid (l.all (samOk rate) = (l.drop k).all (samOk rate))) (fun i => l.length - (intOf i).toNat)
  case atStart => exact ⟨0, Nat.zero_le _, rfl, Lib.hid rfl⟩
  case round =>
    obtain ⟨k, hk, rfl, HA⟩ := hrel
    by_cases hlt : k < l.length
    · obtain ⟨b, o, rfl, hf⟩ := HV.out.at (by intro h; simp [h] at hlt)
      have c0 : w.cell? ⟨b, o + k, none⟩ = some (.int .i64 l[k]) := by
        have h := hf k hlt
        rw [Nat.mul_one] at h; exact h
      have hlb := cell_lt c0
      have HST : Hid ((l.drop k).all (samOk rate) = (samOk rate l[k] && (l.drop (k + 1)).all (samOk rate))) := Lib.hid (by rw [List.drop_eq_getElem_cons hlt]; rfl)
      have HSO : Hid (samOk rate l[k] = betw l[k] 0 (500 * rate)) := Lib.hid (by unfold samOk; rw [show 1000 * rate / 2 = 500 * rate by omega])
      clear hf
      generalize l[k] = y at *
      cases g5 : betw y 0 (500 * rate)
      · go_wp2_with (go_at_call 49; refine (in_any _ _ _ _).mono ?_; rintro e w' ⟨rfl, rfl⟩; rw [g5])
        go_ret
        exact ⟨ret_bool (by rw [HF.out, HA.out, HST.out, HSO.out, g5]; rfl), Below.refl _ _⟩
      · go_wp2_with (go_at_call 49; refine (in_any _ _ _ _).mono ?_; rintro e w' ⟨rfl, rfl⟩; rw [g5])
        go_round
        case rel => exact ⟨k + 1, by omega, by go_num, Lib.hid (by rw [HA.out, HST.out, HSO.out, g5, Bool.true_and])⟩
        case measure => simp [intOf]; omega
    · obtain rfl : k = l.length := by omega
      go_wp2_with fail
      go_ret
      exact ⟨ret_bool (by rw [HF.out, HA.out, List.drop_length]; rfl), Below.refl _ _⟩

theorem own_step {W w5 : World} {base n : Nat} {L : List Int} {u : Value} {x : Int} (hB : base ≤ W.heap.size) (ho : W.ownsRow base 3 1 u n (intV L)) (hg : (W.alloc (.cells #[.int .i64 x] 3)).grownBy w5 u.ownBlock) : Below base W w5 :=
  ((bAlloc (Below.refl W.heap.size W) _).mono hB).trans (grown_below hg (ho.alloc _) (by simp; omega))
set_option maxRecDepth 20000 in
set_option maxHeartbeats 8000000 in
theorem refPulses_any (rate : Int) (l : List Int) (v : Value) (w : World) (hv : SliceV w v 1 IntAt l) (hok : FreqsOk rate l) :
    Calls Tryd.prog 42 #[.int .i64 rate, v] w fun e w' => (∃ u, e = .returned (.tuple #[u, .int .i64 (phase (1000 * rate) l l.length)]) ∧ SliceV w' u 1 IntAt (pulK (1000 * rate) l l.length)) ∧ Below w.heap.size w w' := by
  have HV := Lib.hid hv
  have HOK := Lib.hid hok
  obtain ⟨a, c, rfl, hl, -⟩ := hv
  have hr1 := hok.1
  have hr2 := hok.2.1
  have hr3 := hok.2.2.1
  have HPH := Lib.hid (phase_in hok)
  clear hok
  obtain ⟨i3, hi3, hz3, hs3, hb3⟩ := info_parts info3
  have HI := Lib.hid hi3
  clear hi3
  go_enter Tryd.func42, Tryd.ntmps42
  go_wp2_with fail
  go_loopw [6, 7, 8] (fun u p i wr => ∃ k : Nat, k ≤ l.length ∧ i = .int .i64 k ∧ p = .int .i64 (phase (1000 * rate) l k) ∧ Hid (wr.ownsRow w.heap.size 3 1 u (pulK (1000 * rate) l k).length (intV (pulK (1000 * rate) l k))) ∧ Hid (Below w.heap.size w wr)) (fun _ _ i _ => l.length - (intOf i).toNat)
  case atStart => exact ⟨0, Nat.zero_le _, rfl, rfl, Lib.hid own_nil, Lib.hid (Below.refl _ _)⟩
  case round =>
    obtain ⟨k, hk, rfl, rfl, HR, HB⟩ := hrel
    by_cases hlt : k < l.length
    · obtain ⟨b, o, rfl, hf⟩ := HV.out.at (by intro h; simp [h] at hlt)
      have c0 : wr.cell? ⟨b, o + k, none⟩ = some (.int .i64 l[k]) := by
        have h := keep HB.out (hf k hlt)
        rw [Nat.mul_one] at h; exact h
      have hlb := cell_lt c0
      have hp0 := HPH.out k hk
      have hp1 := HPH.out (k + 1) hlt
      have hfr := HOK.out.get hlt
      have hgd : l.getD k 0 = l[k] := by simp [List.getD, hlt]
      have hlen := pulK_len (1000 * rate) l k
      have HSU := Lib.hid (pulK_succ (1000 * rate) l k)
      clear hf
      cases hh : hit (1000 * rate) l k
      · have hph := phase_miss hh
        have HD : Hid (¬ (phase (1000 * rate) l k + l[k] ≥ 1000 * rate)) := Lib.hid (by
          simp only [hit, Bool.not_eq_eq_eq_not, Bool.not_false, decide_eq_true_eq] at hh
          rw [hgd] at hh; omega)
        rw [hgd] at hph
        rw [hh] at HSU
        have HPS := Lib.hid hph
        clear hph hgd hh
        generalize phase (1000 * rate) l k = p at *
        have hge := HD.out
        generalize l[k] = y at *
        have hdc : decide (p + y ≥ 1000 * rate) = false := decide_eq_false hge
        go_wp2_with fail
        go_roundw
        case rel =>
          first
            | exact ⟨k + 1, by omega, by go_num, by rw [HPS.out], Lib.hid (by rw [HSU.out]; simpa using HR.out), HB⟩
            | ((repeat apply Exists.intro); refine ⟨?_, rfl⟩; exact ⟨k + 1, by omega, by go_num, by rw [HPS.out], Lib.hid (by rw [HSU.out]; simpa using HR.out), HB⟩)
        case measure => simp [intOf]; omega
      · have hph := phase_hit hh
        have HD : Hid (phase (1000 * rate) l k + l[k] ≥ 1000 * rate) := Lib.hid (by
          simp only [hit, Bool.not_eq_eq_eq_not, Bool.not_true, decide_eq_false_iff_not] at hh
          rw [hgd] at hh; omega)
        rw [hgd] at hph
        rw [hh] at HSU
        have HPS := Lib.hid hph
        clear hph hgd hh
        generalize phase (1000 * rate) l k = p at *
        have hge := HD.out
        generalize l[k] = y at *
        have hdc : decide (p + y ≥ 1000 * rate) = true := decide_eq_true hge
        generalize hKe : pulK (1000 * rate) l k = K at *
        have HKe := Lib.hid hKe
        clear hKe
        go_wp2_with (at_builtin; go_loud (refine wpList_append_own _ rfl _ _ 34 rfl w.heap.size 3 i3 (.int .i64 0) 1 8 Tryd.underlying34 HI.out hz3 hs3 hb3 rfl (by decide) u6 _ _ rfl (HR.out.alloc _) ⟨wr.heap.size, 0, none⟩ 1 1 _ rfl (by rfl) (cell_one_new _ _ _) (by simp [Value.oneCell']) (by unfold maxLen; omega) (by omega) (by have := HB.out.size; simp; omega) ?_); intro v' w5 hown' hgrow _; have HU := Lib.hid (And.intro hown' hgrow); clear hown' hgrow)
        obtain ⟨hown', hgrow⟩ := HU.out
        have HB5 := Lib.hid (HB.out.trans (own_step HB.out.size HR.out hgrow))
        have HR5 : Hid (w5.ownsRow w.heap.size 3 1 v' (pulK (1000 * rate) l (k + 1)).length (intV (pulK (1000 * rate) l (k + 1)))) := Lib.hid (by
          rw [HSU.out]
          have h := hown'
          simpa [intV] using h)
        clear hown' hgrow
        go_roundw
        case rel =>
          first
            | exact ⟨k + 1, by omega, by go_num, by rw [HPS.out], HR5, HB5⟩
            | ((repeat apply Exists.intro); refine ⟨?_, rfl⟩; exact ⟨k + 1, by omega, by go_num, by rw [HPS.out], HR5, HB5⟩)
        case measure => simp [intOf]; omega
    · obtain rfl : k = l.length := by omega
      have hlen := pulK_len (1000 * rate) l l.length
      go_wp2_with fail
      go_ret2
      exact ⟨⟨_, rfl, vals_slice HR.out (by omega)⟩, HB.out⟩

theorem sum_phase (c : Int) (l : List Int) : ∀ k, k ≤ l.length → sumTo l k = c * (pulK c l k).length + phase c l k := by
  intro k
  induction k with
  | zero => intro _; simp [sumTo, pulK, phase]
  | succ k ih =>
    intro hk
    have h := ih (by omega)
    have hgd : l.getD k 0 = l[k] := by simp [List.getD, show k < l.length by omega]
    rw [sumTo_succ l k (by omega), h, pulK_succ]
    cases hh : hit c l k
    · rw [phase_miss hh, hgd]; simp; omega
    · rw [phase_hit hh, hgd]; simp only [if_true, List.length_append, List.length_singleton]
      rw [show ((((pulK c l k).length + 1 : Nat)) : Int) = ((pulK c l k).length : Int) + 1 by omega, Int.mul_add]; omega
theorem count_eq {rate : Int} {l : List Int} (hok : FreqsOk rate l) : sumTo l l.length / (1000 * rate) = ((pulK (1000 * rate) l l.length).length : Int) ∧ sumTo l l.length % (1000 * rate) = phase (1000 * rate) l l.length := by
  have h := sum_phase (1000 * rate) l l.length (Nat.le_refl _)
  have hp := phase_in hok l.length (Nat.le_refl _)
  have h1 := hok.1
  rw [h]
  constructor
  · rw [Int.add_comm, Int.add_mul_ediv_left _ _ (by omega), Int.ediv_eq_zero_of_lt hp.1 hp.2, Int.zero_add]
  · rw [Int.add_comm, Int.add_mul_emod_self_left, Int.emod_eq_of_lt hp.1 hp.2]
def fewB (n : Int) : Bool := decide (n ≤ 3000) || (decide (n > 400000) && decide (n < 500000))
set_option maxHeartbeats 2000000 in
theorem few_any (n : Int) (w : World) : Calls Tryd.prog 38 #[.int .i64 n] w fun e w' => e = .returned (.bool (fewB n)) ∧ w = w' := by
  by_cases h1 : n ≤ 3000
  · go_enter Tryd.func38, Tryd.ntmps38
    go_wp2
    go_ret
    exact ⟨ret_bool (by simp [fewB, h1]), rfl⟩
  · have h1' : decide (n ≤ 3000) = false := decide_eq_false h1
    by_cases h2 : n > 400000
    · have h2' : decide (n > 400000) = true := decide_eq_true h2
      go_enter Tryd.func38, Tryd.ntmps38
      go_wp2
      go_ret
      exact ⟨ret_bool (by simp [fewB, *]), rfl⟩
    · have h2' : decide (n > 400000) = false := decide_eq_false h2
      go_enter Tryd.func38, Tryd.ntmps38
      go_wp2
      go_ret
      exact ⟨ret_bool (by simp [fewB]; omega), rfl⟩
theorem SliceV.shape {α : Type} {w : World} {v : Value} {sz : Nat} {R : World → Nat → Nat → α → Prop} {xs : List α} (h : SliceV w v sz R xs) : ∃ a c, v = .slice a xs.length c := let ⟨a, c, e, _⟩ := h; ⟨a, c, e⟩
set_option maxRecDepth 100000 in
set_option maxHeartbeats 8000000 in
theorem lawPulses_any (rate : Int) (l : List Int) (v : Value) (w : World) (hv : SliceV w v 1 IntAt l) (hS : Semi w) :
    Calls Tryd.prog 12 #[.int .i64 rate, v] w fun e w' => e = .returned (.bool true) ∧ Below w.heap.size w w' := by
  have HS := Lib.hid hS
  have HV := Lib.hid hv
  obtain ⟨a, c, rfl, hl, -⟩ := hv
  unfold most at hl
  have H15 : Hid (∀ W, Below w.heap.size w W → Calls Tryd.prog 15 #[] W fun e w' => e = .returned (.bool true) ∧ Below W.heap.size W w') := Lib.hid fun W hB => known_any W (HS.out.keep hB)
  have H39 : Hid (∀ W, Below w.heap.size w W → _) := Lib.hid fun W hB => Pulses_any rate l (.slice a l.length c) W (HV.out.keep IntAt.stable hB)
  have H40 : Hid (∀ W, Below w.heap.size w W → _) := Lib.hid fun W hB => Count_any rate l (.slice a l.length c) W (HV.out.keep IntAt.stable hB)
  have H41 : Hid (∀ W, Below w.heap.size w W → _) := Lib.hid fun W hB => refVoice_any rate l (.slice a l.length c) W (HV.out.keep IntAt.stable hB)
  have HB1 := Lib.hid (Below.refl w.heap.size w)
  clear hS
  cases hfew : fewB (l.length : Int)
  · go_enter Tryd.func12, Tryd.ntmps12
    go_wp2_with (go_at_call 38; refine (few_any _ _).mono ?_; rintro e w' ⟨rfl, rfl⟩; rw [hfew])
    refine (H15.out _ HB1.out).mono ?_
    rintro e w9 ⟨rfl, hb⟩
    have HB9 := Lib.hid (bThen HB1.out hb)
    clear hb
    go_wp2_with fail
    go_ret
    exact ⟨rfl, HB9.out⟩
  · cases hok : freqsOk rate l
    · rw [hok] at H41
      have HC : Hid (countRes rate l = .tuple #[.int .i64 0, .int .i64 0, .int .i64 2]) := Lib.hid (by unfold countRes; rw [if_neg (by rw [hok]; simp)])
      rw [HC.out] at H40
      go_enter Tryd.func12, Tryd.ntmps12
      go_wp2_with (go_at_call 38; refine (few_any _ _).mono ?_; rintro e w' ⟨rfl, rfl⟩; rw [hfew])
      refine (H39.out _ HB1.out).mono ?_
      rintro e w1 ⟨⟨-, rfl⟩ | ⟨hno, -⟩, hb⟩
      case inr => rw [hok] at hno; cases hno
      replace HB1 := Lib.hid (bThen HB1.out hb)
      clear hb
      go_wp2_with fail
      refine (H40.out _ HB1.out).mono ?_
      rintro e w2 ⟨rfl, hb⟩
      replace HB1 := Lib.hid (bThen HB1.out hb)
      clear hb
      go_wp2_with fail
      refine (H41.out _ HB1.out).mono ?_
      rintro e w3 ⟨rfl, hb⟩
      replace HB1 := Lib.hid (bThen HB1.out hb)
      clear hb
      go_wp2_with fail
      refine (H15.out _ HB1.out).mono ?_
      rintro e w9 ⟨rfl, hb⟩
      have HB9 := Lib.hid (bThen HB1.out hb)
      clear hb
      go_wp2_with fail
      go_ret
      exact ⟨rfl, HB9.out⟩
    · have hfo := freqsOk_iff hok
      have hce := count_eq hfo
      rw [hok] at H41
      have HC : Hid (countRes rate l = .tuple #[.int .i64 (pulK (1000 * rate) l l.length).length, .int .i64 (phase (1000 * rate) l l.length), .int .i64 0]) := Lib.hid (by unfold countRes; rw [if_pos hok, hce.1, hce.2])
      rw [HC.out] at H40
      have H42 : Hid (∀ W, Below w.heap.size w W → _) := Lib.hid fun W hB => refPulses_any rate l (.slice a l.length c) W (HV.out.keep IntAt.stable hB) hfo
      clear hce hfo
      go_enter Tryd.func12, Tryd.ntmps12
      go_wp2_with (go_at_call 38; refine (few_any _ _).mono ?_; rintro e w' ⟨rfl, rfl⟩; rw [hfew])
      refine (H39.out _ HB1.out).mono ?_
      rintro e w1 ⟨⟨hno, -⟩ | ⟨-, ad, cc, rfl, hr⟩, hb⟩
      · rw [hok] at hno; cases hno
      have HR := Lib.hid hr
      clear hr
      replace HB1 := Lib.hid (bThen HB1.out hb)
      clear hb
      go_wp2_with fail
      refine (H40.out _ HB1.out).mono ?_
      rintro e w2 ⟨rfl, hb⟩
      have HR2 := Lib.hid (HR.out.keep IntAt.stable hb)
      replace HB1 := Lib.hid (bThen HB1.out hb)
      clear hb
      go_wp2_with fail
      refine (H41.out _ HB1.out).mono ?_
      rintro e w3 ⟨rfl, hb⟩
      have HR3 := Lib.hid (HR2.out.keep IntAt.stable hb)
      replace HB1 := Lib.hid (bThen HB1.out hb)
      clear hb
      go_wp2_with fail
      refine (H42.out _ HB1.out).mono ?_
      rintro e w4 ⟨⟨u, rfl, hu⟩, hb⟩
      have HR4 := Lib.hid (HR3.out.keep IntAt.stable hb)
      have HU := Lib.hid hu
      obtain ⟨ua, uc, rfl⟩ := hu.shape
      clear hu
      replace HB1 := Lib.hid (bThen HB1.out hb)
      clear hb
      go_wp2_with fail
      rw [← pulK_all] at HR4
      refine (Same_any _ _ _ _ _ HR4.out HU.out).mono ?_
      rintro e w5 ⟨rfl, hb⟩
      rw [decide_eq_true rfl]
      replace HB1 := Lib.hid (bThen HB1.out hb)
      clear hb
      generalize (pulK (1000 * rate) l l.length).length = n at *
      go_wp2_with fail
      refine (H15.out _ HB1.out).mono ?_
      rintro e w9 ⟨rfl, hb⟩
      have HB9 := Lib.hid (bThen HB1.out hb)
      clear hb
      go_wp2_with fail
      go_ret
      exact ⟨rfl, HB9.out⟩
end Go.Proofs.YtejcbcjhmnhefaaDoor
