/- The law of phases. -/
import Derived.Test.YtejcbcjhmnhefaaDoorL6
set_option linter.unusedSimpArgs false
set_option linter.unusedVariables false
namespace Go.Proofs.YtejcbcjhmnhefaaDoor
open Go.RowKit

theorem pulK_prefix (c : Int) (l : List Int) {i L : Nat} (h : i ≤ L) : pulK c l i <+: pulK c l L := by
  unfold pulK
  refine List.IsPrefix.map _ (List.IsPrefix.filter _ ?_)
  rw [show List.range i = (List.range L).take i by rw [List.take_range, Nat.min_eq_left h]]
  exact List.take_prefix _ _
theorem pulK_hit {c : Int} {l : List Int} {i L : Nat} (h : i < L) (hh : hit c l i = true) : (pulK c l L)[(pulK c l i).length]? = some (i : Int) ∧ (pulK c l i).length < (pulK c l L).length := by
  obtain ⟨r, hr⟩ := pulK_prefix c l (show i + 1 ≤ L by omega)
  have h2 := pulK_succ c l i
  rw [hh, if_pos rfl] at h2
  rw [← hr, h2]
  constructor
  · simp
  · simp
theorem pulK_miss {c : Int} {l : List Int} {i L n : Nat} {x : Int} (hh : hit c l i = false) (hx : (pulK c l L)[n]? = some x) : x ≠ (i : Int) := by
  rintro rfl
  have hm := List.mem_of_getElem? hx
  unfold pulK at hm
  obtain ⟨j, hj, e⟩ := List.mem_map.1 hm
  have := (List.mem_filter.1 hj).2
  have e2 : j = i := by omega
  rw [e2, hh] at this
  cases this
theorem count_at {rate : Int} {l : List Int} (hok : FreqsOk rate l) {k : Nat} (hk : k ≤ l.length) : sumTo l k / (1000 * rate) = ((pulK (1000 * rate) l k).length : Int) := by
  have h := sum_phase (1000 * rate) l k hk
  have hp := phase_in hok k hk
  have h1 := hok.1
  rw [h, Int.add_comm, Int.add_mul_ediv_left _ _ (by omega), Int.ediv_eq_zero_of_lt hp.1 hp.2, Int.zero_add]
theorem phase_scale {b c : Int} (hb : 1 ≤ b) (l : List Int) : ∀ k, phase (b * c) (l.map (b * ·)) k = b * phase c l k ∧ hit (b * c) (l.map (b * ·)) k = hit c l k := by
  have hg : ∀ k, (l.map (b * ·)).getD k 0 = b * l.getD k 0 := fun k => by
    simp only [List.getD, List.getElem?_map]
    cases l[k]? <;> simp
  have hlt : ∀ x : Int, b * x < b * c ↔ x < c := fun x => Int.mul_lt_mul_left (by omega)
  intro k
  induction k with
  | zero => exact ⟨by simp [phase], by simp only [hit, phase, hg, Int.zero_add]; congr 1; exact decide_eq_decide.2 (hlt _)⟩
  | succ k ih =>
    have h1 : phase (b * c) (l.map (b * ·)) (k + 1) = b * phase c l (k + 1) := by
      simp only [phase]
      rw [ih.1, hg, ← Int.mul_add]
      by_cases h : phase c l k + l.getD k 0 < c
      · rw [if_pos h, if_pos ((hlt _).2 h)]
      · rw [if_neg h, if_neg (fun h2 => h ((hlt _).1 h2)), Int.mul_sub]
    refine ⟨h1, ?_⟩
    simp only [hit]
    rw [h1, hg, ← Int.mul_add]
    congr 1
    exact decide_eq_decide.2 (hlt _)
theorem freqs_scale {b rate : Int} {l : List Int} (hb : 1 ≤ b ∧ b ≤ 20) (hok : FreqsOk rate l) (hr : rate * b ≤ 192000) : freqsOk (rate * b) (l.map (b * ·)) = true := by
  have h1 := hok.1
  have hm := hok.2.2.1
  have hpos : 1 ≤ rate * b := by
    have := Int.mul_le_mul h1 hb.1 (by omega) (by omega); omega
  rw [freqsOk_of (by simp [betw]; omega) (by rw [List.length_map]; omega), List.all_eq_true]
  intro x hx
  obtain ⟨y, hy, rfl⟩ := List.mem_map.1 hx
  have h2 := hok.2.2.2 y hy
  simp only [samOk, betw, Bool.and_eq_true, decide_eq_true_eq] at h2 ⊢
  have h3 : y ≤ 500 * rate := by omega
  have h4 : b * y ≤ b * (500 * rate) := Int.mul_le_mul_of_nonneg_left h3 (by omega)
  have h5 : b * (500 * rate) = 500 * (rate * b) := by rw [Int.mul_left_comm, Int.mul_comm b rate]
  have h6 : 0 ≤ b * y := Int.mul_nonneg (by omega) h2.1
  omega
theorem pulses_scale {b rate : Int} (hb : 1 ≤ b) (l : List Int) : pulses (1000 * (rate * b)) (l.map (b * ·)) = pulses (1000 * rate) l := by
  unfold pulses
  rw [List.length_map]
  refine List.filter_congr fun k _ => ?_
  have h := (phase_scale (c := 1000 * rate) hb l k).2
  rw [show 1000 * (rate * b) = b * (1000 * rate) by rw [Int.mul_comm rate b, Int.mul_left_comm]]
  exact h
set_option maxRecDepth 100000 in
set_option maxHeartbeats 16000000 in
theorem lawPhase_any (rate b : Int) (l : List Int) (v : Value) (w : World) (hv : SliceV w v 1 IntAt l) (hS : Semi w) :
    Calls Tryd.prog 13 #[.int .i64 rate, v, .int .i64 b] w fun e w' => e = .returned (.bool true) ∧ Below w.heap.size w w' := by
  have HS := Lib.hid hS
  have HV := Lib.hid hv
  obtain ⟨a, c, rfl, hl, -⟩ := hv
  unfold most at hl
  have H15 : Hid (∀ W, Below w.heap.size w W → Calls Tryd.prog 15 #[] W fun e w' => e = .returned (.bool true) ∧ Below W.heap.size W w') := Lib.hid fun W hB => known_any W (HS.out.keep hB)
  have H39 : Hid (∀ W, Below w.heap.size w W → _) := Lib.hid fun W hB => Pulses_any rate l (.slice a l.length c) W (HV.out.keep IntAt.stable hB)
  have H41 : Hid (∀ W, Below w.heap.size w W → _) := Lib.hid fun W hB => refVoice_any rate l (.slice a l.length c) W (HV.out.keep IntAt.stable hB)
  have HB1 := Lib.hid (Below.refl w.heap.size w)
  clear hS
  by_cases a1 : (l.length : Int) > 500
  · have d1 : decide ((l.length : Int) > 500) = true := decide_eq_true a1
    go_enter Tryd.func13, Tryd.ntmps13
    go_wp2_with fail
    refine (H15.out _ HB1.out).mono ?_
    rintro e w9 ⟨rfl, hb⟩
    have HB9 := Lib.hid (bThen HB1.out hb)
    clear hb
    go_wp2_with fail
    go_ret
    exact ⟨rfl, HB9.out⟩
  have d1 : decide ((l.length : Int) > 500) = false := decide_eq_false a1
  cases hok : freqsOk rate l
  · rw [hok] at H41
    go_enter Tryd.func13, Tryd.ntmps13
    go_wp2_with fail
    refine (H41.out _ HB1.out).mono ?_
    rintro e w1 ⟨rfl, hb⟩
    replace HB1 := Lib.hid (bThen HB1.out hb)
    clear hb
    go_wp2_with fail
    refine (H15.out _ HB1.out).mono ?_
    rintro e w9 ⟨rfl, hb⟩
    have HB9 := Lib.hid (bThen HB1.out hb)
    clear hb
    go_wp2_with fail
    go_ret
    exact ⟨rfl, HB9.out⟩
  rw [hok] at H41
  by_cases a2 : b < 1
  · have d2 : decide (b < 1) = true := decide_eq_true a2
    go_enter Tryd.func13, Tryd.ntmps13
    go_wp2_with fail
    refine (H41.out _ HB1.out).mono ?_
    rintro e w1 ⟨rfl, hb⟩
    replace HB1 := Lib.hid (bThen HB1.out hb)
    clear hb
    go_wp2_with fail
    refine (H15.out _ HB1.out).mono ?_
    rintro e w9 ⟨rfl, hb⟩
    have HB9 := Lib.hid (bThen HB1.out hb)
    clear hb
    go_wp2_with fail
    go_ret
    exact ⟨rfl, HB9.out⟩
  have d2 : decide (b < 1) = false := decide_eq_false a2
  by_cases a3 : b > 20
  · have d3 : decide (b > 20) = true := decide_eq_true a3
    go_enter Tryd.func13, Tryd.ntmps13
    go_wp2_with fail
    refine (H41.out _ HB1.out).mono ?_
    rintro e w1 ⟨rfl, hb⟩
    replace HB1 := Lib.hid (bThen HB1.out hb)
    clear hb
    go_wp2_with fail
    refine (H15.out _ HB1.out).mono ?_
    rintro e w9 ⟨rfl, hb⟩
    have HB9 := Lib.hid (bThen HB1.out hb)
    clear hb
    go_wp2_with fail
    go_ret
    exact ⟨rfl, HB9.out⟩
  have d3 : decide (b > 20) = false := decide_eq_false a3
  have hfo := freqsOk_iff hok
  have hr1 := hfo.1
  have hr2 := hfo.2.1
  have HFO := Lib.hid hfo
  clear hfo
  obtain ⟨i3, hi3, hz3, hs3, hb3⟩ := info_parts info3
  have HI := Lib.hid hi3
  clear hi3
  go_enter Tryd.func13, Tryd.ntmps13
  go_wp2_with fail
  refine (H41.out _ HB1.out).mono ?_
  rintro e w1 ⟨rfl, hb⟩
  replace HB1 := Lib.hid (bThen HB1.out hb)
  clear hb
  go_wp2_with fail
  refine (H39.out _ HB1.out).mono ?_
  rintro e w2 ⟨⟨hno, -⟩ | ⟨-, ad, cc, rfl, hr⟩, hb⟩
  · rw [hok] at hno; cases hno
  have hpl : (pulses (1000 * rate) l).length = (pulK (1000 * rate) l l.length).length := by rw [pulK_all, List.length_map]
  rw [← pulK_all, hpl] at hr
  rw [hpl]
  have HR := Lib.hid hr
  clear hr hpl
  replace HB1 := Lib.hid (bThen HB1.out hb)
  clear hb
  have HSZ : Hid (sumTo l 0 = 0 ∧ (pulK (1000 * rate) l 0).length = 0) := Lib.hid (by simp [sumTo, pulK])
  go_wp2_with fail
  go_loop [9, 10, 11] (fun s n i => ∃ k : Nat, k ≤ l.length ∧ i = .int .i64 k ∧ n = .int .i64 (pulK (1000 * rate) l k).length ∧ s = .int .i64 (sumTo l k)) (fun _ _ i => l.length - (intOf i).toNat)
  case atStart => exact ⟨0, Nat.zero_le _, rfl, by rw [HSZ.out.2]; rfl, by rw [HSZ.out.1]⟩
  case round =>
    obtain ⟨k, hk, rfl, rfl, rfl⟩ := hrel
    by_cases hlt : k < l.length
    · obtain ⟨vb, vo, rfl, hf⟩ := HV.out.at (by intro h; simp [h] at hlt)
      have c0 : w2.cell? ⟨vb, vo + k, none⟩ = some (.int .i64 l[k]) := by
        have h := keep HB1.out (hf k hlt)
        rw [Nat.mul_one] at h; exact h
      have hlb := cell_lt c0
      have hs0 := sumTo_in HFO.out k hk
      have hs1 := sumTo_in HFO.out (k + 1) hlt
      have hst := sumTo_succ l k hlt
      have hct := count_at HFO.out (show k + 1 ≤ l.length from hlt)
      have hps := pulK_succ (1000 * rate) l k
      have hfr := HFO.out.get hlt
      have hln := pulK_len (1000 * rate) l k
      have hz0 : ¬ (1000 * rate = 0) := by omega
      have hz1 : (1000 * rate == 0) = false := by simp; omega
      have HST := Lib.hid hst
      rw [hst] at hct hs1
      clear hf hst
      cases hh : hit (1000 * rate) l k
      · rw [hh] at hps
        have hps2 : pulK (1000 * rate) l (k + 1) = pulK (1000 * rate) l k := by simpa using hps
        rw [hps2] at hct
        have HPS := Lib.hid hps2
        have htd : (sumTo l k + l[k]).tdiv (1000 * rate) = ((pulK (1000 * rate) l k).length : Int) := by rw [Int.tdiv_eq_ediv_of_nonneg (by omega)]; exact hct
        clear hps hps2
        by_cases hn : (pulK (1000 * rate) l k).length < (pulK (1000 * rate) l l.length).length
        · obtain ⟨pb, po, rfl, hpf⟩ := HR.out.at (by intro h; simp [h] at hn)
          have e0 := hpf _ hn
          have hne := pulK_miss hh (List.getElem?_eq_getElem hn)
          rw [Nat.mul_one] at e0
          have e0' : w2.cell? ⟨pb, po + (pulK (1000 * rate) l k).length, none⟩ = some (.int .i64 (pulK (1000 * rate) l l.length)[(pulK (1000 * rate) l k).length]) := e0
          have hbe : ((pulK (1000 * rate) l l.length)[(pulK (1000 * rate) l k).length] == (k : Int)) = false := by simpa using hne
          have hbe2 : ¬ ((pulK (1000 * rate) l l.length)[(pulK (1000 * rate) l k).length] = (k : Int)) := hne
          have hlp := cell_lt e0'
          have hd1 : decide ((pulK (1000 * rate) l k).length < (pulK (1000 * rate) l l.length).length) = true := decide_eq_true hn
          clear hpf e0 hne hh
          generalize (pulK (1000 * rate) l l.length)[(pulK (1000 * rate) l k).length] = pe at *
          generalize (pulK (1000 * rate) l l.length).length = N at *
          generalize hne : (pulK (1000 * rate) l k).length = n at *
          have HNE := Lib.hid hne
          clear hne
          generalize sumTo l k = s at *
          generalize l[k] = y at *
          go_wp2_with fail
          go_round
          case rel => exact ⟨k + 1, by omega, by go_num, by rw [HPS.out, HNE.out], by rw [HST.out]⟩
          case measure => simp [intOf]; omega
        · have hd1 : decide ((pulK (1000 * rate) l k).length < (pulK (1000 * rate) l l.length).length) = false := decide_eq_false hn
          clear hh
          generalize (pulK (1000 * rate) l l.length).length = N at *
          generalize hne : (pulK (1000 * rate) l k).length = n at *
          have HNE := Lib.hid hne
          clear hne
          generalize sumTo l k = s at *
          generalize l[k] = y at *
          go_wp2_with fail
          go_round
          case rel => exact ⟨k + 1, by omega, by go_num, by rw [HPS.out, HNE.out], by rw [HST.out]⟩
          case measure => simp [intOf]; omega
      · rw [hh] at hps
        obtain ⟨hpe, hn⟩ := pulK_hit hlt hh
        have hps2 : (pulK (1000 * rate) l (k + 1)).length = (pulK (1000 * rate) l k).length + 1 := by rw [hps]; simp
        rw [hps2] at hct
        rw [show (((pulK (1000 * rate) l k).length + 1 : Nat) : Int) = ((pulK (1000 * rate) l k).length : Int) + 1 by omega] at hct
        have HPS := Lib.hid hps2
        have htd : (sumTo l k + l[k]).tdiv (1000 * rate) = ((pulK (1000 * rate) l k).length : Int) + 1 := by rw [Int.tdiv_eq_ediv_of_nonneg (by omega)]; exact hct
        obtain ⟨pb, po, rfl, hpf⟩ := HR.out.at (by intro h; simp [h] at hn)
        have e0 := hpf _ hn
        rw [Nat.mul_one] at e0
        have hpe2 : (pulK (1000 * rate) l l.length)[(pulK (1000 * rate) l k).length] = (k : Int) := by
          rw [List.getElem?_eq_getElem hn] at hpe
          injection hpe
        have e0' : w2.cell? ⟨pb, po + (pulK (1000 * rate) l k).length, none⟩ = some (.int .i64 (k : Int)) := by rw [← hpe2]; exact e0
        have hlp := cell_lt e0'
        have hd1 : decide ((pulK (1000 * rate) l k).length < (pulK (1000 * rate) l l.length).length) = true := decide_eq_true hn
        clear hpf e0 hpe hpe2 hh hps hps2
        generalize (pulK (1000 * rate) l l.length).length = N at *
        generalize hne : (pulK (1000 * rate) l k).length = n at *
        have HNE := Lib.hid hne
        clear hne
        generalize sumTo l k = s at *
        generalize l[k] = y at *
        go_wp2_with fail
        go_round
        case rel => exact ⟨k + 1, by omega, by go_num, by rw [HPS.out]; rfl, by rw [HST.out]⟩
        case measure => simp [intOf]; omega
    · obtain rfl : k = l.length := by omega
      have HMZ : Hid (intV ((l.take 0).map (b * ·)) = []) := Lib.hid (by simp [intV])
      obtain ⟨wo, hwo⟩ : ∃ wo, wo = w2 := ⟨_, rfl⟩
      subst hwo
      generalize hNe : (pulK (1000 * rate) l l.length).length = N at *
      have HNE := Lib.hid hNe
      clear hNe
      go_wp2_with fail
      go_loopw [12, 13] (fun u i wr => ∃ k : Nat, k ≤ l.length ∧ i = .int .i64 k ∧ Hid (wr.ownsRow wo.heap.size 3 1 u k (intV ((l.take k).map (b * ·)))) ∧ Hid (Below wo.heap.size wo wr)) (fun _ i _ => l.length - (intOf i).toNat)
      case atStart => exact ⟨0, Nat.zero_le _, rfl, Lib.hid (by rw [HMZ.out]; exact own_nil), Lib.hid (Below.refl _ _)⟩
      case round =>
        obtain ⟨k, hk, rfl, HM, HB2⟩ := hrel
        have HBW := Lib.hid (bThen HB1.out HB2.out)
        by_cases hlt : k < l.length
        · obtain ⟨vb, vo, rfl, hf⟩ := HV.out.at (by intro h; simp [h] at hlt)
          have c0 : wr.cell? ⟨vb, vo + k, none⟩ = some (.int .i64 l[k]) := by
            have h := keep HBW.out (hf k hlt)
            rw [Nat.mul_one] at h; exact h
          have hlb := cell_lt c0
          have hfr := HFO.out.get hlt
          have HTK : Hid ((l.take (k + 1)).map (b * ·) = (l.take k).map (b * ·) ++ [b * l[k]]) := Lib.hid (by rw [take_succ l k hlt, List.map_append]; rfl)
          have hlk : ((l.take k).map (b * ·)).length = k := by simp; omega
          have HLK := Lib.hid hlk
          clear hf hlk
          generalize l[k] = y at *
          have hm := mul_in (A := 20) (B := 96000000) (show -20 ≤ b by omega) (by omega) (show -96000000 ≤ y by omega) (by omega)
          have w1 : IntKind.i64.wrap (b * y) = b * y := IntWalk.i64_in _ (by omega)
          generalize (l.take k).map (b * ·) = M at *
          have hwn : wo.heap.size ≤ wr.heap.size := HB2.out.size
          have HWN := Lib.hid hwn
          clear hwn
          go_wp2_with (at_builtin; go_loud (refine wpList_append_own _ rfl _ _ 34 rfl wo.heap.size 3 i3 (.int .i64 0) 1 8 Tryd.underlying34 HI.out hz3 hs3 hb3 rfl (by decide) u12 _ _ rfl (HM.out.alloc _) ⟨wr.heap.size, 0, none⟩ 1 1 _ rfl (by rfl) (cell_one_new _ _ _) (by simp [Value.oneCell']) (by unfold maxLen; omega) (by omega) (by have := HWN.out; simp; omega) ?_); intro v' w5 hown' hgrow _; have HU := Lib.hid (And.intro hown' hgrow); clear hown' hgrow)
          obtain ⟨hown', hgrow⟩ := HU.out
          have HB5 : Hid (Below wo.heap.size wo w5) := Lib.hid (HB2.out.trans (own_step HB2.out.size HM.out hgrow))
          have HR5 : Hid (w5.ownsRow wo.heap.size 3 1 v' (k + 1) (intV ((l.take (k + 1)).map (b * ·)))) := Lib.hid (by
            rw [HTK.out]
            have h := hown'
            simpa [intV] using h)
          clear hown' hgrow
          go_roundw
          case rel =>
            first
              | exact ⟨k + 1, by omega, by go_num, HR5, HB5⟩
              | ((repeat apply Exists.intro); refine ⟨?_, rfl⟩; exact ⟨k + 1, by omega, by go_num, HR5, HB5⟩)
          case measure => simp [intOf]; omega
        · obtain rfl : k = l.length := by omega
          rw [List.take_length] at HM
          have HBW := Lib.hid (bThen HB1.out HB2.out)
          have hm := mul_in (A := 192000) (B := 20) (show -192000 ≤ rate by omega) (by omega) (show -20 ≤ b by omega) (by omega)
          have w1 : IntKind.i64.wrap (rate * b) = rate * b := IntWalk.i64_in _ (by omega)
          by_cases a4 : rate * b > 192000
          · have d4 : decide (rate * b > 192000) = true := decide_eq_true a4
            go_wp2_with fail
            refine (H15.out _ HBW.out).mono ?_
            rintro e w9 ⟨rfl, hb⟩
            have HB9 := Lib.hid (bThen HBW.out hb)
            clear hb
            go_wp2_with fail
            go_ret
            exact ⟨rfl, HB9.out⟩
          · have d4 : decide (rate * b > 192000) = false := decide_eq_false a4
            have hll : (l.map (b * ·)).length = l.length := List.length_map _
            have hsl : SliceV wr u12 1 IntAt (l.map (b * ·)) := vals_slice (by rw [hll]; exact HM.out) (by rw [hll]; omega)
            have H39b := Lib.hid (Pulses_any (rate * b) (l.map (b * ·)) u12 wr hsl)
            have HOK2 := Lib.hid (freqs_scale (b := b) ⟨by omega, by omega⟩ HFO.out (by omega))
            have HPS := Lib.hid (pulses_scale (b := b) (rate := rate) (by omega) l)
            clear hll hsl hm
            go_wp2_with fail
            refine H39b.out.mono ?_
            rintro e w5 ⟨⟨hno, -⟩ | ⟨-, ad5, c5, rfl, hr5⟩, hb⟩
            · rw [HOK2.out] at hno; cases hno
            rw [HPS.out, ← pulK_all] at hr5
            have HR5 := Lib.hid hr5
            have HR4 := Lib.hid (HR.out.keep IntAt.stable (bThen HB2.out hb))
            have HB5 := Lib.hid (bThen HBW.out hb)
            have hpl : (pulses (1000 * (rate * b)) (l.map (b * ·))).length = N := by rw [HPS.out, ← HNE.out, pulK_all, List.length_map]
            have hpl2 : (pulses (1000 * rate) l).length = N := by rw [← HNE.out, pulK_all, List.length_map]
            rw [hpl2] at HR5
            rw [hpl]
            clear hb hr5 hpl hpl2
            go_wp2_with fail
            refine (Same_any _ _ _ _ _ HR4.out HR5.out).mono ?_
            rintro e w6 ⟨rfl, hb⟩
            rw [decide_eq_true rfl]
            have HB6 := Lib.hid (bThen HB5.out hb)
            clear hb
            go_wp2_with fail
            refine (H15.out _ HB6.out).mono ?_
            rintro e w9 ⟨rfl, hb⟩
            have HB9 := Lib.hid (bThen HB6.out hb)
            clear hb
            go_wp2_with fail
            go_ret
            exact ⟨rfl, HB9.out⟩
end Go.Proofs.YtejcbcjhmnhefaaDoor
