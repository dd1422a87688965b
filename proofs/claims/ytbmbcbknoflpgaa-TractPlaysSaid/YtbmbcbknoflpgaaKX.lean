/- Contracts: the examples of the chapter. -/
import Derived.Test.YtbmbcbknoflpgaaK9
set_option linter.unusedSimpArgs false
set_option linter.unusedVariables false
namespace Go.Proofs.Ytbmbcbknoflpgaa
open Go.RowKit

set_option maxRecDepth 10000 in
set_option maxHeartbeats 4000000 in
theorem known_any (w : World) : Calls Try.prog 17 #[] w fun e w' => e = .returned (.bool true) ∧ Below w.heap.size w w' := by
  have HB0 : Hid (Below w.heap.size w ((w.alloc (.cells #[.int .i64 1, .int .i64 3] 3)).alloc (.cells #[.int .i64 8, .int .i64 0] 3))) := Lib.hid (bAlloc (bAlloc (Below.refl _ _) _) _)
  have HSC := Lib.hid (Scatter_any [1, 3] [8, 0] (.slice (some ⟨w.heap.size, 0, none⟩) 2 2) (.slice (some ⟨w.heap.size + 1, 0, none⟩) 2 2) ((w.alloc (.cells #[.int .i64 1, .int .i64 3] 3)).alloc (.cells #[.int .i64 8, .int .i64 0] 3)) ((lit2 w 1 3).keep IntAt.stable (bAlloc (Below.refl _ _) _)) (by have := lit2 (w.alloc (.cells #[.int .i64 1, .int .i64 3] 3)) 8 0; rw [World.size_alloc] at this; exact this))
  rw [show (if meetOk [1, 3] [8, 0] = true then (0 : Int) else 2) = 0 by decide +kernel, show (if meetOk [1, 3] [8, 0] = true then sctL [1, 3] [8, 0] else []) = [-4, 4] by decide +kernel] at HSC
  go_enter Try.func17, Try.ntmps17
  go_wp2_with (go_at_call 20; with_reducible refine Calls.mono HSC.out ?_; rintro e w1 ⟨⟨r1, rfl, hs1⟩, hb1⟩; have HS1 := Lib.hid hs1; have HB1 := Lib.hid (bThen HB0.out hb1); clear hs1 hb1)
  have hbN := bAlloc (Below.refl w1.heap.size w1) (.cells #[.int .i64 1, .int .i64 1, .int .i64 1] 3)
  have HNW := Lib.hid (New_ok kS (.slice (some ⟨w1.heap.size, 0, none⟩) 3 3) (.slice none 0 0) (w1.alloc (.cells #[.int .i64 1, .int .i64 1, .int .i64 1] 3)) (lit3 w1 1 1 1) (nil_slice _) (by decide +kernel))
  have HNX : Hid (Calls Try.prog 25 #[.agg #[.slice (some ⟨w1.heap.size, 0, none⟩) 3 3, .slice none 0 0, .int .i64 0, .int .i64 0, .int .i64 50, .int .i64 0]] (w1.alloc (.cells #[.int .i64 1, .int .i64 1, .int .i64 1] 3)) fun e w' => (∃ tb wb, e = .returned (.tuple #[.pointer (some ⟨tb, 0, none⟩), .int .i64 0]) ∧ TubeIs w1.heap.size w' tb [1, 1, 1] 3 kP 0 wb (fun _ => 0)) ∧ Below w1.heap.size w1 w') := Lib.hid (HNW.out.mono fun _ _ ⟨⟨tb, wb, h1, h2⟩, h3⟩ => ⟨⟨tb, wb, h1, TubeIs.mono h2 (by simp)⟩, bThen hbN h3⟩)
  clear HNW hbN
  with_reducible refine Calls.mono HNX.out ?_
  rintro e w2 ⟨⟨tb, wb, rfl, ht0⟩, hb2⟩
  have HT0 := Lib.hid ht0
  have HB2 := Lib.hid hb2
  clear ht0 hb2 HNX
  have HS1W : Hid (Calls Try.prog 31 #[.pointer (some ⟨tb, 0, none⟩), .slice (some ⟨w2.heap.size, 0, none⟩) 1 1] (w2.alloc (.cells #[.int .i64 0, .int .i64 100] 59)) fun e w' => (∃ v, e = .returned v) ∧ TubeIs w1.heap.size w' tb [1, 1, 1] 3 kP 1 wb kF1 ∧ Below w1.heap.size w1 w') := Lib.hid ((step_one (p := w2.heap.size) (HT0.out.below (bAlloc (Below.refl _ _) (.cells #[.int .i64 0, .int .i64 100] 59))) kOk (by omega) 0 100 (by omega) (by omega) (World.alloc_heap_new w2 _)).mono fun _ _ ⟨a, b, c⟩ => ⟨⟨_, a⟩, b, (bAlloc' HB2.out HB2.out.size _).trans c⟩)
  go_wp2_with fail
  with_reducible refine Calls.mono HS1W.out ?_
  rintro e w3 ⟨⟨v1, rfl⟩, ht1, hb3⟩
  have HT1 := Lib.hid ht1
  have HB3 := Lib.hid hb3
  clear ht1 hb3 HS1W HT0
  have HS2W : Hid (Calls Try.prog 31 #[.pointer (some ⟨tb, 0, none⟩), .slice none 0 0] w3 fun e w' => (∃ v, e = .returned v) ∧ TubeIs w1.heap.size w' tb [1, 1, 1] 3 kP 2 wb kF2 ∧ Below w1.heap.size w1 w') := Lib.hid ((step_quiet HT1.out kOk (by omega)).mono fun _ _ ⟨a, b, c⟩ => ⟨⟨_, a⟩, b, HB3.out.trans c⟩)
  go_wp2_with fail
  with_reducible refine Calls.mono HS2W.out ?_
  rintro e w4 ⟨⟨v2, rfl⟩, ht2, hb4⟩
  have HT2 := Lib.hid ht2
  have HB4 := Lib.hid hb4
  clear ht2 hb4 HS2W HT1
  have HS3W : Hid (Calls Try.prog 31 #[.pointer (some ⟨tb, 0, none⟩), .slice none 0 0] w4 fun e w' => (∃ v, e = .returned v) ∧ TubeIs w1.heap.size w' tb [1, 1, 1] 3 kP 3 wb kF3 ∧ Below w1.heap.size w1 w') := Lib.hid ((step_quiet HT2.out kOk (by omega)).mono fun _ _ ⟨a, b, c⟩ => ⟨⟨_, a⟩, b, HB4.out.trans c⟩)
  go_wp2_with fail
  with_reducible refine Calls.mono HS3W.out ?_
  rintro e w5 ⟨⟨v3, rfl⟩, ht3, hb5⟩
  have HT3 := Lib.hid ht3
  have HB5 := Lib.hid hb5
  clear ht3 hb5 HS3W HT2
  have HEW : Hid (Calls Try.prog 34 #[.pointer (some ⟨tb, 0, none⟩)] w5 fun e w' => e = .returned (.int .i64 10000) ∧ Below w5.heap.size w5 w') := Lib.hid ((tube_energy HT3.out kOk (by omega)).mono fun _ _ ⟨a, b⟩ => ⟨by rw [a]; exact congrArg (fun x => Ending.returned (Value.int .i64 x)) (by decide +kernel), b⟩)
  go_wp2_with fail
  with_reducible refine Calls.mono HEW.out ?_
  rintro e w6 ⟨rfl, hb6⟩
  have HT3b := Lib.hid (HT3.out.below hb6)
  have HB6 := Lib.hid (HB5.out.trans (hb6.mono HT3.out.top))
  clear hb6 HEW HT3
  have HS4W : Hid (Calls Try.prog 31 #[.pointer (some ⟨tb, 0, none⟩), .slice none 0 0] w6 fun e w' => e = .returned (.tuple #[.agg #[.int .i64 50, .int .i64 0], .int .i64 0]) ∧ TubeIs w1.heap.size w' tb [1, 1, 1] 3 kP 4 wb kF4 ∧ Below w1.heap.size w1 w') := Lib.hid ((step_quiet HT3b.out kOk (by omega)).mono fun _ _ ⟨a, b, c⟩ => ⟨by rw [a, show lipF [1, 1, 1] 3 kP 3 kF3 = 50 by decide +kernel, show nosF [1, 1, 1] 3 kP 3 kF3 = 0 by decide +kernel], b, HB6.out.trans c⟩)
  go_wp2_with fail
  with_reducible refine Calls.mono HS4W.out ?_
  rintro e w7 ⟨rfl, ht4, hb7⟩
  have HT4 := Lib.hid ht4
  have HB7 := Lib.hid hb7
  clear ht4 hb7 HS4W HT3b
  have HWA : Hid (Below w7.heap.size w7 (((w7.alloc (.cells #[.int .i64 50, .int .i64 0] 51)).alloc (.cells #[.int .i64 100] 3)).alloc (.cells #[.int .i64 0, .int .i64 0, .int .i64 0, .int .i64 2, .int .i64 200, .int .i64 500] 76))) := Lib.hid (bAlloc (bAlloc (bAlloc (Below.refl _ _) _) _) _)
  have HHB : Hid ((((w7.alloc (.cells #[.int .i64 50, .int .i64 0] 51)).alloc (.cells #[.int .i64 100] 3)).alloc (.cells #[.int .i64 0, .int .i64 0, .int .i64 0, .int .i64 2, .int .i64 200, .int .i64 500] 76)).heap[w7.heap.size]? = some (.cells #[.int .i64 50, .int .i64 0] 51 (0, 0))) := Lib.hid (heap_keep (bAlloc (bAlloc (Below.refl _ _) _) _) (World.alloc_heap_new w7 _))
  have HAR0 := Areas_any [100] [⟨0, 0, 0, 2, 200, 500⟩] 3 (.slice (some ⟨w7.heap.size + 1, 0, none⟩) 1 1) (.slice (some ⟨w7.heap.size + 1 + 1, 0, none⟩) 1 1) (((w7.alloc (.cells #[.int .i64 50, .int .i64 0] 51)).alloc (.cells #[.int .i64 100] 3)).alloc (.cells #[.int .i64 0, .int .i64 0, .int .i64 0, .int .i64 2, .int .i64 200, .int .i64 500] 76))
    (by have := lit1 (w7.alloc (.cells #[.int .i64 50, .int .i64 0] 51)) 100; rw [World.size_alloc] at this; exact this.keep IntAt.stable (bAlloc (Below.refl _ _) _))
    (by
      refine ⟨_, 1, rfl, ⟨by simp [most], by simp⟩, .inr ⟨w7.heap.size + 1 + 1, 0, rfl, fun i hi => ?_⟩⟩
      obtain rfl : i = 0 := by simp at hi; omega
      have h := World.alloc_heap_new ((w7.alloc (.cells #[.int .i64 50, .int .i64 0] 51)).alloc (.cells #[.int .i64 100] 3)) (.cells #[.int .i64 0, .int .i64 0, .int .i64 0, .int .i64 2, .int .i64 200, .int .i64 500] 76)
      rw [World.size_alloc, World.size_alloc] at h
      have c0 := cell_of_heap (j := 0) h (show 0 < 6 by omega)
      have c1 := cell_of_heap (j := 1) h (show 1 < 6 by omega)
      have c2 := cell_of_heap (j := 2) h (show 2 < 6 by omega)
      have c3 := cell_of_heap (j := 3) h (show 3 < 6 by omega)
      have c4 := cell_of_heap (j := 4) h (show 4 < 6 by omega)
      have c5 := cell_of_heap (j := 5) h (show 5 < 6 by omega)
      exact ⟨c0, c1, c2, c3, c4, c5⟩)
  have HARW : Hid (Calls Try.prog 40 #[.slice (some ⟨w7.heap.size + 1, 0, none⟩) 1 1, .slice (some ⟨w7.heap.size + 1 + 1, 0, none⟩) 1 1, .int .i64 3] (((w7.alloc (.cells #[.int .i64 50, .int .i64 0] 51)).alloc (.cells #[.int .i64 100] 3)).alloc (.cells #[.int .i64 0, .int .i64 0, .int .i64 0, .int .i64 2, .int .i64 200, .int .i64 500] 76)) fun e w' => (∃ v, e = .returned (.tuple #[v, .int .i64 0]) ∧ SliceV w' v 1 WaveAt [[125], [150], [151]]) ∧ w'.heap[w7.heap.size]? = some (.cells #[.int .i64 50, .int .i64 0] 51 (0, 0)) ∧ Below w7.heap.size w7 w') := Lib.hid (HAR0.mono fun e w' ⟨hp, hb⟩ => by
    refine ⟨?_, heap_keep hb HHB.out, bThen HWA.out hb⟩
    have hok : scoOk [100] [⟨0, 0, 0, 2, 200, 500⟩] = true := by decide +kernel
    rcases hp with ⟨h, -⟩ | ⟨-, -, h, -⟩ | ⟨-, -, -, v, he, hv⟩
    · rw [hok] at h; rcases h with h | h
      · cases h
      · omega
    · rcases h with h | h
      · omega
      · simp at h
    · exact ⟨v, he, by rwa [show (List.range (3 : Int).toNat).map (arL [100] [⟨0, 0, 0, 2, 200, 500⟩]) = [[125], [150], [151]] by decide +kernel] at hv⟩)
  clear HAR0 HHB HWA
  go_wp2_with fail
  with_reducible refine Calls.mono HARW.out ?_
  rintro e w8 ⟨⟨v8, rfl, hs8⟩, hh8, hb8⟩
  obtain ⟨la, lc, rfl, hl8, hx8⟩ := id hs8
  have HL8 := Lib.hid hs8
  have HH8 := Lib.hid hh8
  have HB8 := Lib.hid (HB7.out.trans (hb8.mono HT4.out.top))
  have HT5 := Lib.hid (HT4.out.below hb8)
  clear hs8 hh8 hb8 HARW hl8 hx8
  have HPU0 := Pulses_any [⟨1, 4, 4, 10⟩] (.slice (some ⟨w8.heap.size, 0, none⟩) 1 1) (w8.alloc (.cells #[.int .i64 1, .int .i64 4, .int .i64 4, .int .i64 10] 103)) (by
      refine ⟨_, 1, rfl, ⟨by simp [most], by simp⟩, .inr ⟨w8.heap.size, 0, rfl, fun i hi => ?_⟩⟩
      obtain rfl : i = 0 := by simp at hi; omega
      have h := World.alloc_heap_new w8 (.cells #[.int .i64 1, .int .i64 4, .int .i64 4, .int .i64 10] 103)
      have c0 := cell_of_heap (j := 0) h (show 0 < 4 by omega)
      have c1 := cell_of_heap (j := 1) h (show 1 < 4 by omega)
      have c2 := cell_of_heap (j := 2) h (show 2 < 4 by omega)
      have c3 := cell_of_heap (j := 3) h (show 3 < 4 by omega)
      exact ⟨c0, c1, c2, c3⟩)
  rw [show pulErr [⟨1, 4, 4, 10⟩] = 0 by decide +kernel, if_pos rfl, show pulL [⟨1, 4, 4, 10⟩] = [0, 7, 10, 7] by decide +kernel] at HPU0
  have HPU := Lib.hid HPU0
  clear HPU0
  go_wp2_with fail
  with_reducible refine Calls.mono HPU.out ?_
  rintro e w9 ⟨⟨v9, rfl, hs9⟩, hb9⟩
  have hb9 := bThen (bAlloc (Below.refl _ _) _) hb9
  have HS9 := Lib.hid hs9
  have HL9 := Lib.hid (HL8.out.keep WaveAt.stable hb9)
  have HH9 := Lib.hid (heap_keep hb9 HH8.out)
  have HB9 := Lib.hid (HB8.out.trans (hb9.mono HT5.out.top))
  have HT9 := Lib.hid (HT5.out.below hb9)
  clear hs9 hb9 HPU HL8 HH8 HB8 HT5
  have HNO0 := Noise_any 0 1 2 w9
  rw [show noiErr 0 1 2 = 0 by decide +kernel, if_pos rfl, show noiL 0 1 (2 : Int).toNat = [1, 0] by decide +kernel] at HNO0
  have HNO := Lib.hid HNO0
  clear HNO0
  go_wp2_with fail
  with_reducible refine Calls.mono HNO.out ?_
  rintro e wa ⟨⟨va, rfl, hsa⟩, hba⟩
  have HSA := Lib.hid hsa
  have HSP := Lib.hid (HS9.out.keep IntAt.stable hba)
  have HLA := Lib.hid (HL9.out.keep WaveAt.stable hba)
  have HHA := Lib.hid (heap_keep hba HH9.out)
  have HBA := Lib.hid (HB9.out.trans (hba.mono HT9.out.top))
  have HTA := Lib.hid (HT9.out.below hba)
  clear hsa hba HNO HS9 HL9 HH9 HB9 HT9
  have HSR := Lib.hid (HS1.out.keep IntAt.stable HBA.out)
  go_wp2_with fail
  have HSM1 := Same_any [-4, 4] [-4, 4] r1 (.slice (some ⟨wa.heap.size, 0, none⟩) 2 2) (wa.alloc (.cells #[.int .i64 (-4), .int .i64 4] 3)) (HSR.out.keep IntAt.stable (bAlloc (Below.refl _ _) _)) (lit2 wa (-4) 4)
  rw [decide_eq_true rfl] at HSM1
  with_reducible refine Calls.mono HSM1 ?_
  rintro e wc ⟨rfl, hbc⟩
  have hbc := bThen (bAlloc (Below.refl _ _) _) hbc
  have HS9 := Lib.hid (HSP.out.keep IntAt.stable hbc)
  have HSN := Lib.hid (HSA.out.keep IntAt.stable hbc)
  have HLC := Lib.hid (HLA.out.keep WaveAt.stable hbc)
  have HHC := Lib.hid (heap_keep hbc HHA.out)
  have HBC := Lib.hid (HBA.out.trans (hbc.mono HTA.out.top))
  have HTC := Lib.hid (HTA.out.below hbc)
  clear hbc HSM1 HSP HSA HLA HHA HBA HTA HSR
  have HEN : Hid (Calls Try.prog 34 #[.pointer (some ⟨tb, 0, none⟩)] wc fun e w' => e = .returned (.int .i64 2500) ∧ Below wc.heap.size wc w') := Lib.hid ((tube_energy HTC.out kOk (by omega)).mono fun _ _ ⟨a, b⟩ => ⟨by rw [a]; exact congrArg (fun x => Ending.returned (Value.int .i64 x)) (by decide +kernel), b⟩)
  go_wp2_with fail
  with_reducible refine Calls.mono HEN.out ?_
  rintro e wd ⟨rfl, hbd⟩
  have HS9D := Lib.hid (HS9.out.keep IntAt.stable hbd)
  have HSND := Lib.hid (HSN.out.keep IntAt.stable hbd)
  have HLD := Lib.hid (HLC.out.keep WaveAt.stable hbd)
  have HHD := Lib.hid (heap_keep hbd HHC.out)
  have HBD := Lib.hid (HBC.out.trans (hbd.mono HTC.out.top))
  have HZD : Hid (w1.heap.size ≤ wd.heap.size) := Lib.hid HBD.out.size
  clear hbd HEN HS9 HSN HLC HHC HBC HTC
  have h0 := cell_of_heap (j := 0) HHD.out (show 0 < 2 by omega)
  have h1 := cell_of_heap (j := 1) HHD.out (show 1 < 2 by omega)
  simp at h0 h1
  have hl0 := cell_lt h0
  obtain ⟨lb, lo, rfl, hf⟩ := HLD.out.at (by simp)
  obtain ⟨v2x, hc2, hs2⟩ := hf 2 (by simp)
  obtain ⟨xa, xc, rfl, hxl, hxx⟩ := id hs2
  have hl2 := cell_lt hc2
  simp only [Nat.mul_one] at hc2
  have HS151 : Hid (SliceV wd (.slice xa 1 xc) 1 IntAt [151]) := Lib.hid hs2
  simp only [List.getElem_cons_succ, List.getElem_cons_zero, List.length_cons, List.length_nil, Nat.zero_add] at hc2
  clear hf hs2 hxl hxx
  go_wp2_with fail
  have HSM2 := Same_any [151] [151] (.slice xa 1 xc) (.slice (some ⟨wd.heap.size, 0, none⟩) 1 1) (wd.alloc (.cells #[.int .i64 151] 3)) (HS151.out.keep IntAt.stable (bAlloc (Below.refl _ _) _)) (lit1 wd 151)
  rw [decide_eq_true rfl] at HSM2
  with_reducible refine Calls.mono HSM2 ?_
  rintro e we ⟨rfl, hbe⟩
  have hbe := bThen (bAlloc (Below.refl _ _) _) hbe
  have HS9E := Lib.hid (HS9D.out.keep IntAt.stable hbe)
  have HSNE := Lib.hid (HSND.out.keep IntAt.stable hbe)
  have HBE := Lib.hid (HBD.out.trans (hbe.mono HZD.out))
  have HZE : Hid (w1.heap.size ≤ we.heap.size) := Lib.hid HBE.out.size
  clear hbe HSM2 HS9D HSND hc2 h0 h1 hl0 hl2 HS151 HLD HHD
  have HSM3 := Same_any [0, 7, 10, 7] [0, 7, 10, 7] v9 (.slice (some ⟨we.heap.size, 0, none⟩) 4 4) (we.alloc (.cells #[.int .i64 0, .int .i64 7, .int .i64 10, .int .i64 7] 3)) (HS9E.out.keep IntAt.stable (bAlloc (Below.refl _ _) _)) (lit4 we 0 7 10 7)
  rw [decide_eq_true rfl] at HSM3
  go_wp2_with fail
  with_reducible refine Calls.mono HSM3 ?_
  rintro e wf ⟨rfl, hbf⟩
  have hbf := bThen (bAlloc (Below.refl _ _) _) hbf
  have HSNF := Lib.hid (HSNE.out.keep IntAt.stable hbf)
  have HBF := Lib.hid (HBE.out.trans (hbf.mono HZE.out))
  have HZF : Hid (w1.heap.size ≤ wf.heap.size) := Lib.hid HBF.out.size
  clear hbf HSM3 HS9E HSNE
  have HSM4 := Same_any [1, 0] [1, 0] va (.slice (some ⟨wf.heap.size, 0, none⟩) 2 2) (wf.alloc (.cells #[.int .i64 1, .int .i64 0] 3)) (HSNF.out.keep IntAt.stable (bAlloc (Below.refl _ _) _)) (lit2 wf 1 0)
  rw [decide_eq_true rfl] at HSM4
  go_wp2_with fail
  with_reducible refine Calls.mono HSM4 ?_
  rintro e wg ⟨rfl, hbg⟩
  have hbg := bThen (bAlloc (Below.refl _ _) _) hbg
  have HBG := Lib.hid (HBF.out.trans (hbg.mono HZF.out))
  clear hbg HSM4
  go_wp2_with fail
  go_ret
  exact ⟨rfl, bThen HB1.out HBG.out⟩
end Go.Proofs.Ytbmbcbknoflpgaa
