/- The law of values. -/
import Derived.Test.YtejcbcjhmnhefaaDoorL31
set_option linter.unusedSimpArgs false
set_option linter.unusedVariables false
namespace Go.Proofs.YtejcbcjhmnhefaaDoor
open Go.RowKit

set_option maxRecDepth 100000 in
set_option maxHeartbeats 8000000 in
theorem lawValues_any (x : Cmd) (t : Int) (v : Value) (w : World) (hv : SliceV w v 2 KnotAt x.shape) (hS : Semi w) :
    Calls Tryd.prog 3 #[.agg #[.int .i64 x.at_, .int .i64 x.height, v], .int .i64 t] w fun e w' => e = .returned (.bool true) ∧ Below w.heap.size w w' := by
  have HS := Lib.hid hS
  have HV := Lib.hid hv
  obtain ⟨a, c, rfl, hl, -⟩ := hv
  unfold most at hl
  have H15 : Hid (∀ W, Below w.heap.size w W → Calls Tryd.prog 15 #[] W fun e w' => e = .returned (.bool true) ∧ Below W.heap.size W w') := Lib.hid fun W hB => known_any W (HS.out.keep hB)
  have H16 : Hid (∀ W, Below w.heap.size w W → _) := Lib.hid fun W hB => Value_any x t (.slice a x.shape.length c) W (HV.out.keep KnotAt.stable hB)
  have H17 : Hid (∀ W, Below w.heap.size w W → _) := Lib.hid fun W hB => refCommand_any x (.slice a x.shape.length c) W (HV.out.keep KnotAt.stable hB)
  obtain ⟨W1, hW1⟩ : ∃ W1, W1 = w.alloc (.cells #[.int .i64 x.at_, .int .i64 x.height, .slice a x.shape.length c] 24) := ⟨_, rfl⟩
  have hcells : ∀ j v, (#[Value.int .i64 x.at_, .int .i64 x.height, .slice a x.shape.length c] : Array Value)[j]? = some v → W1.cell? ⟨w.heap.size, j, none⟩ = some v := fun j v h => by
    rw [hW1]; exact cell_new h
  have HK : Hid ((∀ W', Below W1.heap.size W1 W' → W'.cell? ⟨w.heap.size, 0, none⟩ = some (.int .i64 x.at_)) ∧ (∀ W', Below W1.heap.size W1 W' → W'.cell? ⟨w.heap.size, 1, none⟩ = some (.int .i64 x.height)) ∧ (∀ W', Below W1.heap.size W1 W' → W'.cell? ⟨w.heap.size, 2, none⟩ = some (.slice a x.shape.length c))) :=
    Lib.hid ⟨fun W' hB => keep hB (hcells 0 _ rfl), fun W' hB => keep hB (hcells 1 _ rfl), fun W' hB => keep hB (hcells 2 _ rfl)⟩
  have HBB : Hid (Below w.heap.size w W1) := Lib.hid (by rw [hW1]; exact bAlloc (Below.refl _ _) _)
  have HW1 := Lib.hid hW1
  clear hcells hW1 hS
  by_cases h40 : (x.shape.length : Int) > 40
  · have hd : decide ((x.shape.length : Int) > 40) = true := decide_eq_true h40
    have HB1 := Lib.hid (Below.refl W1.heap.size W1)
    go_enter Tryd.func3, Tryd.ntmps3
    go_wp2_with fail
    rw [← HW1.out]
    refine (H15.out _ (bThen HBB.out HB1.out)).mono ?_
    rintro e w9 ⟨rfl, hb⟩
    have HB9 := Lib.hid (bThen (bThen HBB.out HB1.out) hb)
    clear hb
    go_wp2_with fail
    go_ret
    exact ⟨rfl, HB9.out⟩
  · have hd : decide ((x.shape.length : Int) > 40) = false := decide_eq_false h40
    by_cases hin : cmdOk x = true ∧ betw t (-4000) 8000 = true
    · have hr : valueRes x t = .tuple #[.int .i64 (cmdVal x t), .int .i64 0] := if_pos hin
      rw [hr] at H16
      rw [hin.1] at H17
      have ht := betw_in hin.2
      have H18 : Hid (∀ W, Below w.heap.size w W → _) := Lib.hid fun W hB => refValue_any x t (.slice a x.shape.length c) W (HV.out.keep KnotAt.stable hB) hin.1 (by omega)
      have hd1 : decide (t < -4000) = false := decide_eq_false (by omega)
      have hd2 : decide (t > 8000) = false := decide_eq_false (by omega)
      have hd3 : ¬ (t < -4000) := by omega
      have hd4 : ¬ (t > 8000) := by omega
      clear hr hin
      go_enter Tryd.func3, Tryd.ntmps3
      go_wp2_with fail
      rw [← HW1.out]
      refine (H16.out _ HBB.out).mono ?_
      rintro e w1 ⟨rfl, hb⟩
      have HB1 := Lib.hid hb
      clear hb
      have c0 := HK.out.1 _ HB1.out
      have c1 := HK.out.2.1 _ HB1.out
      have c2 := HK.out.2.2 _ HB1.out
      have hlc := cell_lt c0
      go_wp2_with fail
      clear c0 c1 c2 hlc
      refine (H17.out _ (bThen HBB.out HB1.out)).mono ?_
      rintro e w2 ⟨rfl, hb⟩
      replace HB1 := Lib.hid (bThen HB1.out hb)
      clear hb
      have c0 := HK.out.1 _ HB1.out
      have c1 := HK.out.2.1 _ HB1.out
      have c2 := HK.out.2.2 _ HB1.out
      have hlc := cell_lt c0
      go_wp2_with fail
      clear c0 c1 c2 hlc
      refine (H18.out _ (bThen HBB.out HB1.out)).mono ?_
      rintro e w3 ⟨rfl, hb⟩
      replace HB1 := Lib.hid (bThen HB1.out hb)
      clear hb
      go_wp2_with fail
      refine (H15.out _ (bThen HBB.out HB1.out)).mono ?_
      rintro e w9 ⟨rfl, hb⟩
      have HB9 := Lib.hid (bThen (bThen HBB.out HB1.out) hb)
      clear hb
      go_wp2_with fail
      go_ret
      exact ⟨rfl, HB9.out⟩
    · have hr : valueRes x t = .tuple #[.int .i64 0, .int .i64 2] := if_neg hin
      rw [hr] at H16
      clear hr
      cases hok : cmdOk x
      · rw [hok] at H17
        clear hin
        go_enter Tryd.func3, Tryd.ntmps3
        go_wp2_with fail
        rw [← HW1.out]
        refine (H16.out _ HBB.out).mono ?_
        rintro e w1 ⟨rfl, hb⟩
        have HB1 := Lib.hid hb
        clear hb
        have c0 := HK.out.1 _ HB1.out
        have c1 := HK.out.2.1 _ HB1.out
        have c2 := HK.out.2.2 _ HB1.out
        have hlc := cell_lt c0
        go_wp2_with fail
        clear c0 c1 c2 hlc
        refine (H17.out _ (bThen HBB.out HB1.out)).mono ?_
        rintro e w2 ⟨rfl, hb⟩
        replace HB1 := Lib.hid (bThen HB1.out hb)
        clear hb
        go_wp2_with fail
        refine (H15.out _ (bThen HBB.out HB1.out)).mono ?_
        rintro e w9 ⟨rfl, hb⟩
        have HB9 := Lib.hid (bThen (bThen HBB.out HB1.out) hb)
        clear hb
        go_wp2_with fail
        go_ret
        exact ⟨rfl, HB9.out⟩
      · rw [hok] at H17 hin
        have hbt : ¬ (-4000 ≤ t ∧ t ≤ 8000) := fun h => hin ⟨rfl, by simp [betw]; omega⟩
        clear hin
        by_cases hlo : t < -4000
        · have hd1 : decide (t < -4000) = true := decide_eq_true hlo
          go_enter Tryd.func3, Tryd.ntmps3
          go_wp2_with fail
          rw [← HW1.out]
          refine (H16.out _ HBB.out).mono ?_
          rintro e w1 ⟨rfl, hb⟩
          have HB1 := Lib.hid hb
          clear hb
          have c0 := HK.out.1 _ HB1.out
          have c1 := HK.out.2.1 _ HB1.out
          have c2 := HK.out.2.2 _ HB1.out
          have hlc := cell_lt c0
          go_wp2_with fail
          clear c0 c1 c2 hlc
          refine (H17.out _ (bThen HBB.out HB1.out)).mono ?_
          rintro e w2 ⟨rfl, hb⟩
          replace HB1 := Lib.hid (bThen HB1.out hb)
          clear hb
          go_wp2_with fail
          refine (H15.out _ (bThen HBB.out HB1.out)).mono ?_
          rintro e w9 ⟨rfl, hb⟩
          have HB9 := Lib.hid (bThen (bThen HBB.out HB1.out) hb)
          clear hb
          go_wp2_with fail
          go_ret
          exact ⟨rfl, HB9.out⟩
        · have hd1 : decide (t < -4000) = false := decide_eq_false hlo
          have hhi : t > 8000 := by omega
          have hd2 : decide (t > 8000) = true := decide_eq_true hhi
          go_enter Tryd.func3, Tryd.ntmps3
          go_wp2_with fail
          rw [← HW1.out]
          refine (H16.out _ HBB.out).mono ?_
          rintro e w1 ⟨rfl, hb⟩
          have HB1 := Lib.hid hb
          clear hb
          have c0 := HK.out.1 _ HB1.out
          have c1 := HK.out.2.1 _ HB1.out
          have c2 := HK.out.2.2 _ HB1.out
          have hlc := cell_lt c0
          go_wp2_with fail
          clear c0 c1 c2 hlc
          refine (H17.out _ (bThen HBB.out HB1.out)).mono ?_
          rintro e w2 ⟨rfl, hb⟩
          replace HB1 := Lib.hid (bThen HB1.out hb)
          clear hb
          go_wp2_with fail
          refine (H15.out _ (bThen HBB.out HB1.out)).mono ?_
          rintro e w9 ⟨rfl, hb⟩
          have HB9 := Lib.hid (bThen (bThen HBB.out HB1.out) hb)
          clear hb
          go_wp2_with fail
          go_ret
          exact ⟨rfl, HB9.out⟩
end Go.Proofs.YtejcbcjhmnhefaaDoor
