/- The specification's problems. -/
import Derived.Test.YtejcbcjhmnhefaaDoorH5
import Derived.Test.YtejcbcjhmnhefaaDoorC2
import Derived.Test.YtejcbcjhmnhefaaDoorL4
set_option linter.unusedSimpArgs false
set_option linter.unusedVariables false
namespace Go.Proofs.YtejcbcjhmnhefaaDoor
open Go.RowKit

theorem tgt_at {l : List Tgt} {a : Option Addr} {c : Nat} {w : World} (hv : SliceV w (.slice a l.length c) 3 TgtAt l) {k : Nat} (hlt : k < l.length) :
    ∃ b o, a = some ⟨b, o, none⟩ ∧ TgtAt w b (o + k * 3) l[k] := by
  obtain ⟨b, o, rfl, hf⟩ := hv.at (by intro h; simp [h] at hlt)
  exact ⟨b, o, rfl, hf k hlt⟩
set_option maxRecDepth 100000 in
set_option maxHeartbeats 8000000 in
theorem refProblem_any (p : Con) (v : Value) (w : World) (hv : SliceV w v 3 TgtAt p.targets) :
    Calls Tryd.prog 26 #[p.val v] w fun e w' => e = .returned (.bool (conOk p)) ∧ Below w.heap.size w w' := by
  have HV := Lib.hid hv
  obtain ⟨a, c, rfl, hl, -⟩ := hv
  unfold most at hl
  obtain ⟨fr, lo, hi, sl, sm, ts⟩ := p
  simp only [Con.val] at HV hl ⊢
  cases g1 : betw fr 1 200
  · rw [show conOk ⟨fr, lo, hi, sl, sm, ts⟩ = false by simp [conOk, g1]]
    go_enter Tryd.func26, Tryd.ntmps26
    go_wp2_with (go_at_call 49; refine (in_any _ _ _ _).mono ?_; rintro e w' ⟨rfl, rfl⟩)
    go_ret
    exact ⟨rfl, bAlloc (Below.refl _ _) _⟩
  cases g2 : betw lo (-100000) 100000
  · rw [show conOk ⟨fr, lo, hi, sl, sm, ts⟩ = false by simp [conOk, g2]]
    go_enter Tryd.func26, Tryd.ntmps26
    go_wp2_with (go_at_call 49; refine (in_any _ _ _ _).mono ?_; rintro e w' ⟨rfl, rfl⟩)
    go_ret
    exact ⟨rfl, bAlloc (Below.refl _ _) _⟩
  have hl2 := betw_in g2
  have hf2 := betw_in g1
  cases g3 : betw hi (-100000) 100000
  · rw [show conOk ⟨fr, lo, hi, sl, sm, ts⟩ = false by
      have h : betw hi lo (if lo + 400 ≤ 100000 then lo + 400 else 100000) = false := by
        rw [Bool.eq_false_iff] at g3 ⊢
        intro h; apply g3
        have := betw_in h
        simp [betw]; split at this <;> omega
      simp [conOk, h]]
    go_enter Tryd.func26, Tryd.ntmps26
    go_wp2_with (go_at_call 49; refine (in_any _ _ _ _).mono ?_; rintro e w' ⟨rfl, rfl⟩)
    go_ret
    exact ⟨rfl, bAlloc (Below.refl _ _) _⟩
  have hh2 := betw_in g3
  by_cases g4 : hi < lo
  · rw [show conOk ⟨fr, lo, hi, sl, sm, ts⟩ = false by
      have h : betw hi lo (if lo + 400 ≤ 100000 then lo + 400 else 100000) = false := by simp [betw]; omega
      simp [conOk, h]]
    have d4 : decide (hi < lo) = true := decide_eq_true g4
    go_enter Tryd.func26, Tryd.ntmps26
    go_wp2_with (go_at_call 49; refine (in_any _ _ _ _).mono ?_; rintro e w' ⟨rfl, rfl⟩)
    go_ret
    exact ⟨rfl, bAlloc (Below.refl _ _) _⟩
  have d4 : decide (hi < lo) = false := decide_eq_false g4
  by_cases g5 : hi > lo + 400
  · rw [show conOk ⟨fr, lo, hi, sl, sm, ts⟩ = false by
      have h : betw hi lo (if lo + 400 ≤ 100000 then lo + 400 else 100000) = false := by
        rw [Bool.eq_false_iff]
        intro h
        have := betw_in h
        split at this <;> omega
      simp [conOk, h]]
    have d5 : decide (hi > lo + 400) = true := decide_eq_true g5
    go_enter Tryd.func26, Tryd.ntmps26
    go_wp2_with (go_at_call 49; refine (in_any _ _ _ _).mono ?_; rintro e w' ⟨rfl, rfl⟩)
    go_ret
    exact ⟨rfl, bAlloc (Below.refl _ _) _⟩
  have d5 : decide (hi > lo + 400) = false := decide_eq_false g5
  have h3 : betw hi lo (if lo + 400 ≤ 100000 then lo + 400 else 100000) = true := by
    unfold betw
    simp only [Bool.and_eq_true, decide_eq_true_eq]
    split <;> omega
  cases g6 : betw sl 0 400
  · rw [show conOk ⟨fr, lo, hi, sl, sm, ts⟩ = false by simp [conOk, g6]]
    go_enter Tryd.func26, Tryd.ntmps26
    go_wp2_with (go_at_call 49; refine (in_any _ _ _ _).mono ?_; rintro e w' ⟨rfl, rfl⟩)
    go_ret
    exact ⟨rfl, bAlloc (Below.refl _ _) _⟩
  cases g7 : betw sm 0 1000
  · rw [show conOk ⟨fr, lo, hi, sl, sm, ts⟩ = false by simp [conOk, g7]]
    go_enter Tryd.func26, Tryd.ntmps26
    go_wp2_with (go_at_call 49; refine (in_any _ _ _ _).mono ?_; rintro e w' ⟨rfl, rfl⟩)
    go_ret
    exact ⟨rfl, bAlloc (Below.refl _ _) _⟩
  by_cases g8 : (ts.length : Int) > 200
  · have d8 : decide ((ts.length : Int) > 200) = true := decide_eq_true g8
    rw [show conOk ⟨fr, lo, hi, sl, sm, ts⟩ = false by simp [conOk]; omega]
    go_enter Tryd.func26, Tryd.ntmps26
    go_wp2_with (go_at_call 49; refine (in_any _ _ _ _).mono ?_; rintro e w' ⟨rfl, rfl⟩)
    go_ret
    exact ⟨rfl, bAlloc (Below.refl _ _) _⟩
  have d8 : decide ((ts.length : Int) > 200) = false := decide_eq_false g8
  have HF : Hid (conOk ⟨fr, lo, hi, sl, sm, ts⟩ = (ts.drop 0).all (tgtOk fr)) := Lib.hid (by
    unfold conOk
    simp only
    rw [g1, g2, h3, g6, g7, decide_eq_true (show (ts.length : Int) ≤ 200 by omega), List.drop_zero, List.all_eq_not_any_not]; rfl)
  clear h3
  obtain ⟨b0, hb0⟩ : ∃ b0, b0 = w.heap.size := ⟨_, rfl⟩
  go_enter Tryd.func26, Tryd.ntmps26
  go_wp2_with (go_at_call 49; refine (in_any _ _ _ _).mono ?_; rintro e w' ⟨rfl, rfl⟩)
  rw [← hb0]
  generalize hW1 : World.alloc w _ = W1
  have hB1 : Below w.heap.size w W1 := by rw [← hW1]; exact bAlloc (Below.refl _ _) _
  have hp0 : W1.cell? ⟨b0, 0, none⟩ = some (.int .i64 fr) := by rw [← hW1, hb0]; exact cell_new rfl
  have hp5 : W1.cell? ⟨b0, 5, none⟩ = some (.slice a ts.length c) := by rw [← hW1, hb0]; exact cell_new rfl
  have HB1 := Lib.hid hB1
  have HP := Lib.hid (And.intro hp0 hp5)
  clear hW1 hB1 hp0 hp5 hb0
  go_loopw [3] (fun i wr => ∃ k : Nat, k ≤ ts.length ∧ i = .int .i64 k ∧ Hid (conOk ⟨fr, lo, hi, sl, sm, ts⟩ = (ts.drop k).all (tgtOk fr)) ∧ Hid (Below W1.heap.size W1 wr)) (fun i _ => ts.length - (intOf i).toNat)
  case atStart => exact ⟨0, Nat.zero_le _, rfl, HF, Lib.hid (Below.refl _ _)⟩
  case round =>
    obtain ⟨k, hk, rfl, HA, HB⟩ := hrel
    have p0 := keep HB.out HP.out.1
    have p5 := keep HB.out HP.out.2
    have hlp := cell_lt p0
    by_cases hlt : k < ts.length
    · obtain ⟨tb, tof, rfl, c0, c1, c2⟩ := tgt_at (HV.out.keep TgtAt.stable (bThen HB1.out HB.out)) hlt
      have HST : Hid ((ts.drop k).all (tgtOk fr) = (tgtOk fr ts[k] && (ts.drop (k + 1)).all (tgtOk fr))) := Lib.hid (by rw [List.drop_eq_getElem_cons hlt]; rfl)
      have hlb := cell_lt c0
      have HBX := Lib.hid (bThen HB.out (bAlloc (Below.refl wr.heap.size wr) (.cells #[.int .i64 ts[k].time, .int .i64 ts[k].value, .int .i64 ts[k].weight] 54)))
      generalize ts[k] = y at *
      cases e1 : betw y.time 0 (fr - 1)
      · go_wp2_with (go_at_call 49; refine (in_any _ _ _ _).mono ?_; rintro e w' ⟨rfl, rfl⟩)
        go_ret
        exact ⟨ret_bool (by rw [HA.out, HST.out, show tgtOk fr y = false by simp [tgtOk, *]]; rfl), bThen HB1.out HBX.out⟩
      cases e2 : betw y.value (-200000) 200000
      · go_wp2_with (go_at_call 49; refine (in_any _ _ _ _).mono ?_; rintro e w' ⟨rfl, rfl⟩)
        go_ret
        exact ⟨ret_bool (by rw [HA.out, HST.out, show tgtOk fr y = false by simp [tgtOk, *]]; rfl), bThen HB1.out HBX.out⟩
      cases e3 : betw y.weight 0 1000
      · go_wp2_with (go_at_call 49; refine (in_any _ _ _ _).mono ?_; rintro e w' ⟨rfl, rfl⟩)
        go_ret
        exact ⟨ret_bool (by rw [HA.out, HST.out, show tgtOk fr y = false by simp [tgtOk, *]]; rfl), bThen HB1.out HBX.out⟩
      have HN : Hid (conOk ⟨fr, lo, hi, sl, sm, ts⟩ = (ts.drop (k + 1)).all (tgtOk fr)) := Lib.hid (by
        rw [HA.out, HST.out, show tgtOk fr y = true by simp [tgtOk, *], Bool.true_and])
      go_wp2_with (go_at_call 49; refine (in_any _ _ _ _).mono ?_; rintro e w' ⟨rfl, rfl⟩)
      go_roundw
      case rel =>
        first
          | exact ⟨k + 1, by omega, by go_num, HN, HBX⟩
          | ((repeat apply Exists.intro); refine ⟨?_, rfl⟩; exact ⟨k + 1, by omega, by go_num, HN, HBX⟩)
      case measure => simp [intOf]; omega
    · obtain rfl : k = ts.length := by omega
      go_wp2_with fail
      go_ret
      exact ⟨ret_bool (by rw [HA.out, List.drop_length]; rfl), bThen HB1.out HB.out⟩
end Go.Proofs.YtejcbcjhmnhefaaDoor
