/- Contracts: a problem checked. -/
import Derived.Test.YtejcbcjhmnhefabDoorA6
set_option linter.unusedSimpArgs false
set_option linter.unusedVariables false
namespace Go.Proofs.YtejcbcjhmnhefabDoor
open Go.RowKit

def conOk (p : Con) : Bool := betw p.frames 1 200 && betw p.low (-100000) 100000 && betw p.high p.low (if p.low + 400 ≤ 100000 then p.low + 400 else 100000) && betw p.slope 0 400 && betw p.smooth 0 1000 && decide ((p.targets.length : Int) ≤ 200) && !p.targets.any (fun x => !tgtOk p.frames x)
def Con.val (p : Con) (tv : Value) : Value := .agg #[.int .i64 p.frames, .int .i64 p.low, .int .i64 p.high, .int .i64 p.slope, .int .i64 p.smooth, tv]
theorem betw_in {n a b : Int} (h : betw n a b = true) : a ≤ n ∧ n ≤ b := by simpa [betw] using h
set_option maxHeartbeats 1000000 in
theorem problemRight_any (p : Con) (v : Value) (w : World) (hv : SliceV w v 3 TgtAt p.targets) :
    Calls Tryd.prog 21 #[p.val v] w fun e w' => e = .returned (.bool (conOk p)) ∧ Below w.heap.size w w' := by
  have HV := Lib.hid hv
  obtain ⟨a, c, rfl, hl, -⟩ := hv
  unfold most at hl
  obtain ⟨fr, lo, hi, sl, sm, ts⟩ := p
  simp only [Con.val] at HV hl ⊢
  cases g1 : betw fr 1 200
  · go_enter Tryd.func21, Tryd.ntmps21
    go_wp2_with (go_at_call 17; refine (between_any _ _ _ _).mono ?_; rintro e w' ⟨rfl, rfl⟩)
    go_ret
    exact ⟨ret_bool (by first | (simp [conOk, *]; done) | (simp [conOk, show ¬ (lo + 400 ≤ 100000) from by omega, *]; done) | (simp [conOk, *]; omega)), bAlloc (Below.refl _ _) _⟩
  cases g2 : betw lo (-100000) 100000
  · go_enter Tryd.func21, Tryd.ntmps21
    go_wp2_with (go_at_call 17; refine (between_any _ _ _ _).mono ?_; rintro e w' ⟨rfl, rfl⟩)
    go_ret
    exact ⟨ret_bool (by first | (simp [conOk, *]; done) | (simp [conOk, show ¬ (lo + 400 ≤ 100000) from by omega, *]; done) | (simp [conOk, *]; omega)), bAlloc (Below.refl _ _) _⟩
  obtain ⟨hl0, hl1⟩ := betw_in g2
  obtain ⟨hf0, hf1⟩ := betw_in g1
  by_cases hm : lo + 400 ≤ 100000
  · cases g3 : betw hi lo (lo + 400)
    · go_enter Tryd.func21, Tryd.ntmps21
      go_wp2_with (go_at_call 17; refine (between_any _ _ _ _).mono ?_; rintro e w' ⟨rfl, rfl⟩)
      go_ret
      exact ⟨ret_bool (by first | (simp [conOk, *]; done) | (simp [conOk, show ¬ (lo + 400 ≤ 100000) from by omega, *]; done) | (simp [conOk, *]; omega)), bAlloc (Below.refl _ _) _⟩
    cases g4 : betw sl 0 400
    · go_enter Tryd.func21, Tryd.ntmps21
      go_wp2_with (go_at_call 17; refine (between_any _ _ _ _).mono ?_; rintro e w' ⟨rfl, rfl⟩)
      go_ret
      exact ⟨ret_bool (by first | (simp [conOk, *]; done) | (simp [conOk, show ¬ (lo + 400 ≤ 100000) from by omega, *]; done) | (simp [conOk, *]; omega)), bAlloc (Below.refl _ _) _⟩
    cases g5 : betw sm 0 1000
    · go_enter Tryd.func21, Tryd.ntmps21
      go_wp2_with (go_at_call 17; refine (between_any _ _ _ _).mono ?_; rintro e w' ⟨rfl, rfl⟩)
      go_ret
      exact ⟨ret_bool (by first | (simp [conOk, *]; done) | (simp [conOk, show ¬ (lo + 400 ≤ 100000) from by omega, *]; done) | (simp [conOk, *]; omega)), bAlloc (Below.refl _ _) _⟩
    by_cases g6 : (ts.length : Int) ≤ 200
    · have hB0 := bAlloc (Below.refl w.heap.size w) (.cells #[.int .i64 fr, .int .i64 lo, .int .i64 hi, .int .i64 sl, .int .i64 sm, .slice a ts.length c] 46)
      have HC := Lib.hid (containsT_any ts fr lo hi sl sm (.slice a ts.length c) w.heap.size _ _ (HV.out.keep TgtAt.stable hB0) (by omega) (by omega) ⟨_, _, _, rfl⟩ (cell_new rfl) (cell_new rfl) (cell_new rfl) (cell_new rfl) (cell_new rfl) (cell_new rfl))
      have HB0 := Lib.hid hB0
      clear hB0
      cases g7 : ts.any (fun x => !tgtOk fr x)
      all_goals
        rw [g7] at HC
        go_enter Tryd.func21, Tryd.ntmps21
        go_wp2_with (first | (go_at_call 17; refine (between_any _ _ _ _).mono ?_; rintro e w' ⟨rfl, rfl⟩) | (go_at_call 37; refine HC.out.mono ?_; rintro e w1 ⟨rfl, hb⟩))
        go_ret
        exact ⟨ret_bool (by first | (simp [conOk, *]; done) | (simp [conOk, show ¬ (lo + 400 ≤ 100000) from by omega, *]; done) | (simp [conOk, *]; omega)), bThen HB0.out hb⟩
    · have g6' : decide ((ts.length : Int) ≤ 200) = false := decide_eq_false g6
      go_enter Tryd.func21, Tryd.ntmps21
      go_wp2_with (go_at_call 17; refine (between_any _ _ _ _).mono ?_; rintro e w' ⟨rfl, rfl⟩)
      go_ret
      exact ⟨ret_bool (by first | (simp [conOk, *]; done) | (simp [conOk, show ¬ (lo + 400 ≤ 100000) from by omega, *]; done) | (simp [conOk, *]; omega)), bAlloc (Below.refl _ _) _⟩
  · cases g3 : betw hi lo 100000
    · go_enter Tryd.func21, Tryd.ntmps21
      go_wp2_with (go_at_call 17; refine (between_any _ _ _ _).mono ?_; rintro e w' ⟨rfl, rfl⟩)
      go_ret
      exact ⟨ret_bool (by first | (simp [conOk, *]; done) | (simp [conOk, show ¬ (lo + 400 ≤ 100000) from by omega, *]; done) | (simp [conOk, *]; omega)), bAlloc (Below.refl _ _) _⟩
    cases g4 : betw sl 0 400
    · go_enter Tryd.func21, Tryd.ntmps21
      go_wp2_with (go_at_call 17; refine (between_any _ _ _ _).mono ?_; rintro e w' ⟨rfl, rfl⟩)
      go_ret
      exact ⟨ret_bool (by first | (simp [conOk, *]; done) | (simp [conOk, show ¬ (lo + 400 ≤ 100000) from by omega, *]; done) | (simp [conOk, *]; omega)), bAlloc (Below.refl _ _) _⟩
    cases g5 : betw sm 0 1000
    · go_enter Tryd.func21, Tryd.ntmps21
      go_wp2_with (go_at_call 17; refine (between_any _ _ _ _).mono ?_; rintro e w' ⟨rfl, rfl⟩)
      go_ret
      exact ⟨ret_bool (by first | (simp [conOk, *]; done) | (simp [conOk, show ¬ (lo + 400 ≤ 100000) from by omega, *]; done) | (simp [conOk, *]; omega)), bAlloc (Below.refl _ _) _⟩
    by_cases g6 : (ts.length : Int) ≤ 200
    · have hB0 := bAlloc (Below.refl w.heap.size w) (.cells #[.int .i64 fr, .int .i64 lo, .int .i64 hi, .int .i64 sl, .int .i64 sm, .slice a ts.length c] 46)
      have HC := Lib.hid (containsT_any ts fr lo hi sl sm (.slice a ts.length c) w.heap.size _ _ (HV.out.keep TgtAt.stable hB0) (by omega) (by omega) ⟨_, _, _, rfl⟩ (cell_new rfl) (cell_new rfl) (cell_new rfl) (cell_new rfl) (cell_new rfl) (cell_new rfl))
      have HB0 := Lib.hid hB0
      clear hB0
      cases g7 : ts.any (fun x => !tgtOk fr x)
      all_goals
        rw [g7] at HC
        go_enter Tryd.func21, Tryd.ntmps21
        go_wp2_with (first | (go_at_call 17; refine (between_any _ _ _ _).mono ?_; rintro e w' ⟨rfl, rfl⟩) | (go_at_call 37; refine HC.out.mono ?_; rintro e w1 ⟨rfl, hb⟩))
        go_ret
        exact ⟨ret_bool (by first | (simp [conOk, *]; done) | (simp [conOk, show ¬ (lo + 400 ≤ 100000) from by omega, *]; done) | (simp [conOk, *]; omega)), bThen HB0.out hb⟩
    · have g6' : decide ((ts.length : Int) ≤ 200) = false := decide_eq_false g6
      go_enter Tryd.func21, Tryd.ntmps21
      go_wp2_with (go_at_call 17; refine (between_any _ _ _ _).mono ?_; rintro e w' ⟨rfl, rfl⟩)
      go_ret
      exact ⟨ret_bool (by first | (simp [conOk, *]; done) | (simp [conOk, show ¬ (lo + 400 ≤ 100000) from by omega, *]; done) | (simp [conOk, *]; omega)), bAlloc (Below.refl _ _) _⟩
end Go.Proofs.YtejcbcjhmnhefabDoor
