/- Contracts: Pulses. -/
import Derived.Test.YtbmbcbknoflpgaaB3
import Derived.Test.YtbmbcbknoflpgaaB4
set_option linter.unusedSimpArgs false
set_option linter.unusedVariables false
namespace Go.Proofs.Ytbmbcbknoflpgaa
open Go.RowKit

/-- What Pulses refuses. -/
def pulErr (l : List Glo) : Int := if strOk l = true then (if 100000 < smp l then 4 else 0) else 2
theorem str_parts {l : List Glo} (h : strOk l = true) : l.length ≤ 200 ∧ l.all gloOk = true := by
  simp only [strOk, Bool.and_eq_true, decide_eq_true_eq] at h
  exact h
set_option maxHeartbeats 2000000 in
theorem Pulses_any (l : List Glo) (v : Value) (w : World) (hv : SliceV w v 4 GloAt l) : Calls Try.prog 44 #[v] w fun e w' => (∃ r, e = .returned (.tuple #[r, .int .i64 (pulErr l)]) ∧ SliceV w' r 1 IntAt (if pulErr l = 0 then pulL l else [])) ∧ Below w.heap.size w w' := by
  have HV := Lib.hid hv
  have HS := Lib.hid (stretchesRight_any l v w hv)
  obtain ⟨a, c, rfl, hl, -⟩ := hv
  clear hl
  have hd : pulErr l = if strOk l = true then (if 100000 < smp l then 4 else 0) else 2 := rfl
  rw [hd]
  clear hd
  cases hk : strOk l
  · rw [hk] at HS
    clear hk
    simp only [Bool.false_eq_true, if_false]
    go_enter Try.func44, Try.ntmps44
    go_wp2_with (first
      | (go_at_call 77; with_reducible refine Calls.mono HS.out ?_; rintro e w1 ⟨rfl, hb⟩; have HB := Lib.hid hb; clear hb)
      | (go_at_call 78; with_reducible refine Calls.mono (HO.out _ HB.out) ?_; rintro e w2 ⟨rfl, hb⟩; have HB2 := Lib.hid (bThen HB.out hb); clear hb)
      | (go_at_call 79; with_reducible refine Calls.mono (HP.out _ HB2.out) ?_; rintro e w3 ⟨⟨r, rfl, hs⟩, hb⟩; have HSL := Lib.hid hs; have HB3 := Lib.hid (bThen HB2.out hb); clear hb hs))
    all_goals first | (exfalso; omega) | skip
    go_ret2
    exact ⟨⟨_, rfl, nil_slice _⟩, HB.out⟩
  · rw [hk] at HS
    obtain ⟨h1, h2⟩ := str_parts hk
    have HO := Lib.hid (fun W (hB : Below w.heap.size w W) => samplesOf_any l _ W (HV.out.keep GloAt.stable hB) h1 h2)
    simp only [if_true]
    by_cases h3 : 100000 < smp l
    · rw [if_pos h3]
      generalize smp l = s at *
      clear h1 h2 hk
      go_enter Try.func44, Try.ntmps44
      go_wp2_with (first
        | (go_at_call 77; with_reducible refine Calls.mono HS.out ?_; rintro e w1 ⟨rfl, hb⟩; have HB := Lib.hid hb; clear hb)
        | (go_at_call 78; with_reducible refine Calls.mono (HO.out _ HB.out) ?_; rintro e w2 ⟨rfl, hb⟩; have HB2 := Lib.hid (bThen HB.out hb); clear hb)
        | (go_at_call 79; with_reducible refine Calls.mono (HP.out _ HB2.out) ?_; rintro e w3 ⟨⟨r, rfl, hs⟩, hb⟩; have HSL := Lib.hid hs; have HB3 := Lib.hid (bThen HB2.out hb); clear hb hs))
      all_goals first | (exfalso; omega) | skip
      go_ret2
      exact ⟨⟨_, rfl, nil_slice _⟩, HB2.out⟩
    · rw [if_neg h3]
      have HP := Lib.hid (fun W (hB : Below w.heap.size w W) => pulses_any l _ W (HV.out.keep GloAt.stable hB) h1 h2 (by omega))
      generalize smp l = s at *
      clear h1 h2 hk
      go_enter Try.func44, Try.ntmps44
      go_wp2_with (first
        | (go_at_call 77; with_reducible refine Calls.mono HS.out ?_; rintro e w1 ⟨rfl, hb⟩; have HB := Lib.hid hb; clear hb)
        | (go_at_call 78; with_reducible refine Calls.mono (HO.out _ HB.out) ?_; rintro e w2 ⟨rfl, hb⟩; have HB2 := Lib.hid (bThen HB.out hb); clear hb)
        | (go_at_call 79; with_reducible refine Calls.mono (HP.out _ HB2.out) ?_; rintro e w3 ⟨⟨r, rfl, hs⟩, hb⟩; have HSL := Lib.hid hs; have HB3 := Lib.hid (bThen HB2.out hb); clear hb hs))
      all_goals first | (exfalso; omega) | skip
      go_ret2
      exact ⟨⟨_, rfl, HSL.out⟩, HB3.out⟩
end Go.Proofs.Ytbmbcbknoflpgaa
