/- Contracts: the search for cents. -/
import Derived.Test.YtejcbcjhmnhefaaDoorC2
import Derived.Test.YtejcbcjhmnhefaaDoorC3
set_option linter.unusedSimpArgs false
set_option linter.unusedVariables false
namespace Go.Proofs.YtejcbcjhmnhefaaDoor
open Go.RowKit

set_option maxHeartbeats 1000000 in
theorem above_any (c : Nat) (limit : Int) (b : Nat) (w : World) (hc : c ≤ 12000) (hS : Semi w) (hl : w.cell? ⟨b, 0, none⟩ = some (.int .i64 limit)) :
    Calls Tryd.prog 82 #[.int .i64 c, .pointer (some ⟨b, 0, none⟩)] w fun e w' => e = .returned (.bool (decide (freq c > limit))) ∧ Below w.heap.size w w' := by
  have hlb := cell_lt hl
  have hcall : ∀ xq : BW w, Calls Tryd.prog 59 #[.int .i64 c] xq.val fun e w' => e = .returned (.int .i64 (freq c)) ∧ Below xq.val.heap.size xq.val w' := fun xq => frequency_any c _ hc (hS.keep xq.2)
  go_enter Tryd.func82, Tryd.ntmps82
  go_wp2_with fail
  (refine wp_region_below (by kernel_rfl) (by kernel_rfl) ?_; (repeat (first | go_big_quiet_step ((go_at_call 59; exact toB hcall _)) | quiet_step ((go_at_call 59; exact toB hcall _)))); (refine wpQuiet_nil ?_; intro _ hw'; obtain ⟨xq, hw''⟩ := hw'; subst hw''))
  have hb := xq.2
  go_wp2_with fail
  go_ret
  exact ⟨rfl, hb⟩

set_option maxRecDepth 10000 in
set_option maxHeartbeats 1000000 in
theorem sortSearch_any (limit : Int) (b : Nat) (w : World) (hS : Semi w) (hl : w.cell? ⟨b, 0, none⟩ = some (.int .i64 limit)) :
    Calls Tryd.prog 81 #[.int .i64 12001, .func (.func 82) #[] #[.pointer (some ⟨b, 0, none⟩)]] w fun e w' => e = .returned (.int .i64 (notAbove limit : Nat)) ∧ Below w.heap.size w w' := by
  have HS := Lib.hid hS
  go_enter Tryd.func81, Tryd.ntmps81
  go_wp2_with fail
  go_loopw [5, 6] (fun x y wr => ∃ i j : Nat, i ≤ j ∧ j ≤ 12001 ∧ x = .int .i64 i ∧ y = .int .i64 j ∧ Hid (∀ m, m < i → freq m ≤ limit) ∧ Hid (∀ m, j ≤ m → m ≤ 12000 → limit < freq m) ∧ Below w.heap.size w wr) (fun x y _ => (intOf y).toNat - (intOf x).toNat)
  case atStart => exact ⟨0, 12001, by omega, by omega, rfl, rfl, Lib.hid fun _ h => by omega, Lib.hid fun _ h h' => by omega, Below.refl _ _⟩
  case round =>
    obtain ⟨i, j, hij, hj, rfl, rfl, HLO, HHI, hB⟩ := hrel
    by_cases hlt : i < j
    · have h1 : i ≤ (i + j) / 2 := by omega
      have h2 : (i + j) / 2 < j := by omega
      have hc := fun W hB' => above_any ((i + j) / 2) limit b W (by omega) (HS.out.keep hB') (keep hB' hl)
      have HC := Lib.hid (hc _ hB)
      clear hc
      by_cases hp : freq ((i + j) / 2) > limit
      · go_wp2_with (go_at_call 82; refine HC.out.mono ?_; rintro e w1 ⟨rfl, hb1⟩; rw [decide_eq_true hp]; have HB1 := bThen hB hb1)
        go_roundw
        case rel =>
          refine ⟨i, (i + j) / 2, by omega, by omega, rfl, by go_num, HLO, Lib.hid fun m h h' => ?_, HB1⟩
          rcases Nat.lt_or_eq_of_le h with h4 | rfl
          · have := freq_lt h4 h'; omega
          · exact hp
        case measure => simp [intOf]; omega
      · go_wp2_with (go_at_call 82; refine HC.out.mono ?_; rintro e w1 ⟨rfl, hb1⟩; rw [decide_eq_false hp]; have HB1 := bThen hB hb1)
        go_roundw
        case rel =>
          refine ⟨(i + j) / 2 + 1, j, by omega, hj, by go_num, rfl, Lib.hid fun m h => ?_, HHI, HB1⟩
          rcases Nat.lt_or_eq_of_le (show m ≤ (i + j) / 2 by omega) with h4 | rfl
          · have := freq_lt h4 (show (i + j) / 2 ≤ 12000 by omega); omega
          · omega
        case measure => simp [intOf]; omega
    · obtain rfl : i = j := by omega
      go_wp2_with fail
      go_ret
      exact ⟨ret_int (by rw [notAbove_eq hj HLO.out HHI.out]), hB⟩

set_option maxHeartbeats 1000000 in
theorem notAbove_any (limit : Int) (w : World) (hS : Semi w) :
    Calls Tryd.prog 60 #[.int .i64 limit] w fun e w' => e = .returned (.int .i64 (notAbove limit : Nat)) ∧ Below w.heap.size w w' := by
  have HN := Lib.hid (bAlloc (Below.refl w.heap.size w) (.cells #[.int .i64 limit] 3))
  have HC := Lib.hid (sortSearch_any limit w.heap.size _ (hS.keep HN.out) (cell_new rfl))
  go_enter Tryd.func60, Tryd.ntmps60
  go_wp2_with (go_at_call 81; refine HC.out.mono ?_; rintro e w1 ⟨rfl, hb1⟩; have HB1 := bThen HN.out hb1)
  go_ret
  exact ⟨rfl, HB1⟩

/-- What Cents hands back. -/
def centsRes (f : Int) : Value := if notAbove f = 0 then .tuple #[.int .i64 0, .int .i64 5] else .tuple #[.int .i64 ((notAbove f - 1 : Nat) : Int), .int .i64 0]
set_option maxRecDepth 10000 in
set_option maxHeartbeats 1000000 in
theorem Cents_any (f : Int) (w : World) (hS : Semi w) : Calls Tryd.prog 36 #[.int .i64 f] w fun e w' => e = .returned (centsRes f) ∧ Below w.heap.size w w' := by
  have HC := Lib.hid (notAbove_any f w hS)
  have hle : notAbove f ≤ 12001 := by
    have := List.findIdx_le_length (xs := List.range 12001) (p := fun c => decide (f < freq c))
    simpa [notAbove] using this
  by_cases h : notAbove f = 0
  · have hr : centsRes f = .tuple #[.int .i64 0, .int .i64 5] := if_pos h
    rw [hr]
    rw [h] at HC
    go_enter Tryd.func36, Tryd.ntmps36
    go_wp2_with (go_at_call 60; refine HC.out.mono ?_; rintro e w1 ⟨rfl, hb1⟩)
    go_ret2
    exact ⟨rfl, hb1⟩
  · have hr : centsRes f = .tuple #[.int .i64 ((notAbove f - 1 : Nat) : Int), .int .i64 0] := if_neg h
    rw [hr]
    obtain ⟨q, hq⟩ : ∃ q, notAbove f = q + 1 := ⟨notAbove f - 1, by omega⟩
    rw [hq] at HC hle ⊢
    rw [show ((q + 1 : Nat) : Int) = (q : Int) + 1 by omega] at HC
    rw [Nat.add_sub_cancel]
    clear hr h hq
    go_enter Tryd.func36, Tryd.ntmps36
    go_wp2_with (go_at_call 60; refine HC.out.mono ?_; rintro e w1 ⟨rfl, hb1⟩)
    go_ret2
    exact ⟨by simp, hb1⟩
end Go.Proofs.YtejcbcjhmnhefaaDoor
