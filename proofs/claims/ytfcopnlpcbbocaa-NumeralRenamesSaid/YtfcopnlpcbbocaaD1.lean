/- Contracts: which rule is for a number. -/
import Derived.Test.YtfcopnlpcbbocaaC0
import Derived.Test.YtfcopnlpcbbocaaProg
set_option linter.unusedSimpArgs false
set_option linter.unusedVariables false
namespace Go.Proofs.Ytfcopnlpcbbocaa
open Go.RowKit

set_option maxHeartbeats 1000000 in
theorem pred_any (l : List Rul) (n i : Int) (k : Nat) (rb ab : Nat) (v : Value) (w : World) (hr : w.cell? ⟨rb, 0, none⟩ = some v) (hv : SliceV w v 3 RulAt l) (ha : w.cell? ⟨ab, 0, none⟩ = some (.int .i64 n)) (hi : i = k) (hk : k < l.length) :
    Calls Try.prog 99 #[.int .i64 i, .pointer (some ⟨rb, 0, none⟩), .pointer (some ⟨ab, 0, none⟩)] w fun e w' => e = .returned (.bool (decide (n < l[k].base))) ∧ Below w.heap.size w w' := by
  obtain ⟨a, c, rfl, hl, hx⟩ := hv
  unfold most at hl
  rcases hx with hnil | ⟨fb, fo, rfl, hf⟩
  · simp [hnil] at hk
  obtain ⟨h0, -⟩ := hf k hk
  subst hi
  have b1 := cell_lt hr
  have b2 := cell_lt ha
  have b3 := cell_lt h0
  clear hf
  generalize l[k] = r at *
  go_enter Try.func99, Try.ntmps99
  go_wp2_with fail
  (refine wp_region_below (by kernel_rfl) (by kernel_rfl) ?_; (repeat (first | go_big_quiet_step (fail) | quiet_step (fail))); (refine wpQuiet_nil ?_; intro _ hw'; obtain ⟨xq, hw''⟩ := hw'; subst hw''))
  have HB := xq.2
  go_wp2_with fail
  go_ret
  exact ⟨rfl, HB⟩

set_option maxHeartbeats 1000000 in
theorem search_any (l : List Rul) (n : Int) (rb ab : Nat) (v : Value) (w : World) (hr : w.cell? ⟨rb, 0, none⟩ = some v) (hv : SliceV w v 3 RulAt l) (ha : w.cell? ⟨ab, 0, none⟩ = some (.int .i64 n))
    (hbig : l.length ≤ 1000000) (hmono : ∀ i j (hi : i < l.length) (hj : j < l.length), i ≤ j → l[i].base ≤ l[j].base) :
    Calls Try.prog 98 #[.int .i64 l.length, .func (.func 99) #[] #[.pointer (some ⟨rb, 0, none⟩), .pointer (some ⟨ab, 0, none⟩)]] w fun e w' => (∃ c : Nat, e = .returned (.int .i64 c) ∧ c ≤ l.length ∧ (∀ i (h : i < l.length), i < c → l[i].base ≤ n) ∧ (∀ i (h : i < l.length), c ≤ i → n < l[i].base)) ∧ Below w.heap.size w w' := by
  have HV := Lib.hid hv
  obtain ⟨a, c, rfl, -, -⟩ := hv
  have hl := hbig
  go_enter Try.func98, Try.ntmps98
  go_wp2_with fail
  go_loopw [5, 6] (fun x y wr => ∃ i j : Nat, i ≤ j ∧ j ≤ l.length ∧ x = .int .i64 i ∧ y = .int .i64 j ∧ (∀ m (h : m < l.length), m < i → l[m].base ≤ n) ∧ (∀ m (h : m < l.length), j ≤ m → n < l[m].base) ∧ Below w.heap.size w wr) (fun x y _ => (intOf y).toNat - (intOf x).toNat)
  case atStart => exact ⟨0, l.length, Nat.zero_le _, Nat.le_refl _, rfl, rfl, fun _ _ h => by omega, fun _ _ h => by omega, Below.refl _ _⟩
  case round =>
    obtain ⟨i, j, hij, hj, rfl, rfl, hlo, hhi, hB⟩ := hrel
    have HLO := Lib.hid hlo
    have HHI := Lib.hid hhi
    have HM := Lib.hid hmono
    clear hlo hhi hmono
    by_cases hlt : i < j
    · obtain ⟨h, hh⟩ : ∃ h, h = (i + j) / 2 := ⟨_, rfl⟩
      have h1 : i ≤ h := by omega
      have h2 : h < j := by omega
      have hcast : (((i : Int) + (j : Int)) / 2) = (h : Int) := by omega
      have HH := Lib.hid hcast
      clear hh hcast
      have hcall := (pred_any l n _ h rb ab _ wr (keep hB hr) (HV.out.keep RulAt.stable hB) (keep hB ha) HH.out (by omega))
      go_wp2_with (go_at_call 99; refine hcall.mono ?_; clear hcall; rintro e w1 ⟨rfl, hb1⟩; have HB1 := bThen hB hb1)
      · have hp : ¬ n < l[h].base := by simpa using ‹(!decide (n < l[h].base)) = true›
        rw [HH.out]
        go_roundw
        case rel =>
          refine ⟨h + 1, j, by omega, hj, by go_num, rfl, fun m hm h' => ?_, HHI.out, HB1⟩
          have := HM.out m h hm (by omega) (by omega)
          omega
        case measure => simp [intOf]; omega
      · have hp : n < l[h].base := by simpa using ‹(!decide (n < l[h].base)) = false›
        rw [HH.out]
        go_roundw
        case rel =>
          refine ⟨i, h, by omega, by omega, rfl, rfl, HLO.out, fun m hm h' => ?_, HB1⟩
          have := HM.out h m (by omega) hm (by omega)
          omega
        case measure => simp [intOf]; omega
    · go_wp2_with fail
      go_ret
      exact ⟨⟨i, rfl, by omega, HLO.out, fun m h h' => HHI.out m h (by omega)⟩, hB⟩
end Go.Proofs.Ytfcopnlpcbbocaa
