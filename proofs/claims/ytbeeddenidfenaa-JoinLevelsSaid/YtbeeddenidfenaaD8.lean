/- Contracts: the greatest gain that is right. -/
import Derived.Test.YtbeeddenidfenaaD7
import Derived.Test.YtbeeddenidfenaaA10
set_option linter.unusedSimpArgs false
set_option linter.unusedVariables false
namespace Go.Proofs.Ytbeeddenidfenaa
open Go.RowKit

set_option maxRecDepth 10000 in
set_option maxHeartbeats 2000000 in
theorem searchG_any (p : Nat → Bool) (N b : Nat) (w : World) (hN : N ≤ 1000000)
    (hF : ∀ r W, r < N → Below w.heap.size w W → Calls Try.prog 107 #[.int .i64 (r : Int), .pointer (some ⟨b, 0, none⟩)] W fun e w' => e = .returned (.bool (p r)) ∧ Below W.heap.size W w') :
    Calls Try.prog 104 #[.int .i64 (N : Int), .func (.func 107) #[] #[.pointer (some ⟨b, 0, none⟩)]] w fun e w' => (∃ r : Nat, r ≤ N ∧ e = .returned (.int .i64 (r : Int)) ∧ (r = 0 ∨ p (r - 1) = false) ∧ (r = N ∨ p r = true)) ∧ Below w.heap.size w w' := by
  have HF := Lib.hid hF
  clear hF
  go_enter Try.func104, Try.ntmps104
  go_wp2_with fail
  go_loopw [5, 6] (fun x y wr => ∃ i j : Nat, i ≤ j ∧ j ≤ N ∧ x = .int .i64 i ∧ y = .int .i64 j ∧ Hid (i = 0 ∨ p (i - 1) = false) ∧ Hid (j = N ∨ p j = true) ∧ Hid (Below w.heap.size w wr)) (fun x y _ => (intOf y).toNat - (intOf x).toNat)
  case atStart => exact ⟨0, N, by omega, Nat.le_refl _, rfl, rfl, Lib.hid (.inl rfl), Lib.hid (.inl rfl), Lib.hid (Below.refl _ _)⟩
  case round =>
    obtain ⟨i, j, hij, hj, rfl, rfl, HLO, HHI, HB⟩ := hrel
    by_cases hlt : i < j
    · have h1 : i ≤ (i + j) / 2 := by omega
      have h2 : (i + j) / 2 < j := by omega
      have HC := Lib.hid (HF.out ((i + j) / 2) wr (by omega) HB.out)
      cases hp : p ((i + j) / 2)
      · go_wp2_with (go_at_call 107; refine HC.out.mono ?_; rintro e w1 ⟨rfl, hb1⟩; rw [hp]; have HB1 := Lib.hid (bThen HB.out hb1); clear hb1)
        go_roundw
        case rel => exact ⟨(i + j) / 2 + 1, j, by omega, hj, by go_num, rfl, Lib.hid (.inr (by rw [Nat.add_sub_cancel]; exact hp)), HHI, HB1⟩
        case measure => simp [intOf]; omega
      · go_wp2_with (go_at_call 107; refine HC.out.mono ?_; rintro e w1 ⟨rfl, hb1⟩; rw [hp]; have HB1 := Lib.hid (bThen HB.out hb1); clear hb1)
        go_roundw
        case rel => exact ⟨i, (i + j) / 2, by omega, by omega, rfl, by go_num, HLO, Lib.hid (.inr hp), HB1⟩
        case measure => simp [intOf]; omega
    · obtain rfl : i = j := by omega
      go_wp2_with fail
      go_ret
      exact ⟨⟨i, hj, rfl, HLO.out, HHI.out⟩, HB.out⟩
set_option maxHeartbeats 1000000 in
theorem right1G_any (q : Nat → Bool) (r b b1 b2 : Nat) (w : World) (hr : r < 1000000) (c0 : w.cell? ⟨b, 0, none⟩ = some (.func (.func 99) #[] #[.pointer (some ⟨b1, 0, none⟩), .pointer (some ⟨b2, 0, none⟩)]))
    (hG : Calls Try.prog 99 #[.int .i64 ((r + 1 : Nat) : Int), .pointer (some ⟨b1, 0, none⟩), .pointer (some ⟨b2, 0, none⟩)] w fun e w' => e = .returned (.bool (q (r + 1))) ∧ Below w.heap.size w w') :
    Calls Try.prog 107 #[.int .i64 r, .pointer (some ⟨b, 0, none⟩)] w fun e w' => e = .returned (.bool (!q (r + 1))) ∧ Below w.heap.size w w' := by
  have hbl := cell_lt c0
  obtain ⟨t, ht⟩ : ∃ t, t = q (r + 1) := ⟨_, rfl⟩
  rw [← ht] at hG ⊢
  rw [Int.natCast_add, Int.natCast_one] at hG
  have HG := Lib.hid hG
  clear ht hG
  have q1 : IntKind.i64.wrap ((r : Int) + 1) = (r : Int) + 1 := IntWalk.i64_in _ (by omega)
  go_enter Try.func107, Try.ntmps107
  go_wp2_with (go_at_call 99; with_reducible refine Calls.mono HG.out ?_; rintro e w1 ⟨rfl, hb⟩; have HB := Lib.hid hb; clear hb)
  go_ret
  exact ⟨rfl, HB.out⟩
set_option maxHeartbeats 1000000 in
theorem rightG_any (q : Nat → Bool) (N b1 b2 : Nat) (w : World) (hN : N ≤ 1000000)
    (hG : ∀ r W, r < N → Below w.heap.size w W → Calls Try.prog 99 #[.int .i64 ((r + 1 : Nat) : Int), .pointer (some ⟨b1, 0, none⟩), .pointer (some ⟨b2, 0, none⟩)] W fun e w' => e = .returned (.bool (q (r + 1))) ∧ Below W.heap.size W w') :
    Calls Try.prog 98 #[.int .i64 N, .func (.func 99) #[] #[.pointer (some ⟨b1, 0, none⟩), .pointer (some ⟨b2, 0, none⟩)]] w fun e w' => (∃ r : Nat, r ≤ N ∧ e = .returned (.int .i64 (r : Int)) ∧ (r = 0 ∨ q r = true) ∧ (r = N ∨ q (r + 1) = false)) ∧ Below w.heap.size w w' := by
  have HN := Lib.hid (bAlloc (Below.refl w.heap.size w) (.cells #[.func (.func 99) #[] #[.pointer (some ⟨b1, 0, none⟩), .pointer (some ⟨b2, 0, none⟩)]] 104))
  have HC := Lib.hid (searchG_any (fun r => !q (r + 1)) N w.heap.size (w.alloc (.cells #[.func (.func 99) #[] #[.pointer (some ⟨b1, 0, none⟩), .pointer (some ⟨b2, 0, none⟩)]] 104)) hN (fun r W hr hB => right1G_any q r w.heap.size b1 b2 W (by omega) (keep hB (cell_new rfl)) (hG r W hr (bThen HN.out hB))))
  go_enter Try.func98, Try.ntmps98
  go_wp2_with (go_at_call 104; with_reducible refine Calls.mono HC.out ?_; rintro e w1 ⟨⟨r, hr, rfl, hlo, hhi⟩, hb⟩; have HB := Lib.hid (bThen HN.out hb); have HLO := Lib.hid hlo; have HHI := Lib.hid hhi; clear hb hlo hhi)
  go_ret
  refine ⟨⟨r, hr, rfl, ?_, ?_⟩, HB.out⟩
  · rcases HLO.out with h | h
    · exact .inl h
    · by_cases hz : r = 0
      · exact .inl hz
      · rw [Nat.sub_add_cancel (by omega)] at h
        exact .inr (by simpa using h)
  · rcases HHI.out with h | h
    · exact .inl h
    · exact .inr (by simpa using h)
set_option maxHeartbeats 1000000 in
theorem right1L_any (q : Nat → Bool) (r b b1 b2 : Nat) (w : World) (hr : r < 1000000) (c0 : w.cell? ⟨b, 0, none⟩ = some (.func (.func 100) #[] #[.pointer (some ⟨b1, 0, none⟩), .pointer (some ⟨b2, 0, none⟩)]))
    (hG : Calls Try.prog 100 #[.int .i64 ((r + 1 : Nat) : Int), .pointer (some ⟨b1, 0, none⟩), .pointer (some ⟨b2, 0, none⟩)] w fun e w' => e = .returned (.bool (q (r + 1))) ∧ Below w.heap.size w w') :
    Calls Try.prog 107 #[.int .i64 r, .pointer (some ⟨b, 0, none⟩)] w fun e w' => e = .returned (.bool (!q (r + 1))) ∧ Below w.heap.size w w' := by
  have hbl := cell_lt c0
  obtain ⟨t, ht⟩ : ∃ t, t = q (r + 1) := ⟨_, rfl⟩
  rw [← ht] at hG ⊢
  rw [Int.natCast_add, Int.natCast_one] at hG
  have HG := Lib.hid hG
  clear ht hG
  have q1 : IntKind.i64.wrap ((r : Int) + 1) = (r : Int) + 1 := IntWalk.i64_in _ (by omega)
  go_enter Try.func107, Try.ntmps107
  go_wp2_with (go_at_call 100; with_reducible refine Calls.mono HG.out ?_; rintro e w1 ⟨rfl, hb⟩; have HB := Lib.hid hb; clear hb)
  go_ret
  exact ⟨rfl, HB.out⟩
set_option maxHeartbeats 1000000 in
theorem rightL_any (q : Nat → Bool) (N b1 b2 : Nat) (w : World) (hN : N ≤ 1000000)
    (hG : ∀ r W, r < N → Below w.heap.size w W → Calls Try.prog 100 #[.int .i64 ((r + 1 : Nat) : Int), .pointer (some ⟨b1, 0, none⟩), .pointer (some ⟨b2, 0, none⟩)] W fun e w' => e = .returned (.bool (q (r + 1))) ∧ Below W.heap.size W w') :
    Calls Try.prog 98 #[.int .i64 N, .func (.func 100) #[] #[.pointer (some ⟨b1, 0, none⟩), .pointer (some ⟨b2, 0, none⟩)]] w fun e w' => (∃ r : Nat, r ≤ N ∧ e = .returned (.int .i64 (r : Int)) ∧ (r = 0 ∨ q r = true) ∧ (r = N ∨ q (r + 1) = false)) ∧ Below w.heap.size w w' := by
  have HN := Lib.hid (bAlloc (Below.refl w.heap.size w) (.cells #[.func (.func 100) #[] #[.pointer (some ⟨b1, 0, none⟩), .pointer (some ⟨b2, 0, none⟩)]] 104))
  have HC := Lib.hid (searchG_any (fun r => !q (r + 1)) N w.heap.size (w.alloc (.cells #[.func (.func 100) #[] #[.pointer (some ⟨b1, 0, none⟩), .pointer (some ⟨b2, 0, none⟩)]] 104)) hN (fun r W hr hB => right1L_any q r w.heap.size b1 b2 W (by omega) (keep hB (cell_new rfl)) (hG r W hr (bThen HN.out hB))))
  go_enter Try.func98, Try.ntmps98
  go_wp2_with (go_at_call 104; with_reducible refine Calls.mono HC.out ?_; rintro e w1 ⟨⟨r, hr, rfl, hlo, hhi⟩, hb⟩; have HB := Lib.hid (bThen HN.out hb); have HLO := Lib.hid hlo; have HHI := Lib.hid hhi; clear hb hlo hhi)
  go_ret
  refine ⟨⟨r, hr, rfl, ?_, ?_⟩, HB.out⟩
  · rcases HLO.out with h | h
    · exact .inl h
    · by_cases hz : r = 0
      · exact .inl hz
      · rw [Nat.sub_add_cancel (by omega)] at h
        exact .inr (by simpa using h)
  · rcases HHI.out with h | h
    · exact .inl h
    · exact .inr (by simpa using h)
end Go.Proofs.Ytbeeddenidfenaa
