/- Contracts: the search by halving; roots, loudness. -/
import Derived.Test.YtbeeddenidfenaaA9
set_option linter.unusedSimpArgs false
set_option linter.unusedVariables false
namespace Go.Proofs.Ytbeeddenidfenaa
open Go.RowKit

def rtN (n : Int) : Nat → Nat
  | 0 => 0
  | k + 1 => if ((k + 1 : Nat) : Int) * ((k + 1 : Nat) : Int) ≤ n then k + 1 else rtN n k
/-- The integer part of a root. -/
def rt (n : Int) : Int := (rtN n 32768 : Nat)
theorem sq_mono {a b : Nat} (h : a ≤ b) : (a : Int) * a ≤ (b : Int) * b := by
  have := Nat.mul_le_mul h h
  exact_mod_cast this
theorem rtN_eq {n : Int} {r : Nat} (h1 : (r : Int) * r ≤ n) (h2 : n < ((r + 1 : Nat) : Int) * ((r + 1 : Nat) : Int)) : ∀ k, r ≤ k → rtN n k = r
  | 0, h => by simp [rtN]; omega
  | k + 1, h => by
    rw [rtN]
    by_cases hr : r = k + 1
    · subst hr; rw [if_pos h1]
    · have := sq_mono (show r + 1 ≤ k + 1 by omega)
      rw [if_neg (by omega)]
      exact rtN_eq h1 h2 k (by omega)
theorem rt_eq {n : Int} {r : Nat} (h0 : r ≤ 32768) (h1 : (r : Int) * r ≤ n) (h2 : n < ((r + 1 : Nat) : Int) * ((r + 1 : Nat) : Int)) : rt n = r := by
  unfold rt; rw [rtN_eq h1 h2 _ h0]

set_option maxHeartbeats 1000000 in
theorem root1_any (n : Int) (r b : Nat) (w : World) (hr : r ≤ 1000000) (c0 : w.cell? ⟨b, 0, none⟩ = some (.int .i64 n)) :
    Calls Try.prog 105 #[.int .i64 r, .pointer (some ⟨b, 0, none⟩)] w fun e w' => e = .returned (.bool (decide (n < ((r + 1 : Nat) : Int) * ((r + 1 : Nat) : Int)))) ∧ w = w' := by
  have hbl := cell_lt c0
  have hq := sq_in (x := (r : Int) + 1) (B := 1000001) (by omega) (by omega)
  have q1 : IntKind.i64.wrap (((r : Int) + 1) * ((r : Int) + 1)) = ((r : Int) + 1) * ((r : Int) + 1) := IntWalk.i64_in _ (by omega)
  have q2 : wrap64 (((r : Int) + 1) * ((r : Int) + 1)) = ((r : Int) + 1) * ((r : Int) + 1) := IntWalk.wrap64_in _ (by omega)
  go_enter Try.func105, Try.ntmps105
  go_wp2_with fail
  go_ret
  exact ⟨ret_bool (by rw [Int.natCast_add]; rfl), rfl⟩
set_option maxRecDepth 10000 in
set_option maxHeartbeats 2000000 in
theorem searchR_any (p : Nat → Bool) (N b : Nat) (w : World) (hN : N ≤ 1000000)
    (hF : ∀ r W, r < N → Below w.heap.size w W → Calls Try.prog 105 #[.int .i64 (r : Int), .pointer (some ⟨b, 0, none⟩)] W fun e w' => e = .returned (.bool (p r)) ∧ Below W.heap.size W w') :
    Calls Try.prog 104 #[.int .i64 (N : Int), .func (.func 105) #[] #[.pointer (some ⟨b, 0, none⟩)]] w fun e w' => (∃ r : Nat, r ≤ N ∧ e = .returned (.int .i64 (r : Int)) ∧ (r = 0 ∨ p (r - 1) = false) ∧ (r = N ∨ p r = true)) ∧ Below w.heap.size w w' := by
  have HF := Lib.hid hF
  clear hF
  go_enter Try.func104, Try.ntmps104
  go_wp2_with fail
  go_loopw [5, 6] (fun x y wr => ∃ i j : Nat, i ≤ j ∧ j ≤ N ∧ x = .int .i64 i ∧ y = .int .i64 j ∧ Hid (i = 0 ∨ p (i - 1) = false) ∧ Hid (j = N ∨ p j = true) ∧ Hid (Below w.heap.size w wr)) (fun x y _ => (intOf y).toNat - (intOf x).toNat)
  case atStart => exact ⟨0, N, by omega, Nat.le_refl _, rfl, rfl, Lib.hid (.inl rfl), Lib.hid (.inl rfl), Lib.hid (Below.refl _ _)⟩
  case round =>
    obtain ⟨i, j, hij, hj, rfl, rfl, HLO, HHI, HB⟩ := hrel
    by_cases hlt : i < j
    · have h1 : i ≤ (i + j) / 2 := by omega
      have h2 : (i + j) / 2 < j := by omega
      have HC := Lib.hid (HF.out ((i + j) / 2) wr (by omega) HB.out)
      cases hp : p ((i + j) / 2)
      · go_wp2_with (go_at_call 105; refine HC.out.mono ?_; rintro e w1 ⟨rfl, hb1⟩; rw [hp]; have HB1 := Lib.hid (bThen HB.out hb1); clear hb1)
        go_roundw
        case rel => exact ⟨(i + j) / 2 + 1, j, by omega, hj, by go_num, rfl, Lib.hid (.inr (by rw [Nat.add_sub_cancel]; exact hp)), HHI, HB1⟩
        case measure => simp [intOf]; omega
      · go_wp2_with (go_at_call 105; refine HC.out.mono ?_; rintro e w1 ⟨rfl, hb1⟩; rw [hp]; have HB1 := Lib.hid (bThen HB.out hb1); clear hb1)
        go_roundw
        case rel => exact ⟨i, (i + j) / 2, by omega, by omega, rfl, by go_num, HLO, Lib.hid (.inr hp), HB1⟩
        case measure => simp [intOf]; omega
    · obtain rfl : i = j := by omega
      go_wp2_with fail
      go_ret
      exact ⟨⟨i, hj, rfl, HLO.out, HHI.out⟩, HB.out⟩
set_option maxHeartbeats 1000000 in
theorem root_any (n : Int) (w : World) (h0 : 0 ≤ n) (h1 : n ≤ 1073741824) :
    Calls Try.prog 86 #[.int .i64 n] w fun e w' => e = .returned (.int .i64 (rt n)) ∧ Below w.heap.size w w' := by
  have HN := Lib.hid (bAlloc (Below.refl w.heap.size w) (.cells #[.int .i64 n] 3))
  have HC := Lib.hid (searchR_any (fun r => decide (n < ((r + 1 : Nat) : Int) * ((r + 1 : Nat) : Int))) 32768 w.heap.size (w.alloc (.cells #[.int .i64 n] 3)) (by omega) (fun r W hr hB => (root1_any n r w.heap.size W (by omega) (keep hB (cell_new rfl))).mono fun e w' ⟨h1, h2⟩ => ⟨h1, h2 ▸ Below.refl _ _⟩))
  go_enter Try.func86, Try.ntmps86
  go_wp2_with (go_at_call 104; refine HC.out.mono ?_; rintro e w1 ⟨⟨r, hr, rfl, hlo, hhi⟩, hb⟩; have HB := Lib.hid (bThen HN.out hb); have HLO := Lib.hid hlo; have HHI := Lib.hid hhi; clear hb hlo hhi)
  go_ret
  refine ⟨ret_int ?_, HB.out⟩
  rw [rt_eq hr]
  · by_cases hz : r = 0
    · subst hz; simpa using h0
    · have h := HLO.out.resolve_left hz
      obtain ⟨q, rfl⟩ : ∃ q, r = q + 1 := ⟨r - 1, by omega⟩
      rw [Nat.add_sub_cancel] at h
      exact Int.not_lt.1 (of_decide_eq_false h)
  · rcases HHI.out with h | h
    · subst h
      have : (32768 + 1 : Nat) = 32769 := rfl
      rw [this]
      omega
    · exact of_decide_eq_true h
/-- The loudness. -/
def loud (l : List Int) : Int := rt (sqs l / l.length)
theorem sm_sqs {l : List Int} (h : Sm l) : 0 ≤ sqs l ∧ sqs l ≤ l.length * 1073741824 := sqs_in fun x hx => by
  have := h x hx
  exact sq_in (B := 32768) (by omega) (by omega)
theorem quot_in {l : List Int} (h : Sm l) (h0 : 0 < l.length) : 0 ≤ sqs l / l.length ∧ sqs l / l.length ≤ 1073741824 := by
  have hq := sm_sqs h
  refine ⟨Int.ediv_nonneg hq.1 (by omega), ?_⟩
  have h2 : sqs l ≤ 1073741824 * (l.length : Int) := by have := Int.mul_comm (l.length : Int) 1073741824; omega
  exact Int.ediv_le_of_le_mul (by omega) h2
set_option maxHeartbeats 1000000 in
theorem loudness_any (l : List Int) (v : Value) (w : World) (hv : SliceV w v 1 IntAt l) (hs : Sm l) (h0 : 0 < l.length) (hn : l.length ≤ 1000000) :
    Calls Try.prog 61 #[v] w fun e w' => e = .returned (.int .i64 (loud l)) ∧ Below w.heap.size w w' := by
  have H1 := Lib.hid (squares_any l v w hv hs.md hn)
  have hq := quot_in hs h0
  have hs1 := sm_sqs hs
  have H2 := Lib.hid (fun W => root_any (sqs l / l.length) W hq.1 hq.2)
  unfold loud
  obtain ⟨a, c, rfl, -⟩ := hv
  have hz : ¬ (l.length : Int) = 0 := by omega
  have hz2 : ((l.length : Int) == 0) = false := beq_eq_false_iff_ne.2 hz
  clear hs
  generalize sqs l = s at *
  go_enter Try.func61, Try.ntmps61
  go_wp2_with (first
    | (go_at_call 87; refine H1.out.mono ?_; rintro e w1 ⟨rfl, rfl⟩)
    | (go_at_call 86; refine (H2.out _).mono ?_; rintro e w2 ⟨rfl, hb⟩))
  go_ret
  exact ⟨rfl, hb⟩
end Go.Proofs.Ytbeeddenidfenaa
