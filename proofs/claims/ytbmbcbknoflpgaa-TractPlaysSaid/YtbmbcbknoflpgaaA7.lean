/- Contracts: lists compared; followers and noise. -/
import Derived.Test.YtbmbcbknoflpgaaA6
import Derived.Test.YtbmbcbknoflpgaaA2
set_option linter.unusedSimpArgs false
set_option linter.unusedVariables false
namespace Go.Proofs.Ytbmbcbknoflpgaa
open Go.RowKit

theorem take_eq_succ {α : Type} {xs ys : List α} {k : Nat} (h : xs.take k = ys.take k) (hx : k < xs.length) (hy : k < ys.length) (e : xs[k] = ys[k]) : xs.take (k + 1) = ys.take (k + 1) := by
  rw [take_succ _ _ hx, take_succ _ _ hy, h, e]
set_option maxHeartbeats 1000000 in
theorem Same_any (xs ys : List Int) (v u : Value) (w : World) (hv : SliceV w v 1 IntAt xs) (hu : SliceV w u 1 IntAt ys) :
    Calls Try.prog 21 #[v, u] w fun e w' => e = .returned (.bool (decide (xs = ys))) ∧ Below w.heap.size w w' := by
  obtain ⟨xa, xc, rfl, hxl, hx⟩ := hv
  obtain ⟨ya, yc, rfl, hyl, hy⟩ := hu
  unfold most at hxl hyl
  by_cases hl : xs.length = ys.length
  · have hl' : ((xs.length : Int) == (ys.length : Int)) = true := by simp; omega
    have HL := Lib.hid hl
    clear hl
    go_enter Try.func21, Try.ntmps21
    go_wp2_with fail
    go_loopw [5] (fun i wr => ∃ k : Nat, k ≤ xs.length ∧ i = .int .i64 k ∧ Hid (xs.take k = ys.take k) ∧ Below w.heap.size w wr) (fun i _ => xs.length - (intOf i).toNat)
    case atStart => exact ⟨0, Nat.zero_le _, rfl, Lib.hid (by simp), Below.refl _ _⟩
    case round =>
      obtain ⟨k, hk, rfl, HT, hB⟩ := hrel
      by_cases hlt : k < xs.length
      · have hly : k < ys.length := by have := HL.out; omega
        have hly1 : (k : Int) < (ys.length : Int) := by omega
        have HN : Hid (xs[k] = ys[k] → Hid (xs.take (k + 1) = ys.take (k + 1))) := Lib.hid fun e => Lib.hid (take_eq_succ HT.out hlt hly e)
        rcases hx with hnil | ⟨xb, xo, rfl, hxf⟩
        · simp [hnil] at hlt
        rcases hy with hnil | ⟨yb, yo, rfl, hyf⟩
        · simp [hnil] at hly
        have p0 : wr.cell? ⟨xb, xo + k, none⟩ = some (.int .i64 xs[k]) := by have := keep hB (hxf k hlt); simpa using this
        have q0 : wr.cell? ⟨yb, yo + k, none⟩ = some (.int .i64 ys[k]) := by have := keep hB (hyf k hly); simpa using this
        have HE : Hid (xs[k] ≠ ys[k] → xs ≠ ys) := Lib.hid (by intro h e; exact h (by simp [e]))
        have hpb := cell_lt p0
        have hqb := cell_lt q0
        clear hxf hyf
        generalize xs[k] = p at *
        generalize ys[k] = q at *
        by_cases he : p = q
        · have h1 : (p == q) = true := by simp [he]
          have HEQ := Lib.hid he
          clear he
          go_wp2_with fail
          refine wp_opaque fun Q2 hQ2 => ?_
          (refine wp_region_below (by kernel_rfl) (by kernel_rfl) ?_; (repeat (first | go_big_quiet_step (fail) | quiet_step (fail))); (refine wpQuiet_nil ?_; intro _ hw'; obtain ⟨xq, hw''⟩ := hw'; subst hw''))
          refine hQ2 _ _ _ ?_
          go_wp2_with fail
          go_roundw
          case rel => exact ⟨k + 1, by omega, by go_num, HN.out HEQ.out, bThen hB xq.2⟩
          case measure => simp [intOf]; omega
        · have h1 : (p == q) = false := by simp [he]
          have HNE := Lib.hid he
          clear he
          go_wp2_with fail
          refine wp_opaque fun Q2 hQ2 => ?_
          (refine wp_region_below (by kernel_rfl) (by kernel_rfl) ?_; (repeat (first | go_big_quiet_step (fail) | quiet_step (fail))); (refine wpQuiet_nil ?_; intro _ hw'; obtain ⟨xq, hw''⟩ := hw'; subst hw''))
          refine hQ2 _ _ _ ?_
          go_wp2_with fail
          go_ret
          exact ⟨ret_bool (by simp; exact HE.out HNE.out), bThen hB xq.2⟩
      · obtain rfl : k = xs.length := by omega
        go_wp2_with fail
        go_ret
        exact ⟨ret_bool (by have h := HT.out; rw [List.take_length, HL.out, List.take_length] at h; simp [h]), hB⟩
  · have hl' : ((xs.length : Int) == (ys.length : Int)) = false := by simp; omega
    have HL := Lib.hid hl
    clear hl
    go_enter Try.func21, Try.ntmps21
    go_wp2_with fail
    go_ret
    exact ⟨ret_bool (by simp; intro h; exact HL.out (by rw [h])), Below.refl _ _⟩
/-- What a follower refuses. -/
def folOk (x g s : Int) : Bool := betw x (-1000000000) 1000000000 && betw g (-1000000000) 1000000000 && betw s 1 1000
set_option maxHeartbeats 400000 in
theorem speed_any (n : Int) (w : World) : Calls Try.prog 72 #[.int .i64 n] w fun e w' => e = .returned (.bool (betw n 1 1000)) ∧ w = w' := by
  go_enter Try.func72, Try.ntmps72
  go_wp2_with (go_at_call 71; refine (between_any _ _ _ _).mono ?_; rintro e w' ⟨rfl, rfl⟩)
  go_ret
  exact ⟨rfl, rfl⟩
set_option maxHeartbeats 2000000 in
theorem Follow_any (x g s : Int) (w : World) : Calls Try.prog 38 #[.int .i64 x, .int .i64 g, .int .i64 s] w fun e w' => e = .returned (.tuple #[.int .i64 (if folOk x g s = true then flw x g s else 0), .int .i64 (if folOk x g s = true then 0 else 2)]) ∧ w = w' := by
  have HF : Hid (folOk x g s = true → ∀ W, Calls Try.prog 73 #[.int .i64 x, .int .i64 g, .int .i64 s] W fun e w' => e = .returned (.int .i64 (flw x g s)) ∧ W = w') := Lib.hid (fun h W => by
    simp only [folOk, Bool.and_eq_true, betw_iff] at h
    exact followed_any x g s W (by omega) (by omega) (by omega) (by omega))
  have HX := Lib.hid (between_any x (-1000000000) 1000000000)
  have HG := Lib.hid (between_any g (-1000000000) 1000000000)
  have HS := Lib.hid (speed_any s)
  have hd : folOk x g s = (betw x (-1000000000) 1000000000 && betw g (-1000000000) 1000000000 && betw s 1 1000) := rfl
  rw [hd] at HF ⊢
  clear hd
  generalize flw x g s = y at *
  cases h1 : betw x (-1000000000) 1000000000 <;> rw [h1] at HX HF <;> clear h1
  · simp only [Bool.false_and, Bool.false_eq_true, if_false]
    go_enter Try.func38, Try.ntmps38
    go_wp2_with (first
      | (go_at_call 71; with_reducible refine Calls.mono (HX.out _) ?_; rintro e w1 ⟨rfl, rfl⟩)
      | (go_at_call 71; with_reducible refine Calls.mono (HG.out _) ?_; rintro e w1 ⟨rfl, rfl⟩)
      | (go_at_call 72; with_reducible refine Calls.mono (HS.out _) ?_; rintro e w1 ⟨rfl, rfl⟩)
      | (go_at_call 73; with_reducible refine Calls.mono (HF.out rfl _) ?_; rintro e w1 ⟨rfl, rfl⟩))
    go_ret2
    exact ⟨rfl, rfl⟩
  · cases h2 : betw g (-1000000000) 1000000000 <;> rw [h2] at HG HF <;> clear h2
    · simp only [Bool.false_and, Bool.and_false, Bool.false_eq_true, if_false]
      go_enter Try.func38, Try.ntmps38
      go_wp2_with (first
        | (go_at_call 71; with_reducible refine Calls.mono (HX.out _) ?_; rintro e w1 ⟨rfl, rfl⟩)
        | (go_at_call 71; with_reducible refine Calls.mono (HG.out _) ?_; rintro e w1 ⟨rfl, rfl⟩)
        | (go_at_call 72; with_reducible refine Calls.mono (HS.out _) ?_; rintro e w1 ⟨rfl, rfl⟩)
        | (go_at_call 73; with_reducible refine Calls.mono (HF.out rfl _) ?_; rintro e w1 ⟨rfl, rfl⟩))
      go_ret2
      exact ⟨rfl, rfl⟩
    · cases h3 : betw s 1 1000 <;> rw [h3] at HS HF <;> clear h3
      · simp only [Bool.and_false, Bool.false_eq_true, if_false]
        go_enter Try.func38, Try.ntmps38
        go_wp2_with (first
          | (go_at_call 71; with_reducible refine Calls.mono (HX.out _) ?_; rintro e w1 ⟨rfl, rfl⟩)
          | (go_at_call 71; with_reducible refine Calls.mono (HG.out _) ?_; rintro e w1 ⟨rfl, rfl⟩)
          | (go_at_call 72; with_reducible refine Calls.mono (HS.out _) ?_; rintro e w1 ⟨rfl, rfl⟩)
          | (go_at_call 73; with_reducible refine Calls.mono (HF.out rfl _) ?_; rintro e w1 ⟨rfl, rfl⟩))
        go_ret2
        exact ⟨rfl, rfl⟩
      · simp only [Bool.and_self, if_true]
        go_enter Try.func38, Try.ntmps38
        go_wp2_with (first
          | (go_at_call 71; with_reducible refine Calls.mono (HX.out _) ?_; rintro e w1 ⟨rfl, rfl⟩)
          | (go_at_call 71; with_reducible refine Calls.mono (HG.out _) ?_; rintro e w1 ⟨rfl, rfl⟩)
          | (go_at_call 72; with_reducible refine Calls.mono (HS.out _) ?_; rintro e w1 ⟨rfl, rfl⟩)
          | (go_at_call 73; with_reducible refine Calls.mono (HF.out rfl _) ?_; rintro e w1 ⟨rfl, rfl⟩))
        go_ret2
        exact ⟨rfl, rfl⟩
end Go.Proofs.Ytbmbcbknoflpgaa
