/- Contracts: Value; commands; lists compared. -/
import Derived.Test.YtejcbcjhmnhefabDoorA4
set_option linter.unusedSimpArgs false
set_option linter.unusedVariables false
namespace Go.Proofs.YtejcbcjhmnhefabDoor
open Go.RowKit

/-- What Value hands back. -/
def valueRes (x : Cmd) (t : Int) : Value := if cmdOk x = true ∧ betw t (-4000) 8000 = true then .tuple #[.int .i64 (cmdVal x t), .int .i64 0] else .tuple #[.int .i64 0, .int .i64 2]
set_option maxHeartbeats 1000000 in
theorem Value_any (x : Cmd) (t : Int) (v : Value) (w : World) (hv : SliceV w v 2 KnotAt x.shape) :
    Calls Tryd.prog 8 #[.agg #[.int .i64 x.at_, .int .i64 x.height, v], .int .i64 t] w fun e w' => e = .returned (valueRes x t) ∧ Below w.heap.size w w' := by
  have HV := Lib.hid hv
  obtain ⟨a, c, rfl, hl, -⟩ := hv
  have h46 : ∀ W, Below w.heap.size w W → Calls Tryd.prog 16 #[.agg #[.int .i64 x.at_, .int .i64 x.height, .slice a x.shape.length c]] W fun e w' => e = .returned (.bool (!cmdOk x)) ∧ Below W.heap.size W w' := fun W hB => commandWrong_any _ _ _ (HV.out.keep KnotAt.stable hB)
  have H46 := Lib.hid h46
  have HN := Lib.hid (bAlloc (Below.refl w.heap.size w) (.cells #[.int .i64 x.at_, .int .i64 x.height, .slice a x.shape.length c] 36))
  clear h46
  cases h1 : cmdOk x
  · have hr : valueRes x t = .tuple #[.int .i64 0, .int .i64 2] := by simp [valueRes, h1]
    rw [hr]
    go_enter Tryd.func8, Tryd.ntmps8
    go_wp2_with (go_at_call 16; refine (H46.out _ HN.out).mono ?_; rintro e w1 ⟨rfl, hb⟩; rw [h1]; have HB := Lib.hid (bThen HN.out hb); clear hb)
    go_ret2
    exact ⟨rfl, HB.out⟩
  · cases h2 : betw t (-4000) 8000
    · have hr : valueRes x t = .tuple #[.int .i64 0, .int .i64 2] := by simp [valueRes, h1, h2]
      rw [hr]
      go_enter Tryd.func8, Tryd.ntmps8
      go_wp2_with (first
        | (go_at_call 16; refine (H46.out _ HN.out).mono ?_; rintro e w1 ⟨rfl, hb⟩; rw [h1]; have HB := Lib.hid (bThen HN.out hb); clear hb)
        | (go_at_call 17; refine (between_any _ _ _ _).mono ?_; rintro e w' ⟨rfl, rfl⟩; rw [h2]))
      go_ret2
      exact ⟨rfl, HB.out⟩
    · have hr : valueRes x t = .tuple #[.int .i64 (cmdVal x t), .int .i64 0] := by simp [valueRes, h1, h2]
      rw [hr]
      have ht : -4000 ≤ t ∧ t ≤ 8000 := by simp [betw] at h2; omega
      have h48 : ∀ W, Below w.heap.size w W → Calls Tryd.prog 18 #[.agg #[.int .i64 x.at_, .int .i64 x.height, .slice a x.shape.length c], .int .i64 t] W fun e w' => e = .returned (.int .i64 (cmdVal x t)) ∧ Below W.heap.size W w' := fun W hB => value_any _ _ _ _ (HV.out.keep KnotAt.stable hB) h1 (by omega) (by omega)
      have H48 := Lib.hid h48
      clear h48
      go_enter Tryd.func8, Tryd.ntmps8
      go_wp2_with (first
        | (go_at_call 16; refine (H46.out _ HN.out).mono ?_; rintro e w1 ⟨rfl, hb⟩; rw [h1]; have c0 := keep hb (cell_new (j := 0) rfl); have c1 := keep hb (cell_new (j := 1) rfl); have c2 := keep hb (cell_new (j := 2) rfl); have HB := Lib.hid (bThen HN.out hb); have hlc := cell_lt c1; clear hb)
        | (go_at_call 17; refine (between_any _ _ _ _).mono ?_; rintro e w' ⟨rfl, rfl⟩; rw [h2])
        | (go_at_call 18; refine (H48.out _ HB.out).mono ?_; rintro e w1 ⟨rfl, hb⟩; replace HB := Lib.hid (bThen HB.out hb); clear hb))
      go_ret2
      exact ⟨rfl, HB.out⟩
theorem take_eq_succ {α : Type} {xs ys : List α} {k : Nat} (h : xs.take k = ys.take k) (hx : k < xs.length) (hy : k < ys.length) (e : xs[k] = ys[k]) : xs.take (k + 1) = ys.take (k + 1) := by
  rw [take_succ xs k hx, take_succ ys k hy, h, e]
set_option maxHeartbeats 1000000 in
theorem Same_any (xs ys : List Int) (v u : Value) (w : World) (hv : SliceV w v 1 IntAt xs) (hu : SliceV w u 1 IntAt ys) :
    Calls Tryd.prog 13 #[v, u] w fun e w' => e = .returned (.bool (decide (xs = ys))) ∧ Below w.heap.size w w' := by
  obtain ⟨xa, xc, rfl, hxl, hx⟩ := hv
  obtain ⟨ya, yc, rfl, hyl, hy⟩ := hu
  unfold most at hxl hyl
  by_cases hl : xs.length = ys.length
  · have hl' : ((xs.length : Int) == (ys.length : Int)) = true := by simp; omega
    have HL := Lib.hid hl
    clear hl
    go_enter Tryd.func13, Tryd.ntmps13
    go_wp2_with fail
    go_loopw [5] (fun i wr => ∃ k : Nat, k ≤ xs.length ∧ i = .int .i64 k ∧ Hid (xs.take k = ys.take k) ∧ Below w.heap.size w wr) (fun i _ => xs.length - (intOf i).toNat)
    case atStart => exact ⟨0, Nat.zero_le _, rfl, Lib.hid (by simp), Below.refl _ _⟩
    case round =>
      obtain ⟨k, hk, rfl, HT, hB⟩ := hrel
      by_cases hlt : k < xs.length
      · have hly : k < ys.length := by have := HL.out; omega
        have hly1 : (k : Int) < (ys.length : Int) := by omega
        have HN : Hid (xs[k] = ys[k] → Hid (xs.take (k + 1) = ys.take (k + 1))) := Lib.hid fun e => Lib.hid (take_eq_succ HT.out hlt hly e)
        rcases hx with hnil | ⟨xb, xo, rfl, hxf⟩
        · simp [hnil] at hlt
        rcases hy with hnil | ⟨yb, yo, rfl, hyf⟩
        · simp [hnil] at hly
        have p0 : wr.cell? ⟨xb, xo + k, none⟩ = some (.int .i64 xs[k]) := by have := keep hB (hxf k hlt); simpa using this
        have q0 : wr.cell? ⟨yb, yo + k, none⟩ = some (.int .i64 ys[k]) := by have := keep hB (hyf k hly); simpa using this
        have HE : Hid (xs[k] ≠ ys[k] → xs ≠ ys) := Lib.hid (by intro h e; exact h (by simp [e]))
        have hpb := cell_lt p0
        have hqb := cell_lt q0
        clear hxf hyf
        generalize xs[k] = p at *
        generalize ys[k] = q at *
        by_cases he : p = q
        · have h1 : (p == q) = true := by simp [he]
          have HEQ := Lib.hid he
          clear he
          go_wp2_with fail
          refine wp_opaque fun Q2 hQ2 => ?_
          (refine wp_region_below (by kernel_rfl) (by kernel_rfl) ?_; (repeat (first | go_big_quiet_step (fail) | quiet_step (fail))); (refine wpQuiet_nil ?_; intro _ hw'; obtain ⟨xq, hw''⟩ := hw'; subst hw''))
          refine hQ2 _ _ _ ?_
          go_wp2_with fail
          go_roundw
          case rel => exact ⟨k + 1, by omega, by go_num, HN.out HEQ.out, bThen hB xq.2⟩
          case measure => simp [intOf]; omega
        · have h1 : (p == q) = false := by simp [he]
          have HNE := Lib.hid he
          clear he
          go_wp2_with fail
          refine wp_opaque fun Q2 hQ2 => ?_
          (refine wp_region_below (by kernel_rfl) (by kernel_rfl) ?_; (repeat (first | go_big_quiet_step (fail) | quiet_step (fail))); (refine wpQuiet_nil ?_; intro _ hw'; obtain ⟨xq, hw''⟩ := hw'; subst hw''))
          refine hQ2 _ _ _ ?_
          go_wp2_with fail
          go_ret
          exact ⟨ret_bool (by simp; exact HE.out HNE.out), bThen hB xq.2⟩
      · obtain rfl : k = xs.length := by omega
        go_wp2_with fail
        go_ret
        exact ⟨ret_bool (by have h := HT.out; rw [List.take_length, HL.out, List.take_length] at h; simp [h]), hB⟩
  · have hl' : ((xs.length : Int) == (ys.length : Int)) = false := by simp; omega
    have HL := Lib.hid hl
    clear hl
    go_enter Tryd.func13, Tryd.ntmps13
    go_wp2_with fail
    go_ret
    exact ⟨ret_bool (by simp; intro h; exact HL.out (by rw [h])), Below.refl _ _⟩
end Go.Proofs.YtejcbcjhmnhefabDoor
