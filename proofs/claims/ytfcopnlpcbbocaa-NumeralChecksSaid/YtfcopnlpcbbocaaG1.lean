/- Contracts: lists that are compared. -/
import Derived.Test.YtfcopnlpcbbocaaF5
namespace Go.Proofs.Ytfcopnlpcbbocaa
open Go.RowKit

def IntAt (w : World) (b o : Nat) (n : Int) : Prop := w.cell? ⟨b, o, none⟩ = some (.int .i64 n)
theorem IntAt.stable : Stable IntAt := fun _ _ _ _ _ hB h => keep hB h

theorem take_eq_succ {α : Type} {xs ys : List α} {k : Nat} (h : xs.take k = ys.take k) (hx : k < xs.length) (hy : k < ys.length) (e : xs[k] = ys[k]) : xs.take (k + 1) = ys.take (k + 1) := by
  rw [take_succ xs k hx, take_succ ys k hy, h, e]

theorem text_eq (p q : ByteArray) : (p.toList == q.toList) = decide (p = q) := by
  by_cases h : p = q
  · subst h; simp
  · have : p.toList ≠ q.toList := fun h' => h (ByteArray.ext (Array.toList_inj.1 (by simpa [ByteArray.toList_eq] using h')))
    simp [h, this]
set_option maxHeartbeats 1000000 in
theorem Same_any (xs ys : List ByteArray) (v u : Value) (w : World) (hv : SliceV w v 1 StrAt xs) (hu : SliceV w u 1 StrAt ys) :
    Calls Try.prog 25 #[v, u] w fun e w' => e = .returned (.bool (decide (xs = ys))) ∧ Below w.heap.size w w' := by
  obtain ⟨xa, xc, rfl, hxl, hx⟩ := hv
  obtain ⟨ya, yc, rfl, hyl, hy⟩ := hu
  unfold most at hxl hyl
  by_cases hl : xs.length = ys.length
  · have hl' : ((xs.length : Int) == (ys.length : Int)) = true := by simp; omega
    have HL := Lib.hid hl
    clear hl
    go_enter Try.func25, Try.ntmps25
    go_wp2_with fail
    go_loopw [5] (fun i wr => ∃ k : Nat, k ≤ xs.length ∧ i = .int .i64 k ∧ Hid (xs.take k = ys.take k) ∧ Below w.heap.size w wr) (fun i _ => xs.length - (intOf i).toNat)
    case atStart => exact ⟨0, Nat.zero_le _, rfl, Lib.hid (by simp), Below.refl _ _⟩
    case round =>
      obtain ⟨k, hk, rfl, HT, hB⟩ := hrel
      by_cases hlt : k < xs.length
      · have hly : k < ys.length := by have := HL.out; omega
        have hly1 : (k : Int) < (ys.length : Int) := by omega
        have HN : Hid (xs[k] = ys[k] → Hid (xs.take (k + 1) = ys.take (k + 1))) := Lib.hid fun e => Lib.hid (take_eq_succ HT.out hlt hly e)
        rcases hx with hnil | ⟨xb, xo, rfl, hxf⟩
        · simp [hnil] at hlt
        rcases hy with hnil | ⟨yb, yo, rfl, hyf⟩
        · simp [hnil] at hly
        have p0 : wr.cell? ⟨xb, xo + k, none⟩ = some (.string xs[k]) := by have := keep hB (hxf k hlt); simpa using this
        have q0 : wr.cell? ⟨yb, yo + k, none⟩ = some (.string ys[k]) := by have := keep hB (hyf k hly); simpa using this
        have HE : Hid (xs[k] ≠ ys[k] → xs ≠ ys) := Lib.hid (by intro h e; exact h (by simp [e]))
        have hpb := cell_lt p0
        have hqb := cell_lt q0
        clear hxf hyf
        generalize xs[k] = p at *
        generalize ys[k] = q at *
        have ht := text_eq p q
        by_cases he : p = q
        · have h1 : (p.toList == q.toList) = true := by rw [ht]; simp [he]
          have HEQ := Lib.hid he
          clear he ht
          go_wp2_with fail
          refine wp_opaque fun Q2 hQ2 => ?_
          (refine wp_region_below (by kernel_rfl) (by kernel_rfl) ?_; (repeat (first | go_big_quiet_step (fail) | quiet_step (fail))); (refine wpQuiet_nil ?_; intro _ hw'; obtain ⟨xq, hw''⟩ := hw'; subst hw''))
          refine hQ2 _ _ _ ?_
          go_wp2_with fail
          go_roundw
          case rel => exact ⟨k + 1, by omega, by go_num, HN.out HEQ.out, bThen hB xq.2⟩
          case measure => simp [intOf]; omega
        · have h1 : (p.toList == q.toList) = false := by rw [ht]; simp [he]
          have HNE := Lib.hid he
          clear he ht
          go_wp2_with fail
          refine wp_opaque fun Q2 hQ2 => ?_
          (refine wp_region_below (by kernel_rfl) (by kernel_rfl) ?_; (repeat (first | go_big_quiet_step (fail) | quiet_step (fail))); (refine wpQuiet_nil ?_; intro _ hw'; obtain ⟨xq, hw''⟩ := hw'; subst hw''))
          refine hQ2 _ _ _ ?_
          go_wp2_with fail
          go_ret
          exact ⟨ret_bool (by simp; exact HE.out HNE.out), bThen hB xq.2⟩
      · obtain rfl : k = xs.length := by omega
        go_wp2_with fail
        go_ret
        exact ⟨ret_bool (by have h := HT.out; rw [List.take_length, HL.out, List.take_length] at h; simp [h]), hB⟩
  · have hl' : ((xs.length : Int) == (ys.length : Int)) = false := by simp; omega
    have HL := Lib.hid hl
    clear hl
    go_enter Try.func25, Try.ntmps25
    go_wp2_with fail
    go_ret
    exact ⟨ret_bool (by simp; intro h; exact HL.out (by rw [h])), Below.refl _ _⟩
set_option maxHeartbeats 1000000 in
theorem Equal_any (xs ys : List ByteArray) (v u : Value) (w : World) (hv : SliceV w v 1 StrAt xs) (hu : SliceV w u 1 StrAt ys) :
    Calls Try.prog 58 #[v, u] w fun e w' => e = .returned (.bool (decide (xs = ys))) ∧ Below w.heap.size w w' := by
  obtain ⟨xa, xc, rfl, hxl, hx⟩ := hv
  obtain ⟨ya, yc, rfl, hyl, hy⟩ := hu
  unfold most at hxl hyl
  by_cases hl : xs.length = ys.length
  · have hl' : ((xs.length : Int) == (ys.length : Int)) = true := by simp; omega
    have HL := Lib.hid hl
    clear hl
    go_enter Try.func58, Try.ntmps58
    go_wp2_with fail
    go_loopw [5, 13] (fun _ i wr => ∃ k : Nat, k ≤ xs.length ∧ i = .int .i64 k ∧ Hid (xs.take k = ys.take k) ∧ Below w.heap.size w wr) (fun _ i _ => xs.length - (intOf i).toNat)
    case atStart => exact ⟨0, Nat.zero_le _, rfl, Lib.hid (by simp), Below.refl _ _⟩
    case round =>
      obtain ⟨k, hk, rfl, HT, hB⟩ := hrel
      by_cases hlt : k < xs.length
      · have hly : k < ys.length := by have := HL.out; omega
        have hly1 : (k : Int) < (ys.length : Int) := by omega
        have HN : Hid (xs[k] = ys[k] → Hid (xs.take (k + 1) = ys.take (k + 1))) := Lib.hid fun e => Lib.hid (take_eq_succ HT.out hlt hly e)
        rcases hx with hnil | ⟨xb, xo, rfl, hxf⟩
        · simp [hnil] at hlt
        rcases hy with hnil | ⟨yb, yo, rfl, hyf⟩
        · simp [hnil] at hly
        have p0 : wr.cell? ⟨xb, xo + k, none⟩ = some (.string xs[k]) := by have := keep hB (hxf k hlt); simpa using this
        have q0 : wr.cell? ⟨yb, yo + k, none⟩ = some (.string ys[k]) := by have := keep hB (hyf k hly); simpa using this
        have HE : Hid (xs[k] ≠ ys[k] → xs ≠ ys) := Lib.hid (by intro h e; exact h (by simp [e]))
        have hpb := cell_lt p0
        have hqb := cell_lt q0
        clear hxf hyf
        generalize xs[k] = p at *
        generalize ys[k] = q at *
        have ht := text_eq p q
        by_cases he : p = q
        · have h1 : (p.toList == q.toList) = true := by rw [ht]; simp [he]
          have HEQ := Lib.hid he
          clear he ht
          go_wp2_with fail
          refine wp_opaque fun Q2 hQ2 => ?_
          (refine wp_region_below (by kernel_rfl) (by kernel_rfl) ?_; (repeat (first | go_big_quiet_step (fail) | quiet_step (fail))); (refine wpQuiet_nil ?_; intro _ hw'; obtain ⟨xq, hw''⟩ := hw'; subst hw''))
          refine hQ2 _ _ _ ?_
          go_wp2_with fail
          go_roundw
          case rel => exact ⟨k + 1, by omega, by go_num, HN.out HEQ.out, bThen hB xq.2⟩
          case measure => simp [intOf]; omega
        · have h1 : (p.toList == q.toList) = false := by rw [ht]; simp [he]
          have HNE := Lib.hid he
          clear he ht
          go_wp2_with fail
          refine wp_opaque fun Q2 hQ2 => ?_
          (refine wp_region_below (by kernel_rfl) (by kernel_rfl) ?_; (repeat (first | go_big_quiet_step (fail) | quiet_step (fail))); (refine wpQuiet_nil ?_; intro _ hw'; obtain ⟨xq, hw''⟩ := hw'; subst hw''))
          refine hQ2 _ _ _ ?_
          go_wp2_with fail
          go_ret
          exact ⟨ret_bool (by simp; exact HE.out HNE.out), bThen hB xq.2⟩
      · obtain rfl : k = xs.length := by omega
        go_wp2_with fail
        go_ret
        exact ⟨ret_bool (by have h := HT.out; rw [List.take_length, HL.out, List.take_length] at h; simp [h]), hB⟩
  · have hl' : ((xs.length : Int) == (ys.length : Int)) = false := by simp; omega
    have HL := Lib.hid hl
    clear hl
    go_enter Try.func58, Try.ntmps58
    go_wp2_with fail
    go_ret
    exact ⟨ret_bool (by simp; intro h; exact HL.out (by rw [h])), Below.refl _ _⟩
set_option maxHeartbeats 1000000 in
theorem Numbers_any (xs ys : List Int) (v u : Value) (w : World) (hv : SliceV w v 1 IntAt xs) (hu : SliceV w u 1 IntAt ys) :
    Calls Try.prog 29 #[v, u] w fun e w' => e = .returned (.bool (decide (xs = ys))) ∧ Below w.heap.size w w' := by
  obtain ⟨xa, xc, rfl, hxl, hx⟩ := hv
  obtain ⟨ya, yc, rfl, hyl, hy⟩ := hu
  unfold most at hxl hyl
  by_cases hl : xs.length = ys.length
  · have hl' : ((xs.length : Int) == (ys.length : Int)) = true := by simp; omega
    have HL := Lib.hid hl
    clear hl
    go_enter Try.func29, Try.ntmps29
    go_wp2_with fail
    go_loopw [5] (fun i wr => ∃ k : Nat, k ≤ xs.length ∧ i = .int .i64 k ∧ Hid (xs.take k = ys.take k) ∧ Below w.heap.size w wr) (fun i _ => xs.length - (intOf i).toNat)
    case atStart => exact ⟨0, Nat.zero_le _, rfl, Lib.hid (by simp), Below.refl _ _⟩
    case round =>
      obtain ⟨k, hk, rfl, HT, hB⟩ := hrel
      by_cases hlt : k < xs.length
      · have hly : k < ys.length := by have := HL.out; omega
        have hly1 : (k : Int) < (ys.length : Int) := by omega
        have HN : Hid (xs[k] = ys[k] → Hid (xs.take (k + 1) = ys.take (k + 1))) := Lib.hid fun e => Lib.hid (take_eq_succ HT.out hlt hly e)
        rcases hx with hnil | ⟨xb, xo, rfl, hxf⟩
        · simp [hnil] at hlt
        rcases hy with hnil | ⟨yb, yo, rfl, hyf⟩
        · simp [hnil] at hly
        have p0 : wr.cell? ⟨xb, xo + k, none⟩ = some (.int .i64 xs[k]) := by have := keep hB (hxf k hlt); simpa using this
        have q0 : wr.cell? ⟨yb, yo + k, none⟩ = some (.int .i64 ys[k]) := by have := keep hB (hyf k hly); simpa using this
        have HE : Hid (xs[k] ≠ ys[k] → xs ≠ ys) := Lib.hid (by intro h e; exact h (by simp [e]))
        have hpb := cell_lt p0
        have hqb := cell_lt q0
        clear hxf hyf
        generalize xs[k] = p at *
        generalize ys[k] = q at *
        by_cases he : p = q
        · have h1 : (p == q) = true := by simp [he]
          have HEQ := Lib.hid he
          clear he
          go_wp2_with fail
          refine wp_opaque fun Q2 hQ2 => ?_
          (refine wp_region_below (by kernel_rfl) (by kernel_rfl) ?_; (repeat (first | go_big_quiet_step (fail) | quiet_step (fail))); (refine wpQuiet_nil ?_; intro _ hw'; obtain ⟨xq, hw''⟩ := hw'; subst hw''))
          refine hQ2 _ _ _ ?_
          go_wp2_with fail
          go_roundw
          case rel => exact ⟨k + 1, by omega, by go_num, HN.out HEQ.out, bThen hB xq.2⟩
          case measure => simp [intOf]; omega
        · have h1 : (p == q) = false := by simp [he]
          have HNE := Lib.hid he
          clear he
          go_wp2_with fail
          refine wp_opaque fun Q2 hQ2 => ?_
          (refine wp_region_below (by kernel_rfl) (by kernel_rfl) ?_; (repeat (first | go_big_quiet_step (fail) | quiet_step (fail))); (refine wpQuiet_nil ?_; intro _ hw'; obtain ⟨xq, hw''⟩ := hw'; subst hw''))
          refine hQ2 _ _ _ ?_
          go_wp2_with fail
          go_ret
          exact ⟨ret_bool (by simp; exact HE.out HNE.out), bThen hB xq.2⟩
      · obtain rfl : k = xs.length := by omega
        go_wp2_with fail
        go_ret
        exact ⟨ret_bool (by have h := HT.out; rw [List.take_length, HL.out, List.take_length] at h; simp [h]), hB⟩
  · have hl' : ((xs.length : Int) == (ys.length : Int)) = false := by simp; omega
    have HL := Lib.hid hl
    clear hl
    go_enter Try.func29, Try.ntmps29
    go_wp2_with fail
    go_ret
    exact ⟨ret_bool (by simp; intro h; exact HL.out (by rw [h])), Below.refl _ _⟩
end Go.Proofs.Ytfcopnlpcbbocaa
