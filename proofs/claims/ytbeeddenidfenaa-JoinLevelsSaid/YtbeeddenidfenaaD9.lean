/- Contracts: the greatest gain. -/
import Derived.Test.YtbeeddenidfenaaD8
import Derived.Test.YtbeeddenidfenaaB4
set_option linter.unusedSimpArgs false
set_option linter.unusedVariables false
namespace Go.Proofs.Ytbeeddenidfenaa
open Go.RowKit

set_option maxHeartbeats 1000000 in
theorem gGain1_any (l : List Int) (num den : Int) (b1 b2 : Nat) (v : Value) (w : World) (hv : SliceV w v 1 IntAt l) (hs : Sm l) (hn : l.length ≤ 1000000) (h0 : 0 ≤ num) (h1 : num ≤ 1000001) (h2 : 1 ≤ den) (h3 : den ≤ 1000000)
    (c1 : w.cell? ⟨b1, 0, none⟩ = some v) (c2 : w.cell? ⟨b2, 0, none⟩ = some (.int .i64 den)) :
    Calls Try.prog 99 #[.int .i64 num, .pointer (some ⟨b1, 0, none⟩), .pointer (some ⟨b2, 0, none⟩)] w fun e w' => e = .returned (.bool (decide (clips l num den = 0))) ∧ Below w.heap.size w w' := by
  have HG := Lib.hid (gained_any l num den v w hv hs hn h0 h1 h2 h3)
  have hb1 := cell_lt c1
  have hb2 := cell_lt c2
  obtain ⟨a, c, rfl, -⟩ := hv
  obtain ⟨m, hm⟩ : ∃ m, m = clips l num den := ⟨_, rfl⟩
  rw [← hm] at HG ⊢
  clear hm
  by_cases hz : m = 0
  · subst hz
    go_enter Try.func99, Try.ntmps99
    go_wp2_with (go_at_call 78; with_reducible refine Calls.mono HG.out ?_; rintro e w1 ⟨⟨g, rfl, hg, hs⟩, hb⟩; have HB := Lib.hid hb; clear hb hg hs)
    go_ret
    exact ⟨rfl, HB.out⟩
  · have hz1 : ((m : Int) == 0) = false := beq_eq_false_iff_ne.2 (by omega)
    have hz2 : decide (m = 0) = false := decide_eq_false hz
    rw [hz2]
    go_enter Try.func99, Try.ntmps99
    go_wp2_with (go_at_call 78; with_reducible refine Calls.mono HG.out ?_; rintro e w1 ⟨⟨g, rfl, hg, hs⟩, hb⟩; have HB := Lib.hid hb; clear hb hg hs)
    go_ret
    exact ⟨ret_bool (by first | rfl | simp [hz]), HB.out⟩
/-- A greatest gain whose samples at both ends are not clipped. -/
def GainTop (l : List Int) (den : Int) (r : Nat) : Prop := r ≤ 1000000 ∧ (r = 0 ∨ clips l r den = 0) ∧ (r = 1000000 ∨ clips l ((r + 1 : Nat) : Int) den ≠ 0)
theorem minL_mem {l : List Int} (h : l ≠ []) : minL l ∈ l := by
  have key : ∀ (t : List Int) (a : Int), t.foldl (fun a b => if b < a then b else a) a ∈ a :: t := by
    intro t
    induction t with
    | nil => intro a; simp
    | cons x t ih =>
      intro a
      have := ih (if x < a then x else a)
      rw [List.foldl_cons]
      rcases List.mem_cons.1 this with h | h
      · rw [h]; split <;> simp
      · simp [h]
  cases l with
  | nil => exact absurd rfl h
  | cons a t => exact key t a
theorem maxL_mem {l : List Int} (h : l ≠ []) : maxL l ∈ l := by
  have key : ∀ (t : List Int) (a : Int), t.foldl (fun a b => if a < b then b else a) a ∈ a :: t := by
    intro t
    induction t with
    | nil => intro a; simp
    | cons x t ih =>
      intro a
      have := ih (if a < x then x else a)
      rw [List.foldl_cons]
      rcases List.mem_cons.1 this with h | h
      · rw [h]; split <;> simp
      · simp [h]
  cases l with
  | nil => exact absurd rfl h
  | cons a t => exact key t a
end Go.Proofs.Ytbeeddenidfenaa
