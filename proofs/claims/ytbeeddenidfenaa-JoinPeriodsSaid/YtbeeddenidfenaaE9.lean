/- Contracts: the law's marked and example. -/
import Derived.Test.YtbeeddenidfenaaE8
import Derived.Test.YtbeeddenidfenaaB3
set_option linter.unusedSimpArgs false
set_option linter.unusedVariables false
namespace Go.Proofs.Ytbeeddenidfenaa
open Go.RowKit

def mkShort (m : Mk) : Bool := shrt m.sam.length && decide (m.marks.length ≤ 500)
set_option maxHeartbeats 2000000 in
theorem marked_any (m : Mk) (vs vm : Value) (w : World) (hv : MkV w vs vm m) :
    Calls Try.prog 40 #[.agg #[vs, vm]] w fun e w' => e = .returned (.bool (mkShort m)) ∧ Below w.heap.size w w' := by
  have HS : Hid (∀ W, Below w.heap.size w W → Calls Try.prog 17 #[vs] W fun e w' => e = .returned (.bool (shrt m.sam.length)) ∧ W = w') := Lib.hid (fun W hB => short_any m.sam vs W (hv.1.keep IntAt.stable hB))
  have HN := Lib.hid (bAlloc (Below.refl w.heap.size w) (.cells #[vs, vm] 24))
  obtain ⟨⟨a, c, rfl, hl, -⟩, ⟨am, cm, rfl, hlm, -⟩⟩ := hv
  unfold most at hl hlm
  have hms : mkShort m = (shrt m.sam.length && decide (m.marks.length ≤ 500)) := rfl
  rw [hms]
  obtain ⟨n, hn⟩ : ∃ n, m.marks.length = n := ⟨_, rfl⟩
  rw [hn] at hlm HN ⊢
  clear hms hn
  cases h1 : shrt m.sam.length
  · rw [h1] at HS
    go_enter Try.func40, Try.ntmps40
    go_wp2_with (go_at_call 17; with_reducible refine Calls.mono (HS.out _ HN.out) ?_; rintro e w1 ⟨rfl, rfl⟩)
    go_ret
    exact ⟨ret_bool (by first | rfl | (simp; omega)), HN.out⟩
  · rw [h1] at HS
    by_cases h2 : (n : Int) ≤ 500
    · rw [decide_eq_true (show n ≤ 500 by omega)]
      go_enter Try.func40, Try.ntmps40
      go_wp2_with (go_at_call 17; with_reducible refine Calls.mono (HS.out _ HN.out) ?_; rintro e w1 ⟨rfl, rfl⟩)
      go_ret
      exact ⟨ret_bool (by first | rfl | (simp; omega)), HN.out⟩
    · rw [decide_eq_false (show ¬ n ≤ 500 by omega)]
      go_enter Try.func40, Try.ntmps40
      go_wp2_with (go_at_call 17; with_reducible refine Calls.mono (HS.out _ HN.out) ?_; rintro e w1 ⟨rfl, rfl⟩)
      go_ret
      exact ⟨ret_bool (by first | rfl | (simp; omega)), HN.out⟩
theorem old_heap (w : World) (o : Obj) {r : Nat} (h : r < w.heap.size) : (w.alloc o).heap[r]? = w.heap[r]? := by
  show (w.heap.push o)[r]? = w.heap[r]?
  rw [Array.getElem?_push, if_neg (Nat.ne_of_lt h)]
def exMk : Mk := ⟨[5, 1, 2, 3, 4, 6], [1, 3, 5]⟩
set_option maxRecDepth 10000 in
set_option maxHeartbeats 2000000 in
theorem example_any (w : World) :
    Calls Try.prog 56 #[] w fun e w' => (∃ vs vm, e = .returned (.agg #[vs, vm]) ∧ MkV w' vs vm exMk) ∧ Below w.heap.size w w' := by
  go_enter Try.func56, Try.ntmps56
  go_wp2_with fail
  have hE1 := World.ownsRow_lit (base := w.heap.size) (e := 3) (size := 1) (w.alloc (.cells #[.slice (some ⟨w.heap.size + 1, 0, none⟩) 6 6, .slice (some ⟨w.heap.size + 1 + 1, 0, none⟩) 3 3] 24)) #[.int .i64 5, .int .i64 1, .int .i64 2, .int .i64 3, .int .i64 4, .int .i64 6] 6 (by simp) (by decide) (by rfl)
  have hE2 := World.ownsRow_lit (base := w.heap.size) (e := 3) (size := 1) ((w.alloc (.cells #[.slice (some ⟨w.heap.size + 1, 0, none⟩) 6 6, .slice (some ⟨w.heap.size + 1 + 1, 0, none⟩) 3 3] 24)).alloc (.cells #[.int .i64 5, .int .i64 1, .int .i64 2, .int .i64 3, .int .i64 4, .int .i64 6] 3)) #[.int .i64 1, .int .i64 3, .int .i64 5] 3 (by simp; omega) (by decide) (by rfl)
  have z1 : (w.alloc (.cells #[.slice (some ⟨w.heap.size + 1, 0, none⟩) 6 6, .slice (some ⟨w.heap.size + 1 + 1, 0, none⟩) 3 3] 24)).heap.size = w.heap.size + 1 := by simp
  have z2 : ((w.alloc (.cells #[.slice (some ⟨w.heap.size + 1, 0, none⟩) 6 6, .slice (some ⟨w.heap.size + 1 + 1, 0, none⟩) 3 3] 24)).alloc (.cells #[.int .i64 5, .int .i64 1, .int .i64 2, .int .i64 3, .int .i64 4, .int .i64 6] 3)).heap.size = w.heap.size + 1 + 1 := by simp
  rw [z1] at hE1
  rw [z2] at hE2
  have hS1 := own_slice (l := [5, 1, 2, 3, 4, 6]) hE1 (by decide)
  have hS2 := own_slice (l := [1, 3, 5]) hE2 (by decide)
  have hg : ((((w.alloc (.cells #[.slice (some ⟨w.heap.size + 1, 0, none⟩) 6 6, .slice (some ⟨w.heap.size + 1 + 1, 0, none⟩) 3 3] 24)).alloc (.cells #[.int .i64 5, .int .i64 1, .int .i64 2, .int .i64 3, .int .i64 4, .int .i64 6] 3)).alloc (.cells #[.int .i64 1, .int .i64 3, .int .i64 5] 3))).heap[w.heap.size]? = some (.cells #[.slice (some ⟨w.heap.size + 1, 0, none⟩) 6 6, .slice (some ⟨w.heap.size + 1 + 1, 0, none⟩) 3 3] 24 (0, 0)) := by
    rw [old_heap _ _ (by simp; omega), old_heap _ _ (by simp)]
    exact World.alloc_heap_new _ _
  (try simp only [Exit.inBlock, Exit.then])
  refine bodyPost_ret (results_cell_row rfl _ _ w.heap.size 24 _ (0, 0) _ rfl hg Try.underlying24 rfl (by kernel_rfl)) rfl ?_
  exact ⟨⟨_, _, rfl, hS1.keep IntAt.stable (bAlloc (Below.refl _ _) _), hS2⟩, bAlloc (bAlloc (bAlloc (Below.refl _ _) _) _) _⟩
end Go.Proofs.Ytbeeddenidfenaa
