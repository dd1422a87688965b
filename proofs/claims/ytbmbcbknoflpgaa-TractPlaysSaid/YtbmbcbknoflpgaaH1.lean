/- Contracts: Grow of nothing, Concat. -/
import Derived.Test.YtbmbcbknoflpgaaG0
import Derived.Lib.AppendZerosOnto
set_option linter.unusedSimpArgs false
set_option linter.unusedVariables false
namespace Go.Proofs.Ytbmbcbknoflpgaa
open Go.RowKit

set_option maxRecDepth 10000 in
set_option maxHeartbeats 2000000 in
theorem Grow0_any (n : Nat) (h1 : 1 ≤ n) (h2 : n ≤ 1000) (w : World) : Calls Try.prog 106 #[.slice none 0 0, .int .i64 n] w fun e w' => (∃ r, e = .returned r ∧ w'.ownsRow w.heap.size 3 1 r 0 (intV [])) ∧ Below w.heap.size w w' := by
  obtain ⟨i3, hi, hz0, hz1, hz2⟩ := info_parts infoI
  have u2 : wrap64 (n : Int) = (n : Int) := by unfold wrap64; omega
  have u3 : IntKind.i64.wrap (n : Int) = (n : Int) := IntWalk.i64_in _ (by omega)
  have hrz : ∀ ty, (Builtin.append_ #[22, 3] ty #[.slice none 0 0, .int .i64 (n : Int)]).run Try.prog w =
      .ok (.slice (some ⟨w.heap.size, 0, none⟩) n (grownCap w n 0 3)) (w.drew.alloc (.cells (#[] ++ Builtin.zeroCells (Value.int .i64 0).cells n ++ Builtin.zeroCells (Value.int .i64 0).cells (grownCap w n 0 3 - n)) 3)) := fun ty => by
    have h := Lib.run_append_grow_zeros w 22 3 ty 3 i3 (.int .i64 0) .i64 .i64 Try.underlying22 Try.underlying3 hi hz0 none 0 0 [] (run_firstCells_none w.drew i3.size 0 0 0) n (by omega) (by omega) (by omega) (by omega) (by rw [hz2]; omega) (growslice_fits (by omega) (by rw [hz2]; omega))
    simpa using h
  have hGn : n ≤ grownCap w n 0 3 := grownCap_ge w _ _ _
  have hG63 := grownCap_le_maxLen w n 0 3 (by unfold maxLen; omega)
  obtain ⟨G, hG⟩ : ∃ G, G = grownCap w n 0 3 := ⟨_, rfl⟩
  rw [← hG] at hrz hGn hG63
  have HOW : Hid (∀ cs : Array Value, cs.size = G → (w.drew.alloc (.cells cs 3)).ownsRow w.heap.size 3 1 (.slice (some ⟨w.heap.size, 0, none⟩) 0 G) 0 (intV [])) := Lib.hid (fun cs hcs => by
    refine ⟨by simp [intV], .inr ⟨w.heap.size, G, cs, rfl, Nat.le_refl _, ?_, Nat.zero_le _, hG63, by omega, by simp [intV]⟩⟩
    exact World.alloc_heap_new w.drew (.cells cs 3))
  have HGn := Lib.hid hGn
  unfold maxLen at hG63
  clear hG hi
  go_enter Try.func106, Try.ntmps106
  go_wp2_with (at_builtin; refine Lib.wpList_append_run _ rfl _ _ _ _ rfl _ _ rfl rfl _ _ (hrz _) ?_)
  all_goals first
    | (exfalso; omega)
    | (go_ret; refine ⟨⟨_, rfl, HOW.out _ (by have := HGn.out; simp [Builtin.zeroCells, Value.cells]; omega)⟩, bAlloc (bDrew (Below.refl w.heap.size w) 1) _⟩)
end Go.Proofs.Ytbmbcbknoflpgaa
