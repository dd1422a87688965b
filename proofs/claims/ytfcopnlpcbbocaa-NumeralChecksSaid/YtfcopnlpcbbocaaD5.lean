/- Contracts: what is asked of a rest and of a quotient. -/
import Derived.Test.YtfcopnlpcbbocaaC7
import Derived.Test.YtfcopnlpcbbocaaP1
import Derived.StillTailTactics
import Derived.Deep.Cut
namespace Go.Proofs.Ytfcopnlpcbbocaa
open Go.RowKit

set_option maxRecDepth 100000 in
set_option maxHeartbeats 1000000 in
theorem askRest_any (gen kas rest set : Int) (b : Nat) (w : World) (h10 : w.cell? ⟨b, 10, none⟩ = some (.int .i64 rest)) (h3 : w.cell? ⟨b, 3, none⟩ = some (.int .i64 gen)) (h4 : w.cell? ⟨b, 4, none⟩ = some (.int .i64 kas)) :
    Calls Try.prog 90 #[.pointer (some ⟨b, 0, none⟩), .int .i64 set] w fun e w' => e = .returned (Ask.val ⟨rest, set, gen, kas⟩) ∧ Below w.heap.size w w' := by
  have hb := cell_lt h10
  go_enter Try.func90, Try.ntmps90
  go_wp2_with fail
  generalize hW : World.alloc w _ = W0
  have HB0 : Below w.heap.size w W0 := by rw [← hW]; exact bAlloc (Below.refl _ _) _
  have g0 : W0.cell? ⟨w.heap.size, 0, none⟩ = some (.int .i64 0) := by rw [← hW]; simp
  have g1 : W0.cell? ⟨w.heap.size, 1, none⟩ = some (.int .i64 0) := by rw [← hW]; simp
  have g2 : W0.cell? ⟨w.heap.size, 2, none⟩ = some (.int .i64 0) := by rw [← hW]; simp
  have g3 : W0.cell? ⟨w.heap.size, 3, none⟩ = some (.int .i64 0) := by rw [← hW]; simp
  have e0 : ∀ j, W0.frozen? ⟨w.heap.size, j, none⟩ = false := by intro j; rw [← hW]; simp
  clear hW
  have h10 := keep HB0 h10
  have h3 := keep HB0 h3
  have h4 := keep HB0 h4
  have hb := cell_lt h10
  have hg := cell_lt g0
  refine wp_opaque fun Q2 hQ2 => ?_
  go_still_tail 16, (by kernel_rfl)
  change wpList _ _ _ _ _ (World.drew _)
  generalize hw2 : World.drew _ = W1
  have HB1 : Below W0.heap.size W0 W1 := by rw [← hw2]; exact (Below.refl _ _).drew
  have e0 : ∀ j, W1.frozen? ⟨w.heap.size, j, none⟩ = false := by intro j; rw [← hw2]; exact e0 j
  clear hw2
  have g0 := keep HB1 g0
  have g1 := keep HB1 g1
  have g2 := keep HB1 g2
  have g3 := keep HB1 g3
  have hg := cell_lt g0
  go_wp2_with fail
  refine bodyPost_ret ?_ rfl ⟨rfl, ?_⟩
  · simp [results, Try.results90, go_sem, g0, g1, g2, g3, Ask.val]
  · exact ((((bThen HB0 HB1).setCell (p := ⟨w.heap.size, 0, none⟩) (Nat.le_refl _) _).setCell (p := ⟨w.heap.size, 1, none⟩) (Nat.le_refl _) _).setCell (p := ⟨w.heap.size, 2, none⟩) (Nat.le_refl _) _).setCell (p := ⟨w.heap.size, 3, none⟩) (Nat.le_refl _) _
end Go.Proofs.Ytfcopnlpcbbocaa
