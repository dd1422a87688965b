/- Contracts: a wall follows its goal. -/
import Derived.Test.YtbmbcbknoflpgaaA2
import Derived.Test.YtbmbcbknoflpgaaH4
import Derived.Test.YtbmbcbknoflpgaaI2
set_option linter.unusedSimpArgs false
set_option linter.unusedVariables false
namespace Go.Proofs.Ytbmbcbknoflpgaa
open Go.RowKit

set_option maxHeartbeats 1000000 in
theorem follow_any (b o : Nat) (x goal speed : Int) (w : World) (hc : w.cell? ⟨b, o, none⟩ = some (.int .i64 x)) (hz : w.frozen? ⟨b, o, none⟩ = false) (hx : 1 ≤ x ∧ x ≤ 1000) (hg : 1 ≤ goal ∧ goal ≤ 1000) (hs : 1 ≤ speed ∧ speed ≤ 1000) :
    Calls Try.prog 111 #[.pointer (some ⟨b, o, none⟩), .int .i64 goal, .int .i64 speed] w fun e w' => e = .returned (.int .i64 (flw x goal speed)) ∧ w' = w.setCell ⟨b, o, none⟩ (.int .i64 (flw x goal speed)) := by
  have HF := Lib.hid (followed_any x goal speed w (by omega) (by omega) hs.1 hs.2)
  have hl := cell_lt hc
  obtain ⟨y, hy⟩ : ∃ y, flw x goal speed = y := ⟨_, rfl⟩
  rw [hy] at HF ⊢
  clear hy
  go_enter Try.func111, Try.ntmps111
  go_wp2_with (go_at_call 73; with_reducible refine Calls.mono HF.out ?_; rintro e w1 ⟨rfl, rfl⟩)
  go_ret
  exact ⟨rfl, rfl⟩
theorem flw_range (x g s : Int) (hx : 1 ≤ x ∧ x ≤ 1000) (hg : 1 ≤ g ∧ g ≤ 1000) (hs : 1 ≤ s ∧ s ≤ 1000) : 1 ≤ flw x g s ∧ flw x g s ≤ 1000 := by
  have h := mvs_in (d := g - x) hs.1 hs.2
  rw [flw_mvs]
  omega
set_option maxRecDepth 10000 in
set_option maxHeartbeats 2000000 in
theorem move_any (b : Nat) (x y goal speed : Int) (t : TypeId) (w : World) (hb : w.heap[b]? = some (.cells #[.int .i64 x, .int .i64 y] t (0, 0))) (hx : 1 ≤ x ∧ x ≤ 1000) (hy : 1 ≤ y ∧ y ≤ 1000) (hg : 1 ≤ goal ∧ goal ≤ 1000) (hs : 1 ≤ speed ∧ speed ≤ 1000) :
    Calls Try.prog 108 #[.pointer (some ⟨b, 0, none⟩), .int .i64 goal, .int .i64 speed] w fun e w' => e = .returned (.int .i64 (flw y (flw x goal speed) speed)) ∧ w.grownBy w' (some b) ∧ w'.heap[b]? = some (.cells #[.int .i64 (flw x goal speed), .int .i64 (flw y (flw x goal speed) speed)] t (0, 0)) := by
  have hp := flw_range x goal speed hx hg hs
  obtain ⟨p, hpp⟩ : ∃ p, flw x goal speed = p := ⟨_, rfl⟩
  have c0 := cell_of_heap (j := 0) hb (show 0 < 2 by omega)
  have c1 := cell_of_heap (j := 1) hb (show 1 < 2 by omega)
  simp at c0 c1
  have z0 := frozen_heap (o := 0) hb
  have h1 := fun (W : World) (hW : W.heap[b]? = some (.cells #[.int .i64 x, .int .i64 y] t (0, 0))) => follow_any b 0 x goal speed W (by have := cell_of_heap (j := 0) hW (show 0 < 2 by omega); simpa using this) (frozen_heap hW) hx hg hs
  have h2 := fun (W : World) (hW : W.heap[b]? = some (.cells #[.int .i64 p, .int .i64 y] t (0, 0))) => follow_any b 1 y p speed W (by have := cell_of_heap (j := 1) hW (show 1 < 2 by omega); simpa using this) (frozen_heap hW) hy (by rw [← hpp]; exact hp) hs
  rw [hpp] at h1 ⊢
  obtain ⟨r, hr⟩ : ∃ r, flw y p speed = r := ⟨_, rfl⟩
  simp only [hr] at h2 ⊢
  have H1 := Lib.hid h1
  have H2 := Lib.hid h2
  have HB := Lib.hid hb
  have HBD : Hid (w.drew.heap[b]? = some (.cells #[.int .i64 x, .int .i64 y] t (0, 0))) := Lib.hid hb
  have hl := cell_lt c0
  have hb2 := heap_setCell_same w b 0 _ _ (.int .i64 p) hb
  simp at hb2
  have hb3 := heap_setCell_same _ b 1 _ _ (.int .i64 r) hb2
  simp at hb3
  have HB2 : Hid ((w.setCell ⟨b, 0, none⟩ (.int .i64 p)).drew.heap[b]? = some (.cells #[.int .i64 p, .int .i64 y] t (0, 0))) := Lib.hid hb2
  have HB3 : Hid (((w.setCell ⟨b, 0, none⟩ (.int .i64 p)).setCell ⟨b, 1, none⟩ (.int .i64 r)).drew.heap[b]? = some (.cells #[.int .i64 p, .int .i64 r] t (0, 0))) := Lib.hid hb3
  clear h1 h2 hb hpp hr hp hx hy hg hs hb2 hb3
  go_enter Try.func108, Try.ntmps108
  go_wp2_with fail
  go_region_held3 (fun _ => True) (trivial) (first
    | (go_at_call 111; with_reducible refine Calls.mono (H1.out _ HBD.out) ?_; rintro e w2 ⟨rfl, rfl⟩)
    | (go_at_call 111; with_reducible refine Calls.mono (H2.out _ HB2.out) ?_; rintro e w3 ⟨rfl, rfl⟩))
  all_goals
    go_wp2_with fail
    go_ret
    exact ⟨rfl, gb_trans (gb_trans (gb_set _ _ _ _) (gb_set _ _ _ _)) (gb_below (Below.drew (Below.refl _ _)) _), HB3.out⟩
end Go.Proofs.Ytbmbcbknoflpgaa
