/- Contracts: the law's small functions. -/
import Derived.Test.YtbeeddenidfenaaA5
import Derived.Test.YtbeeddenidfenaaB2
set_option linter.unusedSimpArgs false
set_option linter.unusedVariables false
namespace Go.Proofs.Ytbeeddenidfenaa
open Go.RowKit

set_option maxHeartbeats 2000000 in
theorem wrong_any (x y : List Int) (v u : Value) (w : World) (hv : SliceV w v 1 IntAt x) (hu : SliceV w u 1 IntAt y) :
    Calls Try.prog 28 #[v, u] w fun e w' => e = .returned (.int .i64 (chk true [x, y])) ∧ w = w' := by
  have HX := Lib.hid (Samples_any x v w hv)
  have HY := Lib.hid (Samples_any y u w hu)
  obtain ⟨a, c, rfl, hl, -⟩ := hv
  obtain ⟨b, d, rfl, hm, -⟩ := hu
  unfold most at hl hm
  rw [chk_two]
  obtain ⟨n, hn⟩ : ∃ n, x.length = n := ⟨_, rfl⟩
  obtain ⟨m, hme⟩ : ∃ m, y.length = m := ⟨_, rfl⟩
  rw [hn] at hl HX ⊢
  rw [hme] at hm HY ⊢
  clear hn hme
  by_cases g1 : 100000 < (n : Int)
  · rw [if_pos (.inl g1)]
    go_enter Try.func28, Try.ntmps28
    go_wp2_with (first
      | (go_at_call 37; with_reducible refine Calls.mono HX.out ?_; rintro e w1 ⟨rfl, rfl⟩)
      | (go_at_call 37; with_reducible refine Calls.mono HY.out ?_; rintro e w2 ⟨rfl, rfl⟩))
    go_ret
    exact ⟨rfl, rfl⟩
  · by_cases g2 : 100000 < (m : Int)
    · rw [if_pos (.inr g2)]
      go_enter Try.func28, Try.ntmps28
      go_wp2_with (first
        | (go_at_call 37; with_reducible refine Calls.mono HX.out ?_; rintro e w1 ⟨rfl, rfl⟩)
        | (go_at_call 37; with_reducible refine Calls.mono HY.out ?_; rintro e w2 ⟨rfl, rfl⟩))
      go_ret
      exact ⟨rfl, rfl⟩
    · rw [if_neg (by omega)]
      cases h1 : waveOk x
      · rw [h1] at HX
        rw [if_neg (by simp)]
        clear h1
        go_enter Try.func28, Try.ntmps28
        go_wp2_with (first
          | (go_at_call 37; with_reducible refine Calls.mono HX.out ?_; rintro e w1 ⟨rfl, rfl⟩)
          | (go_at_call 37; with_reducible refine Calls.mono HY.out ?_; rintro e w2 ⟨rfl, rfl⟩))
        go_ret
        exact ⟨rfl, rfl⟩
      · rw [h1] at HX
        clear h1
        cases h2 : waveOk y
        · rw [h2] at HY
          rw [if_neg (by simp)]
          clear h2
          go_enter Try.func28, Try.ntmps28
          go_wp2_with (first
            | (go_at_call 37; with_reducible refine Calls.mono HX.out ?_; rintro e w1 ⟨rfl, rfl⟩)
            | (go_at_call 37; with_reducible refine Calls.mono HY.out ?_; rintro e w2 ⟨rfl, rfl⟩))
          go_ret
          exact ⟨rfl, rfl⟩
        · rw [h2] at HY
          rw [if_pos (by simp)]
          clear h2
          go_enter Try.func28, Try.ntmps28
          go_wp2_with (first
            | (go_at_call 37; with_reducible refine Calls.mono HX.out ?_; rintro e w1 ⟨rfl, rfl⟩)
            | (go_at_call 37; with_reducible refine Calls.mono HY.out ?_; rintro e w2 ⟨rfl, rfl⟩))
          go_ret
          exact ⟨rfl, rfl⟩
end Go.Proofs.Ytbeeddenidfenaa
