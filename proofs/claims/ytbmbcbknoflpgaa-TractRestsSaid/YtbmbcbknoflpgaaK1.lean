/- Contracts: scores that are right. -/
import Derived.Test.YtbmbcbknoflpgaaJ1
import Derived.Test.YtbmbcbknoflpgaaA7
import Derived.Test.YtbmbcbknoflpgaaA3
import Derived.Test.YtbmbcbknoflpgaaH7
set_option linter.unusedSimpArgs false
set_option linter.unusedVariables false
namespace Go.Proofs.Ytbmbcbknoflpgaa
open Go.RowKit

structure Ges where
  fst : Int
  lst : Int
  beg : Int
  fin : Int
  area : Int
  speed : Int
def GesAt (w : World) (b o : Nat) (g : Ges) : Prop := IntAt w b o g.fst ∧ IntAt w b (o + 1) g.lst ∧ IntAt w b (o + 2) g.beg ∧ IntAt w b (o + 3) g.fin ∧ IntAt w b (o + 4) g.area ∧ IntAt w b (o + 5) g.speed
theorem GesAt.stable : Stable GesAt := fun _ _ _ _ _ hB ⟨h1, h2, h3, h4, h5, h6⟩ => ⟨keep hB h1, keep hB h2, keep hB h3, keep hB h4, keep hB h5, keep hB h6⟩
def gesOk (n : Int) (g : Ges) : Bool := betw g.lst 0 (n - 1) && betw g.fst 0 g.lst && betw g.fin 0 100000 && betw g.beg 0 (g.fin - 1) && arOk g.area && betw g.speed 1 1000
set_option maxRecDepth 10000 in
set_option maxHeartbeats 4000000 in
theorem gestureRight_any (g : Ges) (n : Nat) (hn : n ≤ 1000) (w : World) : Calls Try.prog 97 #[.agg #[.int .i64 g.fst, .int .i64 g.lst, .int .i64 g.beg, .int .i64 g.fin, .int .i64 g.area, .int .i64 g.speed], .int .i64 n] w fun e w' => e = .returned (.bool (gesOk n g)) ∧ Below w.heap.size w w' := by
  obtain ⟨a, b, c, d, f, s⟩ := g
  have hd : gesOk n ⟨a, b, c, d, f, s⟩ = (betw b 0 ((n : Int) - 1) && betw a 0 b && betw d 0 100000 && betw c 0 (d - 1) && arOk f && betw s 1 1000) := rfl
  rw [hd]
  clear hd
  obtain ⟨n1, hn1⟩ : ∃ n1 : Int, (n : Int) - 1 = n1 := ⟨_, rfl⟩
  have u1 : IntKind.i64.wrap ((n : Int) - 1) = n1 := by rw [IntWalk.i64_in _ (by omega)]; exact hn1
  rw [hn1]
  clear hn1
  have H1 := Lib.hid (between_any b 0 n1)
  have H2 := Lib.hid (between_any a 0 b)
  have H3 := Lib.hid (between_any d 0 100000)
  have H5 := Lib.hid (areaWrong_any f)
  have H6 := Lib.hid (speed_any s)
  cases h1 : betw b 0 n1 <;> rw [h1] at H1 <;> clear h1
  · simp only [Bool.false_and, Bool.and_false, Bool.true_and, Bool.and_true]
    go_enter Try.func97, Try.ntmps97
    go_wp2_with (first
      | (go_at_call 71; with_reducible refine Calls.mono (H1.out _) ?_; rintro e w1 ⟨rfl, rfl⟩)
      | (go_at_call 71; with_reducible refine Calls.mono (H2.out _) ?_; rintro e w1 ⟨rfl, rfl⟩)
      | (go_at_call 71; with_reducible refine Calls.mono (H3.out _) ?_; rintro e w1 ⟨rfl, rfl⟩)
      | (go_at_call 71; with_reducible refine Calls.mono (H4.out _) ?_; rintro e w1 ⟨rfl, rfl⟩)
      | (go_at_call 86; with_reducible refine Calls.mono (H5.out _) ?_; rintro e w1 ⟨rfl, rfl⟩)
      | (go_at_call 72; with_reducible refine Calls.mono (H6.out _) ?_; rintro e w1 ⟨rfl, rfl⟩))
    go_ret
    exact ⟨rfl, bAlloc (Below.refl _ _) _⟩
  · cases h2 : betw a 0 b <;> rw [h2] at H2 <;> clear h2
    · simp only [Bool.false_and, Bool.and_false, Bool.true_and, Bool.and_true]
      go_enter Try.func97, Try.ntmps97
      go_wp2_with (first
        | (go_at_call 71; with_reducible refine Calls.mono (H1.out _) ?_; rintro e w1 ⟨rfl, rfl⟩)
        | (go_at_call 71; with_reducible refine Calls.mono (H2.out _) ?_; rintro e w1 ⟨rfl, rfl⟩)
        | (go_at_call 71; with_reducible refine Calls.mono (H3.out _) ?_; rintro e w1 ⟨rfl, rfl⟩)
        | (go_at_call 71; with_reducible refine Calls.mono (H4.out _) ?_; rintro e w1 ⟨rfl, rfl⟩)
        | (go_at_call 86; with_reducible refine Calls.mono (H5.out _) ?_; rintro e w1 ⟨rfl, rfl⟩)
        | (go_at_call 72; with_reducible refine Calls.mono (H6.out _) ?_; rintro e w1 ⟨rfl, rfl⟩))
      go_ret
      exact ⟨rfl, bAlloc (Below.refl _ _) _⟩
    · cases h3 : betw d 0 100000 <;> rw [h3] at H3
      · simp only [Bool.false_and, Bool.and_false, Bool.true_and, Bool.and_true]
        go_enter Try.func97, Try.ntmps97
        go_wp2_with (first
          | (go_at_call 71; with_reducible refine Calls.mono (H1.out _) ?_; rintro e w1 ⟨rfl, rfl⟩)
          | (go_at_call 71; with_reducible refine Calls.mono (H2.out _) ?_; rintro e w1 ⟨rfl, rfl⟩)
          | (go_at_call 71; with_reducible refine Calls.mono (H3.out _) ?_; rintro e w1 ⟨rfl, rfl⟩)
          | (go_at_call 71; with_reducible refine Calls.mono (H4.out _) ?_; rintro e w1 ⟨rfl, rfl⟩)
          | (go_at_call 86; with_reducible refine Calls.mono (H5.out _) ?_; rintro e w1 ⟨rfl, rfl⟩)
          | (go_at_call 72; with_reducible refine Calls.mono (H6.out _) ?_; rintro e w1 ⟨rfl, rfl⟩))
        go_ret
        exact ⟨rfl, bAlloc (Below.refl _ _) _⟩
      · have hdr := h3
        rw [betw_iff] at hdr
        obtain ⟨d1, hd1⟩ : ∃ d1 : Int, d - 1 = d1 := ⟨_, rfl⟩
        have u2 : IntKind.i64.wrap (d - 1) = d1 := by rw [IntWalk.i64_in _ (by omega)]; exact hd1
        rw [hd1]
        clear hd1 hdr h3
        have H4 := Lib.hid (between_any c 0 d1)
        cases h4 : betw c 0 d1 <;> rw [h4] at H4 <;> clear h4
        · simp only [Bool.false_and, Bool.and_false, Bool.true_and, Bool.and_true]
          go_enter Try.func97, Try.ntmps97
          go_wp2_with (first
            | (go_at_call 71; with_reducible refine Calls.mono (H1.out _) ?_; rintro e w1 ⟨rfl, rfl⟩)
            | (go_at_call 71; with_reducible refine Calls.mono (H2.out _) ?_; rintro e w1 ⟨rfl, rfl⟩)
            | (go_at_call 71; with_reducible refine Calls.mono (H3.out _) ?_; rintro e w1 ⟨rfl, rfl⟩)
            | (go_at_call 71; with_reducible refine Calls.mono (H4.out _) ?_; rintro e w1 ⟨rfl, rfl⟩)
            | (go_at_call 86; with_reducible refine Calls.mono (H5.out _) ?_; rintro e w1 ⟨rfl, rfl⟩)
            | (go_at_call 72; with_reducible refine Calls.mono (H6.out _) ?_; rintro e w1 ⟨rfl, rfl⟩))
          go_ret
          exact ⟨rfl, bAlloc (Below.refl _ _) _⟩
        · cases h5 : arOk f <;> rw [h5] at H5 <;> clear h5
          · simp only [Bool.false_and, Bool.and_false, Bool.true_and, Bool.and_true]
            go_enter Try.func97, Try.ntmps97
            go_wp2_with (first
              | (go_at_call 71; with_reducible refine Calls.mono (H1.out _) ?_; rintro e w1 ⟨rfl, rfl⟩)
              | (go_at_call 71; with_reducible refine Calls.mono (H2.out _) ?_; rintro e w1 ⟨rfl, rfl⟩)
              | (go_at_call 71; with_reducible refine Calls.mono (H3.out _) ?_; rintro e w1 ⟨rfl, rfl⟩)
              | (go_at_call 71; with_reducible refine Calls.mono (H4.out _) ?_; rintro e w1 ⟨rfl, rfl⟩)
              | (go_at_call 86; with_reducible refine Calls.mono (H5.out _) ?_; rintro e w1 ⟨rfl, rfl⟩)
              | (go_at_call 72; with_reducible refine Calls.mono (H6.out _) ?_; rintro e w1 ⟨rfl, rfl⟩))
            go_ret
            exact ⟨rfl, bAlloc (Below.refl _ _) _⟩
          · cases h6 : betw s 1 1000 <;> rw [h6] at H6 <;> clear h6
            · simp only [Bool.false_and, Bool.and_false, Bool.true_and, Bool.and_true]
              go_enter Try.func97, Try.ntmps97
              go_wp2_with (first
                | (go_at_call 71; with_reducible refine Calls.mono (H1.out _) ?_; rintro e w1 ⟨rfl, rfl⟩)
                | (go_at_call 71; with_reducible refine Calls.mono (H2.out _) ?_; rintro e w1 ⟨rfl, rfl⟩)
                | (go_at_call 71; with_reducible refine Calls.mono (H3.out _) ?_; rintro e w1 ⟨rfl, rfl⟩)
                | (go_at_call 71; with_reducible refine Calls.mono (H4.out _) ?_; rintro e w1 ⟨rfl, rfl⟩)
                | (go_at_call 86; with_reducible refine Calls.mono (H5.out _) ?_; rintro e w1 ⟨rfl, rfl⟩)
                | (go_at_call 72; with_reducible refine Calls.mono (H6.out _) ?_; rintro e w1 ⟨rfl, rfl⟩))
              go_ret
              exact ⟨rfl, bAlloc (Below.refl _ _) _⟩
            · simp only [Bool.false_and, Bool.and_false, Bool.true_and, Bool.and_true, Bool.and_self]
              go_enter Try.func97, Try.ntmps97
              go_wp2_with (first
                | (go_at_call 71; with_reducible refine Calls.mono (H1.out _) ?_; rintro e w1 ⟨rfl, rfl⟩)
                | (go_at_call 71; with_reducible refine Calls.mono (H2.out _) ?_; rintro e w1 ⟨rfl, rfl⟩)
                | (go_at_call 71; with_reducible refine Calls.mono (H3.out _) ?_; rintro e w1 ⟨rfl, rfl⟩)
                | (go_at_call 71; with_reducible refine Calls.mono (H4.out _) ?_; rintro e w1 ⟨rfl, rfl⟩)
                | (go_at_call 86; with_reducible refine Calls.mono (H5.out _) ?_; rintro e w1 ⟨rfl, rfl⟩)
                | (go_at_call 72; with_reducible refine Calls.mono (H6.out _) ?_; rintro e w1 ⟨rfl, rfl⟩))
              go_ret
              exact ⟨rfl, bAlloc (Below.refl _ _) _⟩
end Go.Proofs.Ytbmbcbknoflpgaa
