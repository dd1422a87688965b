/- The law of followers. -/
import Derived.Test.YtbmbcbknoflpgaaA7
import Derived.Test.YtbmbcbknoflpgaaA2
set_option linter.unusedSimpArgs false
set_option linter.unusedVariables false
namespace Go.Proofs.Ytbmbcbknoflpgaa
open Go.RowKit

theorem flw_between (x g s : Int) (hs : 1 ≤ s ∧ s ≤ 1000) : (x < g → x < flw x g s ∧ flw x g s ≤ g) ∧ (g < x → flw x g s < x ∧ g ≤ flw x g s) ∧ (x = g → flw x g s = x) := by
  have h := mvs_in (d := g - x) hs.1 hs.2
  have e := flw_mvs x g s
  have hz : mvs (g - x) s = 0 → g - x = 0 := by
    intro h0
    unfold mvs at h0
    split at h0
    · split at h0
      · omega
      · split at h0
        · omega
        · omega
    · omega
  refine ⟨fun h1 => ?_, fun h1 => ?_, fun h1 => ?_⟩
  · have : mvs (g - x) s ≠ 0 := fun h0 => by have := hz h0; omega
    omega
  · have : mvs (g - x) s ≠ 0 := fun h0 => by have := hz h0; omega
    omega
  · omega
set_option maxRecDepth 10000 in
set_option maxHeartbeats 2000000 in
theorem law10_any (x g s : Int) (w : World) (hk : ∀ w, Calls Try.prog 17 #[] w fun e w' => e = .returned (.bool true) ∧ Below w.heap.size w w') :
    Calls Try.prog 10 #[.int .i64 x, .int .i64 g, .int .i64 s] w fun e w' => e = .returned (.bool true) ∧ Below w.heap.size w w' := by
  have HK := Lib.hid hk
  have HF := Lib.hid (Follow_any x g s w)
  clear hk
  cases hok : folOk x g s
  · rw [hok] at HF
    simp only [Bool.false_eq_true, if_false] at HF
    have hno : ¬ (-1000000000 ≤ x ∧ x ≤ 1000000000 ∧ -1000000000 ≤ g ∧ g ≤ 1000000000 ∧ 1 ≤ s ∧ s ≤ 1000) := by
      intro h
      have : folOk x g s = true := by
        simp only [folOk, Bool.and_eq_true, betw_iff]
        omega
      rw [hok] at this; cases this
    clear hok
    by_cases h1 : x < -1000000000
    · clear hno
      go_enter Try.func10, Try.ntmps10
      go_wp2_with (first
        | (go_at_call 38; with_reducible refine Calls.mono (HF.out) ?_; rintro e w1 ⟨rfl, rfl⟩)
        | (go_at_call 17; with_reducible refine Calls.mono (HK.out _) ?_; rintro e w1 ⟨rfl, hb⟩; have HB := Lib.hid hb; clear hb))
      all_goals first
        | (exfalso; omega)
        | (go_ret; exact ⟨rfl, HB.out⟩)
    · by_cases h2 : x > 1000000000
      · clear hno
        go_enter Try.func10, Try.ntmps10
        go_wp2_with (first
          | (go_at_call 38; with_reducible refine Calls.mono (HF.out) ?_; rintro e w1 ⟨rfl, rfl⟩)
          | (go_at_call 17; with_reducible refine Calls.mono (HK.out _) ?_; rintro e w1 ⟨rfl, hb⟩; have HB := Lib.hid hb; clear hb))
        all_goals first
          | (exfalso; omega)
          | (go_ret; exact ⟨rfl, HB.out⟩)
      · by_cases h3 : g < -1000000000
        · clear hno
          go_enter Try.func10, Try.ntmps10
          go_wp2_with (first
            | (go_at_call 38; with_reducible refine Calls.mono (HF.out) ?_; rintro e w1 ⟨rfl, rfl⟩)
            | (go_at_call 17; with_reducible refine Calls.mono (HK.out _) ?_; rintro e w1 ⟨rfl, hb⟩; have HB := Lib.hid hb; clear hb))
          all_goals first
            | (exfalso; omega)
            | (go_ret; exact ⟨rfl, HB.out⟩)
        · by_cases h4 : g > 1000000000
          · clear hno
            go_enter Try.func10, Try.ntmps10
            go_wp2_with (first
              | (go_at_call 38; with_reducible refine Calls.mono (HF.out) ?_; rintro e w1 ⟨rfl, rfl⟩)
              | (go_at_call 17; with_reducible refine Calls.mono (HK.out _) ?_; rintro e w1 ⟨rfl, hb⟩; have HB := Lib.hid hb; clear hb))
            all_goals first
              | (exfalso; omega)
              | (go_ret; exact ⟨rfl, HB.out⟩)
          · by_cases h5 : s < 1
            · clear hno
              go_enter Try.func10, Try.ntmps10
              go_wp2_with (first
                | (go_at_call 38; with_reducible refine Calls.mono (HF.out) ?_; rintro e w1 ⟨rfl, rfl⟩)
                | (go_at_call 17; with_reducible refine Calls.mono (HK.out _) ?_; rintro e w1 ⟨rfl, hb⟩; have HB := Lib.hid hb; clear hb))
              all_goals first
                | (exfalso; omega)
                | (go_ret; exact ⟨rfl, HB.out⟩)
            · have h6 : s > 1000 := by omega
              clear hno
              go_enter Try.func10, Try.ntmps10
              go_wp2_with (first
                | (go_at_call 38; with_reducible refine Calls.mono (HF.out) ?_; rintro e w1 ⟨rfl, rfl⟩)
                | (go_at_call 17; with_reducible refine Calls.mono (HK.out _) ?_; rintro e w1 ⟨rfl, hb⟩; have HB := Lib.hid hb; clear hb))
              all_goals first
                | (exfalso; omega)
                | (go_ret; exact ⟨rfl, HB.out⟩)
  · rw [hok] at HF
    simp only [if_true] at HF
    have hin : -1000000000 ≤ x ∧ x ≤ 1000000000 ∧ -1000000000 ≤ g ∧ g ≤ 1000000000 ∧ 1 ≤ s ∧ s ≤ 1000 := by
      simp only [folOk, Bool.and_eq_true, betw_iff] at hok
      omega
    obtain ⟨a1, a2, a3, a4, a5, a6⟩ := hin
    have h1 : ¬ x < -1000000000 := by omega
    have h2 : ¬ x > 1000000000 := by omega
    have h3 : ¬ g < -1000000000 := by omega
    have h4 : ¬ g > 1000000000 := by omega
    have h5 : ¬ s < 1 := by omega
    have h6 : ¬ s > 1000 := by omega
    have HR := Lib.hid (fun W => refFollow_any x g s W (by omega) (by omega) a5 a6)
    have hb := flw_between x g s ⟨a5, a6⟩
    obtain ⟨y, hy⟩ : ∃ y, flw x g s = y := ⟨_, rfl⟩
    rw [hy] at HF HR hb
    obtain ⟨b1, b2, b3⟩ := hb
    clear hy a1 a2 a3 a4 a5 a6 hok
    have HRA : True := trivial
    rcases (show x = g ∨ x < g ∨ g < x by omega) with h | h | h
    · subst h
      obtain rfl := b3 rfl
      go_enter Try.func10, Try.ntmps10
      go_wp2_with (first
        | (go_at_call 38; with_reducible refine Calls.mono (HF.out) ?_; rintro e w1 ⟨rfl, rfl⟩)
        | (go_at_call 39; with_reducible refine Calls.mono (HR.out _) ?_; rintro e w1 ⟨rfl, rfl⟩)
        | (go_at_call 17; with_reducible refine Calls.mono (HK.out _) ?_; rintro e w1 ⟨rfl, hb⟩; have HB := Lib.hid hb; clear hb))
      all_goals first
        | (exfalso; omega)
        | (go_ret; exact ⟨rfl, HB.out⟩)
    · have c := b1 h
      have c1 : x < y := c.1
      have c2 : y ≤ g := c.2
      have c3 : ¬ x = g := by omega
      have c4 : (x == g) = false := by simp; omega
      clear b1 b2 b3 c
      go_enter Try.func10, Try.ntmps10
      go_wp2_with (first
        | (go_at_call 38; with_reducible refine Calls.mono (HF.out) ?_; rintro e w1 ⟨rfl, rfl⟩)
        | (go_at_call 39; with_reducible refine Calls.mono (HR.out _) ?_; rintro e w1 ⟨rfl, rfl⟩)
        | (go_at_call 17; with_reducible refine Calls.mono (HK.out _) ?_; rintro e w1 ⟨rfl, hb⟩; have HB := Lib.hid hb; clear hb))
      all_goals first
        | (exfalso; omega)
        | (go_ret; exact ⟨rfl, HB.out⟩)
    · have c := b2 h
      have c1 : ¬ x < y := by omega
      have c2 : x > y := c.1
      have c3 : ¬ x = g := by omega
      have c4 : (x == g) = false := by simp; omega
      have c5 : y ≥ g := c.2
      clear b1 b2 b3 c
      go_enter Try.func10, Try.ntmps10
      go_wp2_with (first
        | (go_at_call 38; with_reducible refine Calls.mono (HF.out) ?_; rintro e w1 ⟨rfl, rfl⟩)
        | (go_at_call 39; with_reducible refine Calls.mono (HR.out _) ?_; rintro e w1 ⟨rfl, rfl⟩)
        | (go_at_call 17; with_reducible refine Calls.mono (HK.out _) ?_; rintro e w1 ⟨rfl, hb⟩; have HB := Lib.hid hb; clear hb))
      all_goals first
        | (exfalso; omega)
        | (go_ret; exact ⟨rfl, HB.out⟩)
end Go.Proofs.Ytbmbcbknoflpgaa
