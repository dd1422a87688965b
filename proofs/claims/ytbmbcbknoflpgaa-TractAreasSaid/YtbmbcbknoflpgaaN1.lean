/- Contracts: gestures by the specification. -/
import Derived.Test.YtbmbcbknoflpgaaK2
set_option linter.unusedSimpArgs false
set_option linter.unusedVariables false
namespace Go.Proofs.Ytbmbcbknoflpgaa
open Go.RowKit

theorem ges_ways (n a b c d f s : Int) (hg : gesOk n ⟨a, b, c, d, f, s⟩ = false) : a < 0 ∨ (¬ a < 0 ∧ b < a) ∨ (¬ a < 0 ∧ ¬ b < a ∧ n ≤ b) ∨ (¬ a < 0 ∧ ¬ b < a ∧ ¬ n ≤ b ∧ c < 0) ∨ (¬ a < 0 ∧ ¬ b < a ∧ ¬ n ≤ b ∧ ¬ c < 0 ∧ d ≤ c) ∨ (¬ a < 0 ∧ ¬ b < a ∧ ¬ n ≤ b ∧ ¬ c < 0 ∧ ¬ d ≤ c ∧ 100000 < d) ∨ (¬ a < 0 ∧ ¬ b < a ∧ ¬ n ≤ b ∧ ¬ c < 0 ∧ ¬ d ≤ c ∧ ¬ 100000 < d ∧ f < 1) ∨ (¬ a < 0 ∧ ¬ b < a ∧ ¬ n ≤ b ∧ ¬ c < 0 ∧ ¬ d ≤ c ∧ ¬ 100000 < d ∧ ¬ f < 1 ∧ 1000 < f) ∨ (¬ a < 0 ∧ ¬ b < a ∧ ¬ n ≤ b ∧ ¬ c < 0 ∧ ¬ d ≤ c ∧ ¬ 100000 < d ∧ ¬ f < 1 ∧ ¬ 1000 < f ∧ s < 1) ∨ (¬ a < 0 ∧ ¬ b < a ∧ ¬ n ≤ b ∧ ¬ c < 0 ∧ ¬ d ≤ c ∧ ¬ 100000 < d ∧ ¬ f < 1 ∧ ¬ 1000 < f ∧ ¬ s < 1 ∧ 1000 < s) := by
  have hn : ¬ (0 ≤ a ∧ a ≤ b ∧ b < n ∧ 0 ≤ c ∧ c < d ∧ d ≤ 100000 ∧ 1 ≤ f ∧ f ≤ 1000 ∧ 1 ≤ s ∧ s ≤ 1000) := by
    intro hh
    have : gesOk n ⟨a, b, c, d, f, s⟩ = true := by simp only [gesOk, arOk, Bool.and_eq_true, betw_iff]; omega
    rw [hg] at this
    cases this
  by_cases c0 : a < 0
  · exact .inl c0
  by_cases c1 : b < a
  · exact .inr (.inl ⟨c0, c1⟩)
  by_cases c2 : n ≤ b
  · exact .inr (.inr (.inl ⟨c0, c1, c2⟩))
  by_cases c3 : c < 0
  · exact .inr (.inr (.inr (.inl ⟨c0, c1, c2, c3⟩)))
  by_cases c4 : d ≤ c
  · exact .inr (.inr (.inr (.inr (.inl ⟨c0, c1, c2, c3, c4⟩))))
  by_cases c5 : 100000 < d
  · exact .inr (.inr (.inr (.inr (.inr (.inl ⟨c0, c1, c2, c3, c4, c5⟩)))))
  by_cases c6 : f < 1
  · exact .inr (.inr (.inr (.inr (.inr (.inr (.inl ⟨c0, c1, c2, c3, c4, c5, c6⟩))))))
  by_cases c7 : 1000 < f
  · exact .inr (.inr (.inr (.inr (.inr (.inr (.inr (.inl ⟨c0, c1, c2, c3, c4, c5, c6, c7⟩)))))))
  by_cases c8 : s < 1
  · exact .inr (.inr (.inr (.inr (.inr (.inr (.inr (.inr (.inl ⟨c0, c1, c2, c3, c4, c5, c6, c7, c8⟩))))))))
  by_cases c9 : 1000 < s
  · exact .inr (.inr (.inr (.inr (.inr (.inr (.inr (.inr (.inr (⟨c0, c1, c2, c3, c4, c5, c6, c7, c8, c9⟩)))))))))
  exact absurd (by omega) hn
theorem ges_in {n a b c d f s : Int} (hg : gesOk n ⟨a, b, c, d, f, s⟩ = true) : ¬ a < 0 ∧ ¬ b < a ∧ ¬ n ≤ b ∧ ¬ c < 0 ∧ ¬ d ≤ c ∧ ¬ 100000 < d ∧ ¬ f < 1 ∧ ¬ 1000 < f ∧ ¬ s < 1 ∧ ¬ 1000 < s := by
  simp only [gesOk, arOk, Bool.and_eq_true, betw_iff] at hg
  omega
set_option maxRecDepth 10000 in
set_option maxHeartbeats 4000000 in
theorem refGestures_any (rest : List Int) (l : List Ges) (va vb : Value) (w : World) (ha : SliceV w va 1 IntAt rest) (hb : SliceV w vb 6 GesAt l) :
    Calls Try.prog 41 #[va, vb] w fun e w' => e = .returned (.bool (scoOk rest l)) ∧ Below w.heap.size w w' := by
  have HA := Lib.hid (refareas_any rest va w ha)
  have HV := Lib.hid hb
  have hd : scoOk rest l = (decide (1 ≤ rest.length) && arsOk rest && decide (l.length ≤ 100) && l.all (gesOk rest.length)) := rfl
  rw [hd]
  clear hd
  obtain ⟨a, c, rfl, hl, -⟩ := ha
  obtain ⟨b, d, rfl, hm, -⟩ := hb
  unfold most at hl hm
  generalize rest.length = n at *
  by_cases h1 : 1 ≤ n
  · rw [decide_eq_true h1, Bool.true_and]
    have h11 : ¬ (n : Int) < 1 := by omega
    cases h2 : arsOk rest <;> rw [h2] at HA
    · simp only [Bool.false_and]
      go_enter Try.func41, Try.ntmps41
      go_wp2_with (go_at_call 55; with_reducible refine Calls.mono (HA.out) ?_; rintro e w1 ⟨rfl, rfl⟩)
      all_goals first | (exfalso; omega) | skip
      go_ret
      exact ⟨ret_bool (by first | rfl | (simp; done)), Below.refl _ _⟩
    · simp only [Bool.true_and]
      by_cases h3 : l.length ≤ 100
      · rw [decide_eq_true h3, Bool.true_and]
        have h31 : ¬ (l.length : Int) > 100 := by omega
        obtain ⟨ok, hok⟩ : ∃ ok, l.all (gesOk n) = ok := ⟨_, rfl⟩
        rw [hok]
        have HOK := Lib.hid hok
        clear hok h2 h3
        go_enter Try.func41, Try.ntmps41
        go_wp2_with (go_at_call 55; with_reducible refine Calls.mono (HA.out) ?_; rintro e w1 ⟨rfl, rfl⟩)
        all_goals first | (exfalso; omega) | skip
        go_loopw [5] (fun i wr => ∃ k : Nat, k ≤ l.length ∧ i = .int .i64 k ∧ Hid ((l.take k).all (gesOk n) = true) ∧ Hid (Below w.heap.size w wr)) (fun i _ => l.length - (intOf i).toNat)
        case atStart => exact ⟨0, Nat.zero_le _, rfl, Lib.hid rfl, Lib.hid (Below.refl _ _)⟩
        case round =>
          obtain ⟨k, hk, rfl, HK, HB⟩ := hrel
          by_cases hlt : k < l.length
          · obtain ⟨bb, o, rfl, hf⟩ := (HV.out.keep GesAt.stable HB.out).at (by intro h; simp [h] at hlt)
            obtain ⟨k0, k1, k2, k3, k4, k5⟩ := hf k hlt
            have HT2 : Hid ((l.take (k + 1)).all (gesOk n) = ((l.take k).all (gesOk n) && gesOk n l[k])) := Lib.hid (by rw [take_succ l k hlt, List.all_append]; simp)
            have HIN : Hid (l[k] ∈ l) := Lib.hid (List.getElem_mem hlt)
            have hkk : (k : Int) < (l.length : Int) := by omega
            clear hf
            generalize l[k] = x at *
            obtain ⟨xa, xb, xc, xd, xf, xs⟩ := x
            unfold IntAt at k0 k1 k2 k3 k4 k5
            have hkb := cell_lt k0
            simp only at k0 k1 k2 k3 k4 k5
            cases hg : gesOk n ⟨xa, xb, xc, xd, xf, xs⟩
            · have HOUT : Hid (ok = false) := Lib.hid (by
                rw [← HOK.out]
                exact List.all_eq_false.2 ⟨_, HIN.out, by simp [hg]⟩)
              rcases ges_ways n xa xb xc xd xf xs hg with h | ⟨h1, h⟩ | ⟨h1, h2, h⟩ | ⟨h1, h2, h3, h⟩ | ⟨h1, h2, h3, h4, h⟩ | ⟨h1, h2, h3, h4, h5, h⟩ | ⟨h1, h2, h3, h4, h5, h6, h⟩ | ⟨h1, h2, h3, h4, h5, h6, h7, h⟩ | ⟨h1, h2, h3, h4, h5, h6, h7, h8, h⟩ | ⟨h1, h2, h3, h4, h5, h6, h7, h8, h9, h⟩
              · go_wp2_with fail
                go_ret
                exact ⟨by rw [HOUT.out]; rfl, bAlloc HB.out _⟩
              · go_wp2_with fail
                go_ret
                exact ⟨by rw [HOUT.out]; rfl, bAlloc HB.out _⟩
              · go_wp2_with fail
                go_ret
                exact ⟨by rw [HOUT.out]; rfl, bAlloc HB.out _⟩
              · go_wp2_with fail
                go_ret
                exact ⟨by rw [HOUT.out]; rfl, bAlloc HB.out _⟩
              · go_wp2_with fail
                go_ret
                exact ⟨by rw [HOUT.out]; rfl, bAlloc HB.out _⟩
              · go_wp2_with fail
                go_ret
                exact ⟨by rw [HOUT.out]; rfl, bAlloc HB.out _⟩
              · go_wp2_with fail
                go_ret
                exact ⟨by rw [HOUT.out]; rfl, bAlloc HB.out _⟩
              · go_wp2_with fail
                go_ret
                exact ⟨by rw [HOUT.out]; rfl, bAlloc HB.out _⟩
              · go_wp2_with fail
                go_ret
                exact ⟨by rw [HOUT.out]; rfl, bAlloc HB.out _⟩
              · go_wp2_with fail
                go_ret
                exact ⟨by rw [HOUT.out]; rfl, bAlloc HB.out _⟩
            · obtain ⟨c0, c1, c2, c3, c4, c5, c6, c7, c8, c9⟩ := ges_in hg
              have HGT := Lib.hid hg
              clear hg
              go_wp2_with fail
              all_goals first | (exfalso; omega) | skip
              go_roundw
              case rel => exact ⟨k + 1, by omega, by go_num, Lib.hid (by rw [HT2.out, HK.out, HGT.out]; rfl), Lib.hid (bAlloc HB.out _)⟩
              case measure => simp [intOf]; omega
          · obtain rfl : k = l.length := by omega
            have h := HK.out
            rw [List.take_length, HOK.out] at h
            have HE := Lib.hid h
            clear h
            go_wp2_with fail
            go_ret
            exact ⟨by rw [HE.out]; rfl, HB.out⟩
      · rw [decide_eq_false h3, Bool.false_and]
        have h31 : (l.length : Int) > 100 := by omega
        clear HV
        go_enter Try.func41, Try.ntmps41
        go_wp2_with (go_at_call 55; with_reducible refine Calls.mono (HA.out) ?_; rintro e w1 ⟨rfl, rfl⟩)
        all_goals first | (exfalso; omega) | skip
        go_ret
        exact ⟨ret_bool (by first | rfl | (simp; done)), Below.refl _ _⟩
  · rw [decide_eq_false h1]
    have h11 : (n : Int) < 1 := by omega
    simp only [Bool.false_and]
    clear HV
    go_enter Try.func41, Try.ntmps41
    go_wp2_with (go_at_call 55; with_reducible refine Calls.mono (HA.out) ?_; rintro e w1 ⟨rfl, rfl⟩)
    all_goals first | (exfalso; omega) | skip
    go_ret
    exact ⟨ret_bool (by first | rfl | (simp; done)), Below.refl _ _⟩
end Go.Proofs.Ytbmbcbknoflpgaa
