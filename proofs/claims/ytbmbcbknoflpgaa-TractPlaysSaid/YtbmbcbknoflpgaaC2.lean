/- Contracts: shapes by the specification. -/
import Derived.Test.YtbmbcbknoflpgaaC1
set_option linter.unusedSimpArgs false
set_option linter.unusedVariables false
namespace Go.Proofs.Ytbmbcbknoflpgaa
open Go.RowKit

theorem shpOk_iff (s : Shp) : shpOk s = true ↔ 1 ≤ s.areas.length ∧ arsOk s.areas = true ∧ arsOk s.branch = true ∧ (0 ≤ s.joint ∧ s.joint ≤ s.last ∧ 0 ≤ s.glottis ∧ s.glottis ≤ 99 ∧ 0 ≤ s.lips ∧ s.lips ≤ 99 ∧ 0 ≤ s.nose ∧ s.nose ≤ s.most) := by
  simp only [shpOk, Bool.and_eq_true, betw_iff, decide_eq_true_eq]
  constructor
  · rintro ⟨⟨⟨⟨⟨⟨h1, h2⟩, h3⟩, h4⟩, h5⟩, h6⟩, h7⟩
    exact ⟨h1, h2, h3, by omega⟩
  · rintro ⟨h1, h2, h3, h4⟩
    refine ⟨⟨⟨⟨⟨⟨h1, h2⟩, h3⟩, ?_⟩, ?_⟩, ?_⟩, ?_⟩ <;> omega
set_option maxRecDepth 10000 in
set_option maxHeartbeats 4000000 in
theorem refShape_any (s : Shp) (va vb : Value) (w : World) (ha : SliceV w va 1 IntAt s.areas) (hb : SliceV w vb 1 IntAt s.branch) :
    Calls Try.prog 19 #[.agg #[va, vb, .int .i64 s.joint, .int .i64 s.glottis, .int .i64 s.lips, .int .i64 s.nose]] w fun e w' => e = .returned (.bool (shpOk s)) ∧ Below w.heap.size w w' := by
  have hok := shpOk_iff s
  obtain ⟨al, bl, j, g, li, no⟩ := s
  simp only at ha hb hok ⊢
  have HA1 := Lib.hid (fun W (hB : Below w.heap.size w W) => refareas_any al va W (ha.keep IntAt.stable hB))
  have HA2 := Lib.hid (fun W (hB : Below w.heap.size w W) => refareas_any bl vb W (hb.keep IntAt.stable hB))
  obtain ⟨a, c, rfl, hl, -⟩ := ha
  obtain ⟨b, d, rfl, hm, -⟩ := hb
  unfold most at hl hm
  have hLJ : Shp.last ⟨al, bl, j, g, li, no⟩ = if bl.length = 0 then 0 else (al.length : Int) - 2 := rfl
  have hMN : Shp.most ⟨al, bl, j, g, li, no⟩ = if bl.length = 0 then 0 else 99 := rfl
  rw [hLJ, hMN] at hok
  clear hLJ hMN
  generalize shpOk _ = ok at *
  generalize arsOk al = q1 at *
  generalize arsOk bl = q2 at *
  generalize al.length = n at *
  generalize bl.length = m at *
  have HOK := Lib.hid hok
  clear hok
  by_cases h1 : (n : Int) < 1
  · have HR : Hid (ok = false) := Lib.hid (Bool.eq_false_iff.2 (fun h => by obtain ⟨h1, h2, h3, h4⟩ := HOK.out.1 h; first | omega | (simp at h2; done) | (simp at h3; done)))
    clear HOK
    go_enter Try.func19, Try.ntmps19
    go_wp2_with (first
      | (go_at_call 55; with_reducible refine Calls.mono (HA1.out _ (bAlloc (Below.refl _ _) _)) ?_; rintro e w1 ⟨rfl, rfl⟩)
      | (go_at_call 55; with_reducible refine Calls.mono (HA2.out _ (bAlloc (Below.refl _ _) _)) ?_; rintro e w1 ⟨rfl, rfl⟩))
    all_goals first | (exfalso; omega) | skip
    go_ret
    exact ⟨by rw [HR.out]; first | rfl | (simp; done) | (simp; omega), bAlloc (Below.refl _ _) _⟩
  cases q1
  · have HR : Hid (ok = false) := Lib.hid (Bool.eq_false_iff.2 (fun h => by obtain ⟨h1, h2, h3, h4⟩ := HOK.out.1 h; first | omega | (simp at h2; done) | (simp at h3; done)))
    clear HOK
    go_enter Try.func19, Try.ntmps19
    go_wp2_with (first
      | (go_at_call 55; with_reducible refine Calls.mono (HA1.out _ (bAlloc (Below.refl _ _) _)) ?_; rintro e w1 ⟨rfl, rfl⟩)
      | (go_at_call 55; with_reducible refine Calls.mono (HA2.out _ (bAlloc (Below.refl _ _) _)) ?_; rintro e w1 ⟨rfl, rfl⟩))
    all_goals first | (exfalso; omega) | skip
    go_ret
    exact ⟨by rw [HR.out]; first | rfl | (simp; done) | (simp; omega), bAlloc (Below.refl _ _) _⟩
  cases q2
  · have HR : Hid (ok = false) := Lib.hid (Bool.eq_false_iff.2 (fun h => by obtain ⟨h1, h2, h3, h4⟩ := HOK.out.1 h; first | omega | (simp at h2; done) | (simp at h3; done)))
    clear HOK
    go_enter Try.func19, Try.ntmps19
    go_wp2_with (first
      | (go_at_call 55; with_reducible refine Calls.mono (HA1.out _ (bAlloc (Below.refl _ _) _)) ?_; rintro e w1 ⟨rfl, rfl⟩)
      | (go_at_call 55; with_reducible refine Calls.mono (HA2.out _ (bAlloc (Below.refl _ _) _)) ?_; rintro e w1 ⟨rfl, rfl⟩))
    all_goals first | (exfalso; omega) | skip
    go_ret
    exact ⟨by rw [HR.out]; first | rfl | (simp; done) | (simp; omega), bAlloc (Below.refl _ _) _⟩
  by_cases h2 : j < 0
  · have HR : Hid (ok = false) := Lib.hid (Bool.eq_false_iff.2 (fun h => by obtain ⟨h1, h2, h3, h4⟩ := HOK.out.1 h; first | omega | (simp at h2; done) | (simp at h3; done)))
    clear HOK
    go_enter Try.func19, Try.ntmps19
    go_wp2_with (first
      | (go_at_call 55; with_reducible refine Calls.mono (HA1.out _ (bAlloc (Below.refl _ _) _)) ?_; rintro e w1 ⟨rfl, rfl⟩)
      | (go_at_call 55; with_reducible refine Calls.mono (HA2.out _ (bAlloc (Below.refl _ _) _)) ?_; rintro e w1 ⟨rfl, rfl⟩))
    all_goals first | (exfalso; omega) | skip
    go_ret
    exact ⟨by rw [HR.out]; first | rfl | (simp; done) | (simp; omega), bAlloc (Below.refl _ _) _⟩
  by_cases h3 : g < 0
  · have HR : Hid (ok = false) := Lib.hid (Bool.eq_false_iff.2 (fun h => by obtain ⟨h1, h2, h3, h4⟩ := HOK.out.1 h; first | omega | (simp at h2; done) | (simp at h3; done)))
    clear HOK
    go_enter Try.func19, Try.ntmps19
    go_wp2_with (first
      | (go_at_call 55; with_reducible refine Calls.mono (HA1.out _ (bAlloc (Below.refl _ _) _)) ?_; rintro e w1 ⟨rfl, rfl⟩)
      | (go_at_call 55; with_reducible refine Calls.mono (HA2.out _ (bAlloc (Below.refl _ _) _)) ?_; rintro e w1 ⟨rfl, rfl⟩))
    all_goals first | (exfalso; omega) | skip
    go_ret
    exact ⟨by rw [HR.out]; first | rfl | (simp; done) | (simp; omega), bAlloc (Below.refl _ _) _⟩
  by_cases h4 : 99 < g
  · have HR : Hid (ok = false) := Lib.hid (Bool.eq_false_iff.2 (fun h => by obtain ⟨h1, h2, h3, h4⟩ := HOK.out.1 h; first | omega | (simp at h2; done) | (simp at h3; done)))
    clear HOK
    go_enter Try.func19, Try.ntmps19
    go_wp2_with (first
      | (go_at_call 55; with_reducible refine Calls.mono (HA1.out _ (bAlloc (Below.refl _ _) _)) ?_; rintro e w1 ⟨rfl, rfl⟩)
      | (go_at_call 55; with_reducible refine Calls.mono (HA2.out _ (bAlloc (Below.refl _ _) _)) ?_; rintro e w1 ⟨rfl, rfl⟩))
    all_goals first | (exfalso; omega) | skip
    go_ret
    exact ⟨by rw [HR.out]; first | rfl | (simp; done) | (simp; omega), bAlloc (Below.refl _ _) _⟩
  by_cases h5 : li < 0
  · have HR : Hid (ok = false) := Lib.hid (Bool.eq_false_iff.2 (fun h => by obtain ⟨h1, h2, h3, h4⟩ := HOK.out.1 h; first | omega | (simp at h2; done) | (simp at h3; done)))
    clear HOK
    go_enter Try.func19, Try.ntmps19
    go_wp2_with (first
      | (go_at_call 55; with_reducible refine Calls.mono (HA1.out _ (bAlloc (Below.refl _ _) _)) ?_; rintro e w1 ⟨rfl, rfl⟩)
      | (go_at_call 55; with_reducible refine Calls.mono (HA2.out _ (bAlloc (Below.refl _ _) _)) ?_; rintro e w1 ⟨rfl, rfl⟩))
    all_goals first | (exfalso; omega) | skip
    go_ret
    exact ⟨by rw [HR.out]; first | rfl | (simp; done) | (simp; omega), bAlloc (Below.refl _ _) _⟩
  by_cases h6 : 99 < li
  · have HR : Hid (ok = false) := Lib.hid (Bool.eq_false_iff.2 (fun h => by obtain ⟨h1, h2, h3, h4⟩ := HOK.out.1 h; first | omega | (simp at h2; done) | (simp at h3; done)))
    clear HOK
    go_enter Try.func19, Try.ntmps19
    go_wp2_with (first
      | (go_at_call 55; with_reducible refine Calls.mono (HA1.out _ (bAlloc (Below.refl _ _) _)) ?_; rintro e w1 ⟨rfl, rfl⟩)
      | (go_at_call 55; with_reducible refine Calls.mono (HA2.out _ (bAlloc (Below.refl _ _) _)) ?_; rintro e w1 ⟨rfl, rfl⟩))
    all_goals first | (exfalso; omega) | skip
    go_ret
    exact ⟨by rw [HR.out]; first | rfl | (simp; done) | (simp; omega), bAlloc (Below.refl _ _) _⟩
  by_cases h7 : no < 0
  · have HR : Hid (ok = false) := Lib.hid (Bool.eq_false_iff.2 (fun h => by obtain ⟨h1, h2, h3, h4⟩ := HOK.out.1 h; first | omega | (simp at h2; done) | (simp at h3; done)))
    clear HOK
    go_enter Try.func19, Try.ntmps19
    go_wp2_with (first
      | (go_at_call 55; with_reducible refine Calls.mono (HA1.out _ (bAlloc (Below.refl _ _) _)) ?_; rintro e w1 ⟨rfl, rfl⟩)
      | (go_at_call 55; with_reducible refine Calls.mono (HA2.out _ (bAlloc (Below.refl _ _) _)) ?_; rintro e w1 ⟨rfl, rfl⟩))
    all_goals first | (exfalso; omega) | skip
    go_ret
    exact ⟨by rw [HR.out]; first | rfl | (simp; done) | (simp; omega), bAlloc (Below.refl _ _) _⟩
  by_cases h8 : 99 < no
  · have HR : Hid (ok = false) := Lib.hid (Bool.eq_false_iff.2 (fun h => by obtain ⟨h1, h2, h3, h4⟩ := HOK.out.1 h; first | omega | (simp at h2; done) | (simp at h3; done)))
    clear HOK
    go_enter Try.func19, Try.ntmps19
    go_wp2_with (first
      | (go_at_call 55; with_reducible refine Calls.mono (HA1.out _ (bAlloc (Below.refl _ _) _)) ?_; rintro e w1 ⟨rfl, rfl⟩)
      | (go_at_call 55; with_reducible refine Calls.mono (HA2.out _ (bAlloc (Below.refl _ _) _)) ?_; rintro e w1 ⟨rfl, rfl⟩))
    all_goals first | (exfalso; omega) | skip
    go_ret
    exact ⟨by rw [HR.out]; first | rfl | (simp; done) | (simp; omega), bAlloc (Below.refl _ _) _⟩
  by_cases h9 : m = 0
  · subst h9
    rw [if_pos rfl, if_pos rfl] at HOK
    by_cases h10 : j = 0
    · subst h10
      by_cases h11 : no = 0
      · subst h11
        have HR : Hid (ok = true) := Lib.hid (HOK.out.2 ⟨by omega, rfl, rfl, by omega⟩)
        clear HOK
        go_enter Try.func19, Try.ntmps19
        go_wp2_with (first
          | (go_at_call 55; with_reducible refine Calls.mono (HA1.out _ (bAlloc (Below.refl _ _) _)) ?_; rintro e w1 ⟨rfl, rfl⟩)
          | (go_at_call 55; with_reducible refine Calls.mono (HA2.out _ (bAlloc (Below.refl _ _) _)) ?_; rintro e w1 ⟨rfl, rfl⟩))
        all_goals first | (exfalso; omega) | skip
        go_ret
        exact ⟨by rw [HR.out]; first | rfl | (simp; done) | (simp; omega), bAlloc (Below.refl _ _) _⟩
      · have h12 : (no == 0) = false := by simp; exact h11
        have HR : Hid (ok = false) := Lib.hid (Bool.eq_false_iff.2 (fun h => by obtain ⟨h1, h2, h3, h4⟩ := HOK.out.1 h; first | omega | (simp at h2; done) | (simp at h3; done)))
        clear HOK
        go_enter Try.func19, Try.ntmps19
        go_wp2_with (first
          | (go_at_call 55; with_reducible refine Calls.mono (HA1.out _ (bAlloc (Below.refl _ _) _)) ?_; rintro e w1 ⟨rfl, rfl⟩)
          | (go_at_call 55; with_reducible refine Calls.mono (HA2.out _ (bAlloc (Below.refl _ _) _)) ?_; rintro e w1 ⟨rfl, rfl⟩))
        all_goals first | (exfalso; omega) | skip
        go_ret
        exact ⟨by rw [HR.out]; first | rfl | (simp; done) | (simp; omega), bAlloc (Below.refl _ _) _⟩
    · have h12 : (j == 0) = false := by simp; exact h10
      have HR : Hid (ok = false) := Lib.hid (Bool.eq_false_iff.2 (fun h => by obtain ⟨h1, h2, h3, h4⟩ := HOK.out.1 h; first | omega | (simp at h2; done) | (simp at h3; done)))
      clear HOK
      go_enter Try.func19, Try.ntmps19
      go_wp2_with (first
        | (go_at_call 55; with_reducible refine Calls.mono (HA1.out _ (bAlloc (Below.refl _ _) _)) ?_; rintro e w1 ⟨rfl, rfl⟩)
        | (go_at_call 55; with_reducible refine Calls.mono (HA2.out _ (bAlloc (Below.refl _ _) _)) ?_; rintro e w1 ⟨rfl, rfl⟩))
      all_goals first | (exfalso; omega) | skip
      go_ret
      exact ⟨by rw [HR.out]; first | rfl | (simp; done) | (simp; omega), bAlloc (Below.refl _ _) _⟩
  · rw [if_neg h9, if_neg h9] at HOK
    have h13 : ¬ (m : Int) = 0 := by omega
    have h12 : ((m : Int) == 0) = false := by simp; exact h9
    have u1 : IntKind.i64.wrap ((n : Int) - 2) = (n : Int) - 2 := IntWalk.i64_in _ (by omega)
    clear h9
    by_cases h10 : j ≤ (n : Int) - 2
    · have HR : Hid (ok = true) := Lib.hid (HOK.out.2 ⟨by omega, rfl, rfl, by omega⟩)
      clear HOK
      go_enter Try.func19, Try.ntmps19
      go_wp2_with (first
        | (go_at_call 55; with_reducible refine Calls.mono (HA1.out _ (bAlloc (Below.refl _ _) _)) ?_; rintro e w1 ⟨rfl, rfl⟩)
        | (go_at_call 55; with_reducible refine Calls.mono (HA2.out _ (bAlloc (Below.refl _ _) _)) ?_; rintro e w1 ⟨rfl, rfl⟩))
      all_goals first | (exfalso; omega) | skip
      go_ret
      exact ⟨by rw [HR.out]; first | rfl | (simp; done) | (simp; omega), bAlloc (Below.refl _ _) _⟩
    · have HR : Hid (ok = false) := Lib.hid (Bool.eq_false_iff.2 (fun h => by obtain ⟨h1, h2, h3, h4⟩ := HOK.out.1 h; first | omega | (simp at h2; done) | (simp at h3; done)))
      clear HOK
      go_enter Try.func19, Try.ntmps19
      go_wp2_with (first
        | (go_at_call 55; with_reducible refine Calls.mono (HA1.out _ (bAlloc (Below.refl _ _) _)) ?_; rintro e w1 ⟨rfl, rfl⟩)
        | (go_at_call 55; with_reducible refine Calls.mono (HA2.out _ (bAlloc (Below.refl _ _) _)) ?_; rintro e w1 ⟨rfl, rfl⟩))
      all_goals first | (exfalso; omega) | skip
      go_ret
      exact ⟨by rw [HR.out]; first | rfl | (simp; done) | (simp; omega), bAlloc (Below.refl _ _) _⟩
end Go.Proofs.Ytbmbcbknoflpgaa
