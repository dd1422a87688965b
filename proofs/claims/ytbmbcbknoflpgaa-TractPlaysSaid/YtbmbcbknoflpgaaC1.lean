/- Contracts: shapes that are right. -/
import Derived.Test.YtbmbcbknoflpgaaA3
set_option linter.unusedSimpArgs false
set_option linter.unusedVariables false
namespace Go.Proofs.Ytbmbcbknoflpgaa
open Go.RowKit

structure Shp where
  areas : List Int
  branch : List Int
  joint : Int
  glottis : Int
  lips : Int
  nose : Int
/-- The last joint of a shape, and the most that its nose throws back. -/
def Shp.last (s : Shp) : Int := if s.branch.length = 0 then 0 else (s.areas.length : Int) - 2
def Shp.most (s : Shp) : Int := if s.branch.length = 0 then 0 else 99
def shpOk (s : Shp) : Bool := decide (1 ≤ s.areas.length) && arsOk s.areas && arsOk s.branch && betw s.joint 0 s.last && betw s.glottis 0 99 && betw s.lips 0 99 && betw s.nose 0 s.most
set_option maxRecDepth 10000 in
set_option maxHeartbeats 4000000 in
theorem shapeRight_any (s : Shp) (va vb : Value) (w : World) (ha : SliceV w va 1 IntAt s.areas) (hb : SliceV w vb 1 IntAt s.branch) :
    Calls Try.prog 54 #[.agg #[va, vb, .int .i64 s.joint, .int .i64 s.glottis, .int .i64 s.lips, .int .i64 s.nose]] w fun e w' => e = .returned (.bool (shpOk s)) ∧ Below w.heap.size w w' := by
  obtain ⟨al, bl, j, g, li, no⟩ := s
  simp only at ha hb ⊢
  have HA1 := Lib.hid (fun W (hB : Below w.heap.size w W) => areasRight_any al va W (ha.keep IntAt.stable hB))
  have HA2 := Lib.hid (fun W (hB : Below w.heap.size w W) => areasRight_any bl vb W (hb.keep IntAt.stable hB))
  obtain ⟨a, c, rfl, hl, -⟩ := ha
  obtain ⟨b, d, rfl, hm, -⟩ := hb
  unfold most at hl hm
  have hd : shpOk ⟨al, bl, j, g, li, no⟩ = (decide (1 ≤ al.length) && arsOk al && arsOk bl && betw j 0 (Shp.last ⟨al, bl, j, g, li, no⟩) && betw g 0 99 && betw li 0 99 && betw no 0 (Shp.most ⟨al, bl, j, g, li, no⟩)) := rfl
  rw [hd]
  clear hd
  have hLJ : Shp.last ⟨al, bl, j, g, li, no⟩ = if bl.length = 0 then 0 else (al.length : Int) - 2 := rfl
  have hMN : Shp.most ⟨al, bl, j, g, li, no⟩ = if bl.length = 0 then 0 else 99 := rfl
  generalize Shp.last ⟨al, bl, j, g, li, no⟩ = LJ at *
  generalize Shp.most ⟨al, bl, j, g, li, no⟩ = MN at *
  have HJ := Lib.hid (between_any j 0 LJ)
  have HG := Lib.hid (between_any g 0 99)
  have HL := Lib.hid (between_any li 0 99)
  have HN := Lib.hid (between_any no 0 MN)
  generalize al.length = n at *
  generalize bl.length = m at *
  by_cases hm0 : m = 0
  · rw [if_pos hm0] at hLJ hMN
    subst hm0 hLJ hMN
    by_cases hn0 : 1 ≤ n
    · rw [decide_eq_true hn0, Bool.true_and]
      have hn1 : (0 : Int) < (n : Int) := by omega
      cases h1 : arsOk al <;> rw [h1] at HA1 <;> clear h1
      · simp only [Bool.false_and, Bool.and_false, Bool.true_and, Bool.and_true]
        go_enter Try.func54, Try.ntmps54
        go_wp2_with (first
          | (go_at_call 63; with_reducible refine Calls.mono (HA1.out _ (bAlloc (Below.refl _ _) _)) ?_; rintro e w1 ⟨rfl, rfl⟩)
          | (go_at_call 63; with_reducible refine Calls.mono (HA2.out _ (bAlloc (Below.refl _ _) _)) ?_; rintro e w1 ⟨rfl, rfl⟩)
          | (go_at_call 71; with_reducible refine Calls.mono (HJ.out _) ?_; rintro e w1 ⟨rfl, rfl⟩)
          | (go_at_call 71; with_reducible refine Calls.mono (HG.out _) ?_; rintro e w1 ⟨rfl, rfl⟩)
          | (go_at_call 71; with_reducible refine Calls.mono (HL.out _) ?_; rintro e w1 ⟨rfl, rfl⟩)
          | (go_at_call 71; with_reducible refine Calls.mono (HN.out _) ?_; rintro e w1 ⟨rfl, rfl⟩))
        all_goals first | (exfalso; omega) | skip
        go_ret
        exact ⟨rfl, bAlloc (Below.refl _ _) _⟩
      · cases h2 : arsOk bl <;> rw [h2] at HA2 <;> clear h2
        · simp only [Bool.false_and, Bool.and_false, Bool.true_and, Bool.and_true]
          go_enter Try.func54, Try.ntmps54
          go_wp2_with (first
            | (go_at_call 63; with_reducible refine Calls.mono (HA1.out _ (bAlloc (Below.refl _ _) _)) ?_; rintro e w1 ⟨rfl, rfl⟩)
            | (go_at_call 63; with_reducible refine Calls.mono (HA2.out _ (bAlloc (Below.refl _ _) _)) ?_; rintro e w1 ⟨rfl, rfl⟩)
            | (go_at_call 71; with_reducible refine Calls.mono (HJ.out _) ?_; rintro e w1 ⟨rfl, rfl⟩)
            | (go_at_call 71; with_reducible refine Calls.mono (HG.out _) ?_; rintro e w1 ⟨rfl, rfl⟩)
            | (go_at_call 71; with_reducible refine Calls.mono (HL.out _) ?_; rintro e w1 ⟨rfl, rfl⟩)
            | (go_at_call 71; with_reducible refine Calls.mono (HN.out _) ?_; rintro e w1 ⟨rfl, rfl⟩))
          all_goals first | (exfalso; omega) | skip
          go_ret
          exact ⟨rfl, bAlloc (Below.refl _ _) _⟩
        · cases h3 : betw j 0 0 <;> rw [h3] at HJ <;> clear h3
          · simp only [Bool.false_and, Bool.and_false, Bool.true_and, Bool.and_true]
            go_enter Try.func54, Try.ntmps54
            go_wp2_with (first
              | (go_at_call 63; with_reducible refine Calls.mono (HA1.out _ (bAlloc (Below.refl _ _) _)) ?_; rintro e w1 ⟨rfl, rfl⟩)
              | (go_at_call 63; with_reducible refine Calls.mono (HA2.out _ (bAlloc (Below.refl _ _) _)) ?_; rintro e w1 ⟨rfl, rfl⟩)
              | (go_at_call 71; with_reducible refine Calls.mono (HJ.out _) ?_; rintro e w1 ⟨rfl, rfl⟩)
              | (go_at_call 71; with_reducible refine Calls.mono (HG.out _) ?_; rintro e w1 ⟨rfl, rfl⟩)
              | (go_at_call 71; with_reducible refine Calls.mono (HL.out _) ?_; rintro e w1 ⟨rfl, rfl⟩)
              | (go_at_call 71; with_reducible refine Calls.mono (HN.out _) ?_; rintro e w1 ⟨rfl, rfl⟩))
            all_goals first | (exfalso; omega) | skip
            go_ret
            exact ⟨rfl, bAlloc (Below.refl _ _) _⟩
          · cases h4 : betw g 0 99 <;> rw [h4] at HG <;> clear h4
            · simp only [Bool.false_and, Bool.and_false, Bool.true_and, Bool.and_true]
              go_enter Try.func54, Try.ntmps54
              go_wp2_with (first
                | (go_at_call 63; with_reducible refine Calls.mono (HA1.out _ (bAlloc (Below.refl _ _) _)) ?_; rintro e w1 ⟨rfl, rfl⟩)
                | (go_at_call 63; with_reducible refine Calls.mono (HA2.out _ (bAlloc (Below.refl _ _) _)) ?_; rintro e w1 ⟨rfl, rfl⟩)
                | (go_at_call 71; with_reducible refine Calls.mono (HJ.out _) ?_; rintro e w1 ⟨rfl, rfl⟩)
                | (go_at_call 71; with_reducible refine Calls.mono (HG.out _) ?_; rintro e w1 ⟨rfl, rfl⟩)
                | (go_at_call 71; with_reducible refine Calls.mono (HL.out _) ?_; rintro e w1 ⟨rfl, rfl⟩)
                | (go_at_call 71; with_reducible refine Calls.mono (HN.out _) ?_; rintro e w1 ⟨rfl, rfl⟩))
              all_goals first | (exfalso; omega) | skip
              go_ret
              exact ⟨rfl, bAlloc (Below.refl _ _) _⟩
            · cases h5 : betw li 0 99 <;> rw [h5] at HL <;> clear h5
              · simp only [Bool.false_and, Bool.and_false, Bool.true_and, Bool.and_true]
                go_enter Try.func54, Try.ntmps54
                go_wp2_with (first
                  | (go_at_call 63; with_reducible refine Calls.mono (HA1.out _ (bAlloc (Below.refl _ _) _)) ?_; rintro e w1 ⟨rfl, rfl⟩)
                  | (go_at_call 63; with_reducible refine Calls.mono (HA2.out _ (bAlloc (Below.refl _ _) _)) ?_; rintro e w1 ⟨rfl, rfl⟩)
                  | (go_at_call 71; with_reducible refine Calls.mono (HJ.out _) ?_; rintro e w1 ⟨rfl, rfl⟩)
                  | (go_at_call 71; with_reducible refine Calls.mono (HG.out _) ?_; rintro e w1 ⟨rfl, rfl⟩)
                  | (go_at_call 71; with_reducible refine Calls.mono (HL.out _) ?_; rintro e w1 ⟨rfl, rfl⟩)
                  | (go_at_call 71; with_reducible refine Calls.mono (HN.out _) ?_; rintro e w1 ⟨rfl, rfl⟩))
                all_goals first | (exfalso; omega) | skip
                go_ret
                exact ⟨rfl, bAlloc (Below.refl _ _) _⟩
              · cases h6 : betw no 0 0 <;> rw [h6] at HN <;> clear h6
                · simp only [Bool.false_and, Bool.and_false, Bool.true_and, Bool.and_true]
                  go_enter Try.func54, Try.ntmps54
                  go_wp2_with (first
                    | (go_at_call 63; with_reducible refine Calls.mono (HA1.out _ (bAlloc (Below.refl _ _) _)) ?_; rintro e w1 ⟨rfl, rfl⟩)
                    | (go_at_call 63; with_reducible refine Calls.mono (HA2.out _ (bAlloc (Below.refl _ _) _)) ?_; rintro e w1 ⟨rfl, rfl⟩)
                    | (go_at_call 71; with_reducible refine Calls.mono (HJ.out _) ?_; rintro e w1 ⟨rfl, rfl⟩)
                    | (go_at_call 71; with_reducible refine Calls.mono (HG.out _) ?_; rintro e w1 ⟨rfl, rfl⟩)
                    | (go_at_call 71; with_reducible refine Calls.mono (HL.out _) ?_; rintro e w1 ⟨rfl, rfl⟩)
                    | (go_at_call 71; with_reducible refine Calls.mono (HN.out _) ?_; rintro e w1 ⟨rfl, rfl⟩))
                  all_goals first | (exfalso; omega) | skip
                  go_ret
                  exact ⟨rfl, bAlloc (Below.refl _ _) _⟩
                · simp only [Bool.false_and, Bool.and_false, Bool.true_and, Bool.and_true]
                  go_enter Try.func54, Try.ntmps54
                  go_wp2_with (first
                    | (go_at_call 63; with_reducible refine Calls.mono (HA1.out _ (bAlloc (Below.refl _ _) _)) ?_; rintro e w1 ⟨rfl, rfl⟩)
                    | (go_at_call 63; with_reducible refine Calls.mono (HA2.out _ (bAlloc (Below.refl _ _) _)) ?_; rintro e w1 ⟨rfl, rfl⟩)
                    | (go_at_call 71; with_reducible refine Calls.mono (HJ.out _) ?_; rintro e w1 ⟨rfl, rfl⟩)
                    | (go_at_call 71; with_reducible refine Calls.mono (HG.out _) ?_; rintro e w1 ⟨rfl, rfl⟩)
                    | (go_at_call 71; with_reducible refine Calls.mono (HL.out _) ?_; rintro e w1 ⟨rfl, rfl⟩)
                    | (go_at_call 71; with_reducible refine Calls.mono (HN.out _) ?_; rintro e w1 ⟨rfl, rfl⟩))
                  all_goals first | (exfalso; omega) | skip
                  go_ret
                  exact ⟨rfl, bAlloc (Below.refl _ _) _⟩
    · rw [decide_eq_false hn0]
      have hn1 : ¬ (0 : Int) < (n : Int) := by omega
      simp only [Bool.false_and]
      go_enter Try.func54, Try.ntmps54
      go_wp2_with (first
        | (go_at_call 63; with_reducible refine Calls.mono (HA1.out _ (bAlloc (Below.refl _ _) _)) ?_; rintro e w1 ⟨rfl, rfl⟩)
        | (go_at_call 63; with_reducible refine Calls.mono (HA2.out _ (bAlloc (Below.refl _ _) _)) ?_; rintro e w1 ⟨rfl, rfl⟩)
        | (go_at_call 71; with_reducible refine Calls.mono (HJ.out _) ?_; rintro e w1 ⟨rfl, rfl⟩)
        | (go_at_call 71; with_reducible refine Calls.mono (HG.out _) ?_; rintro e w1 ⟨rfl, rfl⟩)
        | (go_at_call 71; with_reducible refine Calls.mono (HL.out _) ?_; rintro e w1 ⟨rfl, rfl⟩)
        | (go_at_call 71; with_reducible refine Calls.mono (HN.out _) ?_; rintro e w1 ⟨rfl, rfl⟩))
      all_goals first | (exfalso; omega) | skip
      go_ret
      exact ⟨rfl, bAlloc (Below.refl _ _) _⟩
  · rw [if_neg hm0] at hLJ hMN
    subst hMN
    have hm1 : (0 : Int) < (m : Int) := by omega
    have u1 : IntKind.i64.wrap ((n : Int) - 2) = LJ := by rw [hLJ]; exact IntWalk.i64_in _ (by omega)
    clear hLJ hm0
    by_cases hn0 : 1 ≤ n
    · rw [decide_eq_true hn0, Bool.true_and]
      have hn1 : (0 : Int) < (n : Int) := by omega
      cases h1 : arsOk al <;> rw [h1] at HA1 <;> clear h1
      · simp only [Bool.false_and, Bool.and_false, Bool.true_and, Bool.and_true]
        go_enter Try.func54, Try.ntmps54
        go_wp2_with (first
          | (go_at_call 63; with_reducible refine Calls.mono (HA1.out _ (bAlloc (Below.refl _ _) _)) ?_; rintro e w1 ⟨rfl, rfl⟩)
          | (go_at_call 63; with_reducible refine Calls.mono (HA2.out _ (bAlloc (Below.refl _ _) _)) ?_; rintro e w1 ⟨rfl, rfl⟩)
          | (go_at_call 71; with_reducible refine Calls.mono (HJ.out _) ?_; rintro e w1 ⟨rfl, rfl⟩)
          | (go_at_call 71; with_reducible refine Calls.mono (HG.out _) ?_; rintro e w1 ⟨rfl, rfl⟩)
          | (go_at_call 71; with_reducible refine Calls.mono (HL.out _) ?_; rintro e w1 ⟨rfl, rfl⟩)
          | (go_at_call 71; with_reducible refine Calls.mono (HN.out _) ?_; rintro e w1 ⟨rfl, rfl⟩))
        all_goals first | (exfalso; omega) | skip
        go_ret
        exact ⟨rfl, bAlloc (Below.refl _ _) _⟩
      · cases h2 : arsOk bl <;> rw [h2] at HA2 <;> clear h2
        · simp only [Bool.false_and, Bool.and_false, Bool.true_and, Bool.and_true]
          go_enter Try.func54, Try.ntmps54
          go_wp2_with (first
            | (go_at_call 63; with_reducible refine Calls.mono (HA1.out _ (bAlloc (Below.refl _ _) _)) ?_; rintro e w1 ⟨rfl, rfl⟩)
            | (go_at_call 63; with_reducible refine Calls.mono (HA2.out _ (bAlloc (Below.refl _ _) _)) ?_; rintro e w1 ⟨rfl, rfl⟩)
            | (go_at_call 71; with_reducible refine Calls.mono (HJ.out _) ?_; rintro e w1 ⟨rfl, rfl⟩)
            | (go_at_call 71; with_reducible refine Calls.mono (HG.out _) ?_; rintro e w1 ⟨rfl, rfl⟩)
            | (go_at_call 71; with_reducible refine Calls.mono (HL.out _) ?_; rintro e w1 ⟨rfl, rfl⟩)
            | (go_at_call 71; with_reducible refine Calls.mono (HN.out _) ?_; rintro e w1 ⟨rfl, rfl⟩))
          all_goals first | (exfalso; omega) | skip
          go_ret
          exact ⟨rfl, bAlloc (Below.refl _ _) _⟩
        · cases h3 : betw j 0 LJ <;> rw [h3] at HJ <;> clear h3
          · simp only [Bool.false_and, Bool.and_false, Bool.true_and, Bool.and_true]
            go_enter Try.func54, Try.ntmps54
            go_wp2_with (first
              | (go_at_call 63; with_reducible refine Calls.mono (HA1.out _ (bAlloc (Below.refl _ _) _)) ?_; rintro e w1 ⟨rfl, rfl⟩)
              | (go_at_call 63; with_reducible refine Calls.mono (HA2.out _ (bAlloc (Below.refl _ _) _)) ?_; rintro e w1 ⟨rfl, rfl⟩)
              | (go_at_call 71; with_reducible refine Calls.mono (HJ.out _) ?_; rintro e w1 ⟨rfl, rfl⟩)
              | (go_at_call 71; with_reducible refine Calls.mono (HG.out _) ?_; rintro e w1 ⟨rfl, rfl⟩)
              | (go_at_call 71; with_reducible refine Calls.mono (HL.out _) ?_; rintro e w1 ⟨rfl, rfl⟩)
              | (go_at_call 71; with_reducible refine Calls.mono (HN.out _) ?_; rintro e w1 ⟨rfl, rfl⟩))
            all_goals first | (exfalso; omega) | skip
            go_ret
            exact ⟨rfl, bAlloc (Below.refl _ _) _⟩
          · cases h4 : betw g 0 99 <;> rw [h4] at HG <;> clear h4
            · simp only [Bool.false_and, Bool.and_false, Bool.true_and, Bool.and_true]
              go_enter Try.func54, Try.ntmps54
              go_wp2_with (first
                | (go_at_call 63; with_reducible refine Calls.mono (HA1.out _ (bAlloc (Below.refl _ _) _)) ?_; rintro e w1 ⟨rfl, rfl⟩)
                | (go_at_call 63; with_reducible refine Calls.mono (HA2.out _ (bAlloc (Below.refl _ _) _)) ?_; rintro e w1 ⟨rfl, rfl⟩)
                | (go_at_call 71; with_reducible refine Calls.mono (HJ.out _) ?_; rintro e w1 ⟨rfl, rfl⟩)
                | (go_at_call 71; with_reducible refine Calls.mono (HG.out _) ?_; rintro e w1 ⟨rfl, rfl⟩)
                | (go_at_call 71; with_reducible refine Calls.mono (HL.out _) ?_; rintro e w1 ⟨rfl, rfl⟩)
                | (go_at_call 71; with_reducible refine Calls.mono (HN.out _) ?_; rintro e w1 ⟨rfl, rfl⟩))
              all_goals first | (exfalso; omega) | skip
              go_ret
              exact ⟨rfl, bAlloc (Below.refl _ _) _⟩
            · cases h5 : betw li 0 99 <;> rw [h5] at HL <;> clear h5
              · simp only [Bool.false_and, Bool.and_false, Bool.true_and, Bool.and_true]
                go_enter Try.func54, Try.ntmps54
                go_wp2_with (first
                  | (go_at_call 63; with_reducible refine Calls.mono (HA1.out _ (bAlloc (Below.refl _ _) _)) ?_; rintro e w1 ⟨rfl, rfl⟩)
                  | (go_at_call 63; with_reducible refine Calls.mono (HA2.out _ (bAlloc (Below.refl _ _) _)) ?_; rintro e w1 ⟨rfl, rfl⟩)
                  | (go_at_call 71; with_reducible refine Calls.mono (HJ.out _) ?_; rintro e w1 ⟨rfl, rfl⟩)
                  | (go_at_call 71; with_reducible refine Calls.mono (HG.out _) ?_; rintro e w1 ⟨rfl, rfl⟩)
                  | (go_at_call 71; with_reducible refine Calls.mono (HL.out _) ?_; rintro e w1 ⟨rfl, rfl⟩)
                  | (go_at_call 71; with_reducible refine Calls.mono (HN.out _) ?_; rintro e w1 ⟨rfl, rfl⟩))
                all_goals first | (exfalso; omega) | skip
                go_ret
                exact ⟨rfl, bAlloc (Below.refl _ _) _⟩
              · cases h6 : betw no 0 99 <;> rw [h6] at HN <;> clear h6
                · simp only [Bool.false_and, Bool.and_false, Bool.true_and, Bool.and_true]
                  go_enter Try.func54, Try.ntmps54
                  go_wp2_with (first
                    | (go_at_call 63; with_reducible refine Calls.mono (HA1.out _ (bAlloc (Below.refl _ _) _)) ?_; rintro e w1 ⟨rfl, rfl⟩)
                    | (go_at_call 63; with_reducible refine Calls.mono (HA2.out _ (bAlloc (Below.refl _ _) _)) ?_; rintro e w1 ⟨rfl, rfl⟩)
                    | (go_at_call 71; with_reducible refine Calls.mono (HJ.out _) ?_; rintro e w1 ⟨rfl, rfl⟩)
                    | (go_at_call 71; with_reducible refine Calls.mono (HG.out _) ?_; rintro e w1 ⟨rfl, rfl⟩)
                    | (go_at_call 71; with_reducible refine Calls.mono (HL.out _) ?_; rintro e w1 ⟨rfl, rfl⟩)
                    | (go_at_call 71; with_reducible refine Calls.mono (HN.out _) ?_; rintro e w1 ⟨rfl, rfl⟩))
                  all_goals first | (exfalso; omega) | skip
                  go_ret
                  exact ⟨rfl, bAlloc (Below.refl _ _) _⟩
                · simp only [Bool.false_and, Bool.and_false, Bool.true_and, Bool.and_true]
                  go_enter Try.func54, Try.ntmps54
                  go_wp2_with (first
                    | (go_at_call 63; with_reducible refine Calls.mono (HA1.out _ (bAlloc (Below.refl _ _) _)) ?_; rintro e w1 ⟨rfl, rfl⟩)
                    | (go_at_call 63; with_reducible refine Calls.mono (HA2.out _ (bAlloc (Below.refl _ _) _)) ?_; rintro e w1 ⟨rfl, rfl⟩)
                    | (go_at_call 71; with_reducible refine Calls.mono (HJ.out _) ?_; rintro e w1 ⟨rfl, rfl⟩)
                    | (go_at_call 71; with_reducible refine Calls.mono (HG.out _) ?_; rintro e w1 ⟨rfl, rfl⟩)
                    | (go_at_call 71; with_reducible refine Calls.mono (HL.out _) ?_; rintro e w1 ⟨rfl, rfl⟩)
                    | (go_at_call 71; with_reducible refine Calls.mono (HN.out _) ?_; rintro e w1 ⟨rfl, rfl⟩))
                  all_goals first | (exfalso; omega) | skip
                  go_ret
                  exact ⟨rfl, bAlloc (Below.refl _ _) _⟩
    · rw [decide_eq_false hn0]
      have hn1 : ¬ (0 : Int) < (n : Int) := by omega
      simp only [Bool.false_and]
      go_enter Try.func54, Try.ntmps54
      go_wp2_with (first
        | (go_at_call 63; with_reducible refine Calls.mono (HA1.out _ (bAlloc (Below.refl _ _) _)) ?_; rintro e w1 ⟨rfl, rfl⟩)
        | (go_at_call 63; with_reducible refine Calls.mono (HA2.out _ (bAlloc (Below.refl _ _) _)) ?_; rintro e w1 ⟨rfl, rfl⟩)
        | (go_at_call 71; with_reducible refine Calls.mono (HJ.out _) ?_; rintro e w1 ⟨rfl, rfl⟩)
        | (go_at_call 71; with_reducible refine Calls.mono (HG.out _) ?_; rintro e w1 ⟨rfl, rfl⟩)
        | (go_at_call 71; with_reducible refine Calls.mono (HL.out _) ?_; rintro e w1 ⟨rfl, rfl⟩)
        | (go_at_call 71; with_reducible refine Calls.mono (HN.out _) ?_; rintro e w1 ⟨rfl, rfl⟩))
      all_goals first | (exfalso; omega) | skip
      go_ret
      exact ⟨rfl, bAlloc (Below.refl _ _) _⟩
set_option maxHeartbeats 1000000 in
theorem Check_any (s : Shp) (va vb : Value) (w : World) (ha : SliceV w va 1 IntAt s.areas) (hb : SliceV w vb 1 IntAt s.branch) :
    Calls Try.prog 18 #[.agg #[va, vb, .int .i64 s.joint, .int .i64 s.glottis, .int .i64 s.lips, .int .i64 s.nose]] w fun e w' => e = .returned (.int .i64 (if shpOk s = true then 0 else 2)) ∧ Below w.heap.size w w' := by
  have H := Lib.hid (fun W (hB : Below w.heap.size w W) => shapeRight_any s va vb W (ha.keep IntAt.stable hB) (hb.keep IntAt.stable hB))
  obtain ⟨al, bl, j, g, li, no⟩ := s
  simp only at H ha hb ⊢
  obtain ⟨a, c, rfl, hl, -⟩ := ha
  obtain ⟨b, d, rfl, hm, -⟩ := hb
  have HAR := Lib.hid (argument_any (shpOk ⟨al, bl, j, g, li, no⟩))
  generalize shpOk _ = ok at *
  generalize (if ok = true then (0 : Int) else 2) = r at *
  go_enter Try.func18, Try.ntmps18
  go_wp2_with (first
    | (go_at_call 54; with_reducible refine Calls.mono (H.out _ (bAlloc (Below.refl _ _) _)) ?_; rintro e w1 ⟨rfl, hb⟩; have HB := Lib.hid hb; clear hb)
    | (go_at_call 54; with_reducible refine Calls.mono (H.out _ (Below.refl _ _)) ?_; rintro e w1 ⟨rfl, hb⟩; have HB := Lib.hid hb; clear hb)
    | (go_at_call 53; with_reducible refine Calls.mono (HAR.out _) ?_; rintro e w1 ⟨rfl, rfl⟩))
  go_ret
  first
    | exact ⟨rfl, HB.out⟩
    | exact ⟨rfl, bThen (bAlloc (Below.refl _ _) _) HB.out⟩
end Go.Proofs.Ytbmbcbknoflpgaa
