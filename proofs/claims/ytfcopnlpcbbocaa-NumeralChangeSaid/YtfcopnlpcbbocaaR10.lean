/- Contracts: where the words of two systems are different. -/
import Derived.Test.YtfcopnlpcbbocaaR7
set_option linter.unusedSimpArgs false
set_option linter.unusedVariables false
namespace Go.Proofs.Ytfcopnlpcbbocaa
open Go.RowKit

set_option maxRecDepth 100000 in
set_option maxHeartbeats 4000000 in
theorem differ1_any (S T : Sys) (a : Ask) (n : Int) (bs ba bt sb tb : Nat) (W : World) (hS : Right S) (ha : AskRight S (numb a n)) (hs0 : SplAt W sb S) (hT : Right T) (hta : AskRight T (numb a n)) (ht0 : SplAt W tb T)
    (hcs : W.cell? ⟨bs, 0, none⟩ = some (.pointer (some ⟨sb, 0, none⟩))) (hca : AskAt W ba 0 a) (hct : W.cell? ⟨bt, 0, none⟩ = some (.pointer (some ⟨tb, 0, none⟩))) :
    Calls Try.prog 61 #[.int .i64 n, .pointer (some ⟨bs, 0, none⟩), .pointer (some ⟨ba, 0, none⟩), .pointer (some ⟨bt, 0, none⟩)] W fun e w' => e = .returned (.bool (decide (wordsOf S (numb a n) ≠ wordsOf T (numb a n)))) ∧ Below W.heap.size W w' := by
  have HS := Lib.hid hS
  have HA := Lib.hid ha
  have HSP := Lib.hid hs0
  have HT := Lib.hid hT
  have HTA := Lib.hid hta
  have HTP := Lib.hid ht0
  obtain ⟨a0, a1, a2, a3⟩ := hca
  simp only [Nat.zero_add] at a1 a2 a3
  have hbs := cell_lt hcs
  have hbt := cell_lt hct
  have hba := cell_lt a0
  clear hS ha hs0 hT hta ht0
  have h57 : ∀ W', Calls Try.prog 57 #[.agg #[.int .i64 a.num, .int .i64 a.set, .int .i64 a.gen, .int .i64 a.kas], .int .i64 n] W' fun e w' => e = .returned (.agg #[.int .i64 n, .int .i64 a.set, .int .i64 a.gen, .int .i64 a.kas]) ∧ Below W'.heap.size W' w' := fun W' => numbered_any a n W'
  have h48 : ∀ W', Below W.heap.size W W' → Calls Try.prog 48 #[.pointer (some ⟨sb, 0, none⟩), .agg #[.int .i64 n, .int .i64 a.set, .int .i64 a.gen, .int .i64 a.kas]] W' fun e w' => Spelled S (numb a n) e w' ∧ Below W'.heap.size W' w' := fun W' hB => spell_any S (numb a n) sb W' HS.out HA.out (HSP.out.keep hB)
  have HK1 : ∀ W', Below W.heap.size W W' → (W'.cell? ⟨bs, 0, none⟩ = some (.pointer (some ⟨sb, 0, none⟩)) ∧ W'.cell? ⟨ba, 0, none⟩ = some (.int .i64 a.num) ∧ W'.cell? ⟨ba, 1, none⟩ = some (.int .i64 a.set) ∧ W'.cell? ⟨ba, 2, none⟩ = some (.int .i64 a.gen) ∧ W'.cell? ⟨ba, 3, none⟩ = some (.int .i64 a.kas)) :=
    fun W' hB => ⟨keep hB hcs, keep hB a0, keep hB a1, keep hB a2, keep hB a3⟩
  have H57 := Lib.hid h57
  have H48 := Lib.hid h48
  have HK4 := Lib.hid HK1
  clear h57 h48 HK1
  go_enter Try.func61, Try.ntmps61
  go_wp2_with fail
  refine wp_opaque fun Q2 hQ2 => ?_
  go_region_held3 (fun W' => (W'.cell? ⟨bs, 0, none⟩ = some (.pointer (some ⟨sb, 0, none⟩)) ∧ W'.cell? ⟨ba, 0, none⟩ = some (.int .i64 a.num) ∧ W'.cell? ⟨ba, 1, none⟩ = some (.int .i64 a.set) ∧ W'.cell? ⟨ba, 2, none⟩ = some (.int .i64 a.gen) ∧ W'.cell? ⟨ba, 3, none⟩ = some (.int .i64 a.kas))) (((try dsimp only); exact HK4.out _ (by (repeat (first | exact Below.refl _ _ | refine Below.drew ?_ | refine bThen ?_ hb4 | refine bThen ?_ hb3))))) (first | (go_at_call 57; refine (H57.out _).mono ?_; rintro e w3 ⟨rfl, hb3⟩) | (go_at_call 48; refine (H48.out _ (by (repeat (first | exact Below.refl _ _ | refine Below.drew ?_ | refine bThen ?_ hb3)))).mono ?_; rintro e w4 ⟨hsp, hb4⟩; obtain ⟨ad, k, c, t, rfl, hq⟩ := hsp.shape; clear hsp; have HQ := Lib.hid hq; clear hq))
  have HBF4 : Below W.heap.size W w4 := by (repeat (first | exact Below.refl _ _ | refine Below.drew ?_ | refine bThen ?_ hb4 | refine bThen ?_ hb3))
  refine hQ2 _ _ _ ?_
  clear hQ2 Q2
  replace hct := keep HBF4 hct
  replace a0 := keep HBF4 a0
  replace a1 := keep HBF4 a1
  replace a2 := keep HBF4 a2
  replace a3 := keep HBF4 a3
  have h48 : ∀ W', Below w4.heap.size w4 W' → Calls Try.prog 48 #[.pointer (some ⟨tb, 0, none⟩), .agg #[.int .i64 n, .int .i64 a.set, .int .i64 a.gen, .int .i64 a.kas]] W' fun e w' => Spelled T (numb a n) e w' ∧ Below W'.heap.size W' w' := fun W' hB => spell_any T (numb a n) tb W' HT.out HTA.out (HTP.out.keep (bThen HBF4 hB))
  have HK1 : ∀ W', Below w4.heap.size w4 W' → (W'.cell? ⟨bt, 0, none⟩ = some (.pointer (some ⟨tb, 0, none⟩)) ∧ W'.cell? ⟨ba, 0, none⟩ = some (.int .i64 a.num) ∧ W'.cell? ⟨ba, 1, none⟩ = some (.int .i64 a.set) ∧ W'.cell? ⟨ba, 2, none⟩ = some (.int .i64 a.gen) ∧ W'.cell? ⟨ba, 3, none⟩ = some (.int .i64 a.kas)) :=
    fun W' hB => ⟨keep hB hct, keep hB a0, keep hB a1, keep hB a2, keep hB a3⟩
  have H482 := Lib.hid h48
  have HK6 := Lib.hid HK1
  have HB4 := Lib.hid HBF4
  clear h48 HK1 HBF4 hcs
  have hbt := cell_lt hct
  have hba := cell_lt a0
  go_wp2_with fail
  refine wp_opaque fun Q2 hQ2 => ?_
  go_region_held3 (fun W' => (W'.cell? ⟨bt, 0, none⟩ = some (.pointer (some ⟨tb, 0, none⟩)) ∧ W'.cell? ⟨ba, 0, none⟩ = some (.int .i64 a.num) ∧ W'.cell? ⟨ba, 1, none⟩ = some (.int .i64 a.set) ∧ W'.cell? ⟨ba, 2, none⟩ = some (.int .i64 a.gen) ∧ W'.cell? ⟨ba, 3, none⟩ = some (.int .i64 a.kas))) (((try dsimp only); exact HK6.out _ (by (repeat (first | exact Below.refl _ _ | refine Below.drew ?_ | refine bThen ?_ hb6 | refine bThen ?_ hb5))))) (first | (go_at_call 57; refine (H57.out _).mono ?_; rintro e w5 ⟨rfl, hb5⟩) | (go_at_call 48; refine (H482.out _ (by (repeat (first | exact Below.refl _ _ | refine Below.drew ?_ | refine bThen ?_ hb5)))).mono ?_; rintro e w6 ⟨hsp, hb6⟩; obtain ⟨ad2, k2, c2, t2, rfl, hq⟩ := hsp.shape; clear hsp; have HQ2 := Lib.hid hq; clear hq))
  have HBF6 : Below w4.heap.size w4 w6 := by (repeat (first | exact Below.refl _ _ | refine Below.drew ?_ | refine bThen ?_ hb6 | refine bThen ?_ hb5))
  refine hQ2 _ _ _ ?_
  clear hQ2 Q2
  have HB6 := Lib.hid (bThen HB4.out HBF6)
  have HBF := Lib.hid HBF6
  clear HBF6
  cases t
  · have hq := HQ.out.resolve_left (fun h => by cases h.1)
    obtain ⟨-, hw1, hv1⟩ := hq
    obtain ⟨rfl, rfl, rfl⟩ : ad = none ∧ k = 0 ∧ c = 0 := by simpa using hv1
    have HW1 := Lib.hid hw1
    clear hv1 hw1
    cases t2
    · have hq := HQ2.out.resolve_left (fun h => by cases h.1)
      obtain ⟨-, hw2, hv2⟩ := hq
      obtain ⟨rfl, rfl, rfl⟩ : ad2 = none ∧ k2 = 0 ∧ c2 = 0 := by simpa using hv2
      have HW2 := Lib.hid hw2
      clear hv2 hw2
      have hnil : ∀ w : World, SliceV w (.slice none 0 0) 1 StrAt [] := fun w => ⟨none, 0, rfl, by simp, .inl rfl⟩
      have HN := Lib.hid hnil
      clear hnil
      go_wp2_with (go_at_call 58; refine (isB (Equal_any [] [] _ _ _ (HN.out _) (HN.out _)) (show _ = true by simp)).mono ?_; rintro e w7 ⟨rfl, hb7⟩)
      go_ret
      exact ⟨ret_bool (by rw [HW1.out, HW2.out]; simp), bThen HB6.out hb7⟩
    · obtain ⟨-, ys, hy1, hy2⟩ := HQ2.out.resolve_right (fun h => by cases h.1)
      have HW2 := Lib.hid hy1
      clear hy1 hy2
      go_wp2_with fail
      go_ret
      exact ⟨ret_bool (by rw [HW1.out, HW2.out]; simp), HB6.out⟩
  · obtain ⟨-, xs, hx1, hx2⟩ := HQ.out.resolve_right (fun h => by cases h.1)
    have HW1 := Lib.hid hx1
    have HX := Lib.hid (hx2.keep StrAt.stable HBF.out)
    obtain rfl := hx2.len
    clear hx1 hx2
    cases t2
    · have hq := HQ2.out.resolve_left (fun h => by cases h.1)
      obtain ⟨-, hw2, hv2⟩ := hq
      have HW2 := Lib.hid hw2
      clear hv2 hw2
      go_wp2_with fail
      go_ret
      exact ⟨ret_bool (by rw [HW1.out, HW2.out]; simp), HB6.out⟩
    · obtain ⟨-, ys, hy1, hy2⟩ := HQ2.out.resolve_right (fun h => by cases h.1)
      have HW2 := Lib.hid hy1
      have HY := Lib.hid hy2
      obtain rfl := hy2.len
      clear hy1 hy2
      cases he : decide (xs = ys)
      all_goals
        have HE := Lib.hid he
        clear he
        go_wp2_with (go_at_call 58; refine (isB (Equal_any xs ys _ _ _ HX.out HY.out) HE.out).mono ?_; rintro e w7 ⟨rfl, hb7⟩)
        go_ret
        exact ⟨ret_bool (by rw [HW1.out, HW2.out]; have := HE.out; simp at this; simp [this]), bThen HB6.out hb7⟩
end Go.Proofs.Ytfcopnlpcbbocaa
