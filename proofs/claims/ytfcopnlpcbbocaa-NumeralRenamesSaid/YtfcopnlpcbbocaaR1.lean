/- Contracts of the specification's checks of asks, and of the error that is wanted. -/
import Derived.Test.YtfcopnlpcbbocaaI5
namespace Go.Proofs.Ytfcopnlpcbbocaa
open Go.RowKit

def askIn (S : Sys) (a : Ask) : Bool := decide (0 ≤ a.num) && decide (a.num ≤ S.top) && decide (0 ≤ a.set) && decide (a.set < S.sets.length) && decide (0 ≤ a.gen) && decide (a.gen < S.genders) && decide (0 ≤ a.kas) && decide (a.kas < S.cases)
theorem askOk_in (S : Sys) (a : Ask) : askOk S a = (sysOk S && askIn S a) := by
  simp only [askOk, askIn, betw, exst, Bool.and_assoc]
set_option maxRecDepth 100000 in
set_option maxHeartbeats 4000000 in
theorem Right_any (S : Sys) (a : Ask) (vt vp vs : Value) (w : World) (hp : SysParts w vt vp vs S) :
    Calls Try.prog 50 #[sysVal S vt vp vs, a.val] w fun e w' => e = .returned (.bool (askIn S a)) ∧ Below w.heap.size w w' := by
  obtain ⟨⟨at_, ct, rfl, -⟩, ⟨ap, cp, rfl, -⟩, ⟨as_, cs, rfl, hsl, -⟩⟩ := hp
  unfold most at hsl
  unfold sysVal Ask.val
  by_cases g1 : ¬ (0 ≤ a.num)
  · have HR : Hid (askIn S a = false) := Lib.hid (Bool.eq_false_iff.2 fun hz => by simp only [askIn, Bool.and_eq_true, decide_eq_true_eq] at hz; omega)
    go_enter Try.func50, Try.ntmps50
    go_wp2_with fail
    go_ret
    exact ⟨ret_bool HR.out.symm, bAlloc (bAlloc (Below.refl _ _) _) _⟩
  have g1 := Decidable.not_not.1 g1
  by_cases g2 : ¬ (a.num ≤ S.top)
  · have HR : Hid (askIn S a = false) := Lib.hid (Bool.eq_false_iff.2 fun hz => by simp only [askIn, Bool.and_eq_true, decide_eq_true_eq] at hz; omega)
    go_enter Try.func50, Try.ntmps50
    go_wp2_with fail
    go_ret
    exact ⟨ret_bool HR.out.symm, bAlloc (bAlloc (Below.refl _ _) _) _⟩
  have g2 := Decidable.not_not.1 g2
  by_cases g3 : ¬ (0 ≤ a.set)
  · have HR : Hid (askIn S a = false) := Lib.hid (Bool.eq_false_iff.2 fun hz => by simp only [askIn, Bool.and_eq_true, decide_eq_true_eq] at hz; omega)
    go_enter Try.func50, Try.ntmps50
    go_wp2_with fail
    go_ret
    exact ⟨ret_bool HR.out.symm, bAlloc (bAlloc (Below.refl _ _) _) _⟩
  have g3 := Decidable.not_not.1 g3
  by_cases g4 : ¬ (a.set < S.sets.length)
  · have HR : Hid (askIn S a = false) := Lib.hid (Bool.eq_false_iff.2 fun hz => by simp only [askIn, Bool.and_eq_true, decide_eq_true_eq] at hz; omega)
    go_enter Try.func50, Try.ntmps50
    go_wp2_with fail
    go_ret
    exact ⟨ret_bool HR.out.symm, bAlloc (bAlloc (Below.refl _ _) _) _⟩
  have g4 := Decidable.not_not.1 g4
  by_cases g5 : ¬ (0 ≤ a.gen)
  · have HR : Hid (askIn S a = false) := Lib.hid (Bool.eq_false_iff.2 fun hz => by simp only [askIn, Bool.and_eq_true, decide_eq_true_eq] at hz; omega)
    go_enter Try.func50, Try.ntmps50
    go_wp2_with fail
    go_ret
    exact ⟨ret_bool HR.out.symm, bAlloc (bAlloc (Below.refl _ _) _) _⟩
  have g5 := Decidable.not_not.1 g5
  by_cases g6 : ¬ (a.gen < S.genders)
  · have HR : Hid (askIn S a = false) := Lib.hid (Bool.eq_false_iff.2 fun hz => by simp only [askIn, Bool.and_eq_true, decide_eq_true_eq] at hz; omega)
    go_enter Try.func50, Try.ntmps50
    go_wp2_with fail
    go_ret
    exact ⟨ret_bool HR.out.symm, bAlloc (bAlloc (Below.refl _ _) _) _⟩
  have g6 := Decidable.not_not.1 g6
  by_cases g7 : ¬ (0 ≤ a.kas)
  · have HR : Hid (askIn S a = false) := Lib.hid (Bool.eq_false_iff.2 fun hz => by simp only [askIn, Bool.and_eq_true, decide_eq_true_eq] at hz; omega)
    go_enter Try.func50, Try.ntmps50
    go_wp2_with fail
    go_ret
    exact ⟨ret_bool HR.out.symm, bAlloc (bAlloc (Below.refl _ _) _) _⟩
  have g7 := Decidable.not_not.1 g7
  by_cases g8 : ¬ (a.kas < S.cases)
  · have HR : Hid (askIn S a = false) := Lib.hid (Bool.eq_false_iff.2 fun hz => by simp only [askIn, Bool.and_eq_true, decide_eq_true_eq] at hz; omega)
    go_enter Try.func50, Try.ntmps50
    go_wp2_with fail
    go_ret
    exact ⟨ret_bool HR.out.symm, bAlloc (bAlloc (Below.refl _ _) _) _⟩
  have g8 := Decidable.not_not.1 g8
  have HR : Hid (askIn S a = true) := Lib.hid (by simp only [askIn, Bool.and_eq_true, decide_eq_true_eq]; omega)
  go_enter Try.func50, Try.ntmps50
  go_wp2_with fail
  go_ret
  exact ⟨ret_bool HR.out.symm, bAlloc (bAlloc (Below.refl _ _) _) _⟩

/-- The error that is wanted. -/
def refErr (S : Sys) (a : Ask) (scan : Bool) : Int := if askOk S a then (if scan = true ∧ 20000 < a.num then 4 else 0) else 2
set_option maxRecDepth 100000 in
set_option maxHeartbeats 4000000 in
theorem refused_any (S : Sys) (a : Ask) (scan : Bool) (vt vp vs : Value) (w : World) (hp : SysParts w vt vp vs S) :
    Calls Try.prog 22 #[sysVal S vt vp vs, a.val, .bool scan] w fun e w' => e = .returned (.int .i64 (refErr S a scan)) ∧ Below w.heap.size w w' := by
  have HP := Lib.hid hp
  obtain ⟨⟨at_, ct, rfl, -⟩, ⟨ap, cp, rfl, -⟩, ⟨as_, cs, rfl, -⟩⟩ := hp
  have HSV := Lib.hid (sysVal_eq S (.slice at_ S.terms.length ct) (.slice ap S.plurals.length cp) (.slice as_ S.sets.length cs))
  unfold sysVal Ask.val
  have h50 : ∀ W', SysParts W' (.slice at_ S.terms.length ct) (.slice ap S.plurals.length cp) (.slice as_ S.sets.length cs) S → Calls Try.prog 50 #[.agg #[.int .i64 S.top, .int .i64 S.genders, .int .i64 S.cases, .int .i64 S.classes, .slice at_ S.terms.length ct, .slice ap S.plurals.length cp, .slice as_ S.sets.length cs], .agg #[.int .i64 a.num, .int .i64 a.set, .int .i64 a.gen, .int .i64 a.kas]] W' fun e w' => e = .returned (.bool (askIn S a)) ∧ Below W'.heap.size W' w' := fun W' h => Right_any S a _ _ _ W' h
  have H50 := Lib.hid h50
  clear h50
  cases g1 : sysOk S
  all_goals
    cases g2 : askIn S a
  all_goals
    cases scan
  all_goals
    by_cases g3 : 20000 < a.num
  all_goals
    have G1 := Lib.hid g1
    have G2 := Lib.hid g2
    have G3 := Lib.hid g3
    have HOK := Lib.hid (askOk_in S a)
    clear g1 g2
    go_enter Try.func22, Try.ntmps22
    go_wp2_with fail
    generalize hW : World.alloc (World.alloc w _) _ = W1
    have hB1 : Below w.heap.size w W1 := by rw [← hW]; exact bAlloc (bAlloc (Below.refl _ _) _) _
    have a0 : W1.cell? ⟨w.heap.size + 1, 0, none⟩ = some (.int .i64 a.num) := by rw [← hW]; simp
    have a1 : W1.cell? ⟨w.heap.size + 1, 1, none⟩ = some (.int .i64 a.set) := by rw [← hW]; simp
    have a2 : W1.cell? ⟨w.heap.size + 1, 2, none⟩ = some (.int .i64 a.gen) := by rw [← hW]; simp
    have a3 : W1.cell? ⟨w.heap.size + 1, 3, none⟩ = some (.int .i64 a.kas) := by rw [← hW]; simp
    have s0 : W1.cell? ⟨w.heap.size, 0, none⟩ = some (.int .i64 S.top) := by rw [← hW]; exact keep (bAlloc (Below.refl _ _) _) (cell_new rfl)
    have s1 : W1.cell? ⟨w.heap.size, 1, none⟩ = some (.int .i64 S.genders) := by rw [← hW]; exact keep (bAlloc (Below.refl _ _) _) (cell_new rfl)
    have s2 : W1.cell? ⟨w.heap.size, 2, none⟩ = some (.int .i64 S.cases) := by rw [← hW]; exact keep (bAlloc (Below.refl _ _) _) (cell_new rfl)
    have s3 : W1.cell? ⟨w.heap.size, 3, none⟩ = some (.int .i64 S.classes) := by rw [← hW]; exact keep (bAlloc (Below.refl _ _) _) (cell_new rfl)
    have s4 : W1.cell? ⟨w.heap.size, 4, none⟩ = some (.slice at_ S.terms.length ct) := by rw [← hW]; exact keep (bAlloc (Below.refl _ _) _) (cell_new rfl)
    have s5 : W1.cell? ⟨w.heap.size, 5, none⟩ = some (.slice ap S.plurals.length cp) := by rw [← hW]; exact keep (bAlloc (Below.refl _ _) _) (cell_new rfl)
    have s6 : W1.cell? ⟨w.heap.size, 6, none⟩ = some (.slice as_ S.sets.length cs) := by rw [← hW]; exact keep (bAlloc (Below.refl _ _) _) (cell_new rfl)
    have hal := cell_lt a0
    have hsl := cell_lt s0
    have HPn := Lib.hid (HP.out.keep hB1)
    have HB := Lib.hid hB1
    clear hW hB1
    go_wp2_with (first
      | (go_at_call 17; rw [HSV.out]; refine (isB (Valid_any S _ _ _ _ HPn.out) G1.out).mono ?_; rintro e w1 ⟨rfl, hb⟩; have s0 := keep hb s0; have s1 := keep hb s1; have s2 := keep hb s2; have s3 := keep hb s3; have s4 := keep hb s4; have s5 := keep hb s5; have s6 := keep hb s6; have a0 := keep hb a0; have a1 := keep hb a1; have a2 := keep hb a2; have a3 := keep hb a3; have hal := cell_lt a0; have hsl := cell_lt s0; have HPn := Lib.hid (HPn.out.keep hb); have HB := Lib.hid (bThen HB.out hb); clear hb)
      | (go_at_call 50; refine (isB (H50.out _ HPn.out) G2.out).mono ?_; rintro e w1 ⟨rfl, hb⟩; have s0 := keep hb s0; have s1 := keep hb s1; have s2 := keep hb s2; have s3 := keep hb s3; have s4 := keep hb s4; have s5 := keep hb s5; have s6 := keep hb s6; have a0 := keep hb a0; have a1 := keep hb a1; have a2 := keep hb a2; have a3 := keep hb a3; have hal := cell_lt a0; have hsl := cell_lt s0; have HPn := Lib.hid (HPn.out.keep hb); have HB := Lib.hid (bThen HB.out hb); clear hb))
    all_goals
      go_ret
      exact ⟨ret_int (by have h1 := G1.out; have h2 := G2.out; have h3 := HOK.out; have h4 := G3.out; rw [h1, h2] at h3; simp [refErr, h3]; try omega), HB.out⟩
end Go.Proofs.Ytfcopnlpcbbocaa
