/- Contracts of the specification's checks: terms. -/
import Derived.Test.YtfcopnlpcbbocaaI1
namespace Go.Proofs.Ytfcopnlpcbbocaa
open Go.RowKit

set_option maxRecDepth 100000 in
set_option maxHeartbeats 2000000 in
theorem term_any (S : Sys) (t : Term) (vt vp vs fv : Value) (w : World) (hp : SysParts w vt vp vs S) (hv : SliceV w fv 4 FormAt t.forms) (h1 : 0 ≤ S.genders) (h2 : 0 ≤ S.cases) (h3 : 0 ≤ S.classes) :
    Calls Try.prog 45 #[sysVal S vt vp vs, .agg #[.int .i64 t.gen, fv]] w fun e w' => e = .returned (.bool (termOk S t)) ∧ Below w.heap.size w w' := by
  obtain ⟨⟨at_, ct, rfl, -⟩, ⟨ap, cp, rfl, -⟩, ⟨as_, cs, rfl, -⟩⟩ := hp
  obtain ⟨fa, fc, rfl, hfl, hx⟩ := hv
  unfold most at hfl
  unfold sysVal
  have HE : Hid (∀ b : Bool, exst t.gen S.genders = true → t.forms.length ≤ 60 → t.forms.all (formOk S) = b → termOk S t = b) := Lib.hid fun b h h' h'' => by simp [termOk, h, h', h'']
  by_cases hg : exst t.gen S.genders = true ∧ t.forms.length ≤ 60
  · obtain ⟨hg1, hg2⟩ := hg
    have HG := Lib.hid hg1
    simp only [exst, Bool.and_eq_true, decide_eq_true_eq] at hg1
    obtain ⟨hg3, hg4⟩ := hg1
    have hg5 : (t.forms.length : Int) ≤ 60 := by omega
    go_enter Try.func45, Try.ntmps45
    go_wp2_with fail
    generalize hW : World.alloc (World.alloc w _) _ = W1
    have hB1 : Below w.heap.size w W1 := by rw [← hW]; exact bAlloc (bAlloc (Below.refl _ _) _) _
    have s1 : W1.cell? ⟨w.heap.size, 1, none⟩ = some (.int .i64 S.genders) := by rw [← hW]; simp
    have s2 : W1.cell? ⟨w.heap.size, 2, none⟩ = some (.int .i64 S.cases) := by rw [← hW]; simp
    have s3 : W1.cell? ⟨w.heap.size, 3, none⟩ = some (.int .i64 S.classes) := by rw [← hW]; simp
    have t1 : W1.cell? ⟨w.heap.size + 1, 1, none⟩ = some (.slice fa t.forms.length fc) := by rw [← hW]; simp
    clear hW
    go_loopw [5] (fun i wr => ∃ k : Nat, k ≤ t.forms.length ∧ i = .int .i64 k ∧ Hid ((t.forms.take k).all (formOk S) = true) ∧ Below W1.heap.size W1 wr) (fun i _ => t.forms.length - (intOf i).toNat)
    case atStart => exact ⟨0, Nat.zero_le _, rfl, Lib.hid (by simp), Below.refl _ _⟩
    case round =>
      obtain ⟨k, hk, rfl, HA, hB⟩ := hrel
      have t1 := keep hB t1
      have htl := cell_lt t1
      by_cases hlt : k < t.forms.length
      · rcases hx with hnil | ⟨fb, fo, rfl, hf⟩
        · simp [hnil] at hlt
        have HT := Lib.hid (all_take_succ' (formOk S) t.forms k hlt)
        have HN := Lib.hid (all_false' (formOk S) t.forms k hlt)
        obtain ⟨f0, f1, f2, f3, f4⟩ := FormAt.stable _ _ _ _ _ (bThen hB1 hB) (hf k hlt)
        have hfb := cell_lt f0
        have s1 := keep hB s1
        have s2 := keep hB s2
        have s3 := keep hB s3
        have hsl := cell_lt s1
        clear hf
        generalize t.forms[k] = f at *
        have HFO : Hid (formOk S f = (feat f.gen S.genders && feat f.kas S.cases && feat f.cls S.classes && textOk f.txt)) := Lib.hid (by rw [feat_or _ _ h1, feat_or _ _ h2, feat_or _ _ h3]; rfl)
        go_wp2_with (first | (go_at_call 76; refine (feature_any _ _ _).mono ?_; rintro e w' ⟨rfl, rfl⟩) | (go_at_call 77; refine (text_ok_any _ _ f4).mono ?_; rintro e w' ⟨rfl, rfl⟩))
        all_goals first
          | (go_ret; exact ⟨ret_bool (HE.out false HG.out hg2 (HN.out (by rw [HFO.out]; simp_all))).symm, bThen hB1 (bAlloc hB _)⟩)
          | (go_roundw
             case rel => exact ⟨k + 1, by omega, by go_num, Lib.hid (by rw [HT.out, HA.out, HFO.out]; simp_all), bAlloc hB _⟩
             case measure => simp [intOf]; omega)
      · obtain rfl : k = t.forms.length := by omega
        go_wp2_with fail
        go_ret
        exact ⟨ret_bool (HE.out true HG.out hg2 (by have := HA.out; rwa [List.take_length] at this)).symm, bThen hB1 hB⟩
  · have HR : Hid (termOk S t = false) := Lib.hid (by
      unfold termOk
      cases ha : exst t.gen S.genders
      · simp
      · have : ¬ t.forms.length ≤ 60 := fun h => hg ⟨ha, h⟩
        simp [this])
    by_cases hg3 : t.gen < 0
    · go_enter Try.func45, Try.ntmps45
      go_wp2_with fail
      go_ret
      exact ⟨ret_bool HR.out.symm, bAlloc (bAlloc (Below.refl _ _) _) _⟩
    by_cases hg4 : S.genders ≤ t.gen
    · go_enter Try.func45, Try.ntmps45
      go_wp2_with fail
      go_ret
      exact ⟨ret_bool HR.out.symm, bAlloc (bAlloc (Below.refl _ _) _) _⟩
    have hg5 : 60 < (t.forms.length : Int) := by
      by_cases h60 : t.forms.length ≤ 60
      · exact absurd ⟨by simp [exst]; omega, h60⟩ hg
      · omega
    go_enter Try.func45, Try.ntmps45
    go_wp2_with fail
    go_ret
    exact ⟨ret_bool HR.out.symm, bAlloc (bAlloc (Below.refl _ _) _) _⟩
end Go.Proofs.Ytfcopnlpcbbocaa
