/- Contracts: Sing. -/
import Derived.Test.YtejcbcjhmnhefabDoorF2
set_option linter.unusedSimpArgs false
set_option linter.unusedVariables false
namespace Go.Proofs.YtejcbcjhmnhefabDoor
open Go.RowKit

theorem vals_slice {W : World} {base : Nat} {v : Value} {l : List Int} (h : W.ownsRow base 3 1 v l.length (intV l)) (hl : l.length ≤ 1000000) : SliceV W v 1 IntAt l := by
  unfold intV at h
  by_cases h0 : 0 < l.length
  · obtain ⟨g, cap, rfl, hc⟩ := row_cell h h0
    refine ⟨_, cap, rfl, by unfold most; omega, .inr ⟨g, 0, rfl, fun i hi => ?_⟩⟩
    refine hc (0 + i * 1) _ ?_
    simp [hi]
  · have : l = [] := by cases l; rfl; simp at h0
    subst this
    obtain ⟨ad, cap, rfl⟩ := ownsRow_slice h
    exact ⟨_, cap, rfl, by simp, .inl rfl⟩
/-- What Sing hands back. -/
def SingPost (l : List Note) (e : Ending) (w' : World) : Prop :=
  (notesOk l = false ∧ e = .returned (.tuple #[.slice none 0 0, .int .i64 2])) ∨
    (notesOk l = true ∧ ∃ ad c, e = .returned (.tuple #[.slice ad (singTo l l.length).length c, .int .i64 0]) ∧ SliceV w' (.slice ad (singTo l l.length).length c) 1 IntAt (singTo l l.length))
theorem notesOk_all {l : List Note} (h : notesOk l = true) : l.length ≤ 100 ∧ (∀ x ∈ l, noteOk x = true) ∧ lenSum l l.length ≤ 4000 := by
  simp only [notesOk, Bool.and_eq_true, decide_eq_true_eq] at h
  refine ⟨by omega, fun x hx => ?_, h.2⟩
  have h2 := h.1.2
  simp only [Bool.not_eq_true', List.any_eq_false] at h2
  simpa using h2 x hx
set_option maxHeartbeats 1000000 in
theorem Sing_any (l : List Note) (v : Value) (w : World) (hv : SliceV w v 6 NoteAt l) :
    Calls Tryd.prog 6 #[v] w fun e w' => SingPost l e w' ∧ Below w.heap.size w w' := by
  have HR := Lib.hid (notesRight_any l v w hv)
  have HV := Lib.hid hv
  obtain ⟨a, c, rfl, hl, -⟩ := hv
  cases hok : notesOk l
  · rw [hok] at HR
    go_enter Tryd.func6, Tryd.ntmps6
    go_wp2_with (go_at_call 14; refine HR.out.mono ?_; rintro e w1 ⟨rfl, hb⟩)
    go_ret2
    exact ⟨.inl ⟨hok, rfl⟩, hb⟩
  · rw [hok] at HR
    obtain ⟨h1, h2, -⟩ := notesOk_all hok
    have h65 : ∀ W, Below w.heap.size w W → Calls Tryd.prog 15 #[.slice a l.length c] W fun e w' => (∃ ad cc, e = .returned (.slice ad (singTo l l.length).length cc) ∧ SliceV w' (.slice ad (singTo l l.length).length cc) 1 IntAt (singTo l l.length)) ∧ Below W.heap.size W w' := fun W hB => (sing_any l _ W (HV.out.keep NoteAt.stable hB) h2 h1).mono (by
      rintro e w' ⟨⟨u, rfl, hu⟩, hb⟩
      obtain ⟨ad, cc, rfl⟩ := ownsRow_slice hu
      exact ⟨⟨ad, cc, rfl, vals_slice hu (by have := singTo_len h2 l.length (Nat.le_refl _); omega)⟩, hb⟩)
    have H65 := Lib.hid h65
    clear h65
    go_enter Tryd.func6, Tryd.ntmps6
    go_wp2_with (first
      | (go_at_call 14; refine HR.out.mono ?_; rintro e w1 ⟨rfl, hb⟩)
      | (go_at_call 15; refine (H65.out _ hb).mono ?_; rintro e w2 ⟨⟨ad, cc, rfl, hs⟩, hb2⟩; have HS := Lib.hid hs; have HB2 := Lib.hid hb2; clear hs hb2))
    go_ret2
    exact ⟨.inr ⟨hok, ad, cc, rfl, HS.out⟩, bThen hb HB2.out⟩
end Go.Proofs.YtejcbcjhmnhefabDoor
