/- Contracts: a copy of a wave. -/
import Derived.Lib.SliceRun
import Derived.Test.YtbeeddenidfenaaC2
import Derived.Test.YtbeeddenidfenaaC3
set_option linter.unusedSimpArgs false
set_option linter.unusedVariables false
namespace Go.Proofs.Ytbeeddenidfenaa
open Go.RowKit

set_option maxRecDepth 10000 in
set_option maxHeartbeats 4000000 in
theorem CloneI_any (l : List Int) (v : Value) (w : World) (hv : SliceV w v 1 IntAt l) (hn : l.length ≤ 100000) :
    Calls Try.prog 68 #[v] w fun e w' => (∃ r, e = .returned r ∧ SliceV w' r 1 IntAt l ∧ ∀ g, r.ownBlock = some g → w.heap.size ≤ g ∧ g < w'.heap.size) ∧ Below w.heap.size w w' := by
  have HV := Lib.hid hv
  have HS : Hid (∀ ad n c, v = .slice ad n c → SrcI w ad l) := Lib.hid (fun ad n c h => by rw [h] at hv; exact src_of hv)
  obtain ⟨ad, c, rfl, hl, hx⟩ := hv
  cases ad with
  | none =>
    have h0 : l = [] := by
      rcases hx with h | ⟨b, o, h, -⟩
      · exact h
      · cases h
    subst h0
    clear hx
    have q := Lib.run_eql_slice_nil (P := Try.prog) w 22 3 none 0 c 0 0 Try.underlying22
    simp only [Option.isNone_none, Option.isNone_some] at q
    simp only [List.length_nil] at *
    go_enter Try.func68, Try.ntmps68
    go_wp2_with fail

    go_ret
    exact ⟨⟨_, rfl, ⟨none, 0, rfl, ⟨Nat.zero_le _, Nat.zero_le _⟩, .inl rfl⟩, fun g h => by cases h⟩, Below.refl _ _⟩
  | some a =>
    clear hx
    have HSRC := Lib.hid (HS.out _ _ _ rfl)
    have HL : Hid (l.length = l.length) := Lib.hid rfl
    obtain ⟨m, hm⟩ : ∃ m, l.length = m := ⟨_, rfl⟩
    have HM := Lib.hid hm
    rw [hm] at hn hl HV ⊢
    clear hm HS HL
    have q := Lib.run_eql_slice_nil (P := Try.prog) w 22 3 (some a) m c 0 0 Try.underlying22
    simp only [Option.isNone_none, Option.isNone_some] at q
    go_enter Try.func68, Try.ntmps68
    have hlit : (w.alloc (.cells #[] 3)).ownsRow w.heap.size 3 1 (.slice (some ⟨w.heap.size, 0, none⟩) 0 0) 0 (intV []) := World.ownsRow_lit w #[] 0 (Nat.le_refl _) (by decide) (by rfl)
    have HL := Lib.hid hlit
    clear hlit
    have HSR2 : Hid (SrcI (w.alloc (.cells #[] 3)) (some a) l) := Lib.hid (src_of (HV.out.keep IntAt.stable (bAlloc (Below.refl _ _) _)))
    go_wp2_with (at_builtin; refine wpList_append_ints rfl _ _ rfl w.heap.size (.slice (some ⟨w.heap.size, 0, none⟩) 0 0) 0 [] (by rfl) HL.out (some a) m c l (by rfl) HM.out HSR2.out (by omega) (by simp) ?_; intro v1 w1 hown1 hb1)
    have HO1 : Hid (w1.ownsRow w.heap.size 3 1 v1 l.length (intV l)) := Lib.hid (by rw [HM.out]; simpa using hown1)
    have HB1 := Lib.hid ((bAlloc (Below.refl w.heap.size w) _).trans hb1)
    obtain ⟨ad1, cap1, rfl⟩ := ownsRow_slice hown1
    clear hown1 hb1
    go_ret
    refine ⟨⟨_, rfl, own_slice HO1.out (by rw [HM.out]; omega), fun g h => HO1.out.lt g h⟩, HB1.out⟩
end Go.Proofs.Ytbeeddenidfenaa
