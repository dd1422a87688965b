/- Contracts: a clone as a row of one's own; the fold of softening. -/
import Derived.Test.YtbeeddenidfenaaH1
import Derived.Test.YtbeeddenidfenaaD1
set_option linter.unusedSimpArgs false
set_option linter.unusedVariables false
namespace Go.Proofs.Ytbeeddenidfenaa
open Go.RowKit

theorem own_rowR {W : World} {base : Nat} {v : Value} {l : List Int} (h : W.ownsRow base 3 1 v l.length (intV l)) (hne : l ≠ []) :
    ∃ (g cap : Nat) (z : Nat → Value), v = .slice (some ⟨g, 0, none⟩) l.length cap ∧ base ≤ g ∧ l.length ≤ cap ∧ W.rowIs g 3 cap (fun j => if j < l.length then .int .i64 (l.getD j 0) else z j) := by
  rcases h.2 with ⟨_, h0⟩ | ⟨g, cap, cur, rfl, hg, hb, hc, _, hs, hx⟩
  · exact absurd (List.eq_nil_of_length_eq_zero h0) hne
  · refine ⟨g, cap, fun j => cur[j]?.getD undef, rfl, hg, hc, cur, hb, by omega, fun i hi => ?_⟩
    have hi2 : i < cur.size := by omega
    show cur[i]? = some (if i < l.length then .int .i64 (l.getD i 0) else cur[i]?.getD undef)
    by_cases h1 : i < l.length
    · have h2 : (intV l)[i]? = some (.int .i64 l[i]) := by simp [intV, h1]
      rw [← hx, Nat.mul_one, List.getElem?_take, if_pos h1] at h2
      rw [if_pos h1, gI h1]
      simpa using h2
    · rw [if_neg h1, Array.getElem?_eq_getElem hi2]
      rfl
set_option maxRecDepth 10000 in
set_option maxHeartbeats 4000000 in
theorem CloneR_any (l : List Int) (v : Value) (w : World) (hv : SliceV w v 1 IntAt l) (hn : l.length ≤ 200000) (hne : l ≠ []) :
    Calls Try.prog 68 #[v] w fun e w' => (∃ (g cap : Nat) (z : Nat → Value), e = .returned (.slice (some ⟨g, 0, none⟩) l.length cap) ∧ w.heap.size ≤ g ∧ l.length ≤ cap ∧ w'.rowIs g 3 cap (fun j => if j < l.length then .int .i64 (l.getD j 0) else z j)) ∧ Below w.heap.size w w' := by
  have HV := Lib.hid hv
  have HNE := Lib.hid hne
  have HS : Hid (∀ ad n c, v = .slice ad n c → SrcI w ad l) := Lib.hid (fun ad n c h => by rw [h] at hv; exact src_of hv)
  obtain ⟨ad, c, rfl, hl, hx⟩ := hv
  cases ad with
  | none =>
    have h0 : l = [] := by
      rcases hx with h | ⟨b, o, h, -⟩
      · exact h
      · cases h
    exact absurd h0 HNE.out
  | some a =>
    clear hx
    have HSRC := Lib.hid (HS.out _ _ _ rfl)
    have HL : Hid (l.length = l.length) := Lib.hid rfl
    obtain ⟨m, hm⟩ : ∃ m, l.length = m := ⟨_, rfl⟩
    have HM := Lib.hid hm
    rw [hm] at hn hl HV ⊢
    clear hm HS HL
    have q := Lib.run_eql_slice_nil (P := Try.prog) w 22 3 (some a) m c 0 0 Try.underlying22
    simp only [Option.isNone_none, Option.isNone_some] at q
    go_enter Try.func68, Try.ntmps68
    have hlit : (w.alloc (.cells #[] 3)).ownsRow w.heap.size 3 1 (.slice (some ⟨w.heap.size, 0, none⟩) 0 0) 0 (intV []) := World.ownsRow_lit w #[] 0 (Nat.le_refl _) (by decide) (by rfl)
    have HL := Lib.hid hlit
    clear hlit
    have HSR2 : Hid (SrcI (w.alloc (.cells #[] 3)) (some a) l) := Lib.hid (src_of (HV.out.keep IntAt.stable (bAlloc (Below.refl _ _) _)))
    go_wp2_with (at_builtin; refine wpList_append_ints rfl _ _ rfl w.heap.size (.slice (some ⟨w.heap.size, 0, none⟩) 0 0) 0 [] (by rfl) HL.out (some a) m c l (by rfl) HM.out HSR2.out (by omega) (by simp) ?_; intro v1 w1 hown1 hb1)
    have HO1 : Hid (w1.ownsRow w.heap.size 3 1 v1 l.length (intV l)) := Lib.hid (by rw [HM.out]; simpa using hown1)
    have HB1 := Lib.hid ((bAlloc (Below.refl w.heap.size w) _).trans hb1)
    obtain ⟨ad1, cap1, rfl⟩ := ownsRow_slice hown1
    clear hown1 hb1
    go_ret
    obtain ⟨g, cap, z, hv1, hg1, hc1, hr1⟩ := own_rowR HO1.out HNE.out
    exact ⟨⟨g, cap, z, by have h5 := hv1; rw [HM.out] at h5; rw [← h5]; rfl, hg1, by rw [← HM.out]; exact hc1, by rw [← HM.out]; exact hr1⟩, HB1.out⟩

/-- The samples after the marks' softening, one after the other. -/
def smF (W N : Nat) : (Nat → Int) → List Int → Nat → Int
  | f, [] => f
  | f, k :: ks => smF W N (if (W : Int) ≤ k ∧ k + W ≤ N then smS f (k - W).toNat W W else f) ks
theorem smS_in {f : Nat → Int} (hf : ∀ j, -32768 ≤ f j ∧ f j ≤ 32767) (lo W i j : Nat) : -32768 ≤ smS f lo W i j ∧ smS f lo W i j ≤ 32767 := by
  unfold smS
  split
  · exact clp_in _
  · split
    · exact clp_in _
    · exact hf j
theorem smF_snoc (W N : Nat) (f : Nat → Int) (l : List Int) (k : Int) : smF W N f (l ++ [k]) = if (W : Int) ≤ k ∧ k + W ≤ N then smS (smF W N f l) (k - W).toNat W W else smF W N f l := by
  induction l generalizing f with
  | nil => rfl
  | cons x l ih => simp only [List.cons_append, smF]; exact ih _
theorem smF_in {f : Nat → Int} (hf : ∀ j, -32768 ≤ f j ∧ f j ≤ 32767) (W N : Nat) (l : List Int) : ∀ j, -32768 ≤ smF W N f l j ∧ smF W N f l j ≤ 32767 := by
  induction l generalizing f with
  | nil => exact hf
  | cons x l ih =>
    unfold smF
    refine ih ?_
    split
    · exact fun j => smS_in hf _ _ _ j
    · exact hf
end Go.Proofs.Ytbeeddenidfenaa
