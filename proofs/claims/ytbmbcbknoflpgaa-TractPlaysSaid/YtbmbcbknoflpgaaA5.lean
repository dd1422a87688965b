/- Contracts: Scatter, and that of the specification. -/
import Derived.Test.YtbmbcbknoflpgaaA4
import Derived.Test.YtbmbcbknoflpgaaA3
set_option linter.unusedSimpArgs false
set_option linter.unusedVariables false
namespace Go.Proofs.Ytbmbcbknoflpgaa
open Go.RowKit

set_option maxHeartbeats 400000 in
theorem toward64_any (a b : Int) (w : World) (ha : -9223372036854775808 ≤ a ∧ a ≤ 9223372036854775807) (hb : 1 ≤ b) : Calls Try.prog 59 #[.int .i64 a, .int .i64 b] w fun e w' => e = .returned (.int .i64 (a.tdiv b)) ∧ w = w' := by
  have h1 : ¬ b = 0 := by omega
  have h2 : (b == 0) = false := by simp; omega
  have h4 := tdiv64 ha hb
  have h3 : IntKind.i64.wrap (a.tdiv b) = a.tdiv b := IntWalk.i64_in _ (by omega)
  go_enter Try.func59, Try.ntmps59
  go_wp2
  go_ret
  exact ⟨rfl, rfl⟩
/-- The waves that leave a joint. -/
def sctL (l m : List Int) : List Int := (List.range l.length).map (sct (fun i => l.getD i 0) (fun i => m.getD i 0) l.length)
theorem sctL_len (l m : List Int) : (sctL l m).length = l.length := by simp [sctL]
theorem sctL_get (l m : List Int) {i : Nat} (h : i < l.length) : (sctL l m).getD i 0 = sct (fun i => l.getD i 0) (fun i => m.getD i 0) l.length i := by
  rw [gI (by rw [sctL_len]; exact h)]; simp [sctL]
/-- A row of ints of one's own with room behind it, as a slice. -/
theorem row_sliceC {w : World} {g n N c : Nat} {f : Nat → Value} {xs : List Int} (h : w.rowIs g 3 N f) (hl : xs.length = n) (hN : n ≤ N) (hc : n ≤ c) (hf : ∀ i, i < n → f i = .int .i64 (xs.getD i 0)) (hm : n ≤ most) : SliceV w (.slice (some ⟨g, 0, none⟩) n c) 1 IntAt xs := by
  subst hl
  refine ⟨_, c, rfl, ⟨hm, hc⟩, .inr ⟨g, 0, rfl, fun i hi => ?_⟩⟩
  have := h.cell (i := i) (by omega)
  rw [hf i hi, gI hi] at this
  show w.cell? ⟨g, 0 + i * 1, none⟩ = _
  simpa using this
theorem meet_parts {l m : List Int} (h : meetOk l m = true) : 1 ≤ l.length ∧ l.length ≤ 10 ∧ m.length = l.length ∧ (∀ j, j < l.length → 1 ≤ l.getD j 0 ∧ l.getD j 0 ≤ 1000) ∧ ∀ j, j < m.length → -1073741824 ≤ m.getD j 0 ∧ m.getD j 0 ≤ 1073741824 := by
  simp only [meetOk, Bool.and_eq_true, betw_iff, decide_eq_true_eq, List.all_eq_true, arOk, wvOk] at h
  obtain ⟨⟨⟨h1, h2⟩, h3⟩, h4⟩ := h
  refine ⟨by omega, by omega, h2, fun j hj => ?_, fun j hj => ?_⟩
  · rw [gI hj]; exact h3 _ (List.getElem_mem hj)
  · rw [gI hj]; exact h4 _ (List.getElem_mem hj)
set_option maxRecDepth 10000 in
set_option maxHeartbeats 2000000 in
theorem Scatter_any (l m : List Int) (v u : Value) (w : World) (hv : SliceV w v 1 IntAt l) (hu : SliceV w u 1 IntAt m) :
    Calls Try.prog 20 #[v, u] w fun e w' => (∃ r, e = .returned (.tuple #[r, .int .i64 (if meetOk l m = true then 0 else 2)]) ∧ SliceV w' r 1 IntAt (if meetOk l m = true then sctL l m else [])) ∧ Below w.heap.size w w' := by
  have HV := Lib.hid hv
  have HU := Lib.hid hu
  have HM := Lib.hid (fun W (hB : Below w.heap.size w W) => meetingRight_any l m v u W (hv.keep IntAt.stable hB) (hu.keep IntAt.stable hB))
  obtain ⟨a, c, rfl, -⟩ := hv
  obtain ⟨b, d, rfl, -⟩ := hu
  cases hk : meetOk l m
  · rw [hk] at HM
    go_enter Try.func20, Try.ntmps20
    go_wp2_with (go_at_call 56; with_reducible refine Calls.mono (HM.out _ (Below.refl _ _)) ?_; rintro e w1 ⟨rfl, rfl⟩)
    go_ret2
    exact ⟨⟨_, rfl, ⟨none, 0, rfl, ⟨Nat.zero_le _, Nat.zero_le _⟩, .inl rfl⟩⟩, Below.refl _ _⟩
  · obtain ⟨h1, h2, h3, h4, h5⟩ := meet_parts hk
    rw [hk] at HM
    have HCL := Lib.hid (CloneR_any m (.slice b m.length d) w HU.out (by omega) (by intro h; rw [h] at h3; simp at h3; omega))
    have HSC : Hid (∀ (W : World) (g cap : Nat) (z : Nat → Value), Below w.heap.size w W → m.length ≤ cap → W.rowIs g 3 cap (fun j => if j < m.length then .int .i64 (m.getD j 0) else z j) →
        Calls Try.prog 58 #[.slice a l.length c, .slice (some ⟨g, 0, none⟩) m.length cap] W fun e w' => (∃ r, e = .returned r) ∧ w'.rowIs g 3 cap (fun j => if j < l.length then .int .i64 (sct (fun i => l.getD i 0) (fun i => m.getD i 0) l.length j) else z j) ∧ W.grownBy w' (some g)) := Lib.hid (fun W g cap z hB hcap hr => by
      rw [h3] at hr hcap ⊢
      exact scatter_any 3 l g cap cap _ (fun i => m.getD i 0) z W (HV.out.keep IntAt.stable hB) h1 h2 h4 hcap hr)
    have HL := Lib.hid h3
    have HL2 := Lib.hid h2
    clear h1 h2 h3 h4 h5
    go_enter Try.func20, Try.ntmps20
    go_wp2_with (first
      | (go_at_call 56; with_reducible refine Calls.mono (HM.out _ (Below.refl _ _)) ?_; rintro e w1 ⟨rfl, rfl⟩)
      | (go_at_call 57; with_reducible refine Calls.mono HCL.out ?_; rintro e w1 ⟨⟨g, cap, z, rfl, hg, hc, hr⟩, hb⟩; have HG := Lib.hid hg; have HC := Lib.hid hc; have HR := Lib.hid hr; have HB := Lib.hid hb; clear hg hc hr hb)
      | (go_at_call 58; with_reducible refine Calls.mono (HSC.out _ _ _ _ HB.out HC.out HR.out) ?_; rintro e w2 ⟨⟨r, rfl⟩, hr2, hg2⟩; have HR2 := Lib.hid hr2; have HG2 := Lib.hid hg2; clear hr2 hg2))
    go_ret2
    have hc := HC.out
    rw [HL.out] at hc
    refine ⟨⟨_, rfl, ?_⟩, HB.out.trans (gb_low HG2.out HB.out.size HG.out)⟩
    rw [HL.out]
    exact row_sliceC HR2.out (sctL_len l m) hc hc (fun i hi => by rw [if_pos hi, sctL_get l m hi]) (by have := HL2.out; unfold most; omega)
end Go.Proofs.Ytbmbcbknoflpgaa
