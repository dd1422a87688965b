/- Contracts: Loudest. -/
import Derived.Test.YtbeeddenidfenaaE2
set_option linter.unusedSimpArgs false
set_option linter.unusedVariables false
namespace Go.Proofs.Ytbeeddenidfenaa
open Go.RowKit

/-- The greatest gain of a wave that clips nothing. -/
def LTop (l : List Int) (den : Int) (r : Nat) : Prop := r ≤ 1000000 ∧ clips l r den = 0 ∧ (r = 1000000 ∨ ∀ q : Int, r < q → clips l q den ≠ 0)
theorem ltop_of {l : List Int} {den : Int} {r : Nat} (hd : 0 < den) (h0 : l = [] → r = 1000000) (h1 : l ≠ [] → GainTop [minL l, maxL l] den r) : LTop l den r := by
  by_cases h : l = []
  · rw [h0 h, h]
    exact ⟨Nat.le_refl _, rfl, .inl rfl⟩
  · exact (h1 h).whole h hd
theorem greatest_any (l : List Int) (den : Int) (v : Value) (w : World) (hv : SliceV w v 1 IntAt l) (hs : Sm l) (hn : l.length ≤ 1000000) (h2 : 1 ≤ den) (h3 : den ≤ 1000000) :
    Calls Try.prog 79 #[v, .int .i64 den] w fun e w' => (∃ r : Nat, e = .returned (.int .i64 (r : Int)) ∧ LTop l den r) ∧ Below w.heap.size w w' :=
  (greatestGain_any l den v w hv hs hn h2 h3).mono fun e w' ⟨⟨r, he, h0, h1⟩, hb⟩ => ⟨⟨r, he, ltop_of (by omega) h0 h1⟩, hb⟩
set_option maxRecDepth 10000 in
set_option maxHeartbeats 4000000 in
theorem Loudest_any (l : List Int) (den : Int) (v : Value) (w : World) (hv : SliceV w v 1 IntAt l) :
    Calls Try.prog 53 #[v, .int .i64 den] w fun e w' => (∃ r : Nat, e = .returned (.tuple #[.int .i64 (r : Int), .int .i64 (chk (betw den 1 1000000) [l])]) ∧ (chk (betw den 1 1000000) [l] ≠ 0 → r = 0) ∧ (chk (betw den 1 1000000) [l] = 0 → LTop l den r)) ∧ Below w.heap.size w w' := by
  have HN := Lib.hid (bAlloc (Below.refl w.heap.size w) (.cells #[v] 22))
  have HC := Lib.hid (check_any (betw den 1 1000000) [l] _ _ (one_wave hv 22))
  have HV := Lib.hid hv
  obtain ⟨a, c, rfl, hl, -⟩ := hv
  unfold most at hl
  by_cases h : chk (betw den 1 1000000) [l] = 0
  · rw [h]
    rw [h] at HC
    have hcl := chk_ok h
    have g2 := hcl.2.2
    have b2 := g2
    rw [g2] at HC
    simp only [betw, Bool.and_eq_true, decide_eq_true_eq] at b2
    have HG := Lib.hid (fun W hb => greatest_any l den (.slice a l.length c) W (HV.out.keep IntAt.stable hb) (sm_of hcl.2.1) (by omega) b2.1 b2.2)
    clear h hcl b2
    go_enter Try.func53, Try.ntmps53
    go_wp2_with (first
      | (go_at_call 75; refine (between_any _ _ _ _).mono ?_; rintro e w1 ⟨rfl, rfl⟩; rw [g2])
      | (go_at_call 59; refine HC.out.mono ?_; rintro e w1 ⟨rfl, hb⟩; have HB := Lib.hid (bThen HN.out hb); clear hb)
      | (go_at_call 79; refine (HG.out _ HB.out).mono ?_; rintro e w2 ⟨⟨r, rfl, hr⟩, hb⟩; have HR := Lib.hid hr; have HB2 := Lib.hid (bThen HB.out hb); clear hr hb))
    go_ret2
    exact ⟨⟨r, rfl, fun h => absurd rfl h, fun _ => HR.out⟩, HB2.out⟩
  · have hb0 : (chk (betw den 1 1000000) [l] == 0) = false := beq_eq_false_iff_ne.2 h
    obtain ⟨er, her⟩ : ∃ er, er = chk (betw den 1 1000000) [l] := ⟨_, rfl⟩
    have HE0 : Hid (er ≠ 0) := Lib.hid (by rw [her]; exact h)
    rw [← her] at HC hb0 ⊢
    clear her h
    cases g2 : betw den 1 1000000
    · rw [g2] at HC
      go_enter Try.func53, Try.ntmps53
      go_wp2_with (first
        | (go_at_call 75; refine (between_any _ _ _ _).mono ?_; rintro e w1 ⟨rfl, rfl⟩; rw [g2])
        | (go_at_call 59; refine HC.out.mono ?_; rintro e w1 ⟨rfl, hb⟩; have HB := Lib.hid (bThen HN.out hb); clear hb))
      go_ret2
      exact ⟨⟨0, rfl, fun _ => rfl, fun h => absurd h HE0.out⟩, HB.out⟩
    · rw [g2] at HC
      go_enter Try.func53, Try.ntmps53
      go_wp2_with (first
        | (go_at_call 75; refine (between_any _ _ _ _).mono ?_; rintro e w1 ⟨rfl, rfl⟩; rw [g2])
        | (go_at_call 59; refine HC.out.mono ?_; rintro e w1 ⟨rfl, hb⟩; have HB := Lib.hid (bThen HN.out hb); clear hb))
      go_ret2
      exact ⟨⟨0, rfl, fun _ => rfl, fun h => absurd h HE0.out⟩, HB.out⟩
end Go.Proofs.Ytbeeddenidfenaa
