/- Contracts: Fade; the crossfade of the specification. -/
import Derived.Test.YtbeeddenidfenaaB1
import Derived.Deep.AppendLies
set_option linter.unusedSimpArgs false
set_option linter.unusedVariables false
namespace Go.Proofs.Ytbeeddenidfenaa
open Go.RowKit

/-- The first error of two waves. -/
theorem chk_two (r : Bool) (l m : List Int) : chk r [l, m] = if 100000 < (l.length : Int) ∨ 100000 < (m.length : Int) then 4 else if r = true ∧ waveOk l = true ∧ waveOk m = true then 0 else 2 := by
  unfold chk waveBig waveBad
  by_cases h : 100000 < (l.length : Int)
  · simp [h]
  · by_cases h2 : 100000 < (m.length : Int)
    · simp [h, h2]
    · cases r <;> cases hw : waveOk l <;> cases hw2 : waveOk m <;> simp [h, h2, hw, hw2]
theorem chk2_ok {r : Bool} {l m : List Int} (h : chk r [l, m] = 0) : ¬ 100000 < (l.length : Int) ∧ ¬ 100000 < (m.length : Int) ∧ waveOk l = true ∧ waveOk m = true ∧ r = true := by
  rw [chk_two] at h
  by_cases h1 : 100000 < (l.length : Int) ∨ 100000 < (m.length : Int)
  · rw [if_pos h1] at h; cases h
  · rw [if_neg h1] at h
    by_cases h2 : r = true ∧ waveOk l = true ∧ waveOk m = true
    · exact ⟨fun h => h1 (.inl h), fun h => h1 (.inr h), h2.2.1, h2.2.2, h2.1⟩
    · rw [if_neg h2] at h; cases h
def fadeOk (x y : List Int) : Bool := decide (x.length = y.length) && decide (0 < x.length)
set_option maxRecDepth 10000 in
set_option maxHeartbeats 2000000 in
theorem Fade_any (x y : List Int) (v u : Value) (w : World) (hv : SliceV w v 1 IntAt x) (hu : SliceV w u 1 IntAt y) :
    Calls Try.prog 35 #[v, u] w fun e w' => (∃ r, e = .returned (.tuple #[r, .int .i64 (chk (fadeOk x y) [x, y])]) ∧ SliceV w' r 1 IntAt (if chk (fadeOk x y) [x, y] = 0 then fadeL x y else [])) ∧ Below w.heap.size w w' := by
  have HN := Lib.hid (bAlloc (Below.refl w.heap.size w) (.cells #[v, u] 22))
  have HC := Lib.hid (check_any (fadeOk x y) [x, y] _ _ (two_waves hv hu 22))
  have HV := Lib.hid hv
  have HU := Lib.hid hu
  obtain ⟨a, c, rfl, hl, -⟩ := hv
  obtain ⟨b, d, rfl, hm, -⟩ := hu
  unfold most at hl hm
  by_cases h : chk (fadeOk x y) [x, y] = 0
  · rw [if_pos h, h]
    rw [h] at HC
    have hcl := chk2_ok h
    have hfo := hcl.2.2.2.2
    rw [hfo] at HC
    simp only [fadeOk, Bool.and_eq_true, decide_eq_true_eq] at hfo
    have hlen := hfo.1
    have hpos := hfo.2
    have hi : (0 : Int) < (x.length : Int) := by omega
    have he : ((x.length : Int) == (y.length : Int)) = true := by simp; omega
    have hmk := makeI x.length (by omega)
    have HLL := Lib.hid hlen
    have HF := Lib.hid (fun (W : World) (hB : Below w.heap.size w W) => fade_any x y W.heap.size 0 x.length x.length (fun _ => .int .i64 0) (.slice a x.length c) (.slice b y.length d) (W.alloc (.cells (madeCells #[Value.int .i64 0] x.length) 3)) hlen (by omega) (World.rowIs_made W (.int .i64 0) x.length 3) (HV.out.keep IntAt.stable (bAlloc hB _)) (HU.out.keep IntAt.stable (bAlloc hB _))
      (fun W' hW' => HV.out.keep IntAt.stable ((bAlloc hB _).trans (hW'.mono hB.size))) (fun W' hW' => HU.out.keep IntAt.stable ((bAlloc hB _).trans (hW'.mono hB.size))) (sm_of hcl.2.2.1) (sm_of hcl.2.2.2.1) (by omega))
    clear h hcl hfo hlen
    go_enter Try.func35, Try.ntmps35
    go_wp2_with (first
      | (go_at_call 59; refine HC.out.mono ?_; rintro e w1 ⟨rfl, hb⟩; have HB := Lib.hid (bThen HN.out hb); clear hb)
      | (go_at_call 66; refine (HF.out _ HB.out).mono ?_; rintro e w2 ⟨⟨r, rfl⟩, hrow, hb⟩; have HROW := Lib.hid hrow; have HB2 := Lib.hid ((bAlloc HB.out _).trans (hb.mono HB.out.size)); clear hrow hb))
    go_ret2
    refine ⟨⟨_, rfl, row_slice HROW.out (fadeL_len x y) (fun i hi => ?_) (by unfold most; omega)⟩, HB2.out⟩
    rw [fadeL_len] at hi
    rw [if_pos (by omega), fadeL_get]; rfl
  · rw [if_neg h]
    have hb0 : (chk (fadeOk x y) [x, y] == 0) = false := beq_eq_false_iff_ne.2 h
    obtain ⟨er, her⟩ : ∃ er, er = chk (fadeOk x y) [x, y] := ⟨_, rfl⟩
    rw [← her] at HC hb0 ⊢
    clear her h
    by_cases hlen : x.length = y.length
    · by_cases hpos : 0 < x.length
      · have hi : (0 : Int) < (x.length : Int) := by omega
        have he : ((x.length : Int) == (y.length : Int)) = true := by simp; omega
        rw [show fadeOk x y = true by unfold fadeOk; rw [decide_eq_true hlen, decide_eq_true hpos]; rfl] at HC
        clear hlen
        go_enter Try.func35, Try.ntmps35
        go_wp2_with (go_at_call 59; refine HC.out.mono ?_; rintro e w1 ⟨rfl, hb⟩; have HB := Lib.hid (bThen HN.out hb); clear hb)
        go_ret2
        exact ⟨⟨_, rfl, ⟨none, 0, rfl, ⟨Nat.zero_le _, Nat.zero_le _⟩, .inl rfl⟩⟩, HB.out⟩
      · have hi : ¬ (0 : Int) < (x.length : Int) := by omega
        have he : ((x.length : Int) == (y.length : Int)) = true := by simp; omega
        rw [show fadeOk x y = false by unfold fadeOk; rw [decide_eq_false hpos, Bool.and_false]] at HC
        clear hlen
        go_enter Try.func35, Try.ntmps35
        go_wp2_with (go_at_call 59; refine HC.out.mono ?_; rintro e w1 ⟨rfl, hb⟩; have HB := Lib.hid (bThen HN.out hb); clear hb)
        go_ret2
        exact ⟨⟨_, rfl, ⟨none, 0, rfl, ⟨Nat.zero_le _, Nat.zero_le _⟩, .inl rfl⟩⟩, HB.out⟩
    · have he : ((x.length : Int) == (y.length : Int)) = false := by simp; omega
      rw [show fadeOk x y = false by simp [fadeOk, hlen]] at HC
      go_enter Try.func35, Try.ntmps35
      go_wp2_with (go_at_call 59; refine HC.out.mono ?_; rintro e w1 ⟨rfl, hb⟩; have HB := Lib.hid (bThen HN.out hb); clear hb)
      go_ret2
      exact ⟨⟨_, rfl, ⟨none, 0, rfl, ⟨Nat.zero_le _, Nat.zero_le _⟩, .inl rfl⟩⟩, HB.out⟩
end Go.Proofs.Ytbeeddenidfenaa
