/- Contracts: Mismatch. -/
import Derived.Test.YtbeeddenidfenaaB5
import Derived.Deep.RegionHeld3
set_option linter.unusedSimpArgs false
set_option linter.unusedVariables false
namespace Go.Proofs.Ytbeeddenidfenaa
open Go.RowKit

/-- The parts of an overlap, in memory. -/
theorem end_part {w : World} {b o n c s : Nat} {x : List Int} (h : SliceV w (.slice (some ⟨b, o, none⟩) (s + n) c) 1 IntAt x) (hn : 1 ≤ n) : SliceV w (.slice (some ⟨b, o + s, none⟩) n (c - s)) 1 IntAt (endA x n) := by
  have hl := h.len
  have hc : s + n ≤ c := by
    obtain ⟨a', c', hv, hl', -⟩ := id h
    obtain ⟨-, h2, rfl⟩ := Value.slice.inj hv
    have := hl'.2; omega
  have := h.from s (by omega)
  rw [if_neg (by omega), Nat.add_sub_cancel_left] at this
  unfold endA
  rw [← hl, Nat.add_sub_cancel]
  exact this
theorem mid_part {w : World} {b o m c n k : Nat} {x : List Int} (h : SliceV w (.slice (some ⟨b, o, none⟩) m c) 1 IntAt x) (hk : k + n ≤ m) : SliceV w (.slice (some ⟨b, o + k, none⟩) n (c - k)) 1 IntAt (partB x n k) := by
  have hl := h.len
  have hc : m ≤ c := by
    obtain ⟨a', c', hv, hl', -⟩ := id h
    obtain ⟨-, h2, rfl⟩ := Value.slice.inj hv
    have := hl'.2; omega
  exact h.part k n (c - k) (by omega) (by omega)
set_option maxRecDepth 10000 in
set_option maxHeartbeats 4000000 in
theorem Mismatch_any (x y : List Int) (n k : Int) (v u : Value) (w : World) (hv : SliceV w v 1 IntAt x) (hu : SliceV w u 1 IntAt y) (hn : -9223372036854775808 ≤ n ∧ n ≤ 9223372036854775807) (hk : -9223372036854775808 ≤ k ∧ k ≤ 9223372036854775807) :
    Calls Try.prog 26 #[v, u, .int .i64 n, .int .i64 k] w fun e w' => e = .returned (.tuple #[.int .i64 (if chk (ovl x.length y.length n k) [x, y] = 0 then misv x y n.toNat k.toNat else 0), .int .i64 (chk (ovl x.length y.length n k) [x, y])]) ∧ Below w.heap.size w w' := by
  have HN := Lib.hid (bAlloc (Below.refl w.heap.size w) (.cells #[v, u] 22))
  have HC := Lib.hid (check_any (ovl x.length y.length n k) [x, y] _ _ (two_waves hv hu 22))
  have HO : Hid (Calls Try.prog 62 #[v, u, .int .i64 n, .int .i64 k] w fun e w' => e = .returned (.bool (ovl x.length y.length n k)) ∧ w = w') := Lib.hid (overlaps_any x y n k v u w hv hu hn hk)
  have HV := Lib.hid hv
  have HU := Lib.hid hu
  obtain ⟨a, c, rfl, hl, -⟩ := hv
  obtain ⟨b, d, rfl, hm, -⟩ := hu
  unfold most at hl hm
  by_cases h : chk (ovl x.length y.length n k) [x, y] = 0
  · rw [if_pos h, h]
    rw [h] at HC
    have hcl := chk2_ok h
    have hov := hcl.2.2.2.2
    rw [hov] at HO HC
    obtain ⟨n, k, rfl, rfl, h1, h2, h3⟩ := ovl_nat hov
    rw [Int.toNat_natCast, Int.toNat_natCast]
    obtain ⟨xb, xo, rfl, -⟩ := HV.out.at (by intro h; rw [h] at h2; simp at h2; omega)
    obtain ⟨yb, yo, rfl, -⟩ := HU.out.at (by intro h; rw [h] at h3; simp at h3; omega)
    obtain ⟨s, hs⟩ : ∃ s, x.length = s + n := ⟨x.length - n, by omega⟩
    obtain ⟨m, hme⟩ : ∃ m, y.length = m := ⟨_, rfl⟩
    have sx := sm_of hcl.2.2.1
    have sy := sm_of hcl.2.2.2.1
    have hb1 := hcl.1
    have hb2 := hcl.2.1
    rw [hme] at hm h3 hb2 HO HU HC HN ⊢
    rw [hs] at hl h2 hb1 HV HO HC HN ⊢
    have h63 : ∀ W, Below w.heap.size w W → Calls Try.prog 63 #[.slice (some ⟨xb, xo + s, none⟩) n (c - s), .slice (some ⟨yb, yo + k, none⟩) n (d - k)] W fun e w' => e = .returned (.int .i64 (misv x y n k)) ∧ Below W.heap.size W w' := fun W hB =>
      mismatch_any (endA x n) (partB y n k) _ _ W (end_part (HV.out.keep IntAt.stable hB) h1) (mid_part (HU.out.keep IntAt.stable hB) (by omega)) (by rw [endA_len (by omega), partB_len (by omega)]) (sx.endA n) (sy.partB n k) (by rw [endA_len (by omega)]; omega)
    have H63 := Lib.hid h63
    have HSX := Lib.hid hs
    clear h63 h hcl hov sx sy hs hme
    have e1 : IntKind.i64.wrap (((s + n : Nat) : Int) - n) = (s : Int) := by rw [show ((s + n : Nat) : Int) - n = (s : Int) by omega]; exact IntWalk.i64_in _ (by omega)
    have e1b : IntKind.i64.wrap ((s : Int) + n - n) = (s : Int) := by rw [show (s : Int) + n - n = (s : Int) by omega]; exact IntWalk.i64_in _ (by omega)
    have e2 : IntKind.i64.wrap ((k : Int) + n) = (k : Int) + n := IntWalk.i64_in _ (by omega)
    have e3 : IntKind.i64.wrap (s : Int) = (s : Int) := IntWalk.i64_in _ (by omega)
    have i1 : (0 : Int) ≤ (s : Int) := by omega
    have i2 : (s : Int) ≤ (s : Int) + (n : Int) := by omega
    have i3 : (s : Int) + (n : Int) ≤ (c : Int) := by omega
    have i4 : (k : Int) ≤ (k : Int) + (n : Int) := by omega
    have i5 : (k : Int) + (n : Int) ≤ (d : Int) := by omega
    have i6 : ¬ c = s := by omega
    have i7 : ¬ d = k := by omega
    have i8 : (0 : Int) ≤ (k : Int) + (n : Int) := by omega
    have i9 : ((k : Int) + (n : Int)).toNat = k + n := by omega
    go_enter Try.func26, Try.ntmps26
    go_wp2_with (first
      | (go_at_call 62; refine HO.out.mono ?_; rintro e w1 ⟨rfl, rfl⟩)
      | (go_at_call 59; refine HC.out.mono ?_; rintro e w1 ⟨rfl, hb⟩; have HB := Lib.hid (bThen HN.out hb); clear hb))
    go_region_held3 (fun _ => True) (trivial) (first
      | (go_at_call 63; with_reducible refine Calls.mono (H63.out _ (Below.drew HB.out)) ?_; rintro e w2 ⟨rfl, hb⟩; have HB2 := Lib.hid (bThen (Below.drew HB.out) hb); clear hb))
    all_goals
      go_wp2_with fail
      go_ret2
      exact ⟨rfl, HB2.out⟩
  · rw [if_neg h]
    have hb0 : (chk (ovl x.length y.length n k) [x, y] == 0) = false := beq_eq_false_iff_ne.2 h
    obtain ⟨er, her⟩ : ∃ er, er = chk (ovl x.length y.length n k) [x, y] := ⟨_, rfl⟩
    obtain ⟨ov, hov⟩ : ∃ ov, ov = ovl x.length y.length n k := ⟨_, rfl⟩
    rw [← her] at HC hb0 ⊢
    rw [← hov] at HC HO
    clear her h hov
    go_enter Try.func26, Try.ntmps26
    go_wp2_with (first
      | (go_at_call 62; refine HO.out.mono ?_; rintro e w1 ⟨rfl, rfl⟩)
      | (go_at_call 59; refine HC.out.mono ?_; rintro e w1 ⟨rfl, hb⟩; have HB := Lib.hid (bThen HN.out hb); clear hb))
    go_ret2
    exact ⟨rfl, HB.out⟩
end Go.Proofs.Ytbeeddenidfenaa
