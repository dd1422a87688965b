/- Contracts: Join; joining by the specification. -/
import Derived.Test.YtbeeddenidfenaaB9
set_option linter.unusedSimpArgs false
set_option linter.unusedVariables false
namespace Go.Proofs.Ytbeeddenidfenaa
open Go.RowKit

def joinErr (x y : List Int) (n k : Int) : Int := if chk (ovl x.length y.length n k) [x, y] = 0 then (if 100000 < (x.length : Int) + y.length - n - k then 4 else 0) else chk (ovl x.length y.length n k) [x, y]
set_option maxRecDepth 10000 in
set_option maxHeartbeats 4000000 in
theorem Join_any (x y : List Int) (n k : Int) (v u : Value) (w : World) (hv : SliceV w v 1 IntAt x) (hu : SliceV w u 1 IntAt y) (hn : -9223372036854775808 ≤ n ∧ n ≤ 9223372036854775807) (hk : -9223372036854775808 ≤ k ∧ k ≤ 9223372036854775807) :
    Calls Try.prog 27 #[v, u, .int .i64 n, .int .i64 k] w fun e w' => (∃ r, e = .returned (.tuple #[r, .int .i64 (joinErr x y n k)]) ∧ SliceV w' r 1 IntAt (if joinErr x y n k = 0 then joinL x y n.toNat k.toNat else []) ∧ ∀ g, r.ownBlock = some g → w.heap.size ≤ g) ∧ Below w.heap.size w w' := by
  have HN := Lib.hid (bAlloc (Below.refl w.heap.size w) (.cells #[v, u] 22))
  have HC := Lib.hid (check_any (ovl x.length y.length n k) [x, y] _ _ (two_waves hv hu 22))
  have HO : Hid (Calls Try.prog 62 #[v, u, .int .i64 n, .int .i64 k] w fun e w' => e = .returned (.bool (ovl x.length y.length n k)) ∧ w = w') := Lib.hid (overlaps_any x y n k v u w hv hu hn hk)
  have HV := Lib.hid hv
  have HU := Lib.hid hu
  obtain ⟨a, c, rfl, hl, -⟩ := hv
  obtain ⟨b, d, rfl, hm, -⟩ := hu
  unfold most at hl hm
  by_cases h : chk (ovl x.length y.length n k) [x, y] = 0
  · rw [h] at HC
    have hcl := chk2_ok h
    have hov := hcl.2.2.2.2
    rw [hov] at HO HC
    have he : joinErr x y n k = if 100000 < (x.length : Int) + y.length - n - k then 4 else 0 := if_pos h
    obtain ⟨n, k, rfl, rfl, h1, h2, h3⟩ := ovl_nat hov
    rw [Int.toNat_natCast, Int.toNat_natCast]
    have sx := sm_of hcl.2.2.1
    have sy := sm_of hcl.2.2.2.1
    have hb1 := hcl.1
    have hb2 := hcl.2.1
    have HJ := Lib.hid (fun W hB => joined_any x y n k (.slice a x.length c) (.slice b y.length d) W (HV.out.keep IntAt.stable hB) (HU.out.keep IntAt.stable hB) sx sy h1 h2 h3 (by omega) (by omega))
    have e1 : IntKind.i64.wrap ((x.length : Int) + y.length) = (x.length : Int) + y.length := IntWalk.i64_in _ (by omega)
    have e2 : IntKind.i64.wrap ((x.length : Int) + y.length - n) = (x.length : Int) + y.length - n := IntWalk.i64_in _ (by omega)
    have e3 : IntKind.i64.wrap ((x.length : Int) + y.length - n - k) = (x.length : Int) + y.length - n - k := IntWalk.i64_in _ (by omega)
    rw [he]
    clear h hcl hov he sx sy hb1 hb2
    by_cases hlong : 100000 < (x.length : Int) + y.length - n - k
    · rw [if_pos hlong, if_neg (by decide)]
      go_enter Try.func27, Try.ntmps27
      go_wp2_with (first
        | (go_at_call 62; refine HO.out.mono ?_; rintro e w1 ⟨rfl, rfl⟩)
        | (go_at_call 59; refine HC.out.mono ?_; rintro e w1 ⟨rfl, hb⟩; have HB := Lib.hid (bThen HN.out hb); clear hb))
      go_ret2
      exact ⟨⟨_, rfl, ⟨none, 0, rfl, ⟨Nat.zero_le _, Nat.zero_le _⟩, .inl rfl⟩, fun g h => by cases h⟩, HB.out⟩
    · rw [if_neg hlong, if_pos rfl]
      go_enter Try.func27, Try.ntmps27
      go_wp2_with (first
        | (go_at_call 62; refine HO.out.mono ?_; rintro e w1 ⟨rfl, rfl⟩)
        | (go_at_call 59; refine HC.out.mono ?_; rintro e w1 ⟨rfl, hb⟩; have HB := Lib.hid (bThen HN.out hb); clear hb)
        | (go_at_call 64; refine (HJ.out _ HB.out).mono ?_; rintro e w2 ⟨⟨g, T, rfl, hg, hsl⟩, hb⟩; have HSL := Lib.hid hsl; have HG := Lib.hid (Nat.le_trans HB.out.size hg); have HB2 := Lib.hid (bThen HB.out hb); clear hsl hb))
      go_ret2
      exact ⟨⟨_, rfl, HSL.out, fun j h => by cases h; exact HG.out⟩, HB2.out⟩
  · have he : joinErr x y n k = chk (ovl x.length y.length n k) [x, y] := if_neg h
    rw [he, if_neg h]
    have hb0 : (chk (ovl x.length y.length n k) [x, y] == 0) = false := beq_eq_false_iff_ne.2 h
    obtain ⟨er, her⟩ : ∃ er, er = chk (ovl x.length y.length n k) [x, y] := ⟨_, rfl⟩
    obtain ⟨ov, hov⟩ : ∃ ov, ov = ovl x.length y.length n k := ⟨_, rfl⟩
    rw [← her] at HC hb0 ⊢
    rw [← hov] at HC HO
    clear her h hov he
    go_enter Try.func27, Try.ntmps27
    go_wp2_with (first
      | (go_at_call 62; refine HO.out.mono ?_; rintro e w1 ⟨rfl, rfl⟩)
      | (go_at_call 59; refine HC.out.mono ?_; rintro e w1 ⟨rfl, hb⟩; have HB := Lib.hid (bThen HN.out hb); clear hb))
    go_ret2
    exact ⟨⟨_, rfl, ⟨none, 0, rfl, ⟨Nat.zero_le _, Nat.zero_le _⟩, .inl rfl⟩, fun g h => by cases h⟩, HB.out⟩
/-- A lag and whether there is one, by the specification: after the lags before k. -/
def Kr (f : Nat → Int) (k : Nat) (at_ : Int) : Prop := (k = 0 → at_ = -1) ∧ (0 < k → at_ = (ag f (k - 1) : Nat))
theorem ag_succ {f : Nat → Int} {k : Nat} (h : 0 < k) : ag f k = if f k < f (ag f (k - 1)) then k else ag f (k - 1) := by
  obtain ⟨j, rfl⟩ : ∃ j, k = j + 1 := ⟨k - 1, by omega⟩
  rfl
end Go.Proofs.Ytbeeddenidfenaa
