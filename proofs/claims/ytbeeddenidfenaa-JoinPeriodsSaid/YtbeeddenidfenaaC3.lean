/- Contracts: the best lag of the specification. -/
import Derived.Test.YtbeeddenidfenaaB10
set_option linter.unusedSimpArgs false
set_option linter.unusedVariables false
namespace Go.Proofs.Ytbeeddenidfenaa
open Go.RowKit

theorem kr_first {f : Nat → Int} : Kr f 1 (0 : Nat) := ⟨fun h => by omega, fun _ => rfl⟩
theorem kr_less {f : Nat → Int} {k : Nat} (h0 : 0 < k) (hl : f k < f (ag f (k - 1))) : Kr f (k + 1) (k : Nat) := ⟨fun h => by omega, fun _ => by rw [Nat.add_sub_cancel, ag_succ h0, if_pos hl]⟩
theorem kr_more {f : Nat → Int} {k : Nat} (h0 : 0 < k) (hl : ¬ f k < f (ag f (k - 1))) : Kr f (k + 1) (ag f (k - 1) : Nat) := ⟨fun h => by omega, fun _ => by rw [Nat.add_sub_cancel, ag_succ h0, if_neg hl]⟩
def refLagV (x y : List Int) (n r : Int) : Int := if ovl x.length y.length n 0 = true then (lagv x y n.toNat r : Nat) else -1
set_option maxRecDepth 10000 in
set_option maxHeartbeats 4000000 in
theorem refLag_any (x y : List Int) (n r : Int) (v u : Value) (w : World) (hv : SliceV w v 1 IntAt x) (hu : SliceV w u 1 IntAt y) (hx : Sm x) (hy : Sm y) (hn : 1 ≤ n ∧ n ≤ 9223372036854775807) (hr : 0 ≤ r ∧ r ≤ 9223372036854775807) (hxl : x.length ≤ 110000) (hyl : y.length ≤ 110000) :
    Calls Try.prog 34 #[v, u, .int .i64 n, .int .i64 r] w fun e w' => e = .returned (.tuple #[.int .i64 (refLagV x y n r), .bool (ovl x.length y.length n 0)]) ∧ Below w.heap.size w w' := by
  have HV := Lib.hid hv
  have HU := Lib.hid hu
  have HEX : Hid (∀ (k : Nat) W, (k : Int) ≤ 1000000 → Below w.heap.size w W → Calls Try.prog 29 #[v, u, .int .i64 n, .int .i64 (k : Int)] W fun e w' => e = .returned (.bool (ovl x.length y.length n k)) ∧ W = w') := Lib.hid (fun k W hk hB => Exists_any x y n k v u W (hv.keep IntAt.stable hB) (hu.keep IntAt.stable hB) (by omega) (by omega))
  have HMI : Hid (∀ (n' k : Nat) W, n' ≤ x.length → k + n' ≤ y.length → Below w.heap.size w W → Calls Try.prog 30 #[v, u, .int .i64 (n' : Int), .int .i64 (k : Int)] W fun e w' => e = .returned (.int .i64 (misv x y n' k)) ∧ Below W.heap.size W w') := Lib.hid (fun n' k W h1 h2 hB => refMis_any x y n' k v u W (hv.keep IntAt.stable hB) (hu.keep IntAt.stable hB) hx hy h1 h2 (by omega) (by omega))
  obtain ⟨a, c, rfl, -⟩ := hv
  obtain ⟨b, d, rfl, -⟩ := hu
  clear hx hy
  cases hov : ovl x.length y.length n 0
  · have hres : refLagV x y n r = -1 := by unfold refLagV; rw [if_neg (by rw [hov]; simp)]
    rw [hres]
    have hex := HEX.out 0 w (by omega) (Below.refl _ _)
    rw [show ((0 : Nat) : Int) = 0 from rfl, hov] at hex
    have HE0 := Lib.hid hex
    have hr0 := hr.1
    clear hres hov hex
    go_enter Try.func34, Try.ntmps34
    go_wp2_with fail
    go_loopw [10, 11] (fun t i wr => i = .int .i64 0 ∧ t = .int .i64 (-1) ∧ wr = w) (fun _ _ _ => 0)
    case atStart => exact ⟨rfl, rfl, rfl⟩
    case round =>
      obtain ⟨rfl, rfl, rfl⟩ := hrel
      go_wp2_with (go_at_call 29; refine HE0.out.mono ?_; rintro e w1 ⟨rfl, rfl⟩)
      go_ret2
      exact ⟨rfl, Below.refl _ _⟩
  · obtain ⟨n, z, rfl, hz, h1, h2, h3⟩ := ovl_nat hov
    obtain rfl : z = 0 := by omega
    obtain ⟨M, hM⟩ : ∃ M : Nat, (M : Int) = min r ((y.length : Int) - n) := ⟨(min r ((y.length : Int) - n)).toNat, by omega⟩
    have hres : refLagV x y n r = (ag (misv x y n) M : Nat) := by unfold refLagV lagv; rw [if_pos hov, Int.toNat_natCast, ← hM, Int.toNat_natCast]
    rw [hres]
    have HOV : Hid (∀ k : Nat, ovl x.length y.length n k = decide (k + n ≤ y.length)) := Lib.hid (fun k => by
      by_cases hk : k + n ≤ y.length
      · rw [decide_eq_true hk]; exact ovl_of h1 h2 hk
      · rw [decide_eq_false hk]; unfold ovl; simp; omega)
    obtain ⟨f, hf⟩ : ∃ f, f = misv x y n := ⟨_, rfl⟩
    have HMF : Hid (∀ k W, k + n ≤ y.length → Below w.heap.size w W → Calls Try.prog 30 #[.slice a x.length c, .slice b y.length d, .int .i64 (n : Int), .int .i64 (k : Int)] W fun e w' => e = .returned (.int .i64 (f k)) ∧ Below W.heap.size W w') := Lib.hid (fun k W hk hB => by rw [hf]; exact HMI.out n k W h2 hk hB)
    rw [← hf]
    have HMM := Lib.hid hM
    have hMy : M + n ≤ y.length := by omega
    have hMr : (M : Int) ≤ r := by omega
    clear hM hres hf hov hz HMI
    go_enter Try.func34, Try.ntmps34
    go_wp2_with fail
    go_loopw [10, 11] (fun t i wr => ∃ (k : Nat) (at_ : Int), k ≤ M + 1 ∧ i = .int .i64 k ∧ t = .int .i64 at_ ∧ Hid (Kr f k at_) ∧ Hid (Below w.heap.size w wr)) (fun _ i _ => M + 1 - (intOf i).toNat)
    case atStart => exact ⟨0, -1, by omega, rfl, rfl, Lib.hid ⟨fun _ => rfl, fun h => by omega⟩, Lib.hid (Below.refl _ _)⟩
    case round =>
      obtain ⟨k, at_, hk, rfl, rfl, HKR, HB⟩ := hrel
      have hex := HEX.out k wr (by omega) HB.out
      rw [HOV.out k] at hex
      by_cases hle : k ≤ M
      · have hkr : (k : Int) ≤ r := by omega
        rw [decide_eq_true (show k + n ≤ y.length by omega)] at hex
        have HE0 := Lib.hid hex
        clear hex
        by_cases hk0 : k = 0
        · have ha := HKR.out.1 hk0
          subst ha
          have HK0 := Lib.hid hk0
          clear hk0
          go_wp2_with (go_at_call 29; refine HE0.out.mono ?_; rintro e w1 ⟨rfl, rfl⟩)
          go_roundw
          case rel => exact ⟨k + 1, k, by omega, by go_num, rfl, Lib.hid (by rw [HK0.out]; exact kr_first), HB⟩
          case measure => simp [intOf]; omega
        · have hp : 0 < k := by omega
          have ha := HKR.out.2 hp
          obtain ⟨p, hpe⟩ : ∃ p : Nat, p = ag f (k - 1) := ⟨_, rfl⟩
          rw [← hpe] at ha
          subst ha
          have hpl : p ≤ M := by have := ag_le f (k - 1); omega
          have HPE := Lib.hid hpe
          clear hpe hk0
          have HM1 := Lib.hid (fun W hB => HMF.out k W (by omega) hB)
          have HM2 := Lib.hid (fun W hB => HMF.out p W (by omega) hB)
          have hp0 : ¬ (p : Int) < 0 := by omega
          by_cases hlt : f k < f p
          · go_wp2_with (first
              | (go_at_call 29; refine HE0.out.mono ?_; rintro e w1 ⟨rfl, rfl⟩)
              | (go_at_call 30; with_reducible refine Calls.mono (HM1.out _ HB.out) ?_; rintro e w2 ⟨rfl, hb⟩; replace HB := Lib.hid (bThen HB.out hb); clear hb)
              | (go_at_call 30; with_reducible refine Calls.mono (HM2.out _ HB.out) ?_; rintro e w3 ⟨rfl, hb⟩; replace HB := Lib.hid (bThen HB.out hb); clear hb))
            go_roundw
            case rel => exact ⟨k + 1, k, by omega, by go_num, rfl, Lib.hid (kr_less hp (by rw [← HPE.out]; exact hlt)), HB⟩
            case measure => simp [intOf]; omega
          · go_wp2_with (first
              | (go_at_call 29; refine HE0.out.mono ?_; rintro e w1 ⟨rfl, rfl⟩)
              | (go_at_call 30; with_reducible refine Calls.mono (HM1.out _ HB.out) ?_; rintro e w2 ⟨rfl, hb⟩; replace HB := Lib.hid (bThen HB.out hb); clear hb)
              | (go_at_call 30; with_reducible refine Calls.mono (HM2.out _ HB.out) ?_; rintro e w3 ⟨rfl, hb⟩; replace HB := Lib.hid (bThen HB.out hb); clear hb))
            go_roundw
            case rel => exact ⟨k + 1, p, by omega, by go_num, rfl, Lib.hid (by rw [HPE.out]; exact kr_more hp (by rw [← HPE.out]; omega)), HB⟩
            case measure => simp [intOf]; omega
      · have hke : k = M + 1 := by omega
        have HAT : Hid (at_ = (ag f M : Nat)) := Lib.hid (by have := HKR.out.2 (by omega); rw [hke, Nat.add_sub_cancel] at this; exact this)
        have hap : 0 ≤ at_ := by rw [HAT.out]; omega
        by_cases hkr : (k : Int) ≤ r
        · have hny : ¬ k + n ≤ y.length := by have := HMM.out; omega
          rw [decide_eq_false hny] at hex
          have HE0 := Lib.hid hex
          clear hex hke hny
          go_wp2_with (go_at_call 29; refine HE0.out.mono ?_; rintro e w1 ⟨rfl, rfl⟩)
          go_ret2
          exact ⟨by rw [← HAT.out]; first | rfl | (simp; omega), HB.out⟩
        · clear hex hke
          go_wp2_with fail
          go_ret2
          exact ⟨by rw [← HAT.out]; first | rfl | (simp; omega), HB.out⟩
end Go.Proofs.Ytbeeddenidfenaa
