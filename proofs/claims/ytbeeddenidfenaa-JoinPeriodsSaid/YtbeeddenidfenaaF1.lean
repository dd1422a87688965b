/- The law of mismatches and joins, given the chapter's examples. -/
import Derived.Test.YtbeeddenidfenaaE9
import Derived.Test.YtbeeddenidfenaaC2
set_option linter.unusedSimpArgs false
set_option linter.unusedVariables false
namespace Go.Proofs.Ytbeeddenidfenaa
open Go.RowKit

/-- The chapter's examples hold, in each world. -/
def Known : Prop := ∀ W, Calls Try.prog 18 #[] W fun e w' => e = .returned (.bool true) ∧ Below W.heap.size W w'
theorem chk_false {x y : List Int} (h : chk true [x, y] = 0) : chk false [x, y] = 2 := by
  have h2 := chk2_ok h
  rw [chk_two, if_neg (by omega), if_neg (by simp)]
theorem chk_any {x y : List Int} (h : chk true [x, y] ≠ 0) (b : Bool) : chk b [x, y] = chk true [x, y] := by
  rw [chk_two] at h ⊢
  rw [chk_two]
  by_cases h1 : 100000 < (x.length : Int) ∨ 100000 < (y.length : Int)
  · rw [if_pos h1, if_pos h1]
  · rw [if_neg h1] at h ⊢
    rw [if_neg h1]
    by_cases h2 : waveOk x = true ∧ waveOk y = true
    · rw [if_pos ⟨rfl, h2⟩] at h; exact absurd rfl h
    · rw [if_neg (fun e => h2 e.2), if_neg (fun e => h2 e.2)]
theorem short_ok {x y : List Int} (h : chk true [x, y] = 0) (hx : shrt x.length = true) : x.length ≤ 400 := by
  have h2 := chk2_ok h
  simp [shrt] at hx
  omega
/-- A contract's slice, written out: with an error and a slice. -/
theorem out_slice {f : FuncId} {args : Array Value} {w : World} {l : List Int} {t : Value} (h : Calls Try.prog f args w fun e w' => (∃ r, e = .returned (.tuple #[r, t]) ∧ SliceV w' r 1 IntAt l ∧ ∀ g, r.ownBlock = some g → w.heap.size ≤ g) ∧ Below w.heap.size w w') :
    Calls Try.prog f args w fun e w' => (∃ ra rc, e = .returned (.tuple #[.slice ra l.length rc, t]) ∧ SliceV w' (.slice ra l.length rc) 1 IntAt l) ∧ Below w.heap.size w w' :=
  h.mono fun e w' ⟨⟨r, he, hs, _⟩, hb⟩ => by
    obtain ⟨ra, rc, rfl, h⟩ := id hs
    exact ⟨⟨ra, rc, he, hs⟩, hb⟩
set_option maxRecDepth 10000 in
set_option maxHeartbeats 4000000 in
theorem law4_any (x y : List Int) (n k : Int) (v u : Value) (w : World) (hK : Known) (hv : SliceV w v 1 IntAt x) (hu : SliceV w u 1 IntAt y) (hn : -9223372036854775808 ≤ n ∧ n ≤ 9223372036854775807) (hk : -9223372036854775808 ≤ k ∧ k ≤ 9223372036854775807) :
    Calls Try.prog 4 #[v, u, .int .i64 n, .int .i64 k] w fun e w' => e = .returned (.bool true) ∧ Below w.heap.size w w' := by
  have HK : Hid (∀ W, Calls Try.prog 18 #[] W fun e w' => e = .returned (.bool true) ∧ Below W.heap.size W w') := Lib.hid hK
  have HB := Lib.hid (Below.refl w.heap.size w)
  have HSX := Lib.hid (short_any x v w hv)
  have HSY := Lib.hid (short_any y u w hu)
  have HV := Lib.hid (fun W (hB : Below w.heap.size w W) => hv.keep IntAt.stable hB)
  have HU := Lib.hid (fun W (hB : Below w.heap.size w W) => hu.keep IntAt.stable hB)
  have HMI := Lib.hid (fun W (hB : Below w.heap.size w W) => Mismatch_any x y n k v u W (HV.out W hB) (HU.out W hB) hn hk)
  have HJO := Lib.hid (fun W (hB : Below w.heap.size w W) => out_slice (Join_any x y n k v u W (HV.out W hB) (HU.out W hB) hn hk))
  have HWR := Lib.hid (fun W (hB : Below w.heap.size w W) => wrong_any x y v u W (HV.out W hB) (HU.out W hB))
  have HEX := Lib.hid (fun W (hB : Below w.heap.size w W) => Exists_any x y n k v u W (HV.out W hB) (HU.out W hB) hn hk)
  obtain ⟨a, c, rfl, hl, -⟩ := id hv
  obtain ⟨b, d, rfl, hm, -⟩ := id hu
  clear hv hu hK
  cases h1 : shrt x.length
  · rw [h1] at HSX
    clear HMI HJO HWR HEX
    go_enter Try.func4, Try.ntmps4
    go_wp2_with (first
      | (go_at_call 17; with_reducible refine Calls.mono HSX.out ?_; rintro e w1 ⟨rfl, rfl⟩)
      | (go_at_call 18; with_reducible refine Calls.mono (HK.out _) ?_; rintro e wk ⟨rfl, hb⟩; have HB2 := Lib.hid hb; clear hb))
    go_ret
    exact ⟨rfl, HB2.out⟩
  · rw [h1] at HSX
    cases h2 : shrt y.length
    · rw [h2] at HSY
      clear HMI HJO HWR HEX
      go_enter Try.func4, Try.ntmps4
      go_wp2_with (first
        | (go_at_call 17; with_reducible refine Calls.mono HSX.out ?_; rintro e w1 ⟨rfl, rfl⟩)
        | (go_at_call 17; with_reducible refine Calls.mono HSY.out ?_; rintro e w1 ⟨rfl, rfl⟩)
        | (go_at_call 18; with_reducible refine Calls.mono (HK.out _) ?_; rintro e wk ⟨rfl, hb⟩; have HB2 := Lib.hid hb; clear hb))
      go_ret
      exact ⟨rfl, HB2.out⟩
    · rw [h2] at HSY
      by_cases hc : chk true [x, y] = 0
      · have HSX2 := HSX
        cases hov : ovl x.length y.length n k
        · have hcf := chk_false hc
          have hje : joinErr x y n k = 2 := by unfold joinErr; rw [hov, hcf]; rfl
          rw [hov, hcf, if_neg (by decide)] at HMI
          rw [hje, if_neg (by decide), List.length_nil] at HJO
          rw [hc] at HWR
          rw [hov] at HEX
          clear hcf hje hc h1 h2 hov
          go_enter Try.func4, Try.ntmps4
          go_wp2_with (first
            | (go_at_call 17; with_reducible refine Calls.mono HSX.out ?_; rintro e w1 ⟨rfl, rfl⟩)
            | (go_at_call 17; with_reducible refine Calls.mono HSY.out ?_; rintro e w1 ⟨rfl, rfl⟩)
            | (go_at_call 26; with_reducible refine Calls.mono (HMI.out _ HB.out) ?_; rintro e w1 ⟨rfl, hb⟩; have HB1 := Lib.hid hb; clear hb)
            | (go_at_call 27; with_reducible refine Calls.mono (HJO.out _ HB1.out) ?_; rintro e w2 ⟨⟨ra, rc, rfl, hs⟩, hb⟩; have HB2 := Lib.hid (bThen HB1.out hb); clear hb hs)
            | (go_at_call 28; with_reducible refine Calls.mono (HWR.out _ HB2.out) ?_; rintro e w3 ⟨rfl, rfl⟩)
            | (go_at_call 29; with_reducible refine Calls.mono (HEX.out _ HB2.out) ?_; rintro e w3 ⟨rfl, rfl⟩)
            | (go_at_call 18; with_reducible refine Calls.mono (HK.out _) ?_; rintro e wk ⟨rfl, hb⟩; have HB3 := Lib.hid (bThen HB2.out hb); clear hb))
          go_ret
          exact ⟨rfl, HB3.out⟩
        · have hct : chk true [x, y] = 0 := hc
          have h2c := chk2_ok hc
          have hxs := short_ok hc h1
          have hys : y.length ≤ 400 := by simp [shrt] at h2; omega
          obtain ⟨n, k, rfl, rfl, q1, q2, q3⟩ := ovl_nat hov
          have hje : joinErr x y n k = 0 := by unfold joinErr; rw [hov, hct, if_pos rfl, if_neg (by omega)]
          rw [hov, hct, if_pos rfl, Int.toNat_natCast, Int.toNat_natCast] at HMI
          rw [hje, if_pos rfl, Int.toNat_natCast, Int.toNat_natCast] at HJO
          rw [hc] at HWR
          rw [hov] at HEX
          have sx := sm_of h2c.2.2.1
          have sy := sm_of h2c.2.2.2.1
          have HRM := Lib.hid (fun W (hB : Below w.heap.size w W) => refMis_any x y n k _ _ W (HV.out W hB) (HU.out W hB) sx sy q2 q3 (by omega) (by omega))
          have HRJ : Hid (∀ W, Below w.heap.size w W → Calls Try.prog 32 #[.slice a x.length c, .slice b y.length d, .int .i64 (n : Int), .int .i64 (k : Int)] W fun e w' => (∃ ra rc, e = .returned (.slice ra (joinL x y n k).length rc) ∧ SliceV w' (.slice ra (joinL x y n k).length rc) 1 IntAt (joinL x y n k)) ∧ Below W.heap.size W w') := Lib.hid (fun W hB => (refJoin_any x y n k _ _ W (HV.out W hB) (HU.out W hB) sx sy q1 q2 q3 (by omega) (by omega)).mono fun e w' ⟨⟨r, he, hs, _⟩, hb⟩ => by
            obtain ⟨ra, rc, rfl, h⟩ := id hs
            exact ⟨⟨ra, rc, he, hs⟩, hb⟩)
          have HSM : Hid (∀ W v u, SliceV W v 1 IntAt (joinL x y n k) → SliceV W u 1 IntAt (joinL x y n k) → Calls Try.prog 31 #[v, u] W fun e w' => e = .returned (.bool true) ∧ Below W.heap.size W w') := Lib.hid (fun W v u hv hu => (Same_any _ _ v u W hv hu).mono fun e w' ⟨he, hb⟩ => ⟨by rw [he, decide_eq_true rfl], hb⟩)
          obtain ⟨mi, hmi⟩ : ∃ mi, mi = misv x y n k := ⟨_, rfl⟩
          rw [← hmi] at HMI HRM
          clear hje hct hc h1 h2 hov h2c hmi sx sy
          go_enter Try.func4, Try.ntmps4
          go_wp2_with (first
            | (go_at_call 17; with_reducible refine Calls.mono HSX.out ?_; rintro e w1 ⟨rfl, rfl⟩)
            | (go_at_call 17; with_reducible refine Calls.mono HSY.out ?_; rintro e w1 ⟨rfl, rfl⟩)
            | (go_at_call 26; with_reducible refine Calls.mono (HMI.out _ HB.out) ?_; rintro e w1 ⟨rfl, hb⟩; have HB1 := Lib.hid hb; clear hb)
            | (go_at_call 27; with_reducible refine Calls.mono (HJO.out _ HB1.out) ?_; rintro e w2 ⟨⟨ra, rc, rfl, hs⟩, hb⟩; have HB2 := Lib.hid (bThen HB1.out hb); have HS2 := Lib.hid hs; clear hb hs)
            | (go_at_call 28; with_reducible refine Calls.mono (HWR.out _ HB2.out) ?_; rintro e w3 ⟨rfl, rfl⟩)
            | (go_at_call 29; with_reducible refine Calls.mono (HEX.out _ HB2.out) ?_; rintro e w3 ⟨rfl, rfl⟩)
            | (go_at_call 30; with_reducible refine Calls.mono (HRM.out _ HB2.out) ?_; rintro e w4 ⟨rfl, hb⟩; have HB4 := Lib.hid (bThen HB2.out hb); have HS4 := Lib.hid (HS2.out.keep IntAt.stable hb); clear hb)
            | (go_at_call 32; with_reducible refine Calls.mono (HRJ.out _ HB4.out) ?_; rintro e w5 ⟨⟨ja, jc, rfl, hs⟩, hb⟩; have HB5 := Lib.hid (bThen HB4.out hb); have HS5 := Lib.hid hs; have HS6 := Lib.hid (HS4.out.keep IntAt.stable hb); clear hb hs)
            | (go_at_call 31; with_reducible refine Calls.mono (HSM.out _ _ _ HS6.out HS5.out) ?_; rintro e w6 ⟨rfl, hb⟩; have HB6 := Lib.hid (bThen HB5.out hb); clear hb)
            | (go_at_call 18; with_reducible refine Calls.mono (HK.out _) ?_; rintro e wk ⟨rfl, hb⟩; have HB3 := Lib.hid (bThen HB6.out hb); clear hb))
          go_ret
          exact ⟨rfl, HB3.out⟩
      · have hca := chk_any hc (ovl x.length y.length n k)
        have hje : joinErr x y n k = chk true [x, y] := by unfold joinErr; rw [hca, if_neg hc]
        rw [hca, if_neg hc] at HMI
        rw [hje, if_neg hc, List.length_nil] at HJO
        obtain ⟨er, her⟩ : ∃ er, er = chk true [x, y] := ⟨_, rfl⟩
        rw [← her] at HMI HJO HWR hc
        have hb0 : (er == 0) = false := beq_eq_false_iff_ne.2 hc
        clear her hca hje hc h1 h2 HEX
        go_enter Try.func4, Try.ntmps4
        go_wp2_with (first
          | (go_at_call 17; with_reducible refine Calls.mono HSX.out ?_; rintro e w1 ⟨rfl, rfl⟩)
          | (go_at_call 17; with_reducible refine Calls.mono HSY.out ?_; rintro e w1 ⟨rfl, rfl⟩)
          | (go_at_call 26; with_reducible refine Calls.mono (HMI.out _ HB.out) ?_; rintro e w1 ⟨rfl, hb⟩; have HB1 := Lib.hid hb; clear hb)
          | (go_at_call 27; with_reducible refine Calls.mono (HJO.out _ HB1.out) ?_; rintro e w2 ⟨⟨ra, rc, rfl, hs⟩, hb⟩; have HB2 := Lib.hid (bThen HB1.out hb); clear hb)
          | (go_at_call 28; with_reducible refine Calls.mono (HWR.out _ HB2.out) ?_; rintro e w3 ⟨rfl, rfl⟩)
          | (go_at_call 18; with_reducible refine Calls.mono (HK.out _) ?_; rintro e wk ⟨rfl, hb⟩; have HB3 := Lib.hid (bThen HB2.out hb); clear hb))
        go_ret
        exact ⟨rfl, HB3.out⟩
end Go.Proofs.Ytbeeddenidfenaa
