/- Contracts: a shape, a command. -/
import Derived.Test.YtejcbcjhmnhefabDoorA1
set_option linter.unusedSimpArgs false
set_option linter.unusedVariables false
namespace Go.Proofs.YtejcbcjhmnhefabDoor
open Go.RowKit

theorem knotsOk_drop (l : List Knot) (k : Nat) (h : k < l.length) (e : Int) : knotsOk (l.drop k) e = (betw l[k].time e 4000 && betw l[k].value (-1000) 1000 && knotsOk (l.drop (k + 1)) (l[k].time + 1)) := by
  rw [List.drop_eq_getElem_cons h]; rfl

set_option maxHeartbeats 1000000 in
theorem shapeRight_any (l : List Knot) (v : Value) (w : World) (hv : SliceV w v 2 KnotAt l) :
    Calls Tryd.prog 30 #[v] w fun e w' => e = .returned (.bool (shapeOk l)) ∧ Below w.heap.size w w' := by
  have HV := Lib.hid hv
  obtain ⟨a, c, rfl, hl, -⟩ := hv
  unfold most at hl
  cases hlen : betw l.length 1 20
  · go_enter Tryd.func30, Tryd.ntmps30
    go_wp2_with (go_at_call 17; refine (between_any _ _ _ _).mono ?_; rintro e w' ⟨rfl, rfl⟩)
    go_ret
    exact ⟨ret_bool (by simp [shapeOk, hlen]), Below.refl _ _⟩
  · have hl20 : l.length ≤ 20 := by simp [betw] at hlen; omega
    have HOK : Hid (shapeOk l = knotsOk l 0) := Lib.hid (by simp [shapeOk, hlen])
    go_enter Tryd.func30, Tryd.ntmps30
    go_wp2_with (go_at_call 17; refine (between_any _ _ _ _).mono ?_; rintro e w' ⟨rfl, rfl⟩)
    go_loopw [3, 12] (fun u i wr => ∃ (k : Nat) (e : Int), k ≤ l.length ∧ i = .int .i64 k ∧ u = .int .i64 e ∧ Hid (shapeOk l = knotsOk (l.drop k) e) ∧ 0 ≤ e ∧ e ≤ 4001 ∧ Below w.heap.size w wr) (fun _ i _ => l.length - (intOf i).toNat)
    case atStart => exact ⟨0, 0, Nat.zero_le _, rfl, rfl, HOK, by omega, by omega, Below.refl _ _⟩
    case round =>
      obtain ⟨k, e, hk, rfl, rfl, HK, he0, he1, hB⟩ := hrel
      by_cases hlt : k < l.length
      · obtain ⟨b, o, rfl, hf⟩ := HV.out.at (by intro h; simp [h] at hlt)
        obtain ⟨k0, k1⟩ := KnotAt.stable _ _ _ _ _ hB (hf k hlt)
        have hkb := cell_lt k0
        have HD := Lib.hid (knotsOk_drop l k hlt e)
        clear hf
        generalize l[k] = x at *
        cases h1 : betw x.time e 4000
        · go_wp2_with (go_at_call 17; refine (between_any _ _ _ _).mono ?_; rintro e w' ⟨rfl, rfl⟩)
          go_ret
          exact ⟨ret_bool (by rw [HK.out, HD.out]; simp [h1]), bAlloc hB _⟩
        · cases h2 : betw x.value (-1000) 1000
          · go_wp2_with (go_at_call 17; refine (between_any _ _ _ _).mono ?_; rintro e w' ⟨rfl, rfl⟩)
            go_ret
            exact ⟨ret_bool (by rw [HK.out, HD.out]; simp [h1, h2]), bAlloc hB _⟩
          · have h3 : 0 ≤ x.time ∧ x.time ≤ 4000 := by simp [betw] at h1; omega
            go_wp2_with (go_at_call 17; refine (between_any _ _ _ _).mono ?_; rintro e w' ⟨rfl, rfl⟩)
            go_roundw
            case rel => exact ⟨k + 1, x.time + 1, by omega, by go_num, by go_num, Lib.hid (by rw [HK.out, HD.out]; simp [h1, h2]), by omega, by omega, bAlloc hB _⟩
            case measure => simp [intOf]; omega
      · obtain rfl : k = l.length := by omega
        go_wp2_with fail
        go_ret
        exact ⟨ret_bool (by rw [HK.out]; simp [knotsOk]), hB⟩

set_option maxHeartbeats 1000000 in
theorem commandWrong_any (x : Cmd) (v : Value) (w : World) (hv : SliceV w v 2 KnotAt x.shape) :
    Calls Tryd.prog 16 #[.agg #[.int .i64 x.at_, .int .i64 x.height, v]] w fun e w' => e = .returned (.bool (!cmdOk x)) ∧ Below w.heap.size w w' := by
  have HV := Lib.hid hv
  obtain ⟨a, c, rfl, hl, -⟩ := hv
  have h67 : ∀ W, Below w.heap.size w W → Calls Tryd.prog 30 #[.slice a x.shape.length c] W fun e w' => e = .returned (.bool (shapeOk x.shape)) ∧ Below W.heap.size W w' := fun W hB => shapeRight_any _ _ _ (HV.out.keep KnotAt.stable hB)
  have H67 := Lib.hid h67
  have HN := Lib.hid (bAlloc (Below.refl w.heap.size w) (.cells #[.int .i64 x.at_, .int .i64 x.height, .slice a x.shape.length c] 36))
  clear h67
  cases h1 : betw x.at_ (-4000) 4000
  · go_enter Tryd.func16, Tryd.ntmps16
    go_wp2_with (go_at_call 17; refine (between_any _ _ _ _).mono ?_; rintro e w' ⟨rfl, rfl⟩)
    go_ret
    exact ⟨ret_bool (by simp [cmdOk, h1]), HN.out⟩
  · cases h2 : betw x.height (-100000) 100000
    · go_enter Tryd.func16, Tryd.ntmps16
      go_wp2_with (go_at_call 17; refine (between_any _ _ _ _).mono ?_; rintro e w' ⟨rfl, rfl⟩)
      go_ret
      exact ⟨ret_bool (by simp [cmdOk, h1, h2]), HN.out⟩
    · go_enter Tryd.func16, Tryd.ntmps16
      go_wp2_with (first
        | (go_at_call 17; refine (between_any _ _ _ _).mono ?_; rintro e w' ⟨rfl, rfl⟩)
        | (go_at_call 30; refine (H67.out _ HN.out).mono ?_; rintro e w1 ⟨rfl, hb⟩; have HB := bThen HN.out hb; clear hb))
      go_ret
      exact ⟨ret_bool (by simp [cmdOk, h1, h2]), HB⟩
end Go.Proofs.YtejcbcjhmnhefabDoor
