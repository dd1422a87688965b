/- The specification's curves; the law of curves. -/
import Derived.Test.YtejcbcjhmnhefaaDoorL31
import Derived.Test.YtejcbcjhmnhefaaDoorL6
set_option linter.unusedSimpArgs false
set_option linter.unusedVariables false
namespace Go.Proofs.YtejcbcjhmnhefaaDoor
open Go.RowKit

theorem cmd_at {l : List Cmd} {a : Option Addr} {c : Nat} {w : World} (hv : SliceV w (.slice a l.length c) 3 CmdAt l) {k : Nat} (hlt : k < l.length) :
    ∃ b o vs, a = some ⟨b, o, none⟩ ∧ w.cell? ⟨b, o + k * 3, none⟩ = some (.int .i64 l[k].at_) ∧ w.cell? ⟨b, o + k * 3 + 1, none⟩ = some (.int .i64 l[k].height) ∧ w.cell? ⟨b, o + k * 3 + 2, none⟩ = some vs ∧ SliceV w vs 2 KnotAt l[k].shape := by
  obtain ⟨b, o, rfl, hf⟩ := hv.at (by intro h; simp [h] at hlt)
  obtain ⟨h0, h1, vs, h2, h3⟩ := hf k hlt
  exact ⟨b, o, vs, rfl, h0, h1, h2, h3⟩
def knotsB (l : List Cmd) : Bool := l.all fun c => decide ((c.shape.length : Int) ≤ 40)
set_option maxRecDepth 20000 in
set_option maxHeartbeats 4000000 in
theorem knots_any (l : List Cmd) (v : Value) (w : World) (hv : SliceV w v 3 CmdAt l) : Calls Tryd.prog 19 #[v] w fun e w' => e = .returned (.bool (knotsB l)) ∧ w = w' := by
  have HV := Lib.hid hv
  obtain ⟨a, c, rfl, hl, -⟩ := hv
  unfold most at hl
  have HF : Hid (knotsB l = (l.drop 0).all fun c => decide ((c.shape.length : Int) ≤ 40)) := Lib.hid rfl
  go_enter Tryd.func19, Tryd.ntmps19
  go_wp2_with fail
  go_loop [3] (fun i => ∃ k : Nat, k ≤ l.length ∧ i = .int .i64 k ∧ Hid (knotsB l = (l.drop k).all fun c => decide ((c.shape.length : Int) ≤ 40))) (fun i => l.length - (intOf i).toNat)
  case atStart => exact ⟨0, Nat.zero_le _, rfl, HF⟩
  case round =>
    obtain ⟨k, hk, rfl, HA⟩ := hrel
    by_cases hlt : k < l.length
    · obtain ⟨b, o, vs, rfl, c0, c1, c2, hs⟩ := cmd_at HV.out hlt
      obtain ⟨sa, sc, rfl⟩ := hs.shape
      have HST : Hid (((l.drop k).all fun c => decide ((c.shape.length : Int) ≤ 40)) = (decide ((l[k].shape.length : Int) ≤ 40) && (l.drop (k + 1)).all fun c => decide ((c.shape.length : Int) ≤ 40))) := Lib.hid (by rw [List.drop_eq_getElem_cons hlt]; rfl)
      have hlb := cell_lt c0
      clear hs
      generalize l[k] = y at *
      by_cases h40 : (y.shape.length : Int) > 40
      · have hd : decide ((y.shape.length : Int) > 40) = true := decide_eq_true h40
        have hd2 : Hid (decide ((y.shape.length : Int) ≤ 40) = false) := Lib.hid (decide_eq_false (by omega))
        go_wp2_with fail
        go_ret
        exact ⟨ret_bool (by rw [HA.out, HST.out, hd2.out]; rfl), rfl⟩
      · have hd : decide ((y.shape.length : Int) > 40) = false := decide_eq_false h40
        have hd2 : Hid (decide ((y.shape.length : Int) ≤ 40) = true) := Lib.hid (decide_eq_true (by omega))
        go_wp2_with fail
        go_round
        case rel => exact ⟨k + 1, by omega, by go_num, Lib.hid (by rw [HA.out, HST.out, hd2.out, Bool.true_and])⟩
        case measure => simp [intOf]; omega
    · obtain rfl : k = l.length := by omega
      go_wp2_with fail
      go_ret
      exact ⟨ret_bool (by rw [HA.out, List.drop_length]; rfl), rfl⟩
theorem cmdsOk_of {l : List Cmd} (h : (l.length : Int) ≤ 200) : cmdsOk l = l.all cmdOk := by
  unfold cmdsOk
  rw [decide_eq_true h, List.all_eq_not_any_not]; rfl
set_option maxRecDepth 20000 in
set_option maxHeartbeats 4000000 in
theorem refCurved_any (n base : Int) (l : List Cmd) (v : Value) (w : World) (hv : SliceV w v 3 CmdAt l) : Calls Tryd.prog 21 #[.int .i64 n, .int .i64 base, v] w fun e w' => e = .returned (.bool (curveOk n base l)) ∧ Below w.heap.size w w' := by
  have HV := Lib.hid hv
  obtain ⟨a, c, rfl, hl, -⟩ := hv
  unfold most at hl
  cases g1 : betw n 0 4000
  · rw [show curveOk n base l = false by simp [curveOk, g1]]
    go_enter Tryd.func21, Tryd.ntmps21
    go_wp2_with (go_at_call 49; refine (in_any _ _ _ _).mono ?_; rintro e w' ⟨rfl, rfl⟩)
    go_ret
    exact ⟨rfl, Below.refl _ _⟩
  cases g2 : betw base (-100000) 100000
  · rw [show curveOk n base l = false by simp [curveOk, g2]]
    go_enter Tryd.func21, Tryd.ntmps21
    go_wp2_with (go_at_call 49; refine (in_any _ _ _ _).mono ?_; rintro e w' ⟨rfl, rfl⟩)
    go_ret
    exact ⟨rfl, Below.refl _ _⟩
  by_cases g3 : (l.length : Int) > 200
  · have g3' : decide ((l.length : Int) > 200) = true := decide_eq_true g3
    rw [show curveOk n base l = false by simp [curveOk, cmdsOk]; omega]
    go_enter Tryd.func21, Tryd.ntmps21
    go_wp2_with (go_at_call 49; refine (in_any _ _ _ _).mono ?_; rintro e w' ⟨rfl, rfl⟩)
    go_ret
    exact ⟨rfl, Below.refl _ _⟩
  have g3' : decide ((l.length : Int) > 200) = false := decide_eq_false g3
  have HF : Hid (curveOk n base l = (l.drop 0).all cmdOk) := Lib.hid (by unfold curveOk; rw [g1, g2, cmdsOk_of (by omega)]; rfl)
  go_enter Tryd.func21, Tryd.ntmps21
  go_wp2_with (go_at_call 49; refine (in_any _ _ _ _).mono ?_; rintro e w' ⟨rfl, rfl⟩)
  go_loopw [7] (fun i wr => ∃ k : Nat, k ≤ l.length ∧ i = .int .i64 k ∧ Hid (curveOk n base l = (l.drop k).all cmdOk) ∧ Hid (Below w.heap.size w wr)) (fun i _ => l.length - (intOf i).toNat)
  case atStart => exact ⟨0, Nat.zero_le _, rfl, HF, Lib.hid (Below.refl _ _)⟩
  case round =>
    obtain ⟨k, hk, rfl, HA, HB⟩ := hrel
    by_cases hlt : k < l.length
    · obtain ⟨b, o, vs, rfl, c0, c1, c2, hs⟩ := cmd_at (HV.out.keep CmdAt.stable HB.out) hlt
      have HST : Hid ((l.drop k).all cmdOk = (cmdOk l[k] && (l.drop (k + 1)).all cmdOk)) := Lib.hid (by rw [List.drop_eq_getElem_cons hlt]; rfl)
      have hlb := cell_lt c0
      have H17 := Lib.hid (refCommand_any l[k] vs wr hs)
      clear hs
      generalize l[k] = y at *
      cases hy : cmdOk y
      · rw [hy] at H17
        go_wp2_with (go_at_call 17; refine H17.out.mono ?_; rintro e w1 ⟨rfl, hb⟩; have HB1 := Lib.hid (bThen HB.out hb); clear hb)
        go_ret
        exact ⟨ret_bool (by rw [HA.out, HST.out, hy]; rfl), HB1.out⟩
      · rw [hy] at H17
        go_wp2_with (go_at_call 17; refine H17.out.mono ?_; rintro e w1 ⟨rfl, hb⟩; have HB1 := Lib.hid (bThen HB.out hb); clear hb)
        have HN : Hid (curveOk n base l = (l.drop (k + 1)).all cmdOk) := Lib.hid (by rw [HA.out, HST.out, hy, Bool.true_and])
        go_roundw
        case rel =>
          first
            | exact ⟨k + 1, by omega, by go_num, HN, HB1⟩
            | ((repeat apply Exists.intro); refine ⟨?_, rfl⟩; exact ⟨k + 1, by omega, by go_num, HN, HB1⟩)
        case measure => simp [intOf]; omega
    · obtain rfl : k = l.length := by omega
      go_wp2_with fail
      go_ret
      exact ⟨ret_bool (by rw [HA.out, List.drop_length]; rfl), HB.out⟩
theorem curveL_succ (t : Nat) (base : Int) (l : List Cmd) : curveL (t + 1) base l = curveL t base l ++ [curveAt base l l.length t] := by
  simp [curveL, List.range_succ]
theorem curveL_len (t : Nat) (base : Int) (l : List Cmd) : (curveL t base l).length = t := by simp [curveL]
set_option maxRecDepth 20000 in
set_option maxHeartbeats 8000000 in
theorem refCurve_any (n : Nat) (base : Int) (l : List Cmd) (v : Value) (w : World) (hv : SliceV w v 3 CmdAt l) (hn : n ≤ 4000) (hb : -100000 ≤ base ∧ base ≤ 100000) (hl : l.length ≤ 200) (hok : ∀ c ∈ l, cmdOk c = true) :
    Calls Tryd.prog 23 #[.int .i64 n, .int .i64 base, v] w fun e w' => (∃ u, e = .returned u ∧ SliceV w' u 1 IntAt (curveL n base l)) ∧ Below w.heap.size w w' := by
  have HV := Lib.hid hv
  have HOK := Lib.hid hok
  obtain ⟨a, c, rfl, -, -⟩ := hv
  have HCI : Hid (∀ t : Nat, t ≤ 4000 → ∀ i, i ≤ l.length → -1000000000000000000 ≤ curveAt base l i t ∧ curveAt base l i t ≤ 1000000000000000000) := Lib.hid fun t ht i hi => by
    have := curveAt_in base l hb hok t ht i hi; omega
  clear hok
  obtain ⟨i3, hi3, hz3, hs3, hb3⟩ := info_parts info3
  have HI := Lib.hid hi3
  clear hi3
  go_enter Tryd.func23, Tryd.ntmps23
  go_wp2_with fail
  go_loopw [7, 8] (fun u i wr => ∃ t : Nat, t ≤ n ∧ i = .int .i64 t ∧ Hid (wr.ownsRow w.heap.size 3 1 u t (intV (curveL t base l))) ∧ Hid (Below w.heap.size w wr)) (fun _ i _ => n - (intOf i).toNat)
  case atStart => exact ⟨0, Nat.zero_le _, rfl, Lib.hid own_nil, Lib.hid (Below.refl _ _)⟩
  case round =>
    obtain ⟨t, ht, rfl, HR, HB⟩ := hrel
    by_cases hlt : t < n
    · obtain ⟨wo, hwo⟩ : ∃ wo, wo = wr := ⟨_, rfl⟩
      subst hwo
      have HC0 : Hid (base = curveAt base l 0 t) := Lib.hid (by simp [curveAt])
      have HL1 := Lib.hid (curveL_succ t base l)
      go_wp2_with fail
      go_loopw [9, 10] (fun x i wr => ∃ k : Nat, k ≤ l.length ∧ i = .int .i64 k ∧ x = .int .i64 (curveAt base l k t) ∧ Hid (wr.ownsRow w.heap.size 3 1 u7 t (intV (curveL t base l))) ∧ Hid (Below w.heap.size w wr)) (fun _ i _ => l.length - (intOf i).toNat)
      case atStart => exact ⟨0, Nat.zero_le _, rfl, by rw [← HC0.out], HR, HB⟩
      case round =>
        obtain ⟨k, hk, rfl, rfl, HR, HB⟩ := hrel
        by_cases hlt2 : k < l.length
        · obtain ⟨b, o, vs, rfl, c0, c1, c2, hs⟩ := cmd_at (HV.out.keep CmdAt.stable HB.out) hlt2
          have hlb := cell_lt c0
          have hok := HOK.out l[k] (List.getElem_mem hlt2)
          have H18 := Lib.hid (refValue_any l[k] t vs wr hs hok (by omega))
          have h0 := HCI.out t (by omega) k hk
          have h1 := HCI.out t (by omega) (k + 1) hlt2
          have hst := curveAt_succ base l k t hlt2
          rw [hst] at h1
          have HST := Lib.hid hst
          clear hs hok hst
          generalize cmdVal l[k] (t : Int) = cv at *
          generalize l[k] = y at *
          generalize curveAt base l k t = ca at *
          go_wp2_with (go_at_call 18; refine H18.out.mono ?_; rintro e w1 ⟨rfl, hb⟩; have HB1 := Lib.hid (bThen HB.out hb); have HR1 := Lib.hid (ownsRow_below HR.out hb); clear hb)
          go_roundw
          case rel =>
            first
              | exact ⟨k + 1, by omega, by go_num, by rw [HST.out], HR1, HB1⟩
              | ((repeat apply Exists.intro); refine ⟨?_, rfl⟩; exact ⟨k + 1, by omega, by go_num, by rw [HST.out], HR1, HB1⟩)
          case measure => simp [intOf]; omega
        · obtain rfl : k = l.length := by omega
          generalize curveAt base l l.length t = ca at *
          go_wp2_with (at_builtin; go_loud (refine wpList_append_own _ rfl _ _ 34 rfl w.heap.size 3 i3 (.int .i64 0) 1 8 Tryd.underlying34 HI.out hz3 hs3 hb3 rfl (by decide) u7 _ _ rfl (HR.out.alloc _) ⟨wr.heap.size, 0, none⟩ 1 1 _ rfl (by rfl) (cell_one_new _ _ _) (by simp [Value.oneCell']) (by unfold maxLen; omega) (by omega) (by have := HB.out.size; simp; omega) ?_); intro v' w5 hown' hgrow _; have HU := Lib.hid (And.intro hown' hgrow); clear hown' hgrow)
          obtain ⟨hown', hgrow⟩ := HU.out
          have HB5 := Lib.hid (HB.out.trans (own_step HB.out.size HR.out hgrow))
          have HR5 : Hid (w5.ownsRow w.heap.size 3 1 v' (t + 1) (intV (curveL (t + 1) base l))) := Lib.hid (by
            rw [HL1.out]
            have h := hown'
            simpa [intV] using h)
          clear hown' hgrow
          go_roundw
          case rel =>
            first
              | exact ⟨t + 1, by omega, by go_num, HR5, HB5⟩
              | ((repeat apply Exists.intro); refine ⟨?_, rfl⟩; exact ⟨t + 1, by omega, by go_num, HR5, HB5⟩)
          case measure => simp [intOf]; omega
    · obtain rfl : t = n := by omega
      have HF : Hid (∀ W u, W.ownsRow w.heap.size 3 1 u t (intV (curveL t base l)) → SliceV W u 1 IntAt (curveL t base l)) := Lib.hid fun W u h => vals_slice (by rw [curveL_len]; exact h) (by rw [curveL_len]; omega)
      go_wp2_with fail
      go_ret
      exact ⟨⟨_, rfl, HF.out _ _ HR.out⟩, HB.out⟩
end Go.Proofs.YtejcbcjhmnhefaaDoor
