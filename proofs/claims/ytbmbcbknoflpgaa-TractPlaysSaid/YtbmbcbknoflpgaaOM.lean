/- Contracts: plays that are not too long. Contracts: steps without feeds, at once; what was heard, compared. Contracts: two tubes side by side; a step as the laws make it; what was heard, compared. Contracts: lists of what was heard, appended to; the box of a play. -/
import Derived.Test.YtbmbcbknoflpgaaC1
import Derived.Test.YtbmbcbknoflpgaaD1
import Derived.Test.YtbmbcbknoflpgaaI3
import Derived.Lib.Hide
import Derived.Test.YtbmbcbknoflpgaaC2
import Derived.Test.YtbmbcbknoflpgaaK9
set_option linter.unusedSimpArgs false
set_option linter.unusedVariables false
namespace Go.Proofs.Ytbmbcbknoflpgaa
open Go.RowKit

/-- A tube, and what is done with it. -/
structure Ply where
  s : Shp
  feeds : List (List Fd)
  areas : List (List Int)
  branch : List (List Int)
def FdsAt (w : World) (b o : Nat) (l : List Fd) : Prop := ∃ v, w.cell? ⟨b, o, none⟩ = some v ∧ SliceV w v 2 FdAt l
theorem FdsAt.stable : Stable FdsAt := fun _ _ _ _ _ hB ⟨v, h, hs⟩ => ⟨v, Go.Proofs.Ytbmbcbknoflpgaa.keep hB h, hs.keep FdAt.stable hB⟩
structure PlyV (w : World) (va vb vf vA vB : Value) (x : Ply) : Prop where
  shape : SliceV w va 1 IntAt x.s.areas
  side : SliceV w vb 1 IntAt x.s.branch
  feeds : SliceV w vf 1 FdsAt x.feeds
  areas : SliceV w vA 1 WaveAt x.areas
  branch : SliceV w vB 1 WaveAt x.branch
theorem PlyV.keep {w w' : World} {va vb vf vA vB : Value} {x : Ply} (h : PlyV w va vb vf vA vB x) (hB : Below w.heap.size w w') : PlyV w' va vb vf vA vB x :=
  ⟨h.1.keep IntAt.stable hB, h.2.keep IntAt.stable hB, h.3.keep FdsAt.stable hB, h.4.keep WaveAt.stable hB, h.5.keep WaveAt.stable hB⟩
/-- What is a play that is not too long. -/
def plyOk (x : Ply) : Bool := (decide ((x.s.areas.length : Int) ≤ 40) && decide ((x.s.branch.length : Int) ≤ 40)) && decide (x.feeds.length ≤ 60) && decide (x.areas.length ≤ 60) && decide (x.branch.length ≤ 60) && x.feeds.all (fun l => decide (l.length ≤ 30)) && x.areas.all (fun l => decide (l.length ≤ 40)) && x.branch.all (fun l => decide (l.length ≤ 40))
theorem fds_at {W w : World} {v : Value} {l : List (List Fd)} {k : Nat} (h : SliceV w v 1 FdsAt l) (hB : Below w.heap.size w W) (hk : k < l.length) : ∃ b o c u, v = .slice (some ⟨b, o, none⟩) l.length c ∧ W.cell? ⟨b, o + k, none⟩ = some u ∧ SliceV W u 2 FdAt l[k] ∧ b < W.heap.size := by
  have h1 := h.keep FdsAt.stable hB
  obtain ⟨a, c, rfl, -⟩ := id h
  obtain ⟨b, o, rfl, hx⟩ := h1.at (by intro e; rw [e] at hk; simp at hk)
  obtain ⟨u, h2, h3⟩ := hx k hk
  rw [Nat.mul_one] at h2
  exact ⟨b, o, c, u, rfl, h2, h3, cell_lt h2⟩
theorem wav_at {W w : World} {v : Value} {l : List (List Int)} {k : Nat} (h : SliceV w v 1 WaveAt l) (hB : Below w.heap.size w W) (hk : k < l.length) : ∃ b o c u, v = .slice (some ⟨b, o, none⟩) l.length c ∧ W.cell? ⟨b, o + k, none⟩ = some u ∧ SliceV W u 1 IntAt l[k] ∧ b < W.heap.size := by
  have h1 := h.keep WaveAt.stable hB
  obtain ⟨a, c, rfl, -⟩ := id h
  obtain ⟨b, o, rfl, hx⟩ := h1.at (by intro e; rw [e] at hk; simp at hk)
  obtain ⟨u, h2, h3⟩ := hx k hk
  rw [Nat.mul_one] at h2
  exact ⟨b, o, c, u, rfl, h2, h3, cell_lt h2⟩
set_option maxRecDepth 10000 in
set_option maxHeartbeats 1000000 in
theorem shrt_any (s : Shp) (va vb : Value) (w : World) (ha : SliceV w va 1 IntAt s.areas) (hb : SliceV w vb 1 IntAt s.branch) :
    Calls Try.prog 16 #[.agg #[va, vb, .int .i64 s.joint, .int .i64 s.glottis, .int .i64 s.lips, .int .i64 s.nose]] w fun e w' => e = .returned (.bool (decide ((s.areas.length : Int) ≤ 40) && decide ((s.branch.length : Int) ≤ 40))) ∧ Below w.heap.size w w' := by
  obtain ⟨al, bl, j, g, li, no⟩ := s
  simp only at ha hb ⊢
  obtain ⟨a, c, rfl, hl, -⟩ := ha
  obtain ⟨b, d, rfl, hm, -⟩ := hb
  unfold most at hl hm
  generalize al.length = L at *
  generalize bl.length = M at *
  by_cases h1 : (L : Int) ≤ 40
  · by_cases h2 : (M : Int) ≤ 40
    · rw [decide_eq_true h1, decide_eq_true h2]
      go_enter Try.func16, Try.ntmps16
      go_wp2_with fail
      go_ret
      exact ⟨ret_bool (by simp_all), bAlloc (Below.refl _ _) _⟩
    · rw [decide_eq_true h1, decide_eq_false h2]
      go_enter Try.func16, Try.ntmps16
      go_wp2_with fail
      go_ret
      exact ⟨ret_bool (by simp_all), bAlloc (Below.refl _ _) _⟩
  · rw [decide_eq_false h1]
    go_enter Try.func16, Try.ntmps16
    go_wp2_with fail
    go_ret
    exact ⟨ret_bool (by simp_all), bAlloc (Below.refl _ _) _⟩
set_option maxRecDepth 10000 in
set_option maxHeartbeats 4000000 in
theorem fits_any (x : Ply) (va vb vf vA vB : Value) (w : World) (h : PlyV w va vb vf vA vB x) :
    Calls Try.prog 24 #[.agg #[va, vb, .int .i64 x.s.joint, .int .i64 x.s.glottis, .int .i64 x.s.lips, .int .i64 x.s.nose, vf, vA, vB]] w fun e w' => e = .returned (.bool (plyOk x)) ∧ Below w.heap.size w w' := by
  have HSH := Lib.hid (fun W (hB : Below w.heap.size w W) => shrt_any x.s va vb W (h.1.keep IntAt.stable hB) (h.2.keep IntAt.stable hB))
  obtain ⟨h1, h2, h3, h4, h5⟩ := h
  have HF := Lib.hid h3
  have HAA := Lib.hid h4
  have HBB := Lib.hid h5
  obtain ⟨ok, hok⟩ : ∃ ok, plyOk x = ok := ⟨_, rfl⟩
  rw [hok]
  obtain ⟨⟨al, bl, j, g, li, no⟩, fs, ls, bs⟩ := x
  simp only at h1 h2 h3 h4 h5 HSH HF HAA HBB ⊢
  have hd : plyOk ⟨⟨al, bl, j, g, li, no⟩, fs, ls, bs⟩ = ((decide ((al.length : Int) ≤ 40) && decide ((bl.length : Int) ≤ 40)) && decide (fs.length ≤ 60) && decide (ls.length ≤ 60) && decide (bs.length ≤ 60) && fs.all (fun l => decide (l.length ≤ 30)) && ls.all (fun l => decide (l.length ≤ 40)) && bs.all (fun l => decide (l.length ≤ 40))) := rfl
  rw [hd] at hok
  clear hd
  obtain ⟨a1, c1, rfl, -⟩ := h1
  obtain ⟨a2, c2, rfl, -⟩ := h2
  obtain ⟨a3, c3, rfl, hm3, -⟩ := h3
  obtain ⟨a4, c4, rfl, hm4, -⟩ := h4
  obtain ⟨a5, c5, rfl, hm5, -⟩ := h5
  unfold most at hm3 hm4 hm5
  generalize al.length = n1 at *
  generalize bl.length = n2 at *
  generalize (decide ((n1 : Int) ≤ 40) && decide ((n2 : Int) ≤ 40)) = q1 at *
  have HB1 := Lib.hid (bAlloc (Below.refl w.heap.size w) (.cells #[.slice a1 n1 c1, .slice a2 n2 c2, .int .i64 j, .int .i64 g, .int .i64 li, .int .i64 no, .slice a3 fs.length c3, .slice a4 ls.length c4, .slice a5 bs.length c5] 39))
  have C0 : Hid ((w.alloc (.cells #[.slice a1 n1 c1, .slice a2 n2 c2, .int .i64 j, .int .i64 g, .int .i64 li, .int .i64 no, .slice a3 fs.length c3, .slice a4 ls.length c4, .slice a5 bs.length c5] 39)).cell? ⟨w.heap.size, 6, none⟩ = some (.slice a3 fs.length c3)) := Lib.hid (cell_new rfl)
  have C1 : Hid ((w.alloc (.cells #[.slice a1 n1 c1, .slice a2 n2 c2, .int .i64 j, .int .i64 g, .int .i64 li, .int .i64 no, .slice a3 fs.length c3, .slice a4 ls.length c4, .slice a5 bs.length c5] 39)).cell? ⟨w.heap.size, 7, none⟩ = some (.slice a4 ls.length c4)) := Lib.hid (cell_new rfl)
  have C2 : Hid ((w.alloc (.cells #[.slice a1 n1 c1, .slice a2 n2 c2, .int .i64 j, .int .i64 g, .int .i64 li, .int .i64 no, .slice a3 fs.length c3, .slice a4 ls.length c4, .slice a5 bs.length c5] 39)).cell? ⟨w.heap.size, 8, none⟩ = some (.slice a5 bs.length c5)) := Lib.hid (cell_new rfl)
  cases q1
  · have HOUT : Hid (ok = false) := Lib.hid (by rw [← hok]; rfl)
    clear hok
    go_enter Try.func24, Try.ntmps24
    go_wp2_with (go_at_call 16; with_reducible refine Calls.mono (HSH.out _ HB1.out) ?_; rintro e w2 ⟨rfl, hb⟩; have HB2 := Lib.hid (bThen HB1.out hb); have d0 := keep hb C0.out; have d1 := keep hb C1.out; have d2 := keep hb C2.out; have ld := cell_lt d0; clear hb)
    all_goals first | (exfalso; omega) | skip
    go_ret
    exact ⟨by rw [HOUT.out]; rfl, HB2.out⟩
  rw [Bool.true_and] at hok
  by_cases e2 : fs.length ≤ 60
  case neg =>
    have HOUT : Hid (ok = false) := Lib.hid (by rw [← hok, decide_eq_false e2]; rfl)
    have e21 : (fs.length : Int) > 60 := by omega
    clear hok
    go_enter Try.func24, Try.ntmps24
    go_wp2_with (go_at_call 16; with_reducible refine Calls.mono (HSH.out _ HB1.out) ?_; rintro e w2 ⟨rfl, hb⟩; have HB2 := Lib.hid (bThen HB1.out hb); have d0 := keep hb C0.out; have d1 := keep hb C1.out; have d2 := keep hb C2.out; have ld := cell_lt d0; clear hb)
    all_goals first | (exfalso; omega) | skip
    go_ret
    exact ⟨by rw [HOUT.out]; rfl, HB2.out⟩
  have e21 : ¬ (fs.length : Int) > 60 := by omega
  rw [decide_eq_true e2, Bool.true_and] at hok
  by_cases e3 : ls.length ≤ 60
  case neg =>
    have HOUT : Hid (ok = false) := Lib.hid (by rw [← hok, decide_eq_false e3]; rfl)
    have e31 : (ls.length : Int) > 60 := by omega
    clear hok
    go_enter Try.func24, Try.ntmps24
    go_wp2_with (go_at_call 16; with_reducible refine Calls.mono (HSH.out _ HB1.out) ?_; rintro e w2 ⟨rfl, hb⟩; have HB2 := Lib.hid (bThen HB1.out hb); have d0 := keep hb C0.out; have d1 := keep hb C1.out; have d2 := keep hb C2.out; have ld := cell_lt d0; clear hb)
    all_goals first | (exfalso; omega) | skip
    go_ret
    exact ⟨by rw [HOUT.out]; rfl, HB2.out⟩
  have e31 : ¬ (ls.length : Int) > 60 := by omega
  rw [decide_eq_true e3, Bool.true_and] at hok
  by_cases e4 : bs.length ≤ 60
  case neg =>
    have HOUT : Hid (ok = false) := Lib.hid (by rw [← hok, decide_eq_false e4]; rfl)
    have e41 : (bs.length : Int) > 60 := by omega
    clear hok
    go_enter Try.func24, Try.ntmps24
    go_wp2_with (go_at_call 16; with_reducible refine Calls.mono (HSH.out _ HB1.out) ?_; rintro e w2 ⟨rfl, hb⟩; have HB2 := Lib.hid (bThen HB1.out hb); have d0 := keep hb C0.out; have d1 := keep hb C1.out; have d2 := keep hb C2.out; have ld := cell_lt d0; clear hb)
    all_goals first | (exfalso; omega) | skip
    go_ret
    exact ⟨by rw [HOUT.out]; rfl, HB2.out⟩
  have e41 : ¬ (bs.length : Int) > 60 := by omega
  rw [decide_eq_true e4, Bool.true_and] at hok
  have HOK := Lib.hid hok
  clear hok e2 e3 e4
  go_enter Try.func24, Try.ntmps24
  go_wp2_with (go_at_call 16; with_reducible refine Calls.mono (HSH.out _ HB1.out) ?_; rintro e w2 ⟨rfl, hb⟩; have HB2 := Lib.hid (bThen HB1.out hb); have d0 := keep hb C0.out; have d1 := keep hb C1.out; have d2 := keep hb C2.out; have ld := cell_lt d0; clear hb)
  all_goals first | (exfalso; omega) | skip

  have K0 := Lib.hid d0
  have K1 := Lib.hid d1
  have K2 := Lib.hid d2
  obtain ⟨bx, hbx⟩ : ∃ bx, w.heap.size = bx := ⟨_, rfl⟩
  have HBXX := Lib.hid hbx
  rw [hbx] at K0 K1 K2 ⊢
  clear d0 d1 d2 ld C0 C1 C2 hbx
  go_loopw [3] (fun i wr => ∃ k : Nat, k ≤ fs.length ∧ i = .int .i64 k ∧ Hid ((fs.take k).all (fun l => decide (l.length ≤ 30)) = true) ∧ Hid (Below w2.heap.size w2 wr)) (fun i _ => fs.length - (intOf i).toNat)
  case atStart => exact ⟨0, Nat.zero_le _, rfl, Lib.hid rfl, Lib.hid (Below.refl _ _)⟩
  case round =>
    obtain ⟨k, hk, rfl, HKK, HB⟩ := hrel
    have d0 := keep HB.out K0.out
    have ld := cell_lt d0
    by_cases hlt : k < fs.length
    · obtain ⟨b, o, x1, u, e1, p1, q1, r1⟩ := fds_at HF.out (bThen HB2.out HB.out) hlt
      obtain ⟨rfl, -, rfl⟩ := Value.slice.inj e1
      obtain ⟨ua, uc, rfl, hml, -⟩ := q1
      unfold most at hml
      have HT2 : Hid ((fs.take (k + 1)).all (fun l => decide (l.length ≤ 30)) = ((fs.take k).all (fun l => decide (l.length ≤ 30)) && decide (fs[k].length ≤ 30))) := Lib.hid (by rw [take_succ fs k hlt, List.all_append]; simp)
      have HIN : Hid (fs[k] ∈ fs) := Lib.hid (List.getElem_mem hlt)
      have hkk : (k : Int) < (fs.length : Int) := by omega
      clear e1
      generalize fs[k] = y at *
      by_cases hy : y.length ≤ 30
      · have hy1 : ¬ (y.length : Int) > 30 := by omega
        have HYY := Lib.hid hy
        clear hy
        go_wp2_with fail
        go_roundw
        case rel => exact ⟨k + 1, by omega, by go_num, Lib.hid (by rw [HT2.out, HKK.out, decide_eq_true HYY.out]; rfl), HB⟩
        case measure => simp [intOf]; omega
      · have hy1 : (y.length : Int) > 30 := by omega
        have HOUT : Hid (ok = false) := Lib.hid (by
          rw [← HOK.out, List.all_eq_false.2 ⟨_, HIN.out, by simp; omega⟩]; rfl)
        clear hy
        go_wp2_with fail
        go_ret
        exact ⟨by rw [HOUT.out]; rfl, by (try rw [← HBXX.out]); exact bThen HB2.out HB.out⟩
    · obtain rfl : k = fs.length := by omega
      have hkf := HKK.out
      rw [List.take_length] at hkf
      have hok := HOK.out
      rw [hkf, Bool.true_and] at hok
      have HOK2 := Lib.hid hok
      have HB3 := Lib.hid (bThen HB2.out HB.out)
      have K1' := Lib.hid (keep HB.out K1.out)
      have K2' := Lib.hid (keep HB.out K2.out)
      obtain ⟨w3, hw3⟩ : ∃ w3, w3 = wr := ⟨_, rfl⟩
      subst hw3
      clear HKK HB HB2 K0 K1 K2 HOK hkf hok HF
      go_wp2_with fail
      clear d0 ld
      go_loopw [4] (fun i wr => ∃ k : Nat, k ≤ ls.length ∧ i = .int .i64 k ∧ Hid ((ls.take k).all (fun l => decide (l.length ≤ 40)) = true) ∧ Hid (Below w3.heap.size w3 wr)) (fun i _ => ls.length - (intOf i).toNat)
      case atStart => exact ⟨0, Nat.zero_le _, rfl, Lib.hid rfl, Lib.hid (Below.refl _ _)⟩
      case round =>
        obtain ⟨k, hk, rfl, HKK, HB⟩ := hrel
        have d0 := keep HB.out K1'.out
        have ld := cell_lt d0
        by_cases hlt : k < ls.length
        · obtain ⟨b, o, x1, u, e1, p1, q1, r1⟩ := wav_at HAA.out (bThen HB3.out HB.out) hlt
          obtain ⟨rfl, -, rfl⟩ := Value.slice.inj e1
          obtain ⟨ua, uc, rfl, hml, -⟩ := q1
          unfold most at hml
          have HT2 : Hid ((ls.take (k + 1)).all (fun l => decide (l.length ≤ 40)) = ((ls.take k).all (fun l => decide (l.length ≤ 40)) && decide (ls[k].length ≤ 40))) := Lib.hid (by rw [take_succ ls k hlt, List.all_append]; simp)
          have HIN : Hid (ls[k] ∈ ls) := Lib.hid (List.getElem_mem hlt)
          have hkk : (k : Int) < (ls.length : Int) := by omega
          clear e1
          generalize ls[k] = y at *
          by_cases hy : y.length ≤ 40
          · have hy1 : ¬ (y.length : Int) > 40 := by omega
            have HYY := Lib.hid hy
            clear hy
            go_wp2_with fail
            go_roundw
            case rel => exact ⟨k + 1, by omega, by go_num, Lib.hid (by rw [HT2.out, HKK.out, decide_eq_true HYY.out]; rfl), HB⟩
            case measure => simp [intOf]; omega
          · have hy1 : (y.length : Int) > 40 := by omega
            have HOUT : Hid (ok = false) := Lib.hid (by
              rw [← HOK2.out, List.all_eq_false.2 ⟨_, HIN.out, by simp; omega⟩]; rfl)
            clear hy
            go_wp2_with fail
            go_ret
            exact ⟨by rw [HOUT.out]; rfl, by (try rw [← HBXX.out]); exact bThen HB3.out HB.out⟩
        · obtain rfl : k = ls.length := by omega
          have hkf := HKK.out
          rw [List.take_length] at hkf
          have hok := HOK2.out
          rw [hkf, Bool.true_and] at hok
          have HOK3 := Lib.hid hok
          have HB4 := Lib.hid (bThen HB3.out HB.out)
          have K3' := Lib.hid (keep HB.out K2'.out)
          obtain ⟨w4, hw4⟩ : ∃ w4, w4 = wr := ⟨_, rfl⟩
          subst hw4
          clear HKK HB HB3 K1' K2' HOK2 hkf hok HAA
          go_wp2_with fail
          clear d0 ld
          go_loopw [5] (fun i wr => ∃ k : Nat, k ≤ bs.length ∧ i = .int .i64 k ∧ Hid ((bs.take k).all (fun l => decide (l.length ≤ 40)) = true) ∧ Hid (Below w4.heap.size w4 wr)) (fun i _ => bs.length - (intOf i).toNat)
          case atStart => exact ⟨0, Nat.zero_le _, rfl, Lib.hid rfl, Lib.hid (Below.refl _ _)⟩
          case round =>
            obtain ⟨k, hk, rfl, HKK, HB⟩ := hrel
            have d0 := keep HB.out K3'.out
            have ld := cell_lt d0
            by_cases hlt : k < bs.length
            · obtain ⟨b, o, x1, u, e1, p1, q1, r1⟩ := wav_at HBB.out (bThen HB4.out HB.out) hlt
              obtain ⟨rfl, -, rfl⟩ := Value.slice.inj e1
              obtain ⟨ua, uc, rfl, hml, -⟩ := q1
              unfold most at hml
              have HT2 : Hid ((bs.take (k + 1)).all (fun l => decide (l.length ≤ 40)) = ((bs.take k).all (fun l => decide (l.length ≤ 40)) && decide (bs[k].length ≤ 40))) := Lib.hid (by rw [take_succ bs k hlt, List.all_append]; simp)
              have HIN : Hid (bs[k] ∈ bs) := Lib.hid (List.getElem_mem hlt)
              have hkk : (k : Int) < (bs.length : Int) := by omega
              clear e1
              generalize bs[k] = y at *
              by_cases hy : y.length ≤ 40
              · have hy1 : ¬ (y.length : Int) > 40 := by omega
                have HYY := Lib.hid hy
                clear hy
                go_wp2_with fail
                go_roundw
                case rel => exact ⟨k + 1, by omega, by go_num, Lib.hid (by rw [HT2.out, HKK.out, decide_eq_true HYY.out]; rfl), HB⟩
                case measure => simp [intOf]; omega
              · have hy1 : (y.length : Int) > 40 := by omega
                have HOUT : Hid (ok = false) := Lib.hid (by
                  rw [← HOK3.out]
                  exact List.all_eq_false.2 ⟨_, HIN.out, by simp; omega⟩)
                clear hy
                go_wp2_with fail
                go_ret
                exact ⟨by rw [HOUT.out]; rfl, by (try rw [← HBXX.out]); exact bThen HB4.out HB.out⟩
            · obtain rfl : k = bs.length := by omega
              have hkf := HKK.out
              rw [List.take_length, HOK3.out] at hkf
              have HE := Lib.hid hkf
              clear hkf
              go_wp2_with fail
              go_ret
              exact ⟨by rw [HE.out]; rfl, by (try rw [← HBXX.out]); exact bThen HB4.out HB.out⟩
end Go.Proofs.Ytbmbcbknoflpgaa
namespace Go.Proofs.Ytbmbcbknoflpgaa
open Go.RowKit

theorem Kept.andB {w w' w2 : World} {a b : Nat} (h : Kept w w' a b) (k : Below w'.heap.size w' w2) : Kept w w2 a b :=
  ⟨k.os.trans h.os, k.tape.trans h.tape, k.output.trans h.output, Nat.le_trans h.size k.size, fun i hi ha hb => (k.block i (Nat.lt_of_lt_of_le hi h.size)).trans (h.block i hi ha hb)⟩
theorem Kept.and {w w' w2 : World} {a b : Nat} (h : Kept w w' a b) (k : Kept w' w2 a b) : Kept w w2 a b :=
  ⟨k.os.trans h.os, k.tape.trans h.tape, k.output.trans h.output, Nat.le_trans h.size k.size, fun i hi ha hb => (k.block i (Nat.lt_of_lt_of_le hi h.size) ha hb).trans (h.block i hi ha hb)⟩
/-- What was heard: at the lips, and at the nose. -/
def HdAt (w : World) (b o : Nat) (h : Int × Int) : Prop := IntAt w b o h.1 ∧ IntAt w b (o + 1) h.2
theorem HdAt.stable : Stable HdAt := fun _ _ _ _ _ hB ⟨h1, h2⟩ => ⟨keep hB h1, keep hB h2⟩
/-- The state after so many steps without feeds, and what is heard at each. -/
def quF (al : List Int) (ps : List Plc) (steps : Nat) (f : Nat → Int) : Nat → Nat → Int
  | 0 => f
  | k + 1 => stpF al ps (steps + k) (quF al ps steps f k)
def quH (al : List Int) (main : Nat) (ps : List Plc) (steps : Nat) (f : Nat → Int) (k : Nat) : Int × Int := (lipF al main ps (steps + k) (quF al ps steps f k), nosF al main ps (steps + k) (quF al ps steps f k))
def hdv (H : Nat → Int × Int) (k j : Nat) : Int := if j / 2 < k then (if j % 2 = 0 then (H (j / 2)).1 else (H (j / 2)).2) else 0
theorem hdv_set (H : Nat → Int × Int) (k j : Nat) : hdv H (k + 1) j = if j = k * 2 + 1 then (H k).2 else if j = k * 2 then (H k).1 else hdv H k j := by
  unfold hdv
  by_cases h1 : j = k * 2 + 1
  · subst h1
    rw [if_pos rfl, if_pos (by omega), if_neg (by omega), show (k * 2 + 1) / 2 = k by omega]
  · rw [if_neg h1]
    by_cases h2 : j = k * 2
    · subst h2
      rw [if_pos rfl, if_pos (by omega), if_pos (by omega), show k * 2 / 2 = k by omega]
    · rw [if_neg h2]
      by_cases h3 : j / 2 < k
      · rw [if_pos h3, if_pos (by omega)]
      · rw [if_neg h3, if_neg (by omega)]
theorem infoHds : (Try.prog.info? 51).map (fun i => (i.zero, i.size, i.bytes)) = some (some (.agg #[.int .i64 0, .int .i64 0]), 2, 16) := by kernel_rfl
theorem makeH (n : Nat) (hn : n ≤ 100000) (W : World) : (Instr.makeSlice 60 (.int .i64 (n : Int)) (.int .i64 (n : Int))).run Try.prog W = .ok (.slice (some ⟨W.heap.size, 0, none⟩) n n) (W.alloc (.cells (madeCells #[Value.int .i64 0, Value.int .i64 0] (n * 2)) 51)) := by
  obtain ⟨i3, hi3, hz3, hs3, hb3⟩ := info_parts infoHds
  have h := run_makeSlice (P := Try.prog) (w := W) 60 51 i3 _ Try.underlying60 hi3 hz3 .i64 .i64 (n : Int) (n : Int) (by omega) (by omega) (by rw [hs3]; omega) (by rw [hb3]; omega) (by omega)
  rw [hs3] at h
  simpa [Value.cells] using h
/-- A row of what was heard, as a slice. -/
theorem hd_slice {W : World} {g n : Nat} {H : Nat → Int × Int} (h : W.rowIs g 51 (n * 2) (fun j => .int .i64 (hdv H n j))) (hn : n ≤ 1000000) : SliceV W (.slice (some ⟨g, 0, none⟩) n n) 2 HdAt ((List.range n).map H) := by
  refine ⟨_, n, by simp, ⟨by simp [most]; omega, by simp⟩, .inr ⟨g, 0, rfl, fun i hi => ?_⟩⟩
  simp only [List.length_map, List.length_range] at hi
  rw [List.getElem_map, List.getElem_range]
  have h1 := h.cell (i := i * 2) (by omega)
  have h2 := h.cell (i := i * 2 + 1) (by omega)
  have e1 : hdv H n (i * 2) = (H i).1 := by unfold hdv; rw [if_pos (by omega), if_pos (by omega), show i * 2 / 2 = i by omega]
  have e2 : hdv H n (i * 2 + 1) = (H i).2 := by unfold hdv; rw [if_pos (by omega), if_neg (by omega), show (i * 2 + 1) / 2 = i by omega]
  rw [e1] at h1
  rw [e2] at h2
  exact ⟨by unfold IntAt; rw [Nat.zero_add]; exact h1, by unfold IntAt; rw [Nat.zero_add]; exact h2⟩
set_option maxRecDepth 10000 in
set_option maxHeartbeats 1000000 in
theorem Rest_bad {base tb main steps wb : Nat} {w : World} {al : List Int} {ps : List Plc} {f : Nat → Int} (h : TubeIs base w tb al main ps steps wb f) (ok : TubeOk al main ps) (n : Int) (hn : n < 0 ∨ 100000 < n) :
    Calls Try.prog 35 #[.pointer (some ⟨tb, 0, none⟩), .int .i64 n] w fun e w' => e = .returned (.tuple #[.slice none 0 0, .int .i64 2]) ∧ w = w' := by
  obtain ⟨av, ac, pa, pc, xs, ht, -, -, -⟩ := h.cells (by have := ok.n48; omega)
  have HN := Lib.hid (isNone_any tb main w ht.main)
  rw [decide_eq_false (by have := ok.m1; omega)] at HN
  have HBT := Lib.hid (between_any n 0 100000)
  rw [show betw n 0 100000 = false by rw [← Bool.not_eq_true, betw_iff]; omega] at HBT
  clear h ht ok hn
  go_enter Try.func35, Try.ntmps35
  go_wp2_with (first
    | (go_at_call 62; with_reducible refine Calls.mono HN.out ?_; rintro e w1 ⟨rfl, rfl⟩)
    | (go_at_call 71; with_reducible refine Calls.mono (HBT.out _) ?_; rintro e w1 ⟨rfl, rfl⟩))
  go_ret2
  exact ⟨rfl, rfl⟩
set_option maxRecDepth 10000 in
set_option maxHeartbeats 1000000 in
theorem Rest_long {base tb main steps wb : Nat} {w : World} {al : List Int} {ps : List Plc} {f : Nat → Int} (h : TubeIs base w tb al main ps steps wb f) (ok : TubeOk al main ps) (hst : steps ≤ 100000) (n : Nat) (hn : n ≤ 100000) (hs : 100000 < steps + n) :
    Calls Try.prog 35 #[.pointer (some ⟨tb, 0, none⟩), .int .i64 (n : Int)] w fun e w' => e = .returned (.tuple #[.slice none 0 0, .int .i64 4]) ∧ w = w' := by
  obtain ⟨av, ac, pa, pc, xs, ht, -, -, -⟩ := h.cells (by have := ok.n48; omega)
  have HN := Lib.hid (isNone_any tb main w ht.main)
  rw [decide_eq_false (by have := ok.m1; omega)] at HN
  have HBT := Lib.hid (between_any (n : Int) 0 100000)
  rw [show betw (n : Int) 0 100000 = true by rw [betw_iff]; omega] at HBT
  have c4 := ht.steps
  have hl := cell_lt c4
  have u1 : IntKind.i64.wrap ((steps : Int) + (n : Int)) = (steps : Int) + n := IntWalk.i64_in _ (by omega)
  have h1 : (steps : Int) + n > 100000 := by omega
  clear h ht ok hn hst hs
  go_enter Try.func35, Try.ntmps35
  go_wp2_with (first
    | (go_at_call 62; with_reducible refine Calls.mono HN.out ?_; rintro e w1 ⟨rfl, rfl⟩)
    | (go_at_call 71; with_reducible refine Calls.mono (HBT.out _) ?_; rintro e w1 ⟨rfl, rfl⟩))
  go_ret2
  exact ⟨rfl, rfl⟩
set_option maxRecDepth 10000 in
set_option maxHeartbeats 4000000 in
theorem Rest_ok {base tb main steps wb : Nat} {w : World} {al : List Int} {ps : List Plc} {f : Nat → Int} (h : TubeIs base w tb al main ps steps wb f) (ok : TubeOk al main ps) (n : Nat) (hn : steps + n ≤ 100000) :
    Calls Try.prog 35 #[.pointer (some ⟨tb, 0, none⟩), .int .i64 (n : Int)] w fun e w' => (∃ g, e = .returned (.tuple #[.slice (some ⟨g, 0, none⟩) n n, .int .i64 0]) ∧ w.heap.size ≤ g ∧ w'.rowIs g 51 (n * 2) (fun j => .int .i64 (hdv (quH al main ps steps f) n j))) ∧ TubeIs base w' tb al main ps (steps + n) wb (quF al ps steps f n) ∧ Kept w w' wb tb := by
  obtain ⟨av, ac, pa, pc, xs, ht, -, -, -⟩ := h.cells (by have := ok.n48; omega)
  have HN := Lib.hid (isNone_any tb main w ht.main)
  rw [decide_eq_false (by have := ok.m1; omega)] at HN
  have HBT := Lib.hid (between_any (n : Int) 0 100000)
  rw [show betw (n : Int) 0 100000 = true by rw [betw_iff]; omega] at HBT
  have c4 := ht.steps
  have hl := cell_lt c4
  have HLT : Hid (tb < w.heap.size ∧ wb < w.heap.size) := Lib.hid ⟨hl, h.3.lt⟩
  have u1 : IntKind.i64.wrap ((steps : Int) + (n : Int)) = (steps : Int) + n := IntWalk.i64_in _ (by omega)
  have h1 : ¬ (steps : Int) + n > 100000 := by omega
  have hmk := fun W => makeH n (by omega) W
  have HOK := Lib.hid ok
  have HSN := Lib.hid hn
  have HT := Lib.hid h
  clear h ht ok
  go_enter Try.func35, Try.ntmps35
  go_wp2_with (first
    | (go_at_call 62; with_reducible refine Calls.mono HN.out ?_; rintro e w1 ⟨rfl, rfl⟩)
    | (go_at_call 71; with_reducible refine Calls.mono (HBT.out _) ?_; rintro e w1 ⟨rfl, rfl⟩))
  obtain ⟨g, hg⟩ : ∃ g, w.heap.size = g := ⟨_, rfl⟩
  have HG := Lib.hid hg
  have HB1 := Lib.hid (bAlloc (Below.refl w.heap.size w) (.cells (madeCells #[Value.int .i64 0, Value.int .i64 0] (n * 2)) 51))
  have HR1 : Hid ((w.alloc (.cells (madeCells #[Value.int .i64 0, Value.int .i64 0] (n * 2)) 51)).rowIs g 51 (n * 2) (fun j => .int .i64 (hdv (quH al main ps steps f) 0 j))) := Lib.hid (by
    have := row_made2 w (n * 2) 51
    rw [hg] at this
    exact this.congr fun j _ => by unfold hdv; rw [if_neg (by omega)])
  have HT1 : Hid (TubeIs base (w.alloc (.cells (madeCells #[Value.int .i64 0, Value.int .i64 0] (n * 2)) 51)) tb al main ps (steps + 0) wb (quF al ps steps f 0)) := Lib.hid (HT.out.below HB1.out)
  have HK1 : Hid (Kept w (w.alloc (.cells (madeCells #[Value.int .i64 0, Value.int .i64 0] (n * 2)) 51)) wb tb) := Lib.hid (kept_of_grown (gb_below HB1.out _))
  rw [hg]
  generalize World.alloc w _ = W1 at *
  clear hg c4 hl u1 h1 hmk HB1 HT HN HBT
  go_loopw [27] (fun i wr => ∃ k : Nat, k ≤ n ∧ i = .int .i64 k ∧ Hid (wr.rowIs g 51 (n * 2) (fun j => .int .i64 (hdv (quH al main ps steps f) k j))) ∧ Hid (TubeIs base wr tb al main ps (steps + k) wb (quF al ps steps f k)) ∧ Hid (Kept w wr wb tb)) (fun i _ => n - (intOf i).toNat)
  case atStart => exact ⟨0, Nat.zero_le _, rfl, HR1, HT1, HK1⟩
  case round =>
    clear HR1 HT1 HK1
    obtain ⟨k, hk, rfl, HR, HTK, HK⟩ := hrel
    by_cases hlt : k < n
    · have hkk : (k : Int) < (n : Int) := by omega
      have hst := step_any HTK.out HOK.out.m1 HOK.out.mn HOK.out.n48 (by have := HSN.out; omega) HOK.out.plc HOK.out.pl HOK.out.ar [] none 0 _ _ ⟨none, 0, rfl, ⟨Nat.zero_le _, Nat.zero_le _⟩, .inl rfl⟩ (by simp) (by simp) (by simp) rfl rfl
      have HST : Hid (Calls Try.prog 68 #[.pointer (some ⟨tb, 0, none⟩), .slice none 0 0] wr fun e w' => e = .returned (.agg #[.int .i64 (quH al main ps steps f k).1, .int .i64 (quH al main ps steps f k).2]) ∧ TubeIs base w' tb al main ps (steps + (k + 1)) wb (quF al ps steps f (k + 1)) ∧ Kept wr w' wb tb) := Lib.hid hst
      clear hst
      have HSET : Hid (∀ j, hdv (quH al main ps steps f) (k + 1) j = if j = k * 2 + 1 then (quH al main ps steps f k).2 else if j = k * 2 then (quH al main ps steps f k).1 else hdv (quH al main ps steps f) k j) := Lib.hid (hdv_set _ k)
      obtain ⟨h1, hh1⟩ : ∃ x, (quH al main ps steps f k).1 = x := ⟨_, rfl⟩
      obtain ⟨h2, hh2⟩ : ∃ x, (quH al main ps steps f k).2 = x := ⟨_, rfl⟩
      rw [hh1, hh2] at HST HSET
      clear hh1 hh2
      go_wp2_with (go_at_call 68; with_reducible refine Calls.mono HST.out ?_; rintro e w3 ⟨rfl, ht3, hk3⟩; have HT3 := Lib.hid ht3; have HK3 := Lib.hid (HK.out.and hk3); have HR3 := Lib.hid (HR.out.of_block (hk3.block g HR.out.lt (by have := HLT.out; have := HG.out; omega) (by have := HLT.out; have := HG.out; omega))); have x0 := HR3.out.cell (i := k * 2) (by omega); have x1 := HR3.out.cell (i := k * 2 + 1) (by omega); have z0 := HR3.out.frozen (k * 2); have z1 := HR3.out.frozen (k * 2 + 1); have z2 := HR3.out.lt; clear ht3 hk3)
      refine ⟨⟨k + 1, by omega, by go_num, Lib.hid ?_, Lib.hid ?_, Lib.hid ?_⟩, by simp [intOf]; omega⟩
      · refine ((HR3.out.set (k * 2) (.int .i64 h1)).set (k * 2 + 1) (.int .i64 h2)).congr fun j _ => ?_
        rw [HSET.out j]
        by_cases e1 : j = k * 2 + 1
        · rw [if_pos e1, if_pos e1]
        · rw [if_neg e1, if_neg e1]
          by_cases e2 : j = k * 2
          · rw [if_pos e2, if_pos e2]
          · rw [if_neg e2, if_neg e2]
      · obtain ⟨cur, hc, -⟩ := id HR3.out
        obtain ⟨cur2, hc2, -⟩ := HR3.out.set (k * 2) (.int .i64 h1)
        exact (HT3.out.kept (gb_set _ _ _ _) hc (by decide) (by decide) (by decide) (by decide) (by decide)).kept (gb_set _ _ _ _) hc2 (by decide) (by decide) (by decide) (by decide) (by decide)
      · exact (HK3.out.setNew (k * 2) _ (by have := HG.out; omega)).setNew (k * 2 + 1) _ (by have := HG.out; omega)
    · obtain rfl : k = n := by omega
      go_wp2_with fail
      go_ret2
      exact ⟨⟨g, rfl, by have := HG.out; omega, HR.out⟩, HTK.out, HK.out⟩
end Go.Proofs.Ytbmbcbknoflpgaa
namespace Go.Proofs.Ytbmbcbknoflpgaa
open Go.RowKit

/-- A tube is kept where another one is written. -/
theorem TubeIs.other {base tb main steps wb base2 tb2 main2 steps2 wb2 : Nat} {W W' : World} {al al2 : List Int} {ps ps2 : List Plc} {f f2 : Nat → Int} (h : TubeIs base W tb al main ps steps wb f) (k : TubeIs base2 W tb2 al2 main2 ps2 steps2 wb2 f2) (hK : Kept W W' wb2 tb2) (h1 : tb ≠ tb2) (h2 : wb ≠ wb2) : TubeIs base W' tb al main ps steps wb f := by
  obtain ⟨-, ⟨_, _, _, _, kb, -, -, -⟩, kw⟩ := k
  obtain ⟨l, ⟨av, pv, xs, n, b1, b2, b3, b4⟩, b5⟩ := h
  have hp : ∀ (i : Nat) (cs : Array Value) (t : TypeId), W.heap[i]? = some (.cells cs t (0, 0)) → i ≠ wb2 → i ≠ tb2 → W'.heap[i]? = some (.cells cs t (0, 0)) := fun i cs t hi e1 e2 => (hK.block i (Array.getElem?_eq_some_iff.1 hi).1 e1 e2).trans hi
  have nw : ∀ (i : Nat) (cs : Array Value) (t : TypeId), W.heap[i]? = some (.cells cs t (0, 0)) → t ≠ 137 → i ≠ wb2 := fun i cs t hi ht => box_ne hi kw ht
  have nt : ∀ (i : Nat) (cs : Array Value) (t : TypeId), W.heap[i]? = some (.cells cs t (0, 0)) → t ≠ 97 → i ≠ tb2 := fun i cs t hi ht e => by
    subst e
    rw [kb] at hi
    simp only [Option.some.injEq, Obj.cells.injEq] at hi
    exact ht hi.2.1.symm
  have own : ∀ {base e size k : Nat} {v : Value} {xs : List Value}, W.ownsRow base e size v k xs → e ≠ 137 → e ≠ 97 → W'.ownsRow base e size v k xs := fun ho e1 e2 => by
    refine ⟨ho.1, ?_⟩
    rcases ho.2 with hn | ⟨g, cap, cur, hv, hb, hg, rest⟩
    · exact .inl hn
    · exact .inr ⟨g, cap, cur, hv, hb, hp _ _ _ hg (nw _ _ _ hg e1) (nt _ _ _ hg e2), rest⟩
  refine ⟨l, ⟨av, pv, xs, n, hp _ _ _ b1 (nw _ _ _ b1 (by decide)) h1, own b2 (by decide) (by decide), own b3 (by decide) (by decide), b4.map fun x p hx => ?_⟩, b5.of_block (hK.block wb b5.lt h2 ?_)⟩
  · cases p with
    | fin s d q => exact hx
    | jnt l => obtain ⟨u, hu, hr⟩ := hx; exact ⟨u, hu, own hr (by decide) (by decide)⟩
  · obtain ⟨cur, hc, -⟩ := id b5
    exact nt _ _ _ hc (by decide)
theorem placesL_ok (q m j : Nat) (g li no : Int) (hj : 0 < m → j + 1 ≤ q) : ∀ p ∈ placesL (q + 1) m j g li no, plcOk (q + 1 + m) p := by
  intro p hp
  unfold placesL at hp
  rw [List.mem_append, List.mem_append] at hp
  rcases hp with (hp | hp) | hp
  · simp only [List.mem_cons, List.not_mem_nil, or_false] at hp
    rcases hp with rfl | rfl
    · exact ⟨by omega, by omega⟩
    · exact ⟨by omega, by omega⟩
  · obtain ⟨k, hk, rfl⟩ := List.mem_map.1 hp
    rw [List.mem_range] at hk
    unfold plcMid
    split
    · refine ⟨by simp, by simp, fun i hi => ?_⟩
      rcases (show i = 0 ∨ i = 1 ∨ i = 2 by simp at hi; omega) with rfl | rfl | rfl <;> simp <;> omega
    · refine ⟨by simp, by simp, fun i hi => ?_⟩
      rcases (show i = 0 ∨ i = 1 by simp at hi; omega) with rfl | rfl <;> simp <;> omega
  · split at hp
    · simp at hp
    · rw [List.mem_append] at hp
      rcases hp with hp | hp
      · obtain ⟨k, hk, rfl⟩ := List.mem_map.1 hp
        rw [List.mem_range] at hk
        refine ⟨by simp, by simp, fun i hi => ?_⟩
        rcases (show i = 0 ∨ i = 1 by simp at hi; omega) with rfl | rfl <;> simp <;> omega
      · rw [List.mem_singleton] at hp
        subst hp
        exact ⟨by omega, by omega⟩
theorem placesL_len (q m j : Nat) (g li no : Int) : (placesL (q + 1) m j g li no).length ≤ q + m + 3 := by
  unfold placesL
  simp only [List.length_append, List.length_map, List.length_range, List.length_cons, List.length_nil]
  split
  · simp; omega
  · simp; omega
/-- A tube of a shape that is right. -/
theorem shp_tube {s : Shp} (h : shpOk s = true) : TubeOk (s.areas ++ s.branch) s.areas.length (shpPlaces s) := by
  obtain ⟨p1, p2, p3, p4, p5, p6, p7⟩ := shp_parts h
  have ha := ars_parts p2
  have hb := ars_parts p3
  obtain ⟨q, hq⟩ : ∃ q, s.areas.length = q + 1 := ⟨s.areas.length - 1, by omega⟩
  have hl : s.last = if s.branch.length = 0 then 0 else (s.areas.length : Int) - 2 := rfl
  refine ⟨p1, by simp, ha.1, by simp; omega, ?_, ?_, ?_⟩
  · unfold shpPlaces
    rw [List.length_append, hq]
    exact placesL_ok q s.branch.length s.joint.toNat _ _ _ (fun hm => by rw [hl, if_neg (by omega)] at p4; omega)
  · unfold shpPlaces
    rw [hq]
    have := placesL_len q s.branch.length s.joint.toNat s.glottis s.lips s.nose
    omega
  · intro j hj
    rw [List.length_append] at hj
    by_cases h1 : j < s.areas.length
    · have := ha.2 j h1
      rwa [List.getD_eq_getElem?_getD, List.getElem?_append_left h1, ← List.getD_eq_getElem?_getD]
    · have := hb.2 (j - s.areas.length) (by omega)
      rwa [List.getD_eq_getElem?_getD, List.getElem?_append_right (by omega), ← List.getD_eq_getElem?_getD]
/-- Steps and state after a step with any feeds: what is refused changes nothing. -/
def goS (main : Nat) (fl : List Fd) (st : Nat) : Nat := if fdOk main fl = true then st + 1 else st
def goF (al : List Int) (main : Nat) (ps : List Plc) (fl : List Fd) (st : Nat) (f : Nat → Int) : Nat → Int := if fdOk main fl = true then nxtF al ps st fl f else f
/-- A step with any feeds, whatever comes of it. -/
theorem Step_go {base tb main st wb : Nat} {w : World} {al : List Int} {ps : List Plc} {f : Nat → Int} (h : TubeIs base w tb al main ps st wb f) (ok : TubeOk al main ps) (hst : st < 100000) (fl : List Fd) (fa : Option Addr) (fc : Nat) (hfl : SliceV w (.slice fa fl.length fc) 2 FdAt fl) (hfb : fl ≠ [] → ∀ p, fa = some p → p.block ≠ wb) (hfn : fl.length ≤ 1000) :
    Calls Try.prog 31 #[.pointer (some ⟨tb, 0, none⟩), .slice fa fl.length fc] w fun e w' => (∃ a b c : Int, e = .returned (.tuple #[.agg #[.int .i64 a, .int .i64 b], .int .i64 c])) ∧ TubeIs base w' tb al main ps (goS main fl st) wb (goF al main ps fl st f) ∧ Kept w w' wb tb := by
  by_cases hk : fdOk main fl = true
  · unfold goS goF
    rw [if_pos hk, if_pos hk]
    exact (Step_ok h ok hst fl fa fc hfl hfb hk hfn).mono fun e w' ⟨a, b, c⟩ => ⟨⟨_, _, _, a⟩, b, c⟩
  · unfold goS goF
    rw [if_neg hk, if_neg hk]
    exact (Step_bad h ok fl _ hfl (by simpa using hk)).mono fun e w' ⟨a, b⟩ => ⟨⟨_, _, _, a⟩, h.below b, kept_of_grown (gb_below b _)⟩
set_option maxHeartbeats 1000000 in
theorem Alike_any (xs ys : List (Int × Int)) (v u : Value) (w : World) (hv : SliceV w v 2 HdAt xs) (hu : SliceV w u 2 HdAt ys) (he : xs = ys) :
    Calls Try.prog 37 #[v, u] w fun e w' => e = .returned (.bool true) ∧ Below w.heap.size w w' := by
  subst he
  obtain ⟨xa, xc, rfl, hxl, hx⟩ := hv
  obtain ⟨ya, yc, rfl, hyl, hy⟩ := hu
  unfold most at hxl hyl
  have hl' : ((xs.length : Int) == (xs.length : Int)) = true := by simp
  go_enter Try.func37, Try.ntmps37
  go_wp2_with fail
  go_loopw [5] (fun i wr => ∃ k : Nat, k ≤ xs.length ∧ i = .int .i64 k ∧ Below w.heap.size w wr) (fun i _ => xs.length - (intOf i).toNat)
  case atStart => exact ⟨0, Nat.zero_le _, rfl, Below.refl _ _⟩
  case round =>
    obtain ⟨k, hk, rfl, hB⟩ := hrel
    by_cases hlt : k < xs.length
    · have hly1 : (k : Int) < (xs.length : Int) := by omega
      rcases hx with hnil | ⟨xb, xo, rfl, hxf⟩
      · simp [hnil] at hlt
      rcases hy with hnil | ⟨yb, yo, rfl, hyf⟩
      · simp [hnil] at hlt
      obtain ⟨p0, p1⟩ := hxf k hlt
      obtain ⟨q0, q1⟩ := hyf k hlt
      unfold IntAt at p0 p1 q0 q1
      replace p0 := keep hB p0
      replace p1 := keep hB p1
      replace q0 := keep hB q0
      replace q1 := keep hB q1
      have hpb := cell_lt p0
      have hqb := cell_lt q0
      clear hxf hyf
      generalize xs[k] = p at *
      obtain ⟨pa, pb⟩ := p
      simp only at p0 p1 q0 q1
      go_wp2_with fail
      go_quiet (fail)
      go_wp2_with fail
      go_roundw
      case rel => exact ⟨k + 1, by omega, by go_num, bDrew hB _⟩
      case measure => simp [intOf]; omega
    · obtain rfl : k = xs.length := by omega
      go_wp2_with fail
      go_ret
      exact ⟨rfl, hB⟩
end Go.Proofs.Ytbmbcbknoflpgaa
namespace Go.Proofs.Ytbmbcbknoflpgaa
open Go.RowKit

def hdV : List (Int × Int) → List Value
  | [] => []
  | x :: l => .int .i64 x.1 :: .int .i64 x.2 :: hdV l
theorem hdV_len (l : List (Int × Int)) : (hdV l).length = l.length * 2 := by
  induction l with
  | nil => rfl
  | cons x l ih => simp only [hdV, List.length_cons, ih]; omega
theorem hdV_append (l m : List (Int × Int)) : hdV (l ++ m) = hdV l ++ hdV m := by
  induction l with
  | nil => rfl
  | cons x l ih => simp [hdV, ih]
theorem hdV_get (l : List (Int × Int)) (i : Nat) (h : i < l.length) : (hdV l)[i * 2]? = some (.int .i64 l[i].1) ∧ (hdV l)[i * 2 + 1]? = some (.int .i64 l[i].2) := by
  induction l generalizing i with
  | nil => simp at h
  | cons x l ih =>
    cases i with
    | zero => simp [hdV]
    | succ i =>
      have h2 := ih i (by simp at h; omega)
      have e : (i + 1) * 2 = i * 2 + 1 + 1 := by omega
      rw [e]
      simpa [hdV] using h2
theorem own_hd {W : World} {base : Nat} {u : Value} {l : List (Int × Int)} (h : W.ownsRow base 51 2 u l.length (hdV l)) (hl : l.length ≤ 1000000) : SliceV W u 2 HdAt l := by
  rcases h.2 with ⟨rfl, h0⟩ | ⟨g, cap, cur, rfl, _, hb, hc, _, _, hx⟩
  · exact ⟨none, 0, by rw [h0], by rw [h0]; exact ⟨Nat.zero_le _, Nat.zero_le _⟩, .inl (List.eq_nil_of_length_eq_zero h0)⟩
  · refine ⟨_, cap, rfl, ⟨by unfold most; omega, hc⟩, .inr ⟨g, 0, rfl, fun i hi => ?_⟩⟩
    obtain ⟨e1, e2⟩ := hdV_get l i hi
    have c1 := h.cellAt (i * 2) (by omega)
    have c2 := h.cellAt (i * 2 + 1) (by omega)
    rw [e1] at c1
    rw [e2] at c2
    refine ⟨?_, ?_⟩
    · show W.cell? ⟨g, 0 + i * 2, none⟩ = _
      rw [Nat.zero_add]; exact c1
    · show W.cell? ⟨g, 0 + i * 2 + 1, none⟩ = _
      rw [Nat.zero_add]; exact c2
theorem infoHz : (Try.prog.info? 51).map (fun i => (i.zero.map (fun z => z.cells.size), i.size, i.bytes)) = some (some 2, 2, 16) := by kernel_rfl
theorem wpList_append_hd {w : World} {ops : Array Oper} {rest : List Oper} {o : Oper} {a : Act} {Q : Exit → Act → World → Prop} (hgd : o.guard = none) (s x : Operand)
    (ho : o.op = .call { callee := .builtin .append, args := #[s, x], argTypes := #[60, 60] })
    (base : Nat) (v : Value) (l : List (Int × Int)) (hs : a.eval s = v) (hown : w.ownsRow base 51 2 v l.length (hdV l))
    (b : Nat) (p q : Int) (hx : a.eval x = .slice (some ⟨b, 0, none⟩) 1 1) (hy : w.cell? ⟨b, 0, none⟩ = some (.int .i64 p)) (hz : w.cell? ⟨b, 1, none⟩ = some (.int .i64 q)) (h63 : l.length ≤ 1000000) (hbase : base ≤ w.heap.size)
    (h : ∀ v' w', w'.ownsRow base 51 2 v' (l ++ [(p, q)]).length (hdV (l ++ [(p, q)])) → w.grownBy w' v.ownBlock → Below base w w' → wpList Try.prog ops Q rest (a.put o.dst v') w') : wpList Try.prog ops Q (o :: rest) a w := by
  obtain ⟨i, z, hi, hz0, hzs, hz1, hz2⟩ := info_z infoHz
  refine wpList_append_lies w hgd s x 60 ho base 51 i z 2 16 Try.underlying60 hi hz0 hz1 hz2 hzs (by decide) v l.length (hdV l) hs hown ⟨b, 0, none⟩ 1 1 [.int .i64 p, .int .i64 q] hx rfl (fun j u hu => ?_) (by intro u hu; simp at hu; rcases hu with rfl | rfl <;> rfl) (by omega) (by unfold maxLen; omega) (by omega) hbase w.heap.size rfl ?_
  · cases j with
    | zero => simp at hu; subst hu; simpa [Addr.add] using hy
    | succ j =>
      cases j with
      | zero => simp at hu; subst hu; simpa [Addr.add] using hz
      | succ j => simp at hu
  · intro g cap w' h1 h2 _ _
    exact h _ w' (by rw [hdV_append]; simpa [hdV] using h1) h2 (below_grown h2 hown hbase)
theorem below_none {A B : World} (h : A.grownBy B none) : Below A.heap.size A B := ⟨h.os, h.tape, h.output, h.size, fun k hk => h.block k hk (by simp)⟩
/-- A tube is kept where a row of another type grows. -/
theorem TubeIs.row {base tb main steps wb base2 e size k : Nat} {W W' : World} {al : List Int} {ps : List Plc} {f : Nat → Int} {v : Value} {xs : List Value} (h : TubeIs base W tb al main ps steps wb f) (ho : W.ownsRow base2 e size v k xs) (hg : W.grownBy W' v.ownBlock) (h1 : e ≠ 97) (h2 : e ≠ 3) (h3 : e ≠ 143) (h4 : e ≠ 160) (h5 : e ≠ 137) : TubeIs base W' tb al main ps steps wb f := by
  rcases ho.2 with ⟨rfl, h0⟩ | ⟨g, cap, cur, rfl, _, hb, _⟩
  · exact h.below (below_none (by simpa [Value.ownBlock] using hg))
  · exact h.kept (g := g) (by simpa [Value.ownBlock] using hg) hb h1 h2 h3 h4 h5
/-- A block of another type is kept where a row grows. -/
theorem blk_row {base2 e size k b : Nat} {W W' : World} {v : Value} {xs : List Value} {cs : Array Value} {t : TypeId} (hb : W.heap[b]? = some (.cells cs t (0, 0))) (ho : W.ownsRow base2 e size v k xs) (hg : W.grownBy W' v.ownBlock) (h1 : t ≠ e) : W'.heap[b]? = some (.cells cs t (0, 0)) :=
  (hg.block b (Array.getElem?_eq_some_iff.1 hb).1 (fun h => own_ne ho hb (fun cs e => by cases e; exact h1 rfl) (by first | exact h | exact h.symm))).trans hb
theorem cell_new2 {W : World} {o : Obj} {cs : Array Value} {t : TypeId} {j : Nat} {v : Value} (h : ((W.alloc o).alloc (.cells cs t)).cell? ⟨(W.alloc o).heap.size, j, none⟩ = some v) : ((W.alloc o).alloc (.cells cs t)).cell? ⟨W.heap.size + 1, j, none⟩ = some v := by
  rwa [World.size_alloc] at h
/-- The cells of a play's box. -/
theorem ply_cells {W : World} {b t : Nat} {v0 v1 v2 v3 v4 v5 v6 v7 v8 : Value} (h : W.heap[b]? = some (.cells #[v0, v1, v2, v3, v4, v5, v6, v7, v8] t (0, 0))) :
    W.cell? ⟨b, 0, none⟩ = some v0 ∧ W.cell? ⟨b, 1, none⟩ = some v1 ∧ W.cell? ⟨b, 2, none⟩ = some v2 ∧ W.cell? ⟨b, 3, none⟩ = some v3 ∧ W.cell? ⟨b, 4, none⟩ = some v4 ∧ W.cell? ⟨b, 5, none⟩ = some v5 ∧ W.cell? ⟨b, 6, none⟩ = some v6 ∧ W.cell? ⟨b, 7, none⟩ = some v7 ∧ W.cell? ⟨b, 8, none⟩ = some v8 ∧ b < W.heap.size := by
  have c := fun (j : Nat) (hj : j < 9) => cell_of_heap (j := j) h hj
  have c0 := c 0 (by omega)
  have c1 := c 1 (by omega)
  have c2 := c 2 (by omega)
  have c3 := c 3 (by omega)
  have c4 := c 4 (by omega)
  have c5 := c 5 (by omega)
  have c6 := c 6 (by omega)
  have c7 := c 7 (by omega)
  have c8 := c 8 (by omega)
  simp at c0 c1 c2 c3 c4 c5 c6 c7 c8
  exact ⟨c0, c1, c2, c3, c4, c5, c6, c7, c8, cell_lt c0⟩
theorem tube_steps {base tb main k wb : Nat} {W : World} {al : List Int} {ps : List Plc} {f : Nat → Int} (h : TubeIs base W tb al main ps k wb f) (ok : TubeOk al main ps) : Calls Try.prog 36 #[.pointer (some ⟨tb, 0, none⟩)] W fun e w' => e = .returned (.int .i64 (k : Int)) ∧ W = w' := by
  obtain ⟨av, ac, pa, pc, xs, ht, -, -, -⟩ := h.cells (by have := ok.n48; omega)
  exact Steps_any ht ok.m1
/-- A list of feeds lies below, where it is not empty. -/
theorem sl_low {w : World} {fa : Option Addr} {n c : Nat} {l : List Fd} (h : SliceV w (.slice fa n c) 2 FdAt l) (hne : l ≠ []) : ∀ p, fa = some p → p.block < w.heap.size := by
  intro p hp
  obtain ⟨b, o, rfl, hf⟩ := h.at hne
  cases hp
  have hl : 0 < l.length := List.length_pos_iff.2 hne
  exact cell_lt (hf 0 hl).1
theorem Kept.heap {w w' : World} {a b c : Nat} {o : Obj} (h : Kept w w' a b) (hc : w.heap[c]? = some o) (ha : c ≠ a) (hb : c ≠ b) : w'.heap[c]? = some o :=
  (h.block c (Array.getElem?_eq_some_iff.1 hc).1 ha hb).trans hc
/-- Two tubes of one shape, in one state. -/
structure Two (w W : World) (b1 tb wb b2 ub vb : Nat) (al : List Int) (main : Nat) (ps : List Plc) (st : Nat) (f : Nat → Int) (st2 : Nat) (f2 : Nat → Int) (bx : Nat) (cs : Array Value) : Prop where
  t : TubeIs b1 W tb al main ps st wb f
  u : TubeIs b2 W ub al main ps st2 vb f2
  n1 : tb ≠ ub
  n2 : wb ≠ vb
  lo : w.heap.size ≤ tb ∧ w.heap.size ≤ wb ∧ w.heap.size ≤ ub ∧ w.heap.size ≤ vb
  box : W.heap[bx]? = some (.cells cs 39 (0, 0))
  low : Below w.heap.size w W
theorem Two.below {w W W' : World} {b1 tb wb b2 ub vb main st st2 bx : Nat} {al : List Int} {ps : List Plc} {f f2 : Nat → Int} {cs : Array Value} (h : Two w W b1 tb wb b2 ub vb al main ps st f st2 f2 bx cs) (hB : Below W.heap.size W W') : Two w W' b1 tb wb b2 ub vb al main ps st f st2 f2 bx cs :=
  ⟨h.1.below hB, h.2.below hB, h.3, h.4, h.5, heap_keep hB h.6, bThen h.7 hB⟩
theorem Two.ne {w W : World} {b1 tb wb b2 ub vb main st st2 bx : Nat} {al : List Int} {ps : List Plc} {f f2 : Nat → Int} {cs : Array Value} (h : Two w W b1 tb wb b2 ub vb al main ps st f st2 f2 bx cs) : bx ≠ tb ∧ bx ≠ wb ∧ bx ≠ ub ∧ bx ≠ vb := by
  have h1 := h.6
  obtain ⟨-, ⟨_, _, _, _, kb, -, -, -⟩, kw⟩ := h.1
  obtain ⟨-, ⟨_, _, _, _, mb, -, -, -⟩, mw⟩ := h.2
  refine ⟨fun e => ?_, box_ne h1 kw (by decide), fun e => ?_, box_ne h1 mw (by decide)⟩
  · subst e; rw [h1] at kb; simp at kb
  · subst e; rw [h1] at mb; simp at mb
theorem Two.stepT {w W W' : World} {b1 tb wb b2 ub vb main st st2 st3 bx : Nat} {al : List Int} {ps : List Plc} {f f2 f3 : Nat → Int} {cs : Array Value} (h : Two w W b1 tb wb b2 ub vb al main ps st f st2 f2 bx cs) (ht : TubeIs b1 W' tb al main ps st3 wb f3) (hk : Kept W W' wb tb) : Two w W' b1 tb wb b2 ub vb al main ps st3 f3 st2 f2 bx cs :=
  ⟨ht, h.2.other h.1 hk (Ne.symm h.3) (Ne.symm h.4), h.3, h.4, h.5, hk.heap h.6 h.ne.2.1 h.ne.1, h.7.trans (hk.below h.7.size h.5.2.1 h.5.1)⟩
theorem Two.stepU {w W W' : World} {b1 tb wb b2 ub vb main st st2 st3 bx : Nat} {al : List Int} {ps : List Plc} {f f2 f3 : Nat → Int} {cs : Array Value} (h : Two w W b1 tb wb b2 ub vb al main ps st f st2 f2 bx cs) (ht : TubeIs b2 W' ub al main ps st3 vb f3) (hk : Kept W W' vb ub) : Two w W' b1 tb wb b2 ub vb al main ps st f st3 f3 bx cs :=
  ⟨h.1.other h.2 hk h.3 h.4, ht, h.3, h.4, h.5, hk.heap h.6 h.ne.2.2.2 h.ne.2.2.1, h.7.trans (hk.below h.7.size h.5.2.2.2 h.5.2.2.1)⟩
/-- A row of another type is kept where a tube is written. -/
theorem own_step {base tb main steps wb : Nat} {W W' : World} {al : List Int} {ps : List Plc} {f : Nat → Int} (k : TubeIs base W tb al main ps steps wb f) (hK : Kept W W' wb tb) {b2 e size n : Nat} {v : Value} {xs : List Value} (ho : W.ownsRow b2 e size v n xs) (e1 : e ≠ 137) (e2 : e ≠ 97) : W'.ownsRow b2 e size v n xs := by
  obtain ⟨-, ⟨_, _, _, _, kb, -, -, -⟩, kw⟩ := k
  refine ⟨ho.1, ?_⟩
  rcases ho.2 with hn | ⟨g, cap, cur, hv, hb, hg, rest⟩
  · exact .inl hn
  · exact .inr ⟨g, cap, cur, hv, hb, hK.heap hg (box_ne hg kw e1) (fun e => by subst e; rw [kb] at hg; simp only [Option.some.injEq, Obj.cells.injEq] at hg; exact e2 hg.2.1.symm), rest⟩
theorem row_step {base tb main steps wb : Nat} {W W' : World} {al : List Int} {ps : List Plc} {f : Nat → Int} (k : TubeIs base W tb al main ps steps wb f) (hK : Kept W W' wb tb) {g t n : Nat} {F : Nat → Value} (hr : W.rowIs g t n F) (e1 : t ≠ 137) (e2 : t ≠ 97) : W'.rowIs g t n F := by
  obtain ⟨-, ⟨_, _, _, _, kb, -, -, -⟩, kw⟩ := k
  obtain ⟨cur, hg, -⟩ := id hr
  exact hr.of_block (hK.block g hr.lt (box_ne hg kw e1) (fun e => by subst e; rw [kb] at hg; simp only [Option.some.injEq, Obj.cells.injEq] at hg; exact e2 hg.2.1.symm))
theorem Two.row {w W W' : World} {b1 tb wb b2 ub vb main st st2 bx B n : Nat} {al : List Int} {ps : List Plc} {f f2 : Nat → Int} {cs : Array Value} {v : Value} {xs : List Value} (h : Two w W b1 tb wb b2 ub vb al main ps st f st2 f2 bx cs) (ho : W.ownsRow B 51 2 v n xs) (hg : W.grownBy W' v.ownBlock) (hb : Below B W W') (hB : w.heap.size ≤ B) : Two w W' b1 tb wb b2 ub vb al main ps st f st2 f2 bx cs :=
  ⟨h.1.row ho hg (by decide) (by decide) (by decide) (by decide) (by decide), h.2.row ho hg (by decide) (by decide) (by decide) (by decide) (by decide), h.3, h.4, h.5, blk_row h.6 ho hg (by decide), h.7.trans (hb.mono hB)⟩
theorem ply_parts {x : Ply} (h : plyOk x = true) : x.feeds.length ≤ 60 ∧ x.areas.length ≤ 60 ∧ x.branch.length ≤ 60 ∧ (∀ l ∈ x.feeds, l.length ≤ 30) ∧ (∀ l ∈ x.areas, l.length ≤ 40) ∧ (∀ l ∈ x.branch, l.length ≤ 40) := by
  simp only [plyOk, Bool.and_eq_true, decide_eq_true_eq, List.all_eq_true] at h
  obtain ⟨⟨⟨⟨⟨⟨_, h1⟩, h2⟩, h3⟩, h4⟩, h5⟩, h6⟩ := h
  exact ⟨h1, h2, h3, h4, h5, h6⟩
theorem goS_le (main : Nat) (fl : List Fd) (st : Nat) : goS main fl st ≤ st + 1 := by unfold goS; split <;> omega
end Go.Proofs.Ytbmbcbknoflpgaa
