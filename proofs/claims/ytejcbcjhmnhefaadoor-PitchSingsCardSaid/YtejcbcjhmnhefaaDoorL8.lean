/- The specification's notes; the law of notes sung. -/
import Derived.Test.YtejcbcjhmnhefaaDoorL6
set_option linter.unusedSimpArgs false
set_option linter.unusedVariables false
namespace Go.Proofs.YtejcbcjhmnhefaaDoor
open Go.RowKit

set_option maxRecDepth 20000 in
set_option maxHeartbeats 4000000 in
theorem refVib_any (x : Note) (i : Int) (w : World) (hok : noteOk x = true) (hi0 : 0 ≤ i) (hi1 : i ≤ 1000) :
    Calls Tryd.prog 66 #[.agg #[.int .i64 x.key, .int .i64 x.length, .int .i64 x.glide, .int .i64 x.delay, .int .i64 x.depth, .int .i64 x.period], .int .i64 i] w fun e w' => e = .returned (.int .i64 (vibC x.delay x.depth x.period i)) ∧ Below w.heap.size w w' := by
  have hx := noteOk_in hok
  obtain ⟨xk, xl, xg, dl, dp, pr⟩ := x
  simp only at hx ⊢
  have HN := Lib.hid (bAlloc (Below.refl w.heap.size w) (.cells #[.int .i64 xk, .int .i64 xl, .int .i64 xg, .int .i64 dl, .int .i64 dp, .int .i64 pr] 68))
  by_cases h : i < dl
  · have hr : vibC dl dp pr i = 0 := if_pos h
    rw [hr]
    go_enter Tryd.func66, Tryd.ntmps66
    go_wp2
    go_ret
    exact ⟨rfl, HN.out⟩
  · have hp0 : ¬ pr = 0 := by omega
    have hp1 : (pr == 0) = false := by simp; omega
    have hj0 := Int.emod_nonneg (i - dl) hp0
    have hj1 := Int.emod_lt_of_pos (i - dl) (show 0 < pr by omega)
    have hmd : (i - dl).tmod pr = (i - dl) % pr := Int.tmod_eq_emod_of_nonneg (by omega)
    have qmd : IntKind.i64.wrap ((i - dl) % pr) = (i - dl) % pr := IntWalk.i64_in _ (by omega)
    obtain ⟨j, hj⟩ : ∃ j, j = (i - dl) % pr := ⟨_, rfl⟩
    have hr : vibC dl dp pr i = if 4 * j > 3 * pr then rnd (4 * dp * j - 4 * dp * pr) pr else if 4 * j > pr then rnd (2 * dp * pr - 4 * dp * j) pr else rnd (4 * dp * j) pr := by
      rw [hj]; exact if_neg h
    rw [← hj] at hj0 hj1 hmd qmd
    have m1 := mul_in (A := 800) (B := 200) (show -800 ≤ 4 * dp by omega) (by omega) (show -200 ≤ j by omega) (by omega)
    have m2 := mul_in (A := 800) (B := 200) (show -800 ≤ 4 * dp by omega) (by omega) (show -200 ≤ pr by omega) (by omega)
    have m3 := mul_in (A := 400) (B := 200) (show -400 ≤ 2 * dp by omega) (by omega) (show -200 ≤ pr by omega) (by omega)
    have q1 : IntKind.i64.wrap (4 * dp * j) = 4 * dp * j := IntWalk.i64_in _ (by omega)
    have q2 : IntKind.i64.wrap (4 * dp * pr) = 4 * dp * pr := IntWalk.i64_in _ (by omega)
    have q3 : IntKind.i64.wrap (2 * dp * pr) = 2 * dp * pr := IntWalk.i64_in _ (by omega)
    have hj2 : (i - dl) % pr = j := hj.symm
    clear hj
    rw [hr]
    clear hr
    by_cases c2 : 4 * j ≤ pr
    · have c2' : decide (4 * j ≤ pr) = true := decide_eq_true c2
      have h50 := fun W => divide_any (4 * dp * j) pr W (by omega) (by omega) (by omega) (by omega)
      rw [if_neg (show ¬ (4 * j > 3 * pr) by omega), if_neg (show ¬ (4 * j > pr) by omega)]
      have HD := Lib.hid h50
      clear h50
      go_enter Tryd.func66, Tryd.ntmps66
      go_wp2_with (go_at_call 50; (with_reducible refine (HD.out _).mono ?_); rintro e w1 ⟨rfl, rfl⟩)
      go_ret
      exact ⟨rfl, HN.out⟩
    · have c2' : decide (4 * j ≤ pr) = false := decide_eq_false c2
      by_cases c1 : 4 * j ≤ 3 * pr
      · have c1' : decide (4 * j ≤ 3 * pr) = true := decide_eq_true c1
        have h50 := fun W => divide_any (2 * dp * pr - 4 * dp * j) pr W (by omega) (by omega) (by omega) (by omega)
        rw [if_neg (show ¬ (4 * j > 3 * pr) by omega), if_pos (show 4 * j > pr by omega)]
        have HD := Lib.hid h50
        clear h50
        go_enter Tryd.func66, Tryd.ntmps66
        go_wp2_with (go_at_call 50; (with_reducible refine (HD.out _).mono ?_); rintro e w1 ⟨rfl, rfl⟩)
        go_ret
        exact ⟨rfl, HN.out⟩
      · have c1' : decide (4 * j ≤ 3 * pr) = false := decide_eq_false c1
        have h50 := fun W => divide_any (4 * dp * j - 4 * dp * pr) pr W (by omega) (by omega) (by omega) (by omega)
        rw [if_pos (show 4 * j > 3 * pr by omega)]
        have HD := Lib.hid h50
        clear h50
        go_enter Tryd.func66, Tryd.ntmps66
        go_wp2_with (go_at_call 50; (with_reducible refine (HD.out _).mono ?_); rintro e w1 ⟨rfl, rfl⟩)
        go_ret
        exact ⟨rfl, HN.out⟩
theorem note_at {l : List Note} {a : Option Addr} {c : Nat} {w : World} (hv : SliceV w (.slice a l.length c) 6 NoteAt l) {k : Nat} (hlt : k < l.length) :
    ∃ b o, a = some ⟨b, o, none⟩ ∧ NoteAt w b (o + k * 6) l[k] := by
  obtain ⟨b, o, rfl, hf⟩ := hv.at (by intro h; simp [h] at hlt)
  exact ⟨b, o, rfl, hf k hlt⟩
theorem notesOk_of {l : List Note} (h : (l.length : Int) ≤ 100) : notesOk l = (l.all noteOk && decide (lenSum l l.length ≤ 4000)) := by
  unfold notesOk
  rw [decide_eq_true h, List.all_eq_not_any_not]; rfl
set_option maxRecDepth 100000 in
set_option maxHeartbeats 8000000 in
theorem refNotes_any (l : List Note) (v : Value) (w : World) (hv : SliceV w v 6 NoteAt l) :
    Calls Tryd.prog 44 #[v] w fun e w' => e = .returned (.bool (notesOk l)) ∧ Below w.heap.size w w' := by
  have HV := Lib.hid hv
  obtain ⟨a, c, rfl, hl, -⟩ := hv
  unfold most at hl
  by_cases g1 : (l.length : Int) > 100
  · have g1' : decide ((l.length : Int) > 100) = true := decide_eq_true g1
    rw [show notesOk l = false by simp [notesOk]; omega]
    go_enter Tryd.func44, Tryd.ntmps44
    go_wp2_with fail
    go_ret
    exact ⟨rfl, Below.refl _ _⟩
  have g1' : decide ((l.length : Int) > 100) = false := decide_eq_false g1
  have HF : Hid (notesOk l = ((l.drop 0).all noteOk && decide (lenSum l l.length ≤ 4000))) := Lib.hid (notesOk_of (by omega))
  have HZ : Hid (lenSum l 0 = 0) := Lib.hid (by simp [lenSum])
  go_enter Tryd.func44, Tryd.ntmps44
  go_wp2_with fail
  go_loopw [3, 4] (fun x i wr => ∃ k : Nat, k ≤ l.length ∧ i = .int .i64 k ∧ x = .int .i64 (lenSum l k) ∧ Hid (notesOk l = ((l.drop k).all noteOk && decide (lenSum l l.length ≤ 4000))) ∧ Hid (0 ≤ lenSum l k ∧ lenSum l k ≤ 1000 * (k : Int)) ∧ Hid (Below w.heap.size w wr)) (fun _ i _ => l.length - (intOf i).toNat)
  case atStart => exact ⟨0, Nat.zero_le _, rfl, by rw [HZ.out], HF, Lib.hid (by rw [HZ.out]; omega), Lib.hid (Below.refl _ _)⟩
  case round =>
    obtain ⟨k, hk, rfl, rfl, HA, HS, HB⟩ := hrel
    by_cases hlt : k < l.length
    · obtain ⟨b, o, rfl, c0, c1, c2, c3, c4, c5⟩ := note_at (HV.out.keep NoteAt.stable HB.out) hlt
      have HST : Hid ((l.drop k).all noteOk = (noteOk l[k] && (l.drop (k + 1)).all noteOk)) := Lib.hid (by rw [List.drop_eq_getElem_cons hlt]; rfl)
      have HLS := Lib.hid (lenSum_succ l k hlt)
      have hlb := cell_lt c0
      have hs := HS.out
      have HBX := Lib.hid (bThen HB.out (bAlloc (Below.refl wr.heap.size wr) (.cells #[.int .i64 l[k].key, .int .i64 l[k].length, .int .i64 l[k].glide, .int .i64 l[k].delay, .int .i64 l[k].depth, .int .i64 l[k].period] 68)))
      generalize l[k] = y at *
      cases h1 : betw y.key 0 119
      · go_wp2_with (go_at_call 49; refine (in_any _ _ _ _).mono ?_; rintro e w' ⟨rfl, rfl⟩)
        go_ret
        exact ⟨ret_bool (by rw [HA.out, HST.out, show noteOk y = false by simp [noteOk, *]]; simp), HBX.out⟩
      cases h2 : betw y.length 1 1000
      · go_wp2_with (go_at_call 49; refine (in_any _ _ _ _).mono ?_; rintro e w' ⟨rfl, rfl⟩)
        go_ret
        exact ⟨ret_bool (by rw [HA.out, HST.out, show noteOk y = false by simp [noteOk, *]]; simp), HBX.out⟩
      cases h3 : betw y.glide 0 y.length
      · go_wp2_with (go_at_call 49; refine (in_any _ _ _ _).mono ?_; rintro e w' ⟨rfl, rfl⟩)
        go_ret
        exact ⟨ret_bool (by rw [HA.out, HST.out, show noteOk y = false by simp [noteOk, *]]; simp), HBX.out⟩
      cases h4 : betw y.delay 0 y.length
      · go_wp2_with (go_at_call 49; refine (in_any _ _ _ _).mono ?_; rintro e w' ⟨rfl, rfl⟩)
        go_ret
        exact ⟨ret_bool (by rw [HA.out, HST.out, show noteOk y = false by simp [noteOk, *]]; simp), HBX.out⟩
      cases h5 : betw y.depth 0 200
      · go_wp2_with (go_at_call 49; refine (in_any _ _ _ _).mono ?_; rintro e w' ⟨rfl, rfl⟩)
        go_ret
        exact ⟨ret_bool (by rw [HA.out, HST.out, show noteOk y = false by simp [noteOk, *]]; simp), HBX.out⟩
      cases h6 : betw y.period 4 200
      · go_wp2_with (go_at_call 49; refine (in_any _ _ _ _).mono ?_; rintro e w' ⟨rfl, rfl⟩)
        go_ret
        exact ⟨ret_bool (by rw [HA.out, HST.out, show noteOk y = false by simp [noteOk, *]]; simp), HBX.out⟩
      have hyl := betw_in h2
      have HY : Hid (noteOk y = true) := Lib.hid (by simp [noteOk, *])
      have HN : Hid (notesOk l = ((l.drop (k + 1)).all noteOk && decide (lenSum l l.length ≤ 4000))) := Lib.hid (by rw [HA.out, HST.out, HY.out, Bool.true_and])
      have HS1 : Hid (0 ≤ lenSum l (k + 1) ∧ lenSum l (k + 1) ≤ 1000 * ((k + 1 : Nat) : Int)) := Lib.hid (by rw [HLS.out]; omega)
      generalize lenSum l k = s at *
      go_wp2_with (go_at_call 49; refine (in_any _ _ _ _).mono ?_; rintro e w' ⟨rfl, rfl⟩)
      go_roundw
      case rel =>
        first
          | exact ⟨k + 1, by omega, by go_num, by rw [HLS.out], HN, HS1, HBX⟩
          | ((repeat apply Exists.intro); refine ⟨?_, rfl⟩; exact ⟨k + 1, by omega, by go_num, by rw [HLS.out], HN, HS1, HBX⟩)
      case measure => simp [intOf]; omega
    · obtain rfl : k = l.length := by omega
      have HG : Hid (decide (lenSum l l.length ≤ 4000) = notesOk l) := Lib.hid (by rw [HA.out, List.drop_length]; rfl)
      generalize lenSum l l.length = s at *
      go_wp2_with fail
      go_ret
      exact ⟨ret_bool HG.out, HB.out⟩
theorem glideC_zero {g f : Int} (hf : 0 ≤ f) : glideC 0 g f = 0 := by
  unfold glideC
  split
  · rfl
  · unfold rnd
    rw [if_neg (by omega), Int.ediv_eq_zero_of_lt (by omega) (by omega)]
end Go.Proofs.YtejcbcjhmnhefaaDoor
