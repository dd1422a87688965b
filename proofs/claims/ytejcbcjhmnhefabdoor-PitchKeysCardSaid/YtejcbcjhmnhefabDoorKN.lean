/- The specification's notes; the maths of keys. -/
import Derived.Test.YtejcbcjhmnhefabDoorK1
set_option linter.unusedSimpArgs false
set_option linter.unusedVariables false
namespace Go.Proofs.YtejcbcjhmnhefabDoor
open Go.RowKit

set_option maxHeartbeats 400000 in
theorem in_any (n a b : Int) (w : World) :
    Calls Tryd.prog 7 #[.int .i64 n, .int .i64 a, .int .i64 b] w fun e w' => e = .returned (.bool (betw n a b)) ∧ w = w' := by
  by_cases h : a ≤ n
  · go_enter Tryd.func7, Tryd.ntmps7
    go_wp2
    go_ret
    exact ⟨by simp [betw, h], rfl⟩
  · go_enter Tryd.func7, Tryd.ntmps7
    go_wp2
    go_ret
    exact ⟨by simp [betw]; omega, rfl⟩
theorem note_at {l : List Note} {a : Option Addr} {c : Nat} {w : World} (hv : SliceV w (.slice a l.length c) 6 NoteAt l) {k : Nat} (hlt : k < l.length) :
    ∃ b o, a = some ⟨b, o, none⟩ ∧ NoteAt w b (o + k * 6) l[k] := by
  obtain ⟨b, o, rfl, hf⟩ := hv.at (by intro h; simp [h] at hlt)
  exact ⟨b, o, rfl, hf k hlt⟩
theorem notesOk_of {l : List Note} (h : (l.length : Int) ≤ 100) : notesOk l = (l.all noteOk && decide (lenSum l l.length ≤ 4000)) := by
  unfold notesOk
  rw [decide_eq_true h, List.all_eq_not_any_not]; rfl
set_option maxRecDepth 100000 in
set_option maxHeartbeats 8000000 in
theorem refNotes_any (l : List Note) (v : Value) (w : World) (hv : SliceV w v 6 NoteAt l) :
    Calls Tryd.prog 4 #[v] w fun e w' => e = .returned (.bool (notesOk l)) ∧ Below w.heap.size w w' := by
  have HV := Lib.hid hv
  obtain ⟨a, c, rfl, hl, -⟩ := hv
  unfold most at hl
  by_cases g1 : (l.length : Int) > 100
  · have g1' : decide ((l.length : Int) > 100) = true := decide_eq_true g1
    rw [show notesOk l = false by simp [notesOk]; omega]
    go_enter Tryd.func4, Tryd.ntmps4
    go_wp2_with fail
    go_ret
    exact ⟨rfl, Below.refl _ _⟩
  have g1' : decide ((l.length : Int) > 100) = false := decide_eq_false g1
  have HF : Hid (notesOk l = ((l.drop 0).all noteOk && decide (lenSum l l.length ≤ 4000))) := Lib.hid (notesOk_of (by omega))
  have HZ : Hid (lenSum l 0 = 0) := Lib.hid (by simp [lenSum])
  go_enter Tryd.func4, Tryd.ntmps4
  go_wp2_with fail
  go_loopw [3, 4] (fun x i wr => ∃ k : Nat, k ≤ l.length ∧ i = .int .i64 k ∧ x = .int .i64 (lenSum l k) ∧ Hid (notesOk l = ((l.drop k).all noteOk && decide (lenSum l l.length ≤ 4000))) ∧ Hid (0 ≤ lenSum l k ∧ lenSum l k ≤ 1000 * (k : Int)) ∧ Hid (Below w.heap.size w wr)) (fun _ i _ => l.length - (intOf i).toNat)
  case atStart => exact ⟨0, Nat.zero_le _, rfl, by rw [HZ.out], HF, Lib.hid (by rw [HZ.out]; omega), Lib.hid (Below.refl _ _)⟩
  case round =>
    obtain ⟨k, hk, rfl, rfl, HA, HS, HB⟩ := hrel
    by_cases hlt : k < l.length
    · obtain ⟨b, o, rfl, c0, c1, c2, c3, c4, c5⟩ := note_at (HV.out.keep NoteAt.stable HB.out) hlt
      have HST : Hid ((l.drop k).all noteOk = (noteOk l[k] && (l.drop (k + 1)).all noteOk)) := Lib.hid (by rw [List.drop_eq_getElem_cons hlt]; rfl)
      have HLS := Lib.hid (lenSum_succ l k hlt)
      have hlb := cell_lt c0
      have hs := HS.out
      have HBX := Lib.hid (bThen HB.out (bAlloc (Below.refl wr.heap.size wr) (.cells #[.int .i64 l[k].key, .int .i64 l[k].length, .int .i64 l[k].glide, .int .i64 l[k].delay, .int .i64 l[k].depth, .int .i64 l[k].period] 30)))
      generalize l[k] = y at *
      cases h1 : betw y.key 0 119
      · go_wp2_with (go_at_call 7; refine (in_any _ _ _ _).mono ?_; rintro e w' ⟨rfl, rfl⟩)
        go_ret
        exact ⟨ret_bool (by rw [HA.out, HST.out, show noteOk y = false by simp [noteOk, *]]; simp), HBX.out⟩
      cases h2 : betw y.length 1 1000
      · go_wp2_with (go_at_call 7; refine (in_any _ _ _ _).mono ?_; rintro e w' ⟨rfl, rfl⟩)
        go_ret
        exact ⟨ret_bool (by rw [HA.out, HST.out, show noteOk y = false by simp [noteOk, *]]; simp), HBX.out⟩
      cases h3 : betw y.glide 0 y.length
      · go_wp2_with (go_at_call 7; refine (in_any _ _ _ _).mono ?_; rintro e w' ⟨rfl, rfl⟩)
        go_ret
        exact ⟨ret_bool (by rw [HA.out, HST.out, show noteOk y = false by simp [noteOk, *]]; simp), HBX.out⟩
      cases h4 : betw y.delay 0 y.length
      · go_wp2_with (go_at_call 7; refine (in_any _ _ _ _).mono ?_; rintro e w' ⟨rfl, rfl⟩)
        go_ret
        exact ⟨ret_bool (by rw [HA.out, HST.out, show noteOk y = false by simp [noteOk, *]]; simp), HBX.out⟩
      cases h5 : betw y.depth 0 200
      · go_wp2_with (go_at_call 7; refine (in_any _ _ _ _).mono ?_; rintro e w' ⟨rfl, rfl⟩)
        go_ret
        exact ⟨ret_bool (by rw [HA.out, HST.out, show noteOk y = false by simp [noteOk, *]]; simp), HBX.out⟩
      cases h6 : betw y.period 4 200
      · go_wp2_with (go_at_call 7; refine (in_any _ _ _ _).mono ?_; rintro e w' ⟨rfl, rfl⟩)
        go_ret
        exact ⟨ret_bool (by rw [HA.out, HST.out, show noteOk y = false by simp [noteOk, *]]; simp), HBX.out⟩
      have hyl := betw_in h2
      have HY : Hid (noteOk y = true) := Lib.hid (by simp [noteOk, *])
      have HN : Hid (notesOk l = ((l.drop (k + 1)).all noteOk && decide (lenSum l l.length ≤ 4000))) := Lib.hid (by rw [HA.out, HST.out, HY.out, Bool.true_and])
      have HS1 : Hid (0 ≤ lenSum l (k + 1) ∧ lenSum l (k + 1) ≤ 1000 * ((k + 1 : Nat) : Int)) := Lib.hid (by rw [HLS.out]; omega)
      generalize lenSum l k = s at *
      go_wp2_with (go_at_call 7; refine (in_any _ _ _ _).mono ?_; rintro e w' ⟨rfl, rfl⟩)
      go_roundw
      case rel =>
        first
          | exact ⟨k + 1, by omega, by go_num, by rw [HLS.out], HN, HS1, HBX⟩
          | ((repeat apply Exists.intro); refine ⟨?_, rfl⟩; exact ⟨k + 1, by omega, by go_num, by rw [HLS.out], HN, HS1, HBX⟩)
      case measure => simp [intOf]; omega
    · obtain rfl : k = l.length := by omega
      have HG : Hid (decide (lenSum l l.length ≤ 4000) = notesOk l) := Lib.hid (by rw [HA.out, List.drop_length]; rfl)
      generalize lenSum l l.length = s at *
      go_wp2_with fail
      go_ret
      exact ⟨ret_bool HG.out, HB.out⟩
theorem div_le_of {a b d : Int} (hb : 0 < b) (h : a ≤ d * b) : (2 * a + b) / (2 * b) ≤ d := by
  have h2 : (2 * a + b) / (2 * b) < d + 1 := Int.ediv_lt_of_lt_mul (by omega) (by
    have : (d + 1) * (2 * b) = 2 * (d * b) + 2 * b := by grind
    omega)
  omega
theorem rnd_bound {a b d : Int} (hb : 0 < b) (hd : 0 ≤ d) (h0 : -(d * b) ≤ a) (h1 : a ≤ d * b) : -d ≤ rnd a b ∧ rnd a b ≤ d := by
  unfold rnd
  split
  · have h2 := div_le_of (a := -a) hb (show -a ≤ d * b by omega)
    have h3 : 0 ≤ (2 * -a + b) / (2 * b) := Int.ediv_nonneg (by omega) (by omega)
    omega
  · have h2 := div_le_of hb h1
    have h3 : 0 ≤ (2 * a + b) / (2 * b) := Int.ediv_nonneg (by omega) (by omega)
    omega
theorem rnd_pos {a b : Int} (hb : 0 < b) (h : 0 ≤ a) : 0 ≤ rnd a b := by
  unfold rnd
  rw [if_neg (by omega)]
  exact Int.ediv_nonneg (by omega) (by omega)
theorem rnd_neg {a b : Int} (hb : 0 < b) (h : a ≤ 0) : rnd a b ≤ 0 := by
  unfold rnd
  split
  · have h3 : 0 ≤ (2 * -a + b) / (2 * b) := Int.ediv_nonneg (by omega) (by omega)
    omega
  · obtain rfl : a = 0 := by omega
    have := div_le_of (a := 0) (d := 0) hb (by omega)
    omega
theorem rnd_mul {k b : Int} (hb : 0 < b) : rnd (k * b) b = k := by
  unfold rnd
  split
  · rw [show 2 * -(k * b) + b = b + (-k) * (2 * b) by grind, Int.add_mul_ediv_right _ _ (by omega), Int.ediv_eq_zero_of_lt (by omega) (by omega)]; omega
  · rw [show 2 * (k * b) + b = b + k * (2 * b) by grind, Int.add_mul_ediv_right _ _ (by omega), Int.ediv_eq_zero_of_lt (by omega) (by omega)]; omega
theorem glide_bound {a g i : Int} (hg : 0 ≤ g) (hi : 0 ≤ i) : (0 ≤ glideC a g i ∧ glideC a g i ≤ 100 * a) ∨ (100 * a ≤ glideC a g i ∧ glideC a g i ≤ 0) ∨ glideC a g i = 0 := by
  unfold glideC
  by_cases c : i ≥ g
  · rw [if_pos c]; exact .inr (.inr rfl)
  · rw [if_neg c]
    have hp : 0 < g := by omega
    rcases Int.le_total 0 a with h | h
    · left
      have h1 := Int.mul_nonneg (show 0 ≤ 100 * a by omega) (show 0 ≤ g - i by omega)
      have h2 := Int.mul_nonneg (show 0 ≤ 100 * a by omega) hi
      have h3 : 100 * a * (g - i) = 100 * a * g - 100 * a * i := Int.mul_sub _ _ _
      exact ⟨rnd_pos hp h1, (rnd_bound (d := 100 * a) hp (by omega) (by omega) (by omega)).2⟩
    · right; left
      have h1 := Int.mul_nonneg (show 0 ≤ -(100 * a) by omega) (show 0 ≤ g - i by omega)
      have h2 := Int.mul_nonneg (show 0 ≤ -(100 * a) by omega) hi
      have h3 : 100 * a * (g - i) = 100 * a * g - 100 * a * i := Int.mul_sub _ _ _
      have h4 : -(100 * a) * (g - i) = -(100 * a * (g - i)) := Int.neg_mul _ _
      have h5 : -(100 * a) * i = -(100 * a * i) := Int.neg_mul _ _
      have h6 : -(100 * a) * g = -(100 * a * g) := Int.neg_mul _ _
      refine ⟨?_, rnd_neg hp (by omega)⟩
      have := (rnd_bound (d := -(100 * a)) hp (by omega) (a := 100 * a * (g - i)) (by omega) (by omega)).1
      omega
theorem glide_first {a g : Int} (hg : 0 < g) : glideC a g 0 = 100 * a := by
  unfold glideC
  rw [if_neg (by omega), Int.sub_zero, rnd_mul hg]
theorem glide_late {a g i : Int} (h : i ≥ g) : glideC a g i = 0 := if_pos h
theorem vib_bound {dl dp pr i : Int} (hd : 0 ≤ dp) (hp : 0 < pr) : -dp ≤ vibC dl dp pr i ∧ vibC dl dp pr i ≤ dp := by
  unfold vibC
  split
  · omega
  · have hj0 := Int.emod_nonneg (i - dl) (show pr ≠ 0 by omega)
    have hj1 := Int.emod_lt_of_pos (i - dl) hp
    simp only
    generalize (i - dl) % pr = j at *
    have e0 : ∀ c : Int, 0 ≤ c → 0 ≤ dp * c := fun c hc => Int.mul_nonneg hd hc
    have q1 := e0 j hj0
    have e1 : 4 * dp * j = 4 * (dp * j) := by grind
    have e2 : 4 * dp * pr = 4 * (dp * pr) := by grind
    have e3 : 2 * dp * pr = 2 * (dp * pr) := by grind
    have e4 := Int.mul_sub dp pr j
    split
    · have q2 := e0 (4 * j - 3 * pr) (by omega)
      have q3 := e0 (pr - j) (by omega)
      have e5 : dp * (4 * j - 3 * pr) = 4 * (dp * j) - 3 * (dp * pr) := by grind
      exact rnd_bound hp hd (by omega) (by omega)
    · split
      · have q2 := e0 (3 * pr - 4 * j) (by omega)
        have q3 := e0 (4 * j - pr) (by omega)
        have e5 : dp * (3 * pr - 4 * j) = 3 * (dp * pr) - 4 * (dp * j) := by grind
        have e6 : dp * (4 * j - pr) = 4 * (dp * j) - dp * pr := by grind
        exact rnd_bound hp hd (by omega) (by omega)
      · have q2 := e0 (pr - 4 * j) (by omega)
        have e5 : dp * (pr - 4 * j) = dp * pr - 4 * (dp * j) := by grind
        exact rnd_bound hp hd (by omega) (by omega)
theorem vib_zero {dl dp pr i : Int} (hp : 0 < pr) (h : dp = 0 ∨ i ≤ dl) : vibC dl dp pr i = 0 := by
  by_cases c : i < dl
  · exact if_pos c
  · rcases h with rfl | h
    · have := vib_bound (dl := dl) (i := i) (Int.le_refl 0) hp; omega
    · obtain rfl : i = dl := by omega
      unfold vibC
      rw [if_neg (by omega), Int.sub_self, Int.zero_emod]
      simp only [Int.mul_zero]
      rw [if_neg (by omega), if_neg (by omega)]
      have := rnd_mul (k := 0) hp
      rwa [Int.zero_mul] at this
theorem singTo_mono (l : List Note) (n : Nat) : ∀ k, ∃ t, singTo l (n + k) = singTo l n ++ t := by
  intro k
  induction k with
  | zero => exact ⟨[], by simp⟩
  | succ k ih =>
    obtain ⟨t, ht⟩ := ih
    refine ⟨t ++ (match l[n + k]? with | some x => noteL l (n + k) x.length.toNat | none => []), ?_⟩
    have e : singTo l (n + (k + 1)) = singTo l (n + k) ++ (match l[n + k]? with | some x => noteL l (n + k) x.length.toNat | none => []) := rfl
    rw [e, ht, List.append_assoc]
theorem singTo_at {l : List Note} {n i : Nat} (hn : n < l.length) (hi : i < l[n].length.toNat) : (singTo l n).length + i < (singTo l l.length).length ∧ (singTo l l.length).getD ((singTo l n).length + i) 0 = centsAt (keyBefore l n) l[n] i := by
  obtain ⟨t, ht⟩ := singTo_mono l (n + 1) (l.length - (n + 1))
  rw [show n + 1 + (l.length - (n + 1)) = l.length by omega, singTo_succ l n l[n] (List.getElem?_eq_getElem hn)] at ht
  have hl : (partL (keyBefore l n) l[n] l[n].length.toNat).length = l[n].length.toNat := partL_len _ _ _
  have hlt : (singTo l n).length + i < (singTo l l.length).length := by rw [ht]; simp only [List.length_append]; omega
  refine ⟨hlt, ?_⟩
  rw [List.getD_eq_getElem?_getD, ht, List.append_assoc, List.getElem?_append_right (by omega), show (singTo l n).length + i - (singTo l n).length = i by omega, List.getElem?_append_left (by omega)]
  simp [partL, hi]
theorem singTo_step {l : List Note} {n : Nat} (hn : n < l.length) : (singTo l (n + 1)).length = (singTo l n).length + l[n].length.toNat := by
  rw [singTo_succ l n l[n] (List.getElem?_eq_getElem hn), List.length_append, partL_len]
/-- What the law asks of a frame. -/
structure KeyOk (x : Note) (pk lw hg y : Int) (i : Nat) : Prop where
  ge : lw - x.depth ≤ y
  le : y ≤ hg + x.depth
  late : i ≥ x.glide → (x.depth = 0 ∨ (i : Int) ≤ x.delay) → y = 100 * x.key
theorem cents_ok {x : Note} {pk lw hg : Int} {i : Nat} (hx : noteOk x = true) (h1 : lw ≤ 100 * x.key ∧ 100 * x.key ≤ hg) (h2 : x.glide > 0 → lw ≤ 100 * pk ∧ 100 * pk ≤ hg) : KeyOk x pk lw hg (centsAt pk x i) i := by
  obtain ⟨_, _, hg1, _, hd, hp⟩ := noteOk_in hx
  have v := vib_bound (dl := x.delay) (dp := x.depth) (pr := x.period) (i := i) hd.1 (by omega)
  have g := glide_bound (a := pk - x.key) (g := x.glide) (i := i) hg1.1 (by omega)
  have g0 : x.glide = 0 → glideC (pk - x.key) x.glide i = 0 := fun h => glide_late (by omega)
  refine ⟨?_, ?_, fun h3 h4 => ?_⟩
  · unfold centsAt
    by_cases c : x.glide = 0
    · have := g0 c; omega
    · have := h2 (by omega); omega
  · unfold centsAt
    by_cases c : x.glide = 0
    · have := g0 c; omega
    · have := h2 (by omega); omega
  · unfold centsAt
    rw [glide_late h3, vib_zero (by omega) h4]; omega
theorem cents_first {x : Note} {pk : Int} (hx : noteOk x = true) (h : x.glide > 0) : centsAt pk x (0 : Nat) = 100 * pk := by
  obtain ⟨_, _, hg1, hdl, hd, hp⟩ := noteOk_in hx
  unfold centsAt
  rw [show (((0 : Nat) : Int)) = 0 from rfl, glide_first h, vib_zero (by omega) (.inr hdl.1)]; omega
end Go.Proofs.YtejcbcjhmnhefabDoor
