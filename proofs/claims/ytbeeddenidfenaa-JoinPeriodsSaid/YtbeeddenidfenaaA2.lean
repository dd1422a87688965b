/- Contracts: the checks of waves. -/
import Derived.Test.YtbeeddenidfenaaA1
set_option linter.unusedSimpArgs false
set_option linter.unusedVariables false
namespace Go.Proofs.Ytbeeddenidfenaa
open Go.RowKit

def samOk (n : Int) : Bool := betw n (-32768) 32767
def waveOk (l : List Int) : Bool := l.all samOk
def waveBad (l : List Int) : Bool := !waveOk l
def waveBig (l : List Int) : Bool := decide (100000 < (l.length : Int))

set_option maxHeartbeats 400000 in
theorem wrong1_any (n : Int) (w : World) : Calls Try.prog 103 #[.int .i64 n] w fun e w' => e = .returned (.bool (!samOk n)) ∧ w = w' := by
  go_enter Try.func103, Try.ntmps103
  go_wp2_with (go_at_call 75; refine (between_any _ _ _ _).mono ?_; rintro e w' ⟨rfl, rfl⟩)
  go_ret
  exact ⟨rfl, rfl⟩

set_option maxHeartbeats 1000000 in
theorem indexI_any (l : List Int) (v : Value) (w : World) (hv : SliceV w v 1 IntAt l) :
    Calls Try.prog 108 #[v, .func (.func 103) #[] #[]] w fun e w' => (∃ r : Int, e = .returned (.int .i64 r) ∧ decide (0 ≤ r) = l.any (fun x => !samOk x)) ∧ Below w.heap.size w w' := by
  have HV := Lib.hid hv
  obtain ⟨a, c, rfl, hl, -⟩ := hv
  unfold most at hl
  go_enter Try.func108, Try.ntmps108
  go_wp2_with fail
  go_loopw [5, 8] (fun _ i wr => ∃ k : Nat, k ≤ l.length ∧ i = .int .i64 k ∧ Hid ((l.take k).any (fun x => !samOk x) = false) ∧ Below w.heap.size w wr) (fun _ i _ => l.length - (intOf i).toNat)
  case atStart => exact ⟨0, Nat.zero_le _, rfl, Lib.hid (by simp), Below.refl _ _⟩
  case round =>
    obtain ⟨k, hk, rfl, HK, hB⟩ := hrel
    by_cases hlt : k < l.length
    · obtain ⟨b, o, rfl, hf⟩ := HV.out.at (by intro h; simp [h] at hlt)
      have k0 := IntAt.stable _ _ _ _ _ hB (hf k hlt)
      have HIN : Hid (l[k] ∈ l) := Lib.hid (List.getElem_mem hlt)
      have HT : Hid ((l.take (k + 1)).any (fun x => !samOk x) = ((l.take k).any (fun x => !samOk x) || !samOk l[k])) := Lib.hid (by rw [take_succ l k hlt, List.any_append]; simp)
      clear hf
      generalize l[k] = x at *
      unfold IntAt at k0
      rw [Nat.mul_one] at k0
      have hkb := cell_lt k0
      cases hp : samOk x
      · go_wp2_with (go_at_call 103; refine (wrong1_any x _).mono ?_; rintro e w1 ⟨rfl, rfl⟩; rw [hp])
        go_ret
        refine ⟨⟨k, rfl, ?_⟩, hB⟩
        have : l.any (fun x => !samOk x) = true := List.any_eq_true.2 ⟨x, HIN.out, by simp [hp]⟩
        rw [this]; simp
      · go_wp2_with (go_at_call 103; refine (wrong1_any x _).mono ?_; rintro e w1 ⟨rfl, rfl⟩; rw [hp])
        go_roundw
        case rel => exact ⟨k + 1, by omega, by go_num, Lib.hid (by rw [HT.out, HK.out]; simp [hp]), hB⟩
        case measure => simp [intOf]; omega
    · obtain rfl : k = l.length := by omega
      go_wp2_with fail
      go_ret
      refine ⟨⟨-1, rfl, ?_⟩, hB⟩
      have h := HK.out
      rw [List.take_length] at h
      rw [h]; rfl
set_option maxHeartbeats 1000000 in
theorem containsI_any (l : List Int) (v : Value) (w : World) (hv : SliceV w v 1 IntAt l) :
    Calls Try.prog 102 #[v, .func (.func 103) #[] #[]] w fun e w' => e = .returned (.bool (l.any (fun x => !samOk x))) ∧ Below w.heap.size w w' := by
  have H := Lib.hid (indexI_any l v w hv)
  obtain ⟨a, c, rfl, hl, -⟩ := hv
  go_enter Try.func102, Try.ntmps102
  go_wp2_with (go_at_call 108; refine H.out.mono ?_; rintro e w1 ⟨⟨r, rfl, hr⟩, hb⟩)
  go_ret
  exact ⟨ret_bool (by rw [← hr]), hb⟩
theorem any_not {α : Type} (p : α → Bool) (l : List α) : l.any (fun x => !p x) = !l.all p := by
  induction l with
  | nil => rfl
  | cons x l ih => simp [ih, Bool.not_and]
set_option maxHeartbeats 1000000 in
theorem waveWrong_any (l : List Int) (v : Value) (w : World) (hv : SliceV w v 1 IntAt l) :
    Calls Try.prog 84 #[v] w fun e w' => e = .returned (.bool (waveBad l)) ∧ Below w.heap.size w w' := by
  have H := Lib.hid (containsI_any l v w hv)
  obtain ⟨a, c, rfl, hl, -⟩ := hv
  go_enter Try.func84, Try.ntmps84
  go_wp2_with (go_at_call 102; refine H.out.mono ?_; rintro e w1 ⟨rfl, hb⟩)
  go_ret
  exact ⟨ret_bool (any_not _ _), hb⟩
set_option maxHeartbeats 1000000 in
theorem waveLong_any (l : List Int) (v : Value) (w : World) (hv : SliceV w v 1 IntAt l) :
    Calls Try.prog 83 #[v] w fun e w' => e = .returned (.bool (waveBig l)) ∧ Below w.heap.size w w' := by
  obtain ⟨a, c, rfl, hl, -⟩ := hv
  unfold most at hl
  go_enter Try.func83, Try.ntmps83
  go_wp2_with fail
  go_ret
  exact ⟨rfl, Below.refl _ _⟩
set_option maxHeartbeats 1000000 in
theorem indexL_any (l : List (List Int)) (v : Value) (w : World) (hv : SliceV w v 1 WaveAt l) :
    Calls Try.prog 101 #[v, .func (.func 83) #[] #[]] w fun e w' => (∃ r : Int, e = .returned (.int .i64 r) ∧ decide (0 ≤ r) = l.any waveBig) ∧ Below w.heap.size w w' := by
  have HV := Lib.hid hv
  obtain ⟨a, c, rfl, hl, -⟩ := hv
  unfold most at hl
  go_enter Try.func101, Try.ntmps101
  go_wp2_with fail
  go_loopw [5, 8] (fun _ i wr => ∃ k : Nat, k ≤ l.length ∧ i = .int .i64 k ∧ Hid ((l.take k).any waveBig = false) ∧ Below w.heap.size w wr) (fun _ i _ => l.length - (intOf i).toNat)
  case atStart => exact ⟨0, Nat.zero_le _, rfl, Lib.hid (by simp), Below.refl _ _⟩
  case round =>
    obtain ⟨k, hk, rfl, HK, hB⟩ := hrel
    by_cases hlt : k < l.length
    · obtain ⟨b, o, rfl, hf⟩ := HV.out.at (by intro h; simp [h] at hlt)
      obtain ⟨vx, k0, hs⟩ := WaveAt.stable _ _ _ _ _ hB (hf k hlt)
      have HIN : Hid (l[k] ∈ l) := Lib.hid (List.getElem_mem hlt)
      have HT : Hid ((l.take (k + 1)).any waveBig = ((l.take k).any waveBig || waveBig l[k])) := Lib.hid (by rw [take_succ l k hlt, List.any_append]; simp)
      clear hf
      generalize l[k] = x at *
      rw [Nat.mul_one] at k0
      have hkb := cell_lt k0
      have HS := Lib.hid hs
      obtain ⟨sa, sc, rfl, -⟩ := hs
      cases hp : waveBig x
      · go_wp2_with (go_at_call 83; refine (waveLong_any x _ _ HS.out).mono ?_; rintro e w1 ⟨rfl, hb⟩; rw [hp]; have HB := Lib.hid (bThen hB hb); clear hb)
        go_roundw
        case rel => exact ⟨k + 1, by omega, by go_num, Lib.hid (by rw [HT.out, HK.out]; simp [hp]), HB.out⟩
        case measure => simp [intOf]; omega
      · go_wp2_with (go_at_call 83; refine (waveLong_any x _ _ HS.out).mono ?_; rintro e w1 ⟨rfl, hb⟩; rw [hp]; have HB := Lib.hid (bThen hB hb); clear hb)
        go_ret
        refine ⟨⟨k, rfl, ?_⟩, HB.out⟩
        have : l.any waveBig = true := List.any_eq_true.2 ⟨x, HIN.out, hp⟩
        rw [this]; simp
    · obtain rfl : k = l.length := by omega
      go_wp2_with fail
      go_ret
      refine ⟨⟨-1, rfl, ?_⟩, hB⟩
      have h := HK.out
      rw [List.take_length] at h
      rw [h]; rfl
set_option maxHeartbeats 1000000 in
theorem containsL_any (l : List (List Int)) (v : Value) (w : World) (hv : SliceV w v 1 WaveAt l) :
    Calls Try.prog 82 #[v, .func (.func 83) #[] #[]] w fun e w' => e = .returned (.bool (l.any waveBig)) ∧ Below w.heap.size w w' := by
  have H := Lib.hid (indexL_any l v w hv)
  obtain ⟨a, c, rfl, hl, -⟩ := hv
  go_enter Try.func82, Try.ntmps82
  go_wp2_with (go_at_call 101; refine H.out.mono ?_; rintro e w1 ⟨⟨r, rfl, hr⟩, hb⟩)
  go_ret
  exact ⟨ret_bool (by rw [← hr]), hb⟩

set_option maxHeartbeats 1000000 in
theorem indexW_any (l : List (List Int)) (v : Value) (w : World) (hv : SliceV w v 1 WaveAt l) :
    Calls Try.prog 101 #[v, .func (.func 84) #[] #[]] w fun e w' => (∃ r : Int, e = .returned (.int .i64 r) ∧ decide (0 ≤ r) = l.any waveBad) ∧ Below w.heap.size w w' := by
  have HV := Lib.hid hv
  obtain ⟨a, c, rfl, hl, -⟩ := hv
  unfold most at hl
  go_enter Try.func101, Try.ntmps101
  go_wp2_with fail
  go_loopw [5, 8] (fun _ i wr => ∃ k : Nat, k ≤ l.length ∧ i = .int .i64 k ∧ Hid ((l.take k).any waveBad = false) ∧ Below w.heap.size w wr) (fun _ i _ => l.length - (intOf i).toNat)
  case atStart => exact ⟨0, Nat.zero_le _, rfl, Lib.hid (by simp), Below.refl _ _⟩
  case round =>
    obtain ⟨k, hk, rfl, HK, hB⟩ := hrel
    by_cases hlt : k < l.length
    · obtain ⟨b, o, rfl, hf⟩ := HV.out.at (by intro h; simp [h] at hlt)
      obtain ⟨vx, k0, hs⟩ := WaveAt.stable _ _ _ _ _ hB (hf k hlt)
      have HIN : Hid (l[k] ∈ l) := Lib.hid (List.getElem_mem hlt)
      have HT : Hid ((l.take (k + 1)).any waveBad = ((l.take k).any waveBad || waveBad l[k])) := Lib.hid (by rw [take_succ l k hlt, List.any_append]; simp)
      clear hf
      generalize l[k] = x at *
      rw [Nat.mul_one] at k0
      have hkb := cell_lt k0
      have HS := Lib.hid hs
      obtain ⟨sa, sc, rfl, -⟩ := hs
      cases hp : waveBad x
      · go_wp2_with (go_at_call 84; refine (waveWrong_any x _ _ HS.out).mono ?_; rintro e w1 ⟨rfl, hb⟩; rw [hp]; have HB := Lib.hid (bThen hB hb); clear hb)
        go_roundw
        case rel => exact ⟨k + 1, by omega, by go_num, Lib.hid (by rw [HT.out, HK.out]; simp [hp]), HB.out⟩
        case measure => simp [intOf]; omega
      · go_wp2_with (go_at_call 84; refine (waveWrong_any x _ _ HS.out).mono ?_; rintro e w1 ⟨rfl, hb⟩; rw [hp]; have HB := Lib.hid (bThen hB hb); clear hb)
        go_ret
        refine ⟨⟨k, rfl, ?_⟩, HB.out⟩
        have : l.any waveBad = true := List.any_eq_true.2 ⟨x, HIN.out, hp⟩
        rw [this]; simp
    · obtain rfl : k = l.length := by omega
      go_wp2_with fail
      go_ret
      refine ⟨⟨-1, rfl, ?_⟩, hB⟩
      have h := HK.out
      rw [List.take_length] at h
      rw [h]; rfl
set_option maxHeartbeats 1000000 in
theorem containsW_any (l : List (List Int)) (v : Value) (w : World) (hv : SliceV w v 1 WaveAt l) :
    Calls Try.prog 82 #[v, .func (.func 84) #[] #[]] w fun e w' => e = .returned (.bool (l.any waveBad)) ∧ Below w.heap.size w w' := by
  have H := Lib.hid (indexW_any l v w hv)
  obtain ⟨a, c, rfl, hl, -⟩ := hv
  go_enter Try.func82, Try.ntmps82
  go_wp2_with (go_at_call 101; refine H.out.mono ?_; rintro e w1 ⟨⟨r, rfl, hr⟩, hb⟩)
  go_ret
  exact ⟨ret_bool (by rw [← hr]), hb⟩

/-- The error of waves; 'right' tells about all else. -/
def chk (right : Bool) (ws : List (List Int)) : Int := if ws.any waveBig = true then 4 else if (!right || ws.any waveBad) = true then 2 else 0
set_option maxHeartbeats 1000000 in
theorem check_any (right : Bool) (ws : List (List Int)) (v : Value) (w : World) (hv : SliceV w v 1 WaveAt ws) :
    Calls Try.prog 59 #[.bool right, v] w fun e w' => e = .returned (.int .i64 (chk right ws)) ∧ Below w.heap.size w w' := by
  have h1 : ∀ W, Below w.heap.size w W → Calls Try.prog 82 #[v, .func (.func 83) #[] #[]] W _ := fun W hb => containsL_any ws v W (hv.keep WaveAt.stable hb)
  have h2 : ∀ W, Below w.heap.size w W → Calls Try.prog 82 #[v, .func (.func 84) #[] #[]] W _ := fun W hb => containsW_any ws v W (hv.keep WaveAt.stable hb)
  have H1 := Lib.hid h1
  have H2 := Lib.hid h2
  clear h1 h2
  obtain ⟨a, c, rfl, -⟩ := hv
  have HB := Lib.hid (Below.refl w.heap.size w)
  cases hbig : ws.any waveBig
  · cases right
    · have hr : chk false ws = 2 := by simp [chk, hbig]
      rw [hr]
      go_enter Try.func59, Try.ntmps59
      go_wp2_with (go_at_call 82; with_reducible refine Calls.mono (H1.out _ HB.out) ?_; rintro e w1 ⟨rfl, hb⟩; rw [hbig]; replace HB := Lib.hid (bThen HB.out hb); clear hb)
      go_ret
      exact ⟨rfl, HB.out⟩
    · cases hw : ws.any waveBad
      · have hr : chk true ws = 0 := by simp [chk, hbig, hw]
        rw [hr]
        go_enter Try.func59, Try.ntmps59
        go_wp2_with (first
          | (go_at_call 82; with_reducible refine Calls.mono (H1.out _ HB.out) ?_; rintro e w1 ⟨rfl, hb⟩; rw [hbig]; replace HB := Lib.hid (bThen HB.out hb); clear hb)
          | (go_at_call 82; with_reducible refine Calls.mono (H2.out _ HB.out) ?_; rintro e w1 ⟨rfl, hb⟩; rw [hw]; replace HB := Lib.hid (bThen HB.out hb); clear hb))
        go_ret
        exact ⟨rfl, HB.out⟩
      · have hr : chk true ws = 2 := by simp [chk, hbig, hw]
        rw [hr]
        go_enter Try.func59, Try.ntmps59
        go_wp2_with (first
          | (go_at_call 82; with_reducible refine Calls.mono (H1.out _ HB.out) ?_; rintro e w1 ⟨rfl, hb⟩; rw [hbig]; replace HB := Lib.hid (bThen HB.out hb); clear hb)
          | (go_at_call 82; with_reducible refine Calls.mono (H2.out _ HB.out) ?_; rintro e w1 ⟨rfl, hb⟩; rw [hw]; replace HB := Lib.hid (bThen HB.out hb); clear hb))
        go_ret
        exact ⟨rfl, HB.out⟩
  · have hr : chk right ws = 4 := by simp [chk, hbig]
    rw [hr]
    go_enter Try.func59, Try.ntmps59
    go_wp2_with (go_at_call 82; with_reducible refine Calls.mono (H1.out _ HB.out) ?_; rintro e w1 ⟨rfl, hb⟩; rw [hbig]; replace HB := Lib.hid (bThen HB.out hb); clear hb)
    go_ret
    exact ⟨rfl, HB.out⟩
/-- A slice of one wave, just laid. -/
theorem one_wave {W : World} {v : Value} {l : List Int} (h : SliceV W v 1 IntAt l) (t : Nat) : SliceV (W.alloc (.cells #[v] t)) (.slice (some ⟨W.heap.size, 0, none⟩) 1 1) 1 WaveAt [l] :=
  ⟨_, 1, rfl, ⟨by show 1 ≤ most; unfold most; omega, Nat.le_refl 1⟩, .inr ⟨W.heap.size, 0, rfl, fun i hi => by
    obtain rfl : i = 0 := by have : i < 1 := hi; omega
    exact ⟨v, cell_new rfl, h.keep IntAt.stable (bAlloc (Below.refl _ _) _)⟩⟩⟩
theorem two_waves {W : World} {v u : Value} {l m : List Int} (h : SliceV W v 1 IntAt l) (k : SliceV W u 1 IntAt m) (t : Nat) : SliceV (W.alloc (.cells #[v, u] t)) (.slice (some ⟨W.heap.size, 0, none⟩) 2 2) 1 WaveAt [l, m] :=
  ⟨_, 2, rfl, ⟨by show 2 ≤ most; unfold most; omega, Nat.le_refl 2⟩, .inr ⟨W.heap.size, 0, rfl, fun i hi => by
    have : i < 2 := hi
    obtain rfl | rfl : i = 0 ∨ i = 1 := by omega
    · exact ⟨v, cell_new rfl, h.keep IntAt.stable (bAlloc (Below.refl _ _) _)⟩
    · exact ⟨u, cell_new rfl, k.keep IntAt.stable (bAlloc (Below.refl _ _) _)⟩⟩⟩
end Go.Proofs.Ytbeeddenidfenaa
