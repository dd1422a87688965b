/- Contracts: the parts of a note; notes checked. -/
import Derived.Test.YtejcbcjhmnhefabDoorA6
set_option linter.unusedSimpArgs false
set_option linter.unusedVariables false
namespace Go.Proofs.YtejcbcjhmnhefabDoor
open Go.RowKit

def glideC (above length i : Int) : Int := if i ≥ length then 0 else rnd (100 * above * (length - i)) length
def vibC (delay depth period i : Int) : Int :=
  if i < delay then 0 else
    let j := (i - delay) % period
    if 4 * j > 3 * period then rnd (4 * depth * j - 4 * depth * period) period
    else if 4 * j > period then rnd (2 * depth * period - 4 * depth * j) period
    else rnd (4 * depth * j) period
/-- The cents of a note's frame, where the note before has such a key. -/
def centsAt (before : Int) (x : Note) (i : Int) : Int := 100 * x.key + glideC (before - x.key) x.glide i + vibC x.delay x.depth x.period i

set_option maxHeartbeats 1000000 in
theorem toneCents_any (k i : Int) (w : World) (h0 : 0 ≤ k) (h1 : k ≤ 119) : Calls Tryd.prog 74 #[.int .i64 k, .int .i64 i] w fun e w' => e = .returned (.int .i64 (100 * k)) ∧ w = w' := by
  go_enter Tryd.func74, Tryd.ntmps74
  go_wp2
  go_ret
  exact ⟨rfl, rfl⟩
set_option maxHeartbeats 1000000 in
theorem glideCents_any (a g i : Int) (w : World) (ha0 : -119 ≤ a) (ha1 : a ≤ 119) (hg0 : 0 ≤ g) (hg1 : g ≤ 1000) (hi0 : 0 ≤ i) (hi1 : i ≤ 1000) :
    Calls Tryd.prog 75 #[.agg #[.int .i64 a, .int .i64 g], .int .i64 i] w fun e w' => e = .returned (.int .i64 (glideC a g i)) ∧ Below w.heap.size w w' := by
  have HN := Lib.hid (bAlloc (Below.refl w.heap.size w) (.cells #[.int .i64 a, .int .i64 g] 69))
  by_cases h : i ≥ g
  · have hr : glideC a g i = 0 := if_pos h
    rw [hr]
    go_enter Tryd.func75, Tryd.ntmps75
    go_wp2
    go_ret
    exact ⟨rfl, HN.out⟩
  · have hr : glideC a g i = rnd (100 * a * (g - i)) g := if_neg h
    have hm := mul_in (A := 11900) (B := 1000) (show -11900 ≤ 100 * a by omega) (by omega) (show -1000 ≤ g - i by omega) (by omega)
    have q : IntKind.i64.wrap (100 * a * (g - i)) = 100 * a * (g - i) := IntWalk.i64_in _ (by omega)
    have h71 := fun W => rounded_any (100 * a * (g - i)) g W (by omega) (by omega) (by omega) (by omega)
    rw [hr]
    go_enter Tryd.func75, Tryd.ntmps75
    go_wp2_with (go_at_call 34; refine (h71 _).mono ?_; rintro e w1 ⟨rfl, rfl⟩)
    go_ret
    exact ⟨rfl, HN.out⟩
set_option maxHeartbeats 4000000 in
theorem vibCents_any (dl dp pr i : Int) (w : World) (h1 : 0 ≤ dl) (h2 : dl ≤ 1000) (h3 : 0 ≤ dp) (h4 : dp ≤ 200) (h5 : 4 ≤ pr) (h6 : pr ≤ 200) (hi0 : 0 ≤ i) (hi1 : i ≤ 1000) :
    Calls Tryd.prog 76 #[.agg #[.int .i64 dl, .int .i64 dp, .int .i64 pr], .int .i64 i] w fun e w' => e = .returned (.int .i64 (vibC dl dp pr i)) ∧ Below w.heap.size w w' := by
  have HN := Lib.hid (bAlloc (Below.refl w.heap.size w) (.cells #[.int .i64 dl, .int .i64 dp, .int .i64 pr] 71))
  by_cases h : i < dl
  · have hr : vibC dl dp pr i = 0 := if_pos h
    rw [hr]
    go_enter Tryd.func76, Tryd.ntmps76
    go_wp2
    go_ret
    exact ⟨rfl, HN.out⟩
  · have hp0 : ¬ pr = 0 := by omega
    have hp1 : (pr == 0) = false := by simp; omega
    have hj0 := Int.emod_nonneg (i - dl) hp0
    have hj1 := Int.emod_lt_of_pos (i - dl) (show 0 < pr by omega)
    have hmd : (i - dl).tmod pr = (i - dl) % pr := Int.tmod_eq_emod_of_nonneg (by omega)
    have qmd : IntKind.i64.wrap ((i - dl) % pr) = (i - dl) % pr := IntWalk.i64_in _ (by omega)
    obtain ⟨j, hj⟩ : ∃ j, j = (i - dl) % pr := ⟨_, rfl⟩
    have hr : vibC dl dp pr i = if 4 * j > 3 * pr then rnd (4 * dp * j - 4 * dp * pr) pr else if 4 * j > pr then rnd (2 * dp * pr - 4 * dp * j) pr else rnd (4 * dp * j) pr := by
      rw [hj]; exact if_neg h
    rw [← hj] at hj0 hj1 hmd qmd
    have m1 := mul_in (A := 800) (B := 200) (show -800 ≤ 4 * dp by omega) (by omega) (show -200 ≤ j by omega) (by omega)
    have m2 := mul_in (A := 800) (B := 200) (show -800 ≤ 4 * dp by omega) (by omega) (show -200 ≤ pr by omega) (by omega)
    have m3 := mul_in (A := 400) (B := 200) (show -400 ≤ 2 * dp by omega) (by omega) (show -200 ≤ pr by omega) (by omega)
    have q1 : IntKind.i64.wrap (4 * dp * j) = 4 * dp * j := IntWalk.i64_in _ (by omega)
    have q2 : IntKind.i64.wrap (4 * dp * pr) = 4 * dp * pr := IntWalk.i64_in _ (by omega)
    have q3 : IntKind.i64.wrap (2 * dp * pr) = 2 * dp * pr := IntWalk.i64_in _ (by omega)
    have hj2 : (i - dl) % pr = j := hj.symm
    clear hj
    rw [hr]
    clear hr
    by_cases c1 : 4 * j > 3 * pr
    · have c1' : decide (4 * j > 3 * pr) = true := by simp; omega
      have h71 := fun W => rounded_any (4 * dp * j - 4 * dp * pr) pr W (by omega) (by omega) (by omega) (by omega)
      rw [if_pos c1]
      go_enter Tryd.func76, Tryd.ntmps76
      go_wp2_with (go_at_call 34; refine (h71 _).mono ?_; rintro e w1 ⟨rfl, rfl⟩)
      go_ret
      exact ⟨rfl, HN.out⟩
    · have c1' : decide (4 * j > 3 * pr) = false := by simp; omega
      rw [if_neg c1]
      by_cases c2 : 4 * j > pr
      · have h71 := fun W => rounded_any (2 * dp * pr - 4 * dp * j) pr W (by omega) (by omega) (by omega) (by omega)
        rw [if_pos c2]
        go_enter Tryd.func76, Tryd.ntmps76
        go_wp2_with (go_at_call 34; refine (h71 _).mono ?_; rintro e w1 ⟨rfl, rfl⟩)
        go_ret
        exact ⟨rfl, HN.out⟩
      · have h71 := fun W => rounded_any (4 * dp * j) pr W (by omega) (by omega) (by omega) (by omega)
        rw [if_neg c2]
        go_enter Tryd.func76, Tryd.ntmps76
        go_wp2_with (go_at_call 34; refine (h71 _).mono ?_; rintro e w1 ⟨rfl, rfl⟩)
        go_ret
        exact ⟨rfl, HN.out⟩
def lenSum (l : List Note) (k : Nat) : Int := ((l.take k).map Note.length).sum
theorem lenSum_succ (l : List Note) (k : Nat) (h : k < l.length) : lenSum l (k + 1) = lenSum l k + l[k].length := by
  unfold lenSum
  rw [take_succ l k h, List.map_append, List.sum_append]
  simp only [List.map_cons, List.map_nil, List.sum_cons, List.sum_nil]
  omega
theorem noteOk_in {n : Note} (h : noteOk n = true) : (0 ≤ n.key ∧ n.key ≤ 119) ∧ (1 ≤ n.length ∧ n.length ≤ 1000) ∧ (0 ≤ n.glide ∧ n.glide ≤ n.length) ∧ (0 ≤ n.delay ∧ n.delay ≤ n.length) ∧ (0 ≤ n.depth ∧ n.depth ≤ 200) ∧ (4 ≤ n.period ∧ n.period ≤ 200) := by
  simpa [noteOk, betw, and_assoc] using h
theorem lenSum_in {l : List Note} (h : ∀ x ∈ l, noteOk x = true) : ∀ k, k ≤ l.length → (k : Int) ≤ lenSum l k ∧ lenSum l k ≤ 1000 * (k : Int) := by
  intro k
  induction k with
  | zero => intro _; simp [lenSum]
  | succ k ih =>
    intro hk
    have h1 := ih (by omega)
    have h2 := (noteOk_in (h _ (List.getElem_mem (show k < l.length by omega)))).2.1
    rw [lenSum_succ l k (by omega), Int.natCast_add]
    omega
set_option maxHeartbeats 1000000 in
theorem frames_any (l : List Note) (v : Value) (w : World) (hv : SliceV w v 6 NoteAt l) (hok : ∀ x ∈ l, noteOk x = true) (hl : l.length ≤ 100) :
    Calls Tryd.prog 29 #[v] w fun e w' => e = .returned (.int .i64 (lenSum l l.length)) ∧ Below w.heap.size w w' := by
  have HV := Lib.hid hv
  have HOK := Lib.hid hok
  obtain ⟨a, c, rfl, -, -⟩ := hv
  clear hok
  go_enter Tryd.func29, Tryd.ntmps29
  go_wp2_with fail
  go_loopw [3, 8] (fun s i wr => ∃ k : Nat, k ≤ l.length ∧ i = .int .i64 k ∧ s = .int .i64 (lenSum l k) ∧ Hid (Below w.heap.size w wr)) (fun _ i _ => l.length - (intOf i).toNat)
  case atStart => exact ⟨0, Nat.zero_le _, rfl, rfl, Lib.hid (Below.refl _ _)⟩
  case round =>
    obtain ⟨k, hk, rfl, rfl, HB⟩ := hrel
    have hs := lenSum_in HOK.out k hk
    by_cases hlt : k < l.length
    · obtain ⟨b, o, rfl, hf⟩ := HV.out.at (by intro h; simp [h] at hlt)
      obtain ⟨k0, k1, k2, k3, k4, k5⟩ := NoteAt.stable _ _ _ _ _ HB.out (hf k hlt)
      have hkb := cell_lt k0
      have hx := (noteOk_in (HOK.out _ (List.getElem_mem hlt))).2.1
      have HS := Lib.hid (lenSum_succ l k hlt)
      clear hf
      generalize l[k] = x at *
      generalize lenSum l k = s at *
      go_wp2_with fail
      go_roundw
      case rel => exact ⟨k + 1, by omega, by go_num, by rw [HS.out], Lib.hid (bAlloc HB.out _)⟩
      case measure => simp [intOf]; omega
    · obtain rfl : k = l.length := by omega
      go_wp2_with fail
      go_ret
      exact ⟨rfl, HB.out⟩
def notesOk (l : List Note) : Bool := decide ((l.length : Int) ≤ 100) && !l.any (fun x => !noteOk x) && decide (lenSum l l.length ≤ 4000)
set_option maxHeartbeats 1000000 in
theorem notesRight_any (l : List Note) (v : Value) (w : World) (hv : SliceV w v 6 NoteAt l) :
    Calls Tryd.prog 14 #[v] w fun e w' => e = .returned (.bool (notesOk l)) ∧ Below w.heap.size w w' := by
  have HC := Lib.hid (containsN_any l v w hv)
  have HV := Lib.hid hv
  obtain ⟨a, c, rfl, hl, -⟩ := hv
  unfold most at hl
  by_cases h2 : (l.length : Int) ≤ 100
  · cases h3 : l.any (fun x => !noteOk x)
    · rw [h3] at HC
      have hall : ∀ x ∈ l, noteOk x = true := fun x hx => by
        simp only [List.any_eq_false] at h3
        simpa using h3 x hx
      have h89 := fun W hB => frames_any l _ W (HV.out.keep NoteAt.stable hB) hall (by omega)
      have H89 := Lib.hid h89
      clear h89
      go_enter Tryd.func14, Tryd.ntmps14
      go_wp2_with (first
        | (go_at_call 27; refine HC.out.mono ?_; rintro e w1 ⟨rfl, hb⟩)
        | (go_at_call 29; refine (H89.out _ hb).mono ?_; rintro e w2 ⟨rfl, hb2⟩; have HB := bThen hb hb2; clear hb2))
      go_ret
      exact ⟨ret_bool (by simp [notesOk, h2, h3]), HB⟩
    · rw [h3] at HC
      go_enter Tryd.func14, Tryd.ntmps14
      go_wp2_with (first
        | (go_at_call 27; refine HC.out.mono ?_; rintro e w1 ⟨rfl, hb⟩))
      go_ret
      exact ⟨ret_bool (by simp [notesOk, h2, h3]), hb⟩
  · go_enter Tryd.func14, Tryd.ntmps14
    go_wp2_with fail
    go_ret
    exact ⟨ret_bool (by simp [notesOk]; omega), Below.refl _ _⟩
end Go.Proofs.YtejcbcjhmnhefabDoor
