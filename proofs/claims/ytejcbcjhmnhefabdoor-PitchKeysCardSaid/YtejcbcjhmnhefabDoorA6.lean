/- Contracts: the checks of lists: commands, targets, frequencies, notes. -/
import Derived.Test.YtejcbcjhmnhefabDoorA5
set_option linter.unusedSimpArgs false
set_option linter.unusedVariables false
namespace Go.Proofs.YtejcbcjhmnhefabDoor
open Go.RowKit

def tgtOk (frames : Int) (t : Tgt) : Bool := betw t.time 0 (frames - 1) && betw t.value (-200000) 200000 && betw t.weight 0 1000
def noteOk (n : Note) : Bool := betw n.key 0 119 && betw n.length 1 1000 && betw n.glide 0 n.length && betw n.delay 0 n.length && betw n.depth 0 200 && betw n.period 4 200
def samOk (rate : Int) (f : Int) : Bool := betw f 0 (1000 * rate / 2)

set_option maxHeartbeats 1000000 in
theorem noteWrong_any (n : Note) (w : World) :
    Calls Tryd.prog 28 #[.agg #[.int .i64 n.key, .int .i64 n.length, .int .i64 n.glide, .int .i64 n.delay, .int .i64 n.depth, .int .i64 n.period]] w fun e w' => e = .returned (.bool (!noteOk n)) ∧ Below w.heap.size w w' := by
  cases g1 : betw n.key 0 119
  · go_enter Tryd.func28, Tryd.ntmps28
    go_wp2_with (go_at_call 17; refine (between_any _ _ _ _).mono ?_; rintro e w' ⟨rfl, rfl⟩)
    go_ret
    exact ⟨ret_bool (by simp [noteOk, *]), bAlloc (Below.refl _ _) _⟩
  · cases g2 : betw n.length 1 1000
    · go_enter Tryd.func28, Tryd.ntmps28
      go_wp2_with (go_at_call 17; refine (between_any _ _ _ _).mono ?_; rintro e w' ⟨rfl, rfl⟩)
      go_ret
      exact ⟨ret_bool (by simp [noteOk, *]), bAlloc (Below.refl _ _) _⟩
    · cases g3 : betw n.glide 0 n.length
      · go_enter Tryd.func28, Tryd.ntmps28
        go_wp2_with (go_at_call 17; refine (between_any _ _ _ _).mono ?_; rintro e w' ⟨rfl, rfl⟩)
        go_ret
        exact ⟨ret_bool (by simp [noteOk, *]), bAlloc (Below.refl _ _) _⟩
      · cases g4 : betw n.delay 0 n.length
        · go_enter Tryd.func28, Tryd.ntmps28
          go_wp2_with (go_at_call 17; refine (between_any _ _ _ _).mono ?_; rintro e w' ⟨rfl, rfl⟩)
          go_ret
          exact ⟨ret_bool (by simp [noteOk, *]), bAlloc (Below.refl _ _) _⟩
        · cases g5 : betw n.depth 0 200
          · go_enter Tryd.func28, Tryd.ntmps28
            go_wp2_with (go_at_call 17; refine (between_any _ _ _ _).mono ?_; rintro e w' ⟨rfl, rfl⟩)
            go_ret
            exact ⟨ret_bool (by simp [noteOk, *]), bAlloc (Below.refl _ _) _⟩
          · cases g6 : betw n.period 4 200
            · go_enter Tryd.func28, Tryd.ntmps28
              go_wp2_with (go_at_call 17; refine (between_any _ _ _ _).mono ?_; rintro e w' ⟨rfl, rfl⟩)
              go_ret
              exact ⟨ret_bool (by simp [noteOk, *]), bAlloc (Below.refl _ _) _⟩
            · go_enter Tryd.func28, Tryd.ntmps28
              go_wp2_with (go_at_call 17; refine (between_any _ _ _ _).mono ?_; rintro e w' ⟨rfl, rfl⟩)
              go_ret
              exact ⟨ret_bool (by simp [noteOk, *]), bAlloc (Below.refl _ _) _⟩

set_option maxHeartbeats 1000000 in
theorem targetRight_any (fr lo hi sl sm : Int) (v : Value) (t : Tgt) (w : World) (h0 : 0 ≤ fr) (h1 : fr ≤ 1000000) (hv : ∃ a n c, v = .slice a n c) :
    Calls Tryd.prog 39 #[.agg #[.int .i64 fr, .int .i64 lo, .int .i64 hi, .int .i64 sl, .int .i64 sm, v], .agg #[.int .i64 t.time, .int .i64 t.value, .int .i64 t.weight]] w fun e w' => e = .returned (.bool (tgtOk fr t)) ∧ Below w.heap.size w w' := by
  obtain ⟨a, n, c, rfl⟩ := hv
  cases g1 : betw t.time 0 (fr - 1)
  · go_enter Tryd.func39, Tryd.ntmps39
    go_wp2_with (go_at_call 17; refine (between_any _ _ _ _).mono ?_; rintro e w' ⟨rfl, rfl⟩)
    go_ret
    exact ⟨ret_bool (by simp [tgtOk, *]), bAlloc (bAlloc (Below.refl _ _) _) _⟩
  · cases g2 : betw t.value (-200000) 200000
    · go_enter Tryd.func39, Tryd.ntmps39
      go_wp2_with (go_at_call 17; refine (between_any _ _ _ _).mono ?_; rintro e w' ⟨rfl, rfl⟩)
      go_ret
      exact ⟨ret_bool (by simp [tgtOk, *]), bAlloc (bAlloc (Below.refl _ _) _) _⟩
    · cases g3 : betw t.weight 0 1000
      · go_enter Tryd.func39, Tryd.ntmps39
        go_wp2_with (go_at_call 17; refine (between_any _ _ _ _).mono ?_; rintro e w' ⟨rfl, rfl⟩)
        go_ret
        exact ⟨ret_bool (by simp [tgtOk, *]), bAlloc (bAlloc (Below.refl _ _) _) _⟩
      · go_enter Tryd.func39, Tryd.ntmps39
        go_wp2_with (go_at_call 17; refine (between_any _ _ _ _).mono ?_; rintro e w' ⟨rfl, rfl⟩)
        go_ret
        exact ⟨ret_bool (by simp [tgtOk, *]), bAlloc (bAlloc (Below.refl _ _) _) _⟩

set_option maxHeartbeats 1000000 in
theorem targetWrong_any (fr lo hi sl sm : Int) (v : Value) (t : Tgt) (b : Nat) (w : World) (h0 : 0 ≤ fr) (h1 : fr ≤ 1000000) (hv : ∃ a n c, v = .slice a n c)
    (c0 : w.cell? ⟨b, 0, none⟩ = some (.int .i64 fr)) (c1 : w.cell? ⟨b, 1, none⟩ = some (.int .i64 lo)) (c2 : w.cell? ⟨b, 2, none⟩ = some (.int .i64 hi)) (c3 : w.cell? ⟨b, 3, none⟩ = some (.int .i64 sl))
    (c4 : w.cell? ⟨b, 4, none⟩ = some (.int .i64 sm)) (c5 : w.cell? ⟨b, 5, none⟩ = some v) :
    Calls Tryd.prog 38 #[.agg #[.int .i64 t.time, .int .i64 t.value, .int .i64 t.weight], .pointer (some ⟨b, 0, none⟩)] w fun e w' => e = .returned (.bool (!tgtOk fr t)) ∧ Below w.heap.size w w' := by
  have hlb := cell_lt c0
  have HT : ∀ W, Hid (Calls Tryd.prog 39 #[.agg #[.int .i64 fr, .int .i64 lo, .int .i64 hi, .int .i64 sl, .int .i64 sm, v], .agg #[.int .i64 t.time, .int .i64 t.value, .int .i64 t.weight]] W fun e w' => e = .returned (.bool (tgtOk fr t)) ∧ Below W.heap.size W w') :=
    fun W => Lib.hid (targetRight_any fr lo hi sl sm v t W h0 h1 hv)
  obtain ⟨a, n, c, rfl⟩ := hv
  have HN := Lib.hid (bAlloc (Below.refl w.heap.size w) (.cells #[.int .i64 t.time, .int .i64 t.value, .int .i64 t.weight] 43))
  go_enter Tryd.func38, Tryd.ntmps38
  go_wp2_with (go_at_call 39; refine (HT _).out.mono ?_; rintro e w1 ⟨rfl, hb⟩; have HB := bThen HN.out hb)
  go_ret
  exact ⟨rfl, HB⟩

set_option maxHeartbeats 1000000 in
theorem cycle_any (rate : Int) (w : World) (h0 : 0 ≤ rate) (h1 : rate ≤ 1000000000) : Calls Tryd.prog 44 #[.int .i64 rate] w fun e w' => e = .returned (.int .i64 (1000 * rate)) ∧ w = w' := by
  go_enter Tryd.func44, Tryd.ntmps44
  go_wp2
  go_ret
  exact ⟨rfl, rfl⟩
set_option maxHeartbeats 1000000 in
theorem sampleWrong_any (rate f : Int) (b : Nat) (w : World) (h0 : 0 ≤ rate) (h1 : rate ≤ 1000000000) (c0 : w.cell? ⟨b, 0, none⟩ = some (.int .i64 rate)) :
    Calls Tryd.prog 43 #[.int .i64 f, .pointer (some ⟨b, 0, none⟩)] w fun e w' => e = .returned (.bool (!samOk rate f)) ∧ Below w.heap.size w w' := by
  have hlb := cell_lt c0
  go_enter Tryd.func43, Tryd.ntmps43
  go_wp2_with (first | (go_at_call 44; refine (cycle_any _ _ h0 h1).mono ?_; rintro e w1 ⟨rfl, rfl⟩) | (go_at_call 17; refine (between_any _ _ _ _).mono ?_; rintro e w' ⟨rfl, rfl⟩))
  go_ret
  exact ⟨ret_bool (by simp [samOk]), Below.refl _ _⟩

set_option maxHeartbeats 1000000 in
theorem indexC_any (l : List Cmd) (v : Value) (w : World) (hv : SliceV w v 3 CmdAt l) :
    Calls Tryd.prog 48 #[v, .func (.func 16) #[] #[]] w fun e w' => (∃ r : Int, e = .returned (.int .i64 r) ∧ decide (0 ≤ r) = l.any (fun x => !cmdOk x)) ∧ Below w.heap.size w w' := by
  have HV := Lib.hid hv
  obtain ⟨a, c, rfl, hl, -⟩ := hv
  unfold most at hl
  go_enter Tryd.func48, Tryd.ntmps48
  go_wp2_with fail
  go_loopw [5, 8] (fun _ i wr => ∃ k : Nat, k ≤ l.length ∧ i = .int .i64 k ∧ Hid ((l.take k).any (fun x => !cmdOk x) = false) ∧ Below w.heap.size w wr) (fun _ i _ => l.length - (intOf i).toNat)
  case atStart => exact ⟨0, Nat.zero_le _, rfl, Lib.hid (by simp), Below.refl _ _⟩
  case round =>
    obtain ⟨k, hk, rfl, HK, hB⟩ := hrel
    by_cases hlt : k < l.length
    · obtain ⟨b, o, rfl, hf⟩ := HV.out.at (by intro h; simp [h] at hlt)
      have hx := CmdAt.stable _ _ _ _ _ hB (hf k hlt)
      have HIN : Hid (l[k] ∈ l) := Lib.hid (List.getElem_mem hlt)
      have HT : Hid ((l.take (k + 1)).any (fun x => !cmdOk x) = ((l.take k).any (fun x => !cmdOk x) || !(fun x => cmdOk x) l[k])) := Lib.hid (by rw [take_succ l k hlt, List.any_append]; simp)
      clear hf
      generalize l[k] = x at *
      obtain ⟨k0, k1, vx, k2, hs⟩ := hx
      obtain ⟨sa, sc, rfl, -⟩ := id hs
      have hkb := cell_lt k0
      cases hp : cmdOk x
      · go_wp2_with (go_at_call 16; refine (commandWrong_any x _ _ (hs.keep KnotAt.stable (Below.refl _ _))).mono ?_; rintro e w1 ⟨rfl, hb⟩; rw [hp]; have HB := Lib.hid (bThen hB hb); clear hb)
        go_ret
        refine ⟨⟨k, rfl, ?_⟩, HB.out⟩
        have : l.any (fun x => !cmdOk x) = true := List.any_eq_true.2 ⟨x, HIN.out, by simp [hp]⟩
        rw [this]; simp
      · go_wp2_with (go_at_call 16; refine (commandWrong_any x _ _ (hs.keep KnotAt.stable (Below.refl _ _))).mono ?_; rintro e w1 ⟨rfl, hb⟩; rw [hp]; have HB := Lib.hid (bThen hB hb); clear hb)
        go_roundw
        case rel => exact ⟨k + 1, by omega, by go_num, Lib.hid (by rw [HT.out, HK.out]; simp [hp]), HB.out⟩
        case measure => simp [intOf]; omega
    · obtain rfl : k = l.length := by omega
      go_wp2_with fail
      go_ret
      refine ⟨⟨-1, rfl, ?_⟩, hB⟩
      have h := HK.out
      rw [List.take_length] at h
      rw [h]; rfl

set_option maxHeartbeats 1000000 in
theorem containsC_any (l : List Cmd) (v : Value) (w : World) (hv : SliceV w v 3 CmdAt l) :
    Calls Tryd.prog 35 #[v, .func (.func 16) #[] #[]] w fun e w' => e = .returned (.bool (l.any (fun x => !cmdOk x))) ∧ Below w.heap.size w w' := by
  have H := Lib.hid (indexC_any l v w hv)
  obtain ⟨a, c, rfl, hl, -⟩ := hv
  go_enter Tryd.func35, Tryd.ntmps35
  go_wp2_with (go_at_call 48; refine H.out.mono ?_; rintro e w1 ⟨⟨r, rfl, hr⟩, hb⟩)
  go_ret
  exact ⟨ret_bool (by rw [← hr]), hb⟩

set_option maxHeartbeats 1000000 in
theorem indexT_any (l : List Tgt) (fr lo hi sl sm : Int) (u : Value) (pb : Nat) (v : Value) (w : World) (hv : SliceV w v 3 TgtAt l) (h0 : 0 ≤ fr) (h1 : fr ≤ 1000000) (hu : ∃ a n c, u = .slice a n c) (c0 : w.cell? ⟨pb, 0, none⟩ = some (.int .i64 fr)) (c1 : w.cell? ⟨pb, 1, none⟩ = some (.int .i64 lo)) (c2 : w.cell? ⟨pb, 2, none⟩ = some (.int .i64 hi)) (c3 : w.cell? ⟨pb, 3, none⟩ = some (.int .i64 sl)) (c4 : w.cell? ⟨pb, 4, none⟩ = some (.int .i64 sm)) (c5 : w.cell? ⟨pb, 5, none⟩ = some u) :
    Calls Tryd.prog 50 #[v, .func (.func 38) #[] #[.pointer (some ⟨pb, 0, none⟩)]] w fun e w' => (∃ r : Int, e = .returned (.int .i64 r) ∧ decide (0 ≤ r) = l.any (fun x => !tgtOk fr x)) ∧ Below w.heap.size w w' := by
  have HV := Lib.hid hv
  obtain ⟨a, c, rfl, hl, -⟩ := hv
  unfold most at hl
  go_enter Tryd.func50, Tryd.ntmps50
  go_wp2_with fail
  go_loopw [5, 8] (fun _ i wr => ∃ k : Nat, k ≤ l.length ∧ i = .int .i64 k ∧ Hid ((l.take k).any (fun x => !tgtOk fr x) = false) ∧ Below w.heap.size w wr) (fun _ i _ => l.length - (intOf i).toNat)
  case atStart => exact ⟨0, Nat.zero_le _, rfl, Lib.hid (by simp), Below.refl _ _⟩
  case round =>
    obtain ⟨k, hk, rfl, HK, hB⟩ := hrel
    by_cases hlt : k < l.length
    · obtain ⟨b, o, rfl, hf⟩ := HV.out.at (by intro h; simp [h] at hlt)
      have hx := TgtAt.stable _ _ _ _ _ hB (hf k hlt)
      have HIN : Hid (l[k] ∈ l) := Lib.hid (List.getElem_mem hlt)
      have HT : Hid ((l.take (k + 1)).any (fun x => !tgtOk fr x) = ((l.take k).any (fun x => !tgtOk fr x) || !(fun x => tgtOk fr x) l[k])) := Lib.hid (by rw [take_succ l k hlt, List.any_append]; simp)
      clear hf
      generalize l[k] = x at *
      obtain ⟨k0, k1, k2⟩ := hx
      have hkb := cell_lt k0
      cases hp : tgtOk fr x
      · go_wp2_with (go_at_call 38; refine (targetWrong_any fr lo hi sl sm u x pb _ h0 h1 hu (keep hB c0) (keep hB c1) (keep hB c2) (keep hB c3) (keep hB c4) (keep hB c5)).mono ?_; rintro e w1 ⟨rfl, hb⟩; rw [hp]; have HB := Lib.hid (bThen hB hb); clear hb)
        go_ret
        refine ⟨⟨k, rfl, ?_⟩, HB.out⟩
        have : l.any (fun x => !tgtOk fr x) = true := List.any_eq_true.2 ⟨x, HIN.out, by simp [hp]⟩
        rw [this]; simp
      · go_wp2_with (go_at_call 38; refine (targetWrong_any fr lo hi sl sm u x pb _ h0 h1 hu (keep hB c0) (keep hB c1) (keep hB c2) (keep hB c3) (keep hB c4) (keep hB c5)).mono ?_; rintro e w1 ⟨rfl, hb⟩; rw [hp]; have HB := Lib.hid (bThen hB hb); clear hb)
        go_roundw
        case rel => exact ⟨k + 1, by omega, by go_num, Lib.hid (by rw [HT.out, HK.out]; simp [hp]), HB.out⟩
        case measure => simp [intOf]; omega
    · obtain rfl : k = l.length := by omega
      go_wp2_with fail
      go_ret
      refine ⟨⟨-1, rfl, ?_⟩, hB⟩
      have h := HK.out
      rw [List.take_length] at h
      rw [h]; rfl

set_option maxHeartbeats 1000000 in
theorem containsT_any (l : List Tgt) (fr lo hi sl sm : Int) (u : Value) (pb : Nat) (v : Value) (w : World) (hv : SliceV w v 3 TgtAt l) (h0 : 0 ≤ fr) (h1 : fr ≤ 1000000) (hu : ∃ a n c, u = .slice a n c) (c0 : w.cell? ⟨pb, 0, none⟩ = some (.int .i64 fr)) (c1 : w.cell? ⟨pb, 1, none⟩ = some (.int .i64 lo)) (c2 : w.cell? ⟨pb, 2, none⟩ = some (.int .i64 hi)) (c3 : w.cell? ⟨pb, 3, none⟩ = some (.int .i64 sl)) (c4 : w.cell? ⟨pb, 4, none⟩ = some (.int .i64 sm)) (c5 : w.cell? ⟨pb, 5, none⟩ = some u) :
    Calls Tryd.prog 37 #[v, .func (.func 38) #[] #[.pointer (some ⟨pb, 0, none⟩)]] w fun e w' => e = .returned (.bool (l.any (fun x => !tgtOk fr x))) ∧ Below w.heap.size w w' := by
  have H := Lib.hid (indexT_any l fr lo hi sl sm u pb v w hv h0 h1 hu c0 c1 c2 c3 c4 c5)
  obtain ⟨a, c, rfl, hl, -⟩ := hv
  go_enter Tryd.func37, Tryd.ntmps37
  go_wp2_with (go_at_call 50; refine H.out.mono ?_; rintro e w1 ⟨⟨r, rfl, hr⟩, hb⟩)
  go_ret
  exact ⟨ret_bool (by rw [← hr]), hb⟩

set_option maxHeartbeats 1000000 in
theorem indexI_any (l : List Int) (rate : Int) (pb : Nat) (v : Value) (w : World) (hv : SliceV w v 1 IntAt l) (h0 : 0 ≤ rate) (h1 : rate ≤ 1000000000) (c0 : w.cell? ⟨pb, 0, none⟩ = some (.int .i64 rate)) :
    Calls Tryd.prog 56 #[v, .func (.func 43) #[] #[.pointer (some ⟨pb, 0, none⟩)]] w fun e w' => (∃ r : Int, e = .returned (.int .i64 r) ∧ decide (0 ≤ r) = l.any (fun x => !samOk rate x)) ∧ Below w.heap.size w w' := by
  have HV := Lib.hid hv
  obtain ⟨a, c, rfl, hl, -⟩ := hv
  unfold most at hl
  go_enter Tryd.func56, Tryd.ntmps56
  go_wp2_with fail
  go_loopw [5, 8] (fun _ i wr => ∃ k : Nat, k ≤ l.length ∧ i = .int .i64 k ∧ Hid ((l.take k).any (fun x => !samOk rate x) = false) ∧ Below w.heap.size w wr) (fun _ i _ => l.length - (intOf i).toNat)
  case atStart => exact ⟨0, Nat.zero_le _, rfl, Lib.hid (by simp), Below.refl _ _⟩
  case round =>
    obtain ⟨k, hk, rfl, HK, hB⟩ := hrel
    by_cases hlt : k < l.length
    · obtain ⟨b, o, rfl, hf⟩ := HV.out.at (by intro h; simp [h] at hlt)
      have hx := IntAt.stable _ _ _ _ _ hB (hf k hlt)
      have HIN : Hid (l[k] ∈ l) := Lib.hid (List.getElem_mem hlt)
      have HT : Hid ((l.take (k + 1)).any (fun x => !samOk rate x) = ((l.take k).any (fun x => !samOk rate x) || !(fun x => samOk rate x) l[k])) := Lib.hid (by rw [take_succ l k hlt, List.any_append]; simp)
      clear hf
      generalize l[k] = x at *
      have k0 := hx
      unfold IntAt at k0
      rw [Nat.mul_one] at k0
      have hkb := cell_lt k0
      cases hp : samOk rate x
      · go_wp2_with (go_at_call 43; refine (sampleWrong_any rate x pb _ h0 h1 (keep hB c0)).mono ?_; rintro e w1 ⟨rfl, hb⟩; rw [hp]; have HB := Lib.hid (bThen hB hb); clear hb)
        go_ret
        refine ⟨⟨k, rfl, ?_⟩, HB.out⟩
        have : l.any (fun x => !samOk rate x) = true := List.any_eq_true.2 ⟨x, HIN.out, by simp [hp]⟩
        rw [this]; simp
      · go_wp2_with (go_at_call 43; refine (sampleWrong_any rate x pb _ h0 h1 (keep hB c0)).mono ?_; rintro e w1 ⟨rfl, hb⟩; rw [hp]; have HB := Lib.hid (bThen hB hb); clear hb)
        go_roundw
        case rel => exact ⟨k + 1, by omega, by go_num, Lib.hid (by rw [HT.out, HK.out]; simp [hp]), HB.out⟩
        case measure => simp [intOf]; omega
    · obtain rfl : k = l.length := by omega
      go_wp2_with fail
      go_ret
      refine ⟨⟨-1, rfl, ?_⟩, hB⟩
      have h := HK.out
      rw [List.take_length] at h
      rw [h]; rfl

set_option maxHeartbeats 1000000 in
theorem containsI_any (l : List Int) (rate : Int) (pb : Nat) (v : Value) (w : World) (hv : SliceV w v 1 IntAt l) (h0 : 0 ≤ rate) (h1 : rate ≤ 1000000000) (c0 : w.cell? ⟨pb, 0, none⟩ = some (.int .i64 rate)) :
    Calls Tryd.prog 42 #[v, .func (.func 43) #[] #[.pointer (some ⟨pb, 0, none⟩)]] w fun e w' => e = .returned (.bool (l.any (fun x => !samOk rate x))) ∧ Below w.heap.size w w' := by
  have H := Lib.hid (indexI_any l rate pb v w hv h0 h1 c0)
  obtain ⟨a, c, rfl, hl, -⟩ := hv
  go_enter Tryd.func42, Tryd.ntmps42
  go_wp2_with (go_at_call 56; refine H.out.mono ?_; rintro e w1 ⟨⟨r, rfl, hr⟩, hb⟩)
  go_ret
  exact ⟨ret_bool (by rw [← hr]), hb⟩

set_option maxHeartbeats 1000000 in
theorem indexN_any (l : List Note) (v : Value) (w : World) (hv : SliceV w v 6 NoteAt l) :
    Calls Tryd.prog 46 #[v, .func (.func 28) #[] #[]] w fun e w' => (∃ r : Int, e = .returned (.int .i64 r) ∧ decide (0 ≤ r) = l.any (fun x => !noteOk x)) ∧ Below w.heap.size w w' := by
  have HV := Lib.hid hv
  obtain ⟨a, c, rfl, hl, -⟩ := hv
  unfold most at hl
  go_enter Tryd.func46, Tryd.ntmps46
  go_wp2_with fail
  go_loopw [5, 8] (fun _ i wr => ∃ k : Nat, k ≤ l.length ∧ i = .int .i64 k ∧ Hid ((l.take k).any (fun x => !noteOk x) = false) ∧ Below w.heap.size w wr) (fun _ i _ => l.length - (intOf i).toNat)
  case atStart => exact ⟨0, Nat.zero_le _, rfl, Lib.hid (by simp), Below.refl _ _⟩
  case round =>
    obtain ⟨k, hk, rfl, HK, hB⟩ := hrel
    by_cases hlt : k < l.length
    · obtain ⟨b, o, rfl, hf⟩ := HV.out.at (by intro h; simp [h] at hlt)
      have hx := NoteAt.stable _ _ _ _ _ hB (hf k hlt)
      have HIN : Hid (l[k] ∈ l) := Lib.hid (List.getElem_mem hlt)
      have HT : Hid ((l.take (k + 1)).any (fun x => !noteOk x) = ((l.take k).any (fun x => !noteOk x) || !(fun x => noteOk x) l[k])) := Lib.hid (by rw [take_succ l k hlt, List.any_append]; simp)
      clear hf
      generalize l[k] = x at *
      obtain ⟨k0, k1, k2, k3, k4, k5⟩ := hx
      have hkb := cell_lt k0
      cases hp : noteOk x
      · go_wp2_with (go_at_call 28; refine (noteWrong_any x _).mono ?_; rintro e w1 ⟨rfl, hb⟩; rw [hp]; have HB := Lib.hid (bThen hB hb); clear hb)
        go_ret
        refine ⟨⟨k, rfl, ?_⟩, HB.out⟩
        have : l.any (fun x => !noteOk x) = true := List.any_eq_true.2 ⟨x, HIN.out, by simp [hp]⟩
        rw [this]; simp
      · go_wp2_with (go_at_call 28; refine (noteWrong_any x _).mono ?_; rintro e w1 ⟨rfl, hb⟩; rw [hp]; have HB := Lib.hid (bThen hB hb); clear hb)
        go_roundw
        case rel => exact ⟨k + 1, by omega, by go_num, Lib.hid (by rw [HT.out, HK.out]; simp [hp]), HB.out⟩
        case measure => simp [intOf]; omega
    · obtain rfl : k = l.length := by omega
      go_wp2_with fail
      go_ret
      refine ⟨⟨-1, rfl, ?_⟩, hB⟩
      have h := HK.out
      rw [List.take_length] at h
      rw [h]; rfl

set_option maxHeartbeats 1000000 in
theorem containsN_any (l : List Note) (v : Value) (w : World) (hv : SliceV w v 6 NoteAt l) :
    Calls Tryd.prog 27 #[v, .func (.func 28) #[] #[]] w fun e w' => e = .returned (.bool (l.any (fun x => !noteOk x))) ∧ Below w.heap.size w w' := by
  have H := Lib.hid (indexN_any l v w hv)
  obtain ⟨a, c, rfl, hl, -⟩ := hv
  go_enter Tryd.func27, Tryd.ntmps27
  go_wp2_with (go_at_call 46; refine H.out.mono ?_; rintro e w1 ⟨⟨r, rfl, hr⟩, hb⟩)
  go_ret
  exact ⟨ret_bool (by rw [← hr]), hb⟩
end Go.Proofs.YtejcbcjhmnhefabDoor
