/- Contracts: the checks of lists: commands, targets, frequencies, notes. -/
import Derived.Test.YtejcbcjhmnhefaaDoorA5
set_option linter.unusedSimpArgs false
set_option linter.unusedVariables false
namespace Go.Proofs.YtejcbcjhmnhefaaDoor
open Go.RowKit

def tgtOk (frames : Int) (t : Tgt) : Bool := betw t.time 0 (frames - 1) && betw t.value (-200000) 200000 && betw t.weight 0 1000
def noteOk (n : Note) : Bool := betw n.key 0 119 && betw n.length 1 1000 && betw n.glide 0 n.length && betw n.delay 0 n.length && betw n.depth 0 200 && betw n.period 4 200
def samOk (rate : Int) (f : Int) : Bool := betw f 0 (1000 * rate / 2)

set_option maxHeartbeats 1000000 in
theorem noteWrong_any (n : Note) (w : World) :
    Calls Tryd.prog 88 #[.agg #[.int .i64 n.key, .int .i64 n.length, .int .i64 n.glide, .int .i64 n.delay, .int .i64 n.depth, .int .i64 n.period]] w fun e w' => e = .returned (.bool (!noteOk n)) ∧ Below w.heap.size w w' := by
  cases g1 : betw n.key 0 119
  · go_enter Tryd.func88, Tryd.ntmps88
    go_wp2_with (go_at_call 47; refine (between_any _ _ _ _).mono ?_; rintro e w' ⟨rfl, rfl⟩)
    go_ret
    exact ⟨ret_bool (by simp [noteOk, *]), bAlloc (Below.refl _ _) _⟩
  · cases g2 : betw n.length 1 1000
    · go_enter Tryd.func88, Tryd.ntmps88
      go_wp2_with (go_at_call 47; refine (between_any _ _ _ _).mono ?_; rintro e w' ⟨rfl, rfl⟩)
      go_ret
      exact ⟨ret_bool (by simp [noteOk, *]), bAlloc (Below.refl _ _) _⟩
    · cases g3 : betw n.glide 0 n.length
      · go_enter Tryd.func88, Tryd.ntmps88
        go_wp2_with (go_at_call 47; refine (between_any _ _ _ _).mono ?_; rintro e w' ⟨rfl, rfl⟩)
        go_ret
        exact ⟨ret_bool (by simp [noteOk, *]), bAlloc (Below.refl _ _) _⟩
      · cases g4 : betw n.delay 0 n.length
        · go_enter Tryd.func88, Tryd.ntmps88
          go_wp2_with (go_at_call 47; refine (between_any _ _ _ _).mono ?_; rintro e w' ⟨rfl, rfl⟩)
          go_ret
          exact ⟨ret_bool (by simp [noteOk, *]), bAlloc (Below.refl _ _) _⟩
        · cases g5 : betw n.depth 0 200
          · go_enter Tryd.func88, Tryd.ntmps88
            go_wp2_with (go_at_call 47; refine (between_any _ _ _ _).mono ?_; rintro e w' ⟨rfl, rfl⟩)
            go_ret
            exact ⟨ret_bool (by simp [noteOk, *]), bAlloc (Below.refl _ _) _⟩
          · cases g6 : betw n.period 4 200
            · go_enter Tryd.func88, Tryd.ntmps88
              go_wp2_with (go_at_call 47; refine (between_any _ _ _ _).mono ?_; rintro e w' ⟨rfl, rfl⟩)
              go_ret
              exact ⟨ret_bool (by simp [noteOk, *]), bAlloc (Below.refl _ _) _⟩
            · go_enter Tryd.func88, Tryd.ntmps88
              go_wp2_with (go_at_call 47; refine (between_any _ _ _ _).mono ?_; rintro e w' ⟨rfl, rfl⟩)
              go_ret
              exact ⟨ret_bool (by simp [noteOk, *]), bAlloc (Below.refl _ _) _⟩

set_option maxHeartbeats 1000000 in
theorem targetRight_any (fr lo hi sl sm : Int) (v : Value) (t : Tgt) (w : World) (h0 : 0 ≤ fr) (h1 : fr ≤ 1000000) (hv : ∃ a n c, v = .slice a n c) :
    Calls Tryd.prog 76 #[.agg #[.int .i64 fr, .int .i64 lo, .int .i64 hi, .int .i64 sl, .int .i64 sm, v], .agg #[.int .i64 t.time, .int .i64 t.value, .int .i64 t.weight]] w fun e w' => e = .returned (.bool (tgtOk fr t)) ∧ Below w.heap.size w w' := by
  obtain ⟨a, n, c, rfl⟩ := hv
  cases g1 : betw t.time 0 (fr - 1)
  · go_enter Tryd.func76, Tryd.ntmps76
    go_wp2_with (go_at_call 47; refine (between_any _ _ _ _).mono ?_; rintro e w' ⟨rfl, rfl⟩)
    go_ret
    exact ⟨ret_bool (by simp [tgtOk, *]), bAlloc (bAlloc (Below.refl _ _) _) _⟩
  · cases g2 : betw t.value (-200000) 200000
    · go_enter Tryd.func76, Tryd.ntmps76
      go_wp2_with (go_at_call 47; refine (between_any _ _ _ _).mono ?_; rintro e w' ⟨rfl, rfl⟩)
      go_ret
      exact ⟨ret_bool (by simp [tgtOk, *]), bAlloc (bAlloc (Below.refl _ _) _) _⟩
    · cases g3 : betw t.weight 0 1000
      · go_enter Tryd.func76, Tryd.ntmps76
        go_wp2_with (go_at_call 47; refine (between_any _ _ _ _).mono ?_; rintro e w' ⟨rfl, rfl⟩)
        go_ret
        exact ⟨ret_bool (by simp [tgtOk, *]), bAlloc (bAlloc (Below.refl _ _) _) _⟩
      · go_enter Tryd.func76, Tryd.ntmps76
        go_wp2_with (go_at_call 47; refine (between_any _ _ _ _).mono ?_; rintro e w' ⟨rfl, rfl⟩)
        go_ret
        exact ⟨ret_bool (by simp [tgtOk, *]), bAlloc (bAlloc (Below.refl _ _) _) _⟩

set_option maxHeartbeats 1000000 in
theorem targetWrong_any (fr lo hi sl sm : Int) (v : Value) (t : Tgt) (b : Nat) (w : World) (h0 : 0 ≤ fr) (h1 : fr ≤ 1000000) (hv : ∃ a n c, v = .slice a n c)
    (c0 : w.cell? ⟨b, 0, none⟩ = some (.int .i64 fr)) (c1 : w.cell? ⟨b, 1, none⟩ = some (.int .i64 lo)) (c2 : w.cell? ⟨b, 2, none⟩ = some (.int .i64 hi)) (c3 : w.cell? ⟨b, 3, none⟩ = some (.int .i64 sl))
    (c4 : w.cell? ⟨b, 4, none⟩ = some (.int .i64 sm)) (c5 : w.cell? ⟨b, 5, none⟩ = some v) :
    Calls Tryd.prog 75 #[.agg #[.int .i64 t.time, .int .i64 t.value, .int .i64 t.weight], .pointer (some ⟨b, 0, none⟩)] w fun e w' => e = .returned (.bool (!tgtOk fr t)) ∧ Below w.heap.size w w' := by
  have hlb := cell_lt c0
  have HT : ∀ W, Hid (Calls Tryd.prog 76 #[.agg #[.int .i64 fr, .int .i64 lo, .int .i64 hi, .int .i64 sl, .int .i64 sm, v], .agg #[.int .i64 t.time, .int .i64 t.value, .int .i64 t.weight]] W fun e w' => e = .returned (.bool (tgtOk fr t)) ∧ Below W.heap.size W w') :=
    fun W => Lib.hid (targetRight_any fr lo hi sl sm v t W h0 h1 hv)
  obtain ⟨a, n, c, rfl⟩ := hv
  have HN := Lib.hid (bAlloc (Below.refl w.heap.size w) (.cells #[.int .i64 t.time, .int .i64 t.value, .int .i64 t.weight] 54))
  go_enter Tryd.func75, Tryd.ntmps75
  go_wp2_with (go_at_call 76; refine (HT _).out.mono ?_; rintro e w1 ⟨rfl, hb⟩; have HB := bThen HN.out hb)
  go_ret
  exact ⟨rfl, HB⟩

set_option maxHeartbeats 1000000 in
theorem cycle_any (rate : Int) (w : World) (h0 : 0 ≤ rate) (h1 : rate ≤ 1000000000) : Calls Tryd.prog 85 #[.int .i64 rate] w fun e w' => e = .returned (.int .i64 (1000 * rate)) ∧ w = w' := by
  go_enter Tryd.func85, Tryd.ntmps85
  go_wp2
  go_ret
  exact ⟨rfl, rfl⟩
set_option maxHeartbeats 1000000 in
theorem sampleWrong_any (rate f : Int) (b : Nat) (w : World) (h0 : 0 ≤ rate) (h1 : rate ≤ 1000000000) (c0 : w.cell? ⟨b, 0, none⟩ = some (.int .i64 rate)) :
    Calls Tryd.prog 84 #[.int .i64 f, .pointer (some ⟨b, 0, none⟩)] w fun e w' => e = .returned (.bool (!samOk rate f)) ∧ Below w.heap.size w w' := by
  have hlb := cell_lt c0
  go_enter Tryd.func84, Tryd.ntmps84
  go_wp2_with (first | (go_at_call 85; refine (cycle_any _ _ h0 h1).mono ?_; rintro e w1 ⟨rfl, rfl⟩) | (go_at_call 47; refine (between_any _ _ _ _).mono ?_; rintro e w' ⟨rfl, rfl⟩))
  go_ret
  exact ⟨ret_bool (by simp [samOk]), Below.refl _ _⟩

set_option maxHeartbeats 1000000 in
theorem indexC_any (l : List Cmd) (v : Value) (w : World) (hv : SliceV w v 3 CmdAt l) :
    Calls Tryd.prog 91 #[v, .func (.func 46) #[] #[]] w fun e w' => (∃ r : Int, e = .returned (.int .i64 r) ∧ decide (0 ≤ r) = l.any (fun x => !cmdOk x)) ∧ Below w.heap.size w w' := by
  have HV := Lib.hid hv
  obtain ⟨a, c, rfl, hl, -⟩ := hv
  unfold most at hl
  go_enter Tryd.func91, Tryd.ntmps91
  go_wp2_with fail
  go_loopw [5, 8] (fun _ i wr => ∃ k : Nat, k ≤ l.length ∧ i = .int .i64 k ∧ Hid ((l.take k).any (fun x => !cmdOk x) = false) ∧ Below w.heap.size w wr) (fun _ i _ => l.length - (intOf i).toNat)
  case atStart => exact ⟨0, Nat.zero_le _, rfl, Lib.hid (by simp), Below.refl _ _⟩
  case round =>
    obtain ⟨k, hk, rfl, HK, hB⟩ := hrel
    by_cases hlt : k < l.length
    · obtain ⟨b, o, rfl, hf⟩ := HV.out.at (by intro h; simp [h] at hlt)
      have hx := CmdAt.stable _ _ _ _ _ hB (hf k hlt)
      have HIN : Hid (l[k] ∈ l) := Lib.hid (List.getElem_mem hlt)
      have HT : Hid ((l.take (k + 1)).any (fun x => !cmdOk x) = ((l.take k).any (fun x => !cmdOk x) || !(fun x => cmdOk x) l[k])) := Lib.hid (by rw [take_succ l k hlt, List.any_append]; simp)
      clear hf
      generalize l[k] = x at *
      obtain ⟨k0, k1, vx, k2, hs⟩ := hx
      obtain ⟨sa, sc, rfl, -⟩ := id hs
      have hkb := cell_lt k0
      cases hp : cmdOk x
      · go_wp2_with (go_at_call 46; refine (commandWrong_any x _ _ (hs.keep KnotAt.stable (Below.refl _ _))).mono ?_; rintro e w1 ⟨rfl, hb⟩; rw [hp]; have HB := Lib.hid (bThen hB hb); clear hb)
        go_ret
        refine ⟨⟨k, rfl, ?_⟩, HB.out⟩
        have : l.any (fun x => !cmdOk x) = true := List.any_eq_true.2 ⟨x, HIN.out, by simp [hp]⟩
        rw [this]; simp
      · go_wp2_with (go_at_call 46; refine (commandWrong_any x _ _ (hs.keep KnotAt.stable (Below.refl _ _))).mono ?_; rintro e w1 ⟨rfl, hb⟩; rw [hp]; have HB := Lib.hid (bThen hB hb); clear hb)
        go_roundw
        case rel => exact ⟨k + 1, by omega, by go_num, Lib.hid (by rw [HT.out, HK.out]; simp [hp]), HB.out⟩
        case measure => simp [intOf]; omega
    · obtain rfl : k = l.length := by omega
      go_wp2_with fail
      go_ret
      refine ⟨⟨-1, rfl, ?_⟩, hB⟩
      have h := HK.out
      rw [List.take_length] at h
      rw [h]; rfl

set_option maxHeartbeats 1000000 in
theorem containsC_any (l : List Cmd) (v : Value) (w : World) (hv : SliceV w v 3 CmdAt l) :
    Calls Tryd.prog 72 #[v, .func (.func 46) #[] #[]] w fun e w' => e = .returned (.bool (l.any (fun x => !cmdOk x))) ∧ Below w.heap.size w w' := by
  have H := Lib.hid (indexC_any l v w hv)
  obtain ⟨a, c, rfl, hl, -⟩ := hv
  go_enter Tryd.func72, Tryd.ntmps72
  go_wp2_with (go_at_call 91; refine H.out.mono ?_; rintro e w1 ⟨⟨r, rfl, hr⟩, hb⟩)
  go_ret
  exact ⟨ret_bool (by rw [← hr]), hb⟩

set_option maxHeartbeats 1000000 in
theorem indexT_any (l : List Tgt) (fr lo hi sl sm : Int) (u : Value) (pb : Nat) (v : Value) (w : World) (hv : SliceV w v 3 TgtAt l) (h0 : 0 ≤ fr) (h1 : fr ≤ 1000000) (hu : ∃ a n c, u = .slice a n c) (c0 : w.cell? ⟨pb, 0, none⟩ = some (.int .i64 fr)) (c1 : w.cell? ⟨pb, 1, none⟩ = some (.int .i64 lo)) (c2 : w.cell? ⟨pb, 2, none⟩ = some (.int .i64 hi)) (c3 : w.cell? ⟨pb, 3, none⟩ = some (.int .i64 sl)) (c4 : w.cell? ⟨pb, 4, none⟩ = some (.int .i64 sm)) (c5 : w.cell? ⟨pb, 5, none⟩ = some u) :
    Calls Tryd.prog 93 #[v, .func (.func 75) #[] #[.pointer (some ⟨pb, 0, none⟩)]] w fun e w' => (∃ r : Int, e = .returned (.int .i64 r) ∧ decide (0 ≤ r) = l.any (fun x => !tgtOk fr x)) ∧ Below w.heap.size w w' := by
  have HV := Lib.hid hv
  obtain ⟨a, c, rfl, hl, -⟩ := hv
  unfold most at hl
  go_enter Tryd.func93, Tryd.ntmps93
  go_wp2_with fail
  go_loopw [5, 8] (fun _ i wr => ∃ k : Nat, k ≤ l.length ∧ i = .int .i64 k ∧ Hid ((l.take k).any (fun x => !tgtOk fr x) = false) ∧ Below w.heap.size w wr) (fun _ i _ => l.length - (intOf i).toNat)
  case atStart => exact ⟨0, Nat.zero_le _, rfl, Lib.hid (by simp), Below.refl _ _⟩
  case round =>
    obtain ⟨k, hk, rfl, HK, hB⟩ := hrel
    by_cases hlt : k < l.length
    · obtain ⟨b, o, rfl, hf⟩ := HV.out.at (by intro h; simp [h] at hlt)
      have hx := TgtAt.stable _ _ _ _ _ hB (hf k hlt)
      have HIN : Hid (l[k] ∈ l) := Lib.hid (List.getElem_mem hlt)
      have HT : Hid ((l.take (k + 1)).any (fun x => !tgtOk fr x) = ((l.take k).any (fun x => !tgtOk fr x) || !(fun x => tgtOk fr x) l[k])) := Lib.hid (by rw [take_succ l k hlt, List.any_append]; simp)
      clear hf
      generalize l[k] = x at *
      obtain ⟨k0, k1, k2⟩ := hx
      have hkb := cell_lt k0
      cases hp : tgtOk fr x
      · go_wp2_with (go_at_call 75; refine (targetWrong_any fr lo hi sl sm u x pb _ h0 h1 hu (keep hB c0) (keep hB c1) (keep hB c2) (keep hB c3) (keep hB c4) (keep hB c5)).mono ?_; rintro e w1 ⟨rfl, hb⟩; rw [hp]; have HB := Lib.hid (bThen hB hb); clear hb)
        go_ret
        refine ⟨⟨k, rfl, ?_⟩, HB.out⟩
        have : l.any (fun x => !tgtOk fr x) = true := List.any_eq_true.2 ⟨x, HIN.out, by simp [hp]⟩
        rw [this]; simp
      · go_wp2_with (go_at_call 75; refine (targetWrong_any fr lo hi sl sm u x pb _ h0 h1 hu (keep hB c0) (keep hB c1) (keep hB c2) (keep hB c3) (keep hB c4) (keep hB c5)).mono ?_; rintro e w1 ⟨rfl, hb⟩; rw [hp]; have HB := Lib.hid (bThen hB hb); clear hb)
        go_roundw
        case rel => exact ⟨k + 1, by omega, by go_num, Lib.hid (by rw [HT.out, HK.out]; simp [hp]), HB.out⟩
        case measure => simp [intOf]; omega
    · obtain rfl : k = l.length := by omega
      go_wp2_with fail
      go_ret
      refine ⟨⟨-1, rfl, ?_⟩, hB⟩
      have h := HK.out
      rw [List.take_length] at h
      rw [h]; rfl

set_option maxHeartbeats 1000000 in
theorem containsT_any (l : List Tgt) (fr lo hi sl sm : Int) (u : Value) (pb : Nat) (v : Value) (w : World) (hv : SliceV w v 3 TgtAt l) (h0 : 0 ≤ fr) (h1 : fr ≤ 1000000) (hu : ∃ a n c, u = .slice a n c) (c0 : w.cell? ⟨pb, 0, none⟩ = some (.int .i64 fr)) (c1 : w.cell? ⟨pb, 1, none⟩ = some (.int .i64 lo)) (c2 : w.cell? ⟨pb, 2, none⟩ = some (.int .i64 hi)) (c3 : w.cell? ⟨pb, 3, none⟩ = some (.int .i64 sl)) (c4 : w.cell? ⟨pb, 4, none⟩ = some (.int .i64 sm)) (c5 : w.cell? ⟨pb, 5, none⟩ = some u) :
    Calls Tryd.prog 74 #[v, .func (.func 75) #[] #[.pointer (some ⟨pb, 0, none⟩)]] w fun e w' => e = .returned (.bool (l.any (fun x => !tgtOk fr x))) ∧ Below w.heap.size w w' := by
  have H := Lib.hid (indexT_any l fr lo hi sl sm u pb v w hv h0 h1 hu c0 c1 c2 c3 c4 c5)
  obtain ⟨a, c, rfl, hl, -⟩ := hv
  go_enter Tryd.func74, Tryd.ntmps74
  go_wp2_with (go_at_call 93; refine H.out.mono ?_; rintro e w1 ⟨⟨r, rfl, hr⟩, hb⟩)
  go_ret
  exact ⟨ret_bool (by rw [← hr]), hb⟩

set_option maxHeartbeats 1000000 in
theorem indexI_any (l : List Int) (rate : Int) (pb : Nat) (v : Value) (w : World) (hv : SliceV w v 1 IntAt l) (h0 : 0 ≤ rate) (h1 : rate ≤ 1000000000) (c0 : w.cell? ⟨pb, 0, none⟩ = some (.int .i64 rate)) :
    Calls Tryd.prog 99 #[v, .func (.func 84) #[] #[.pointer (some ⟨pb, 0, none⟩)]] w fun e w' => (∃ r : Int, e = .returned (.int .i64 r) ∧ decide (0 ≤ r) = l.any (fun x => !samOk rate x)) ∧ Below w.heap.size w w' := by
  have HV := Lib.hid hv
  obtain ⟨a, c, rfl, hl, -⟩ := hv
  unfold most at hl
  go_enter Tryd.func99, Tryd.ntmps99
  go_wp2_with fail
  go_loopw [5, 8] (fun _ i wr => ∃ k : Nat, k ≤ l.length ∧ i = .int .i64 k ∧ Hid ((l.take k).any (fun x => !samOk rate x) = false) ∧ Below w.heap.size w wr) (fun _ i _ => l.length - (intOf i).toNat)
  case atStart => exact ⟨0, Nat.zero_le _, rfl, Lib.hid (by simp), Below.refl _ _⟩
  case round =>
    obtain ⟨k, hk, rfl, HK, hB⟩ := hrel
    by_cases hlt : k < l.length
    · obtain ⟨b, o, rfl, hf⟩ := HV.out.at (by intro h; simp [h] at hlt)
      have hx := IntAt.stable _ _ _ _ _ hB (hf k hlt)
      have HIN : Hid (l[k] ∈ l) := Lib.hid (List.getElem_mem hlt)
      have HT : Hid ((l.take (k + 1)).any (fun x => !samOk rate x) = ((l.take k).any (fun x => !samOk rate x) || !(fun x => samOk rate x) l[k])) := Lib.hid (by rw [take_succ l k hlt, List.any_append]; simp)
      clear hf
      generalize l[k] = x at *
      have k0 := hx
      unfold IntAt at k0
      rw [Nat.mul_one] at k0
      have hkb := cell_lt k0
      cases hp : samOk rate x
      · go_wp2_with (go_at_call 84; refine (sampleWrong_any rate x pb _ h0 h1 (keep hB c0)).mono ?_; rintro e w1 ⟨rfl, hb⟩; rw [hp]; have HB := Lib.hid (bThen hB hb); clear hb)
        go_ret
        refine ⟨⟨k, rfl, ?_⟩, HB.out⟩
        have : l.any (fun x => !samOk rate x) = true := List.any_eq_true.2 ⟨x, HIN.out, by simp [hp]⟩
        rw [this]; simp
      · go_wp2_with (go_at_call 84; refine (sampleWrong_any rate x pb _ h0 h1 (keep hB c0)).mono ?_; rintro e w1 ⟨rfl, hb⟩; rw [hp]; have HB := Lib.hid (bThen hB hb); clear hb)
        go_roundw
        case rel => exact ⟨k + 1, by omega, by go_num, Lib.hid (by rw [HT.out, HK.out]; simp [hp]), HB.out⟩
        case measure => simp [intOf]; omega
    · obtain rfl : k = l.length := by omega
      go_wp2_with fail
      go_ret
      refine ⟨⟨-1, rfl, ?_⟩, hB⟩
      have h := HK.out
      rw [List.take_length] at h
      rw [h]; rfl

set_option maxHeartbeats 1000000 in
theorem containsI_any (l : List Int) (rate : Int) (pb : Nat) (v : Value) (w : World) (hv : SliceV w v 1 IntAt l) (h0 : 0 ≤ rate) (h1 : rate ≤ 1000000000) (c0 : w.cell? ⟨pb, 0, none⟩ = some (.int .i64 rate)) :
    Calls Tryd.prog 83 #[v, .func (.func 84) #[] #[.pointer (some ⟨pb, 0, none⟩)]] w fun e w' => e = .returned (.bool (l.any (fun x => !samOk rate x))) ∧ Below w.heap.size w w' := by
  have H := Lib.hid (indexI_any l rate pb v w hv h0 h1 c0)
  obtain ⟨a, c, rfl, hl, -⟩ := hv
  go_enter Tryd.func83, Tryd.ntmps83
  go_wp2_with (go_at_call 99; refine H.out.mono ?_; rintro e w1 ⟨⟨r, rfl, hr⟩, hb⟩)
  go_ret
  exact ⟨ret_bool (by rw [← hr]), hb⟩

set_option maxHeartbeats 1000000 in
theorem indexN_any (l : List Note) (v : Value) (w : World) (hv : SliceV w v 6 NoteAt l) :
    Calls Tryd.prog 100 #[v, .func (.func 88) #[] #[]] w fun e w' => (∃ r : Int, e = .returned (.int .i64 r) ∧ decide (0 ≤ r) = l.any (fun x => !noteOk x)) ∧ Below w.heap.size w w' := by
  have HV := Lib.hid hv
  obtain ⟨a, c, rfl, hl, -⟩ := hv
  unfold most at hl
  go_enter Tryd.func100, Tryd.ntmps100
  go_wp2_with fail
  go_loopw [5, 8] (fun _ i wr => ∃ k : Nat, k ≤ l.length ∧ i = .int .i64 k ∧ Hid ((l.take k).any (fun x => !noteOk x) = false) ∧ Below w.heap.size w wr) (fun _ i _ => l.length - (intOf i).toNat)
  case atStart => exact ⟨0, Nat.zero_le _, rfl, Lib.hid (by simp), Below.refl _ _⟩
  case round =>
    obtain ⟨k, hk, rfl, HK, hB⟩ := hrel
    by_cases hlt : k < l.length
    · obtain ⟨b, o, rfl, hf⟩ := HV.out.at (by intro h; simp [h] at hlt)
      have hx := NoteAt.stable _ _ _ _ _ hB (hf k hlt)
      have HIN : Hid (l[k] ∈ l) := Lib.hid (List.getElem_mem hlt)
      have HT : Hid ((l.take (k + 1)).any (fun x => !noteOk x) = ((l.take k).any (fun x => !noteOk x) || !(fun x => noteOk x) l[k])) := Lib.hid (by rw [take_succ l k hlt, List.any_append]; simp)
      clear hf
      generalize l[k] = x at *
      obtain ⟨k0, k1, k2, k3, k4, k5⟩ := hx
      have hkb := cell_lt k0
      cases hp : noteOk x
      · go_wp2_with (go_at_call 88; refine (noteWrong_any x _).mono ?_; rintro e w1 ⟨rfl, hb⟩; rw [hp]; have HB := Lib.hid (bThen hB hb); clear hb)
        go_ret
        refine ⟨⟨k, rfl, ?_⟩, HB.out⟩
        have : l.any (fun x => !noteOk x) = true := List.any_eq_true.2 ⟨x, HIN.out, by simp [hp]⟩
        rw [this]; simp
      · go_wp2_with (go_at_call 88; refine (noteWrong_any x _).mono ?_; rintro e w1 ⟨rfl, hb⟩; rw [hp]; have HB := Lib.hid (bThen hB hb); clear hb)
        go_roundw
        case rel => exact ⟨k + 1, by omega, by go_num, Lib.hid (by rw [HT.out, HK.out]; simp [hp]), HB.out⟩
        case measure => simp [intOf]; omega
    · obtain rfl : k = l.length := by omega
      go_wp2_with fail
      go_ret
      refine ⟨⟨-1, rfl, ?_⟩, hB⟩
      have h := HK.out
      rw [List.take_length] at h
      rw [h]; rfl

set_option maxHeartbeats 1000000 in
theorem containsN_any (l : List Note) (v : Value) (w : World) (hv : SliceV w v 6 NoteAt l) :
    Calls Tryd.prog 87 #[v, .func (.func 88) #[] #[]] w fun e w' => e = .returned (.bool (l.any (fun x => !noteOk x))) ∧ Below w.heap.size w w' := by
  have H := Lib.hid (indexN_any l v w hv)
  obtain ⟨a, c, rfl, hl, -⟩ := hv
  go_enter Tryd.func87, Tryd.ntmps87
  go_wp2_with (go_at_call 100; refine H.out.mono ?_; rintro e w1 ⟨⟨r, rfl, hr⟩, hb⟩)
  go_ret
  exact ⟨ret_bool (by rw [← hr]), hb⟩
end Go.Proofs.YtejcbcjhmnhefaaDoor
