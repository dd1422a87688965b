/- Contracts: new rows, which count the targets alone. -/
import Derived.Test.YtejcbcjhmnhefabDoorG3
import Derived.Test.YtejcbcjhmnhefabDoorH1
import Derived.Deep.RegionHeld3
import Derived.Deep.CutRange
set_option linter.unusedSimpArgs false
set_option linter.unusedVariables false
namespace Go.Proofs.YtejcbcjhmnhefabDoor
open Go.RowKit

def offSq (lo : Int) (v : Nat) (x : Tgt) : Int := x.weight * (lo + v - x.value) * (lo + v - x.value)
/-- What the targets of a time cost for a value. -/
def tgtC (lo : Int) (l : List Tgt) (t v : Nat) : Int := (l.map fun x => if x.time = (t : Int) then offSq lo v x else 0).sum
theorem tgtC_succ (lo : Int) (l : List Tgt) (n t v : Nat) (h : n < l.length) : tgtC lo (l.take (n + 1)) t v = tgtC lo (l.take n) t v + if l[n].time = (t : Int) then offSq lo v l[n] else 0 := by
  unfold tgtC; rw [take_succ l n h, List.map_append, List.sum_append]; simp
def rowF (gc gn Wd j : Nat) : Value := if j % 2 = 0 then .slice (some ⟨gc, j / 2 * Wd, none⟩) Wd Wd else .slice (some ⟨gn, j / 2 * Wd, none⟩) Wd Wd
/-- Rows in memory. -/
structure RowsAt (W' : World) (gr gc gn F Wd : Nat) (C N : Nat → Int) : Prop where
  rows : W'.rowIs gr 89 (F * 2) (rowF gc gn Wd)
  costs : W'.rowIs gc 3 (F * Wd) (fun j => .int .i64 (C j))
  next : W'.rowIs gn 3 (F * Wd) (fun j => .int .i64 (N j))
def NewRows (w : World) (F Wd : Nat) (C : Nat → Int) (e : Ending) (w' : World) : Prop :=
  ∃ gr gc gn : Nat, e = .returned (.slice (some ⟨gr, 0, none⟩) F F) ∧ RowsAt w' gr gc gn F Wd C (fun _ => 0) ∧ (gc ≠ gn ∧ gr ≠ gc ∧ gr ≠ gn) ∧ (w.heap.size ≤ gr ∧ w.heap.size ≤ gc ∧ w.heap.size ≤ gn) ∧ Below w.heap.size w w'
theorem tgtOk_in {F : Int} {x : Tgt} (h : tgtOk F x = true) : (0 ≤ x.time ∧ x.time ≤ F - 1) ∧ (-200000 ≤ x.value ∧ x.value ≤ 200000) ∧ (0 ≤ x.weight ∧ x.weight ≤ 1000) := by
  simp only [tgtOk, betw, Bool.and_eq_true, decide_eq_true_eq] at h; omega
theorem offSq_in {lo : Int} {v : Nat} {x : Tgt} (hlo : -100000 ≤ lo ∧ lo ≤ 100000) (hv : v ≤ 400) (hx : -200000 ≤ x.value ∧ x.value ≤ 200000) (hw : 0 ≤ x.weight ∧ x.weight ≤ 1000) : 0 ≤ offSq lo v x ∧ offSq lo v x ≤ 100000000000000 := by
  unfold offSq
  have h1 : 0 ≤ (lo + v - x.value) * (lo + v - x.value) := by
    rcases Int.le_total 0 (lo + v - x.value) with h | h
    · exact Int.mul_nonneg h h
    · have := Int.mul_nonneg (show 0 ≤ -(lo + v - x.value) by omega) (show 0 ≤ -(lo + v - x.value) by omega)
      rwa [Int.neg_mul_neg] at this
  have h2 := mul_in (A := 300400) (B := 300400) (show -300400 ≤ lo + (v : Int) - x.value by omega) (by omega) (show -300400 ≤ lo + (v : Int) - x.value by omega) (by omega)
  rw [Int.mul_assoc]
  have h3 : 0 ≤ x.weight * ((lo + v - x.value) * (lo + v - x.value)) := Int.mul_nonneg hw.1 h1
  have h4 : x.weight * ((lo + v - x.value) * (lo + v - x.value)) ≤ 1000 * 90240160000 := Int.mul_le_mul hw.2 (by omega) h1 (by omega)
  omega
theorem tgtC_in {lo : Int} {t v : Nat} (hlo : -100000 ≤ lo ∧ lo ≤ 100000) (hv : v ≤ 400) {l : List Tgt} {F : Int} (hF : F ≤ 1000) (h : ∀ x ∈ l, tgtOk F x = true) (hl : l.length ≤ 200) : 0 ≤ tgtC lo l t v ∧ tgtC lo l t v ≤ 20000000000000000 := by
  have h2 : 0 ≤ tgtC lo l t v ∧ tgtC lo l t v ≤ 100000000000000 * (l.length : Int) := by
    clear hl
    induction l with
    | nil => simp [tgtC]
    | cons x l ih =>
      have h3 := ih fun y hy => h y (List.mem_cons_of_mem _ hy)
      obtain ⟨_, hx, hw⟩ := tgtOk_in (h x List.mem_cons_self)
      have h4 := offSq_in hlo hv hx hw
      have h5 : tgtC lo (x :: l) t v = (if x.time = (t : Int) then offSq lo v x else 0) + tgtC lo l t v := by simp [tgtC]
      rw [h5, List.length_cons]
      split <;> omega
  omega
theorem info3' : (Tryd.prog.info? 3).map (fun i => (i.zero, i.size, i.bytes)) = some (some (.int .i64 0), 1, 8) := by kernel_rfl
theorem info99 : (Tryd.prog.info? 89).map (fun i => (i.zero, i.size, i.bytes)) = some (some (.agg #[.slice none 0 0, .slice none 0 0]), 2, 48) := by kernel_rfl
theorem make34 (n : Nat) (hn : n ≤ 1000000) (W : World) : (Instr.makeSlice 25 (.int .i64 (n : Int)) (.int .i64 (n : Int))).run Tryd.prog W = .ok (.slice (some ⟨W.heap.size, 0, none⟩) n n) (W.alloc (.cells (madeCells #[Value.int .i64 0] n) 3)) := by
  obtain ⟨i3, hi3, hz3, hs3, hb3⟩ := info_parts info3'
  have h := run_makeSlice (P := Tryd.prog) (w := W) 25 3 i3 _ Tryd.underlying25 hi3 hz3 .i64 .i64 (n : Int) (n : Int) (by omega) (by omega) (by rw [hs3]; omega) (by rw [hb3]; omega) (by omega)
  rw [hs3] at h
  simpa [Value.cells] using h
theorem make95 (n : Nat) (hn : n ≤ 1000000) (W : World) : (Instr.makeSlice 85 (.int .i64 (n : Int)) (.int .i64 (n : Int))).run Tryd.prog W = .ok (.slice (some ⟨W.heap.size, 0, none⟩) n n) (W.alloc (.cells (madeCells #[Value.slice none 0 0, Value.slice none 0 0] (n * 2)) 89)) := by
  obtain ⟨i3, hi3, hz3, hs3, hb3⟩ := info_parts info99
  have h := run_makeSlice (P := Tryd.prog) (w := W) 85 89 i3 _ Tryd.underlying85 hi3 hz3 .i64 .i64 (n : Int) (n : Int) (by omega) (by omega) (by rw [hs3]; omega) (by rw [hb3]; omega) (by omega)
  rw [hs3] at h
  simpa [Value.cells] using h

theorem two_rows {M b0 : Nat} (W1 : World) (hlt : b0 < W1.heap.size) : ∃ gc gn : Nat, Value.slice (some ⟨W1.heap.size, 0, none⟩) M M = .slice (some ⟨gc, 0, none⟩) M M ∧ Value.slice (some ⟨W1.heap.size + 1, 0, none⟩) M M = .slice (some ⟨gn, 0, none⟩) M M ∧ gc ≠ gn ∧ b0 < gc ∧ b0 < gn ∧
    ((W1.alloc (.cells (madeCells #[Value.int .i64 0] M) 3)).alloc (.cells (madeCells #[Value.int .i64 0] M) 3)).drew.rowIs gc 3 M (fun _ => .int .i64 0) ∧ ((W1.alloc (.cells (madeCells #[Value.int .i64 0] M) 3)).alloc (.cells (madeCells #[Value.int .i64 0] M) 3)).drew.rowIs gn 3 M (fun _ => .int .i64 0) ∧
    Below W1.heap.size W1 ((W1.alloc (.cells (madeCells #[Value.int .i64 0] M) 3)).alloc (.cells (madeCells #[Value.int .i64 0] M) 3)).drew := by
  refine ⟨_, _, rfl, rfl, by omega, hlt, by omega, ((World.rowIs_made W1 _ M 3).alloc _).drew, ?_, (bAlloc (bAlloc (Below.refl _ _) _) _).drew⟩
  have h := World.rowIs_made (W1.alloc (.cells (madeCells #[Value.int .i64 0] M) 3)) (.int .i64 0) M 3
  rw [World.size_alloc] at h
  exact h.drew
theorem two_rows' {M b0 : Nat} (W1 : World) (hlt : b0 < W1.heap.size) : ∃ gc gn : Nat, Value.slice (some ⟨W1.heap.size + 1, 0, none⟩) M M = .slice (some ⟨gc, 0, none⟩) M M ∧ Value.slice (some ⟨W1.heap.size, 0, none⟩) M M = .slice (some ⟨gn, 0, none⟩) M M ∧ gc ≠ gn ∧ b0 < gc ∧ b0 < gn ∧
    ((W1.alloc (.cells (madeCells #[Value.int .i64 0] M) 3)).alloc (.cells (madeCells #[Value.int .i64 0] M) 3)).drew.rowIs gc 3 M (fun _ => .int .i64 0) ∧ ((W1.alloc (.cells (madeCells #[Value.int .i64 0] M) 3)).alloc (.cells (madeCells #[Value.int .i64 0] M) 3)).drew.rowIs gn 3 M (fun _ => .int .i64 0) ∧
    Below W1.heap.size W1 ((W1.alloc (.cells (madeCells #[Value.int .i64 0] M) 3)).alloc (.cells (madeCells #[Value.int .i64 0] M) 3)).drew := by
  obtain ⟨gc, gn, h1, h2, h3, h4, h5, h6, h7, h8⟩ := two_rows (M := M) W1 hlt
  exact ⟨gn, gc, h2, h1, h3.symm, h5, h4, h7, h6, h8⟩
theorem rows_made (w : World) (F : Nat) : (w.alloc (.cells (madeCells #[Value.slice none 0 0, Value.slice none 0 0] (F * 2)) 89)).rowIs w.heap.size 89 (F * 2) (fun _ => .slice none 0 0) := by
  have hs : (madeCells #[Value.slice none 0 0, Value.slice none 0 0] (F * 2)).size = F * 2 := by simp [madeCells]
  have h := World.rowIs_alloc w (madeCells #[Value.slice none 0 0, Value.slice none 0 0] (F * 2)) 89 (fun _ => .slice none 0 0) (fun i hi => by
    rw [hs] at hi
    have h2 : i % 2 = 0 ∨ i % 2 = 1 := by omega
    rcases h2 with h2 | h2 <;> simp [madeCells, hi, h2])
  rw [hs] at h
  exact h

theorem row_next {W : World} {gr gc gn F Wd k q : Nat} (hq : q = k * Wd) (h : W.rowIs gr 89 (F * 2) (fun j => if j < k * 2 then rowF gc gn Wd j else .slice none 0 0)) :
    ((W.setCell ⟨gr, k * 2, none⟩ (.slice (some ⟨gc, q, none⟩) Wd Wd)).setCell ⟨gr, k * 2 + 1, none⟩ (.slice (some ⟨gn, q, none⟩) Wd Wd)).rowIs gr 89 (F * 2) (fun j => if j < (k + 1) * 2 then rowF gc gn Wd j else .slice none 0 0) :=
  ((h.set (k * 2) _).set (k * 2 + 1) _).congr fun j _ => by
    by_cases h1 : j = k * 2 + 1
    · subst h1
      rw [if_pos rfl, if_pos (by omega), rowF, if_neg (by omega), show (k * 2 + 1) / 2 = k by omega, hq]
    · rw [if_neg h1]
      by_cases h2 : j = k * 2
      · subst h2
        rw [if_pos rfl, if_pos (by omega), rowF, if_pos (by omega), show k * 2 / 2 = k by omega, hq]
      · rw [if_neg h2]
        by_cases h3 : j < k * 2
        · rw [if_pos h3, if_pos (by omega)]
        · rw [if_neg h3, if_neg (by omega)]
theorem Kp2.wide {B a b : Nat} {w w' : World} (h : Kp2 B a a w w') : Kp2 B a b w w' := ⟨h.os, h.tape, h.output, h.size, fun k h1 h2 _ => h.block k h1 h2 h2⟩

theorem cell_far {W : World} {g o b i : Nat} {v : Value} (h : b ≠ g) : (W.setCell ⟨g, o, none⟩ v).cell? ⟨b, i, none⟩ = W.cell? ⟨b, i, none⟩ := World.cell?_of_block (heap_setCell_other W ⟨g, o, none⟩ b v h)
theorem costs_next {W : World} {gc M Wd q v tt : Nat} {lo : Int} {l : List Tgt} {x : Tgt} (hW : 0 < Wd) (hq : q = tt * Wd) (ht : x.time = (tt : Int)) (hv : v < Wd)
    (h : W.rowIs gc 3 M (fun j => .int .i64 (tgtC lo l (j / Wd) (j % Wd) + if x.time = ((j / Wd : Nat) : Int) ∧ j % Wd < v then offSq lo (j % Wd) x else 0))) :
    (W.setCell ⟨gc, q + v, none⟩ (.int .i64 (tgtC lo l tt v + offSq lo v x))).rowIs gc 3 M (fun j => .int .i64 (tgtC lo l (j / Wd) (j % Wd) + if x.time = ((j / Wd : Nat) : Int) ∧ j % Wd < v + 1 then offSq lo (j % Wd) x else 0)) :=
  (h.set (q + v) _).congr fun j _ => by
    by_cases hj : j = q + v
    · have h1 : j / Wd = tt := by rw [hj, hq, Nat.mul_comm, Nat.mul_add_div hW, Nat.div_eq_of_lt hv, Nat.add_zero]
      have h2 : j % Wd = v := by rw [hj, hq, Nat.mul_comm, Nat.mul_add_mod, Nat.mod_eq_of_lt hv]
      rw [if_pos hj, h1, h2, if_pos ⟨ht, by omega⟩]
    · rw [if_neg hj]
      by_cases h1 : x.time = ((j / Wd : Nat) : Int) ∧ j % Wd < v + 1
      · rw [if_pos h1]
        have h2 : j % Wd ≠ v := fun e => hj (by
          have h3 := Nat.div_add_mod j Wd
          have h4 : j / Wd = tt := by have := h1.1; omega
          rw [h4, e] at h3
          rw [← h3, hq, Nat.mul_comm])
        rw [if_pos ⟨h1.1, by omega⟩]
      · rw [if_neg h1, if_neg (fun h2 => h1 ⟨h2.1, by omega⟩)]

set_option maxRecDepth 20000 in
set_option maxHeartbeats 16000000 in
theorem newRows_any (F Wd M : Nat) (lo hi sl sm : Int) (ts : List Tgt) (tv : Value) (w : World) (hF : 1 ≤ F) (hF2 : F ≤ 200) (hW1 : 1 ≤ Wd) (hW2 : Wd ≤ 401) (hwd : hi - lo + 1 = (Wd : Int)) (hM : F * Wd = M) (hlo : -100000 ≤ lo ∧ lo ≤ 100000)
    (hts : ts.all (tgtOk F) = true) (htl : ts.length ≤ 200) (hv : SliceV w tv 3 TgtAt ts) :
    Calls Tryd.prog 40 #[.agg #[.int .i64 (F : Int), .int .i64 lo, .int .i64 hi, .int .i64 sl, .int .i64 sm, tv]] w (NewRows w F Wd fun j => tgtC lo ts (j / Wd) (j % Wd)) := by
  have HV := Lib.hid hv
  obtain ⟨ta, tc, rfl, hl, hx⟩ := hv
  have hM2 : M ≤ 80200 := by
    rw [← hM]; exact Nat.mul_le_mul hF2 hW2
  have hMi : (F : Int) * (Wd : Int) = (M : Int) := by rw [← hM]; simp
  have hwr : IntKind.i64.wrap (M : Int) = (M : Int) := IntWalk.i64_in _ (by omega)
  have hk34 := make34 M (by omega)
  have hk95 := make95 F (by omega)
  have HX := Lib.hid hx
  have HM := Lib.hid hM
  clear hM hx
  obtain ⟨b0, hb0⟩ : ∃ b0, b0 = w.heap.size := ⟨_, rfl⟩
  go_enter Tryd.func40, Tryd.ntmps40
  go_wp2_with fail
  rw [← hb0]
  generalize hW1 : World.alloc w _ = W1
  have hB1 : Below w.heap.size w W1 := by rw [← hW1]; exact bAlloc (Below.refl _ _) _
  have hs1 : b0 + 1 = W1.heap.size := by rw [← hW1, World.size_alloc, hb0]
  have hp : ∀ j v, (#[Value.int .i64 (F : Int), .int .i64 lo, .int .i64 hi, .int .i64 sl, .int .i64 sm, .slice ta ts.length tc] : Array Value)[j]? = some v → W1.cell? ⟨b0, j, none⟩ = some v := fun j v h => by
    rw [← hW1, hb0]; exact cell_new h
  have p0 : W1.cell? ⟨b0, 0, none⟩ = some (.int .i64 F) := hp 0 _ rfl
  have p1 : W1.cell? ⟨b0, 1, none⟩ = some (.int .i64 lo) := hp 1 _ rfl
  have p5 : W1.cell? ⟨b0, 5, none⟩ = some (.slice ta ts.length tc) := hp 5 _ rfl
  have HB1 := Lib.hid hB1
  have HB0 := Lib.hid hb0
  have HS1 := Lib.hid hs1
  have hlt : b0 < W1.heap.size := by omega
  clear hW1 hB1 hb0 hs1 hp
  go_cut [4, 5] from 20 (fun p q wc => ∃ gc gn : Nat, p = .slice (some ⟨gc, 0, none⟩) M M ∧ q = .slice (some ⟨gn, 0, none⟩) M M ∧ gc ≠ gn ∧ b0 < gc ∧ b0 < gn ∧ wc.rowIs gc 3 M (fun _ => .int .i64 0) ∧ wc.rowIs gn 3 M (fun _ => .int .i64 0) ∧ Below W1.heap.size W1 wc)
  case first =>
    go_region_held3 (fun W' => W'.cell? ⟨b0, 0, none⟩ = some (.int .i64 F)) (go_keep) (first | fail)
    all_goals
      go_wp2_with fail
      go_meet
      case rel =>
        first
          | exact two_rows W1 hlt
          | exact two_rows' W1 hlt
  case rest =>
    obtain ⟨gc, gn, rfl, rfl, hne, hgc, hgn, hrc, hrn, hb2⟩ := hcut
    clear hk34
    have q0 := keep hb2 p0
    have q1 := keep hb2 p1
    have q5 := keep hb2 p5
    have HRC := Lib.hid hrc
    have HRN := Lib.hid hrn
    have HB2 := Lib.hid hb2
    have hl2 := cell_lt q0
    have hlc := hrc.lt
    have hln := hrn.lt
    clear hb2 hrc hrn p0 p1 p5
    go_wp2_with fail
    generalize hW3 : World.alloc wc _ = W3
    have hB3 : Below wc.heap.size wc W3 := by rw [← hW3]; exact bAlloc (Below.refl _ _) _
    have hr3 : W3.rowIs wc.heap.size 89 (F * 2) (fun _ => .slice none 0 0) := by rw [← hW3]; exact rows_made wc F
    obtain ⟨gr, hgr⟩ : ∃ gr, gr = wc.heap.size := ⟨_, rfl⟩
    rw [← hgr] at hr3 ⊢
    have hs3 : gr < W3.heap.size := hr3.lt
    have HR3 := Lib.hid (hr3.congr (g := fun j => if j < 0 * 2 then rowF gc gn Wd j else .slice none 0 0) fun j _ => by rw [if_neg (by omega)])
    have HRC3 := Lib.hid (HRC.out.of_block (hB3.block gc hlc))
    have HRN3 := Lib.hid (HRN.out.of_block (hB3.block gn hln))
    have t0 := keep hB3 q0
    have t1 := keep hB3 q1
    have t5 := keep hB3 q5
    have T0 := Lib.hid t0
    have T1 := Lib.hid t1
    have T5 := Lib.hid t5
    have HB3 := Lib.hid hB3
    have HW3 := Lib.hid (bThen (bThen HB1.out HB2.out) hB3)
    have hgcr : gc ≠ gr ∧ gn ≠ gr ∧ b0 < gr := by omega
    have hnn : gc < gr ∧ gn < gr := by omega
    have HGR := Lib.hid hgr
    obtain ⟨B, hB⟩ : ∃ B, B = W3.heap.size := ⟨_, rfl⟩
    have HBB := Lib.hid hB
    have hs4 : gr < B := by omega
    clear hW3 hB3 hr3 q0 q1 q5 hl2 hlc hln t0 t1 t5 hgr hB HRC HRN hs3
    go_loopw [35] (fun i wr => ∃ k : Nat, k ≤ F ∧ i = .int .i64 k ∧ Hid (wr.rowIs gr 89 (F * 2) (fun j => if j < k * 2 then rowF gc gn Wd j else .slice none 0 0)) ∧ Hid (Kp2 B gr gr W3 wr)) (fun i _ => F - (intOf i).toNat)
    case atStart => exact ⟨0, Nat.zero_le _, rfl, HR3, Lib.hid (Kp2.refl _ _ _ _)⟩
    case round =>
      obtain ⟨k, hk, rfl, HR, HK⟩ := hrel
      by_cases hlt2 : k < F
      · obtain ⟨q, hq⟩ : ∃ q, q = k * Wd := ⟨_, rfl⟩
        have hqM : q + Wd ≤ M := by
          rw [hq, ← HM.out, show k * Wd + Wd = (k + 1) * Wd by rw [Nat.add_mul, Nat.one_mul]]
          exact Nat.mul_le_mul_right _ hlt2
        have e1 : (k : Int) * (Wd : Int) = (q : Int) := by rw [hq]; simp
        have e2 : ((k : Int) + 1) * (Wd : Int) = (q : Int) + (Wd : Int) := by rw [Int.add_mul, e1, Int.one_mul]
        have e3 : IntKind.i64.wrap (q : Int) = (q : Int) := IntWalk.i64_in _ (by omega)
        have e4 : IntKind.i64.wrap ((q : Int) + (Wd : Int)) = (q : Int) + (Wd : Int) := IntWalk.i64_in _ (by omega)
        have HQ := Lib.hid hq
        clear hq
        have c0 := HR.out.cell (i := k * 2) (by omega)
        have c1 := HR.out.cell (i := k * 2 + 1) (by omega)
        have z0 := HR.out.frozen (k * 2)
        have z1 := HR.out.frozen (k * 2 + 1)
        have hlr := HR.out.lt
        have i1 : (0 : Int) ≤ (q : Int) := by omega
        have i2 : (q : Int) ≤ (q : Int) + (Wd : Int) := by omega
        have i3 : (q : Int) + (Wd : Int) ≤ (M : Int) := by omega
        have i4 : ¬ (Wd : Int) = 0 := by omega
        have i5 : (k : Int) < (F : Int) := by omega
        go_wp2_with fail
        refine wp_opaque fun Q2 hQ2 => ?_
        (refine region_below_tail 14 (by kernel_rfl) (by kernel_rfl) ?_; (simp only [List.take_succ_cons, List.take_zero, List.drop_succ_cons, List.drop_zero]); (repeat (first | go_big_quiet_step ((fail)) | quiet_step ((fail)))); (refine wpQuiet_nil ?_; intro _ hw'; obtain ⟨xq, hw''⟩ := hw'; subst hw''))
        have hbx := xq.2
        have d0 := keep hbx c0
        have d1 := keep hbx c1
        have y0 := (HR.out.of_block (hbx.block gr hlr)).frozen (k * 2)
        have y1 := (HR.out.of_block (hbx.block gr hlr)).frozen (k * 2 + 1)
        have hrow := row_next (gc := gc) (gn := gn) HQ.out ((HR.out.of_block (hbx.block gr hlr)))
        have hkp : Kp2 B gr gr W3 ((xq.val.setCell ⟨gr, k * 2, none⟩ (.slice (some ⟨gc, q, none⟩) Wd Wd)).setCell ⟨gr, k * 2 + 1, none⟩ (.slice (some ⟨gn, q, none⟩) Wd Wd)) :=
          ((HK.out.trans (Kp2.of_below (hbx.mono (by have := HK.out.size; have := HBB.out; omega)))).trans (Kp2.setCell (.inl rfl))).trans (Kp2.setCell (.inl rfl))
        have HROW := Lib.hid hrow
        have HKP := Lib.hid hkp
        clear hrow hkp
        go_wp2_with fail
        go_roundw
        case rel =>
          first
            | exact ⟨k + 1, by omega, by go_num, HROW, HKP⟩
            | ((repeat apply Exists.intro); refine ⟨?_, rfl⟩; exact ⟨k + 1, by omega, by go_num, HROW, HKP⟩)
        case measure => simp [intOf]; omega
      · obtain rfl : k = F := by omega
        have HRF : Hid (wr.rowIs gr 89 (k * 2) (rowF gc gn Wd)) := Lib.hid (HR.out.congr fun j hj => by rw [if_pos hj])
        have hgcB : gc < B ∧ gn < B ∧ b0 < B := by omega
        have u5 := (HK.out.cell (o := 5) (c := b0) (by omega) (by omega) (by omega)).trans T5.out
        have HRC4 := Lib.hid (HRC3.out.of_block (HK.out.block gc (by omega) (by omega) (by omega)))
        have HK4 := Lib.hid (Kp2.wide (b := gc) HK.out)
        have hl5 := cell_lt u5
        have hZ : Hid (wr.rowIs gc 3 M (fun j => .int .i64 (tgtC lo (ts.take 0) (j / Wd) (j % Wd)))) := Lib.hid (HRC4.out.congr fun j _ => by simp [tgtC])
        clear HR HK HRC4
        go_wp2_with fail
        clear u5 hl5
        obtain ⟨wo, hwo⟩ : ∃ wo, wo = wr := ⟨_, rfl⟩
        subst hwo
        go_loopw [63] (fun i wr => ∃ n : Nat, n ≤ ts.length ∧ i = .int .i64 n ∧ Hid (wr.rowIs gr 89 (k * 2) (rowF gc gn Wd)) ∧ Hid (wr.rowIs gc 3 M (fun j => .int .i64 (tgtC lo (ts.take n) (j / Wd) (j % Wd)))) ∧ Hid (Kp2 B gr gc W3 wr)) (fun i _ => ts.length - (intOf i).toNat)
        case atStart => exact ⟨0, Nat.zero_le _, rfl, HRF, hZ, HK4⟩
        case round =>
          obtain ⟨n, hn, rfl, HR, HC, HK⟩ := hrel
          by_cases hlt3 : n < ts.length
          · have hok := tgtOk_in (List.all_eq_true.1 hts ts[n] (List.getElem_mem hlt3))
            rcases HX.out with hnil | ⟨tb, tof, rfl, hT⟩
            · rw [hnil] at hlt3; simp at hlt3
            obtain ⟨x0, x1, x2⟩ := hT n hlt3
            have htb := cell_lt x0
            have htb2 : tb < B ∧ tb ≠ gr ∧ tb ≠ gc := by have := HB0.out; have := HW3.out.size; have := HBB.out; omega
            have y0 := (HK.out.cell (o := tof + n * 3) (c := tb) htb2.1 htb2.2.1 htb2.2.2).trans (keep HW3.out x0)
            have y1 := (HK.out.cell (o := tof + n * 3 + 1) (c := tb) htb2.1 htb2.2.1 htb2.2.2).trans (keep HW3.out x1)
            have y2 := (HK.out.cell (o := tof + n * 3 + 2) (c := tb) htb2.1 htb2.2.1 htb2.2.2).trans (keep HW3.out x2)
            have HSU : Hid (∀ t v, tgtC lo (ts.take (n + 1)) t v = tgtC lo (ts.take n) t v + if ts[n].time = (t : Int) then offSq lo v ts[n] else 0) := Lib.hid fun t v => tgtC_succ lo ts n t v hlt3
            have HTI : Hid (∀ t v, v < Wd → 0 ≤ tgtC lo (ts.take n) t v ∧ tgtC lo (ts.take n) t v ≤ 20000000000000000) := Lib.hid fun t v hv => tgtC_in hlo (by omega) (by omega) (fun x hx => List.all_eq_true.1 hts x (List.mem_of_mem_take hx)) (by have := List.length_take_le n ts; omega)
            generalize ts[n] = x at *
            obtain ⟨tt, htt⟩ : ∃ tt : Nat, x.time = (tt : Int) := ⟨x.time.toNat, by omega⟩
            rw [htt] at y0 hok
            have HTT := Lib.hid htt
            have hl6 := cell_lt y0
            clear x0 x1 x2 hT htb htt
            obtain ⟨q, hq⟩ : ∃ q, q = tt * Wd := ⟨_, rfl⟩
            have hqM : q + Wd ≤ M := by
              rw [hq, ← HM.out, show tt * Wd + Wd = (tt + 1) * Wd by rw [Nat.add_mul, Nat.one_mul]]
              exact Nat.mul_le_mul_right _ (by omega)
            have HQ := Lib.hid hq
            clear hq
            obtain ⟨bx, hbx⟩ : ∃ bx, bx = wr.heap.size := ⟨_, rfl⟩
            go_wp2_with fail
            rw [← hbx]
            generalize hW5 : World.alloc wr _ = W5
            have hB5 : Below wr.heap.size wr W5 := by rw [← hW5]; exact bAlloc (Below.refl _ _) _
            have hx5 : ∀ j v, (#[Value.int .i64 (tt : Int), .int .i64 x.value, .int .i64 x.weight] : Array Value)[j]? = some v → W5.cell? ⟨bx, j, none⟩ = some v := fun j v h => by
              rw [← hW5, hbx]; exact cell_new h
            have HX5 : Hid (W5.cell? ⟨bx, 0, none⟩ = some (.int .i64 (tt : Int)) ∧ W5.cell? ⟨bx, 1, none⟩ = some (.int .i64 x.value) ∧ W5.cell? ⟨bx, 2, none⟩ = some (.int .i64 x.weight)) := Lib.hid ⟨hx5 0 _ rfl, hx5 1 _ rfl, hx5 2 _ rfl⟩
            have hbxB : B ≤ bx := by have := HK.out.size; have := HBB.out; omega
            have HR5 := Lib.hid (HR.out.of_block (hB5.block gr HR.out.lt))
            have HC5 : Hid (W5.rowIs gc 3 M (fun j => .int .i64 (tgtC lo (ts.take n) (j / Wd) (j % Wd) + if x.time = ((j / Wd : Nat) : Int) ∧ j % Wd < 0 then offSq lo (j % Wd) x else 0))) := Lib.hid ((HC.out.of_block (hB5.block gc HC.out.lt)).congr fun j _ => by rw [if_neg (by omega), Int.add_zero])
            have HK5 := Lib.hid (HK.out.trans (Kp2.of_below (hB5.mono (show B ≤ wr.heap.size by omega))))
            clear hW5 hB5 hx5 HR HC HK y0 y1 y2 hl6 hbx
            go_loopw [68] (fun i wr => ∃ v : Nat, v ≤ Wd ∧ i = .int .i64 v ∧ Hid (wr.rowIs gr 89 (k * 2) (rowF gc gn Wd)) ∧ Hid (wr.rowIs gc 3 M (fun j => .int .i64 (tgtC lo (ts.take n) (j / Wd) (j % Wd) + if x.time = ((j / Wd : Nat) : Int) ∧ j % Wd < v then offSq lo (j % Wd) x else 0))) ∧ Hid (Kp2 B gr gc W3 wr) ∧ Hid (wr.cell? ⟨bx, 0, none⟩ = some (.int .i64 (tt : Int)) ∧ wr.cell? ⟨bx, 1, none⟩ = some (.int .i64 x.value) ∧ wr.cell? ⟨bx, 2, none⟩ = some (.int .i64 x.weight))) (fun i _ => Wd - (intOf i).toNat)
            case atStart => exact ⟨0, Nat.zero_le _, rfl, HR5, HC5, HK5, HX5⟩
            case round =>
              obtain ⟨v, hv2, rfl, HR, HC, HK, HXX⟩ := hrel
              by_cases hlt4 : v < Wd
              · obtain ⟨x0, x1, x2⟩ := HXX.out
                have a1 := (HK.out.cell (o := 1) (c := b0) (by omega) (by omega) (by omega)).trans T1.out
                have r0 := HR.out.cell (i := tt * 2) (by omega)
                rw [show rowF gc gn Wd (tt * 2) = .slice (some ⟨gc, q, none⟩) Wd Wd by rw [rowF, if_pos (by omega), show tt * 2 / 2 = tt by omega, ← HQ.out]] at r0
                have hdm : (q + v) / Wd = tt ∧ (q + v) % Wd = v := by
                  rw [HQ.out]
                  exact ⟨by rw [Nat.mul_comm, Nat.mul_add_div (by omega), Nat.div_eq_of_lt hlt4, Nat.add_zero], by rw [Nat.mul_comm, Nat.mul_add_mod, Nat.mod_eq_of_lt hlt4]⟩
                have c0 := HC.out.cell (i := q + v) (by omega)
                rw [hdm.1, hdm.2, if_neg (by omega), Int.add_zero] at c0
                have hod := HTI.out tt v hlt4
                have hof := offSq_in (x := x) (v := v) hlo (by omega) hok.2.1 hok.2.2
                have hm1 := mul_in (A := 1000) (B := 300400) (show -1000 ≤ x.weight by omega) (by omega) (show -300400 ≤ lo + (v : Int) - x.value by omega) (by omega)
                have w1 : IntKind.i64.wrap (x.weight * (lo + (v : Int) - x.value)) = x.weight * (lo + (v : Int) - x.value) := IntWalk.i64_in _ (by omega)
                have w2 : IntKind.i64.wrap (x.weight * (lo + (v : Int) - x.value) * (lo + (v : Int) - x.value)) = offSq lo v x := by
                  rw [show x.weight * (lo + (v : Int) - x.value) * (lo + (v : Int) - x.value) = offSq lo v x from rfl]
                  exact IntWalk.i64_in _ (by omega)
                have HOF := Lib.hid hof
                have HDM := Lib.hid hdm
                have HNEW : Hid (∀ W' : World, W'.rowIs gc 3 M (fun j => .int .i64 (tgtC lo (ts.take n) (j / Wd) (j % Wd) + if x.time = ((j / Wd : Nat) : Int) ∧ j % Wd < v then offSq lo (j % Wd) x else 0)) → (W'.setCell ⟨gc, q + v, none⟩ (.int .i64 (tgtC lo (ts.take n) tt v + offSq lo v x))).rowIs gc 3 M (fun j => .int .i64 (tgtC lo (ts.take n) (j / Wd) (j % Wd) + if x.time = ((j / Wd : Nat) : Int) ∧ j % Wd < v + 1 then offSq lo (j % Wd) x else 0))) :=
                  Lib.hid fun W' h => costs_next (by omega) HQ.out HTT.out hlt4 h
                generalize offSq lo v x = ov at *
                generalize tgtC lo (ts.take n) tt v = od at *
                have w3 : IntKind.i64.wrap (od + ov) = od + ov := IntWalk.i64_in _ (by omega)
                have hlr := HR.out.lt
                have hlc := HC.out.lt
                have hlx := cell_lt x0
                have hla := cell_lt a1
                have i1 : (tt : Int) < (k : Int) := by omega
                have i2 : (v : Int) < (Wd : Int) := by omega
                clear hdm hm1
                go_wp2_with fail
                refine wp_opaque fun Q2 hQ2 => ?_
                (refine region_below_tail 17 (by kernel_rfl) (by kernel_rfl) ?_; (simp only [List.take_succ_cons, List.take_zero, List.drop_succ_cons, List.drop_zero]); (repeat (first | go_big_quiet_step ((fail)) | quiet_step ((fail)))); (refine wpQuiet_nil ?_; intro _ hw'; obtain ⟨xq, hw''⟩ := hw'; subst hw''))
                have hbb := xq.2
                have d0 := keep hbb c0
                have z0 := (HC.out.of_block (hbb.block gc hlc)).frozen (q + v)
                have hkb : Below B wr xq.val := hbb.mono (by have := HK.out.size; have := HBB.out; omega)
                have HRN := Lib.hid ((HR.out.of_block (hbb.block gr hlr)).setOther (a := ⟨gc, q + v, none⟩) (Ne.symm hgcr.1) (.int .i64 (od + ov)))
                have HCN := Lib.hid (HNEW.out _ (HC.out.of_block (hbb.block gc hlc)))
                have HKN : Hid (Kp2 B gr gc W3 (xq.val.setCell ⟨gc, q + v, none⟩ (.int .i64 (od + ov)))) := Lib.hid ((HK.out.trans (Kp2.of_below hkb)).trans (Kp2.setCell (.inr (.inl rfl))))
                have hbxc : bx ≠ gc := by omega
                have HXN : Hid ((xq.val.setCell ⟨gc, q + v, none⟩ (.int .i64 (od + ov))).cell? ⟨bx, 0, none⟩ = some (.int .i64 (tt : Int)) ∧ (xq.val.setCell ⟨gc, q + v, none⟩ (.int .i64 (od + ov))).cell? ⟨bx, 1, none⟩ = some (.int .i64 x.value) ∧ (xq.val.setCell ⟨gc, q + v, none⟩ (.int .i64 (od + ov))).cell? ⟨bx, 2, none⟩ = some (.int .i64 x.weight)) :=
                  Lib.hid ⟨(cell_far hbxc).trans (keep hbb x0), (cell_far hbxc).trans (keep hbb x1), (cell_far hbxc).trans (keep hbb x2)⟩
                clear hbb hkb
                go_wp2_with fail
                go_roundw
                case rel =>
                  first
                    | exact ⟨v + 1, by omega, by go_num, HRN, HCN, HKN, HXN⟩
                    | ((repeat apply Exists.intro); refine ⟨?_, rfl⟩; exact ⟨v + 1, by omega, by go_num, HRN, HCN, HKN, HXN⟩)
                case measure => simp [intOf]; omega
              · obtain rfl : v = Wd := by omega
                have HCN : Hid (wr.rowIs gc 3 M (fun j => .int .i64 (tgtC lo (ts.take (n + 1)) (j / v) (j % v)))) := Lib.hid (HC.out.congr fun j _ => by
                  rw [HSU.out]
                  have hm : j % v < v := Nat.mod_lt _ (by omega)
                  by_cases h : x.time = ((j / v : Nat) : Int)
                  · rw [if_pos ⟨h, hm⟩, if_pos h]
                  · rw [if_neg (fun h2 => h h2.1), if_neg h])
                go_wp2_with fail
                go_roundw
                case rel =>
                  first
                    | exact ⟨n + 1, by omega, by go_num, HR, HCN, HK⟩
                    | ((repeat apply Exists.intro); refine ⟨?_, rfl⟩; exact ⟨n + 1, by omega, by go_num, HR, HCN, HK⟩)
                case measure => simp [intOf]; omega
          · obtain rfl : n = ts.length := by omega
            have hgn3 : wr.rowIs gn 3 M (fun _ => .int .i64 0) := HRN3.out.of_block (HK.out.block gn (by omega) (by omega) (by omega))
            have hbl : Below w.heap.size w wr := HW3.out.trans ⟨HK.out.os, HK.out.tape, HK.out.output, HK.out.size, fun j hj => HK.out.block j (by have := HW3.out.size; have := HBB.out; omega) (by have := HB0.out; omega) (by have := HB0.out; omega)⟩
            have hcc := HC.out
            rw [List.take_length, ← HM.out] at hcc
            rw [← HM.out] at hgn3
            have hfin : NewRows w k Wd (fun j => tgtC lo ts (j / Wd) (j % Wd)) (.returned (.slice (some ⟨gr, 0, none⟩) k k)) wr :=
              ⟨gr, gc, gn, rfl, ⟨HR.out, hcc, hgn3⟩, ⟨hne, by omega, by omega⟩, by have := HB0.out; omega, hbl⟩
            go_wp2_with fail
            go_ret
            exact hfin
end Go.Proofs.YtejcbcjhmnhefabDoor
