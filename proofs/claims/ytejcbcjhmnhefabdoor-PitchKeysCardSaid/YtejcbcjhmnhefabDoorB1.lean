/- Contracts: a number repeated. -/
import Derived.Test.YtejcbcjhmnhefabDoorB0
set_option linter.unusedSimpArgs false
set_option linter.unusedVariables false
namespace Go.Proofs.YtejcbcjhmnhefabDoor
open Go.RowKit

set_option maxRecDepth 20000 in
set_option maxHeartbeats 4000000 in
theorem repeat_any (base : Int) (n : Nat) (b o c : Nat) (w : World) (hn : n ≤ 4000) (hc : w.cell? ⟨b, o, none⟩ = some (.int .i64 base)) :
    Calls Tryd.prog 36 #[.slice (some ⟨b, o, none⟩) 1 c, .int .i64 n] w fun e w' => (∃ g, e = .returned (.slice (some ⟨g, 0, none⟩) n n) ∧ w.heap.size ≤ g ∧ w'.rowIs g 3 n (fun _ => .int .i64 base)) ∧ Below w.heap.size w w' := by
  obtain ⟨i3, hi3, hz3, hs3, hb3⟩ : ∃ i, Tryd.prog.info? 3 = some i ∧ i.zero = some (.int .i64 0) ∧ i.size = 1 ∧ i.bytes = 8 := by
    have h : (Tryd.prog.info? 3).map (fun i => (i.zero, i.size, i.bytes)) = some (some (.int .i64 0), 1, 8) := by kernel_rfl
    cases hi : Tryd.prog.info? 3 with
    | none => rw [hi] at h; cases h
    | some i =>
      rw [hi] at h
      simp only [Option.map_some, Option.some.injEq, Prod.mk.injEq] at h
      exact ⟨i, rfl, h.1, h.2.1, h.2.2⟩
  have hmk : ∀ W : World, (Instr.makeSlice 25 (.int .i64 (n : Int)) (.int .i64 (n : Int))).run Tryd.prog W = .ok (.slice (some ⟨W.heap.size, 0, none⟩) n n) (W.alloc (.cells (madeCells #[Value.int .i64 0] n) 3)) := fun W => by
    have h := run_makeSlice (P := Tryd.prog) (w := W) 25 3 i3 _ Tryd.underlying25 hi3 hz3 .i64 .i64 (n : Int) (n : Int) (by omega) (by omega) (by rw [hs3]; omega) (by rw [hb3]; omega) (by omega)
    rw [h, hs3]
    rw [Int.toNat_natCast, Nat.mul_one]
    rfl
  clear hi3 hz3 hs3 hb3
  by_cases hz : n = 0
  · subst hz
    have hmk0 : ∀ W : World, (Instr.makeSlice 25 (.int .i64 0) (.int .i64 0)).run Tryd.prog W = .ok (.slice (some ⟨W.heap.size, 0, none⟩) 0 0) (W.alloc (.cells (madeCells #[Value.int .i64 0] 0) 3)) := fun W => hmk W
    clear hmk
    go_enter Tryd.func36, Tryd.ntmps36
    go_wp2_with (first
      | (go_at_call 49; refine (mul_any 0 _ hn).mono ?_; rintro e w' ⟨rfl, rfl⟩)
      | (with_reducible refine wpList_copy_nothing (o := ⟨some 33, _, _, _, _, _⟩) rfl (.tmp 31) (.tmp 32) 25 25 rfl 3 Tryd.underlying25 (by kernel_rfl) _ _ _ _ _ _ rfl rfl (by simp) ?_))
    have hrow : (w.alloc (.cells (madeCells #[Value.int .i64 0] 0) 3)).rowIs w.heap.size 3 0 (fun _ => .int .i64 base) := (World.rowIs_made w _ 0 3).congr (fun i hi => by omega)
    go_loopw [8] (fun i wr => i = .int .i64 0 ∧ wr = w.alloc (.cells (madeCells #[Value.int .i64 0] 0) 3)) (fun _ _ => 0)
    case atStart => exact ⟨rfl, rfl⟩
    case round =>
      obtain ⟨rfl, rfl⟩ := hrel
      go_wp2_with fail
      go_ret
      exact ⟨⟨_, rfl, Nat.le_refl _, hrow⟩, bAlloc (Below.refl _ _) _⟩
  · go_enter Tryd.func36, Tryd.ntmps36
    have hcs := cell_lt hc
    have hblk : (w.alloc (.cells (madeCells #[Value.int .i64 0] n) 3)).heap[w.heap.size]? = some (.cells (madeCells #[Value.int .i64 0] n).toList.toArray 3 (0, 0)) := by rw [World.alloc_heap_new]
    have hmc : (madeCells #[Value.int .i64 0] n).toList.length = n := by simp [madeCells]
    have hsrc : ∀ (j : Nat) (v : Value), [Value.int .i64 base][j]? = some v → (w.alloc (.cells (madeCells #[Value.int .i64 0] n) 3)).cell? (Addr.add ⟨b, o, none⟩ j) = some v := fun j v h => by
      cases j with
      | zero => simp at h; subst h; exact keep (bAlloc (Below.refl _ _) _) hc
      | succ j => simp at h
    go_wp2_with (first
      | (go_at_call 49; refine (mul_any n _ hn).mono ?_; rintro e w' ⟨rfl, rfl⟩)
      | (refine wpList_copy_splice (o := ⟨some 33, _, _, _, _, _⟩) rfl (.tmp 31) (.tmp 32) 25 25 rfl 3 Tryd.underlying25 (by kernel_rfl) _ _ _ _ _ _ rfl rfl w.heap.size 0 (madeCells #[Value.int .i64 0] n).toList 3 hblk [.int .i64 base] (by simp [Nat.min_def]; omega) (fun _ => ⟨rfl, _, rfl, hsrc⟩) (by rw [hmc]; simp; omega) (by simp [Value.oneCell']) w.heap.size w (bAlloc (Below.refl _ _) _) (Nat.le_refl _) ?_; intro w4 hg4 hb4))
    have hrow0 : w4.rowIs w.heap.size 3 n (fun i => if i < 1 then .int .i64 base else .int .i64 0) := by
      have h := spliced_row (k := 0) (m := 1) (base := base) (n := n) (cs := madeCells #[Value.int .i64 0] n) (g := w.heap.size) (W := w4) hg4.out (by simpa using hmc) (fun i hi => by
        obtain ⟨c, h1, h2, h3⟩ := World.rowIs_made w (.int .i64 0) n 3
        rw [World.alloc_heap_new] at h1
        injection h1 with h1
        injection h1 with h1
        rw [h1, h3 i hi]; simp) (by omega)
      simpa using h
    clear hg4
    go_loopw [8] (fun i wr => ∃ k : Nat, i = .int .i64 k ∧ 1 ≤ k ∧ k ≤ n ∧ Hid (wr.rowIs w.heap.size 3 n (fun i => if i < k then .int .i64 base else .int .i64 0)) ∧ Hid (Below w.heap.size w wr)) (fun i _ => n - (intOf i).toNat)
    case atStart => exact ⟨1, rfl, by omega, by omega, Lib.hid hrow0, Lib.hid hb4⟩
    case round =>
      obtain ⟨k, rfl, hk1, hkn, HR, HB⟩ := hrel
      by_cases hlt : k < n
      · obtain ⟨cs, hcs1, hcs2, hcs3⟩ := HR.out
        have hkb : w.heap.size < wr.heap.size := HR.out.lt
        go_wp2_with fail
        have hcs1' : wr.drew.heap[w.heap.size]? = some (.cells cs.toList.toArray 3 (0, 0)) := hcs1
        have HB' := Lib.hid (show Below w.heap.size w wr.drew from HB.out.drew)
        have hsrc : ∀ (j : Nat) (v : Value), (List.replicate (min k (n - k)) (Value.int .i64 base))[j]? = some v → wr.drew.cell? (Addr.add ⟨w.heap.size, 0, none⟩ j) = some v := fun j v h => by
          have hj : j < min k (n - k) := by
            by_cases hj : j < min k (n - k)
            · exact hj
            · rw [List.getElem?_eq_none (by simpa using hj)] at h; cases h
          have hv : v = .int .i64 base := by simp [List.getElem?_replicate, hj] at h; exact h.symm
          subst hv
          have := HR.out.cell (i := j) (by omega)
          rw [if_pos (by omega)] at this
          simp only [Addr.add, Nat.zero_add]
          by_cases hj0 : j = 0
          · subst hj0; simpa using this
          · simpa [hj0] using this
        have hn1 : (List.replicate (min k (n - k)) (Value.int .i64 base)).length = Nat.min k (n - k) := by simp [Nat.min_def]
        have hn2 : k + (List.replicate (min k (n - k)) (Value.int .i64 base)).length ≤ cs.toList.length := by simp; omega
        have hn3 : ∀ v ∈ List.replicate (min k (n - k)) (Value.int .i64 base), v.oneCell' = true := by intro v hv; rw [(List.mem_replicate.1 hv).2]; rfl
        go_region_law (with_reducible refine step_copy_splice (o := ⟨some 45, _, _, _, _, _⟩) rfl (.tmp 41) (.tmp 44) 25 25 rfl 3 Tryd.underlying25 (by kernel_rfl) _ _ _ _ _ _ rfl rfl w.heap.size k cs.toList 3 hcs1' (List.replicate (min k (n - k)) (.int .i64 base)) hn1 (fun _ => ⟨(by first | rfl | exact if_neg (by omega)), _, rfl, hsrc⟩) hn2 hn3 w.heap.size w HB'.out (Nat.le_refl _) ?_; intro w5 hg5 hb5)
        all_goals
          clear hsrc hcs1 hcs1' hn3
          have hr5 : w5.rowIs w.heap.size 3 n (fun i => if i < k + min k (n - k) then .int .i64 base else .int .i64 0) := spliced_row hg5.out hcs2 hcs3 (by omega)
          go_roundw
          case rel =>
            (repeat apply Exists.intro)
            refine ⟨?_, rfl⟩
            refine ⟨k + min k (n - k), ?_, by omega, by omega, Lib.hid hr5, Lib.hid hb5⟩
            rw [show k.min (n - k) = min k (n - k) from rfl, IntWalk.i64_in _ (by omega), Int.natCast_add]
          case measure =>
            change n - (intOf (Value.int .i64 (IntKind.i64.wrap ((k : Int) + ((k.min (n - k) : Nat) : Int))))).toNat < n - (intOf (Value.int .i64 (k : Int))).toNat
            rw [show k.min (n - k) = min k (n - k) from rfl, IntWalk.i64_in _ (by omega)]
            simp [intOf]
            omega
      · obtain rfl : k = n := by omega
        go_wp2_with fail
        go_ret
        exact ⟨⟨_, rfl, Nat.le_refl _, HR.out.congr (fun i hi => if_pos hi)⟩, HB.out⟩
end Go.Proofs.YtejcbcjhmnhefabDoor
