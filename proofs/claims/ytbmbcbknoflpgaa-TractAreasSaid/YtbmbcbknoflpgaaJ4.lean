/- Contracts: what moves the walls. -/
import Derived.Test.YtbmbcbknoflpgaaJ3
set_option linter.unusedSimpArgs false
set_option linter.unusedVariables false
namespace Go.Proofs.Ytbmbcbknoflpgaa
open Go.RowKit

@[go_sem] theorem run_store_func {P : Program} {w : World} {a : Addr} {m : Mode} (f : Fn) (x y : Array Value) : (store a (.func f x y) m).run P w = stored P w a (.func f x y) m := run_store P w a _ m rfl
theorem infoFn : (Try.prog.info? 106).map (fun i => (i.zero, i.size, i.bytes)) = some (some .nilFunc, 1, 8) := by kernel_rfl
theorem makeF (n : Nat) (hn : n ≤ 1000) (W : World) : (Instr.makeSlice 149 (.int .i64 (n : Int)) (.int .i64 (n : Int))).run Try.prog W = .ok (.slice (some ⟨W.heap.size, 0, none⟩) n n) (W.alloc (.cells (madeCells #[Value.nilFunc] n) 106)) := by
  obtain ⟨i3, hi3, hz3, hs3, hb3⟩ := info_parts infoFn
  have h := run_makeSlice (P := Try.prog) (w := W) 149 106 i3 _ Try.underlying149 hi3 hz3 .i64 .i64 (n : Int) (n : Int) (by omega) (by omega) (by rw [hs3]; omega) (by rw [hb3]; omega) (by omega)
  rw [hs3] at h
  simpa [Value.cells] using h
/-- The walls of sections: what moves each of them, and where it and its follower are. -/
structure Walls (w : World) (g n : Nat) (X Y : Nat → Int) : Prop where
  row : w.rowIs g 106 n (fun k => .func (.func 108) #[.pointer (some ⟨g + 1 + k, 0, none⟩)] #[])
  wall : ∀ k, k < n → w.heap[g + 1 + k]? = some (.cells #[.int .i64 (X k), .int .i64 (Y k)] 169 (0, 0))
set_option maxRecDepth 10000 in
set_option maxHeartbeats 4000000 in
theorem moves_any (rest : List Int) (va vb : Value) (w : World) (ha : SliceV w va 1 IntAt rest) (hr : rest.length ≤ 24) :
    Calls Try.prog 99 #[.agg #[va, vb]] w fun e w' => (∃ g, e = .returned (.slice (some ⟨g, 0, none⟩) rest.length rest.length) ∧ w.heap.size ≤ g ∧ Walls w' g rest.length (fun k => rest.getD k 0) (fun k => rest.getD k 0)) ∧ Below w.heap.size w w' := by
  have HA := Lib.hid ha
  obtain ⟨a, c, rfl, -⟩ := ha
  have hmk := makeF rest.length (by omega)
  have HB1 := Lib.hid (bAlloc (Below.refl w.heap.size w) (.cells #[.slice a rest.length c, vb] 120))
  have C0 : Hid ((w.alloc (.cells #[.slice a rest.length c, vb] 120)).cell? ⟨w.heap.size, 0, none⟩ = some (.slice a rest.length c)) := Lib.hid (cell_new rfl)
  have HB2 := Lib.hid (bAlloc HB1.out (.cells (madeCells #[Value.nilFunc] rest.length) 106))
  have HR0 := Lib.hid (World.rowIs_made (w.alloc (.cells #[.slice a rest.length c, vb] 120)) .nilFunc rest.length 106)
  have HC0 : Hid (((w.alloc (.cells #[.slice a rest.length c, vb] 120)).alloc (.cells (madeCells #[Value.nilFunc] rest.length) 106)).cell? ⟨w.heap.size, 0, none⟩ = some (.slice a rest.length c)) := Lib.hid (keep (bAlloc (Below.refl _ _) _) C0.out)
  have HG : Hid ((w.alloc (.cells #[.slice a rest.length c, vb] 120)).heap.size = w.heap.size + 1) := Lib.hid (by rw [World.size_alloc])
  have HG2 : Hid (((w.alloc (.cells #[.slice a rest.length c, vb] 120)).alloc (.cells (madeCells #[Value.nilFunc] rest.length) 106)).heap.size = w.heap.size + 1 + 1) := Lib.hid (by rw [World.size_alloc, World.size_alloc])
  rw [HG.out] at HR0
  clear HG
  go_enter Try.func99, Try.ntmps99
  go_wp2_with fail
  generalize World.alloc (World.alloc w _) _ = W2 at *
  obtain ⟨g, hg⟩ : ∃ g, w.heap.size + 1 = g := ⟨_, rfl⟩
  rw [hg] at HR0 HG2 ⊢
  have HGW := Lib.hid hg
  clear hg C0 HB1
  have HR1 : Hid (W2.rowIs g 106 rest.length (fun j => if j < 0 then .func (.func 108) #[.pointer (some ⟨g + 1 + j, 0, none⟩)] #[] else .nilFunc)) := Lib.hid (HR0.out.congr fun j _ => by simp)
  go_loopw [14] (fun i wr => ∃ k : Nat, k ≤ rest.length ∧ i = .int .i64 k ∧ Hid (wr.heap.size = g + 1 + k) ∧ Hid (wr.rowIs g 106 rest.length (fun j => if j < k then .func (.func 108) #[.pointer (some ⟨g + 1 + j, 0, none⟩)] #[] else .nilFunc)) ∧ Hid (∀ j, j < k → wr.heap[g + 1 + j]? = some (.cells #[.int .i64 (rest.getD j 0), .int .i64 (rest.getD j 0)] 169 (0, 0))) ∧ Hid (Below w.heap.size w wr)) (fun i _ => rest.length - (intOf i).toNat)
  case atStart => exact ⟨0, Nat.zero_le _, rfl, HG2, HR1, Lib.hid (by intro j hj; omega), HB2⟩
  case round =>
    clear HR1 HR0 HG2 HB2 HC0
    obtain ⟨k, hk, rfl, HZ, HR, HWL, HB⟩ := hrel
    by_cases hlt : k < rest.length
    · obtain ⟨b, o, rfl, hf⟩ := (HA.out.keep IntAt.stable HB.out).at (by intro h; simp [h] at hlt)
      have k0 := hf k hlt
      unfold IntAt at k0
      rw [Nat.mul_one, ← gI hlt] at k0
      have hkb := cell_lt k0
      have hkk : (k : Int) < (rest.length : Int) := by omega
      have c0 := HR.out.cell (i := k) hlt
      rw [if_neg (Nat.lt_irrefl k)] at c0
      have z0 := HR.out.frozen k
      have hgl := HR.out.lt
      obtain ⟨x, hx⟩ : ∃ x, rest.getD k 0 = x := ⟨_, rfl⟩
      rw [hx] at k0
      have HX := Lib.hid hx
      have HR2 : Hid (((wr.setCell ⟨g, k, none⟩ (.func (.func 108) #[.pointer (some ⟨wr.heap.size, 0, none⟩)] #[])).alloc (.cells #[.int .i64 x, .int .i64 x] 169)).rowIs g 106 rest.length (fun j => if j < k + 1 then .func (.func 108) #[.pointer (some ⟨g + 1 + j, 0, none⟩)] #[] else .nilFunc)) := Lib.hid (((HR.out.set k (.func (.func 108) #[.pointer (some ⟨wr.heap.size, 0, none⟩)] #[])).congr fun j _ => by
        by_cases hj : j = k
        · subst hj
          rw [if_pos rfl, if_pos (by omega), HZ.out]
        · rw [if_neg hj]
          by_cases hj2 : j < k
          · rw [if_pos hj2, if_pos (by omega)]
          · rw [if_neg hj2, if_neg (by omega)]).alloc _)
      have HZ2 : Hid (((wr.setCell ⟨g, k, none⟩ (.func (.func 108) #[.pointer (some ⟨wr.heap.size, 0, none⟩)] #[])).alloc (.cells #[.int .i64 x, .int .i64 x] 169)).heap.size = g + 1 + (k + 1)) := Lib.hid (by rw [World.size_alloc]; simp [World.setCell, HZ.out]; omega)
      have HW2 : Hid (∀ j, j < k + 1 → ((wr.setCell ⟨g, k, none⟩ (.func (.func 108) #[.pointer (some ⟨wr.heap.size, 0, none⟩)] #[])).alloc (.cells #[.int .i64 x, .int .i64 x] 169)).heap[g + 1 + j]? = some (.cells #[.int .i64 (rest.getD j 0), .int .i64 (rest.getD j 0)] 169 (0, 0))) := Lib.hid (fun j hj => by
        by_cases hj2 : j < k
        · refine heap_keep (bAlloc (Below.refl _ _) _) ((Below.heap_setCell _ _ _ _ (by simp; omega)).trans (HWL.out j hj2))
        · obtain rfl : j = k := by omega
          have := World.alloc_heap_new (wr.setCell ⟨g, j, none⟩ (.func (.func 108) #[.pointer (some ⟨wr.heap.size, 0, none⟩)] #[])) (.cells #[.int .i64 x, .int .i64 x] 169)
          have e : (wr.setCell ⟨g, j, none⟩ (.func (.func 108) #[.pointer (some ⟨wr.heap.size, 0, none⟩)] #[])).heap.size = g + 1 + j := by simp [World.setCell, HZ.out]
          rw [e] at this
          rw [this, HX.out])
      have HB3 : Hid (Below w.heap.size w ((wr.setCell ⟨g, k, none⟩ (.func (.func 108) #[.pointer (some ⟨wr.heap.size, 0, none⟩)] #[])).alloc (.cells #[.int .i64 x, .int .i64 x] 169))) := Lib.hid (bAlloc' (HB.out.setCell (p := ⟨g, k, none⟩) (by have := HGW.out; simp; omega) _) (by have := HB.out.size; simp [World.setCell]; omega) _)
      clear hx hf
      go_wp2_with fail
      go_roundw
      case rel => exact ⟨k + 1, by omega, by go_num, HZ2, HR2, HW2, HB3⟩
      case measure => simp [intOf]; omega
    · obtain rfl : k = rest.length := by omega
      go_wp2_with fail
      go_ret
      exact ⟨⟨g, rfl, by have := HGW.out; omega, HR.out.congr fun j hj => by rw [if_pos hj], HWL.out⟩, HB.out⟩
end Go.Proofs.Ytbmbcbknoflpgaa
