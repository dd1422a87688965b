/- The chapter's examples. -/
import Derived.Test.YtejcbcjhmnhefabDoorH5
import Derived.Test.YtejcbcjhmnhefabDoorF3
import Derived.Test.YtejcbcjhmnhefabDoorC1
set_option linter.unusedSimpArgs false
set_option linter.unusedVariables false
namespace Go.Proofs.YtejcbcjhmnhefabDoor
open Go.RowKit

def exC : Cmd := ⟨10, 100, [⟨0, 0⟩, ⟨4, 1000⟩, ⟨8, 0⟩]⟩
def exL : List Cmd := [⟨0, 10, [⟨0, 1000⟩, ⟨3, 0⟩]⟩]
def exP : Con := ⟨3, 0, 10, 2, 0, [⟨0, 0, 1⟩, ⟨2, 10, 1⟩]⟩
def exF : List Int := [3000, 3000, 3000, 3000, 3000, 3000, 3000]
def exN : List Note := [⟨1, 2, 0, 0, 0, 4⟩, ⟨3, 3, 2, 0, 0, 4⟩]
theorem ex1 : valueRes exC 17 = .tuple #[.int .i64 25, .int .i64 0] := by kernel_rfl
theorem ex2 : curveOk 4 50 exL = true := by kernel_rfl
theorem ex2' : curveL 4 50 exL = [60, 57, 53, 50] := by kernel_rfl
theorem ex3 : conOk exP = true := by kernel_rfl
theorem ex3' : bestL exP = [3, 5, 7] := by kernel_rfl
theorem ex3'' : costOf exP (bestL exP) = 18 := by kernel_rfl
theorem ex4 : frequencyRes 50 = .tuple #[.int .i64 28318, .int .i64 0] := by kernel_rfl
theorem ex5 : freqsOk 10 exF = true := by kernel_rfl
theorem ex5' : pulses 10000 exF = [3, 6] := by kernel_rfl
theorem ex6 : notesOk exN = true := by kernel_rfl
theorem ex6' : singTo exN exN.length = [100, 100, 100, 200, 300] := by kernel_rfl
/-- A new block of cells, read as a list of elements of some size. -/
theorem slice_new {α : Type} {W : World} {b sz n : Nat} {R : World → Nat → Nat → α → Prop} (xs : List α) (hn : n = xs.length) (hl : xs.length ≤ 1000) (h : ∀ i (hi : i < xs.length), R W b (i * sz) xs[i]) :
    SliceV W (.slice (some ⟨b, 0, none⟩) n n) sz R xs :=
  ⟨_, n, by rw [hn], by simp [most]; omega, .inr ⟨b, 0, rfl, fun i hi => by rw [Nat.zero_add]; exact h i hi⟩⟩
theorem ints_lit (V : World) (xs : List Int) (n : Nat) (hn : n = xs.length) (hl : xs.length ≤ 1000) : SliceV (V.alloc (.cells (xs.map (Value.int .i64)).toArray 3)) (.slice (some ⟨V.heap.size, 0, none⟩) n n) 1 IntAt xs :=
  slice_new xs hn hl fun i hi => cell_new (by simp [hi])
set_option maxRecDepth 20000 in
set_option maxHeartbeats 16000000 in
theorem known_any (w : World) (hS : Semi w) : Calls Tryd.prog 5 #[] w fun e w' => e = .returned (.bool true) ∧ Below w.heap.size w w' := by
  have HS := Lib.hid hS
  clear hS
  go_enter Tryd.func5, Tryd.ntmps5
  go_wp2_with fail
  have hk1 : SliceV (w.alloc (.cells #[.int .i64 0, .int .i64 0, .int .i64 4, .int .i64 1000, .int .i64 8, .int .i64 0] 33)) (.slice (some ⟨w.heap.size, 0, none⟩) 3 3) 2 KnotAt exC.shape :=
    slice_new _ rfl (by decide) fun i hi => by
      have : i = 0 ∨ i = 1 ∨ i = 2 := by simp [exC] at hi; omega
      rcases this with rfl | rfl | rfl <;> exact ⟨cell_new rfl, cell_new rfl⟩
  have hb1 : Below w.heap.size w ((w.alloc (.cells #[.int .i64 0, .int .i64 0, .int .i64 4, .int .i64 1000, .int .i64 8, .int .i64 0] 33)).alloc (.cells #[.int .i64 10, .int .i64 100, .slice (some ⟨w.heap.size, 0, none⟩) 3 3] 36)) := bAlloc (bAlloc (Below.refl _ _) _) _
  refine (Value_any exC 17 _ _ (hk1.keep KnotAt.stable (bAlloc (Below.refl _ _) _))).mono ?_
  rintro e w1 ⟨rfl, hb⟩
  rw [ex1]
  have HB1 := Lib.hid (bThen hb1 hb)
  clear hk1 hb1 hb
  go_wp2_with fail
  have hk2 : SliceV (w1.alloc (.cells #[.int .i64 0, .int .i64 1000, .int .i64 3, .int .i64 0] 33)) (.slice (some ⟨w1.heap.size, 0, none⟩) 2 2) 2 KnotAt [⟨0, 1000⟩, ⟨3, 0⟩] :=
    slice_new _ rfl (by decide) fun i hi => by
      have : i = 0 ∨ i = 1 := by simp at hi; omega
      rcases this with rfl | rfl <;> exact ⟨cell_new rfl, cell_new rfl⟩
  have hc2 : SliceV ((w1.alloc (.cells #[.int .i64 0, .int .i64 1000, .int .i64 3, .int .i64 0] 33)).alloc (.cells #[.int .i64 0, .int .i64 10, .slice (some ⟨w1.heap.size, 0, none⟩) 2 2] 36)) (.slice (some ⟨w1.heap.size + 1, 0, none⟩) 1 1) 3 CmdAt exL :=
    slice_new _ rfl (by decide) fun i hi => by
      obtain rfl : i = 0 := by simp [exL] at hi; omega
      have hcell : ∀ j v, (#[Value.int .i64 0, .int .i64 10, .slice (some ⟨w1.heap.size, 0, none⟩) 2 2] : Array Value)[j]? = some v → ((w1.alloc (.cells #[.int .i64 0, .int .i64 1000, .int .i64 3, .int .i64 0] 33)).alloc (.cells #[.int .i64 0, .int .i64 10, .slice (some ⟨w1.heap.size, 0, none⟩) 2 2] 36)).cell? ⟨w1.heap.size + 1, j, none⟩ = some v := fun j v h => by
        have h2 := cell_new (V := w1.alloc (.cells #[.int .i64 0, .int .i64 1000, .int .i64 3, .int .i64 0] 33)) (t := 36) h
        rwa [World.size_alloc] at h2
      exact ⟨hcell 0 _ rfl, hcell 1 _ rfl, _, hcell 2 _ rfl, hk2.keep KnotAt.stable (bAlloc (Below.refl _ _) _)⟩
  have hb2 := bThen HB1.out (bAlloc (bAlloc (Below.refl w1.heap.size w1) (.cells #[.int .i64 0, .int .i64 1000, .int .i64 3, .int .i64 0] 33)) (.cells #[.int .i64 0, .int .i64 10, .slice (some ⟨w1.heap.size, 0, none⟩) 2 2] 36))
  refine (Curve_any 4 50 exL _ _ hc2).mono ?_
  rintro e w2 ⟨⟨hno, -⟩ | ⟨-, ad2, m2, hm2, -, rfl, hr2⟩, hb⟩
  · rw [ex2] at hno; cases hno
  obtain rfl : m2 = 4 := by omega
  rw [ex2'] at hr2
  have HB2 := Lib.hid (bThen hb2 hb)
  have HR2 := Lib.hid hr2
  clear hk2 hc2 hb2 hb hr2 hm2
  go_wp2_with fail
  have hk3 : SliceV (w2.alloc (.cells #[.int .i64 0, .int .i64 0, .int .i64 1, .int .i64 2, .int .i64 10, .int .i64 1] 43)) (.slice (some ⟨w2.heap.size, 0, none⟩) 2 2) 3 TgtAt exP.targets :=
    slice_new _ rfl (by decide) fun i hi => by
      have : i = 0 ∨ i = 1 := by simp [exP] at hi; omega
      rcases this with rfl | rfl <;> exact ⟨cell_new rfl, cell_new rfl, cell_new rfl⟩
  have hb3 := bAlloc (Below.refl w2.heap.size w2) (.cells #[.int .i64 0, .int .i64 0, .int .i64 1, .int .i64 2, .int .i64 10, .int .i64 1] 43)
  refine (Best_any exP _ _ hk3).mono ?_
  rintro e w3 ⟨⟨hno, -⟩ | ⟨-, v3, rfl, hr3⟩, hb⟩
  · rw [ex3] at hno; cases hno
  rw [ex3''] 
  rw [ex3'] at hr3
  have HB3 := Lib.hid (bThen hb3 hb)
  have HR3 := Lib.hid hr3
  clear hk3 hb3 hb hr3
  go_wp2_with fail
  refine (Frequency_any 50 w3 (HS.out.keep (bThen HB2.out HB3.out))).mono ?_
  rintro e w4 ⟨rfl, hb⟩
  rw [ex4]
  have HB4 := Lib.hid hb
  clear hb
  go_wp2_with fail
  have hk5 : SliceV (w4.alloc (.cells #[.int .i64 3000, .int .i64 3000, .int .i64 3000, .int .i64 3000, .int .i64 3000, .int .i64 3000, .int .i64 3000] 3)) (.slice (some ⟨w4.heap.size, 0, none⟩) 7 7) 1 IntAt exF :=
    slice_new _ rfl (by decide) fun i hi => by
      have : i = 0 ∨ i = 1 ∨ i = 2 ∨ i = 3 ∨ i = 4 ∨ i = 5 ∨ i = 6 := by simp [exF] at hi; omega
      rcases this with rfl | rfl | rfl | rfl | rfl | rfl | rfl <;> exact cell_new rfl
  have hb5 := bAlloc (Below.refl w4.heap.size w4) (.cells #[.int .i64 3000, .int .i64 3000, .int .i64 3000, .int .i64 3000, .int .i64 3000, .int .i64 3000, .int .i64 3000] 3)
  refine (Pulses_any 10 exF _ _ hk5).mono ?_
  rintro e w5 ⟨⟨hno, -⟩ | ⟨-, ad5, c5, rfl, hr5⟩, hb⟩
  · rw [ex5] at hno; cases hno
  rw [show (1000 : Int) * 10 = 10000 by omega, ex5'] at hr5
  rw [show (1000 : Int) * 10 = 10000 by omega, ex5']
  have HB5 := Lib.hid (bThen hb5 hb)
  have HR5 := Lib.hid hr5
  clear hk5 hb5 hb hr5
  go_wp2_with fail
  have hk6 : SliceV (w5.alloc (.cells #[.int .i64 1, .int .i64 2, .int .i64 0, .int .i64 0, .int .i64 0, .int .i64 4, .int .i64 3, .int .i64 3, .int .i64 2, .int .i64 0, .int .i64 0, .int .i64 4] 30)) (.slice (some ⟨w5.heap.size, 0, none⟩) 2 2) 6 NoteAt exN :=
    slice_new _ rfl (by decide) fun i hi => by
      have : i = 0 ∨ i = 1 := by simp [exN] at hi; omega
      rcases this with rfl | rfl <;> exact ⟨cell_new rfl, cell_new rfl, cell_new rfl, cell_new rfl, cell_new rfl, cell_new rfl⟩
  have hb6 := bAlloc (Below.refl w5.heap.size w5) (.cells #[.int .i64 1, .int .i64 2, .int .i64 0, .int .i64 0, .int .i64 0, .int .i64 4, .int .i64 3, .int .i64 3, .int .i64 2, .int .i64 0, .int .i64 0, .int .i64 4] 30)
  refine (Sing_any exN _ _ hk6).mono ?_
  rintro e w6 ⟨⟨hno, -⟩ | ⟨-, ad6, c6, rfl, hr6⟩, hb⟩
  · rw [ex6] at hno; cases hno
  rw [ex6'] at hr6
  rw [ex6']
  have HB6 := Lib.hid (bThen hb6 hb)
  have HR6 := Lib.hid hr6
  clear hk6 hb6 hb hr6
  go_wp2_with fail
  refine (Same_any [60, 57, 53, 50] [60, 57, 53, 50] _ _ _ (HR2.out.keep IntAt.stable (bAlloc (bThen HB3.out (bThen HB4.out (bThen HB5.out HB6.out))) _)) (ints_lit w6 [60, 57, 53, 50] 4 rfl (by decide))).mono ?_
  rintro e w7 ⟨rfl, hb⟩
  have H7 := Lib.hid (bThen (bAlloc (Below.refl w6.heap.size w6) _) hb)
  clear hb
  rw [show decide (([60, 57, 53, 50] : List Int) = [60, 57, 53, 50]) = true from decide_eq_true rfl]
  go_wp2_with fail
  refine (Same_any [3, 5, 7] [3, 5, 7] _ _ _ (HR3.out.keep IntAt.stable (bAlloc (bThen HB4.out (bThen HB5.out (bThen HB6.out H7.out))) _)) (ints_lit w7 [3, 5, 7] 3 rfl (by decide))).mono ?_
  rintro e w8 ⟨rfl, hb⟩
  have H8 := Lib.hid (bThen (bAlloc (Below.refl w7.heap.size w7) _) hb)
  clear hb
  rw [show decide (([3, 5, 7] : List Int) = [3, 5, 7]) = true from decide_eq_true rfl]
  go_wp2_with fail
  refine (Same_any [3, 6] [3, 6] _ _ _ (HR5.out.keep IntAt.stable (bAlloc (bThen HB6.out (bThen H7.out H8.out)) _)) (ints_lit w8 [3, 6] 2 rfl (by decide))).mono ?_
  rintro e w9 ⟨rfl, hb⟩
  have H9 := Lib.hid (bThen (bAlloc (Below.refl w8.heap.size w8) _) hb)
  clear hb
  rw [show decide (([3, 6] : List Int) = [3, 6]) = true from decide_eq_true rfl]
  go_wp2_with fail
  refine (Same_any [100, 100, 100, 200, 300] [100, 100, 100, 200, 300] _ _ _ (HR6.out.keep IntAt.stable (bAlloc (bThen H7.out (bThen H8.out H9.out)) _)) (ints_lit w9 [100, 100, 100, 200, 300] 5 rfl (by decide))).mono ?_
  rintro e w10 ⟨rfl, hb⟩
  have H10 := Lib.hid (bThen (bAlloc (Below.refl w9.heap.size w9) _) hb)
  clear hb
  rw [show decide (([100, 100, 100, 200, 300] : List Int) = [100, 100, 100, 200, 300]) = true from decide_eq_true rfl]
  go_wp2_with fail
  go_ret
  exact ⟨rfl, bThen HB2.out (bThen HB3.out (bThen HB4.out (bThen HB5.out (bThen HB6.out (bThen H7.out (bThen H8.out (bThen H9.out H10.out)))))))⟩
end Go.Proofs.YtejcbcjhmnhefabDoor
