/- Contracts: a new tube. -/
import Derived.Test.YtbmbcbknoflpgaaH5
import Derived.Test.YtbmbcbknoflpgaaH2
import Derived.Test.YtbmbcbknoflpgaaE1
set_option linter.unusedSimpArgs false
set_option linter.unusedVariables false
namespace Go.Proofs.Ytbmbcbknoflpgaa
open Go.RowKit

/-- A tube in memory: what its box holds; its waves are a row of their own. -/
structure TubeIs (base : Nat) (w : World) (tb : Nat) (al : List Int) (main : Nat) (ps : List Plc) (steps wb : Nat) (f : Nat → Int) : Prop where
  low : base ≤ tb ∧ base ≤ wb
  box : ∃ av pv xs k, w.heap[tb]? = some (.cells #[av, .int .i64 main, pv, .slice (some ⟨wb, 0, none⟩) (2 * al.length) (2 * al.length), .int .i64 steps] 97 (0, 0)) ∧ w.ownsRow base 3 1 av al.length (intV al) ∧ w.ownsRow base 143 1 pv k xs ∧ PlcsV base w xs ps
  waves : w.rowIs wb 137 (4 * al.length) (fun j => .int .i64 (f j))
theorem infoWv : (Try.prog.info? 137).map (fun i => (i.zero, i.size, i.bytes)) = some (some (.agg #[.int .i64 0, .int .i64 0]), 2, 16) := by kernel_rfl
theorem makeW (n : Nat) (hn : n ≤ 1000) (W : World) : (Instr.makeSlice 95 (.int .i64 (n : Int)) (.int .i64 (n : Int))).run Try.prog W = .ok (.slice (some ⟨W.heap.size, 0, none⟩) n n) (W.alloc (.cells (madeCells #[Value.int .i64 0, Value.int .i64 0] (n * 2)) 137)) := by
  obtain ⟨i3, hi3, hz3, hs3, hb3⟩ := info_parts infoWv
  have h := run_makeSlice (P := Try.prog) (w := W) 95 137 i3 _ Try.underlying95 hi3 hz3 .i64 .i64 (n : Int) (n : Int) (by omega) (by omega) (by rw [hs3]; omega) (by rw [hb3]; omega) (by omega)
  rw [hs3] at h
  simpa [Value.cells] using h
theorem row_made2 (W : World) (n : Nat) (t : TypeId) : (W.alloc (.cells (madeCells #[Value.int .i64 0, Value.int .i64 0] n) t)).rowIs W.heap.size t n (fun _ => .int .i64 0) :=
  ⟨_, World.alloc_heap_new W _, size_madeCells _ _, fun i hi => by
    rcases (show i % 2 = 0 ∨ i % 2 = 1 by omega) with h | h <;> simp [madeCells, hi, h]⟩
theorem PlcV.mono {base b2 : Nat} {w : World} {x : Value} {p : Plc} (h : PlcV base w x p) (hb : b2 ≤ base) : PlcV b2 w x p := by
  cases p with
  | fin s d q => exact h
  | jnt l => obtain ⟨u, hu, hr⟩ := h; exact ⟨u, hu, hr.mono hb⟩
theorem rowB {W W' : World} {g n : Nat} {t : TypeId} {f : Nat → Value} (h : W.rowIs g t n f) (hB : Below W.heap.size W W') : W'.rowIs g t n f := h.of_block (hB.block _ h.lt)
theorem undrew {w w' : World} (h : Below w.drew.heap.size w.drew w') : Below w.heap.size w w' := bThen (Below.drew (Below.refl _ _)) h
theorem rowAt {W : World} {g g' n : Nat} {t : TypeId} {f : Nat → Value} (h : W.rowIs g t n f) (e : g = g') : W.rowIs g' t n f := e ▸ h
theorem tube_made {base main k wb M tb b2 b3 : Nat} {W : World} {av pv : Value} {al : List Int} {ps : List Plc} {xs : List Value} (h2 : W.ownsRow b2 3 1 av al.length (intV al)) (hb2 : base ≤ b2) (h3 : W.ownsRow b3 143 1 pv k xs) (hp : PlcsV b3 W xs ps) (hb3 : base ≤ b3)
    (hw : W.rowIs wb 137 (M * 2) (fun _ => .int .i64 0)) (hwb : base ≤ wb) (hM : 2 * al.length = M) (htb : W.heap.size = tb) : TubeIs base (W.alloc (.cells #[av, .int .i64 main, pv, .slice (some ⟨wb, 0, none⟩) M M, .int .i64 0] 97)) tb al main ps 0 wb (fun _ => 0) := by
  subst hM htb
  have hB := bAlloc (Below.refl W.heap.size W) (.cells #[av, .int .i64 main, pv, .slice (some ⟨wb, 0, none⟩) (2 * al.length) (2 * al.length), .int .i64 0] 97)
  have hl := hw.lt
  exact ⟨⟨by omega, hwb⟩, ⟨av, pv, xs, k, World.alloc_heap_new W _, (h2.mono hb2).alloc _, (h3.mono hb3).alloc _, ⟨hp.1, fun i x p e1 e2 => ((hp.2 i x p e1 e2).mono hb3).below hB⟩⟩, by have := rowB hw hB; rwa [show 2 * al.length * 2 = 4 * al.length by omega] at this⟩
set_option maxRecDepth 10000 in
set_option maxHeartbeats 4000000 in
theorem newTube_any (al bl : List Int) (q m j : Nat) (g li no : Int) (va vb : Value) (w : World) (ha : SliceV w va 1 IntAt al) (hb : SliceV w vb 1 IntAt bl) (hq : al.length = q + 1) (hm : bl.length = m) (hq24 : q < 24) (hbn : m ≤ 24) (hli : 0 ≤ li ∧ li ≤ 99) (hno : 0 ≤ no ∧ no ≤ 99) :
    Calls Try.prog 60 #[.agg #[va, vb, .int .i64 j, .int .i64 g, .int .i64 li, .int .i64 no]] w fun e w' => (∃ tb wb, e = .returned (.pointer (some ⟨tb, 0, none⟩)) ∧ TubeIs w.heap.size w' tb (al ++ bl) (q + 1) (placesL (q + 1) m j g li no) 0 wb (fun _ => 0)) ∧ Below w.heap.size w w' := by
  have HCC := Lib.hid (fun W (hB : Below w.heap.size w W) (p : Nat) (h0 : W.cell? ⟨p, 0, none⟩ = some va) (h1 : W.cell? ⟨p, 1, none⟩ = some vb) => Concat_any [al, bl] (.slice (some ⟨p, 0, none⟩) 2 2) W ⟨_, 2, rfl, ⟨by simp [most], by simp⟩, .inr ⟨p, 0, rfl, fun i hi => by
    rcases (show i = 0 ∨ i = 1 by simp at hi; omega) with rfl | rfl
    · exact ⟨va, h0, ha.keep IntAt.stable hB⟩
    · exact ⟨vb, h1, hb.keep IntAt.stable hB⟩⟩⟩ (by simp [cat]; omega) (by simp [cat]; omega))
  obtain ⟨a, c, rfl, -⟩ := ha
  obtain ⟨b, d, rfl, -⟩ := hb
  have HPO := Lib.hid (fun W => placesOf_any q m j g li no a b c d W hq24 hbn hli hno)
  have HN : Hid ((al ++ bl).length = q + 1 + m) := Lib.hid (by simp; omega)
  have hcat : cat [al, bl] [al, bl].length = al ++ bl := by simp [cat]
  simp only [hcat, HN.out] at HCC
  clear hcat
  simp only [hq, hm] at HCC
  have e1 : ((q + 1 : Nat) : Int) = (q : Int) + 1 := by omega
  obtain ⟨q1, hq1⟩ : ∃ q1, q + 1 = q1 := ⟨_, rfl⟩
  rw [hq1] at HPO HN ⊢
  rw [hq, hq1, hm]
  obtain ⟨N, hN⟩ : ∃ N, q1 + m = N := ⟨_, rfl⟩
  rw [hN] at HN
  simp only [hq1, hN] at HCC
  have hN1 : N ≤ 48 := by omega
  obtain ⟨M, hM⟩ : ∃ M, 2 * N = M := ⟨_, rfl⟩
  have HMN := Lib.hid hM
  have u1 : IntKind.i64.wrap ((q1 : Int) + m) = (N : Int) := by rw [IntWalk.i64_in _ (by omega)]; omega
  have u2 : IntKind.i64.wrap (2 * (N : Int)) = (M : Int) := by rw [IntWalk.i64_in _ (by omega)]; omega
  have hmk := fun W => makeW M (by omega) W
  have HB1 := Lib.hid (bAlloc (Below.refl w.heap.size w) (.cells #[.slice a q1 c, .slice b m d, .int .i64 (j : Int), .int .i64 g, .int .i64 li, .int .i64 no] 24))
  have HB1 := Lib.hid (bAlloc (Below.refl w.heap.size w) (.cells #[.slice a q1 c, .slice b m d, .int .i64 (j : Int), .int .i64 g, .int .i64 li, .int .i64 no] 24))
  have hw1 := World.alloc_heap_new w (.cells #[.slice a q1 c, .slice b m d, .int .i64 (j : Int), .int .i64 g, .int .i64 li, .int .i64 no] 24)
  have C0 : Hid ((w.alloc (.cells #[.slice a q1 c, .slice b m d, .int .i64 (j : Int), .int .i64 g, .int .i64 li, .int .i64 no] 24)).cell? ⟨w.heap.size, 0, none⟩ = some (.slice a q1 c)) := Lib.hid (cell_new rfl)
  have C1 : Hid ((w.alloc (.cells #[.slice a q1 c, .slice b m d, .int .i64 (j : Int), .int .i64 g, .int .i64 li, .int .i64 no] 24)).cell? ⟨w.heap.size, 1, none⟩ = some (.slice b m d)) := Lib.hid (cell_new rfl)
  have C2 : Hid ((w.alloc (.cells #[.slice a q1 c, .slice b m d, .int .i64 (j : Int), .int .i64 g, .int .i64 li, .int .i64 no] 24)).cell? ⟨w.heap.size, 2, none⟩ = some (.int .i64 (j : Int))) := Lib.hid (cell_new rfl)
  have C3 : Hid ((w.alloc (.cells #[.slice a q1 c, .slice b m d, .int .i64 (j : Int), .int .i64 g, .int .i64 li, .int .i64 no] 24)).cell? ⟨w.heap.size, 3, none⟩ = some (.int .i64 g)) := Lib.hid (cell_new rfl)
  have C4 : Hid ((w.alloc (.cells #[.slice a q1 c, .slice b m d, .int .i64 (j : Int), .int .i64 g, .int .i64 li, .int .i64 no] 24)).cell? ⟨w.heap.size, 4, none⟩ = some (.int .i64 li)) := Lib.hid (cell_new rfl)
  have C5 : Hid ((w.alloc (.cells #[.slice a q1 c, .slice b m d, .int .i64 (j : Int), .int .i64 g, .int .i64 li, .int .i64 no] 24)).cell? ⟨w.heap.size, 5, none⟩ = some (.int .i64 no)) := Lib.hid (cell_new rfl)
  clear hw1 hM hN hq1 e1 hq hm
  go_enter Try.func60, Try.ntmps60
  go_wp2_with fail
  generalize World.alloc w _ = W1 at *
  obtain ⟨bx, hbx⟩ : ∃ bx, w.heap.size = bx := ⟨_, rfl⟩
  have HBX := Lib.hid hbx
  rw [hbx] at C0 C1 C2 C3 C4 C5
  rw [hbx]
  have HK : Hid (∀ X, Below W1.heap.size W1 X → (X.cell? ⟨bx, 0, none⟩ = some (.slice a q1 c) ∧ X.cell? ⟨bx, 1, none⟩ = some (.slice b m d) ∧ X.cell? ⟨bx, 2, none⟩ = some (.int .i64 (j : Int)) ∧ X.cell? ⟨bx, 3, none⟩ = some (.int .i64 g) ∧ X.cell? ⟨bx, 4, none⟩ = some (.int .i64 li) ∧ X.cell? ⟨bx, 5, none⟩ = some (.int .i64 no))) := Lib.hid (fun X h => ⟨keep h C0.out, keep h C1.out, keep h C2.out, keep h C3.out, keep h C4.out, keep h C5.out⟩)
  clear hbx
  go_region_held3 (fun X => (X.cell? ⟨bx, 0, none⟩ = some (.slice a q1 c) ∧ X.cell? ⟨bx, 1, none⟩ = some (.slice b m d) ∧ X.cell? ⟨bx, 2, none⟩ = some (.int .i64 (j : Int)) ∧ X.cell? ⟨bx, 3, none⟩ = some (.int .i64 g) ∧ X.cell? ⟨bx, 4, none⟩ = some (.int .i64 li) ∧ X.cell? ⟨bx, 5, none⟩ = some (.int .i64 no))) (((try dsimp only); exact HK.out _ (by (repeat (first | exact Below.refl _ _ | exact hB2 | exact hB3 | refine Below.drew ?_ | refine bAlloc ?_ _))))) (first
    | (go_at_call 88; with_reducible refine Calls.mono (HCC.out _ (bThen HB1.out (by (repeat (first | exact Below.refl _ _ | refine Below.drew ?_ | refine bAlloc ?_ _)))) _ (by first | exact cell_new rfl | exact keep (bAlloc (Below.refl _ _) _) (cell_new rfl) | (simp; done)) (by first | exact cell_new rfl | exact keep (bAlloc (Below.refl _ _) _) (cell_new rfl) | (simp; done))) ?_; rintro e w2 ⟨⟨r2, rfl, ho2⟩, hb2⟩; obtain ⟨ad2, cap2, rfl⟩ := ownsRow_slice ho2; have hB2 : Below W1.heap.size W1 w2 := bThen (by (repeat (first | exact Below.refl _ _ | refine Below.drew ?_ | refine bAlloc ?_ _))) hb2)
    | (go_at_call 89; with_reducible refine Calls.mono (HPO.out _) ?_; rintro e w3 ⟨⟨r3, xs, k, rfl, ho3, hp3⟩, hb3⟩; obtain ⟨ad3, cap3, rfl⟩ := ownsRow_slice ho3; have hb23 : Below w2.heap.size w2 w3 := bThen (by (repeat (first | exact Below.refl _ _ | refine Below.drew ?_ | refine bAlloc ?_ _))) hb3; have hB3 : Below W1.heap.size W1 w3 := bThen hB2 hb23))
  all_goals
    have hX0 := cell_lt C0.out
    have hX2 := hb2.size
    have hX3 := hb3.size
    simp at hX2 hX3
    have HE2 : Hid (w2.ownsRow bx 3 1 (.slice ad2 N cap2) N (intV (al ++ bl))) := Lib.hid (ho2.mono (by first | exact Nat.le_of_lt hX0 | (simp; omega)))
    have HE3 : Hid (w3.ownsRow bx 143 1 (.slice ad3 k cap3) k xs) := Lib.hid (ho3.mono (by first | (simp; omega) | omega))
    have HE4 : Hid (PlcsV bx w3 xs (placesL q1 m j g li no)) := Lib.hid ⟨hp3.1, fun i x p e1 e2 => (hp3.2 i x p e1 e2).mono (by first | (simp; omega) | omega)⟩
    first | have HE5 := Lib.hid (undrew hb2) | have HE5 := Lib.hid hb2
    first | have HE6 := Lib.hid (undrew hb3) | have HE6 := Lib.hid hb3
    have HE7 := Lib.hid hb23
    have HE8 := Lib.hid hB3
    have HX : Hid (bx < W1.heap.size ∧ W1.heap.size ≤ w2.heap.size ∧ w2.heap.size ≤ w3.heap.size) := Lib.hid ⟨hX0, hB2.size, hb23.size⟩
    clear ho2 ho3 hp3 hb2 hb3 hb23 hB2 hB3 hX0 hX2 hX3
    go_wp2_with fail
    go_ret
    rw [HBX.out]
    obtain ⟨hX0, hX2, hX3⟩ := HX.out
    refine ⟨⟨_, _, rfl, tube_made (b2 := bx) (b3 := bx) (k := k) (xs := xs) ?_ (Nat.le_refl _) ?_ ?_ (Nat.le_refl _) ?_ ?_ ?_ ?_⟩, ?_⟩
    · rw [HN.out]
      first
        | exact ownsRow_below HE2.out HE7.out
        | exact ownsRow_below HE2.out (bAlloc HE7.out _)
    · first
        | exact HE3.out
        | exact HE3.out.alloc _
    · first
        | exact HE4.out
        | exact HE4.out.map fun x p hx => hx.below (bAlloc (Below.refl _ _) _)
    · first
        | exact row_made2 _ _ _
        | exact rowB (row_made2 _ _ _) HE6.out
        | exact rowAt (rowB (rowB (row_made2 _ _ _) HE5.out) HE7.out) (by simp)
        | exact rowAt (rowB (rowB ((row_made2 _ _ _).alloc _) HE5.out) HE7.out) (by simp)
    · first | omega | (simp; omega)
    · rw [HN.out, HMN.out]
    · first | rfl | simp
    · have hbx := HBX.out
      rw [← HBX.out]
      first
        | exact bAlloc' (bThen HB1.out HE8.out) (by omega) _
        | exact bAlloc' (bAlloc' (bThen HB1.out HE8.out) (by omega) _) (by simp; omega) _
end Go.Proofs.Ytbmbcbknoflpgaa
