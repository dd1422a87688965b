/- Contracts: the places of a tube are laid. -/
import Derived.Test.YtbmbcbknoflpgaaH4
set_option linter.unusedSimpArgs false
set_option linter.unusedVariables false
namespace Go.Proofs.Ytbmbcbknoflpgaa
open Go.RowKit

/-- What an own row of places keeps when it grows: all blocks of other types. -/
structure PBox (base : Nat) (wr : World) (o : Value) (m : Nat) (ps : List Plc) (cs : Array Value) : Prop where
  row : ∃ xs, wr.ownsRow base 143 1 o m xs ∧ PlcsV base wr xs ps
  box : wr.heap[base]? = some (.cells cs 24 (0, 0))
theorem PBox.below {base m : Nat} {w w' : World} {o : Value} {ps : List Plc} {cs : Array Value} (h : PBox base w o m ps cs) (hB : Below w.heap.size w w') : PBox base w' o m ps cs := by
  obtain ⟨xs, h1, h2⟩ := h.row
  exact ⟨⟨xs, ownsRow_below h1 hB, h2.map fun x p hx => hx.below hB⟩, heap_keep hB h.box⟩
theorem PBox.snoc {base m : Nat} {w w' : World} {o o' y : Value} {ps : List Plc} {p : Plc} {cs : Array Value} {xs : List Value} (hr : w.ownsRow base 143 1 o m xs) (hp : PlcsV base w xs ps) (hb : w.heap[base]? = some (.cells cs 24 (0, 0)))
    (hy : PlcV base w y p) (hr' : w'.ownsRow base 143 1 o' (m + 1) (xs ++ [y])) (hg : w.grownBy w' o.ownBlock) : PBox base w' o' (m + 1) (ps ++ [p]) cs := by
  refine ⟨⟨_, hr', PlcsV.snoc (hp.map fun x q hx => hx.grown hr (by decide) hg) (hy.grown hr (by decide) hg)⟩, ?_⟩
  refine (hg.block base (Array.getElem?_eq_some_iff.1 hb).1 (fun e => own_ne hr hb (fun cs' e => by cases e) e.symm)).trans hb
theorem own_lit {W : World} {base : Nat} (e size n : Nat) (cs : Array Value) (hb : base ≤ W.heap.size) (hm : n ≤ 1000) (hs : cs.size = n * size) : (W.alloc (.cells cs e)).ownsRow base e size (.slice (some ⟨W.heap.size, 0, none⟩) n n) n cs.toList :=
  World.ownsRow_lit W cs n hb (by unfold maxLen; omega) hs
theorem range_snoc {α : Type} (f : Nat → α) (k : Nat) : (List.range (k + 1)).map f = (List.range k).map f ++ [f k] := by simp [List.range_succ]
/-- All that an append of a joint wants. -/
structure PRdy (base : Nat) (W : World) (b : Nat) (o y : Value) (m : Nat) (ps : List Plc) (p : Plc) (cs : Array Value) (xs : List Value) : Prop where
  row : W.ownsRow base 143 1 o m xs
  plcs : PlcsV base W xs ps
  box : W.heap[base]? = some (.cells cs 24 (0, 0))
  cell : W.cell? ⟨b, 0, none⟩ = some y
  plc : PlcV base W y p
  size : base ≤ W.heap.size
theorem prdy {base m : Nat} {wr W : World} {o u y : Value} {ps : List Plc} {cs : Array Value} {l : List (Nat × Nat)} (h : PBox base wr o m ps cs) (hB : Below wr.heap.size wr W) (hb : base ≤ wr.heap.size) (hu : W.ownsRow base 160 2 u l.length (sideV l)) (hy : y = .iface 164 u) :
    ∃ xs, PRdy base (W.alloc (.cells #[y] 143)) W.heap.size o y m ps (.jnt l) cs xs := by
  subst hy
  have h2 := (h.below hB).below (bAlloc (Below.refl _ _) (.cells #[.iface 164 u] 143))
  obtain ⟨xs, h3, h4⟩ := h2.row
  exact ⟨xs, h3, h4, h2.box, cell_new rfl, ⟨u, rfl, ownsRow_below hu (bAlloc (Below.refl _ _) _)⟩, by have := hB.size; simp; omega⟩
theorem PRdy.snoc {base b m : Nat} {W W' : World} {o o' y : Value} {ps : List Plc} {p : Plc} {cs : Array Value} {xs : List Value} (h : PRdy base W b o y m ps p cs xs) (hr : W'.ownsRow base 143 1 o' (m + 1) (xs ++ [y])) (hg : W.grownBy W' o.ownBlock) : PBox base W' o' (m + 1) (ps ++ [p]) cs :=
  PBox.snoc h.row h.plcs h.box h.plc hr hg
/-- The first k places of the main tube. -/
def plcTo (q b j : Nat) (g li : Int) (k : Nat) : List Plc := [.fin 0 1 g, .fin q 0 (-li)] ++ (List.range k).map (plcMid (q + 1) b j)
theorem plcTo_snoc (q b j : Nat) (g li : Int) (k : Nat) : plcTo q b j g li (k + 1) = plcTo q b j g li k ++ [plcMid (q + 1) b j k] := by unfold plcTo; rw [range_snoc]; simp
theorem plcTo_len (q b j : Nat) (g li : Int) (k : Nat) : (plcTo q b j g li k).length = 2 + k := by unfold plcTo; simp; omega
/-- The first k places of the branch. -/
def plcBr (q b j : Nat) (g li : Int) (k : Nat) : List Plc := plcTo q b j g li q ++ (List.range k).map (plcEnd (q + 1))
theorem plcBr_snoc (q b j : Nat) (g li : Int) (k : Nat) : plcBr q b j g li (k + 1) = plcBr q b j g li k ++ [plcEnd (q + 1) k] := by unfold plcBr; rw [range_snoc]; simp
set_option maxRecDepth 10000 in
set_option maxHeartbeats 4000000 in
theorem placesOf_any (q m : Nat) (j : Nat) (g li no : Int) (a b : Option Addr) (c d : Nat) (w : World) (hq : q < 24) (hbn : m ≤ 24) (hli : 0 ≤ li ∧ li ≤ 99) (hno : 0 ≤ no ∧ no ≤ 99) :
    Calls Try.prog 89 #[.agg #[.slice a (q + 1) c, .slice b m d, .int .i64 j, .int .i64 g, .int .i64 li, .int .i64 no]] w fun e w' => (∃ r xs k, e = .returned r ∧ w'.ownsRow w.heap.size 143 1 r k xs ∧ PlcsV w.heap.size w' xs (placesL (q + 1) m j g li no)) ∧ Below w.heap.size w w' := by
  have u1 : IntKind.i64.wrap (((q + 1 : Nat) : Int) - 1) = (q : Int) := by rw [IntWalk.i64_in _ (by omega)]; omega
  have u2 : IntKind.i64.wrap (-li) = -li := IntWalk.i64_in _ (by omega)
  have u3 : IntKind.i64.wrap (-no) = -no := IntWalk.i64_in _ (by omega)
  have HB0 := Lib.hid (bAlloc (Below.refl w.heap.size w) (.cells #[.slice a (q + 1) c, .slice b m d, .int .i64 (j : Int), .int .i64 g, .int .i64 li, .int .i64 no] 24))
  have HP0 : Hid (PBox w.heap.size ((w.alloc (.cells #[.slice a (q + 1) c, .slice b m d, .int .i64 (j : Int), .int .i64 g, .int .i64 li, .int .i64 no] 24)).alloc (.cells #[.iface 162 (.agg #[.int .i64 0, .int .i64 1, .int .i64 g]), .iface 162 (.agg #[.int .i64 (q : Int), .int .i64 0, .int .i64 (-li)])] 143)) (.slice (some ⟨w.heap.size + 1, 0, none⟩) 2 2) 2 (plcTo q m j g li 0) #[.slice a (q + 1) c, .slice b m d, .int .i64 (j : Int), .int .i64 g, .int .i64 li, .int .i64 no]) := Lib.hid (by
    have h1 := own_lit (W := w.alloc (.cells #[.slice a (q + 1) c, .slice b m d, .int .i64 (j : Int), .int .i64 g, .int .i64 li, .int .i64 no] 24)) (base := w.heap.size) 143 1 2 #[.iface 162 (.agg #[.int .i64 0, .int .i64 1, .int .i64 g]), .iface 162 (.agg #[.int .i64 (q : Int), .int .i64 0, .int .i64 (-li)])] (by simp) (by omega) rfl
    have e : (w.alloc (.cells #[.slice a (q + 1) c, .slice b m d, .int .i64 (j : Int), .int .i64 g, .int .i64 li, .int .i64 no] 24)).heap.size = w.heap.size + 1 := by simp
    rw [e] at h1
    refine ⟨⟨_, h1, rfl, fun i x p hx hp => ?_⟩, heap_keep (bAlloc (Below.refl _ _) _) (World.alloc_heap_new w _)⟩
    rcases (show i = 0 ∨ i = 1 ∨ 2 ≤ i by omega) with rfl | rfl | h
    · simp at hx; simp [plcTo] at hp; subst hx hp; rfl
    · simp at hx; simp [plcTo] at hp; subst hx hp; rfl
    · rw [List.getElem?_eq_none (by simp; omega)] at hx; cases hx)
  have HB1 : Hid (Below w.heap.size w ((w.alloc (.cells #[.slice a (q + 1) c, .slice b m d, .int .i64 (j : Int), .int .i64 g, .int .i64 li, .int .i64 no] 24)).alloc (.cells #[.iface 162 (.agg #[.int .i64 0, .int .i64 1, .int .i64 g]), .iface 162 (.agg #[.int .i64 (q : Int), .int .i64 0, .int .i64 (-li)])] 143))) := Lib.hid (bAlloc HB0.out _)
  clear HB0
  go_enter Try.func89, Try.ntmps89
  go_wp2_with fail
  generalize World.alloc (World.alloc w _) _ = W2 at *
  obtain ⟨bx, hbx⟩ : ∃ bx, w.heap.size = bx := ⟨_, rfl⟩
  have HBX := Lib.hid hbx
  rw [hbx] at HP0 HB1 ⊢
  clear hbx
  go_loopw [4, 27] (fun p0 i wr => ∃ (k : Nat) (p : Value), p = p0 ∧ k ≤ q ∧ i = .int .i64 k ∧ Hid (PBox bx wr p (2 + k) (plcTo q m j g li k) #[.slice a (q + 1) c, .slice b m d, .int .i64 (j : Int), .int .i64 g, .int .i64 li, .int .i64 no]) ∧ Hid (Below bx w wr)) (fun _ i _ => q - (intOf i).toNat)
  case atStart => exact ⟨0, _, rfl, Nat.zero_le _, rfl, HP0, HB1⟩
  case round =>
    obtain ⟨k, p, hp, hk, rfl, HP, HB⟩ := hrel
    subst hp
    by_cases hlt : k < q
    · have hkk : (k : Int) < (q : Int) := by omega
      have u4 : IntKind.i64.wrap ((k : Int) + 1) = ((k + 1 : Nat) : Int) := by rw [IntWalk.i64_in _ (by omega)]; omega
      have hx := HP.out.box
      have x1 := cell_of_heap (j := 1) (n := 6) hx (by omega)
      have x2 := cell_of_heap (j := 2) (n := 6) hx (by omega)
      have x0 := cell_of_heap (j := 0) (n := 6) hx (by omega)
      simp at x0 x1 x2
      have hbl := cell_lt x1
      clear hx
      have hbw := HB.out.size
      have HBS : Hid (bx ≤ wr.heap.size) := Lib.hid (by have := (Array.getElem?_eq_some_iff.1 HP.out.box).1; omega)
      have HSD := Lib.hid (own_lit (W := wr) (base := bx) 160 2 2 #[.int .i64 (k : Int), .int .i64 0, .int .i64 ((k : Int) + 1), .int .i64 1] HBS.out (by omega) rfl)
      have u5 : IntKind.i64.wrap ((k : Int) + 1) = (k : Int) + 1 := IntWalk.i64_in _ (by omega)
      have HTO := Lib.hid (plcTo_snoc q m j g li k)
      clear u4
      by_cases hkj : k = j
      · subst hkj
        by_cases hm : m = 0
        · subst hm
          have HPM : Hid (plcMid (q + 1) 0 k k = .jnt [(k, 0), (k + 1, 1)]) := Lib.hid (by unfold plcMid; rw [if_neg (by omega)])
          obtain ⟨xs, HRD⟩ : ∃ xs, Hid (PRdy bx ((wr.alloc (.cells #[.int .i64 (k : Int), .int .i64 0, .int .i64 ((k : Int) + 1), .int .i64 1] 160)).alloc (.cells #[.iface 164 (.slice (some ⟨wr.heap.size, 0, none⟩) 2 2)] 143)) (wr.heap.size + 1) p (.iface 164 (.slice (some ⟨wr.heap.size, 0, none⟩) 2 2)) (2 + k) (plcTo q 0 k g li k) (.jnt [(k, 0), (k + 1, 1)]) _ xs) := by
            obtain ⟨xs, hx⟩ := prdy (l := [(k, 0), (k + 1, 1)]) HP.out (bAlloc (Below.refl _ _) _) HBS.out HSD.out rfl
            exact ⟨xs, Lib.hid (by simpa using hx)⟩
          have HBA : Hid (Below bx w ((wr.alloc (.cells #[.int .i64 (k : Int), .int .i64 0, .int .i64 ((k : Int) + 1), .int .i64 1] 160)).alloc (.cells #[.iface 164 (.slice (some ⟨wr.heap.size, 0, none⟩) 2 2)] 143))) := Lib.hid (bAlloc' (bAlloc' HB.out HBS.out _) (by have := HBS.out; simp; omega) _)
          go_wp2_with (at_builtin; refine wpList_append_plc rfl _ _ rfl bx _ (2 + k) xs rfl HRD.out.row (wr.heap.size + 1) _ rfl HRD.out.cell rfl (by omega) HRD.out.size ?_; intro v3 w3 ho3 hg3 hb3; have HN3 := Lib.hid (HRD.out.snoc ho3 hg3); have HB3 := Lib.hid (HBA.out.trans hb3); clear ho3 hg3 hb3)
          go_roundw
          case rel => exact ⟨k + 1, _, rfl, by omega, by go_num, by rw [HTO.out, HPM.out]; exact HN3, HB3⟩
          case measure => simp [intOf]; omega
        · have hm1 : (0 : Int) < (m : Int) := by omega
          obtain ⟨q1, hq1⟩ : ∃ q1 : Nat, q + 1 = q1 := ⟨_, rfl⟩
          have HPM : Hid (plcMid (q + 1) m k k = .jnt [(k, 0), (k + 1, 1), (q1, 1)]) := Lib.hid (by unfold plcMid; rw [if_pos (by omega), hq1])
          have hq2 : (q : Int) + 1 = (q1 : Int) := by omega
          have HSD2 : Hid (((wr.alloc (.cells #[.int .i64 (k : Int), .int .i64 0, .int .i64 ((k : Int) + 1), .int .i64 1] 160)).alloc (.cells #[.int .i64 (q1 : Int), .int .i64 1] 160)).ownsRow wr.heap.size 160 2 (.slice (some ⟨wr.heap.size, 0, none⟩) 2 2) [(k, 0), (k + 1, 1)].length (sideV [(k, 0), (k + 1, 1)])) := Lib.hid (by
            have := (own_lit (W := wr) (base := wr.heap.size) 160 2 2 #[.int .i64 (k : Int), .int .i64 0, .int .i64 ((k : Int) + 1), .int .i64 1] (Nat.le_refl _) (by omega) rfl).alloc (.cells #[.int .i64 (q1 : Int), .int .i64 1] 160)
            simpa [sideV] using this)
          have HBQ : Hid (Below wr.heap.size wr ((wr.alloc (.cells #[.int .i64 (k : Int), .int .i64 0, .int .i64 ((k : Int) + 1), .int .i64 1] 160)).alloc (.cells #[.int .i64 (q1 : Int), .int .i64 1] 160))) := Lib.hid (bAlloc (bAlloc (Below.refl _ _) _) _)
          have C0 : Hid (((wr.alloc (.cells #[.int .i64 (k : Int), .int .i64 0, .int .i64 ((k : Int) + 1), .int .i64 1] 160)).alloc (.cells #[.int .i64 (q1 : Int), .int .i64 1] 160)).cell? ⟨wr.heap.size + 1, 0, none⟩ = some (.int .i64 (q1 : Int))) := Lib.hid (by simp)
          have C1 : Hid (((wr.alloc (.cells #[.int .i64 (k : Int), .int .i64 0, .int .i64 ((k : Int) + 1), .int .i64 1] 160)).alloc (.cells #[.int .i64 (q1 : Int), .int .i64 1] 160)).cell? ⟨wr.heap.size + 1, 1, none⟩ = some (.int .i64 ((1 : Nat) : Int))) := Lib.hid (by simp)
          have HQ1 := Lib.hid hq1
          clear hq1
          go_wp2_with (first
            | (at_builtin; refine wpList_append_side rfl _ _ rfl wr.heap.size _ [(k, 0), (k + 1, 1)] rfl HSD2.out (wr.heap.size + 1) q1 1 rfl C0.out C1.out (by simp) HBQ.out.size ?_; intro v3 w3 ho3 hg3 hb3; have HO3 := Lib.hid ho3; have HB3 := Lib.hid (HBQ.out.trans hb3); obtain ⟨xs, hx⟩ := prdy HP.out HB3.out HBS.out (HO3.out.mono HBS.out) rfl; have HRD := Lib.hid hx; have HBA : Hid (Below bx w (w3.alloc (.cells #[.iface 164 v3] 143))) := Lib.hid (bAlloc' (HB.out.trans (HB3.out.mono HBS.out)) (Nat.le_trans HBS.out HB3.out.size) _); clear ho3 hg3 hb3 hx)
            | (at_builtin; refine wpList_append_plc rfl _ _ rfl bx _ (2 + k) xs rfl HRD.out.row w3.heap.size _ rfl HRD.out.cell rfl (by omega) HRD.out.size ?_; intro v4 w4 ho4 hg4 hb4; have HN4 := Lib.hid (HRD.out.snoc ho4 hg4); have HB4 := Lib.hid (HBA.out.trans hb4); clear ho4 hg4 hb4))
          go_roundw
          case rel =>
            have HN5 : Hid (PBox bx w4 v4 (2 + (k + 1)) (plcTo q m k g li (k + 1)) #[.slice a (q + 1) c, .slice b m d, .int .i64 (k : Int), .int .i64 g, .int .i64 li, .int .i64 no]) := by rw [HTO.out, HPM.out]; exact HN4
            refine ⟨v4, _, _, _, ⟨k + 1, by omega, rfl, ?_⟩, rfl, rfl, rfl, by go_num⟩
            first | exact HN5 | exact ⟨HN5, HB4⟩
          case measure => simp [intOf]; omega
      · have hkj1 : ¬ ((k : Int) = (j : Int)) := by omega
        have hkj2 : ((k : Int) == (j : Int)) = false := by simp; omega
        have HPM : Hid (plcMid (q + 1) m j k = .jnt [(k, 0), (k + 1, 1)]) := Lib.hid (by unfold plcMid; rw [if_neg (by omega)])
        obtain ⟨xs, HRD⟩ : ∃ xs, Hid (PRdy bx ((wr.alloc (.cells #[.int .i64 (k : Int), .int .i64 0, .int .i64 ((k : Int) + 1), .int .i64 1] 160)).alloc (.cells #[.iface 164 (.slice (some ⟨wr.heap.size, 0, none⟩) 2 2)] 143)) (wr.heap.size + 1) p (.iface 164 (.slice (some ⟨wr.heap.size, 0, none⟩) 2 2)) (2 + k) (plcTo q m j g li k) (.jnt [(k, 0), (k + 1, 1)]) _ xs) := by
          obtain ⟨xs, hx⟩ := prdy (l := [(k, 0), (k + 1, 1)]) HP.out (bAlloc (Below.refl _ _) _) HBS.out HSD.out rfl
          exact ⟨xs, Lib.hid (by simpa using hx)⟩
        have HBA : Hid (Below bx w ((wr.alloc (.cells #[.int .i64 (k : Int), .int .i64 0, .int .i64 ((k : Int) + 1), .int .i64 1] 160)).alloc (.cells #[.iface 164 (.slice (some ⟨wr.heap.size, 0, none⟩) 2 2)] 143))) := Lib.hid (bAlloc' (bAlloc' HB.out HBS.out _) (by have := HBS.out; simp; omega) _)
        go_wp2_with (at_builtin; refine wpList_append_plc rfl _ _ rfl bx _ (2 + k) xs rfl HRD.out.row (wr.heap.size + 1) _ rfl HRD.out.cell rfl (by omega) HRD.out.size ?_; intro v3 w3 ho3 hg3 hb3; have HN3 := Lib.hid (HRD.out.snoc ho3 hg3); have HB3 := Lib.hid (HBA.out.trans hb3); clear ho3 hg3 hb3)
        go_roundw
        case rel => exact ⟨k + 1, _, rfl, by omega, by go_num, by rw [HTO.out, HPM.out]; exact HN3, HB3⟩
        case measure => simp [intOf]; omega
    · obtain rfl : k = q := by omega
      have hx := HP.out.box
      have x1 := cell_of_heap (j := 1) (n := 6) hx (by omega)
      have x5 := cell_of_heap (j := 5) (n := 6) hx (by omega)
      simp at x1 x5
      have hbl := cell_lt x1
      clear hx
      by_cases hm : m = 0
      · subst hm
        go_wp2_with fail
        go_ret
        obtain ⟨xs, h1, h2⟩ := HP.out.row
        rw [HBX.out]
        exact ⟨⟨_, xs, _, rfl, h1, by simpa [placesL, plcTo] using h2⟩, HB.out⟩
      · have hm1 : ¬ ((m : Int) = 0) := by omega
        have hm2 : ((m : Int) == 0) = false := by simp; omega
        obtain ⟨m1, rfl⟩ : ∃ m1, m = m1 + 1 := ⟨m - 1, by omega⟩
        have u4 : IntKind.i64.wrap ((k : Int) + ((m1 + 1 : Nat) : Int)) = ((k + (m1 + 1) : Nat) : Int) := by rw [IntWalk.i64_in _ (by omega)]; omega
        have u5 : IntKind.i64.wrap ((k : Int) + 1) = (k : Int) + 1 := IntWalk.i64_in _ (by omega)
        have HP3 : Hid (PBox bx wr p (2 + k + 0) (plcBr k (m1 + 1) j g li 0) #[.slice a (k + 1) c, .slice b (m1 + 1) d, .int .i64 (j : Int), .int .i64 g, .int .i64 li, .int .i64 no]) := Lib.hid (by simpa [plcBr] using HP.out)
        clear HP
        go_wp2_with fail
        clear x1 x5 hbl
        go_loopw [4, 8] (fun p0 i wr => ∃ (t : Nat) (p : Value), p = p0 ∧ t ≤ m1 ∧ i = .int .i64 ((k + 1 + t : Nat) : Int) ∧ Hid (PBox bx wr p (2 + k + t) (plcBr k (m1 + 1) j g li t) #[.slice a (k + 1) c, .slice b (m1 + 1) d, .int .i64 (j : Int), .int .i64 g, .int .i64 li, .int .i64 no]) ∧ Hid (Below bx w wr)) (fun _ i _ => k + 1 + m1 - (intOf i).toNat)
        case atStart => exact ⟨0, _, rfl, Nat.zero_le _, by go_num, HP3, HB⟩
        case round =>
          clear HP3 HB
          obtain ⟨t, p, hp, ht, rfl, HP, HB⟩ := hrel
          subst hp
          have hx := HP.out.box
          have x5 := cell_of_heap (j := 5) (n := 6) hx (by omega)
          simp at x5
          have hbl := cell_lt x5
          clear hx
          have HTO := Lib.hid (plcBr_snoc k (m1 + 1) j g li t)
          have HBS : Hid (bx ≤ wr.heap.size) := Lib.hid (by have := (Array.getElem?_eq_some_iff.1 HP.out.box).1; omega)
          by_cases hlt : t < m1
          · have HPE : Hid (plcEnd (k + 1) t = .jnt [(k + 1 + t, 0), (k + 1 + t + 1, 1)]) := Lib.hid rfl
            have HSN : Hid (k + 1 + t + 1 = k + 1 + (t + 1)) := Lib.hid (by omega)
            have hss : ((k + 1 + t : Nat) : Int) < (k : Int) + ((m1 : Int) + 1) := by omega
            have hsl : k + 1 + t ≤ 100 := by omega
            have HMS : Hid (k + 1 + m1 - (k + 1 + t + 1) < k + 1 + m1 - (k + 1 + t)) := Lib.hid (by omega)
            obtain ⟨s, hs⟩ : ∃ s, k + 1 + t = s := ⟨_, rfl⟩
            rw [hs] at HPE HSN hss hsl HMS ⊢
            clear hs
            have u7 : IntKind.i64.wrap ((s : Int) + 1) = (s : Int) + 1 := IntWalk.i64_in _ (by omega)
            have HSD := Lib.hid (own_lit (W := wr) (base := bx) 160 2 2 #[.int .i64 (s : Int), .int .i64 0, .int .i64 ((s : Int) + 1), .int .i64 1] HBS.out (by omega) rfl)
            obtain ⟨xs, HRD⟩ : ∃ xs, Hid (PRdy bx ((wr.alloc (.cells #[.int .i64 (s : Int), .int .i64 0, .int .i64 ((s : Int) + 1), .int .i64 1] 160)).alloc (.cells #[.iface 164 (.slice (some ⟨wr.heap.size, 0, none⟩) 2 2)] 143)) (wr.heap.size + 1) p (.iface 164 (.slice (some ⟨wr.heap.size, 0, none⟩) 2 2)) (2 + k + t) (plcBr k (m1 + 1) j g li t) (.jnt [(s, 0), (s + 1, 1)]) _ xs) := by
              obtain ⟨xs, hx⟩ := prdy (l := [(s, 0), (s + 1, 1)]) HP.out (bAlloc (Below.refl _ _) _) HBS.out HSD.out rfl
              exact ⟨xs, Lib.hid (by simpa using hx)⟩
            have HBA : Hid (Below bx w ((wr.alloc (.cells #[.int .i64 (s : Int), .int .i64 0, .int .i64 ((s : Int) + 1), .int .i64 1] 160)).alloc (.cells #[.iface 164 (.slice (some ⟨wr.heap.size, 0, none⟩) 2 2)] 143))) := Lib.hid (bAlloc' (bAlloc' HB.out HBS.out _) (by have := HBS.out; simp; omega) _)
            go_wp2_with (at_builtin; refine wpList_append_plc rfl _ _ rfl bx _ (2 + k + t) xs rfl HRD.out.row (wr.heap.size + 1) _ rfl HRD.out.cell rfl (by omega) HRD.out.size ?_; intro v3 w3 ho3 hg3 hb3; have HN3 := Lib.hid (HRD.out.snoc ho3 hg3); have HB3 := Lib.hid (HBA.out.trans hb3); clear ho3 hg3 hb3)
            go_roundw
            case rel =>
              have HN5 : Hid (PBox bx w3 v3 (2 + k + (t + 1)) (plcBr k (m1 + 1) j g li (t + 1)) #[.slice a (k + 1) c, .slice b (m1 + 1) d, .int .i64 (j : Int), .int .i64 g, .int .i64 li, .int .i64 no]) := by rw [HTO.out, HPE.out]; exact HN3
              exact ⟨t + 1, by omega, by have := HSN.out; omega, HN5⟩
            case measure => have := HMS.out; simp [intOf]; omega
          · obtain rfl : t = m1 := by omega
            have hss : ¬ ((k + 1 + t : Nat) : Int) < (k : Int) + ((t : Int) + 1) := by omega
            obtain ⟨xs, h1, h2⟩ := HP.out.row
            have HR4 := Lib.hid (h1.alloc (.cells #[.iface 162 (.agg #[.int .i64 ((k : Int) + ((t : Int) + 1)), .int .i64 0, .int .i64 (-no)])] 143))
            have HP4 : Hid (∀ w', (wr.alloc (.cells #[.iface 162 (.agg #[.int .i64 ((k : Int) + ((t : Int) + 1)), .int .i64 0, .int .i64 (-no)])] 143)).grownBy w' p.ownBlock → PlcsV bx w' (xs ++ [.iface 162 (.agg #[.int .i64 ((k : Int) + ((t : Int) + 1)), .int .i64 0, .int .i64 (-no)])]) (placesL (k + 1) (t + 1) j g li no)) := Lib.hid (fun w' hg => by
              have h3 := PlcsV.snoc (x := .iface 162 (.agg #[.int .i64 ((k : Int) + ((t : Int) + 1)), .int .i64 0, .int .i64 (-no)])) (p := .fin (k + (t + 1)) 0 (-no)) (h2.map fun x q hx => (hx.below (bAlloc (Below.refl _ _) _)).grown (h1.alloc (.cells #[.iface 162 (.agg #[.int .i64 ((k : Int) + ((t : Int) + 1)), .int .i64 0, .int .i64 (-no)])] 143)) (by decide) hg) (by simp [PlcV])
              simpa [placesL, plcBr, plcTo] using h3)
            have HBA : Hid (Below bx w (wr.alloc (.cells #[.iface 162 (.agg #[.int .i64 ((k : Int) + ((t : Int) + 1)), .int .i64 0, .int .i64 (-no)])] 143))) := Lib.hid (bAlloc' HB.out HBS.out _)
            have C0 : Hid ((wr.alloc (.cells #[.iface 162 (.agg #[.int .i64 ((k : Int) + ((t : Int) + 1)), .int .i64 0, .int .i64 (-no)])] 143)).cell? ⟨wr.heap.size, 0, none⟩ = some (.iface 162 (.agg #[.int .i64 ((k : Int) + ((t : Int) + 1)), .int .i64 0, .int .i64 (-no)]))) := Lib.hid (cell_new rfl)
            clear h1 h2
            go_wp2_with (at_builtin; refine wpList_append_plc rfl _ _ rfl bx _ (2 + k + t) xs rfl HR4.out wr.heap.size _ rfl C0.out rfl (by omega) (by have := HBS.out; simp; omega) ?_; intro v3 w3 ho3 hg3 hb3; have HN3 := Lib.hid (HP4.out _ hg3); have HO3 := Lib.hid ho3; have HB3 := Lib.hid (HBA.out.trans hb3); clear ho3 hg3 hb3)
            go_ret
            rw [HBX.out]
            refine ⟨?_, HB3.out⟩
            have h1 := HO3.out
            have h2 := HN3.out
            first | exact ⟨_, rfl, _, ⟨_, h1⟩, h2⟩ | exact ⟨_, rfl, _, _, h1, h2⟩ | exact ⟨_, _, _, rfl, h1, h2⟩
end Go.Proofs.Ytbmbcbknoflpgaa
