/- Contracts: waves meet at a joint. -/
import Derived.Test.YtbmbcbknoflpgaaF12
import Derived.Test.YtbmbcbknoflpgaaA5
import Derived.BigRegion
import Derived.Deep.RegionHeld3
set_option linter.unusedSimpArgs false
set_option linter.unusedVariables false
namespace Go.Proofs.Ytbmbcbknoflpgaa
open Go.RowKit

def SideAt (w : World) (b o : Nat) (s : Nat × Nat) : Prop := w.cell? ⟨b, o, none⟩ = some (.int .i64 s.1) ∧ w.cell? ⟨b, o + 1, none⟩ = some (.int .i64 s.2)
theorem SideAt.stable : Stable SideAt := fun _ _ _ _ _ hB h => ⟨keep hB h.1, keep hB h.2⟩
def upd (G : Nat → Int) (k : Nat) (v : Int) : Nat → Int := fun j => if j = k then v else G j
def jA (A : Nat → Int) (l : List (Nat × Nat)) (i : Nat) : Int := A (l.getD i (0, 0)).1
def jF (F : Nat → Int) (l : List (Nat × Nat)) (i : Nat) : Int := F ((l.getD i (0, 0)).1 * 2 + (l.getD i (0, 0)).2)
/-- The first waves that leave are laid. -/
def jPut (V : Nat → Int) (l : List (Nat × Nat)) (on : Nat) : Nat → (Nat → Int) → (Nat → Int)
  | 0, G => G
  | k + 1, G => upd (jPut V l on k G) (on + (l.getD k (0, 0)).1 * 2 + (1 - (l.getD k (0, 0)).2)) (V k)

theorem gP {l : List (Nat × Nat)} {k : Nat} (h : k < l.length) : l.getD k (0, 0) = l[k] := by rw [List.getD_eq_getElem?_getD, List.getElem?_eq_getElem h]; rfl
theorem bAlloc' {B : Nat} {w a : World} (h : Below B w a) (hs : B ≤ a.heap.size) (o : Obj) : Below B w (a.alloc o) := h.alloc hs o
theorem row3 (w : World) (g : Nat → Int) : (w.alloc (.cells #[.int .i64 0, .int .i64 0, .int .i64 0] 191)).rowIs w.heap.size 191 3 (fun j => .int .i64 (if j < 0 then g j else 0)) := by
  refine ⟨_, World.alloc_heap_new w _, rfl, fun i hi => ?_⟩
  rcases (show i = 0 ∨ i = 1 ∨ i = 2 by omega) with rfl | rfl | rfl <;> rfl
theorem sct_congr {A B F G : Nat → Int} {n : Nat} (hA : ∀ j, j < n → A j = B j) (hF : ∀ j, j < n → F j = G j) {i : Nat} (hi : i < n) : sct A F n i = sct B G n i := by
  have e1 : ∀ k, k ≤ n → arS A k = arS B k := by
    intro k hk
    induction k with
    | zero => rfl
    | succ k ih => unfold arS; rw [ih (by omega), hA k (by omega)]
  have e2 : ∀ k, k ≤ n → wvS A F k = wvS B G k := by
    intro k hk
    induction k with
    | zero => rfl
    | succ k ih => unfold wvS; rw [ih (by omega), hA k (by omega), hF k (by omega)]
  unfold sct
  rw [e1 n (Nat.le_refl _), e2 n (Nat.le_refl _), hF i hi]
theorem rowSet2 {W : World} {a b : Nat} {t u : TypeId} {n m : Nat} {f g : Nat → Value} (hf : W.rowIs a t n f) (hg : W.rowIs b u m g) (hne : a ≠ b) (i j : Nat) (x y : Value) :
    ((W.setCell ⟨a, i, none⟩ x).setCell ⟨b, j, none⟩ y).drew.rowIs a t n (fun k => if k = i then x else f k) ∧ ((W.setCell ⟨a, i, none⟩ x).setCell ⟨b, j, none⟩ y).drew.rowIs b u m (fun k => if k = j then y else g k) := by
  have h1 := (hf.set i x).of_block (w' := (W.setCell ⟨a, i, none⟩ x).setCell ⟨b, j, none⟩ y) (Below.heap_setCell _ _ _ a hne)
  have h2 := (hg.of_block (w' := W.setCell ⟨a, i, none⟩ x) (Below.heap_setCell _ _ _ b (fun e => hne e.symm))).set j y
  exact ⟨h1.of_block rfl, h2.of_block rfl⟩
theorem gb_cell {A B : World} {g b o : Nat} {v : Value} (h : A.grownBy B (some g)) (hc : A.cell? ⟨b, o, none⟩ = some v) (hne : b ≠ g) : B.cell? ⟨b, o, none⟩ = some v := by
  have hb := h.block b (cell_lt hc) (fun e => hne (by cases e; rfl))
  unfold World.cell? at hc ⊢
  simp only [hb]
  exact hc
theorem row_upd {W : World} {g N : Nat} {t : TypeId} {G : Nat → Int} (h : W.rowIs g t N (fun j => .int .i64 (G j))) (i : Nat) (x : Int) : (W.setCell ⟨g, i, none⟩ (.int .i64 x)).rowIs g t N (fun j => .int .i64 (upd G i x j)) :=
  (h.set i (.int .i64 x)).congr fun j _ => by
    unfold upd
    by_cases hj : j = i
    · rw [if_pos hj, if_pos hj]
    · rw [if_neg hj, if_neg hj]
theorem jPut_congr {V U : Nat → Int} (l : List (Nat × Nat)) (on k : Nat) (f : Nat → Int) (h : ∀ j, j < k → V j = U j) : jPut V l on k f = jPut U l on k f := by
  induction k with
  | zero => rfl
  | succ k ih => unfold jPut; rw [ih (fun j hj => h j (by omega)), h k (by omega)]
set_option maxRecDepth 10000 in
set_option maxHeartbeats 4000000 in
theorem meetJoint_any (l : List (Nat × Nat)) (al : List Int) (n N wb oo on : Nat) (v va : Value) (f : Nat → Int) (w : World) (hv : SliceV w v 2 SideAt l) (ha : SliceV w va 1 IntAt al) (hal : al.length = n) (hl1 : 1 ≤ l.length) (hl3 : l.length ≤ 3)
    (hs : ∀ i, i < l.length → (l.getD i (0, 0)).1 < n ∧ (l.getD i (0, 0)).2 ≤ 1) (hA : ∀ j, j < n → 1 ≤ al.getD j 0 ∧ al.getD j 0 ≤ 1000) (hn : n ≤ 100) (ho : oo + 2 * n ≤ N) (hon : on + 2 * n ≤ N)
    (hvb : ∀ p n c, v = .slice (some p) n c → p.block ≠ wb) (hr : w.rowIs wb 137 N (fun j => .int .i64 (f j))) :
    Calls Try.prog 130 #[v, va, .slice (some ⟨wb, oo, none⟩) n n, .slice (some ⟨wb, on, none⟩) n n] w fun e w' => (∃ r, e = .returned r) ∧ w'.rowIs wb 137 N (fun j => .int .i64 (jPut (sct (jA (fun i => al.getD i 0) l) (jF (fun i => f (oo + i)) l) l.length) l on l.length f j)) ∧ w.grownBy w' (some wb) := by
  have HV := Lib.hid hv
  have HA := Lib.hid ha
  have HR0 := Lib.hid hr
  have HS := Lib.hid hs
  have HAR := Lib.hid hA
  have HL1 := Lib.hid hl1
  have HL3 := Lib.hid hl3
  obtain ⟨a, c, rfl, -⟩ := hv
  obtain ⟨a2, c2, rfl, -⟩ := ha
  rw [hal] at HA ⊢
  have HVB : Hid (∀ p, a = some p → p.block ≠ wb) := Lib.hid (fun p hp => hvb p _ _ (by rw [hp]))
  clear hr hs hA hvb
  go_enter Try.func130, Try.ntmps130
  go_wp2_with fail
  have HA0 : Hid (((w.alloc (.cells #[.int .i64 0, .int .i64 0, .int .i64 0] 191)).alloc (.cells #[.int .i64 0, .int .i64 0, .int .i64 0] 191)).rowIs w.heap.size 191 3 (fun j => .int .i64 (if j < 0 then jA (fun i => al.getD i 0) l j else 0))) := Lib.hid (World.rowIs.alloc (row3 w _) _)
  have HA1 : Hid (((w.alloc (.cells #[.int .i64 0, .int .i64 0, .int .i64 0] 191)).alloc (.cells #[.int .i64 0, .int .i64 0, .int .i64 0] 191)).rowIs (w.heap.size + 1) 191 3 (fun j => .int .i64 (if j < 0 then jF (fun i => f (oo + i)) l j else 0))) := Lib.hid (by have := row3 (w.alloc (.cells #[.int .i64 0, .int .i64 0, .int .i64 0] 191)) (jF (fun i => f (oo + i)) l); rwa [show (w.alloc (.cells #[.int .i64 0, .int .i64 0, .int .i64 0] 191)).heap.size = w.heap.size + 1 by simp] at this)
  have HB0 := Lib.hid (bAlloc (bAlloc (Below.refl w.heap.size w) (.cells #[.int .i64 0, .int .i64 0, .int .i64 0] 191)) (.cells #[.int .i64 0, .int .i64 0, .int .i64 0] 191))
  have HSZ : Hid (w.heap.size + 1 < ((w.alloc (.cells #[.int .i64 0, .int .i64 0, .int .i64 0] 191)).alloc (.cells #[.int .i64 0, .int .i64 0, .int .i64 0] 191)).heap.size) := Lib.hid (by simp)
  generalize World.alloc (World.alloc w _) _ = W2 at *
  obtain ⟨a1, ha1⟩ : ∃ a1, w.heap.size + 1 = a1 := ⟨_, rfl⟩
  obtain ⟨a0, ha0⟩ : ∃ a0, w.heap.size = a0 := ⟨_, rfl⟩
  rw [ha1] at HA1 HSZ ⊢
  rw [ha0] at HA0 HB0 ⊢
  have HA01 : Hid (a0 ≠ a1 ∧ a0 ≤ a1) := Lib.hid (by omega)
  have HA1S : Hid (w.heap.size ≤ a1) := Lib.hid (by omega)
  have HWB : Hid (wb < a0) := Lib.hid (by rw [← ha0]; exact HR0.out.lt)
  have HBW : Hid (∀ W, Below a0 w W → Below w.heap.size w W) := Lib.hid (fun W h => by rw [ha0]; exact h)
  clear ha1 ha0
  go_loopw [16] (fun i wr => ∃ k : Nat, k ≤ l.length ∧ i = .int .i64 k ∧ Hid (wr.rowIs a0 191 3 (fun j => .int .i64 (if j < k then jA (fun i => al.getD i 0) l j else 0))) ∧ Hid (wr.rowIs a1 191 3 (fun j => .int .i64 (if j < k then jF (fun i => f (oo + i)) l j else 0))) ∧ Hid (Below a0 w wr)) (fun i _ => l.length - (intOf i).toNat)
  case atStart => exact ⟨0, Nat.zero_le _, rfl, HA0, HA1, HB0⟩
  case round =>
    obtain ⟨k, hk, rfl, HRA, HRF, HB⟩ := hrel
    by_cases hlt : k < l.length
    · obtain ⟨b, o, rfl, hf⟩ := (HV.out.keep SideAt.stable (HBW.out _ HB.out)).at (by intro h; simp [h] at hlt)
      obtain ⟨k0, k1⟩ := hf k hlt
      have hkb := cell_lt k0
      have hs := HS.out k hlt
      have EA : jA (fun i => al.getD i 0) l k = al.getD l[k].1 0 := by unfold jA; rw [gP hlt]
      have EF : jF (fun i => f (oo + i)) l k = f (oo + (l[k].1 * 2 + l[k].2)) := by unfold jF; rw [gP hlt]
      rw [gP hlt] at hs
      clear hf
      generalize l[k] = x at *
      obtain ⟨s, d⟩ := x
      simp only at k0 k1 hs EA EF
      obtain ⟨hs1, hd⟩ := hs
      have hn0 := HA.out.len
      obtain ⟨b2, o2, rfl, hf2⟩ := (HA.out.keep IntAt.stable (HBW.out _ HB.out)).at (by intro h; simp [h] at hn0; omega)
      have j0 := hf2 s (by omega)
      unfold IntAt at j0
      rw [Nat.mul_one, ← gI] at j0
      rw [← EA] at j0
      have hjb := cell_lt j0
      have HRW := Lib.hid (HR0.out.of_block (HB.out.block _ HWB.out))
      have x0 := HRW.out.cell (i := oo + s * 2 + d) (by omega)
      rw [show oo + s * 2 + d = oo + (s * 2 + d) by omega] at x0
      simp only [← EF] at x0
      have hwb := HRW.out.lt
      have hsn : (s : Int) < (n : Int) := by omega
      have hkk : (k : Int) < (l.length : Int) := by omega
      have hk3 : (k : Int) < 3 := by have := HL3.out; omega
      have HEA := Lib.hid EA
      have HEF := Lib.hid EF
      clear hf2 EA EF hn0
      obtain ⟨av, hav⟩ : ∃ x, jA (fun i => al.getD i 0) l k = x := ⟨_, rfl⟩
      obtain ⟨fv, hfv⟩ : ∃ x, jF (fun i => f (oo + i)) l k = x := ⟨_, rfl⟩
      rw [hav] at j0
      rw [hfv] at x0
      have HAV := Lib.hid hav
      have HFV := Lib.hid hfv
      have hb3 := bAlloc (Below.refl wr.heap.size wr) (.cells #[.int .i64 (s : Int), .int .i64 (d : Int)] 160)
      have J0 := Lib.hid (keep hb3 j0)
      have X0 := Lib.hid (keep hb3 x0)
      have C0 : Hid ((wr.alloc (.cells #[.int .i64 (s : Int), .int .i64 (d : Int)] 160)).cell? ⟨wr.heap.size, 0, none⟩ = some (.int .i64 (s : Int))) := Lib.hid (cell_new rfl)
      have C1 : Hid ((wr.alloc (.cells #[.int .i64 (s : Int), .int .i64 (d : Int)] 160)).cell? ⟨wr.heap.size, 1, none⟩ = some (.int .i64 (d : Int))) := Lib.hid (cell_new rfl)
      have HRA3 := Lib.hid (HRA.out.alloc (.cells #[.int .i64 (s : Int), .int .i64 (d : Int)] 160))
      have HRF3 := Lib.hid (HRF.out.alloc (.cells #[.int .i64 (s : Int), .int .i64 (d : Int)] 160))
      have HB3 := Lib.hid (bAlloc' HB.out (Nat.le_of_lt (Nat.lt_of_le_of_lt HA01.out.2 HRF.out.lt)) (.cells #[.int .i64 (s : Int), .int .i64 (d : Int)] 160))
      clear hb3 j0 x0 hav hfv
      go_wp2_with fail
      generalize World.alloc wr _ = W3 at *
      obtain ⟨bx, hbx⟩ : ∃ bx, wr.heap.size = bx := ⟨_, rfl⟩
      rw [hbx] at C0 C1 ⊢
      clear hbx HRA HRF HB k0 k1 hkb hjb hwb
      have j0 := J0.out
      have x0 := X0.out
      have c0 := C0.out
      have c1 := C1.out
      have z0 := HRA3.out.frozen k
      have z1 := HRF3.out.frozen k
      have y0 := HRA3.out.cell (i := k) (by omega)
      have y1 := HRF3.out.cell (i := k) (by omega)
      rw [if_neg (Nat.lt_irrefl k)] at y0 y1
      have g0 := HRA3.out.lt
      have g1 := HRF3.out.lt
      have e1 := cell_lt c0
      have e2 := cell_lt j0
      have e3 := cell_lt x0
      have hne := HA01.out.1
      have HR4 := Lib.hid (rowSet2 HRA3.out HRF3.out hne k k (.int .i64 av) (.int .i64 fv))
      have HB4 : Hid (Below a0 w ((W3.setCell ⟨a0, k, none⟩ (.int .i64 av)).setCell ⟨a1, k, none⟩ (.int .i64 fv)).drew) := Lib.hid (((HB3.out.setCell (p := ⟨a0, k, none⟩) (Nat.le_refl _) _).setCell (p := ⟨a1, k, none⟩) HA01.out.2 _).drew)
      rcases (show d = 0 ∨ d = 1 by omega) with rfl | rfl
      · rw [Nat.add_zero] at x0
        go_region
        go_wp2_with fail
        go_roundw
        case rel =>
          refine ⟨k + 1, by omega, by go_num, Lib.hid ((HR4.out.1).congr fun j _ => ?_), Lib.hid ((HR4.out.2).congr fun j _ => ?_), HB4⟩
          · by_cases hj : j = k
            · subst hj; rw [if_pos rfl, if_pos (by omega), HAV.out]
            · rw [if_neg hj]
              by_cases hj2 : j < k
              · rw [if_pos hj2, if_pos (by omega)]
              · rw [if_neg hj2, if_neg (by omega)]
          · by_cases hj : j = k
            · subst hj; rw [if_pos rfl, if_pos (by omega), HFV.out]
            · rw [if_neg hj]
              by_cases hj2 : j < k
              · rw [if_pos hj2, if_pos (by omega)]
              · rw [if_neg hj2, if_neg (by omega)]
        case measure => simp [intOf]; omega
      · rw [← Nat.add_assoc] at x0
        go_region
        go_wp2_with fail
        go_roundw
        case rel =>
          refine ⟨k + 1, by omega, by go_num, Lib.hid ((HR4.out.1).congr fun j _ => ?_), Lib.hid ((HR4.out.2).congr fun j _ => ?_), HB4⟩
          · by_cases hj : j = k
            · subst hj; rw [if_pos rfl, if_pos (by omega), HAV.out]
            · rw [if_neg hj]
              by_cases hj2 : j < k
              · rw [if_pos hj2, if_pos (by omega)]
              · rw [if_neg hj2, if_neg (by omega)]
          · by_cases hj : j = k
            · subst hj; rw [if_pos rfl, if_pos (by omega), HFV.out]
            · rw [if_neg hj]
              by_cases hj2 : j < k
              · rw [if_pos hj2, if_pos (by omega)]
              · rw [if_neg hj2, if_neg (by omega)]
        case measure => simp [intOf]; omega
    · obtain rfl : k = l.length := by omega
      have HWL : Hid (∀ j, j < l.length → ((List.range l.length).map (jA (fun i => al.getD i 0) l)).getD j 0 = jA (fun i => al.getD i 0) l j) := Lib.hid (fun j hj => by rw [gI (by simp; exact hj)]; simp)
      have HSL : Hid (SliceV wr (.slice (some ⟨a0, 0, none⟩) l.length 3) 1 IntAt ((List.range l.length).map (jA (fun i => al.getD i 0) l))) := Lib.hid (by
        refine ⟨_, 3, by simp, ⟨by simp; unfold most; omega, by simp; omega⟩, .inr ⟨a0, 0, rfl, fun i hi => ?_⟩⟩
        simp only [List.length_map, List.length_range] at hi
        have := HRA.out.cell (i := i) (by omega)
        rw [if_pos hi] at this
        unfold IntAt
        simpa using this)
      have HROW : Hid (wr.rowIs a1 191 3 (fun j => if j < ((List.range l.length).map (jA (fun i => al.getD i 0) l)).length then .int .i64 (jF (fun i => f (oo + i)) l j) else .int .i64 0)) := Lib.hid (HRF.out.congr fun j _ => by
        simp only [List.length_map, List.length_range]
        by_cases hj : j < l.length <;> simp [hj])
      have HSC := Lib.hid (fun (W : World) (hB : Below wr.heap.size wr W) => scatter_any 191 ((List.range l.length).map (jA (fun i => al.getD i 0) l)) a1 3 3 _ (jF (fun i => f (oo + i)) l) (fun _ => .int .i64 0) W (HSL.out.keep IntAt.stable hB) (by simp; exact HL1.out) (by simp; have := HL3.out; omega) (fun j hj => by
        simp only [List.length_map, List.length_range] at hj
        rw [HWL.out j hj]
        exact HAR.out _ (HS.out j hj).1) (by simp; exact HL3.out) (HROW.out.of_block (hB.block _ HROW.out.lt)))
      simp only [List.length_map, List.length_range] at HSC
      have HV0 : Hid (∀ j, j < l.length → sct (fun i => ((List.range l.length).map (jA (fun i => al.getD i 0) l)).getD i 0) (jF (fun i => f (oo + i)) l) l.length j = sct (jA (fun i => al.getD i 0) l) (jF (fun i => f (oo + i)) l) l.length j) := Lib.hid (fun j hj => sct_congr HWL.out (fun _ _ => rfl) hj)
      obtain ⟨V0, hV0⟩ : ∃ V0, sct (fun i => ((List.range l.length).map (jA (fun i => al.getD i 0) l)).getD i 0) (jF (fun i => f (oo + i)) l) l.length = V0 := ⟨_, rfl⟩
      obtain ⟨V, hV⟩ : ∃ V, sct (jA (fun i => al.getD i 0) l) (jF (fun i => f (oo + i)) l) l.length = V := ⟨_, rfl⟩
      rw [hV0] at HSC HV0
      rw [hV] at HV0
      have HVE := Lib.hid hV
      clear hV0 hV
      have HRW := Lib.hid (HR0.out.of_block (HB.out.block _ HWB.out))
      have HGB : Hid (w.grownBy wr (some wb)) := Lib.hid (gb_below (HBW.out _ HB.out) _)
      have HSZ2 : Hid (a1 < wr.heap.size) := Lib.hid HRF.out.lt
      clear HWL HSL HROW HRA HRF
      have hl33 : (l.length : Int) ≤ 3 := by omega
      have hl30 : (0 : Int) ≤ (l.length : Int) := by omega
      have hl34 : l.length ≤ 3 := by omega
      go_wp2_with fail
      go_region_held3 (fun _ => True) (trivial) (first
        | (go_at_call 58; with_reducible refine Calls.mono (HSC.out _ (Below.drew (Below.refl _ _))) ?_; rintro e w1 ⟨⟨r, rfl⟩, hr1, hg1⟩; have HR1 := Lib.hid hr1; have HG1 := Lib.hid hg1; clear hr1 hg1))
      all_goals
        have HB1 : Hid (Below w.heap.size w w1) := Lib.hid (((HBW.out _ HB.out).drew).trans (gb_low HG1.out (Nat.le_trans (Nat.le_of_eq rfl) (HBW.out _ HB.out).size) HA1S.out))
        have HRW1 := Lib.hid (HR0.out.of_block (HB1.out.block _ HR0.out.lt))
        have HV1 := Lib.hid (HV.out.keep SideAt.stable HB1.out)
        clear HG1 HRW HSC HGB
        go_wp2_with fail
        go_loopw [48] (fun i wr => ∃ k : Nat, k ≤ l.length ∧ i = .int .i64 k ∧ Hid (wr.rowIs wb 137 N (fun j => .int .i64 (jPut V0 l on k f j))) ∧ Hid (w1.grownBy wr (some wb))) (fun i _ => l.length - (intOf i).toNat)
        case atStart => exact ⟨0, Nat.zero_le _, rfl, HRW1, Lib.hid (gb_refl _ _)⟩
        case round =>
          clear HB
          obtain ⟨k, hk, rfl, HR, HG⟩ := hrel
          by_cases hlt : k < l.length
          · obtain ⟨b, o, hba, hf⟩ := HV1.out.at (by intro h; simp [h] at hlt)
            have hbw := HVB.out _ hba
            subst hba
            obtain ⟨k0, k1⟩ := hf k hlt
            replace k0 := gb_cell HG.out k0 hbw
            replace k1 := gb_cell HG.out k1 hbw
            have hkb := cell_lt k0
            have hs := HS.out k hlt
            have HJ : Hid (jPut V0 l on (k + 1) f = upd (jPut V0 l on k f) (on + l[k].1 * 2 + (1 - l[k].2)) (V0 k)) := Lib.hid (by show upd _ _ _ = _; rw [gP hlt])
            rw [gP hlt] at hs
            clear hf
            generalize l[k] = x at *
            obtain ⟨s, d⟩ := x
            simp only at k0 k1 hs HJ
            obtain ⟨hs1, hd⟩ := hs
            have hne : a1 ≠ wb := by have := HWB.out; have := HA01.out.2; omega
            have HRV := Lib.hid (HR1.out.of_block (HG.out.block _ HR1.out.lt (fun e => hne (by cases e; rfl))))
            have y1 := HRV.out.cell (i := k) (by omega)
            rw [if_pos hlt] at y1
            obtain ⟨vv, hvv⟩ : ∃ vv, V0 k = vv := ⟨_, rfl⟩
            rw [hvv] at y1 HJ
            clear hvv
            have hsn : (s : Int) < (n : Int) := by omega
            have hkk : (k : Int) < (l.length : Int) := by omega
            have hk3 : (k : Int) < 3 := by omega
            have hb3 := bAlloc (Below.refl wr.heap.size wr) (.cells #[.int .i64 (s : Int), .int .i64 (d : Int)] 160)
            have Y1 := Lib.hid (keep hb3 y1)
            have C0 : Hid ((wr.alloc (.cells #[.int .i64 (s : Int), .int .i64 (d : Int)] 160)).cell? ⟨wr.heap.size, 0, none⟩ = some (.int .i64 (s : Int))) := Lib.hid (cell_new rfl)
            have C1 : Hid ((wr.alloc (.cells #[.int .i64 (s : Int), .int .i64 (d : Int)] 160)).cell? ⟨wr.heap.size, 1, none⟩ = some (.int .i64 (d : Int))) := Lib.hid (cell_new rfl)
            have HR3 := Lib.hid (HR.out.alloc (.cells #[.int .i64 (s : Int), .int .i64 (d : Int)] 160))
            have HG3 := Lib.hid (gb_trans HG.out (gb_below (bAlloc (Below.refl wr.heap.size wr) (.cells #[.int .i64 (s : Int), .int .i64 (d : Int)] 160)) (some wb)))
            clear hb3 y1
            go_wp2_with fail
            generalize World.alloc wr _ = W3 at *
            obtain ⟨bx, hbx⟩ : ∃ bx, wr.heap.size = bx := ⟨_, rfl⟩
            rw [hbx] at C0 C1 ⊢
            clear hbx HR HG k0 k1 hkb HRV
            have y1 := Y1.out
            have c0 := C0.out
            have c1 := C1.out
            have hgl := HR3.out.lt
            have hcl := cell_lt c0
            have g1 := cell_lt y1
            rcases (show d = 0 ∨ d = 1 by omega) with rfl | rfl
            · have HBK : Hid (∀ x : BW W3, Calls Try.prog 128 #[.int .i64 0] x.val fun e w' => e = .returned (.int .i64 1) ∧ x.val = w') := Lib.hid (fun x => back_any 0 x.val (.inl rfl))
              refine wp_opaque fun Q2 hQ2 => ?_
              (refine region_below_tail 11 (by kernel_rfl) (by kernel_rfl) ?_; (simp only [List.take_succ_cons, List.take_zero, List.drop_succ_cons, List.drop_zero]); (repeat (first | go_big_quiet_step ((with_reducible exact toX HBK.out _)) | quiet_step ((with_reducible exact toX HBK.out _)))); (refine wpQuiet_nil ?_; intro _ hw'; obtain ⟨xq, hw''⟩ := hw'; subst hw''))
              have HR5 := Lib.hid (HR3.out.of_block (xq.2.block _ hgl))
              have z0 := HR5.out.frozen (on + s * 2 + 1)
              have z1 := HR5.out.cell (i := on + s * 2 + 1) (by omega)
              have z2 := HR5.out.lt
              have HG5 := Lib.hid (gb_trans HG3.out (gb_below xq.2 (some wb)))
              go_wp2_with fail
              go_roundw
              case rel => exact ⟨k + 1, by omega, by go_num, by rw [HJ.out]; exact Lib.hid (row_upd HR5.out _ _), Lib.hid (gb_trans HG5.out (gb_set _ _ _ _))⟩
              case measure => simp [intOf]; omega
            · have HBK : Hid (∀ x : BW W3, Calls Try.prog 128 #[.int .i64 1] x.val fun e w' => e = .returned (.int .i64 0) ∧ x.val = w') := Lib.hid (fun x => back_any 1 x.val (.inr rfl))
              refine wp_opaque fun Q2 hQ2 => ?_
              (refine region_below_tail 11 (by kernel_rfl) (by kernel_rfl) ?_; (simp only [List.take_succ_cons, List.take_zero, List.drop_succ_cons, List.drop_zero]); (repeat (first | go_big_quiet_step ((with_reducible exact toX HBK.out _)) | quiet_step ((with_reducible exact toX HBK.out _)))); (refine wpQuiet_nil ?_; intro _ hw'; obtain ⟨xq, hw''⟩ := hw'; subst hw''))
              have HR5 := Lib.hid (HR3.out.of_block (xq.2.block _ hgl))
              have z0 := HR5.out.frozen (on + s * 2)
              have z1 := HR5.out.cell (i := on + s * 2) (by omega)
              have z2 := HR5.out.lt
              have HG5 := Lib.hid (gb_trans HG3.out (gb_below xq.2 (some wb)))
              go_wp2_with fail
              go_roundw
              case rel => exact ⟨k + 1, by omega, by go_num, by rw [HJ.out]; exact Lib.hid (row_upd HR5.out _ _), Lib.hid (gb_trans HG5.out (gb_set _ _ _ _))⟩
              case measure => simp [intOf]; omega
          · obtain rfl : k = l.length := by omega
            go_wp2_with fail
            go_end0
            refine ⟨⟨_, rfl⟩, HR.out.congr fun j _ => ?_, gb_trans (gb_below HB1.out (some wb)) HG.out⟩
            rw [HVE.out, jPut_congr l on l.length f HV0.out]
end Go.Proofs.Ytbmbcbknoflpgaa
