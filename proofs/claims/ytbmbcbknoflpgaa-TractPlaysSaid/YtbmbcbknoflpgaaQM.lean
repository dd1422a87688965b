/- Contracts: change: the areas of a tube are changed. Contracts: Change. Maths: changed areas do not raise the energy. -/
import Derived.Test.YtbmbcbknoflpgaaMP
set_option linter.unusedSimpArgs false
set_option linter.unusedVariables false
namespace Go.Proofs.Ytbmbcbknoflpgaa
open Go.RowKit

/-- A wave whose area grows is made smaller. -/
def chW (a c x : Int) : Int := if c ≤ a then x else (wrap64 (x * a)).tdiv c
/-- The state when the first k sections are changed. -/
def chF (al cl : List Int) (o k : Nat) (f : Nat → Int) : Nat → Int := fun q => if o ≤ q ∧ q < o + 2 * k then chW (al.getD ((q - o) / 2) 0) (cl.getD ((q - o) / 2) 0) (f q) else f q
theorem chF_zero (al cl : List Int) (o : Nat) (f : Nat → Int) : chF al cl o 0 f = f := by funext q; unfold chF; rw [if_neg (by omega)]
theorem chF_at (al cl : List Int) (o k : Nat) (f : Nat → Int) (d : Nat) (hd : d < 2) : chF al cl o k f (o + k * 2 + d) = f (o + k * 2 + d) := by unfold chF; rw [if_neg (by omega)]
theorem chF_succ (al cl : List Int) (o k : Nat) (f : Nat → Int) : chF al cl o (k + 1) f = upd (upd (chF al cl o k f) (o + k * 2) (chW (al.getD k 0) (cl.getD k 0) (f (o + k * 2)))) (o + k * 2 + 1) (chW (al.getD k 0) (cl.getD k 0) (f (o + k * 2 + 1))) := by
  funext q
  unfold upd
  by_cases e1 : q = o + k * 2 + 1
  · subst e1
    rw [if_pos rfl]
    unfold chF
    rw [if_pos (by omega), show (o + k * 2 + 1 - o) / 2 = k by omega]
  · rw [if_neg e1]
    by_cases e2 : q = o + k * 2
    · subst e2
      rw [if_pos rfl]
      unfold chF
      rw [if_pos (by omega), show (o + k * 2 - o) / 2 = k by omega]
    · rw [if_neg e2]
      unfold chF
      by_cases e3 : o ≤ q ∧ q < o + 2 * k
      · rw [if_pos e3, if_pos (by omega)]
      · rw [if_neg e3, if_neg (by omega)]
theorem chF_same {al cl : List Int} {o k : Nat} {f : Nat → Int} (h : cl.getD k 0 ≤ al.getD k 0) : chF al cl o (k + 1) f = chF al cl o k f := by
  rw [chF_succ]
  unfold chW
  rw [if_pos h, if_pos h]
  funext q
  unfold upd
  by_cases e1 : q = o + k * 2 + 1
  · subst e1; rw [if_pos rfl]; exact (chF_at al cl o k f 1 (by omega)).symm
  · rw [if_neg e1]
    by_cases e2 : q = o + k * 2
    · subst e2; rw [if_pos rfl]; exact (chF_at al cl o k f 0 (by omega)).symm
    · rw [if_neg e2]
theorem int_at2 {W w : World} {v : Value} {l : List Int} {k : Nat} (h : SliceV w v 1 IntAt l) (hB : Below w.heap.size w W) (hk : k < l.length) : ∃ b o c, v = .slice (some ⟨b, o, none⟩) l.length c ∧ W.cell? ⟨b, o + k, none⟩ = some (.int .i64 (l.getD k 0)) ∧ b < W.heap.size := by
  have h1 := h.keep IntAt.stable hB
  obtain ⟨a, c, rfl, -⟩ := id h
  obtain ⟨b, o, rfl, hx⟩ := h1.at (by intro e; rw [e] at hk; simp at hk)
  have h2 := hx k hk
  unfold IntAt at h2
  rw [Nat.mul_one, ← gI hk] at h2
  exact ⟨b, o, c, rfl, h2, cell_lt h2⟩
/-- A tube's areas are laid anew. -/
theorem TubeIs.areas {base tb main steps wb : Nat} {W : World} {al cl : List Int} {ps : List Plc} {f : Nat → Int} (h : TubeIs base W tb al main ps steps wb f) {v : Value} (ho : W.ownsRow base 3 1 v cl.length (intV cl)) (hl : cl.length = al.length) : TubeIs base (W.setCell ⟨tb, 0, none⟩ v) tb cl main ps steps wb f := by
  have hne := h.ne
  obtain ⟨l, ⟨av, pv, xs, k, b1, b2, b3, b4⟩, b5⟩ := h
  have hg := gb_set W tb 0 v
  have own : ∀ {base e size k : Nat} {u : Value} {xs : List Value}, W.ownsRow base e size u k xs → 97 ≠ e → (W.setCell ⟨tb, 0, none⟩ v).ownsRow base e size u k xs := fun ho hn => ho.kept hg (.inr (own_ne ho b1 (fun cs e => by cases e; exact hn rfl)))
  refine ⟨l, ⟨v, pv, xs, k, ?_, own ho (by decide), own b3 (by decide), b4.map fun x p hx => ?_⟩, ?_⟩
  · have := heap_setCell_same W tb 0 _ _ v b1
    rw [hl]
    simpa using this
  · cases p with
    | fin s d q => exact hx
    | jnt l => obtain ⟨u, hu, hr⟩ := hx; exact ⟨u, hu, own hr (by decide)⟩
  · rw [hl]
    exact b5.of_block (Below.heap_setCell _ _ _ _ (fun e => hne e.symm))
/-- The cells of a tube's box, and where its areas are not. -/
theorem TubeIs.cells2 {base tb main steps wb : Nat} {w : World} {al : List Int} {ps : List Plc} {f : Nat → Int} (h : TubeIs base w tb al main ps steps wb f) (hal : al.length ≤ 1000) :
    ∃ (av : Option Addr) (ac : Nat) (pv : Value), TubeAt w tb av al.length ac main pv wb steps ∧ SliceV w (.slice av al.length ac) 1 IntAt al ∧ (∀ p, av = some p → p.block ≠ wb) ∧ w.frozen? ⟨tb, 0, none⟩ = false := by
  obtain ⟨l, ⟨av, pv, xs, k, b1, b2, b3, b4⟩, b5⟩ := h
  obtain ⟨ad, cap, rfl⟩ := ownsRow_slice b2
  refine ⟨ad, cap, pv, ⟨?_, ?_, ?_, ?_, ?_⟩, own_slice b2 (by omega), fun p hp => own_ne_row b2 b5 (by decide) p _ _ (by rw [hp]), frozen_heap b1⟩
  · have := cell_of_heap b1 (show 0 < 5 by omega); simpa using this
  · have := cell_of_heap b1 (show 1 < 5 by omega); simpa using this
  · have := cell_of_heap b1 (show 2 < 5 by omega); simpa using this
  · have := cell_of_heap b1 (show 3 < 5 by omega); simpa using this
  · have := cell_of_heap b1 (show 4 < 5 by omega); simpa using this
set_option maxRecDepth 10000 in
set_option maxHeartbeats 4000000 in
theorem change_any {base tb main st wb : Nat} {w : World} {al : List Int} {ps : List Plc} {f : Nat → Int} (h : TubeIs base w tb al main ps st wb f) (hm : 1 ≤ al.length) (hn : al.length ≤ 48) (hst : st ≤ 100000) (l1 l2 : List Int) (va vb : Value) (ha : SliceV w va 1 IntAt l1) (hb : SliceV w vb 1 IntAt l2) (hl : l1.length + l2.length = al.length) (hc : ∀ j, j < al.length → 1 ≤ (l1 ++ l2).getD j 0) :
    Calls Try.prog 64 #[.pointer (some ⟨tb, 0, none⟩), va, vb] w fun e w' => (∃ v, e = .returned v) ∧ TubeIs base w' tb (l1 ++ l2) main ps st wb (chF al (l1 ++ l2) (offO al.length st) al.length f) ∧ Kept w w' wb tb := by
  obtain ⟨av, ac, pv, ht, hav, hnw, -⟩ := h.cells2 (by omega)
  have hcat : cat [l1, l2] [l1, l2].length = l1 ++ l2 := by simp [cat]
  have hcl : (l1 ++ l2).length = al.length := by rw [List.length_append]; exact hl
  have HSA := Lib.hid (fun x : BW w => state_any (ht.keep x.2) (by omega) (by omega) (st % 2) rfl (by omega))
  have HCC := Lib.hid (fun (W : World) (hB : Below w.heap.size w W) (p : Nat) (h0 : W.cell? ⟨p, 0, none⟩ = some va) (h1 : W.cell? ⟨p, 1, none⟩ = some vb) => Concat_any [l1, l2] (.slice (some ⟨p, 0, none⟩) 2 2) W ⟨_, 2, rfl, ⟨by simp [most], by simp⟩, .inr ⟨p, 0, rfl, fun i hi => by
    rcases (show i = 0 ∨ i = 1 by simp at hi; omega) with rfl | rfl
    · exact ⟨va, h0, ha.keep IntAt.stable hB⟩
    · exact ⟨vb, h1, hb.keep IntAt.stable hB⟩⟩⟩ (by rw [hcat, hcl]; exact hm) (by rw [hcat, hcl]; omega))
  simp only [hcat, hcl] at HCC
  obtain ⟨cl, hcle⟩ : ∃ cl, l1 ++ l2 = cl := ⟨_, rfl⟩
  rw [hcle] at HCC hc hcl ⊢
  have HCL := Lib.hid hcl
  have HC := Lib.hid hc
  have HT := Lib.hid h
  obtain ⟨o, ho⟩ : ∃ o, st % 2 * al.length * 2 = o := ⟨_, rfl⟩
  have HO : Hid (offO al.length st = o ∧ o + 2 * al.length ≤ 4 * al.length) := Lib.hid ⟨ho, by rcases (show st % 2 = 0 ∨ st % 2 = 1 by omega) with e | e <;> rw [e] at ho <;> omega⟩
  rw [ho] at HSA
  rw [HO.out.1]
  have HAV := Lib.hid hav
  obtain ⟨a1, c1, rfl, -⟩ := ha
  obtain ⟨a2, c2, rfl, -⟩ := hb
  have HLT : Hid (tb < w.heap.size ∧ wb < w.heap.size) := Lib.hid ⟨cell_lt ht.steps, h.3.lt⟩
  have hta := ht
  clear h ht hav hcat hcle ho hc hl hcl
  go_enter Try.func64, Try.ntmps64
  have HNW := Lib.hid hnw
  have HTA := Lib.hid hta
  clear hnw hta
  have HNE : Hid (cl ≠ []) := Lib.hid (by intro e; have := HCL.out; rw [e] at this; simp at this; omega)
  go_wp2_with (first
    | (go_at_call 83; with_reducible refine Calls.mono (HSA.out ⟨w, Below.refl _ _⟩) ?_; rintro e w2 ⟨rfl, rfl⟩)
    | (go_at_call 88; with_reducible refine Calls.mono (HCC.out _ (bAlloc (Below.refl _ _) _) w.heap.size (cell_new rfl) (cell_new rfl)) ?_; rintro e w3 ⟨⟨r, rfl, ho⟩, hb3⟩; have HO3 := Lib.hid ho; have HB3 := Lib.hid (bThen (bAlloc (Below.refl w.heap.size w) _) hb3); have c0 := keep HB3.out HTA.out.areas; have cl0 := cell_lt c0; clear ho hb3))
  obtain ⟨g, cap, z, rfl, hg, hcap, hrow⟩ := own_rowR (l := cl) (by rw [HCL.out]; exact HO3.out) HNE.out
  rw [HCL.out] at hcap hrow
  have HRW := Lib.hid hrow
  have hT3 := HT.out.below HB3.out
  have HT3 := Lib.hid hT3
  have HGW : Hid (g ≠ wb) := Lib.hid (by obtain ⟨cur, hh, -⟩ := hrow; exact box_ne hh hT3.3 (by decide))
  have HGT : Hid (tb ≠ wb) := Lib.hid hT3.ne
  have HCAP := Lib.hid hcap
  have HR0 : Hid (w3.rowIs wb 137 (4 * al.length) (fun j => .int .i64 (chF al cl o 0 f j))) := Lib.hid (by rw [chF_zero]; exact hT3.3)
  rw [HCL.out] at HO3 ⊢
  clear hrow hT3 hcap hg c0 cl0 HCC HSA
  go_loopw [24] (fun i wr => ∃ k : Nat, k ≤ al.length ∧ i = .int .i64 k ∧ Hid (wr.rowIs wb 137 (4 * al.length) (fun j => .int .i64 (chF al cl o k f j))) ∧ Hid (w3.grownBy wr (some wb))) (fun i _ => al.length - (intOf i).toNat)
  case atStart => exact ⟨0, Nat.zero_le _, rfl, HR0, Lib.hid (gb_refl _ _)⟩
  case round =>
    clear HR0
    obtain ⟨k, hk, rfl, HR, HG⟩ := hrel
    by_cases hlt : k < al.length
    · have hkk : (k : Int) < (al.length : Int) := by omega
      have hkn : (k : Int) < (cl.length : Int) := by have := HCL.out; omega
      obtain ⟨b2, o2, c2', e2, p2, q2⟩ := int_at2 HAV.out HB3.out hlt
      obtain ⟨rfl, -, rfl⟩ := Value.slice.inj e2
      replace p2 := gb_cell HG.out p2 (HNW.out _ rfl)
      have p3 := cell_lt p2
      have k0 := HRW.out.cell (i := k) (by have := HCAP.out; omega)
      rw [if_pos hlt] at k0
      have K0 := Lib.hid k0
      replace k0 := gb_cell HG.out k0 HGW.out
      have k1 := cell_lt k0
      have hck := HC.out k hlt
      have x0 := HR.out.cell (i := o + k * 2) (by have := HO.out.2; omega)
      have x1 := HR.out.cell (i := o + k * 2 + 1) (by have := HO.out.2; omega)
      have x2 := HR.out.lt
      have a0 := chF_at al cl o k f 0 (by omega)
      have a1 := chF_at al cl o k f 1 (by omega)
      rw [Nat.add_zero] at a0
      rw [a0] at x0
      rw [a1] at x1
      have HSU := Lib.hid (chF_succ al cl o k f)
      have HSM := Lib.hid (@chF_same al cl o k f)
      obtain ⟨a, ha⟩ : ∃ a, al.getD k 0 = a := ⟨_, rfl⟩
      obtain ⟨c, hc⟩ : ∃ c, cl.getD k 0 = c := ⟨_, rfl⟩
      obtain ⟨x, hx⟩ : ∃ x, f (o + k * 2) = x := ⟨_, rfl⟩
      obtain ⟨y, hy⟩ : ∃ y, f (o + k * 2 + 1) = y := ⟨_, rfl⟩
      rw [ha] at p2 HSU HSM
      rw [hc] at k0 K0 hck HSU HSM
      rw [hx] at x0 HSU
      rw [hy] at x1 HSU
      clear e2 a0 a1 ha hc hx hy q2
      by_cases hca : c ≤ a
      · have HSE := Lib.hid (HSM.out hca)
        clear HSM HSU
        go_wp2_with fail
        go_roundw
        case rel => exact ⟨k + 1, by omega, by go_num, by rw [HSE.out]; exact HR, HG⟩
        case measure => simp [intOf]; omega
      · clear HSM
        unfold chW at HSU
        rw [if_neg hca, if_neg hca] at HSU
        obtain ⟨p, hp⟩ : ∃ p, wrap64 (x * a) = p := ⟨_, rfl⟩
        obtain ⟨q, hq⟩ : ∃ q, wrap64 (y * a) = q := ⟨_, rfl⟩
        have u1 : IntKind.i64.wrap (x * a) = p := by rw [IntWalk.i64_left]; exact hp
        have u2 : IntKind.i64.wrap (y * a) = q := by rw [IntWalk.i64_left]; exact hq
        have hpi := w64_in (x * a)
        have hqi := w64_in (y * a)
        rw [hp] at HSU hpi
        rw [hq] at HSU hqi
        have dv : ∀ t : Int, -9223372036854775808 ≤ t → t ≤ 9223372036854775807 → -9223372036854775808 ≤ t.tdiv c ∧ t.tdiv c ≤ 9223372036854775807 := fun t h1 h2 => by
          have h := tdiv_inS (x := t) (s := c) (c := 9223372036854775808) hck (by
            have := Int.mul_le_mul_of_nonneg_left hck (show (0 : Int) ≤ 9223372036854775808 by omega)
            omega) (by
            have := Int.mul_le_mul_of_nonneg_left hck (show (0 : Int) ≤ 9223372036854775808 by omega)
            omega)
          have h3 : t.tdiv c ≤ 9223372036854775807 := by
            by_cases h0 : 0 ≤ t
            · rw [Int.tdiv_eq_ediv_of_nonneg h0]
              exact Int.le_trans (Int.ediv_le_self _ h0) h2
            · have : (-t).tdiv c = -(t.tdiv c) := Int.neg_tdiv _ _
              have h5 : 0 ≤ (-t).tdiv c := by rw [Int.tdiv_eq_ediv_of_nonneg (by omega)]; exact Int.ediv_nonneg (by omega) (by omega)
              omega
          exact ⟨h.1, h3⟩
        have v1 := dv p hpi.1 hpi.2
        have v2 := dv q hqi.1 hqi.2
        obtain ⟨s1, hs1⟩ : ∃ s, p.tdiv c = s := ⟨_, rfl⟩
        obtain ⟨s2, hs2⟩ : ∃ s, q.tdiv c = s := ⟨_, rfl⟩
        rw [hs1] at v1 HSU
        rw [hs2] at v2 HSU
        have u3 : IntKind.i64.wrap (p.tdiv c) = s1 := by rw [hs1]; exact IntWalk.i64_in _ (by omega)
        have u4 : IntKind.i64.wrap (q.tdiv c) = s2 := by rw [hs2]; exact IntWalk.i64_in _ (by omega)
        have c1 : ¬ c = 0 := by omega
        have c2 : (c == 0) = false := by simp; omega
        have i0 : ∀ w, (Instr.index 137 (.agg #[.int .i64 x, .int .i64 y]) (.int .i64 0)).run Try.prog w = .ok (.int .i64 x) w := fun _ => by kernel_rfl
        have i1 : ∀ w, (Instr.index 137 (.agg #[.int .i64 x, .int .i64 y]) (.int .i64 1)).run Try.prog w = .ok (.int .i64 y) w := fun _ => by kernel_rfl
        clear hp hq hpi hqi dv v1 v2
        have HKN := Lib.hid hlt
        obtain ⟨D, hD0, hD1, hD2⟩ : ∃ D : Nat → Nat → Int, D 0 = chF al cl o k f ∧ D 1 = upd (chF al cl o k f) (o + k * 2) s1 ∧ D 2 = upd (upd (chF al cl o k f) (o + k * 2) s1) (o + k * 2 + 1) s2 := ⟨fun d => if d = 0 then chF al cl o k f else if d = 1 then upd (chF al cl o k f) (o + k * 2) s1 else upd (upd (chF al cl o k f) (o + k * 2) s1) (o + k * 2 + 1) s2, rfl, rfl, rfl⟩
        rw [← hD2] at HSU
        rw [← hD0] at HR hD1
        have HD1 := Lib.hid hD1
        have HD2 : Hid (D 2 = upd (D 1) (o + k * 2 + 1) s2) := Lib.hid (by rw [hD2, hD1, hD0])
        have HK2 := Lib.hid (And.intro hlt HO.out.2)
        clear hD0 hD1 hD2 hs1 hs2
        go_wp2_with fail
        clear x0 x1 x2 k0 k1 p2 p3
        go_loopw [39] (fun i wr => ∃ d : Nat, d ≤ 2 ∧ i = .int .i64 d ∧ Hid (wr.rowIs wb 137 (4 * al.length) (fun j => .int .i64 (D d j))) ∧ Hid (w3.grownBy wr (some wb))) (fun i _ => 2 - (intOf i).toNat)
        case atStart => exact ⟨0, by omega, rfl, HR, HG⟩
        case round =>
          clear HR HG
          obtain ⟨d, hd, rfl, HR, HG⟩ := hrel
          have k0 := gb_cell HG.out K0.out HGW.out
          have k1 := cell_lt k0
          obtain rfl | rfl | rfl : d = 0 ∨ d = 1 ∨ d = 2 := by omega
          · have x0 := HR.out.cell (i := o + k * 2) (by have := HK2.out; omega)
            have z0 := HR.out.frozen (o + k * 2)
            have x2 := HR.out.lt
            have HR5 : Hid (((wr.setCell ⟨wb, o + k * 2, none⟩ (.int .i64 s1)).drew).rowIs wb 137 (4 * al.length) (fun j => .int .i64 (D 1 j))) := Lib.hid (by rw [HD1.out]; exact (row_upd HR.out (o + k * 2) s1).drew)
            have HG5 : Hid (w3.grownBy ((wr.setCell ⟨wb, o + k * 2, none⟩ (.int .i64 s1)).drew) (some wb)) := Lib.hid (gb_trans HG.out (gb_trans (gb_set _ _ _ _) (gb_below (Below.drew (Below.refl _ _)) _)))
            generalize D 0 (o + k * 2) = xv at *
            go_wp2_with fail
            go_region
            go_wp2_with fail
            go_roundw
            case rel => exact ⟨1, by omega, by first | rfl | go_num, HR5, HG5⟩
            case measure => simp [intOf]
          · have x0 := HR.out.cell (i := o + k * 2 + 1) (by have := HK2.out; omega)
            have z0 := HR.out.frozen (o + k * 2 + 1)
            have x2 := HR.out.lt
            have HR5 : Hid (((wr.setCell ⟨wb, o + k * 2 + 1, none⟩ (.int .i64 s2)).drew).rowIs wb 137 (4 * al.length) (fun j => .int .i64 (D 2 j))) := Lib.hid (by rw [HD2.out]; exact (row_upd HR.out (o + k * 2 + 1) s2).drew)
            have HG5 : Hid (w3.grownBy ((wr.setCell ⟨wb, o + k * 2 + 1, none⟩ (.int .i64 s2)).drew) (some wb)) := Lib.hid (gb_trans HG.out (gb_trans (gb_set _ _ _ _) (gb_below (Below.drew (Below.refl _ _)) _)))
            generalize D 1 (o + k * 2 + 1) = xv at *
            go_wp2_with fail
            go_region
            go_wp2_with fail
            go_roundw
            case rel => exact ⟨2, by omega, by first | rfl | go_num, HR5, HG5⟩
            case measure => simp [intOf]
          · go_wp2_with fail
            go_roundw
            case rel => exact ⟨k + 1, by omega, by go_num, by rw [HSU.out]; exact HR, HG⟩
            case measure => simp [intOf]; omega
    · obtain rfl : k = al.length := by omega
      have HTW := Lib.hid (HT3.out.grown HG.out HR.out)
      have hfz := gb_cell HG.out (keep HB3.out HTA.out.areas) HGT.out
      have hfl := cell_lt hfz
      obtain ⟨_, _, _, _, _, _, hz0⟩ := HTW.out.cells2 (by omega)
      have HOW : Hid (wr.ownsRow base 3 1 (.slice (some ⟨g, 0, none⟩) cl.length cap) cl.length (intV cl)) := Lib.hid (by
        have h1 := own_kept HO3.out HT3.out.3 (by decide) HG.out
        rw [← HCL.out] at h1
        exact h1.mono (by have := HT.out.top; simp; omega))
      have HEND := Lib.hid (HTW.out.areas HOW.out HCL.out)
      have HKE : Hid (Kept w (wr.setCell ⟨tb, 0, none⟩ (.slice (some ⟨g, 0, none⟩) cl.length cap)) wb tb) := Lib.hid ((kept_of_grown (gb_trans (gb_below HB3.out _) HG.out)).set 0 _)
      rw [HCL.out] at HEND HKE
      go_wp2_with fail
      go_end0
      exact ⟨⟨_, rfl⟩, HEND.out, HKE.out⟩
end Go.Proofs.Ytbmbcbknoflpgaa
namespace Go.Proofs.Ytbmbcbknoflpgaa
open Go.RowKit

/-- Are these areas for a tube of so many sections? -/
def chgOk (n main : Nat) (l1 l2 : List Int) : Bool := decide (l1.length = main) && decide (l2.length = n - main) && arsOk l1 && arsOk l2
set_option maxRecDepth 10000 in
set_option maxHeartbeats 4000000 in
theorem Change_bad {base tb main st wb : Nat} {w : World} {al : List Int} {ps : List Plc} {f : Nat → Int} (h : TubeIs base w tb al main ps st wb f) (ok : TubeOk al main ps) (l1 l2 : List Int) (va vb : Value) (ha : SliceV w va 1 IntAt l1) (hb : SliceV w vb 1 IntAt l2) (hc : chgOk al.length main l1 l2 = false) :
    Calls Try.prog 27 #[.pointer (some ⟨tb, 0, none⟩), va, vb] w fun e w' => e = .returned (.int .i64 2) ∧ Below w.heap.size w w' := by
  obtain ⟨av, ac, pv, ht, hav, hnw, -⟩ := h.cells2 (by have := ok.n48; omega)
  have HN := Lib.hid (isNone_any tb main w ht.main)
  rw [decide_eq_false (by have := ok.m1; omega)] at HN
  have HA1 := Lib.hid (fun x : BW w => (areasRight_any l1 va x.val (ha.keep IntAt.stable x.2)).mono fun e w' ⟨a, b⟩ => (⟨a, by rw [← b]; exact Below.refl _ _⟩ : _ ∧ Below x.val.heap.size x.val w'))
  have HA2 := Lib.hid (fun x : BW w => (areasRight_any l2 vb x.val (hb.keep IntAt.stable x.2)).mono fun e w' ⟨a, b⟩ => (⟨a, by rw [← b]; exact Below.refl _ _⟩ : _ ∧ Below x.val.heap.size x.val w'))
  have c0 := ht.areas
  have c1 := ht.main
  have cl := cell_lt c0
  have hn := ok.n48
  have hm := ok.mn
  obtain ⟨a1, e1, rfl, hm1, -⟩ := ha
  obtain ⟨a2, e2, rfl, hm2, -⟩ := hb
  unfold most at hm1 hm2
  have u1 : IntKind.i64.wrap ((al.length : Int) - (main : Int)) = (al.length : Int) - main := IntWalk.i64_in _ (by omega)
  unfold chgOk at hc
  clear h ht hav hnw ok
  generalize l1.length = n1 at *
  generalize l2.length = n2 at *
  generalize al.length = n at *
  generalize arsOk l1 = q1 at *
  generalize arsOk l2 = q2 at *
  by_cases h1 : n1 = main
  · subst h1
    have g1 : ((n1 : Int) == (n1 : Int)) = true := by simp
    by_cases h2 : n2 = n - n1
    · have g2 : ((n2 : Int) == (n : Int) - (n1 : Int)) = true := by simp; omega
      have g3 : (n2 : Int) = (n : Int) - (n1 : Int) := by omega
      rw [decide_eq_true rfl, decide_eq_true h2] at hc
      cases q1
      · clear hc h2
        go_enter Try.func27, Try.ntmps27
        go_wp2_with (go_at_call 62; with_reducible refine Calls.mono HN.out ?_; rintro e w1 ⟨rfl, rfl⟩)
        refine wp_opaque fun Q2 hQ2 => ?_
        (refine wp_region_below (by kernel_rfl) (by kernel_rfl) ?_; (repeat (first | go_big_quiet_step ((first | (with_reducible exact toB HA1.out _) | (with_reducible exact toB HA2.out _))) | quiet_step ((first | (with_reducible exact toB HA1.out _) | (with_reducible exact toB HA2.out _))))); (refine wpQuiet_nil ?_; intro _ hw'; obtain ⟨xq, hw''⟩ := hw'; subst hw''))
        refine hQ2 _ _ _ ?_
        have HBX := Lib.hid xq.2
        generalize xq.val = W4 at *
        go_wp2_with fail
        all_goals first | (exfalso; omega) | skip
        go_ret
        exact ⟨rfl, HBX.out⟩
      · cases q2
        · clear hc h2
          go_enter Try.func27, Try.ntmps27
          go_wp2_with (go_at_call 62; with_reducible refine Calls.mono HN.out ?_; rintro e w1 ⟨rfl, rfl⟩)
          refine wp_opaque fun Q2 hQ2 => ?_
          (refine wp_region_below (by kernel_rfl) (by kernel_rfl) ?_; (repeat (first | go_big_quiet_step ((first | (with_reducible exact toB HA1.out _) | (with_reducible exact toB HA2.out _))) | quiet_step ((first | (with_reducible exact toB HA1.out _) | (with_reducible exact toB HA2.out _))))); (refine wpQuiet_nil ?_; intro _ hw'; obtain ⟨xq, hw''⟩ := hw'; subst hw''))
          refine hQ2 _ _ _ ?_
          have HBX := Lib.hid xq.2
          generalize xq.val = W4 at *
          go_wp2_with fail
          all_goals first | (exfalso; omega) | skip
          go_ret
          exact ⟨rfl, HBX.out⟩
        · simp at hc
    · have g2 : ((n2 : Int) == (n : Int) - (n1 : Int)) = false := by simp; omega
      have g3 : ¬ (n2 : Int) = (n : Int) - (n1 : Int) := by omega
      clear hc h2
      go_enter Try.func27, Try.ntmps27
      go_wp2_with (go_at_call 62; with_reducible refine Calls.mono HN.out ?_; rintro e w1 ⟨rfl, rfl⟩)
      refine wp_opaque fun Q2 hQ2 => ?_
      (refine wp_region_below (by kernel_rfl) (by kernel_rfl) ?_; (repeat (first | go_big_quiet_step ((first | (with_reducible exact toB HA1.out _) | (with_reducible exact toB HA2.out _))) | quiet_step ((first | (with_reducible exact toB HA1.out _) | (with_reducible exact toB HA2.out _))))); (refine wpQuiet_nil ?_; intro _ hw'; obtain ⟨xq, hw''⟩ := hw'; subst hw''))
      refine hQ2 _ _ _ ?_
      have HBX := Lib.hid xq.2
      generalize xq.val = W4 at *
      go_wp2_with fail
      all_goals first | (exfalso; omega) | skip
      go_ret
      exact ⟨rfl, HBX.out⟩
  · have g1 : ((n1 : Int) == (main : Int)) = false := by simp; omega
    have g3 : ¬ (n1 : Int) = (main : Int) := by omega
    clear hc h1
    go_enter Try.func27, Try.ntmps27
    go_wp2_with (go_at_call 62; with_reducible refine Calls.mono HN.out ?_; rintro e w1 ⟨rfl, rfl⟩)
    refine wp_opaque fun Q2 hQ2 => ?_
    (refine wp_region_below (by kernel_rfl) (by kernel_rfl) ?_; (repeat (first | go_big_quiet_step ((first | (with_reducible exact toB HA1.out _) | (with_reducible exact toB HA2.out _))) | quiet_step ((first | (with_reducible exact toB HA1.out _) | (with_reducible exact toB HA2.out _))))); (refine wpQuiet_nil ?_; intro _ hw'; obtain ⟨xq, hw''⟩ := hw'; subst hw''))
    refine hQ2 _ _ _ ?_
    have HBX := Lib.hid xq.2
    generalize xq.val = W4 at *
    go_wp2_with fail
    all_goals first | (exfalso; omega) | skip
    go_ret
    exact ⟨rfl, HBX.out⟩
set_option maxRecDepth 10000 in
set_option maxHeartbeats 4000000 in
theorem Change_ok {base tb main st wb : Nat} {w : World} {al : List Int} {ps : List Plc} {f : Nat → Int} (h : TubeIs base w tb al main ps st wb f) (ok : TubeOk al main ps) (hst : st ≤ 100000) (l1 l2 : List Int) (va vb : Value) (ha : SliceV w va 1 IntAt l1) (hb : SliceV w vb 1 IntAt l2) (hc : chgOk al.length main l1 l2 = true) :
    Calls Try.prog 27 #[.pointer (some ⟨tb, 0, none⟩), va, vb] w fun e w' => e = .returned (.int .i64 0) ∧ TubeIs base w' tb (l1 ++ l2) main ps st wb (chF al (l1 ++ l2) (offO al.length st) al.length f) ∧ Kept w w' wb tb := by
  obtain ⟨av, ac, pv, ht, hav, hnw, -⟩ := h.cells2 (by have := ok.n48; omega)
  simp only [chgOk, Bool.and_eq_true, decide_eq_true_eq] at hc
  obtain ⟨⟨⟨h1, h2⟩, h3⟩, h4⟩ := hc
  have hm := ok.mn
  have hrange : ∀ j, j < al.length → 1 ≤ (l1 ++ l2).getD j 0 := fun j hj => by
    by_cases e : j < l1.length
    · have := (ars_parts h3).2 j e
      rw [List.getD_eq_getElem?_getD, List.getElem?_append_left e, ← List.getD_eq_getElem?_getD]
      exact this.1
    · have := (ars_parts h4).2 (j - l1.length) (by omega)
      rw [List.getD_eq_getElem?_getD, List.getElem?_append_right (by omega), ← List.getD_eq_getElem?_getD]
      exact this.1
  have HCH := Lib.hid (fun (W : World) (hB : Below w.heap.size w W) => change_any (h.below hB) (by have := ok.m1; omega) ok.n48 hst l1 l2 va vb (ha.keep IntAt.stable hB) (hb.keep IntAt.stable hB) (by omega) hrange)
  have HN := Lib.hid (isNone_any tb main w ht.main)
  rw [decide_eq_false (by have := ok.m1; omega)] at HN
  have HA1 := Lib.hid (fun x : BW w => (areasRight_any l1 va x.val (ha.keep IntAt.stable x.2)).mono fun e w' ⟨a, b⟩ => (⟨a, by rw [← b]; exact Below.refl _ _⟩ : _ ∧ Below x.val.heap.size x.val w'))
  have HA2 := Lib.hid (fun x : BW w => (areasRight_any l2 vb x.val (hb.keep IntAt.stable x.2)).mono fun e w' ⟨a, b⟩ => (⟨a, by rw [← b]; exact Below.refl _ _⟩ : _ ∧ Below x.val.heap.size x.val w'))
  rw [h3] at HA1
  rw [h4] at HA2
  have c0 := ht.areas
  have c1 := ht.main
  have cl := cell_lt c0
  have hn := ok.n48
  obtain ⟨a1, e1, rfl, hm1, -⟩ := ha
  obtain ⟨a2, e2, rfl, hm2, -⟩ := hb
  unfold most at hm1 hm2
  have u1 : IntKind.i64.wrap ((al.length : Int) - (main : Int)) = (al.length : Int) - main := IntWalk.i64_in _ (by omega)
  clear h ht hav hnw ok hrange h3 h4
  obtain ⟨n1, hn1⟩ : ∃ n, l1.length = n := ⟨_, rfl⟩
  obtain ⟨n2, hn2⟩ : ∃ n, l2.length = n := ⟨_, rfl⟩
  rw [hn1] at HA1 HCH h1 hm1 ⊢
  rw [hn2] at HA2 HCH h2 hm2 ⊢
  obtain ⟨n, hnn⟩ : ∃ n, al.length = n := ⟨_, rfl⟩
  rw [hnn] at HCH c0 u1 h2 hm hn ⊢
  clear hn1 hn2 hnn
  subst h1
  have g1 : ((n1 : Int) == (n1 : Int)) = true := by simp
  have g2 : ((n2 : Int) == (n : Int) - (n1 : Int)) = true := by simp; omega
  have g3 : (n2 : Int) = (n : Int) - (n1 : Int) := by omega
  clear h2
  go_enter Try.func27, Try.ntmps27
  go_wp2_with (go_at_call 62; with_reducible refine Calls.mono HN.out ?_; rintro e w1 ⟨rfl, rfl⟩)
  refine wp_opaque fun Q2 hQ2 => ?_
  (refine wp_region_below (by kernel_rfl) (by kernel_rfl) ?_; (repeat (first | go_big_quiet_step ((first | (with_reducible exact toB HA1.out _) | (with_reducible exact toB HA2.out _))) | quiet_step ((first | (with_reducible exact toB HA1.out _) | (with_reducible exact toB HA2.out _))))); (refine wpQuiet_nil ?_; intro _ hw'; obtain ⟨xq, hw''⟩ := hw'; subst hw''))
  refine hQ2 _ _ _ ?_
  have HBX := Lib.hid xq.2
  generalize xq.val = W4 at *
  go_wp2_with (go_at_call 64; with_reducible refine Calls.mono (HCH.out _ HBX.out) ?_; rintro e w5 ⟨⟨rv, rfl⟩, ht5, hk5⟩; have HT5 := Lib.hid ht5; have HK5 := Lib.hid hk5; clear ht5 hk5)
  all_goals first | (exfalso; omega) | skip
  go_ret
  exact ⟨rfl, HT5.out, Kept.pre HBX.out HK5.out⟩
end Go.Proofs.Ytbmbcbknoflpgaa
namespace Go.Proofs.Ytbmbcbknoflpgaa
open Go.RowKit

theorem chW_le {a c x : Int} (ha : 1 ≤ a ∧ a ≤ 1000) (hc : 1 ≤ c ∧ c ≤ 1000) (hx : -1000000 ≤ x ∧ x ≤ 1000000) : c * (chW a c x * chW a c x) ≤ a * (x * x) := by
  unfold chW
  by_cases h : c ≤ a
  · rw [if_pos h]
    exact Int.mul_le_mul_of_nonneg_right h (sq_nonneg x)
  · rw [if_neg h]
    have hm := mul_inN (A := 1000000) (B := 1000) (a := x) (b := a) (by omega) (by omega) (by omega) (by omega)
    rw [w64_r (by omega)]
    have h1 := tdiv_sq (x * a) c hc.1
    obtain ⟨y, hy⟩ : ∃ y, (x * a).tdiv c = y := ⟨_, rfl⟩
    rw [hy] at h1 ⊢
    have h2 := Int.mul_le_mul_of_nonneg_right (show a ≤ c by omega) (Int.mul_nonneg (show 0 ≤ a by omega) (sq_nonneg x))
    have e1 : x * a * (x * a) = a * (a * (x * x)) := by grind
    have e2 : c * c * (y * y) = c * (c * (y * y)) := by grind
    rw [e1, e2] at h1
    exact Int.le_of_mul_le_mul_left (Int.le_trans h1 h2) (by omega)
theorem chg_energy {al cl : List Int} {st : Nat} {f : Nat → Int} (hl : cl.length = al.length) (ha : ∀ j, j < al.length → 1 ≤ al.getD j 0 ∧ al.getD j 0 ≤ 1000) (hc : ∀ j, j < al.length → 1 ≤ cl.getD j 0 ∧ cl.getD j 0 ≤ 1000) (hE : enT al st f ≤ 1000000000000) : enT cl st (chF al cl (offO al.length st) al.length f) ≤ enT al st f := by
  unfold enT
  rw [hl]
  refine sm_le fun i hi => ?_
  have w0 := wave_in (A := fun i => al.getD i 0) ha hE (i := i * 2) (by omega)
  have w1 := wave_in (A := fun i => al.getD i 0) ha hE (i := i * 2 + 1) (by omega)
  rw [← Nat.add_assoc] at w1
  have k0 := chW_le (ha i hi) (hc i hi) w0
  have k1 := chW_le (ha i hi) (hc i hi) w1
  have e0 : chF al cl (offO al.length st) al.length f (offO al.length st + i * 2) = chW (al.getD i 0) (cl.getD i 0) (f (offO al.length st + i * 2)) := by
    unfold chF
    rw [if_pos (by omega), show (offO al.length st + i * 2 - offO al.length st) / 2 = i by omega]
  have e1 : chF al cl (offO al.length st) al.length f (offO al.length st + i * 2 + 1) = chW (al.getD i 0) (cl.getD i 0) (f (offO al.length st + i * 2 + 1)) := by
    unfold chF
    rw [if_pos (by omega), show (offO al.length st + i * 2 + 1 - offO al.length st) / 2 = i by omega]
  simp only [e0, e1]
  omega
/-- The energy that is handed back. -/
theorem tube_en {base tb main k wb : Nat} {W : World} {al : List Int} {ps : List Plc} {f : Nat → Int} (h : TubeIs base W tb al main ps k wb f) (ok : TubeOk al main ps) (hk : k ≤ 1000000) (hE : enT al k f ≤ 1000000000000) :
    Calls Try.prog 34 #[.pointer (some ⟨tb, 0, none⟩)] W fun e w' => e = .returned (.int .i64 (enT al k f)) ∧ Below W.heap.size W w' := by
  have h1 := tube_energy h ok hk
  rw [en_enX] at h1
  have h0 : 0 ≤ enT al k f := en_nonneg (fun i hi => ok.ar i hi)
  rw [w64_r (by unfold enT at hE h0; omega)] at h1
  exact h1
/-- What the law of energy keeps of a tube. -/
structure EnIs (s : Shp) (k st : Nat) (al : List Int) (f : Nat → Int) (P K : Int) : Prop where
  len : al.length = s.areas.length + s.branch.length
  ok : TubeOk al s.areas.length (shpPlaces s)
  cnt : st ≤ k
  pos : 0 ≤ P ∧ P ≤ 500 * (k : Int)
  top : 0 ≤ K ∧ K ≤ 1000
  bnd : enT al st f ≤ P * P * K
theorem EnIs.mid {s : Shp} {k st : Nat} {al : List Int} {f : Nat → Int} {P K : Int} (h : EnIs s k st al f P K) (hk : k ≤ 60) : enT al st f ≤ 1000000000000 ∧ 0 ≤ enT al st f := by
  have h1 := Int.mul_le_mul (show P ≤ 30000 by have := h.pos; omega) (show P ≤ 30000 by have := h.pos; omega) h.pos.1 (by omega)
  have h2 := Int.mul_le_mul h1 h.top.2 h.top.1 (by omega)
  have h3 := h.bnd
  exact ⟨by omega, en_nonneg (fun i hi => h.ok.ar i hi)⟩
theorem EnIs.change {s : Shp} {k st : Nat} {al : List Int} {f : Nat → Int} {P K : Int} (h : EnIs s k st al f P K) (hk : k ≤ 60) {l1 l2 : List Int} (hc : chgOk al.length s.areas.length l1 l2 = true) :
    EnIs s k st (l1 ++ l2) (chF al (l1 ++ l2) (offO al.length st) al.length f) P K ∧ enT (l1 ++ l2) st (chF al (l1 ++ l2) (offO al.length st) al.length f) ≤ enT al st f ∧ l1.length = s.areas.length := by
  simp only [chgOk, Bool.and_eq_true, decide_eq_true_eq] at hc
  obtain ⟨⟨⟨h1, h2⟩, h3⟩, h4⟩ := hc
  have hlen : (l1 ++ l2).length = al.length := by rw [List.length_append]; have := h.ok.mn; omega
  have hr : ∀ j, j < al.length → 1 ≤ (l1 ++ l2).getD j 0 ∧ (l1 ++ l2).getD j 0 ≤ 1000 := fun j hj => by
    by_cases e : j < l1.length
    · have := (ars_parts h3).2 j e
      rwa [List.getD_eq_getElem?_getD, List.getElem?_append_left e, ← List.getD_eq_getElem?_getD]
    · have := (ars_parts h4).2 (j - l1.length) (by have := h.ok.mn; omega)
      rwa [List.getD_eq_getElem?_getD, List.getElem?_append_right (by omega), ← List.getD_eq_getElem?_getD]
  have he := chg_energy (st := st) hlen h.ok.ar hr (h.mid hk).1
  refine ⟨⟨hlen.trans h.len, ⟨h.ok.m1, by rw [hlen]; exact h.ok.mn, h.ok.m24, by rw [hlen]; exact h.ok.n48, by rw [hlen]; exact h.ok.plc, h.ok.pl, by rw [hlen]; exact hr⟩, h.cnt, h.pos, h.top, Int.le_trans he h.bnd⟩, he, h1⟩
/-- A step with feeds. -/
theorem EnIs.step {s : Shp} (hs : shpOk s = true) {k st : Nat} {al : List Int} {f : Nat → Int} {P K K2 : Int} (h : EnIs s k st al f P K) (hk : k < 60) {fl : List Fd} (hf : fdOk s.areas.length fl = true) (hK : K ≤ K2) (hK2 : K2 ≤ 1000) (hKa : ∀ x ∈ fl, al.getD x.sec.toNat 0 ≤ K2) :
    EnIs s (k + 1) (st + 1) al (nxtF al (shpPlaces s) st fl f) (P + fdSum fl) K2 ∧ ((∀ x ∈ fl, x.amt = 0) → enT al (st + 1) (nxtF al (shpPlaces s) st fl f) ≤ enT al st f) := by
  have hsum := (fdOk_parts hf).2
  have hp := h.pos
  have ht := h.top
  have hE2 : enT al st f ≤ P * P * K2 := Int.le_trans h.bnd (Int.mul_le_mul_of_nonneg_left hK (Int.mul_nonneg hp.1 hp.1))
  have hge := go_energy hs h.len h.ok.ar hf hp.1 ⟨by omega, hK2⟩ hKa (by omega) hE2
  refine ⟨⟨h.len, h.ok, by have := h.cnt; omega, by omega, by omega, hge⟩, fun hz => go_quiet hs h.len h.ok.ar hf hz (h.mid (by omega)).1⟩
theorem EnIs.skip {s : Shp} {k st : Nat} {al : List Int} {f : Nat → Int} {P K : Int} (h : EnIs s k st al f P K) : EnIs s (k + 1) st al f P K :=
  ⟨h.len, h.ok, by have := h.cnt; omega, by have := h.pos; omega, h.top, h.bnd⟩
end Go.Proofs.Ytbmbcbknoflpgaa
