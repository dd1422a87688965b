/- Contracts: a step of a tube. -/
import Derived.Test.YtbmbcbknoflpgaaH8
import Derived.Test.YtbmbcbknoflpgaaI2
import Derived.Deep.CutRange
set_option linter.unusedSimpArgs false
set_option linter.unusedVariables false
namespace Go.Proofs.Ytbmbcbknoflpgaa
open Go.RowKit

/-- What is heard at the lips, and at the nose. -/
def heardL (main oo on : Nat) (F : Nat → Int) : Int := wrap64 (F (oo + (main - 1) * 2) + F (on + (main - 1) * 2 + 1))
def noseL (main n oo on : Nat) (F : Nat → Int) : Int := if main < n then wrap64 (F (oo + (n - 1) * 2) + F (on + (n - 1) * 2 + 1)) else 0
theorem nil_end (x y z : Value) (w : World) : (nilAhead 293 162 (.agg #[x, y, z]) "declaim/tract.meet").run Try.prog w = .ok (some false) w := by kernel_rfl
theorem meth_end (x y z : Value) (w : World) : (method 293 162 (.agg #[x, y, z]) "declaim/tract.meet").run Try.prog w = .ok (129, .agg #[x, y, z]) w := by kernel_rfl
theorem nil_joint (a : Option Addr) (n c : Nat) (w : World) : (nilAhead 293 164 (.slice a n c) "declaim/tract.meet").run Try.prog w = .ok (some false) w := by kernel_rfl
theorem meth_joint (a : Option Addr) (n c : Nat) (w : World) : (method 293 164 (.slice a n c) "declaim/tract.meet").run Try.prog w = .ok (130, .slice a n c) w := by kernel_rfl
set_option maxRecDepth 10000 in
set_option maxHeartbeats 4000000 in
theorem step_any {base tb main steps wb : Nat} {w : World} {al : List Int} {ps : List Plc} {f : Nat → Int} (h : TubeIs base w tb al main ps steps wb f) (hm1 : 1 ≤ main) (hmn : main ≤ al.length) (hn : al.length ≤ 48) (hst : steps ≤ 100000) (hps : ∀ p ∈ ps, plcOk al.length p) (hpl : ps.length ≤ 100) (hA : ∀ j, j < al.length → 1 ≤ al.getD j 0 ∧ al.getD j 0 ≤ 1000) (fl : List Fd) (fa : Option Addr) (fc oo on : Nat) (hfl : SliceV w (.slice fa fl.length fc) 2 FdAt fl) (hfb : fl ≠ [] → ∀ p, fa = some p → p.block ≠ wb) (hfs : ∀ x ∈ fl, 0 ≤ x.sec ∧ x.sec < al.length) (hfn : fl.length ≤ 1000) (hoo : steps % 2 * al.length * 2 = oo) (hon : (steps + 1) % 2 * al.length * 2 = on) :
    Calls Try.prog 68 #[.pointer (some ⟨tb, 0, none⟩), .slice fa fl.length fc] w fun e w' => e = .returned (.agg #[.int .i64 (heardL main oo on (meetsA (fun i => al.getD i 0) oo on ps f)), .int .i64 (noseL main al.length oo on (meetsA (fun i => al.getD i 0) oo on ps f))]) ∧ TubeIs base w' tb al main ps (steps + 1) wb (feedsA on fl (meetsA (fun i => al.getD i 0) oo on ps f)) ∧ Kept w w' wb tb := by
  obtain ⟨av, ac, pa, pc, xs, ht, hav, hp, hpx⟩ := h.cells (by omega)
  obtain ⟨s1, hs1⟩ : ∃ s1, steps + 1 = s1 := ⟨_, rfl⟩
  rw [hs1] at hon
  have HH2 := Lib.hid (fun (W : World) (hB : Below w.heap.size w W) => half_any (ht.keep hB) (by omega) (by omega) s1 (s1 % 2) rfl (by omega))
  have HH1 := Lib.hid (fun (W : World) (hB : Below w.heap.size w W) => half_any (ht.keep hB) (by omega) (by omega) steps (steps % 2) rfl (by omega))
  have c4 := ht.steps
  have c0 := ht.areas
  have c1 := ht.main
  have c2 := ht.places
  have hl := cell_lt c4
  have u1 : IntKind.i64.wrap ((steps : Int) + 1) = (s1 : Int) := by rw [IntWalk.i64_in _ (by omega)]; omega
  have HT := Lib.hid h
  have HS1 := Lib.hid hs1
  rw [hon] at HH2
  rw [hoo] at HH1
  have hO : oo + 2 * al.length ≤ 4 * al.length ∧ on + 2 * al.length ≤ 4 * al.length := by
    rcases (show steps % 2 = 0 ∨ steps % 2 = 1 by omega) with h | h <;> rcases (show s1 % 2 = 0 ∨ s1 % 2 = 1 by omega) with h2 | h2 <;> rw [h] at hoo <;> rw [h2] at hon <;> omega
  have HO := Lib.hid hO
  have HOE := Lib.hid (And.intro hoo hon)
  have HFL := Lib.hid hfl
  have HFB := Lib.hid hfb
  have HFS := Lib.hid hfs
  rw [hs1]
  clear h ht hav hp hpx hs1 hoo hon hO hfl hfb hfs
  go_enter Try.func68, Try.ntmps68
  go_wp2_with fail
  have HB1 := Lib.hid (bAlloc (Below.refl w.heap.size w) (.cells #[.int .i64 0, .int .i64 0] 51))
  have C4 : Hid ((w.alloc (.cells #[.int .i64 0, .int .i64 0] 51)).cell? ⟨tb, 4, none⟩ = some (.int .i64 (steps : Int))) := Lib.hid (keep HB1.out c4)
  have R0 : Hid ((w.alloc (.cells #[.int .i64 0, .int .i64 0] 51)).heap[w.heap.size]? = some (.cells #[.int .i64 0, .int .i64 0] 51 (0, 0))) := Lib.hid (World.alloc_heap_new w _)
  generalize World.alloc w _ = W1 at *
  obtain ⟨rb, hrb⟩ : ∃ rb, w.heap.size = rb := ⟨_, rfl⟩
  have HRB := Lib.hid hrb
  rw [hrb] at R0 ⊢
  clear hrb c4 c0 c1 c2 hl
  have HK : Hid (∀ X, Below W1.heap.size W1 X → (X.cell? ⟨tb, 4, none⟩ = some (.int .i64 (steps : Int)))) := Lib.hid (fun X h => keep h C4.out)
  go_cut [5, 6] from 14 (fun p r wc => ∃ (b5 b6 : Nat), p = .pointer (some ⟨b5, 0, none⟩) ∧ r = .pointer (some ⟨b6, 0, none⟩) ∧ Hid (wc.heap[b5]? = some (.cells #[.slice (some ⟨wb, oo, none⟩) al.length al.length] 95 (0, 0)) ∧ wc.heap[b6]? = some (.cells #[.slice (some ⟨wb, on, none⟩) al.length al.length] 95 (0, 0)) ∧ Below W1.heap.size W1 wc))
  case first =>
    go_region_held3 (fun X => (X.cell? ⟨tb, 4, none⟩ = some (.int .i64 (steps : Int)))) (((try dsimp only); exact HK.out _ (by (repeat (first | exact Below.refl _ _ | refine Below.drew ?_ | refine bAlloc ?_ _))))) (first
      | (go_at_call 93; with_reducible refine Calls.mono (HH1.out _ (bThen HB1.out (by (repeat (first | exact Below.refl _ _ | refine Below.drew ?_ | refine bAlloc ?_ _))))) ?_; rintro e w2 ⟨rfl, rfl⟩)
      | (go_at_call 93; with_reducible refine Calls.mono (HH2.out _ (bThen HB1.out (by (repeat (first | exact Below.refl _ _ | refine Below.drew ?_ | refine bAlloc ?_ _))))) ?_; rintro e w2 ⟨rfl, rfl⟩))
    all_goals
      go_wp2_with fail
      go_meet
      case rel =>
        refine ⟨_, _, rfl, rfl, Lib.hid ⟨?_, ?_, Below.drew (bAlloc (bAlloc (Below.refl _ _) _) _)⟩⟩
        all_goals first
          | exact heap_keep (bAlloc (Below.refl _ _) _) (World.alloc_heap_new _ _)
          | (have := World.alloc_heap_new (W1.alloc (.cells #[.slice (some ⟨wb, oo, none⟩) al.length al.length] 95)) (.cells #[.slice (some ⟨wb, on, none⟩) al.length al.length] 95); rw [World.size_alloc] at this; exact this)
          | (have := World.alloc_heap_new (W1.alloc (.cells #[.slice (some ⟨wb, on, none⟩) al.length al.length] 95)) (.cells #[.slice (some ⟨wb, oo, none⟩) al.length al.length] 95); rw [World.size_alloc] at this; exact this)
  case rest =>
    obtain ⟨b5, b6, rfl, rfl, HX⟩ := hcut
    obtain ⟨X5, X6, HBC⟩ := HX.out
    have HBC := Lib.hid HBC
    have HTC := Lib.hid (HT.out.below (bThen HB1.out HBC.out))
    have HR0 := Lib.hid (heap_keep HBC.out R0.out)
    have HX5 := Lib.hid X5
    have HX6 := Lib.hid X6
    clear HX X5 X6 R0 C4 HK HH1 HH2
    obtain ⟨av, ac, pa, pc, xs, ht, hav, hp, hpx⟩ := HTC.out.cells (by omega)
    have HAV := Lib.hid hav
    have HP := Lib.hid hp
    have HPX := Lib.hid hpx
    have HTA := Lib.hid ht
    have c2 := ht.places
    have hl := cell_lt c2
    clear hav hp hpx ht
    go_wp2_with fail
    go_loopw [33] (fun i wr => ∃ k : Nat, k ≤ ps.length ∧ i = .int .i64 k ∧ Hid (wr.rowIs wb 137 (4 * al.length) (fun j => .int .i64 (meetsA (fun i => al.getD i 0) oo on (ps.take k) f j))) ∧ Hid (wc.grownBy wr (some wb))) (fun i _ => ps.length - (intOf i).toNat)
    case atStart => exact ⟨0, Nat.zero_le _, rfl, Lib.hid (by simpa [meetsA] using HTC.out.3), Lib.hid (gb_refl _ _)⟩
    case round =>
      clear c2 hl
      obtain ⟨k, hk, rfl, HR, HG⟩ := hrel
      by_cases hlt : k < ps.length
      · have hp2 := own_kept HP.out HTC.out.3 (by decide) HG.out
        obtain ⟨g, rfl⟩ : ∃ g, pa = some ⟨g, 0, none⟩ := by
          rcases hp2.2 with ⟨h1, h2⟩ | ⟨g, cap, cur, h1, _⟩
          · omega
          · cases h1; exact ⟨g, rfl⟩
        obtain ⟨x, hx⟩ : ∃ x, xs[k]? = some x := ⟨xs[k]'(by rw [HPX.out.1]; exact hlt), List.getElem?_eq_getElem _⟩
        have p0 := hp2.cellAt k (by omega)
        rw [hx] at p0
        have hpv := (HPX.out.2 k x ps[k] hx (List.getElem?_eq_getElem hlt)).kept HTC.out.3 HG.out
        have HPO := Lib.hid (hps ps[k] (List.getElem_mem hlt))
        have HTK : Hid (ps.take (k + 1) = ps.take k ++ [ps[k]]) := Lib.hid (take_succ ps k hlt)
        have hT := HTC.out.grown HG.out HR.out
        have hbt := HTC.out.ne
        have hta : wr.cell? ⟨tb, 0, none⟩ = some (.slice av al.length ac) := gb_cell HG.out HTA.out.areas hbt
        have h5 : wr.cell? ⟨b5, 0, none⟩ = some (.slice (some ⟨wb, oo, none⟩) al.length al.length) := gb_cell HG.out (by have := cell_of_heap HX5.out (show 0 < 1 by omega); simpa using this) (box_ne HX5.out HTC.out.3 (by decide))
        have h6 : wr.cell? ⟨b6, 0, none⟩ = some (.slice (some ⟨wb, on, none⟩) al.length al.length) := gb_cell HG.out (by have := cell_of_heap HX6.out (show 0 < 1 by omega); simpa using this) (box_ne HX6.out HTC.out.3 (by decide))
        have n5 := box_ne HX5.out HTC.out.3 (by decide)
        have n6 := box_ne HX6.out HTC.out.3 (by decide)
        have hkk : (k : Int) < (ps.length : Int) := by omega
        have l0 := cell_lt p0
        have l1 := cell_lt hta
        have l2 := cell_lt h5
        have l3 := cell_lt h6
        clear hp2 hT hx
        generalize ps[k] = p at *
        cases p with
        | fin s d pp =>
          obtain rfl : x = _ := hpv
          have hna := nil_end (.int .i64 (s : Int)) (.int .i64 (d : Int)) (.int .i64 pp)
          have hme := meth_end (.int .i64 (s : Int)) (.int .i64 (d : Int)) (.int .i64 pp)
          have HME := Lib.hid (fun (W : World) (hr : W.rowIs wb 137 (4 * al.length) (fun j => .int .i64 (meetsA (fun i => al.getD i 0) oo on (ps.take k) f j))) => meetEnd_any (s : Int) pp s d al.length (4 * al.length) wb oo on (.slice av al.length ac) _ W rfl HPO.out.1 (by have := HPO.out.2; omega) (by omega) HO.out.1 HO.out.2 hr)
          go_wp2_with fail
          go_region_held3 (fun X => (X.cell? ⟨tb, 0, none⟩ = some (.slice av al.length ac) ∧ X.cell? ⟨b5, 0, none⟩ = some (.slice (some ⟨wb, oo, none⟩) al.length al.length) ∧ X.cell? ⟨b6, 0, none⟩ = some (.slice (some ⟨wb, on, none⟩) al.length al.length))) (first | exact ⟨hta, h5, h6⟩ | exact ⟨gb_cell hg2 hta hbt, gb_cell hg2 h5 n5, gb_cell hg2 h6 n6⟩) (first
            | (go_at_call 129; with_reducible refine Calls.mono (HME.out _ (HR.out.drew)) ?_; rintro e w2 ⟨⟨r, rfl⟩, hr2, hg2⟩))
          have HR2 : Hid (w2.rowIs wb 137 (4 * al.length) (fun j => .int .i64 (meetsA (fun i => al.getD i 0) oo on (ps.take (k + 1)) f j))) := Lib.hid (by rw [HTK.out, meetsA_snoc]; exact hr2)
          have HG2 := Lib.hid (gb_trans HG.out (gb_trans (gb_below (Below.drew (Below.refl _ _)) _) hg2))
          clear hr2 hg2
          go_wp2_with fail
          go_roundw
          case rel => exact ⟨k + 1, by omega, by go_num, HR2, HG2⟩
          case measure => simp [intOf]; omega
        | jnt l =>
          obtain ⟨u, rfl, hu⟩ := hpv
          have hsl := own_sides hu (by have := HPO.out.2.1; omega)
          have hun := own_ne_row hu HR.out (by decide)
          have hav2 : SliceV wr (.slice av al.length ac) 1 IntAt al := by
            have := HTC.out
            obtain ⟨_, ⟨_, _, _, _, b1, b2, _, _⟩, b5⟩ := this
            have e : (some (Value.slice av al.length ac)) = some _ := (HTA.out.areas.symm.trans (by have := cell_of_heap b1 (show 0 < 5 by omega); simpa using this))
            cases e
            exact own_slice (own_kept b2 b5 (by decide) HG.out) (by omega)
          obtain ⟨ua, uc, rfl, -⟩ := id hsl
          have HAO := Lib.hid (hA)
          have hna := nil_joint ua l.length uc
          have hme := meth_joint ua l.length uc
          have HME := Lib.hid (meetJoint_any l al al.length (4 * al.length) wb oo on (.slice ua l.length uc) (.slice av al.length ac) _ wr.drew (hsl.keep SideAt.stable (Below.drew (Below.refl _ _))) (hav2.keep IntAt.stable (Below.drew (Below.refl _ _))) rfl HPO.out.1 HPO.out.2.1 HPO.out.2.2 hA (by omega) HO.out.1 HO.out.2 hun HR.out.drew)
          clear hsl hav2 hun
          go_wp2_with fail
          go_region_held3 (fun X => (X.cell? ⟨tb, 0, none⟩ = some (.slice av al.length ac) ∧ X.cell? ⟨b5, 0, none⟩ = some (.slice (some ⟨wb, oo, none⟩) al.length al.length) ∧ X.cell? ⟨b6, 0, none⟩ = some (.slice (some ⟨wb, on, none⟩) al.length al.length))) (first | exact ⟨hta, h5, h6⟩ | exact ⟨gb_cell hg2 hta hbt, gb_cell hg2 h5 n5, gb_cell hg2 h6 n6⟩) (first
            | (go_at_call 130; with_reducible refine Calls.mono (HME.out) ?_; rintro e w2 ⟨⟨r, rfl⟩, hr2, hg2⟩))
          have HR2 : Hid (w2.rowIs wb 137 (4 * al.length) (fun j => .int .i64 (meetsA (fun i => al.getD i 0) oo on (ps.take (k + 1)) f j))) := Lib.hid (by rw [HTK.out, meetsA_snoc]; exact hr2)
          have HG2 := Lib.hid (gb_trans HG.out (gb_trans (gb_below (Below.drew (Below.refl _ _)) _) hg2))
          clear hr2 hg2
          go_wp2_with fail
          go_roundw
          case rel => exact ⟨k + 1, by omega, by go_num, HR2, HG2⟩
          case measure => simp [intOf]; omega
      · obtain rfl : k = ps.length := by omega
        rw [List.take_length] at HR
        have HTR := Lib.hid (HTC.out.grown HG.out HR.out)
        have hbt := HTC.out.ne
        have n5 := box_ne HX5.out HTC.out.3 (by decide)
        have n6 := box_ne HX6.out HTC.out.3 (by decide)
        have nr := box_ne HR0.out HTC.out.3 (by decide)
        have H5 : Hid (wr.cell? ⟨b5, 0, none⟩ = some (.slice (some ⟨wb, oo, none⟩) al.length al.length)) := Lib.hid (gb_cell HG.out (by have := cell_of_heap HX5.out (show 0 < 1 by omega); simpa using this) n5)
        have H6 : Hid (wr.cell? ⟨b6, 0, none⟩ = some (.slice (some ⟨wb, on, none⟩) al.length al.length)) := Lib.hid (gb_cell HG.out (by have := cell_of_heap HX6.out (show 0 < 1 by omega); simpa using this) n6)
        have HRR := Lib.hid (gb_heap HG.out HR0.out nr)
        have T0 : Hid (wr.cell? ⟨tb, 0, none⟩ = some (.slice av al.length ac)) := Lib.hid (gb_cell HG.out HTA.out.areas hbt)
        have T1 : Hid (wr.cell? ⟨tb, 1, none⟩ = some (.int .i64 (main : Int))) := Lib.hid (gb_cell HG.out HTA.out.main hbt)
        have T4 : Hid (wr.cell? ⟨tb, 4, none⟩ = some (.int .i64 (steps : Int))) := Lib.hid (gb_cell HG.out HTA.out.steps hbt)
        obtain ⟨F, hF⟩ : ∃ F, meetsA (fun i => al.getD i 0) oo on ps f = F := ⟨_, rfl⟩
        have HF := Lib.hid hF
        rw [hF] at HR HTR
        clear hF
        have HLV := Lib.hid (fun (k : Nat) (W : World) (hk : k < al.length) (hB : Below wr.heap.size wr W) => leaving_any k al.length (4 * al.length) wb oo on b5 b6 F W hk (by omega) HO.out.1 HO.out.2 (rowB HR.out hB) (keep hB H5.out) (keep hB H6.out))
        obtain ⟨m, hm⟩ : ∃ m, main = m + 1 := ⟨main - 1, by omega⟩
        have HH : Hid (heardL main oo on F = wrap64 (F (oo + m * 2) + F (on + m * 2 + 1))) := Lib.hid (by unfold heardL; rw [hm]; rfl)
        have hmc : (main : Int) = (m : Int) + 1 := by omega
        have u2 : IntKind.i64.wrap ((main : Int) - 1) = (m : Int) := by rw [hmc]; rw [IntWalk.i64_in _ (by omega)]; omega
        obtain ⟨n1, hn1⟩ : ∃ n1, al.length = n1 + 1 := ⟨al.length - 1, by omega⟩
        have u3 : IntKind.i64.wrap ((al.length : Int) - 1) = (n1 : Int) := by rw [IntWalk.i64_in _ (by omega)]; omega
        clear hmc
        have HFW : Hid (∀ W, wr.grownBy W (some wb) → SliceV W (.slice fa fl.length fc) 2 FdAt fl) := Lib.hid (fun W hW => by
          have h0 := HFL.out.keep FdAt.stable (bThen HB1.out HBC.out)
          obtain ⟨a0, c0, e0, h1, h2⟩ := h0
          by_cases hne : fl = []
          · exact ⟨a0, c0, e0, h1, .inl hne⟩
          refine ⟨a0, c0, e0, h1, h2.imp id fun ⟨b, o, hb, hi⟩ => ⟨b, o, hb, fun i hi2 => ?_⟩⟩
          have hbn : b ≠ wb := HFB.out hne ⟨b, o, none⟩ (by cases e0; exact hb)
          have hg := gb_trans HG.out hW
          exact ⟨gb_cell hg (hi i hi2).1 hbn, gb_cell hg (hi i hi2).2 hbn⟩)
        have HKW : Hid (Kept w wr wb tb) := Lib.hid (kept_of_grown (gb_trans (gb_below (bThen HB1.out HBC.out) _) HG.out))
        have HRS : Hid (w.heap.size ≤ rb ∧ rb < wr.heap.size) := Lib.hid ⟨by have := HRB.out; omega, by have := (Array.getElem?_eq_some_iff.1 HRR.out).1; omega⟩
        have s1x := T1.out
        have lt := cell_lt s1x
        by_cases hmn2 : main < al.length
        · have hge : (n1 : Int) ≥ (main : Int) := by omega
          have HN : Hid (noseL main al.length oo on F = wrap64 (F (oo + n1 * 2) + F (on + n1 * 2 + 1))) := Lib.hid (by unfold noseL; rw [if_pos hmn2, hn1]; rfl)
          obtain ⟨hv, hhv⟩ : ∃ hv, wrap64 (F (oo + m * 2) + F (on + m * 2 + 1)) = hv := ⟨_, rfl⟩
          obtain ⟨nv, hnv⟩ : ∃ nv, wrap64 (F (oo + n1 * 2) + F (on + n1 * 2 + 1)) = nv := ⟨_, rfl⟩
          have HL0 := Lib.hid (fun W hB => HLV.out m W (by omega) hB)
          have HL1 := Lib.hid (fun W hB => HLV.out n1 W (by omega) hB)
          rw [hhv] at HL0 HH
          rw [hnv] at HL1 HN
          clear hhv hnv HLV
          go_wp2_with (first
            | (go_at_call 94; with_reducible refine Calls.mono (HL0.out _ (Below.refl _ _)) ?_; rintro e w2 ⟨rfl, hb2⟩; have HB2 := Lib.hid hb2; have t0 := keep hb2 T0.out; have t1 := keep hb2 T1.out; have lt2 := cell_lt t0; clear hb2)
            | (go_at_call 94; with_reducible refine Calls.mono (HL1.out _ (bThen HB2.out (bAlloc (Below.refl _ _) _))) ?_; rintro e w3 ⟨rfl, hb3⟩; have HB3 := Lib.hid (bThen HB2.out (bThen (bAlloc (Below.refl _ _) _) hb3)); have HX := Lib.hid (heap_keep hb3 (World.alloc_heap_new w2 (.cells #[.int .i64 hv, .int .i64 0] 51))); have hz0 := frozen_heap (o := 1) HX.out; have hz1 := cell_of_heap (j := 1) HX.out (show 1 < 2 by omega); have hz2 := cell_lt hz1; clear hb3))
          have HX4 : Hid ((w3.setCell ⟨w2.heap.size, 1, none⟩ (.int .i64 nv)).heap[w2.heap.size]? = some (.cells #[.int .i64 hv, .int .i64 nv] 51 (0, 0))) := Lib.hid (by have := heap_setCell_same w3 w2.heap.size 1 _ _ (.int .i64 nv) HX.out; simpa using this)
          have HB4 : Hid (Below wr.heap.size wr (w3.setCell ⟨w2.heap.size, 1, none⟩ (.int .i64 nv))) := Lib.hid (HB3.out.setCell (p := ⟨w2.heap.size, 1, none⟩) HB2.out.size _)
          clear HX hz0 hz1 hz2 t0 t1 lt2 s1x lt
          generalize World.setCell w3 _ _ = W4 at *
          obtain ⟨xb, hxb⟩ : ∃ xb, w2.heap.size = xb := ⟨_, rfl⟩
          rw [hxb] at HX4 ⊢
          clear hxb
          have HRS0 : True := trivial
          have HT0 : True := trivial
          have HN6 := Lib.hid n6
          clear T0 T1 T4 n5 n6 nr
          clear HR HG HRS0
          have HT4 := Lib.hid (HTR.out.below HB4.out)
          have HFW4 : Hid (∀ W, W4.grownBy W (some wb) → SliceV W (.slice fa fl.length fc) 2 FdAt fl) := Lib.hid (fun W h => HFW.out W (gb_trans (gb_below HB4.out _) h))
          have H64 := Lib.hid (keep HB4.out H6.out)
          have HRR4 := Lib.hid (heap_keep HB4.out HRR.out)
          have HK4 := Lib.hid (HKW.out.grown (gb_below HB4.out _))
          have HR4 : Hid (W4.rowIs wb 137 (4 * al.length) (fun j => .int .i64 (feedsA on (fl.take 0) F j))) := Lib.hid (by simpa [feedsA] using HT4.out.3)
          clear HT0 HFW H6 HRR HKW HB4 H5 HTR
          go_loopw [80] (fun i wr => ∃ k : Nat, k ≤ fl.length ∧ i = .int .i64 k ∧ Hid (wr.rowIs wb 137 (4 * al.length) (fun j => .int .i64 (feedsA on (fl.take k) F j))) ∧ Hid (W4.grownBy wr (some wb))) (fun i _ => fl.length - (intOf i).toNat)
          case atStart => exact ⟨0, Nat.zero_le _, rfl, HR4, Lib.hid (gb_refl _ _)⟩
          case round =>
            clear HR4
            obtain ⟨k, hk, rfl, HR, HG⟩ := hrel
            by_cases hlt : k < fl.length
            · obtain ⟨b, o, rfl, hf⟩ := (HFW4.out _ HG.out).at (by intro h; simp [h] at hlt)
              obtain ⟨k0, k1⟩ := hf k hlt
              have HTK : Hid (feedsA on (fl.take (k + 1)) F = feedA on (feedsA on (fl.take k) F) fl[k]) := Lib.hid (by rw [take_succ fl k hlt, feedsA_snoc])
              have hs := HFS.out fl[k] (List.getElem_mem hlt)
              clear hf
              generalize fl[k] = x at *
              obtain ⟨sx, am⟩ := x
              simp only at k0 k1 hs
              obtain ⟨s, rfl⟩ : ∃ s : Nat, sx = (s : Int) := ⟨sx.toNat, by omega⟩
              unfold IntAt at k0 k1
              have hkb := cell_lt k0
              have hsn : (s : Int) < (al.length : Int) := hs.2
              have hkk : (k : Int) < (fl.length : Int) := by omega
              have n6 := HN6.out
              have hb3 := bAlloc (Below.refl wr.heap.size wr) (.cells #[.int .i64 (s : Int), .int .i64 am] 59)
              have J6 := Lib.hid (keep hb3 (gb_cell HG.out H64.out n6))
              have C0 : Hid ((wr.alloc (.cells #[.int .i64 (s : Int), .int .i64 am] 59)).cell? ⟨wr.heap.size, 0, none⟩ = some (.int .i64 (s : Int))) := Lib.hid (cell_new rfl)
              have C1 : Hid ((wr.alloc (.cells #[.int .i64 (s : Int), .int .i64 am] 59)).cell? ⟨wr.heap.size, 1, none⟩ = some (.int .i64 am)) := Lib.hid (cell_new rfl)
              have HR3 := Lib.hid (HR.out.alloc (.cells #[.int .i64 (s : Int), .int .i64 am] 59))
              have HG3 := Lib.hid (gb_trans HG.out (gb_below hb3 (some wb)))
              clear hb3
              go_wp2_with fail
              generalize World.alloc wr _ = W5 at *
              obtain ⟨bx, hbx⟩ : ∃ bx, wr.heap.size = bx := ⟨_, rfl⟩
              rw [hbx] at C0 C1 ⊢
              clear hbx HR HG k0 k1 hkb
              have j6 := J6.out
              have c0 := C0.out
              have c1 := C1.out
              have x0 := HR3.out.cell (i := on + s * 2) (by have := HO.out.2; omega)
              have z0 := HR3.out.frozen (on + s * 2)
              have z1 := HR3.out.lt
              have e1 := cell_lt c0
              have e6 := cell_lt j6
              obtain ⟨gv, hgv⟩ : ∃ gv, feedsA on (fl.take k) F (on + s * 2) = gv := ⟨_, rfl⟩
              rw [hgv] at x0
              obtain ⟨sv, hsv⟩ : ∃ sv, wrap64 (gv + am) = sv := ⟨_, rfl⟩
              have u5 : IntKind.i64.wrap (gv + am) = sv := by rw [IntWalk.i64_left]; exact hsv
              have HFA : Hid (feedA on (feedsA on (fl.take k) F) ⟨(s : Int), am⟩ = upd (feedsA on (fl.take k) F) (on + s * 2) sv) := Lib.hid (by unfold feedA; simp only [Int.toNat_natCast]; rw [hgv, hsv])
              clear hgv hsv
              have HR5 := Lib.hid ((row_upd HR3.out (on + s * 2) sv).drew)
              have HG5 : Hid (W4.grownBy ((W5.setCell ⟨wb, on + s * 2, none⟩ (.int .i64 sv)).drew) (some wb)) := Lib.hid (gb_trans HG3.out (gb_trans (gb_set _ _ _ _) (gb_below (Below.drew (Below.refl _ _)) _)))
              go_region
              go_wp2_with fail
              go_roundw
              case rel => exact ⟨k + 1, by omega, by go_num, by rw [HTK.out, HFA.out]; exact HR5, HG5⟩
              case measure => simp [intOf]; omega
            · obtain rfl : k = fl.length := by omega
              rw [List.take_length] at HR
              have ht := HT4.out.grown HG.out HR.out
              obtain ⟨aw, acw, paw, pcw, xsw, htw, -, -, -⟩ := ht.cells (by omega)
              have t4 := htw.steps
              have tl := cell_lt t4
              have tbx := HT4.out.ne
              have HX5 := gb_heap HG.out HX4.out (box_ne HX4.out HT4.out.3 (by decide))
              have HRR5 := gb_heap HG.out HRR4.out (box_ne HRR4.out HT4.out.3 (by decide))
              obtain ⟨_, ⟨_, _, _, _, bb1, _⟩, _⟩ := id ht
              have zt := frozen_heap (o := 4) bb1
              have zr0 := frozen_heap (o := 0) HRR5
              have zr1 := frozen_heap (o := 1) HRR5
              have ntx : tb ≠ xb := by
                intro e; subst e; rw [HX5] at bb1; simp at bb1
              have ntr : tb ≠ rb := by
                intro e; subst e; rw [HRR5] at bb1; simp at bb1
              have q0 := cell_of_heap HX5 (show 0 < 2 by omega)
              have q1 := cell_of_heap HX5 (show 1 < 2 by omega)
              have r0 := cell_of_heap HRR5 (show 0 < 2 by omega)
              have r1 := cell_of_heap HRR5 (show 1 < 2 by omega)
              simp at q0 q1 r0 r1
              have lx := cell_lt q0
              have lr := cell_lt r0
              have HT6 := Lib.hid ht
              have HG6 := HG
              have HRR6 := Lib.hid HRR5
              clear ht htw bb1 HX5 HRR5
              go_wp2_with fail
              have hEND := step_end (rb := rb) HT6.out HRR6.out (HK4.out.grown HG6.out) HRS.out.1 ntr s1 hv nv
              (try simp only [Exit.inBlock, Exit.then])
              refine bodyPost_ret (results_cell_row rfl _ _ rb 51 #[.int .i64 hv, .int .i64 nv] (0, 0) _ rfl hEND.1 Try.underlying51 rfl infoHd) rfl ?_
              rw [HF.out, HH.out, HN.out]
              exact ⟨rfl, hEND.2.1, hEND.2.2⟩
        · have hge : ¬ ((n1 : Int) ≥ (main : Int)) := by omega
          have HN : Hid (noseL main al.length oo on F = 0) := Lib.hid (by unfold noseL; rw [if_neg hmn2])
          obtain ⟨hv, hhv⟩ : ∃ hv, wrap64 (F (oo + m * 2) + F (on + m * 2 + 1)) = hv := ⟨_, rfl⟩
          have HL0 := Lib.hid (fun W hB => HLV.out m W (by omega) hB)
          rw [hhv] at HL0 HH
          clear hhv HLV
          go_wp2_with (go_at_call 94; with_reducible refine Calls.mono (HL0.out _ (Below.refl _ _)) ?_; rintro e w2 ⟨rfl, hb2⟩; have HB2 := Lib.hid hb2; have t0 := keep hb2 T0.out; have t1 := keep hb2 T1.out; have lt2 := cell_lt t0; clear hb2)
          have HX4 : Hid ((w2.alloc (.cells #[.int .i64 hv, .int .i64 0] 51)).heap[w2.heap.size]? = some (.cells #[.int .i64 hv, .int .i64 0] 51 (0, 0))) := Lib.hid (World.alloc_heap_new _ _)
          have HB4 : Hid (Below wr.heap.size wr (w2.alloc (.cells #[.int .i64 hv, .int .i64 0] 51))) := Lib.hid (bThen HB2.out (bAlloc (Below.refl _ _) _))
          clear t0 t1 lt2 s1x lt
          generalize World.alloc w2 _ = W4 at *
          obtain ⟨xb, hxb⟩ : ∃ xb, w2.heap.size = xb := ⟨_, rfl⟩
          rw [hxb] at HX4 ⊢
          obtain ⟨nv, hnv⟩ : ∃ nv : Int, (0 : Int) = nv := ⟨_, rfl⟩
          rw [hnv] at HX4 HN
          clear hxb
          have HNV := Lib.hid hnv.symm
          clear hnv
          have HRS0 : True := trivial
          have HT0 : True := trivial
          have HN6 := Lib.hid n6
          clear T0 T1 T4 n5 n6 nr
          clear HR HG HRS0
          have HT4 := Lib.hid (HTR.out.below HB4.out)
          have HFW4 : Hid (∀ W, W4.grownBy W (some wb) → SliceV W (.slice fa fl.length fc) 2 FdAt fl) := Lib.hid (fun W h => HFW.out W (gb_trans (gb_below HB4.out _) h))
          have H64 := Lib.hid (keep HB4.out H6.out)
          have HRR4 := Lib.hid (heap_keep HB4.out HRR.out)
          have HK4 := Lib.hid (HKW.out.grown (gb_below HB4.out _))
          have HR4 : Hid (W4.rowIs wb 137 (4 * al.length) (fun j => .int .i64 (feedsA on (fl.take 0) F j))) := Lib.hid (by simpa [feedsA] using HT4.out.3)
          clear HT0 HFW H6 HRR HKW HB4 H5 HTR
          go_loopw [80] (fun i wr => ∃ k : Nat, k ≤ fl.length ∧ i = .int .i64 k ∧ Hid (wr.rowIs wb 137 (4 * al.length) (fun j => .int .i64 (feedsA on (fl.take k) F j))) ∧ Hid (W4.grownBy wr (some wb))) (fun i _ => fl.length - (intOf i).toNat)
          case atStart => exact ⟨0, Nat.zero_le _, rfl, HR4, Lib.hid (gb_refl _ _)⟩
          case round =>
            clear HR4
            obtain ⟨k, hk, rfl, HR, HG⟩ := hrel
            by_cases hlt : k < fl.length
            · obtain ⟨b, o, rfl, hf⟩ := (HFW4.out _ HG.out).at (by intro h; simp [h] at hlt)
              obtain ⟨k0, k1⟩ := hf k hlt
              have HTK : Hid (feedsA on (fl.take (k + 1)) F = feedA on (feedsA on (fl.take k) F) fl[k]) := Lib.hid (by rw [take_succ fl k hlt, feedsA_snoc])
              have hs := HFS.out fl[k] (List.getElem_mem hlt)
              clear hf
              generalize fl[k] = x at *
              obtain ⟨sx, am⟩ := x
              simp only at k0 k1 hs
              obtain ⟨s, rfl⟩ : ∃ s : Nat, sx = (s : Int) := ⟨sx.toNat, by omega⟩
              unfold IntAt at k0 k1
              have hkb := cell_lt k0
              have hsn : (s : Int) < (al.length : Int) := hs.2
              have hkk : (k : Int) < (fl.length : Int) := by omega
              have n6 := HN6.out
              have hb3 := bAlloc (Below.refl wr.heap.size wr) (.cells #[.int .i64 (s : Int), .int .i64 am] 59)
              have J6 := Lib.hid (keep hb3 (gb_cell HG.out H64.out n6))
              have C0 : Hid ((wr.alloc (.cells #[.int .i64 (s : Int), .int .i64 am] 59)).cell? ⟨wr.heap.size, 0, none⟩ = some (.int .i64 (s : Int))) := Lib.hid (cell_new rfl)
              have C1 : Hid ((wr.alloc (.cells #[.int .i64 (s : Int), .int .i64 am] 59)).cell? ⟨wr.heap.size, 1, none⟩ = some (.int .i64 am)) := Lib.hid (cell_new rfl)
              have HR3 := Lib.hid (HR.out.alloc (.cells #[.int .i64 (s : Int), .int .i64 am] 59))
              have HG3 := Lib.hid (gb_trans HG.out (gb_below hb3 (some wb)))
              clear hb3
              go_wp2_with fail
              generalize World.alloc wr _ = W5 at *
              obtain ⟨bx, hbx⟩ : ∃ bx, wr.heap.size = bx := ⟨_, rfl⟩
              rw [hbx] at C0 C1 ⊢
              clear hbx HR HG k0 k1 hkb
              have j6 := J6.out
              have c0 := C0.out
              have c1 := C1.out
              have x0 := HR3.out.cell (i := on + s * 2) (by have := HO.out.2; omega)
              have z0 := HR3.out.frozen (on + s * 2)
              have z1 := HR3.out.lt
              have e1 := cell_lt c0
              have e6 := cell_lt j6
              obtain ⟨gv, hgv⟩ : ∃ gv, feedsA on (fl.take k) F (on + s * 2) = gv := ⟨_, rfl⟩
              rw [hgv] at x0
              obtain ⟨sv, hsv⟩ : ∃ sv, wrap64 (gv + am) = sv := ⟨_, rfl⟩
              have u5 : IntKind.i64.wrap (gv + am) = sv := by rw [IntWalk.i64_left]; exact hsv
              have HFA : Hid (feedA on (feedsA on (fl.take k) F) ⟨(s : Int), am⟩ = upd (feedsA on (fl.take k) F) (on + s * 2) sv) := Lib.hid (by unfold feedA; simp only [Int.toNat_natCast]; rw [hgv, hsv])
              clear hgv hsv
              have HR5 := Lib.hid ((row_upd HR3.out (on + s * 2) sv).drew)
              have HG5 : Hid (W4.grownBy ((W5.setCell ⟨wb, on + s * 2, none⟩ (.int .i64 sv)).drew) (some wb)) := Lib.hid (gb_trans HG3.out (gb_trans (gb_set _ _ _ _) (gb_below (Below.drew (Below.refl _ _)) _)))
              go_region
              go_wp2_with fail
              go_roundw
              case rel => exact ⟨k + 1, by omega, by go_num, by rw [HTK.out, HFA.out]; exact HR5, HG5⟩
              case measure => simp [intOf]; omega
            · obtain rfl : k = fl.length := by omega
              rw [List.take_length] at HR
              have ht := HT4.out.grown HG.out HR.out
              obtain ⟨aw, acw, paw, pcw, xsw, htw, -, -, -⟩ := ht.cells (by omega)
              have t4 := htw.steps
              have tl := cell_lt t4
              have tbx := HT4.out.ne
              have HX5 := gb_heap HG.out HX4.out (box_ne HX4.out HT4.out.3 (by decide))
              have HRR5 := gb_heap HG.out HRR4.out (box_ne HRR4.out HT4.out.3 (by decide))
              obtain ⟨_, ⟨_, _, _, _, bb1, _⟩, _⟩ := id ht
              have zt := frozen_heap (o := 4) bb1
              have zr0 := frozen_heap (o := 0) HRR5
              have zr1 := frozen_heap (o := 1) HRR5
              have ntx : tb ≠ xb := by
                intro e; subst e; rw [HX5] at bb1; simp at bb1
              have ntr : tb ≠ rb := by
                intro e; subst e; rw [HRR5] at bb1; simp at bb1
              have q0 := cell_of_heap HX5 (show 0 < 2 by omega)
              have q1 := cell_of_heap HX5 (show 1 < 2 by omega)
              have r0 := cell_of_heap HRR5 (show 0 < 2 by omega)
              have r1 := cell_of_heap HRR5 (show 1 < 2 by omega)
              simp at q0 q1 r0 r1
              have lx := cell_lt q0
              have lr := cell_lt r0
              have HT6 := Lib.hid ht
              have HG6 := HG
              have HRR6 := Lib.hid HRR5
              clear ht htw bb1 HX5 HRR5
              go_wp2_with fail
              have hEND := step_end (rb := rb) HT6.out HRR6.out (HK4.out.grown HG6.out) HRS.out.1 ntr s1 hv nv
              (try simp only [Exit.inBlock, Exit.then])
              refine bodyPost_ret (results_cell_row rfl _ _ rb 51 #[.int .i64 hv, .int .i64 nv] (0, 0) _ rfl hEND.1 Try.underlying51 rfl infoHd) rfl ?_
              rw [HF.out, HH.out, HN.out]
              exact ⟨rfl, hEND.2.1, hEND.2.2⟩
end Go.Proofs.Ytbmbcbknoflpgaa
