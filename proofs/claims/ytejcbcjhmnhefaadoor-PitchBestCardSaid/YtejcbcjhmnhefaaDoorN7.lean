/- Contracts: the specification's best contour. -/
import Derived.Test.YtejcbcjhmnhefaaDoorM12
import Derived.Test.YtejcbcjhmnhefaaDoorL6
import Derived.Test.YtejcbcjhmnhefaaDoorT0
set_option linter.unusedSimpArgs false
set_option linter.unusedVariables false
namespace Go.Proofs.YtejcbcjhmnhefaaDoor
open Go.RowKit

theorem info34 : (Tryd.prog.info? 34).map (fun i => (i.zero, i.size, i.bytes)) = some (some (.slice none 0 0), 1, 24) := by kernel_rfl
theorem make76 (n : Nat) (hn : n ≤ 1000000) (W : World) : (Instr.makeSlice 76 (.int .i64 (n : Int)) (.int .i64 (n : Int))).run Tryd.prog W = .ok (.slice (some ⟨W.heap.size, 0, none⟩) n n) (W.alloc (.cells (madeCells #[Value.slice none 0 0] n) 34)) := by
  obtain ⟨i3, hi3, hz3, hs3, hb3⟩ := info_parts info34
  have h := run_makeSlice (P := Tryd.prog) (w := W) 76 34 i3 _ Tryd.underlying76 hi3 hz3 .i64 .i64 (n : Int) (n : Int) (by omega) (by omega) (by rw [hs3]; omega) (by rw [hb3]; omega) (by omega)
  rw [hs3] at h
  simpa [Value.cells] using h
/-- The rows that are there. -/
def rowV (m Wd : Nat) (G : Nat → Nat) (j : Nat) : Value := if m ≤ j then .slice (some ⟨G j, 0, none⟩) Wd Wd else .slice none 0 0
structure RowsC (B gR F Wd m : Nat) (C : Nat → Nat → Int) (G : Nat → Nat) (wr : World) : Prop where
  top : wr.rowIs gR 34 F (rowV m Wd G)
  row : ∀ j, m ≤ j → j < F → B ≤ G j ∧ wr.rowIs (G j) 3 Wd (fun v => .int .i64 (C j v))
theorem RowsC.keep {B gR F Wd m : Nat} {C : Nat → Nat → Int} {G : Nat → Nat} {wr wr' : World} (h : RowsC B gR F Wd m C G wr) (hB : Below wr.heap.size wr wr') : RowsC B gR F Wd m C G wr' :=
  ⟨h.top.of_block (hB.block _ h.top.lt), fun j h1 h2 => ⟨(h.row j h1 h2).1, (h.row j h1 h2).2.of_block (hB.block _ (h.row j h1 h2).2.lt)⟩⟩
theorem RowsC.set {B gR F Wd m g o : Nat} {C : Nat → Nat → Int} {G : Nat → Nat} {wr : World} {v : Value} (h : RowsC B gR F Wd m C G wr) (h1 : gR ≠ g) (h2 : ∀ j, m ≤ j → j < F → G j ≠ g) : RowsC B gR F Wd m C G (wr.setCell ⟨g, o, none⟩ v) :=
  ⟨h.top.setOther h1 v, fun j a b => ⟨(h.row j a b).1, (h.row j a b).2.setOther (h2 j a b) v⟩⟩
/-- A new row in its place. -/
theorem RowsC.new {B gR F Wd m g : Nat} {C : Nat → Nat → Int} {G : Nat → Nat} {wr : World} (h : RowsC B gR F Wd (m + 1) C G wr) (hB : B ≤ g) (hg : wr.rowIs g 3 Wd (fun v => .int .i64 (C m v))) (hv : wr.cell? ⟨gR, m, none⟩ = some (.slice (some ⟨g, 0, none⟩) Wd Wd)) : True := trivial
theorem rowV_set {m Wd g F : Nat} {G : Nat → Nat} {wr : World} {gR : Nat} (h : wr.rowIs gR 34 F (rowV (m + 1) Wd G)) : (wr.setCell ⟨gR, m, none⟩ (.slice (some ⟨g, 0, none⟩) Wd Wd)).rowIs gR 34 F (rowV m Wd (fun j => if j = m then g else G j)) :=
  (h.set m _).congr fun j _ => by
    unfold rowV
    by_cases e : j = m
    · subst e; simp
    · by_cases c : m + 1 ≤ j
      · rw [if_neg e, if_pos c, if_pos (by omega)]
        show _ = Value.slice (some ⟨if j = m then g else G j, 0, none⟩) Wd Wd
        rw [if_neg e]
      · rw [if_neg e, if_neg c, if_neg (by omega)]
theorem selB_pair {T : Nat → Nat → Int} {s : Nat} {sm : Int} {W F i : Nat} : ∃ ok g, (selB T s sm W F i) = (ok, g) := ⟨_, _, rfl⟩

set_option maxRecDepth 100000 in
set_option maxHeartbeats 16000000 in
theorem refBest_any' (F Wd s : Nat) (bst : Nat → Int) (lo hi sm : Int) (ts : List Tgt) (tv : Value) (w : World) (hF : 1 ≤ F) (hF2 : F ≤ 200) (hW1 : 1 ≤ Wd) (hW2 : Wd ≤ 401) (hwd : hi - lo + 1 = (Wd : Int)) (hlo : -100000 ≤ lo ∧ lo ≤ 100000) (hs : s ≤ 400) (hsm : 0 ≤ sm ∧ sm ≤ 1000)
    (hts : ∀ x ∈ ts, tgtOk F x = true) (htl : ts.length ≤ 200) (hbst : ∀ i, bst i = lo + (bestP (tgtC lo ts) s sm Wd F i : Nat)) (hv : SliceV w tv 3 TgtAt ts) :
    Calls Tryd.prog 27 #[.agg #[.int .i64 (F : Int), .int .i64 lo, .int .i64 hi, .int .i64 s, .int .i64 sm, tv]] w
      fun e w' => (∃ u, e = .returned u ∧ SliceV w' u 1 IntAt ((List.range F).map bst)) ∧ Below w.heap.size w w' := by
  have HV := Lib.hid hv
  have HBS := Lib.hid hbst
  clear hbst
  obtain ⟨ta, tc, rfl, -, -⟩ := hv
  have HRC : Hid (∀ i v, i < F → v < Wd → 0 ≤ rowCost (tgtC lo ts) s sm Wd F i v ∧ rowCost (tgtC lo ts) s sm Wd F i v ≤ 100000000000000000) := Lib.hid fun i v hi hv => rowCost_in hlo hts htl hF2 hW2 hsm hi hv
  have HHI : Hid (∀ (t : Nat) (u : Nat), u < Wd → 0 ≤ tgtC lo ts t u ∧ tgtC lo ts t u ≤ 20000000000000000) := Lib.hid fun t u hu => by
    have := hereC_in (F := F) (t := t) (v := lo + u) (by omega) ts hts
    rw [hereC_tgtC] at this; omega
  have H56 : Hid (∀ W (t u : Nat), Below w.heap.size w W → u < Wd → Calls Tryd.prog 56 #[.agg #[.int .i64 (F : Int), .int .i64 lo, .int .i64 hi, .int .i64 s, .int .i64 sm, .slice ta ts.length tc], .int .i64 t, .int .i64 (lo + u)] W fun e w' => e = .returned (.int .i64 (tgtC lo ts t u)) ∧ Below W.heap.size W w') := Lib.hid fun W t u hB hu => by
    have h := here_any F lo hi s sm t (lo + u) ts (.slice ta ts.length tc) W hts htl (by omega) (HV.out.keep TgtAt.stable hB)
    rwa [hereC_tgtC] at h
  have HCV : Hid (∀ i, i < F → Cvx (rowCost (tgtC lo ts) s sm Wd F i) Wd) := Lib.hid fun i hi => rowCost_cvx hts hsm.1
  have HLAST : Hid (∀ v, rowCost (tgtC lo ts) s sm Wd F (F - 1) v = tgtC lo ts (F - 1) v) := Lib.hid fun v => rowCost_last v
  have HSTEP : Hid (∀ i v, i + 1 < F → v < Wd → rowCost (tgtC lo ts) s sm Wd F i v = tgtC lo ts i v + runB (fun u => cfI (rowCost (tgtC lo ts) s sm Wd F (i + 1)) sm u v) (v - s) (ent s Wd (v + 1) - (v - s))) := Lib.hid fun i v hi hv => by
    rw [rowCost_step hi, rest_runB (HCV.out (i + 1) hi) hsm.1 (fun u hu => (HRC.out (i + 1) u hi hu).1) hv]
  have HSEL : Hid (∀ i, i < F → (runF (selB (tgtC lo ts) s sm Wd F i).1 (selB (tgtC lo ts) s sm Wd F i).2 Wd).1 = (bestP (tgtC lo ts) s sm Wd F i : Nat)) := Lib.hid fun i hi => sel_best hts hsm.1 (by omega) hi
  have HPL : Hid (∀ i, bestP (tgtC lo ts) s sm Wd F i < Wd) := Lib.hid fun i => bestP_lt (by omega) i
  have hk34 := make34 Wd (by omega)
  have hk76 := make76 F (by omega)
  clear hts
  obtain ⟨b2, hb2⟩ : ∃ b2, b2 = w.heap.size := ⟨_, rfl⟩
  have ww : IntKind.i64.wrap (hi - lo) = hi - lo := IntWalk.i64_in _ (by omega)
  have ww2 : IntKind.i64.wrap (hi - lo + 1) = (Wd : Int) := by rw [← hwd]; exact IntWalk.i64_in _ (by omega)
  go_enter Tryd.func27, Tryd.ntmps27
  go_wp2_with fail
  rw [← hb2]
  generalize hW4 : World.alloc (World.alloc w _) _ = W4
  have hB4 : Below w.heap.size w W4 := by rw [← hW4]; exact bAlloc (bAlloc (Below.refl _ _) _) _
  obtain ⟨gR, hgR⟩ : ∃ gR, gR = b2 + 1 := ⟨_, rfl⟩
  rw [← hgR]
  have hrs : W4.rowIs gR 34 F (rowV F Wd (fun _ => 0)) := by
    have h := World.rowIs_made (w.alloc (.cells #[.int .i64 (F : Int), .int .i64 lo, .int .i64 hi, .int .i64 s, .int .i64 sm, .slice ta ts.length tc] 43)) (.slice none 0 0) F 34
    rw [World.size_alloc, ← hb2, ← hgR, hW4] at h
    exact h.congr fun i hi => by unfold rowV; rw [if_neg (by omega)]
  have hp : ∀ j v, (#[Value.int .i64 (F : Int), .int .i64 lo, .int .i64 hi, .int .i64 s, .int .i64 sm, .slice ta ts.length tc] : Array Value)[j]? = some v → W4.cell? ⟨b2, j, none⟩ = some v := fun j v h => by
    rw [← hW4, hb2]; exact keep (bAlloc (Below.refl _ _) _) (cell_new h)
  obtain ⟨B, hB⟩ : ∃ B, B = W4.heap.size := ⟨_, rfl⟩
  have hgB : gR < B := by rw [hB]; exact hrs.lt
  have hbB : b2 < B := by rw [hB]; exact cell_lt (hp 0 _ rfl)
  have hbg : b2 ≠ gR := by omega
  have hgw : w.heap.size < gR := by omega
  have HB := Lib.hid hB
  have HRS := Lib.hid hrs
  have HB4 := Lib.hid hB4
  have HBK : Hid (∀ W', Kp2 B gR gR W4 W' → Below w.heap.size w W') := Lib.hid fun W' hK => HB4.out.trans ⟨hK.os, hK.tape, hK.output, hK.size, fun j hj => hK.block j (by omega) (by omega) (by omega)⟩
  have HPB : Hid (∀ W', Kp2 B gR gR W4 W' → W'.cell? ⟨b2, 0, none⟩ = some (.int .i64 F) ∧ W'.cell? ⟨b2, 1, none⟩ = some (.int .i64 lo) ∧ W'.cell? ⟨b2, 2, none⟩ = some (.int .i64 hi) ∧ W'.cell? ⟨b2, 3, none⟩ = some (.int .i64 s) ∧ W'.cell? ⟨b2, 4, none⟩ = some (.int .i64 sm) ∧ W'.cell? ⟨b2, 5, none⟩ = some (.slice ta ts.length tc)) :=
    Lib.hid fun W' hK => ⟨(hK.cell hbB hbg hbg).trans (hp 0 _ rfl), (hK.cell hbB hbg hbg).trans (hp 1 _ rfl), (hK.cell hbB hbg hbg).trans (hp 2 _ rfl), (hK.cell hbB hbg hbg).trans (hp 3 _ rfl), (hK.cell hbB hbg hbg).trans (hp 4 _ rfl), (hK.cell hbB hbg hbg).trans (hp 5 _ rfl)⟩
  have HB2 := Lib.hid hb2
  clear hW4 hB4 hrs hB hp hb2 hgR hk76
  have p0 := (HPB.out W4 (Kp2.refl _ _ _ _)).1
  have hlp := cell_lt p0
  go_wp2_with fail
  clear p0 hlp
  go_loopw [5] (fun i wr => ∃ (m : Nat) (G : Nat → Nat), m ≤ F ∧ i = .int .i64 ((m : Int) - 1) ∧ Hid (RowsC B gR F Wd m (rowCost (tgtC lo ts) s sm Wd F) G wr) ∧ Hid (Kp2 B gR gR W4 wr)) (fun i _ => (intOf i + 1).toNat)
  case atStart => exact ⟨F, fun _ => 0, Nat.le_refl _, by simp, Lib.hid ⟨HRS.out, fun j h1 h2 => by omega⟩, Lib.hid (Kp2.refl _ _ _ _)⟩
  case round =>
    obtain ⟨m, G, hm, rfl, HR, HK⟩ := hrel
    by_cases hm0 : m = 0
    · subst hm0
      rw [show ((0 : Nat) : Int) - 1 = -1 by omega]
      go_wp2_with fail
      obtain ⟨wo, hwo⟩ : ∃ wo, wo = wr := ⟨_, rfl⟩
      subst hwo
      have HPW := Lib.hid (HPB.out wo HK.out)
      have HBW := Lib.hid (HBK.out wo HK.out)
      have HTOP : Hid (∀ j, j < F → wo.cell? ⟨gR, j, none⟩ = some (.slice (some ⟨G j, 0, none⟩) Wd Wd)) := Lib.hid fun j hj => by
        have h := HR.out.top.cell (i := j) hj
        rwa [show rowV 0 Wd G j = .slice (some ⟨G j, 0, none⟩) Wd Wd by simp [rowV]] at h
      have HROW : Hid (∀ j v, j < F → v < Wd → wo.cell? ⟨G j, v, none⟩ = some (.int .i64 (rowCost (tgtC lo ts) s sm Wd F j v))) := Lib.hid fun j v hj hv => (HR.out.row j (Nat.zero_le _) hj).2.cell hv
      obtain ⟨i3, hi3, hz3, hs3, hb3⟩ := info_parts info3
      have HI := Lib.hid hi3
      have HSEL0 : Hid (selB (tgtC lo ts) s sm Wd F 0 = (fun _ => true, rowCost (tgtC lo ts) s sm Wd F 0)) := Lib.hid rfl
      have HSEL1 : Hid (∀ q, selB (tgtC lo ts) s sm Wd F (q + 1) = (okB s Wd (bestP (tgtC lo ts) s sm Wd F q), fun u => cfI (rowCost (tgtC lo ts) s sm Wd F (q + 1)) sm u (bestP (tgtC lo ts) s sm Wd F q))) := Lib.hid fun q => rfl
      clear hi3
      go_loopw [10, 11] (fun u i wr => ∃ k : Nat, k ≤ F ∧ i = .int .i64 k ∧ Hid (wr.ownsRow wo.heap.size 3 1 u k (intV ((List.range k).map bst))) ∧ Hid (Below wo.heap.size wo wr)) (fun _ i _ => F - (intOf i).toNat)
      case atStart => exact ⟨0, Nat.zero_le _, rfl, Lib.hid own_nil, Lib.hid (Below.refl _ _)⟩
      case round =>
        obtain ⟨k, hk, rfl, HO, HB5⟩ := hrel
        obtain ⟨p0, p1, -, p3, p4, -⟩ := HPW.out
        have q0 := keep HB5.out p0
        have hl0 := cell_lt q0
        by_cases hlt : k < F
        · have HSE := Lib.hid (HSEL.out k hlt)
          have e5 := keep HB5.out (HTOP.out k hlt)
          have E5 := Lib.hid e5
          have HQ := Lib.hid (And.intro (keep HB5.out p1) (And.intro (keep HB5.out p3) (keep HB5.out p4)))
          have HROK : Hid (∀ v, v < Wd → wr.cell? ⟨G k, v, none⟩ = some (.int .i64 (rowCost (tgtC lo ts) s sm Wd F k v))) := Lib.hid fun v hv => keep HB5.out (HROW.out k v hlt hv)
          have HRCK := Lib.hid (fun v hv => HRC.out k v hlt hv)
          clear p0 p1 p3 p4 e5
          have Q0 := Lib.hid q0
          obtain ⟨wi, hwi⟩ : ∃ wi, wi = wr := ⟨_, rfl⟩
          subst hwi
          have ikF : (k : Int) < (F : Int) := by omega
          by_cases hk0 : k = 0
          · subst hk0
            rw [HSEL0.out] at HSE
            generalize rowCost (tgtC lo ts) s sm Wd F 0 = A1 at *
            generalize G 0 = g1 at *
            rw [show ((0 : Nat) : Int) = 0 from rfl] at *
            go_wp2_with fail
            clear q0 hl0
            go_loopw [12, 13, 14] (fun x y i wr => ∃ n : Nat, n ≤ Wd ∧ i = .int .i64 n ∧ x = .int .i64 (runF (fun _ => true) A1 n).1 ∧ y = .int .i64 (runF (fun _ => true) A1 n).2 ∧ Hid (Below wi.heap.size wi wr)) (fun _ _ i _ => Wd - (intOf i).toNat)
            case atStart => exact ⟨0, Nat.zero_le _, rfl, rfl, rfl, Lib.hid (Below.refl _ _)⟩
            case round =>
              obtain ⟨n, hn, rfl, rfl, rfl, HB6⟩ := hrel
              by_cases hlt5 : n < Wd
              · have e5 := keep HB6.out E5.out
                have er := keep HB6.out (HROK.out n hlt5)
                have hl5 := cell_lt e5
                have hl6 := cell_lt er
                have i5 : (n : Int) < (Wd : Int) := by omega
                have HRS : Hid (runF (fun _ => true) A1 (n + 1) = if true = true ∧ ((runF (fun _ => true) A1 n).1 < 0 ∨ A1 n < (runF (fun _ => true) A1 n).2) then ((n : Int), A1 n) else runF (fun _ => true) A1 n) := Lib.hid rfl
                generalize runF (fun _ => true) A1 n = rf at *
                obtain ⟨x, y⟩ := rf
                simp only at HRS ⊢
                generalize A1 n = cq at *
                by_cases b1 : x < 0
                · have HRN : Hid (runF (fun _ => true) A1 (n + 1) = ((n : Int), cq)) := Lib.hid (by rw [HRS.out, if_pos ⟨trivial, .inl b1⟩])
                  have d1 : decide (x < 0) = true := decide_eq_true b1
                  go_wp2_with fail
                  go_roundw
                  case rel =>
                    first
                      | exact ⟨n + 1, by omega, by go_num, by rw [HRN.out], by rw [HRN.out], HB6⟩
                      | ((repeat apply Exists.intro); refine ⟨?_, rfl⟩; exact ⟨n + 1, by omega, by go_num, by rw [HRN.out], by rw [HRN.out], HB6⟩)
                  case measure => simp [intOf]; omega
                · have d1 : decide (x < 0) = false := decide_eq_false b1
                  by_cases b2' : cq < y
                  · have HRN : Hid (runF (fun _ => true) A1 (n + 1) = ((n : Int), cq)) := Lib.hid (by rw [HRS.out, if_pos ⟨trivial, .inr b2'⟩])
                    have d2 : decide (cq < y) = true := decide_eq_true b2'
                    go_wp2_with fail
                    go_roundw
                    case rel =>
                      first
                        | exact ⟨n + 1, by omega, by go_num, by rw [HRN.out], by rw [HRN.out], HB6⟩
                        | ((repeat apply Exists.intro); refine ⟨?_, rfl⟩; exact ⟨n + 1, by omega, by go_num, by rw [HRN.out], by rw [HRN.out], HB6⟩)
                    case measure => simp [intOf]; omega
                  · have HRN : Hid (runF (fun _ => true) A1 (n + 1) = (x, y)) := Lib.hid (by rw [HRS.out, if_neg (by rintro ⟨-, h | h⟩ <;> omega)])
                    have d2 : decide (cq < y) = false := decide_eq_false b2'
                    go_wp2_with fail
                    go_roundw
                    case rel =>
                      first
                        | exact ⟨n + 1, by omega, by go_num, by rw [HRN.out], by rw [HRN.out], HB6⟩
                        | ((repeat apply Exists.intro); refine ⟨?_, rfl⟩; exact ⟨n + 1, by omega, by go_num, by rw [HRN.out], by rw [HRN.out], HB6⟩)
                    case measure => simp [intOf]; omega
              · obtain rfl : n = Wd := by omega
                have HSE2 : Hid ((runF (fun _ => true) A1 n).1 = (bestP (tgtC lo ts) s sm n F 0 : Nat)) := Lib.hid HSE.out
                have hpl := HPL.out 0
                rw [HSE2.out]
                generalize (runF (fun _ => true) A1 n).2 = y at *
                have HBK0 := Lib.hid (HBS.out 0)
                generalize bestP (tgtC lo ts) s sm n F 0 = bp at *
                have p1 := keep HB6.out HQ.out.1
                have hl1 := cell_lt p1
                have w1 : IntKind.i64.wrap (lo + bp) = lo + bp := IntWalk.i64_in _ (by omega)
                have HTK : Hid (intV ((List.range 1).map bst) = intV ((List.range 0).map bst) ++ [.int .i64 (lo + bp)]) := Lib.hid (by rw [← HBK0.out]; rfl)
                have hk1 : (0 : Nat) ≤ 200 := by omega
                go_wp2_with (at_builtin; go_loud (refine wpList_append_own _ rfl _ _ 34 rfl wo.heap.size 3 i3 (.int .i64 0) 1 8 Tryd.underlying34 HI.out hz3 hs3 hb3 rfl (by decide) u10 _ _ rfl ((ownsRow_below HO.out HB6.out).alloc _) ⟨wr.heap.size, 0, none⟩ 1 1 _ rfl (by rfl) (cell_one_new _ _ _) (by simp [Value.oneCell']) (by unfold maxLen; omega) (by omega) (by have h1 := HB5.out.size; have h2 := HB6.out.size; simp; omega) ?_); intro v' w5 hown' hgrow _; have HU := Lib.hid (And.intro hown' hgrow); clear hown' hgrow)
                obtain ⟨hown', hgrow⟩ := HU.out
                have hb56 := bThen HB5.out HB6.out
                have HB7 := Lib.hid (hb56.trans (own_step hb56.size (ownsRow_below HO.out HB6.out) hgrow))
                have HO7 : Hid (w5.ownsRow wo.heap.size 3 1 v' (0 + 1) (intV ((List.range (0 + 1)).map bst))) := Lib.hid (by rw [HTK.out]; exact hown')
                clear hown' hgrow hb56
                go_roundw
                case rel =>
                  first
                    | exact ⟨0 + 1, by omega, by go_num, HO7, HB7⟩
                    | ((repeat apply Exists.intro); refine ⟨?_, rfl⟩; exact ⟨0 + 1, by omega, by go_num, HO7, HB7⟩)
                case measure => simp [intOf]; omega
          · obtain ⟨q, rfl⟩ : ∃ q, k = q + 1 := ⟨k - 1, by omega⟩
            rw [HSEL1.out] at HSE
            have HRC1 := HRCK
            have HBQ := Lib.hid (HBS.out q)
            have hpl := HPL.out q
            have hsp := HPL.out (q + 1)
            have HBK1 := Lib.hid (HBS.out (q + 1))
            generalize bestP (tgtC lo ts) s sm Wd F (q + 1) = bp at *
            generalize bestP (tgtC lo ts) s sm Wd F q = bq at *
            generalize rowCost (tgtC lo ts) s sm Wd F (q + 1) = A1 at *
            generalize G (q + 1) = g1 at *
            obtain ⟨go, co, rfl, hco⟩ := row_cell HO.out (by omega)
            have hcq : wi.cell? ⟨go, q, none⟩ = some (.int .i64 (lo + bq)) := hco q _ (by rw [← HBQ.out]; simp [intV])
            have HCQ := Lib.hid hcq
            clear hco hcq
            obtain ⟨ok, hok⟩ : ∃ ok, ok = okB s Wd bq := ⟨_, rfl⟩
            have HOKN : Hid (∀ n : Nat, n < Wd → ok n = betw ((n : Int) - bq) (-s) s) := Lib.hid fun n hn => by
              rw [hok]; unfold okB; rw [ent_eq]; unfold betw
              rw [Bool.eq_iff_iff]
              simp only [Bool.and_eq_true, decide_eq_true_eq]
              omega
            rw [← hok] at HSE
            clear hok
            rw [show ((q + 1 : Nat) : Int) = (q : Int) + 1 from rfl] at *
            have i1 : (0 : Int) ≤ (q : Int) + 1 := by omega
            have i4 : ((q : Int) + 1).toNat = q + 1 := by omega
            have i6 : (q : Int) + 1 - 1 = (q : Int) := by omega
            have i7 : (q : Int) + 1 > 0 := by omega
            have i8 : (q : Int) < (q : Int) + 1 := by omega
            go_wp2_with fail
            clear q0 hl0
            go_loopw [12, 13, 14] (fun x y i wr => ∃ n : Nat, n ≤ Wd ∧ i = .int .i64 n ∧ x = .int .i64 (runF ok (fun u => cfI A1 sm u bq) n).1 ∧ y = .int .i64 (runF ok (fun u => cfI A1 sm u bq) n).2 ∧ Hid (Below wi.heap.size wi wr)) (fun _ _ i _ => Wd - (intOf i).toNat)
            case atStart => exact ⟨0, Nat.zero_le _, rfl, rfl, rfl, Lib.hid (Below.refl _ _)⟩
            case round =>
              obtain ⟨n, hn, rfl, rfl, rfl, HB6⟩ := hrel
              by_cases hlt5 : n < Wd
              · have e5 := keep HB6.out E5.out
                have er := keep HB6.out (HROK.out n hlt5)
                have p1 := keep HB6.out HQ.out.1
                have p3 := keep HB6.out HQ.out.2.1
                have p4 := keep HB6.out HQ.out.2.2
                have eo := keep HB6.out HCQ.out
                have hl5 := cell_lt e5
                have hl6 := cell_lt er
                have hl7 := cell_lt p1
                have hl8 := cell_lt eo
                have hA := HRC1.out n hlt5
                have i5 : (n : Int) < (Wd : Int) := by omega
                have HON := Lib.hid (HOKN.out n hlt5)
                have HRS : Hid (runF ok (fun u => cfI A1 sm u bq) (n + 1) = if ok n = true ∧ ((runF ok (fun u => cfI A1 sm u bq) n).1 < 0 ∨ cfI A1 sm n bq < (runF ok (fun u => cfI A1 sm u bq) n).2) then ((n : Int), cfI A1 sm n bq) else runF ok (fun u => cfI A1 sm u bq) n) := Lib.hid rfl
                have m1 := mul_in (A := 1000) (B := 1000) (show -1000 ≤ sm by omega) (by omega) (show -1000 ≤ (n : Int) - bq by omega) (by omega)
                have m2 := wsq_in (b := 1000) (c := 1000) hsm (show -1000 ≤ (n : Int) - bq by omega) (by omega) (by omega)
                have w1 : IntKind.i64.wrap (lo + n) = lo + n := IntWalk.i64_in _ (by omega)
                have w2 : IntKind.i64.wrap (lo + n - (lo + bq)) = (n : Int) - bq := by rw [show lo + (n : Int) - (lo + bq) = (n : Int) - bq by omega]; exact IntWalk.i64_in _ (by omega)
                have w3 : IntKind.i64.wrap (sm * ((n : Int) - bq)) = sm * ((n : Int) - bq) := IntWalk.i64_in _ (by omega)
                have w4 : IntKind.i64.wrap (sm * ((n : Int) - bq) * ((n : Int) - bq)) = sm * ((n : Int) - bq) * ((n : Int) - bq) := IntWalk.i64_in _ (by omega)
                have w5 : IntKind.i64.wrap (A1 n + sm * ((n : Int) - bq) * ((n : Int) - bq)) = cfI A1 sm n bq := by unfold cfI; exact IntWalk.i64_in _ (by omega)
                have w6 : IntKind.i64.wrap (-(s : Int)) = -(s : Int) := IntWalk.i64_in _ (by omega)
                generalize runF ok (fun u => cfI A1 sm u bq) n = rf at *
                obtain ⟨x, y⟩ := rf
                simp only at HRS ⊢
                generalize hce : cfI A1 sm n bq = cq at *
                clear m1 m2 hce
                go_wp2_with fail
                refine wp_opaque fun Q3 hQ3 => ?_
                (refine wp_region_below (by kernel_rfl) (by kernel_rfl) ?_; (repeat (first | go_big_quiet_step ((fail)) | quiet_step ((fail)))); (refine wpQuiet_nil ?_; intro _ hw'; obtain ⟨xq, hw''⟩ := hw'; subst hw''))
                have HBX := Lib.hid (bThen HB6.out xq.2)
                have p3' := keep xq.2 p3
                have p4' := keep xq.2 p4
                have hl7' := cell_lt p3'
                refine hQ3 _ _ _ ?_
                clear hQ3 Q3 e5 er p1 p3 p4 eo hl5 hl6 hl7 hl8
                generalize xq.val = w7 at *
                cases g2 : betw ((n : Int) - bq) (-s) s
                · have HRN : Hid (runF ok (fun u => cfI A1 sm u bq) (n + 1) = (x, y)) := Lib.hid (by rw [HRS.out, if_neg (by rw [HON.out, g2]; rintro ⟨h, _⟩; cases h)])
                  go_wp2_with (go_at_call 49; refine (in_any _ _ _ _).mono ?_; rintro e w' ⟨rfl, rfl⟩; rw [g2])
                  go_roundw
                  case rel =>
                    first
                      | exact ⟨n + 1, by omega, by go_num, by rw [HRN.out], by rw [HRN.out], HBX⟩
                      | ((repeat apply Exists.intro); refine ⟨?_, rfl⟩; exact ⟨n + 1, by omega, by go_num, by rw [HRN.out], by rw [HRN.out], HBX⟩)
                  case measure => simp [intOf]; omega
                · rw [HON.out, g2] at HRS
                  by_cases b1 : x < 0
                  · have HRN : Hid (runF ok (fun u => cfI A1 sm u bq) (n + 1) = ((n : Int), cq)) := Lib.hid (by rw [HRS.out, if_pos ⟨rfl, .inl b1⟩])
                    have d1 : decide (x < 0) = true := decide_eq_true b1
                    go_wp2_with (go_at_call 49; refine (in_any _ _ _ _).mono ?_; rintro e w' ⟨rfl, rfl⟩; rw [g2])
                    go_wp2_with fail
                    go_roundw
                    case rel =>
                      first
                        | exact ⟨n + 1, by omega, by go_num, by rw [HRN.out], by rw [HRN.out], HBX⟩
                        | ((repeat apply Exists.intro); refine ⟨?_, rfl⟩; exact ⟨n + 1, by omega, by go_num, by rw [HRN.out], by rw [HRN.out], HBX⟩)
                    case measure => simp [intOf]; omega
                  · have d1 : decide (x < 0) = false := decide_eq_false b1
                    by_cases b2' : cq < y
                    · have HRN : Hid (runF ok (fun u => cfI A1 sm u bq) (n + 1) = ((n : Int), cq)) := Lib.hid (by rw [HRS.out, if_pos ⟨rfl, .inr b2'⟩])
                      have d2 : decide (cq < y) = true := decide_eq_true b2'
                      go_wp2_with (go_at_call 49; refine (in_any _ _ _ _).mono ?_; rintro e w' ⟨rfl, rfl⟩; rw [g2])
                      go_wp2_with fail
                      go_roundw
                      case rel =>
                        first
                          | exact ⟨n + 1, by omega, by go_num, by rw [HRN.out], by rw [HRN.out], HBX⟩
                          | ((repeat apply Exists.intro); refine ⟨?_, rfl⟩; exact ⟨n + 1, by omega, by go_num, by rw [HRN.out], by rw [HRN.out], HBX⟩)
                      case measure => simp [intOf]; omega
                    · have HRN : Hid (runF ok (fun u => cfI A1 sm u bq) (n + 1) = (x, y)) := Lib.hid (by rw [HRS.out, if_neg (by rintro ⟨-, h | h⟩ <;> omega)])
                      have d2 : decide (cq < y) = false := decide_eq_false b2'
                      go_wp2_with (go_at_call 49; refine (in_any _ _ _ _).mono ?_; rintro e w' ⟨rfl, rfl⟩; rw [g2])
                      go_wp2_with fail
                      go_roundw
                      case rel =>
                        first
                          | exact ⟨n + 1, by omega, by go_num, by rw [HRN.out], by rw [HRN.out], HBX⟩
                          | ((repeat apply Exists.intro); refine ⟨?_, rfl⟩; exact ⟨n + 1, by omega, by go_num, by rw [HRN.out], by rw [HRN.out], HBX⟩)
                      case measure => simp [intOf]; omega
              · obtain rfl : n = Wd := by omega
                have HSE2 : Hid ((runF ok (fun u => cfI A1 sm u bq) n).1 = (bp : Nat)) := Lib.hid HSE.out
                rw [HSE2.out]
                generalize (runF ok (fun u => cfI A1 sm u bq) n).2 = y at *
                have p1 := keep HB6.out HQ.out.1
                have hl1 := cell_lt p1
                have w1 : IntKind.i64.wrap (lo + bp) = lo + bp := IntWalk.i64_in _ (by omega)
                have HTK : Hid (intV ((List.range (q + 1 + 1)).map bst) = intV ((List.range (q + 1)).map bst) ++ [.int .i64 (lo + bp)]) := Lib.hid (by rw [← HBK1.out, List.range_succ (n := q + 1), List.map_append]; simp [intV])
                go_wp2_with (at_builtin; go_loud (refine wpList_append_own _ rfl _ _ 34 rfl wo.heap.size 3 i3 (.int .i64 0) 1 8 Tryd.underlying34 HI.out hz3 hs3 hb3 rfl (by decide) (.slice (some ⟨go, 0, none⟩) (q + 1) co) _ _ rfl ((ownsRow_below HO.out HB6.out).alloc _) ⟨wr.heap.size, 0, none⟩ 1 1 _ rfl (by rfl) (cell_one_new _ _ _) (by simp [Value.oneCell']) (by unfold maxLen; omega) (by omega) (by have h1 := HB5.out.size; have h2 := HB6.out.size; simp; omega) ?_); intro v' w5 hown' hgrow _; have HU := Lib.hid (And.intro hown' hgrow); clear hown' hgrow)
                obtain ⟨hown', hgrow⟩ := HU.out
                have hb56 := bThen HB5.out HB6.out
                have HB7 := Lib.hid (hb56.trans (own_step hb56.size (ownsRow_below HO.out HB6.out) hgrow))
                have HO7 : Hid (w5.ownsRow wo.heap.size 3 1 v' ((q + 1) + 1) (intV ((List.range ((q + 1) + 1)).map bst))) := Lib.hid (by rw [HTK.out]; exact hown')
                clear hown' hgrow hb56
                go_roundw
                case rel =>
                  first
                    | exact ⟨(q + 1) + 1, by omega, by go_num, HO7, HB7⟩
                    | ((repeat apply Exists.intro); refine ⟨?_, rfl⟩; exact ⟨(q + 1) + 1, by omega, by go_num, HO7, HB7⟩)
                case measure => simp [intOf]; omega
        · obtain rfl : k = F := by omega
          go_wp2_with fail
          go_ret
          refine ⟨⟨_, rfl, ?_⟩, bThen HBW.out HB5.out⟩
          exact vals_slice (l := (List.range k).map bst) (by rw [List.length_map, List.length_range]; exact HO.out) (by rw [List.length_map, List.length_range]; omega)
    · obtain ⟨t, rfl⟩ : ∃ t, m = t + 1 := ⟨m - 1, by omega⟩
      rw [show ((t + 1 : Nat) : Int) - 1 = (t : Int) by omega]
      have htF : t < F := by omega
      have i3 : (t : Int) < (F : Int) := by omega
      have e0 := HR.out.top.cell (i := t) htF
      have z0 := HR.out.top.frozen t
      have hlR := HR.out.top.lt
      obtain ⟨wo, hwo⟩ : ∃ wo, wo = wr := ⟨_, rfl⟩
      subst hwo
      obtain ⟨g, hg⟩ : ∃ g, g = wo.heap.size := ⟨_, rfl⟩
      go_wp2_with fail
      rw [← hg]
      generalize hW5 : World.alloc (World.setCell _ _ _) _ = W5
      have hBg : B ≤ g := by rw [hg, HB.out]; exact HK.out.size
      have hs0 : (wo.setCell ⟨gR, t, none⟩ (.slice (some ⟨g, 0, none⟩) Wd Wd)).heap.size = g := by rw [hg]; simp [World.setCell]
      have hs5 : W5.heap.size = g + 1 := by rw [← hW5, World.size_alloc, hs0]
      have hG : ∀ j, t + 1 ≤ j → j < F → B ≤ G j ∧ G j < g := fun j h1 h2 => ⟨(HR.out.row j h1 h2).1, by rw [hg]; exact (HR.out.row j h1 h2).2.lt⟩
      have hR5 : W5.rowIs gR 34 F (rowV t Wd (fun j => if j = t then g else G j)) := by rw [← hW5]; exact (rowV_set HR.out.top).alloc _
      have hg5 : W5.rowIs g 3 Wd (fun _ => .int .i64 0) := by
        rw [← hW5]
        have h := World.rowIs_made (wo.setCell ⟨gR, t, none⟩ (.slice (some ⟨g, 0, none⟩) Wd Wd)) (.int .i64 0) Wd 3
        rw [hs0] at h
        exact h
      have hr5 : ∀ j, t + 1 ≤ j → j < F → W5.rowIs (G j) 3 Wd (fun v => .int .i64 (rowCost (tgtC lo ts) s sm Wd F j v)) := fun j h1 h2 => by
        rw [← hW5]
        exact ((HR.out.row j h1 h2).2.setOther (by show G j ≠ gR; have := (hG j h1 h2).1; omega) _).alloc _
      have hK5 : Kp2 B gR gR W4 W5 := by
        rw [← hW5]
        exact (HK.out.trans (Kp2.setCell (.inl rfl))).trans (Kp2.of_below ((bAlloc (Below.refl _ _) _).mono (by rw [hs0]; exact hBg)))
      have HR5 : Hid (∀ W', Kp2 (g + 1) g g W5 W' → W'.rowIs gR 34 F (rowV t Wd (fun j => if j = t then g else G j)) ∧ (∀ j, t + 1 ≤ j → j < F → W'.rowIs (G j) 3 Wd (fun v => .int .i64 (rowCost (tgtC lo ts) s sm Wd F j v))) ∧ Kp2 B gR gR W4 W') :=
        Lib.hid fun W' hK => ⟨hR5.of_block (hK.block gR (by omega) (by omega) (by omega)), fun j h1 h2 => (hr5 j h1 h2).of_block (hK.block (G j) (by have := (hG j h1 h2).2; omega) (by have := (hG j h1 h2).2; omega) (by have := (hG j h1 h2).2; omega)), hK5.trans ⟨hK.os, hK.tape, hK.output, hK.size, fun k h1 h2 h3 => hK.block k (by omega) (by omega) (by omega)⟩⟩
      have HG := Lib.hid hG
      have HS5 := Lib.hid hs5
      clear hW5 hR5 hr5 hK5 hG hs5 hs0 e0 z0 hlR
      have HGG := Lib.hid hg
      clear hg
      go_loopw [6] (fun i wr => ∃ v : Nat, v ≤ Wd ∧ i = .int .i64 v ∧ Hid (wr.rowIs g 3 Wd (fun u => .int .i64 (if u < v then rowCost (tgtC lo ts) s sm Wd F t u else 0))) ∧ Hid (Kp2 (g + 1) g g W5 wr)) (fun i _ => Wd - (intOf i).toNat)
      case atStart => exact ⟨0, Nat.zero_le _, rfl, Lib.hid (hg5.congr fun u _ => by rw [if_neg (by omega)]), Lib.hid (Kp2.refl _ _ _ _)⟩
      case round =>
        clear hg5
        obtain ⟨v, hv, rfl, HV2, HK2⟩ := hrel
        obtain ⟨hR', hrow', hK'⟩ := HR5.out wr HK2.out
        by_cases hlt : v < Wd
        · obtain ⟨p0, p1, p2, p3, p4, p5⟩ := HPB.out wr hK'
          have et := hR'.cell (i := t) htF
          rw [show rowV t Wd (fun j => if j = t then g else G j) t = .slice (some ⟨g, 0, none⟩) Wd Wd by simp [rowV]] at et
          have eg := HV2.out.cell (i := v) hlt
          rw [if_neg (Nat.lt_irrefl v)] at eg
          have hlg := HV2.out.lt
          have hlp := cell_lt p0
          have hlt' := hR'.lt
          have h56 := fun x : BW wr => H56.out x.val t v (bThen (HBK.out wr hK') x.2) hlt
          have w1 : IntKind.i64.wrap (lo + v) = lo + v := IntWalk.i64_in _ (by omega)
          have i4 : (v : Int) < (Wd : Int) := by omega
          have hsz : g + 1 ≤ wr.heap.size := by rw [← HS5.out]; exact HK2.out.size
          clear hR' hrow' hK'
          go_wp2_with fail
          refine wp_opaque fun Q2 hQ2 => ?_
          (refine region_below_tail 13 (by kernel_rfl) (by kernel_rfl) ?_; (simp only [List.take_succ_cons, List.take_zero, List.drop_succ_cons, List.drop_zero]); (repeat (first | go_big_quiet_step ((go_at_call 56; with_reducible exact toB h56 _)) | quiet_step ((go_at_call 56; with_reducible exact toB h56 _)))); (refine wpQuiet_nil ?_; intro _ hw'; obtain ⟨xq, hw''⟩ := hw'; subst hw''))
          have hbx := xq.2
          have d0 := keep hbx eg
          have y0 := (HV2.out.of_block (hbx.block g hlg)).frozen v
          have HG6 := Lib.hid ((HV2.out.of_block (hbx.block g hlg)).set v (.int .i64 (tgtC lo ts t v)))
          have HK6 : Hid (Kp2 (g + 1) g g W5 (xq.val.setCell ⟨g, v, none⟩ (.int .i64 (tgtC lo ts t v)))) := Lib.hid ((HK2.out.trans (Kp2.of_below (hbx.mono hsz))).trans (Kp2.setCell (.inl rfl)))
          clear hbx
          by_cases htl : t + 1 = F
          · have c1 : (t : Int) = (F : Int) - 1 := by omega
            have d1 : ((t : Int) == (F : Int) - 1) = true := by simp; omega
            have HNX : Hid ((xq.val.setCell ⟨g, v, none⟩ (.int .i64 (tgtC lo ts t v))).rowIs g 3 Wd (fun u => .int .i64 (if u < v + 1 then rowCost (tgtC lo ts) s sm Wd F t u else 0))) := Lib.hid (HG6.out.congr fun u _ => by
              by_cases e : u = v
              · subst e; rw [if_pos rfl, if_pos (by omega), show t = F - 1 by omega, HLAST.out]
              · rw [if_neg e]; by_cases c : u < v
                · rw [if_pos c, if_pos (by omega)]
                · rw [if_neg c, if_neg (by omega)])
            clear htl
            go_wp2_with fail
            refine ⟨⟨v + 1, by omega, by go_num, HNX, HK6⟩, by simp [intOf]; omega⟩
          · have c1 : ¬ ((t : Int) = (F : Int) - 1) := by omega
            have d1 : ((t : Int) == (F : Int) - 1) = false := by simp; omega
            have HTL : Hid (t + 1 < F) := Lib.hid (by omega)
            clear htl
            obtain ⟨a, ha⟩ : ∃ a, a = v - s := ⟨_, rfl⟩
            by_cases hsv : s < v
            · have hva : (v : Int) - (s : Int) = (a : Int) := by omega
              have ha0 : (0 : Int) < (a : Int) := by omega
              have HA := Lib.hid ha
              clear ha
              go_wp2_with fail
              generalize hW6 : World.setCell _ _ _ = W6
              rw [hW6] at HG6 HK6
              clear hW6 h56 d0 y0 et eg hlt' hlg hlp p0 p1 p2 p3 p4 p5
              obtain ⟨wz, hwz⟩ : ∃ wz, wz = wr := ⟨_, rfl⟩
              subst hwz
              obtain ⟨hR', hrow', hK'⟩ := HR5.out W6 HK6.out
              have HPW := Lib.hid (HPB.out W6 hK')
              have e6 := hR'.cell (i := t) htF
              rw [show rowV t Wd (fun j => if j = t then g else G j) t = .slice (some ⟨g, 0, none⟩) Wd Wd by simp [rowV]] at e6
              have e7' := hR'.cell (i := t + 1) HTL.out
              rw [show rowV t Wd (fun j => if j = t then g else G j) (t + 1) = .slice (some ⟨G (t + 1), 0, none⟩) Wd Wd by simp [rowV]] at e7'
              have HRW := Lib.hid (hrow' (t + 1) (Nat.le_refl _) HTL.out)
              have HE := Lib.hid (And.intro e6 e7')
              have HST := Lib.hid (HSTEP.out t v HTL.out hlt)
              have HA1 := Lib.hid (fun u (hu : u < Wd) => HRC.out (t + 1) u HTL.out hu)
              have HTV := Lib.hid (HHI.out t v hlt)
              have HRT := Lib.hid (HRC.out t v htF hlt)
              obtain ⟨ee, hee⟩ : ∃ ee, ee = ent s Wd (v + 1) := ⟨_, rfl⟩
              rw [← hee, ← HA.out] at HST
              have hee2 : ee = min Wd (v + 1 + s) := by rw [hee]; exact ent_eq
              have ha2 := HA.out
              have hav : a ≤ v ∧ a < ee := by omega
              have HG6' : Hid (W6.cell? ⟨g, v, none⟩ = some (.int .i64 (tgtC lo ts t v))) := Lib.hid (by rw [HG6.out.cell hlt, if_pos rfl])
              have HTL2 : (t : Int) + 1 < (F : Int) := by have := HTL.out; omega
              generalize rowCost (tgtC lo ts) s sm Wd F (t + 1) = A1 at *
              generalize G (t + 1) = g1 at *
              clear hR' hrow' hK' e6 e7' hee ha2
              go_loopw [7, 8] (fun b k wr => ∃ n, a + n ≤ ee ∧ k = .int .i64 ((a + n : Nat) : Int) ∧ b = .int .i64 (runB (fun u => cfI A1 sm u v) a n) ∧ Hid (Below W6.heap.size W6 wr)) (fun _ k _ => Wd - (intOf k).toNat)
              case atStart => exact ⟨0, by omega, by first | rfl | (congr 1; have := HA.out; omega), rfl, Lib.hid (Below.refl _ _)⟩
              case round =>
                obtain ⟨n, hn, rfl, rfl, HB3⟩ := hrel
                obtain ⟨p0, p1, p2, p3, p4, p5⟩ := HPW.out
                replace p3 := keep HB3.out p3
                replace p4 := keep HB3.out p4
                obtain ⟨q, hq⟩ : ∃ q, q = a + n := ⟨_, rfl⟩
                have hqn : a + (n + 1) = q + 1 := by omega
                have hqi : (q : Int) + 1 = ((q + 1 : Nat) : Int) := rfl
                rw [← hq]
                clear p0 p1 p2 p5
                by_cases hlt3 : q < ee
                · have e7 := keep HB3.out HE.out.2
                  have er : wr.cell? ⟨g1, q, none⟩ = some (.int .i64 (A1 q)) := keep HB3.out (HRW.out.cell (i := q) (by omega))
                  have hA := HA1.out q (by omega)
                  have HRS : Hid (runB (fun u => cfI A1 sm u v) a (n + 1) = if runB (fun u => cfI A1 sm u v) a n < 0 ∨ cfI A1 sm q v < runB (fun u => cfI A1 sm u v) a n then cfI A1 sm q v else runB (fun u => cfI A1 sm u v) a n) := Lib.hid (by rw [hq]; rfl)
                  have m1 := mul_in (A := 1000) (B := 1000) (show -1000 ≤ sm by omega) (by omega) (show -1000 ≤ (q : Int) - v by omega) (by omega)
                  have m2 := wsq_in (b := 1000) (c := 1000) hsm (show -1000 ≤ (q : Int) - v by omega) (by omega) (by omega)
                  have w2 : IntKind.i64.wrap ((q : Int) - v) = (q : Int) - v := IntWalk.i64_in _ (by omega)
                  have w3 : IntKind.i64.wrap (sm * ((q : Int) - v)) = sm * ((q : Int) - v) := IntWalk.i64_in _ (by omega)
                  have w4 : IntKind.i64.wrap (sm * ((q : Int) - v) * ((q : Int) - v)) = sm * ((q : Int) - v) * ((q : Int) - v) := IntWalk.i64_in _ (by omega)
                  have w5 : IntKind.i64.wrap (sm * ((q : Int) - v) * ((q : Int) - v) + A1 q) = cfI A1 sm q v := by unfold cfI; rw [Int.add_comm]; exact IntWalk.i64_in _ (by omega)
                  have i5 : (q : Int) < (Wd : Int) := by omega
                  have i6 : (q : Int) ≤ (Wd : Int) - 1 := by omega
                  have i7 : (q : Int) ≤ (v : Int) + s := by omega
                  generalize runB (fun u => cfI A1 sm u v) a n = rb at *
                  generalize hcq : cfI A1 sm q v = cq at *
                  have HQQ := Lib.hid (And.intro hq (And.intro hqn hqi))
                  clear m1 m2 hcq hq hqn hqi
                  by_cases hmn : (v : Int) + s < (Wd : Int) - 1
                  · have i1 : (0 : Int) ≤ (t : Int) + 1 := by omega
                    have i4 : ((t : Int) + 1).toNat = t + 1 := by omega
                    have hl7 := cell_lt e7
                    have hl8 := cell_lt er
                    have hl9 := cell_lt p3
                    go_wp2_with fail
                    refine wp_opaque fun Q3 hQ3 => ?_
                    (refine wp_region_below (by kernel_rfl) (by kernel_rfl) ?_; (repeat (first | go_big_quiet_step ((fail)) | quiet_step ((fail)))); (refine wpQuiet_nil ?_; intro _ hw'; obtain ⟨xq, hw''⟩ := hw'; subst hw''))
                    have HBX := Lib.hid xq.2
                    refine hQ3 _ _ _ ?_
                    clear hQ3 Q3 e7 er p3 p4 hl7 hl8 hl9
                    generalize xq.val = w7 at *
                    by_cases b1 : rb < 0
                    · have HRN : Hid (runB (fun u => cfI A1 sm u v) a (n + 1) = cq) := Lib.hid (by rw [HRS.out, if_pos (.inl b1)])
                      have d1 : decide (rb < 0) = true := decide_eq_true b1
                      have HNB := Lib.hid (bThen HB3.out HBX.out)
                      go_wp2_with fail
                      obtain ⟨hq, hqn, hqi⟩ := HQQ.out
                      first
                        | (go_roundw
                           case rel =>
                             first
                               | exact ⟨n + 1, by omega, by rw [hqi, hqn], by rw [HRN.out], HNB⟩
                               | ((repeat apply Exists.intro); refine ⟨?_, rfl⟩; exact ⟨n + 1, by omega, by rw [hqi, hqn], by rw [HRN.out], HNB⟩)
                           case measure => simp [intOf]; omega)
                        | (refine ⟨⟨n + 1, by omega, by rw [hqi, hqn], by rw [HRN.out], HNB⟩, by simp [intOf]; omega⟩)
                    · have d1 : decide (rb < 0) = false := decide_eq_false b1
                      by_cases b2' : cq < rb
                      · have HRN : Hid (runB (fun u => cfI A1 sm u v) a (n + 1) = cq) := Lib.hid (by rw [HRS.out, if_pos (.inr b2')])
                        have d2 : decide (cq < rb) = true := decide_eq_true b2'
                        have HNB := Lib.hid (bThen HB3.out HBX.out)
                        go_wp2_with fail
                        obtain ⟨hq, hqn, hqi⟩ := HQQ.out
                        first
                          | (go_roundw
                             case rel =>
                               first
                                 | exact ⟨n + 1, by omega, by rw [hqi, hqn], by rw [HRN.out], HNB⟩
                                 | ((repeat apply Exists.intro); refine ⟨?_, rfl⟩; exact ⟨n + 1, by omega, by rw [hqi, hqn], by rw [HRN.out], HNB⟩)
                             case measure => simp [intOf]; omega)
                          | (refine ⟨⟨n + 1, by omega, by rw [hqi, hqn], by rw [HRN.out], HNB⟩, by simp [intOf]; omega⟩)
                      · have HRN : Hid (runB (fun u => cfI A1 sm u v) a (n + 1) = rb) := Lib.hid (by rw [HRS.out, if_neg (by omega)])
                        have d2 : decide (cq < rb) = false := decide_eq_false b2'
                        have HNB := Lib.hid (bThen HB3.out HBX.out)
                        go_wp2_with fail
                        obtain ⟨hq, hqn, hqi⟩ := HQQ.out
                        first
                          | (go_roundw
                             case rel =>
                               first
                                 | exact ⟨n + 1, by omega, by rw [hqi, hqn], by rw [HRN.out], HNB⟩
                                 | ((repeat apply Exists.intro); refine ⟨?_, rfl⟩; exact ⟨n + 1, by omega, by rw [hqi, hqn], by rw [HRN.out], HNB⟩)
                             case measure => simp [intOf]; omega)
                          | (refine ⟨⟨n + 1, by omega, by rw [hqi, hqn], by rw [HRN.out], HNB⟩, by simp [intOf]; omega⟩)
                  · have i1 : (0 : Int) ≤ (t : Int) + 1 := by omega
                    have i4 : ((t : Int) + 1).toNat = t + 1 := by omega
                    have hl7 := cell_lt e7
                    have hl8 := cell_lt er
                    have hl9 := cell_lt p3
                    go_wp2_with fail
                    refine wp_opaque fun Q3 hQ3 => ?_
                    (refine wp_region_below (by kernel_rfl) (by kernel_rfl) ?_; (repeat (first | go_big_quiet_step ((fail)) | quiet_step ((fail)))); (refine wpQuiet_nil ?_; intro _ hw'; obtain ⟨xq, hw''⟩ := hw'; subst hw''))
                    have HBX := Lib.hid xq.2
                    refine hQ3 _ _ _ ?_
                    clear hQ3 Q3 e7 er p3 p4 hl7 hl8 hl9
                    generalize xq.val = w7 at *
                    by_cases b1 : rb < 0
                    · have HRN : Hid (runB (fun u => cfI A1 sm u v) a (n + 1) = cq) := Lib.hid (by rw [HRS.out, if_pos (.inl b1)])
                      have d1 : decide (rb < 0) = true := decide_eq_true b1
                      have HNB := Lib.hid (bThen HB3.out HBX.out)
                      go_wp2_with fail
                      obtain ⟨hq, hqn, hqi⟩ := HQQ.out
                      first
                        | (go_roundw
                           case rel =>
                             first
                               | exact ⟨n + 1, by omega, by rw [hqi, hqn], by rw [HRN.out], HNB⟩
                               | ((repeat apply Exists.intro); refine ⟨?_, rfl⟩; exact ⟨n + 1, by omega, by rw [hqi, hqn], by rw [HRN.out], HNB⟩)
                           case measure => simp [intOf]; omega)
                        | (refine ⟨⟨n + 1, by omega, by rw [hqi, hqn], by rw [HRN.out], HNB⟩, by simp [intOf]; omega⟩)
                    · have d1 : decide (rb < 0) = false := decide_eq_false b1
                      by_cases b2' : cq < rb
                      · have HRN : Hid (runB (fun u => cfI A1 sm u v) a (n + 1) = cq) := Lib.hid (by rw [HRS.out, if_pos (.inr b2')])
                        have d2 : decide (cq < rb) = true := decide_eq_true b2'
                        have HNB := Lib.hid (bThen HB3.out HBX.out)
                        go_wp2_with fail
                        obtain ⟨hq, hqn, hqi⟩ := HQQ.out
                        first
                          | (go_roundw
                             case rel =>
                               first
                                 | exact ⟨n + 1, by omega, by rw [hqi, hqn], by rw [HRN.out], HNB⟩
                                 | ((repeat apply Exists.intro); refine ⟨?_, rfl⟩; exact ⟨n + 1, by omega, by rw [hqi, hqn], by rw [HRN.out], HNB⟩)
                             case measure => simp [intOf]; omega)
                          | (refine ⟨⟨n + 1, by omega, by rw [hqi, hqn], by rw [HRN.out], HNB⟩, by simp [intOf]; omega⟩)
                      · have HRN : Hid (runB (fun u => cfI A1 sm u v) a (n + 1) = rb) := Lib.hid (by rw [HRS.out, if_neg (by omega)])
                        have d2 : decide (cq < rb) = false := decide_eq_false b2'
                        have HNB := Lib.hid (bThen HB3.out HBX.out)
                        go_wp2_with fail
                        obtain ⟨hq, hqn, hqi⟩ := HQQ.out
                        first
                          | (go_roundw
                             case rel =>
                               first
                                 | exact ⟨n + 1, by omega, by rw [hqi, hqn], by rw [HRN.out], HNB⟩
                                 | ((repeat apply Exists.intro); refine ⟨?_, rfl⟩; exact ⟨n + 1, by omega, by rw [hqi, hqn], by rw [HRN.out], HNB⟩)
                             case measure => simp [intOf]; omega)
                          | (refine ⟨⟨n + 1, by omega, by rw [hqi, hqn], by rw [HRN.out], HNB⟩, by simp [intOf]; omega⟩)
                · obtain rfl : q = ee := by omega
                  have HRB : Hid (rowCost (tgtC lo ts) s sm Wd F t v = tgtC lo ts t v + runB (fun u => cfI A1 sm u v) a n) := Lib.hid (by rw [HST.out, show q - a = n by omega])
                  have e6 := keep HB3.out HE.out.1
                  have d0 := keep HB3.out HG6'.out
                  have hbg6 := HB3.out.block g (cell_lt HG6'.out)
                  have hgr := HG6.out.of_block hbg6
                  have hlg := hgr.lt
                  have hl6 := cell_lt e6
                  have hl9 := cell_lt p3
                  have htv := HTV.out
                  have hrt := HRT.out
                  rw [HRB.out] at hrt
                  have hsz6 : g + 1 ≤ wr.heap.size := by have h1 := HK6.out.size; have h2 := HS5.out; have h3 := HB3.out.size; omega
                  generalize runB (fun u => cfI A1 sm u v) a n = rb at *
                  generalize tgtC lo ts t v = tv at *
                  have w2 : IntKind.i64.wrap (tv + rb) = tv + rb := IntWalk.i64_in _ (by omega)
                  have HGR := Lib.hid hgr
                  clear hbg6 hgr hq hqn hqi
                  by_cases hmn : (v : Int) + s < (Wd : Int) - 1
                  · have i7 : ¬ ((q : Int) ≤ (v : Int) + s) := by omega
                    go_wp2_with fail
                    refine wp_opaque fun Q3 hQ3 => ?_
                    (refine region_below_tail 15 (by kernel_rfl) (by kernel_rfl) ?_; (simp only [List.take_succ_cons, List.take_zero, List.drop_succ_cons, List.drop_zero]); (repeat (first | go_big_quiet_step ((fail)) | quiet_step ((fail)))); (refine wpQuiet_nil ?_; intro _ hw'; obtain ⟨xq, hw''⟩ := hw'; subst hw''))
                    have hbx := xq.2
                    have d0' := keep hbx d0
                    have y0 := (HGR.out.of_block (hbx.block g hlg)).frozen v
                    have HGN : Hid ((xq.val.setCell ⟨g, v, none⟩ (.int .i64 (tv + rb))).rowIs g 3 Wd (fun u => .int .i64 (if u < v + 1 then rowCost (tgtC lo ts) s sm Wd F t u else 0))) := Lib.hid (((HGR.out.of_block (hbx.block g hlg)).set v (.int .i64 (tv + rb))).congr fun u _ => by
                      by_cases e : u = v
                      · subst e; rw [if_pos rfl, if_pos (by omega), HRB.out]
                      · rw [if_neg e, if_neg e]; by_cases c : u < v
                        · rw [if_pos c, if_pos (by omega)]
                        · rw [if_neg c, if_neg (by omega)])
                    have HKN : Hid (Kp2 (g + 1) g g W5 (xq.val.setCell ⟨g, v, none⟩ (.int .i64 (tv + rb)))) := Lib.hid (((HK6.out.trans (Kp2.of_below (HB3.out.mono (by have h1 := HK6.out.size; have h2 := HS5.out; omega)))).trans (Kp2.of_below (hbx.mono hsz6))).trans (Kp2.setCell (.inl rfl)))
                    clear hbx
                    go_wp2_with fail
                    first
                      | (go_roundw
                         case rel =>
                           first
                             | exact ⟨v + 1, by omega, by go_num, HGN, HKN⟩
                             | ((repeat apply Exists.intro); refine ⟨?_, rfl⟩; exact ⟨v + 1, by omega, by go_num, HGN, HKN⟩)
                         case measure => simp [intOf]; omega)
                      | (refine ⟨⟨v + 1, by omega, by go_num, HGN, HKN⟩, by simp [intOf]; omega⟩)
                  · have i7 : ¬ ((q : Int) ≤ (Wd : Int) - 1) := by omega
                    go_wp2_with fail
                    refine wp_opaque fun Q3 hQ3 => ?_
                    (refine region_below_tail 15 (by kernel_rfl) (by kernel_rfl) ?_; (simp only [List.take_succ_cons, List.take_zero, List.drop_succ_cons, List.drop_zero]); (repeat (first | go_big_quiet_step ((fail)) | quiet_step ((fail)))); (refine wpQuiet_nil ?_; intro _ hw'; obtain ⟨xq, hw''⟩ := hw'; subst hw''))
                    have hbx := xq.2
                    have d0' := keep hbx d0
                    have y0 := (HGR.out.of_block (hbx.block g hlg)).frozen v
                    have HGN : Hid ((xq.val.setCell ⟨g, v, none⟩ (.int .i64 (tv + rb))).rowIs g 3 Wd (fun u => .int .i64 (if u < v + 1 then rowCost (tgtC lo ts) s sm Wd F t u else 0))) := Lib.hid (((HGR.out.of_block (hbx.block g hlg)).set v (.int .i64 (tv + rb))).congr fun u _ => by
                      by_cases e : u = v
                      · subst e; rw [if_pos rfl, if_pos (by omega), HRB.out]
                      · rw [if_neg e, if_neg e]; by_cases c : u < v
                        · rw [if_pos c, if_pos (by omega)]
                        · rw [if_neg c, if_neg (by omega)])
                    have HKN : Hid (Kp2 (g + 1) g g W5 (xq.val.setCell ⟨g, v, none⟩ (.int .i64 (tv + rb)))) := Lib.hid (((HK6.out.trans (Kp2.of_below (HB3.out.mono (by have h1 := HK6.out.size; have h2 := HS5.out; omega)))).trans (Kp2.of_below (hbx.mono hsz6))).trans (Kp2.setCell (.inl rfl)))
                    clear hbx
                    go_wp2_with fail
                    first
                      | (go_roundw
                         case rel =>
                           first
                             | exact ⟨v + 1, by omega, by go_num, HGN, HKN⟩
                             | ((repeat apply Exists.intro); refine ⟨?_, rfl⟩; exact ⟨v + 1, by omega, by go_num, HGN, HKN⟩)
                         case measure => simp [intOf]; omega)
                      | (refine ⟨⟨v + 1, by omega, by go_num, HGN, HKN⟩, by simp [intOf]; omega⟩)
            · have hva : ¬ (0 < (v : Int) - (s : Int)) := by omega
              have hva2 : (v : Int) - (s : Int) ≤ 0 := by omega
              have HA := Lib.hid ha
              clear ha
              go_wp2_with fail
              generalize hW6 : World.setCell _ _ _ = W6
              rw [hW6] at HG6 HK6
              clear hW6 h56 d0 y0 et eg hlt' hlg hlp p0 p1 p2 p3 p4 p5
              obtain ⟨wz, hwz⟩ : ∃ wz, wz = wr := ⟨_, rfl⟩
              subst hwz
              obtain ⟨hR', hrow', hK'⟩ := HR5.out W6 HK6.out
              have HPW := Lib.hid (HPB.out W6 hK')
              have e6 := hR'.cell (i := t) htF
              rw [show rowV t Wd (fun j => if j = t then g else G j) t = .slice (some ⟨g, 0, none⟩) Wd Wd by simp [rowV]] at e6
              have e7' := hR'.cell (i := t + 1) HTL.out
              rw [show rowV t Wd (fun j => if j = t then g else G j) (t + 1) = .slice (some ⟨G (t + 1), 0, none⟩) Wd Wd by simp [rowV]] at e7'
              have HRW := Lib.hid (hrow' (t + 1) (Nat.le_refl _) HTL.out)
              have HE := Lib.hid (And.intro e6 e7')
              have HST := Lib.hid (HSTEP.out t v HTL.out hlt)
              have HA1 := Lib.hid (fun u (hu : u < Wd) => HRC.out (t + 1) u HTL.out hu)
              have HTV := Lib.hid (HHI.out t v hlt)
              have HRT := Lib.hid (HRC.out t v htF hlt)
              obtain ⟨ee, hee⟩ : ∃ ee, ee = ent s Wd (v + 1) := ⟨_, rfl⟩
              rw [← hee, ← HA.out] at HST
              have hee2 : ee = min Wd (v + 1 + s) := by rw [hee]; exact ent_eq
              have ha2 := HA.out
              have hav : a ≤ v ∧ a < ee := by omega
              have HG6' : Hid (W6.cell? ⟨g, v, none⟩ = some (.int .i64 (tgtC lo ts t v))) := Lib.hid (by rw [HG6.out.cell hlt, if_pos rfl])
              have HTL2 : (t : Int) + 1 < (F : Int) := by have := HTL.out; omega
              generalize rowCost (tgtC lo ts) s sm Wd F (t + 1) = A1 at *
              generalize G (t + 1) = g1 at *
              clear hR' hrow' hK' e6 e7' hee ha2
              go_loopw [7, 8] (fun b k wr => ∃ n, a + n ≤ ee ∧ k = .int .i64 ((a + n : Nat) : Int) ∧ b = .int .i64 (runB (fun u => cfI A1 sm u v) a n) ∧ Hid (Below W6.heap.size W6 wr)) (fun _ k _ => Wd - (intOf k).toNat)
              case atStart => exact ⟨0, by omega, by first | rfl | (congr 1; have := HA.out; omega), rfl, Lib.hid (Below.refl _ _)⟩
              case round =>
                obtain ⟨n, hn, rfl, rfl, HB3⟩ := hrel
                obtain ⟨p0, p1, p2, p3, p4, p5⟩ := HPW.out
                replace p3 := keep HB3.out p3
                replace p4 := keep HB3.out p4
                obtain ⟨q, hq⟩ : ∃ q, q = a + n := ⟨_, rfl⟩
                have hqn : a + (n + 1) = q + 1 := by omega
                have hqi : (q : Int) + 1 = ((q + 1 : Nat) : Int) := rfl
                rw [← hq]
                clear p0 p1 p2 p5
                by_cases hlt3 : q < ee
                · have e7 := keep HB3.out HE.out.2
                  have er : wr.cell? ⟨g1, q, none⟩ = some (.int .i64 (A1 q)) := keep HB3.out (HRW.out.cell (i := q) (by omega))
                  have hA := HA1.out q (by omega)
                  have HRS : Hid (runB (fun u => cfI A1 sm u v) a (n + 1) = if runB (fun u => cfI A1 sm u v) a n < 0 ∨ cfI A1 sm q v < runB (fun u => cfI A1 sm u v) a n then cfI A1 sm q v else runB (fun u => cfI A1 sm u v) a n) := Lib.hid (by rw [hq]; rfl)
                  have m1 := mul_in (A := 1000) (B := 1000) (show -1000 ≤ sm by omega) (by omega) (show -1000 ≤ (q : Int) - v by omega) (by omega)
                  have m2 := wsq_in (b := 1000) (c := 1000) hsm (show -1000 ≤ (q : Int) - v by omega) (by omega) (by omega)
                  have w2 : IntKind.i64.wrap ((q : Int) - v) = (q : Int) - v := IntWalk.i64_in _ (by omega)
                  have w3 : IntKind.i64.wrap (sm * ((q : Int) - v)) = sm * ((q : Int) - v) := IntWalk.i64_in _ (by omega)
                  have w4 : IntKind.i64.wrap (sm * ((q : Int) - v) * ((q : Int) - v)) = sm * ((q : Int) - v) * ((q : Int) - v) := IntWalk.i64_in _ (by omega)
                  have w5 : IntKind.i64.wrap (sm * ((q : Int) - v) * ((q : Int) - v) + A1 q) = cfI A1 sm q v := by unfold cfI; rw [Int.add_comm]; exact IntWalk.i64_in _ (by omega)
                  have i5 : (q : Int) < (Wd : Int) := by omega
                  have i6 : (q : Int) ≤ (Wd : Int) - 1 := by omega
                  have i7 : (q : Int) ≤ (v : Int) + s := by omega
                  generalize runB (fun u => cfI A1 sm u v) a n = rb at *
                  generalize hcq : cfI A1 sm q v = cq at *
                  have HQQ := Lib.hid (And.intro hq (And.intro hqn hqi))
                  clear m1 m2 hcq hq hqn hqi
                  by_cases hmn : (v : Int) + s < (Wd : Int) - 1
                  · have i1 : (0 : Int) ≤ (t : Int) + 1 := by omega
                    have i4 : ((t : Int) + 1).toNat = t + 1 := by omega
                    have hl7 := cell_lt e7
                    have hl8 := cell_lt er
                    have hl9 := cell_lt p3
                    go_wp2_with fail
                    refine wp_opaque fun Q3 hQ3 => ?_
                    (refine wp_region_below (by kernel_rfl) (by kernel_rfl) ?_; (repeat (first | go_big_quiet_step ((fail)) | quiet_step ((fail)))); (refine wpQuiet_nil ?_; intro _ hw'; obtain ⟨xq, hw''⟩ := hw'; subst hw''))
                    have HBX := Lib.hid xq.2
                    refine hQ3 _ _ _ ?_
                    clear hQ3 Q3 e7 er p3 p4 hl7 hl8 hl9
                    generalize xq.val = w7 at *
                    by_cases b1 : rb < 0
                    · have HRN : Hid (runB (fun u => cfI A1 sm u v) a (n + 1) = cq) := Lib.hid (by rw [HRS.out, if_pos (.inl b1)])
                      have d1 : decide (rb < 0) = true := decide_eq_true b1
                      have HNB := Lib.hid (bThen HB3.out HBX.out)
                      go_wp2_with fail
                      obtain ⟨hq, hqn, hqi⟩ := HQQ.out
                      first
                        | (go_roundw
                           case rel =>
                             first
                               | exact ⟨n + 1, by omega, by rw [hqi, hqn], by rw [HRN.out], HNB⟩
                               | ((repeat apply Exists.intro); refine ⟨?_, rfl⟩; exact ⟨n + 1, by omega, by rw [hqi, hqn], by rw [HRN.out], HNB⟩)
                           case measure => simp [intOf]; omega)
                        | (refine ⟨⟨n + 1, by omega, by rw [hqi, hqn], by rw [HRN.out], HNB⟩, by simp [intOf]; omega⟩)
                    · have d1 : decide (rb < 0) = false := decide_eq_false b1
                      by_cases b2' : cq < rb
                      · have HRN : Hid (runB (fun u => cfI A1 sm u v) a (n + 1) = cq) := Lib.hid (by rw [HRS.out, if_pos (.inr b2')])
                        have d2 : decide (cq < rb) = true := decide_eq_true b2'
                        have HNB := Lib.hid (bThen HB3.out HBX.out)
                        go_wp2_with fail
                        obtain ⟨hq, hqn, hqi⟩ := HQQ.out
                        first
                          | (go_roundw
                             case rel =>
                               first
                                 | exact ⟨n + 1, by omega, by rw [hqi, hqn], by rw [HRN.out], HNB⟩
                                 | ((repeat apply Exists.intro); refine ⟨?_, rfl⟩; exact ⟨n + 1, by omega, by rw [hqi, hqn], by rw [HRN.out], HNB⟩)
                             case measure => simp [intOf]; omega)
                          | (refine ⟨⟨n + 1, by omega, by rw [hqi, hqn], by rw [HRN.out], HNB⟩, by simp [intOf]; omega⟩)
                      · have HRN : Hid (runB (fun u => cfI A1 sm u v) a (n + 1) = rb) := Lib.hid (by rw [HRS.out, if_neg (by omega)])
                        have d2 : decide (cq < rb) = false := decide_eq_false b2'
                        have HNB := Lib.hid (bThen HB3.out HBX.out)
                        go_wp2_with fail
                        obtain ⟨hq, hqn, hqi⟩ := HQQ.out
                        first
                          | (go_roundw
                             case rel =>
                               first
                                 | exact ⟨n + 1, by omega, by rw [hqi, hqn], by rw [HRN.out], HNB⟩
                                 | ((repeat apply Exists.intro); refine ⟨?_, rfl⟩; exact ⟨n + 1, by omega, by rw [hqi, hqn], by rw [HRN.out], HNB⟩)
                             case measure => simp [intOf]; omega)
                          | (refine ⟨⟨n + 1, by omega, by rw [hqi, hqn], by rw [HRN.out], HNB⟩, by simp [intOf]; omega⟩)
                  · have i1 : (0 : Int) ≤ (t : Int) + 1 := by omega
                    have i4 : ((t : Int) + 1).toNat = t + 1 := by omega
                    have hl7 := cell_lt e7
                    have hl8 := cell_lt er
                    have hl9 := cell_lt p3
                    go_wp2_with fail
                    refine wp_opaque fun Q3 hQ3 => ?_
                    (refine wp_region_below (by kernel_rfl) (by kernel_rfl) ?_; (repeat (first | go_big_quiet_step ((fail)) | quiet_step ((fail)))); (refine wpQuiet_nil ?_; intro _ hw'; obtain ⟨xq, hw''⟩ := hw'; subst hw''))
                    have HBX := Lib.hid xq.2
                    refine hQ3 _ _ _ ?_
                    clear hQ3 Q3 e7 er p3 p4 hl7 hl8 hl9
                    generalize xq.val = w7 at *
                    by_cases b1 : rb < 0
                    · have HRN : Hid (runB (fun u => cfI A1 sm u v) a (n + 1) = cq) := Lib.hid (by rw [HRS.out, if_pos (.inl b1)])
                      have d1 : decide (rb < 0) = true := decide_eq_true b1
                      have HNB := Lib.hid (bThen HB3.out HBX.out)
                      go_wp2_with fail
                      obtain ⟨hq, hqn, hqi⟩ := HQQ.out
                      first
                        | (go_roundw
                           case rel =>
                             first
                               | exact ⟨n + 1, by omega, by rw [hqi, hqn], by rw [HRN.out], HNB⟩
                               | ((repeat apply Exists.intro); refine ⟨?_, rfl⟩; exact ⟨n + 1, by omega, by rw [hqi, hqn], by rw [HRN.out], HNB⟩)
                           case measure => simp [intOf]; omega)
                        | (refine ⟨⟨n + 1, by omega, by rw [hqi, hqn], by rw [HRN.out], HNB⟩, by simp [intOf]; omega⟩)
                    · have d1 : decide (rb < 0) = false := decide_eq_false b1
                      by_cases b2' : cq < rb
                      · have HRN : Hid (runB (fun u => cfI A1 sm u v) a (n + 1) = cq) := Lib.hid (by rw [HRS.out, if_pos (.inr b2')])
                        have d2 : decide (cq < rb) = true := decide_eq_true b2'
                        have HNB := Lib.hid (bThen HB3.out HBX.out)
                        go_wp2_with fail
                        obtain ⟨hq, hqn, hqi⟩ := HQQ.out
                        first
                          | (go_roundw
                             case rel =>
                               first
                                 | exact ⟨n + 1, by omega, by rw [hqi, hqn], by rw [HRN.out], HNB⟩
                                 | ((repeat apply Exists.intro); refine ⟨?_, rfl⟩; exact ⟨n + 1, by omega, by rw [hqi, hqn], by rw [HRN.out], HNB⟩)
                             case measure => simp [intOf]; omega)
                          | (refine ⟨⟨n + 1, by omega, by rw [hqi, hqn], by rw [HRN.out], HNB⟩, by simp [intOf]; omega⟩)
                      · have HRN : Hid (runB (fun u => cfI A1 sm u v) a (n + 1) = rb) := Lib.hid (by rw [HRS.out, if_neg (by omega)])
                        have d2 : decide (cq < rb) = false := decide_eq_false b2'
                        have HNB := Lib.hid (bThen HB3.out HBX.out)
                        go_wp2_with fail
                        obtain ⟨hq, hqn, hqi⟩ := HQQ.out
                        first
                          | (go_roundw
                             case rel =>
                               first
                                 | exact ⟨n + 1, by omega, by rw [hqi, hqn], by rw [HRN.out], HNB⟩
                                 | ((repeat apply Exists.intro); refine ⟨?_, rfl⟩; exact ⟨n + 1, by omega, by rw [hqi, hqn], by rw [HRN.out], HNB⟩)
                             case measure => simp [intOf]; omega)
                          | (refine ⟨⟨n + 1, by omega, by rw [hqi, hqn], by rw [HRN.out], HNB⟩, by simp [intOf]; omega⟩)
                · obtain rfl : q = ee := by omega
                  have HRB : Hid (rowCost (tgtC lo ts) s sm Wd F t v = tgtC lo ts t v + runB (fun u => cfI A1 sm u v) a n) := Lib.hid (by rw [HST.out, show q - a = n by omega])
                  have e6 := keep HB3.out HE.out.1
                  have d0 := keep HB3.out HG6'.out
                  have hbg6 := HB3.out.block g (cell_lt HG6'.out)
                  have hgr := HG6.out.of_block hbg6
                  have hlg := hgr.lt
                  have hl6 := cell_lt e6
                  have hl9 := cell_lt p3
                  have htv := HTV.out
                  have hrt := HRT.out
                  rw [HRB.out] at hrt
                  have hsz6 : g + 1 ≤ wr.heap.size := by have h1 := HK6.out.size; have h2 := HS5.out; have h3 := HB3.out.size; omega
                  generalize runB (fun u => cfI A1 sm u v) a n = rb at *
                  generalize tgtC lo ts t v = tv at *
                  have w2 : IntKind.i64.wrap (tv + rb) = tv + rb := IntWalk.i64_in _ (by omega)
                  have HGR := Lib.hid hgr
                  clear hbg6 hgr hq hqn hqi
                  by_cases hmn : (v : Int) + s < (Wd : Int) - 1
                  · have i7 : ¬ ((q : Int) ≤ (v : Int) + s) := by omega
                    go_wp2_with fail
                    refine wp_opaque fun Q3 hQ3 => ?_
                    (refine region_below_tail 15 (by kernel_rfl) (by kernel_rfl) ?_; (simp only [List.take_succ_cons, List.take_zero, List.drop_succ_cons, List.drop_zero]); (repeat (first | go_big_quiet_step ((fail)) | quiet_step ((fail)))); (refine wpQuiet_nil ?_; intro _ hw'; obtain ⟨xq, hw''⟩ := hw'; subst hw''))
                    have hbx := xq.2
                    have d0' := keep hbx d0
                    have y0 := (HGR.out.of_block (hbx.block g hlg)).frozen v
                    have HGN : Hid ((xq.val.setCell ⟨g, v, none⟩ (.int .i64 (tv + rb))).rowIs g 3 Wd (fun u => .int .i64 (if u < v + 1 then rowCost (tgtC lo ts) s sm Wd F t u else 0))) := Lib.hid (((HGR.out.of_block (hbx.block g hlg)).set v (.int .i64 (tv + rb))).congr fun u _ => by
                      by_cases e : u = v
                      · subst e; rw [if_pos rfl, if_pos (by omega), HRB.out]
                      · rw [if_neg e, if_neg e]; by_cases c : u < v
                        · rw [if_pos c, if_pos (by omega)]
                        · rw [if_neg c, if_neg (by omega)])
                    have HKN : Hid (Kp2 (g + 1) g g W5 (xq.val.setCell ⟨g, v, none⟩ (.int .i64 (tv + rb)))) := Lib.hid (((HK6.out.trans (Kp2.of_below (HB3.out.mono (by have h1 := HK6.out.size; have h2 := HS5.out; omega)))).trans (Kp2.of_below (hbx.mono hsz6))).trans (Kp2.setCell (.inl rfl)))
                    clear hbx
                    go_wp2_with fail
                    first
                      | (go_roundw
                         case rel =>
                           first
                             | exact ⟨v + 1, by omega, by go_num, HGN, HKN⟩
                             | ((repeat apply Exists.intro); refine ⟨?_, rfl⟩; exact ⟨v + 1, by omega, by go_num, HGN, HKN⟩)
                         case measure => simp [intOf]; omega)
                      | (refine ⟨⟨v + 1, by omega, by go_num, HGN, HKN⟩, by simp [intOf]; omega⟩)
                  · have i7 : ¬ ((q : Int) ≤ (Wd : Int) - 1) := by omega
                    go_wp2_with fail
                    refine wp_opaque fun Q3 hQ3 => ?_
                    (refine region_below_tail 15 (by kernel_rfl) (by kernel_rfl) ?_; (simp only [List.take_succ_cons, List.take_zero, List.drop_succ_cons, List.drop_zero]); (repeat (first | go_big_quiet_step ((fail)) | quiet_step ((fail)))); (refine wpQuiet_nil ?_; intro _ hw'; obtain ⟨xq, hw''⟩ := hw'; subst hw''))
                    have hbx := xq.2
                    have d0' := keep hbx d0
                    have y0 := (HGR.out.of_block (hbx.block g hlg)).frozen v
                    have HGN : Hid ((xq.val.setCell ⟨g, v, none⟩ (.int .i64 (tv + rb))).rowIs g 3 Wd (fun u => .int .i64 (if u < v + 1 then rowCost (tgtC lo ts) s sm Wd F t u else 0))) := Lib.hid (((HGR.out.of_block (hbx.block g hlg)).set v (.int .i64 (tv + rb))).congr fun u _ => by
                      by_cases e : u = v
                      · subst e; rw [if_pos rfl, if_pos (by omega), HRB.out]
                      · rw [if_neg e, if_neg e]; by_cases c : u < v
                        · rw [if_pos c, if_pos (by omega)]
                        · rw [if_neg c, if_neg (by omega)])
                    have HKN : Hid (Kp2 (g + 1) g g W5 (xq.val.setCell ⟨g, v, none⟩ (.int .i64 (tv + rb)))) := Lib.hid (((HK6.out.trans (Kp2.of_below (HB3.out.mono (by have h1 := HK6.out.size; have h2 := HS5.out; omega)))).trans (Kp2.of_below (hbx.mono hsz6))).trans (Kp2.setCell (.inl rfl)))
                    clear hbx
                    go_wp2_with fail
                    first
                      | (go_roundw
                         case rel =>
                           first
                             | exact ⟨v + 1, by omega, by go_num, HGN, HKN⟩
                             | ((repeat apply Exists.intro); refine ⟨?_, rfl⟩; exact ⟨v + 1, by omega, by go_num, HGN, HKN⟩)
                         case measure => simp [intOf]; omega)
                      | (refine ⟨⟨v + 1, by omega, by go_num, HGN, HKN⟩, by simp [intOf]; omega⟩)
        · obtain rfl : v = Wd := by omega
          have HN : Hid (RowsC B gR F v t (rowCost (tgtC lo ts) s sm v F) (fun j => if j = t then g else G j) wr) := Lib.hid ⟨hR', fun j h1 h2 => by
            by_cases e : j = t
            · subst e
              simp only [if_true]
              exact ⟨hBg, HV2.out.congr fun u hu => by rw [if_pos hu]⟩
            · simp only [if_neg e]
              exact ⟨(HG.out j (by omega) h2).1, hrow' j (by omega) h2⟩⟩
          have HKN := Lib.hid hK'
          clear hR' hrow' hK'
          go_wp2_with fail
          go_roundw
          case rel =>
            first
              | exact ⟨t, _, by omega, by go_num, HN, HKN⟩
              | ((repeat apply Exists.intro); refine ⟨?_, rfl⟩; exact ⟨t, _, by omega, by go_num, HN, HKN⟩)
          case measure => first | (simp [intOf]; done) | (simp [intOf]; omega)
theorem refBest_any (p : Con) (v : Value) (w : World) (hok : conOk p = true) (hv : SliceV w v 3 TgtAt p.targets) :
    Calls Tryd.prog 27 #[p.val v] w fun e w' => (∃ u, e = .returned u ∧ SliceV w' u 1 IntAt (bestL p)) ∧ Below w.heap.size w w' := by
  obtain ⟨hf, hlo, hhi, hsl, hsm, htl, _⟩ := conOk_parts hok
  have hts := frames_tgt hok
  obtain ⟨fr, lo, hi, sl, sm, ts⟩ := p
  obtain ⟨F, rfl⟩ : ∃ F : Nat, fr = (F : Int) := ⟨fr.toNat, by simp only at hf; omega⟩
  obtain ⟨s, rfl⟩ : ∃ s : Nat, sl = (s : Int) := ⟨sl.toNat, by simp only at hsl; omega⟩
  simp only [Int.toNat_natCast] at *
  exact refBest_any' F (hi - lo + 1).toNat s (fun i => lo + (bestP (tgtC lo ts) s sm (hi - lo + 1).toNat F i : Nat)) lo hi sm ts v w (by omega) (by omega) (by omega) (by omega) (by omega) hlo (by omega) hsm hts htl (fun _ => rfl) hv
end Go.Proofs.YtejcbcjhmnhefaaDoor
