/- Contracts: a wave is smoothed, every mark in its turn. -/
import Derived.Test.YtbeeddenidfenaaH2
import Derived.Test.YtbeeddenidfenaaG6
import Derived.Test.YtbeeddenidfenaaD4
set_option linter.unusedSimpArgs false
set_option linter.unusedVariables false
namespace Go.Proofs.Ytbeeddenidfenaa
open Go.RowKit

/-- The inner marks. -/
def smIn (m : Mk) : List Int := (m.marks.drop 1).take (m.marks.length - 2)
def smL (m : Mk) (W : Nat) : List Int := (List.range m.sam.length).map (smF W m.sam.length (fun j => m.sam.getD j 0) (smIn m))
def smV (m : Mk) (W : Nat) : Mk := ⟨smL m W, m.marks⟩
theorem smL_len (m : Mk) (W : Nat) : (smL m W).length = m.sam.length := by simp [smL]
theorem rowF_slice {w : World} {g cap N : Nat} {F : Nat → Int} {z : Nat → Value} (h : w.rowIs g 3 cap (fun j => if j < N then .int .i64 (F j) else z j)) (hN : N ≤ cap) (hm : N ≤ 1000000) :
    SliceV w (.slice (some ⟨g, 0, none⟩) N cap) 1 IntAt ((List.range N).map F) := by
  refine ⟨_, cap, by rw [List.length_map, List.length_range], ⟨by rw [List.length_map, List.length_range]; unfold most; omega, by rw [List.length_map, List.length_range]; exact hN⟩, .inr ⟨g, 0, rfl, fun i hi => ?_⟩⟩
  rw [List.length_map, List.length_range] at hi
  have h1 := h.cell (i := i) (by omega)
  rw [if_pos hi] at h1
  show w.cell? ⟨g, 0 + i * 1, none⟩ = _
  rw [Nat.zero_add, Nat.mul_one, h1]
  simp
theorem ints_set2 {W : World} {v : Value} {l : List Int} {r n1 c1 n2 c2 : Nat} {a1 a2 : Option Addr} {x y : Value} (h : SliceV W v 1 IntAt l) (hR : W.heap[r]? = some (.cells #[.slice a1 n1 c1, .slice a2 n2 c2] 24 (0, 0))) : SliceV ((W.setCell ⟨r, 0, none⟩ x).setCell ⟨r, 1, none⟩ y) v 1 IntAt l := by
  obtain ⟨a, c, rfl, hl, hx⟩ := h
  refine ⟨a, c, rfl, hl, hx.imp id fun ⟨b, o', ha, hi⟩ => ⟨b, o', ha, fun i hi' => ?_⟩⟩
  have h0 := hi i hi'
  have hne : b ≠ r := by
    rintro rfl
    unfold IntAt at h0
    simp only [World.cell?, hR] at h0
    generalize o' + i * 1 = k at h0
    match k with
    | 0 => simp at h0
    | 1 => simp at h0
    | k + 2 => simp at h0
  refine (World.cell?_of_block (w := W) ((Below.heap_setCell _ _ _ _ hne).trans (Below.heap_setCell _ _ _ _ hne))).trans h0
/-- The box of the smoothed wave: its samples and its marks in rows of one's own. -/
structure SmBox (w : World) (base rb g cap N q qc : Nat) (F : Nat → Int) (l : List Int) : Prop where
  box : w.heap[rb]? = some (.cells #[.slice (some ⟨g, 0, none⟩) N cap, .slice (some ⟨q, 0, none⟩) l.length qc] 24 (0, 0))
  row : ∃ z : Nat → Value, w.rowIs g 3 cap (fun j => if j < N then .int .i64 (F j) else z j)
  mrk : SliceV w (.slice (some ⟨q, 0, none⟩) l.length qc) 1 IntAt l
  apart : q ≠ g
  lo : base ≤ g
  hi : base ≤ rb
theorem row_ne {V : World} {g rb n : Nat} {f : Nat → Value} {a1 a2 : Option Addr} {n1 c1 n2 c2 : Nat} (hr : V.rowIs g 3 n f) (hb : V.heap[rb]? = some (.cells #[.slice a1 n1 c1, .slice a2 n2 c2] 24 (0, 0))) : g ≠ rb := by
  rintro rfl
  obtain ⟨cs, h1, h2, h3⟩ := id hr
  rw [hb] at h1
  cases h1
theorem sm_end {V W1 : World} {base rb g cap N q qc : Nat} {F : Nat → Int} {z : Nat → Value} {l : List Int}
    (hb : V.heap[rb]? = some (.cells #[.slice none 0 0, .slice none 0 0] 24 (0, 0))) (hr : V.rowIs g 3 cap (fun j => if j < N then .int .i64 (F j) else z j)) (hm : SliceV V (.slice (some ⟨q, 0, none⟩) l.length qc) 1 IntAt l)
    (ha : q ≠ g) (hg : base ≤ g) (hrb : base ≤ rb) (hB : Below base W1 V) :
    SmBox ((V.setCell ⟨rb, 0, none⟩ (.slice (some ⟨g, 0, none⟩) N cap)).setCell ⟨rb, 1, none⟩ (.slice (some ⟨q, 0, none⟩) l.length qc)) base rb g cap N q qc F l ∧ Below base W1 ((V.setCell ⟨rb, 0, none⟩ (.slice (some ⟨g, 0, none⟩) N cap)).setCell ⟨rb, 1, none⟩ (.slice (some ⟨q, 0, none⟩) l.length qc)) := by
  have hne := row_ne hr hb
  refine ⟨⟨set2_1 (set2_0 hb _) _, ⟨z, hr.of_block ((Below.heap_setCell _ ⟨rb, 1, none⟩ _ g hne).trans (Below.heap_setCell _ ⟨rb, 0, none⟩ _ g hne))⟩, ints_set2 hm hb, ha, hg, hrb⟩, (hB.setCell (p := ⟨rb, 0, none⟩) hrb _).setCell (p := ⟨rb, 1, none⟩) hrb _⟩
theorem sm_endA {V W1 : World} {base g cap N q qc : Nat} {F : Nat → Int} {z : Nat → Value} {l : List Int}
    (hr : V.rowIs g 3 cap (fun j => if j < N then .int .i64 (F j) else z j)) (hm : SliceV V (.slice (some ⟨q, 0, none⟩) l.length qc) 1 IntAt l)
    (ha : q ≠ g) (hg : base ≤ g) (hrb : base ≤ V.heap.size) (hB : Below base W1 V) :
    SmBox (V.alloc (.cells #[.slice (some ⟨g, 0, none⟩) N cap, .slice (some ⟨q, 0, none⟩) l.length qc] 24)) base V.heap.size g cap N q qc F l ∧ Below base W1 (V.alloc (.cells #[.slice (some ⟨g, 0, none⟩) N cap, .slice (some ⟨q, 0, none⟩) l.length qc] 24)) :=
  ⟨⟨heap_at rfl, ⟨z, hr.of_block ((bAlloc (Below.refl V.heap.size V) _).block _ hr.lt)⟩, hm.keep IntAt.stable (bAlloc (Below.refl _ _) _), ha, hg, hrb⟩, hB.alloc hrb _⟩
theorem SmBox.soft {A B : World} {base rb g cap N q qc : Nat} {F F' : Nat → Int} {z : Nat → Value} {l : List Int} (h : SmBox A base rb g cap N q qc F l) (hr : B.rowIs g 3 cap (fun j => if j < N then .int .i64 (F' j) else z j)) (hg : A.grownBy B (some g)) : SmBox B base rb g cap N q qc F' l := by
  obtain ⟨z', hz⟩ := h.row
  exact ⟨gb_heap hg h.box (row_ne hz h.box).symm, ⟨z, hr⟩, h.mrk.grown hg (fun k hk e => h.apart (by
    have h1 : q = k := by simpa [Value.ownBlock] using hk
    have h2 : g = k := by simpa using e
    omega)), h.apart, h.lo, h.hi⟩
theorem SmBox.keep {A B : World} {base rb g cap N q qc : Nat} {F : Nat → Int} {l : List Int} (h : SmBox A base rb g cap N q qc F l) (hB : Below A.heap.size A B) : SmBox B base rb g cap N q qc F l := by
  obtain ⟨z, hz⟩ := h.row
  exact ⟨heap_keep hB h.box, ⟨z, hz.of_block (hB.block _ hz.lt)⟩, h.mrk.keep IntAt.stable hB, h.apart, h.lo, h.hi⟩
theorem row_keep {A B : World} {g n t : Nat} {f : Nat → Value} (h : A.rowIs g t n f) (hB : Below A.heap.size A B) : B.rowIs g t n f := h.of_block (hB.block _ h.lt)
theorem getD_all (l : List Int) : (List.range l.length).map (fun j => l.getD j 0) = l := by
  apply List.ext_getElem
  · simp
  · intro i h1 h2; rw [List.getElem_map, List.getElem_range, gI h2]
theorem smIn_len {m : Mk} : (smIn m).length = m.marks.length - 2 := by
  unfold smIn; rw [List.length_take, List.length_drop]; omega
theorem smIn_get {m : Mk} (hm : MkR m) {k : Nat} (h : k < (smIn m).length) : (smIn m)[k] = (mkI m (k + 1) : Int) := by
  have h2 := h
  rw [smIn_len] at h2
  rw [← hm.get (show k + 1 < m.marks.length by omega)]
  simp [smIn, Nat.add_comm]
theorem sm_dflt {l : List Int} (h : Sm l) (j : Nat) : -32768 ≤ l.getD j 0 ∧ l.getD j 0 ≤ 32767 := by
  by_cases hj : j < l.length
  · rw [gI hj]; exact h _ (List.getElem_mem hj)
  · rw [List.getD_eq_getElem?_getD, List.getElem?_eq_none (by omega)]; simp

set_option maxRecDepth 10000 in
set_option maxHeartbeats 4000000 in
theorem smoothed_any (m : Mk) (W : Nat) (vs vm : Value) (w : World) (hv : MkV w vs vm m) (hm : MkR m) (hs : Sm m.sam) (hW : 1 ≤ W) (hW2 : W ≤ 1000) :
    Calls Try.prog 76 #[.agg #[vs, vm], .int .i64 W] w fun e w' => (∃ a c am cm, e = .returned (.agg #[.slice a m.sam.length c, .slice am m.marks.length cm]) ∧ MkV w' (.slice a m.sam.length c) (.slice am m.marks.length cm) (smV m W)) ∧ Below w.heap.size w w' := by
  have HV := Lib.hid hv
  have HMR := Lib.hid hm
  have HS := Lib.hid hs
  have hln := hm.len
  have hmk := hm.many
  have h2 := hm.two
  have hne := hm.ne
  have hmne : m.marks ≠ [] := fun e => by rw [e] at h2; simp at h2
  obtain ⟨⟨a, c, rfl, hl, -⟩, ⟨am, cm, rfl, hlm, -⟩⟩ := hv
  obtain ⟨mb, mo, rfl, -⟩ := HV.out.2.at hmne
  have HC1 : Hid (∀ X, Below w.heap.size w X → Calls Try.prog 68 #[.slice a m.sam.length c] X _) := Lib.hid (fun X hB => CloneR_any m.sam _ X (HV.out.1.keep IntAt.stable hB) (by omega) hne)
  have HC2 : Hid (∀ X, Below w.heap.size w X → Calls Try.prog 68 #[.slice (some ⟨mb, mo, none⟩) m.marks.length cm] X _) := Lib.hid (fun X hB => CloneR_any m.marks _ X (HV.out.2.keep IntAt.stable hB) (by omega) hmne)
  clear hm hs hne hmne
  go_enter Try.func76, Try.ntmps76
  go_upto_region 1 with fail
  generalize hW1 : World.alloc (World.alloc w _) _ = W1
  have HB1 : Hid (Below w.heap.size w W1) := Lib.hid (by rw [← hW1]; exact bAlloc (bAlloc (Below.refl _ _) _) _)
  have HM1 : Hid (W1.heap[w.heap.size]? = some (.cells #[.slice a m.sam.length c, .slice (some ⟨mb, mo, none⟩) m.marks.length cm] 24 (0, 0))) := Lib.hid (by rw [← hW1]; exact heap_past (by simp) (heap_at rfl))
  have HR1 : Hid (W1.heap[w.heap.size + 1]? = some (.cells #[.slice none 0 0, .slice none 0 0] 24 (0, 0))) := Lib.hid (by rw [← hW1]; exact heap_at (by simp))
  have hz1 : w.heap.size + 1 < W1.heap.size := by rw [← hW1]; simp
  clear hW1
  have c0 := (mcell HM1.out).1
  have c1 := (mcell HM1.out).2
  have l0 := cell_lt c0
  have HK : Hid (∀ W', Below W1.heap.size W1 W' → (W'.cell? ⟨w.heap.size, 0, none⟩ = some (.slice a m.sam.length c) ∧ W'.cell? ⟨w.heap.size, 1, none⟩ = some (.slice (some ⟨mb, mo, none⟩) m.marks.length cm))) := Lib.hid fun W' hB => ⟨keep hB c0, keep hB c1⟩
  go_cut [5] from 10 (fun p wc => ∃ (rb g cap q qc : Nat), p = .pointer (some ⟨rb, 0, none⟩) ∧ m.sam.length ≤ cap ∧ Hid (SmBox wc W1.heap.size rb g cap m.sam.length q qc (fun j => m.sam.getD j 0) m.marks ∧ Below W1.heap.size W1 wc))
  case first =>
    go_region_held3 (fun W' => (W'.cell? ⟨w.heap.size, 0, none⟩ = some (.slice a m.sam.length c) ∧ W'.cell? ⟨w.heap.size, 1, none⟩ = some (.slice (some ⟨mb, mo, none⟩) m.marks.length cm))) (((try dsimp only); exact HK.out _ (by (repeat (first | exact Below.refl _ _ | exact hbA | exact hbB | refine Below.drew ?_ | refine bAlloc ?_ _ | (refine Below.setCell (p := ⟨_, _, none⟩) ?_ (by first | exact Nat.le_refl _ | exact hbA.size | exact hbB.size) _)))))) (first
      | (go_at_call 68; (with_reducible refine Calls.mono (HC1.out _ (bThen HB1.out (by (repeat (first | exact Below.refl _ _ | exact hbB | refine Below.drew ?_ | refine bAlloc ?_ _))))) ?_); rintro e w3 ⟨⟨g, cap, z, rfl, hg, hcap, hrow⟩, hbx⟩; have hbA : Below W1.heap.size W1 w3 := bThen (by (repeat (first | exact Below.refl _ _ | exact hbB | refine Below.drew ?_ | refine bAlloc ?_ _))) hbx; have hg' : W1.heap.size ≤ g := Nat.le_trans (Below.size (show Below W1.heap.size W1 _ from by (repeat (first | exact Below.refl _ _ | exact hbB | refine Below.drew ?_ | refine bAlloc ?_ _)))) hg; have hgl := hrow.lt; have hzA := hbx.size; (try simp at hzA); obtain ⟨hcA, hfA⟩ := bcell hbx; (try simp at hcA hfA); (try (have y1 : W1.heap.size < w3.heap.size := by omega)); (try (have y2 : w4.heap.size < w3.heap.size := by omega)); (try (have y3 : W1.heap.size < w4.heap.size := by omega)))
      | (go_at_call 68; (with_reducible refine Calls.mono (HC2.out _ (bThen HB1.out (by (repeat (first | exact Below.refl _ _ | exact hbA | refine Below.drew ?_ | refine bAlloc ?_ _))))) ?_); rintro e w4 ⟨⟨q, qc, y, rfl, hq, hqc, hmrow⟩, hby⟩; have hbB : Below W1.heap.size W1 w4 := bThen (by (repeat (first | exact Below.refl _ _ | exact hbA | refine Below.drew ?_ | refine bAlloc ?_ _))) hby; have hql := hmrow.lt; have hzB := hby.size; (try simp at hzB); obtain ⟨hcB, hfB⟩ := bcell hby; (try simp at hcB hfB); (try (have x1 : W1.heap.size < w4.heap.size := by omega)); (try (have x2 : w3.heap.size < w4.heap.size := by omega)); (try (have x3 : W1.heap.size < w3.heap.size := by omega))))
    all_goals
      go_wp2_with fail
      go_meet
      case rel =>
        refine ⟨_, g, cap, q, qc, rfl, hcap, Lib.hid ?_⟩
        have hm0 := rowF_slice hmrow hqc (by omega)
        rw [getD_all] at hm0
        first
          | refine sm_endA (z := z) ?_ ?_ ?_ hg' ?_ ?_
          | refine sm_end (z := z) ?_ ?_ ?_ ?_ hg' ?_ ?_
        all_goals first
          | exact heap_at rfl
          | exact heap_keep hby (heap_at rfl)
          | exact heap_keep hbx (heap_at rfl)
          | exact heap_keep hby (heap_keep hbx (heap_at rfl))
          | exact heap_keep hbx (heap_keep hby (heap_at rfl))
          | exact row_keep hrow (by first | exact Below.refl _ _ | exact hby | exact bThen (bAlloc (Below.refl _ _) _) hby)
          | exact hm0.keep IntAt.stable (by first | exact Below.refl _ _ | exact hbx | exact bThen (bAlloc (Below.refl _ _) _) hbx)
          | exact Nat.le_refl _
          | exact hbA.size
          | exact hbB.size
          | exact hbA
          | exact hbB
          | ((try simp only [World.size_alloc] at hq hg); omega)
  case rest =>
    clear c0 c1 l0 HK HC1 HC2
    obtain ⟨rb, g, cap, q, qc, rfl, hcap, HX⟩ := hcut
    obtain ⟨n, hn⟩ : ∃ n, m.marks.length = n + 2 := ⟨m.marks.length - 2, by omega⟩
    obtain ⟨N, hN⟩ : ∃ N, m.sam.length = N := ⟨_, rfl⟩
    have HN := Lib.hid hN
    have HNN := Lib.hid hn
    have HIL : Hid ((smIn m).length = n) := Lib.hid (by rw [smIn_len]; omega)
    rw [hN] at hln hl hcap HX
    rw [hn] at hmk hlm
    have HM1' := HM1
    rw [hn, hN] at HM1'
    unfold most at hl hlm
    clear h2 hn hN
    have hB := HX.out.2
    have c0 := keep hB (mcell HM1'.out).1
    have c1 := keep hB (mcell HM1'.out).2
    have l0 := cell_lt c0
    have i1 : IntKind.i64.wrap ((n : Int) + 2 - 1) = (n : Int) + 1 := by rw [show (n : Int) + 2 - 1 = (n : Int) + 1 by omega]; exact IntWalk.i64_in _ (by omega)
    have i2 : (1 : Int) ≤ (n : Int) + 1 := by omega
    have i3 : (n : Int) + 1 ≤ (cm : Int) := by omega
    have i4 : ((n : Int) + 1).toNat = n + 1 := by omega
    have i5 : ¬ cm = 1 := by omega
    go_wp2_with fail
    go_loopw [25] (fun i wr => ∃ k : Nat, k ≤ n ∧ i = .int .i64 k ∧ Hid (SmBox wr W1.heap.size rb g cap N q qc (smF W N (fun j => m.sam.getD j 0) ((smIn m).take k)) m.marks ∧ Below W1.heap.size W1 wr)) (fun i _ => n - (intOf i).toNat)
    case atStart => exact ⟨0, Nat.zero_le _, rfl, by rw [List.take_zero]; exact HX⟩
    case round =>
      obtain ⟨k, hk, rfl, HB⟩ := hrel
      by_cases hlt : k < n
      · have hki : k < (smIn m).length := by rw [HIL.out]; exact hlt
        have HT : Hid ((smIn m).take (k + 1) = (smIn m).take k ++ [(mkI m (k + 1) : Int)]) := Lib.hid (by rw [take_succ _ _ hki, smIn_get HMR.out hki])
        have hPN : mkI m (k + 1) ≤ N := by rw [← HN.out]; exact HMR.out.le (by rw [HNN.out]; omega)
        have hm0 : w.cell? ⟨mb, mo + 1 + k, none⟩ = some (.int .i64 (mkI m (k + 1) : Int)) := by
          obtain ⟨b, o, hbo, hf⟩ := HV.out.2.at (by intro e; have := HNN.out; rw [e] at this; simp at this)
          cases hbo
          have := hf (k + 1) (by rw [HNN.out]; omega)
          unfold IntAt at this
          rw [HMR.out.get (by rw [HNN.out]; omega)] at this
          rwa [show mo + (k + 1) * 1 = mo + 1 + k by omega] at this
        obtain ⟨P, hP⟩ : ∃ P, P = mkI m (k + 1) := ⟨_, rfl⟩
        rw [← hP] at HT hPN hm0
        clear hP hki
        have hB := HB.out.2
        have m0 := keep (bThen HB1.out hB) hm0
        have ml := cell_lt m0
        replace c0 := keep hB (mcell HM1'.out).1
        replace c1 := keep hB (mcell HM1'.out).2
        replace l0 := cell_lt c0
        have b0 := (mcell HB.out.1.box).1
        have b1 := (mcell HB.out.1.box).2
        have bl := cell_lt b0
        have j1 : IntKind.i64.wrap ((P : Int) - W) = (P : Int) - W := IntWalk.i64_in _ (by omega)
        have j2 : IntKind.i64.wrap ((P : Int) + W) = (P : Int) + W := IntWalk.i64_in _ (by omega)
        clear hm0 hB
        by_cases h1 : W ≤ P
        · by_cases h2 : P + W ≤ N
          · obtain ⟨lo, rfl⟩ : ∃ lo, P = lo + W := ⟨P - W, by omega⟩
            rw [Int.natCast_add, show (lo : Int) + W - W = (lo : Int) by omega] at j1
            rw [Int.natCast_add] at j2 m0
            have HSO := Lib.hid (fun z wx hr => soften_any g cap N lo (lo + W) W W W (smF W N (fun j => m.sam.getD j 0) ((smIn m).take k)) z wx rfl hW (by omega) h2 hcap (smF_in (fun j => sm_dflt HS.out j) W N _) hr)
            have k1 : (0 : Int) ≤ (lo : Int) := by omega
            have k2 : (lo : Int) + W + W ≤ (N : Int) := by omega
            have k3 : (lo : Int) ≤ (lo : Int) + W := by omega
            have k4 : (lo : Int) + W ≤ (cap : Int) := by omega
            have k5 : (lo : Int) + W ≤ (lo : Int) + W + W := by omega
            have k6 : (lo : Int) + W + W ≤ (cap : Int) := by omega
            have k7 : ((lo : Int) + W).toNat = lo + W := by omega
            have k8 : ((lo : Int) + W + W).toNat = lo + W + W := by omega
            have k9 : ¬ lo + W = lo := by omega
            have k10 : ¬ lo + W + W = lo + W := by omega
            go_wp2_with fail
            (refine region_below_tail 12 (by kernel_rfl) (by kernel_rfl) ?_; (simp only [List.take_succ_cons, List.take_zero, List.drop_succ_cons, List.drop_zero]); (repeat (first | go_big_quiet_step (fail) | quiet_step (fail))); (refine wpQuiet_nil ?_; intro _ hw'; obtain ⟨xq, hw''⟩ := hw'; subst hw''))
            have hbx := xq.2
            have HB2 := Lib.hid (HB.out.1.keep hbx)
            have HBW := Lib.hid (bThen HB.out.2 hbx)
            generalize xq.val = W2 at HB2 HBW hbx ⊢
            obtain ⟨z, hz⟩ := HB2.out.row
            have HSO2 := Lib.hid (HSO.out z W2 hz)
            clear hz HSO
            have HTT := HT.out
            rw [show ((lo + W : Nat) : Int) = (lo : Int) + W by omega] at HTT
            have HFW : Hid (smF W N (fun j => m.sam.getD j 0) ((smIn m).take (k + 1)) = smS (smF W N (fun j => m.sam.getD j 0) ((smIn m).take k)) lo W W) := Lib.hid (by rw [HTT, smF_snoc, if_pos (by omega), show ((lo : Int) + W - W).toNat = lo by omega])
            clear HTT
            go_wp2_with (go_at_call 94; (with_reducible refine Calls.mono HSO2.out ?_); rintro e w3 ⟨⟨r, rfl⟩, hrow, hgr⟩; have HB3 : Hid (SmBox w3 W1.heap.size rb g cap N q qc (smF W N (fun j => m.sam.getD j 0) ((smIn m).take (k + 1))) m.marks ∧ Below W1.heap.size W1 w3) := Lib.hid (by rw [HFW.out]; exact ⟨HB2.out.soft hrow hgr, HBW.out.trans (gb_low hgr HBW.out.size HB2.out.lo)⟩); clear hrow hgr)
            go_roundw
            case rel =>
              first
                | exact ⟨k + 1, by omega, by go_num, HB3⟩
                | ((repeat apply Exists.intro); refine ⟨?_, rfl⟩; exact ⟨k + 1, by omega, by go_num, HB3⟩)
                | fail
            case measure => simp [intOf]; omega
          · have t2 : ¬ (P : Int) + W ≤ (N : Int) := by omega
            go_wp2_with fail
            have HB3 : Hid (SmBox wr W1.heap.size rb g cap N q qc (smF W N (fun j => m.sam.getD j 0) ((smIn m).take (k + 1))) m.marks ∧ Below W1.heap.size W1 wr) := Lib.hid (by rw [HT.out, smF_snoc, if_neg (by omega)]; exact HB.out)
            go_roundw
            case rel =>
              first
                | exact ⟨k + 1, by omega, by go_num, HB3⟩
                | ((repeat apply Exists.intro); refine ⟨?_, rfl⟩; exact ⟨k + 1, by omega, by go_num, HB3⟩)
                | fail
            case measure => simp [intOf]; omega
        · have t2 : ¬ (0 : Int) ≤ (P : Int) - W := by omega
          go_wp2_with fail
          have HB3 : Hid (SmBox wr W1.heap.size rb g cap N q qc (smF W N (fun j => m.sam.getD j 0) ((smIn m).take (k + 1))) m.marks ∧ Below W1.heap.size W1 wr) := Lib.hid (by rw [HT.out, smF_snoc, if_neg (by omega)]; exact HB.out)
          go_roundw
          case rel =>
            first
              | exact ⟨k + 1, by omega, by go_num, HB3⟩
              | ((repeat apply Exists.intro); refine ⟨?_, rfl⟩; exact ⟨k + 1, by omega, by go_num, HB3⟩)
              | fail
          case measure => simp [intOf]; omega
      · obtain rfl : k = n := by omega
        have hB := HB.out.2
        have b0 := (mcell HB.out.1.box).1
        have b1 := (mcell HB.out.1.box).2
        have bl := cell_lt b0
        have r0 := keep hB (mcell HR1.out).1
        have r1 := keep hB (mcell HR1.out).2
        have rl := cell_lt r0
        have rf0 := frz (heap_keep hB HR1.out) 0
        have rf1 := frz (heap_keep hB HR1.out) 1
        have HBX := Lib.hid hB
        clear hB
        go_wp2_with fail
        (try simp only [Exit.inBlock, Exit.then])
        have hq1 := heap_keep HBX.out HR1.out
        refine bodyPost_ret (results_cell_row rfl _ _ (w.heap.size + 1) 24 _ (0, 0) _ rfl (set2_1 (set2_0 hq1 _) _) Try.underlying24 rfl (by kernel_rfl)) rfl ?_
        have hrow := HB.out.1.row
        obtain ⟨z, hz⟩ := hrow
        have hsl := rowF_slice hz hcap (by omega)
        have hin : (smIn m).take k = smIn m := List.take_of_length_le (by rw [HIL.out]; exact Nat.le_refl _)
        rw [hin] at hsl
        have hsm : (List.range N).map (smF W N (fun j => m.sam.getD j 0) (smIn m)) = smL m W := by unfold smL; rw [HN.out]
        rw [hsm] at hsl
        refine ⟨⟨_, _, _, _, by rw [HN.out, HNN.out], ?_, ?_⟩, ?_⟩
        · rw [HN.out]; exact ints_set2 hsl hq1
        · exact ints_set2 HB.out.1.mrk hq1
        · exact ((bThen HB1.out HBX.out).setCell (p := ⟨w.heap.size + 1, 0, none⟩) (Nat.le_succ _) _).setCell (p := ⟨w.heap.size + 1, 1, none⟩) (Nat.le_succ _) _
end Go.Proofs.Ytbeeddenidfenaa
