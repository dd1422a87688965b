/- Contracts: smoothing by the specification. -/
import Derived.Test.YtbeeddenidfenaaH3
set_option linter.unusedSimpArgs false
set_option linter.unusedVariables false
namespace Go.Proofs.Ytbeeddenidfenaa
open Go.RowKit

theorem rnd_sh {T W : Int} (hW : 1 ≤ W) (h0 : -65535000000 ≤ T) (h1 : T ≤ 65535000000) : -65536000000 ≤ rnd T (2 * W + 1) ∧ rnd T (2 * W + 1) ≤ 65536000000 := by
  have mid : ∀ t : Int, 0 ≤ t → t ≤ 65535000000 → 0 ≤ rnd t (2 * W + 1) ∧ rnd t (2 * W + 1) ≤ 65535000001 := fun t h0 h1 => by
    have hh := rnd_in h0 (show (0 : Int) < 2 * W + 1 by omega)
    rw [rnd_pos h0] at hh ⊢
    refine ⟨hh.1, ?_⟩
    have hd := Int.ediv_le_of_le_mul (a := 2 * t + (2 * W + 1)) (b := t + 1) (c := 2 * (2 * W + 1)) (by omega) (by
      have e : (t + 1) * (2 * (2 * W + 1)) = 2 * t + 2 + 4 * ((t + 1) * W) := by
        rw [Int.mul_left_comm, Int.mul_add, Int.mul_one, Int.mul_left_comm]; omega
      rw [e]
      have h3 := Int.mul_le_mul_of_nonneg_right (show (1 : Int) ≤ t + 1 by omega) (show (0 : Int) ≤ W by omega)
      omega)
    omega
  by_cases hz : 0 ≤ T
  · have := mid T hz (by omega); omega
  · have := mid (-T) (by omega) (by omega)
    rw [rnd_neg (by omega)]
    omega
theorem SmBox.set {A : World} {base rb g cap N q qc : Nat} {F F' : Nat → Int} {l : List Int} (h : SmBox A base rb g cap N q qc F l) {i : Nat} {x : Int} (hi : i < N) (hF : ∀ j, j < N → F' j = if j = i then x else F j) : SmBox (A.setCell ⟨g, i, none⟩ (.int .i64 x)) base rb g cap N q qc F' l := by
  obtain ⟨z, hz⟩ := h.row
  refine h.soft (z := z) ((hz.set i (.int .i64 x)).congr fun j _ => ?_) (gb_set A g i _)
  by_cases hj : j < N
  · rw [if_pos hj, hF j hj]
    by_cases e : j = i
    · rw [if_pos e, if_pos e, if_pos hj]
    · rw [if_neg e, if_neg e, if_pos hj]
  · rw [if_neg hj, if_neg (show ¬ j = i by omega), if_neg hj]
theorem SmBox.below {A : World} {base rb g cap N q qc : Nat} {F : Nat → Int} {l : List Int} (h : SmBox A base rb g cap N q qc F l) {V : World} (hB : Below base V A) (i : Nat) (x : Value) : Below base V (A.setCell ⟨g, i, none⟩ x) := hB.setCell (p := ⟨g, i, none⟩) h.lo x
theorem SmBox.cell {A : World} {base rb g cap N q qc : Nat} {F : Nat → Int} {l : List Int} (h : SmBox A base rb g cap N q qc F l) (hN : N ≤ cap) {i : Nat} (hi : i < N) : A.cell? ⟨g, i, none⟩ = some (.int .i64 (F i)) ∧ A.frozen? ⟨g, i, none⟩ = false := by
  obtain ⟨z, hz⟩ := h.row
  have := hz.cell (i := i) (by omega)
  rw [if_pos hi] at this
  exact ⟨this, hz.frozen i⟩

set_option maxRecDepth 10000 in
set_option maxHeartbeats 4000000 in
theorem refSmooth_any (m : Mk) (W : Nat) (vs vm : Value) (w : World) (hv : MkV w vs vm m) (hm : MkR m) (hs : Sm m.sam) (hW : 1 ≤ W) (hW2 : W ≤ 1000) :
    Calls Try.prog 51 #[.agg #[vs, vm], .int .i64 W] w fun e w' => (∃ a c am cm, e = .returned (.agg #[.slice a m.sam.length c, .slice am m.marks.length cm]) ∧ MkV w' (.slice a m.sam.length c) (.slice am m.marks.length cm) (smV m W)) ∧ Below w.heap.size w w' := by
  have HV := Lib.hid hv
  have HMR := Lib.hid hm
  have HS := Lib.hid hs
  have hln := hm.len
  have hmk := hm.many
  have h2 := hm.two
  have hne := hm.ne
  have hmne : m.marks ≠ [] := fun e => by rw [e] at h2; simp at h2
  have HNE := Lib.hid hne
  have HMNE := Lib.hid hmne
  obtain ⟨⟨a, c, rfl, hl, -⟩, ⟨am, cm, rfl, hlm, -⟩⟩ := hv
  obtain ⟨mb, mo, rfl, -⟩ := HV.out.2.at hmne
  clear hm hs hne hmne
  go_enter Try.func51, Try.ntmps51
  go_upto_region 1 with fail
  generalize hW1 : World.alloc (World.alloc w _) _ = W1
  have HB1 : Hid (Below w.heap.size w W1) := Lib.hid (by rw [← hW1]; exact bAlloc (bAlloc (Below.refl _ _) _) _)
  have HM1 : Hid (W1.heap[w.heap.size]? = some (.cells #[.slice a m.sam.length c, .slice (some ⟨mb, mo, none⟩) m.marks.length cm] 24 (0, 0))) := Lib.hid (by rw [← hW1]; exact heap_past (by simp) (heap_at rfl))
  have HR1 : Hid (W1.heap[w.heap.size + 1]? = some (.cells #[.slice none 0 0, .slice none 0 0] 24 (0, 0))) := Lib.hid (by rw [← hW1]; exact heap_at (by simp))
  have hz1 : w.heap.size + 1 < W1.heap.size := by rw [← hW1]; simp
  clear hW1
  have c0 := (mcell HM1.out).1
  have c1 := (mcell HM1.out).2
  have l0 := cell_lt c0
  have HK : Hid (∀ W', Below W1.heap.size W1 W' → (W'.cell? ⟨w.heap.size, 0, none⟩ = some (.slice a m.sam.length c) ∧ W'.cell? ⟨w.heap.size, 1, none⟩ = some (.slice (some ⟨mb, mo, none⟩) m.marks.length cm))) := Lib.hid fun W' hB => ⟨keep hB c0, keep hB c1⟩
  go_cut [5] from 12 (fun p wc => ∃ (rb g cap q qc : Nat), p = .pointer (some ⟨rb, 0, none⟩) ∧ m.sam.length ≤ cap ∧ Hid (SmBox wc W1.heap.size rb g cap m.sam.length q qc (fun j => m.sam.getD j 0) m.marks ∧ Below W1.heap.size W1 wc))
  case first =>
    go_region_held3 (fun W' => (W'.cell? ⟨w.heap.size, 0, none⟩ = some (.slice a m.sam.length c) ∧ W'.cell? ⟨w.heap.size, 1, none⟩ = some (.slice (some ⟨mb, mo, none⟩) m.marks.length cm))) (((try dsimp only); exact HK.out _ (by (repeat (first | exact Below.refl _ _ | exact hbA | exact hbB | refine Below.drew ?_ | refine bAlloc ?_ _ | (refine Below.setCell (p := ⟨_, _, none⟩) ?_ (by first | exact Nat.le_refl _ | exact hbA.size | exact hbB.size) _)))))) (first
      | (refine step_append_ints (by rfl) _ _ (by rfl) _ (.slice none 0 0) 0 [] rfl (World.ownsRow_nil _ _ _ _) a m.sam.length c m.sam rfl rfl (src_of (HV.out.1.keep IntAt.stable (bThen HB1.out (by (repeat (first | exact Below.refl _ _ | exact hbB | refine Below.drew ?_ | refine bAlloc ?_ _)))))) (by omega) (Nat.le_refl _) ?_; intro v3 w3 hown hbx; (rw [Nat.zero_add, List.nil_append] at hown); obtain ⟨g, cap, z, rfl, hg, hcap, hrow⟩ := own_rowR (l := m.sam) hown HNE.out; clear hown; have hbA : Below W1.heap.size W1 w3 := bThen (by (repeat (first | exact Below.refl _ _ | exact hbB | refine Below.drew ?_ | refine bAlloc ?_ _))) hbx; have hg' : W1.heap.size ≤ g := Nat.le_trans (Below.size (show Below W1.heap.size W1 _ from by (repeat (first | exact Below.refl _ _ | exact hbB | refine Below.drew ?_ | refine bAlloc ?_ _)))) hg; have hgl := hrow.lt; have hzA := hbx.size; (try simp at hzA); obtain ⟨hcA, hfA⟩ := bcell hbx; (try simp at hcA hfA); (try (have y1 : W1.heap.size < w3.heap.size := by omega)); (try (have y2 : w4.heap.size < w3.heap.size := by omega)); (try (have y3 : W1.heap.size < w4.heap.size := by omega)))
      | (refine step_append_ints (by rfl) _ _ (by rfl) _ (.slice none 0 0) 0 [] rfl (World.ownsRow_nil _ _ _ _) (some ⟨mb, mo, none⟩) m.marks.length cm m.marks rfl rfl (src_of (HV.out.2.keep IntAt.stable (bThen HB1.out (by (repeat (first | exact Below.refl _ _ | exact hbA | refine Below.drew ?_ | refine bAlloc ?_ _)))))) (by omega) (Nat.le_refl _) ?_; intro v4 w4 hown hby; (rw [Nat.zero_add, List.nil_append] at hown); obtain ⟨q, qc, y, rfl, hq, hqc, hmrow⟩ := own_rowR (l := m.marks) hown HMNE.out; clear hown; have hbB : Below W1.heap.size W1 w4 := bThen (by (repeat (first | exact Below.refl _ _ | exact hbA | refine Below.drew ?_ | refine bAlloc ?_ _))) hby; have hql := hmrow.lt; have hzB := hby.size; (try simp at hzB); obtain ⟨hcB, hfB⟩ := bcell hby; (try simp at hcB hfB); (try (have x1 : W1.heap.size < w4.heap.size := by omega)); (try (have x2 : w3.heap.size < w4.heap.size := by omega)); (try (have x3 : W1.heap.size < w3.heap.size := by omega))))
    all_goals
      go_wp2_with fail
      go_meet
      case rel =>
        refine ⟨_, g, cap, q, qc, rfl, hcap, Lib.hid ?_⟩
        have hm0 := rowF_slice hmrow hqc (by omega)
        rw [getD_all] at hm0
        first
          | refine sm_endA (z := z) ?_ ?_ ?_ hg' ?_ ?_
          | refine sm_end (z := z) ?_ ?_ ?_ ?_ hg' ?_ ?_
        all_goals first
          | exact heap_at rfl
          | exact heap_keep hby (heap_at rfl)
          | exact heap_keep hbx (heap_at rfl)
          | exact heap_keep hby (heap_keep hbx (heap_at rfl))
          | exact heap_keep hbx (heap_keep hby (heap_at rfl))
          | exact row_keep hrow (by first | exact Below.refl _ _ | exact hby | exact bThen (bAlloc (Below.refl _ _) _) hby)
          | exact hm0.keep IntAt.stable (by first | exact Below.refl _ _ | exact hbx | exact bThen (bAlloc (Below.refl _ _) _) hbx)
          | exact Nat.le_refl _
          | exact hbA.size
          | exact hbB.size
          | exact hbA
          | exact hbB
          | ((try simp only [World.size_alloc] at hq hg); omega)
  case rest =>
    clear c0 c1 l0 HK
    obtain ⟨rb, g, cap, q, qc, rfl, hcap, HX⟩ := hcut
    obtain ⟨n, hn⟩ : ∃ n, m.marks.length = n + 2 := ⟨m.marks.length - 2, by omega⟩
    obtain ⟨N, hN⟩ : ∃ N, m.sam.length = N := ⟨_, rfl⟩
    have HN := Lib.hid hN
    have HNN := Lib.hid hn
    have HIL : Hid ((smIn m).length = n) := Lib.hid (by rw [smIn_len]; omega)
    rw [hN] at hln hl hcap HX
    rw [hn] at hmk hlm
    have HM1' := HM1
    rw [hn, hN] at HM1'
    unfold most at hl hlm
    clear h2 hn hN
    have b0 := (mcell HX.out.1.box).1
    have b1 := (mcell HX.out.1.box).2
    have bl := cell_lt b0
    go_wp2_with fail
    clear b0 b1 bl
    go_loopw [7] (fun x wr => ∃ k : Nat, 1 ≤ k ∧ k ≤ n + 1 ∧ x = .int .i64 k ∧ Hid (SmBox wr W1.heap.size rb g cap N q qc (smF W N (fun j => m.sam.getD j 0) ((smIn m).take (k - 1))) m.marks ∧ Below W1.heap.size W1 wr)) (fun x _ => n + 1 - (intOf x).toNat)
    case atStart => exact ⟨1, Nat.le_refl _, by omega, rfl, by rw [List.take_zero]; exact HX⟩
    case round =>
      obtain ⟨k, hk0, hk, rfl, HB⟩ := hrel
      have hB := HB.out.2
      have c0 := keep hB (mcell HM1'.out).1
      have c1 := keep hB (mcell HM1'.out).2
      have l0 := cell_lt c0
      have b0 := (mcell HB.out.1.box).1
      have b1 := (mcell HB.out.1.box).2
      have bl := cell_lt b0
      have e1 : IntKind.i64.wrap ((k : Int) + 1) = (k : Int) + 1 := IntWalk.i64_in _ (by omega)
      by_cases hlt : k < n + 1
      · have hki : k - 1 < (smIn m).length := by rw [HIL.out]; omega
        have HT : Hid ((smIn m).take k = (smIn m).take (k - 1) ++ [(mkI m k : Int)]) := Lib.hid (by
          have := take_succ _ _ hki
          rw [smIn_get HMR.out hki] at this
          rwa [show k - 1 + 1 = k by omega] at this)
        have hPN : mkI m k ≤ N := by rw [← HN.out]; exact HMR.out.le (by rw [HNN.out]; omega)
        have hm0 : w.cell? ⟨mb, mo + k, none⟩ = some (.int .i64 (mkI m k : Int)) := by
          obtain ⟨b, o, hbo, hf⟩ := HV.out.2.at HMNE.out
          cases hbo
          have := hf k (by rw [HNN.out]; omega)
          unfold IntAt at this
          rw [HMR.out.get (by rw [HNN.out]; omega)] at this
          rwa [Nat.mul_one] at this
        obtain ⟨P, hP⟩ : ∃ P, P = mkI m k := ⟨_, rfl⟩
        rw [← hP] at HT hPN hm0
        clear hP hki
        have m0 := keep (bThen HB1.out hB) hm0
        have ml := cell_lt m0
        have j1 : IntKind.i64.wrap ((P : Int) - W) = (P : Int) - W := IntWalk.i64_in _ (by omega)
        have j2 : IntKind.i64.wrap ((P : Int) + W) = (P : Int) + W := IntWalk.i64_in _ (by omega)
        clear hm0 hB
        by_cases h1 : W ≤ P
        · by_cases h2 : P + W ≤ N
          · obtain ⟨lo, rfl⟩ : ∃ lo, P = lo + W := ⟨P - W, by omega⟩
            rw [Int.natCast_add, show (lo : Int) + W - W = (lo : Int) by omega] at j1
            rw [Int.natCast_add] at j2 m0
            obtain ⟨F, HF, HBF⟩ : ∃ F, Hid (F = smF W N (fun j => m.sam.getD j 0) ((smIn m).take (k - 1))) ∧ Hid (SmBox wr W1.heap.size rb g cap N q qc F m.marks ∧ Below W1.heap.size W1 wr) := ⟨_, Lib.hid rfl, HB⟩
            have HFI : Hid (∀ j, -32768 ≤ F j ∧ F j ≤ 32767) := Lib.hid (by rw [HF.out]; exact smF_in (fun j => sm_dflt HS.out j) W N _)
            have HFW : Hid (smF W N (fun j => m.sam.getD j 0) ((smIn m).take k) = smS F lo W W) := Lib.hid (by
              have HTT := HT.out
              rw [show ((lo + W : Nat) : Int) = (lo : Int) + W by omega] at HTT
              rw [HTT, smF_snoc, if_pos (by omega), show ((lo : Int) + W - W).toNat = lo by omega, HF.out])
            clear HB
            have x0c := (HBF.out.1.cell hcap (i := lo + W) (by omega)).1
            have x1c := (HBF.out.1.cell hcap (i := lo + (W - 1)) (by omega)).1
            have pf0 := HFI.out (lo + W)
            have pf1 := HFI.out (lo + (W - 1))
            obtain ⟨x0, hx0⟩ : ∃ t, t = F (lo + W) := ⟨_, rfl⟩
            obtain ⟨x1, hx1⟩ : ∃ t, t = F (lo + (W - 1)) := ⟨_, rfl⟩
            rw [← hx0] at x0c pf0
            rw [← hx1] at x1c pf1
            obtain ⟨D, hD⟩ : ∃ t, t = x0 - x1 := ⟨_, rfl⟩
            have HD : Hid (D = F (lo + W) - F (lo + W - 1)) := Lib.hid (by rw [hD, hx0, hx1, show lo + (W - 1) = lo + W - 1 by omega])
            have v1 : IntKind.i64.wrap ((lo : Int) + W - 1) = (lo : Int) + W - 1 := IntWalk.i64_in _ (by omega)
            have v2 : ((lo : Int) + W - 1).toNat = lo + (W - 1) := by omega
            have v3 : (0 : Int) ≤ (lo : Int) + W - 1 := by omega
            have v4 : (lo : Int) + W - 1 < (N : Int) := by omega
            have v5 : IntKind.i64.wrap (x0 - x1) = D := by rw [hD]; exact IntWalk.i64_in _ (by omega)
            have v6 : (0 : Int) ≤ (lo : Int) + W := by omega
            have v7 : (lo : Int) + W < (N : Int) := by omega
            have v8 : ((lo : Int) + W).toNat = lo + W := by omega
            have v9 : IntKind.i64.wrap (2 * (W : Int)) = 2 * (W : Int) := IntWalk.i64_in _ (by omega)
            have v10 : IntKind.i64.wrap (2 * (W : Int) + 1) = 2 * (W : Int) + 1 := IntWalk.i64_in _ (by omega)
            have t2 : ¬ (N : Int) < (lo : Int) + W + W := by omega
            have t3 : ¬ (lo : Int) < 0 := by omega
            have HDB : Hid (-65535 ≤ D ∧ D ≤ 65535) := Lib.hid (by omega)
            have gl := cell_lt x0c
            clear hx0 hx1 hD
            go_wp2_with fail
            refine wp_opaque fun Q2 hQ2 => ?_
            (refine wp_region_below (by kernel_rfl) (by kernel_rfl) ?_; (repeat (first | go_big_quiet_step (fail) | quiet_step (fail))); (refine wpQuiet_nil ?_; intro _ hw'; obtain ⟨xq, hw''⟩ := hw'; subst hw''))
            refine hQ2 _ _ _ ?_
            have hbx := xq.2
            have HBX := Lib.hid (show SmBox xq.val W1.heap.size rb g cap N q qc F m.marks ∧ Below W1.heap.size W1 xq.val from ⟨HBF.out.1.keep hbx, bThen HBF.out.2 hbx⟩)
            generalize xq.val = wx at HBX ⊢
            clear hbx HBF m0 c0 c1 l0 b0 b1 bl ml x0c x1c pf0 pf1 gl
            go_wp2_with fail
            go_loopw [10] (fun x wi => ∃ i : Nat, i ≤ W ∧ x = .int .i64 i ∧ Hid (SmBox wi W1.heap.size rb g cap N q qc (smS F lo W i) m.marks ∧ Below W1.heap.size W1 wi)) (fun x _ => W - (intOf x).toNat)
            case atStart => exact ⟨0, Nat.zero_le _, rfl, Lib.hid (by rw [show smS F lo W 0 = F from funext fun j => smS_zero F lo W j]; exact HBX.out)⟩
            case round =>
              obtain ⟨i, hi, rfl, HI⟩ := hrel
              by_cases hit : i < W
              · have e1 : smS F lo W i (lo + (W - 1 - i)) = F (lo + (W - 1 - i)) := by unfold smS; rw [if_neg (by omega), if_neg (by omega)]
                have e2 : smS F lo W i (lo + W + i) = F (lo + W + i) := by unfold smS; rw [if_neg (by omega), if_neg (by omega)]
                have p0 := (HI.out.1.cell hcap (i := lo + (W - 1 - i)) (by omega)).1
                have z0 := (HI.out.1.cell hcap (i := lo + (W - 1 - i)) (by omega)).2
                have pf := HFI.out (lo + (W - 1 - i))
                have qf := HFI.out (lo + W + i)
                obtain ⟨p, hp⟩ : ∃ t, t = F (lo + (W - 1 - i)) := ⟨_, rfl⟩
                obtain ⟨y, hy⟩ : ∃ t, t = F (lo + W + i) := ⟨_, rfl⟩
                rw [e1, ← hp] at p0
                rw [← hp] at pf
                rw [← hy] at qf
                have HP := Lib.hid hp
                have HY := Lib.hid hy
                have HE2 := Lib.hid e2
                clear hp hy e1 e2
                have hdb := HDB.out
                have mu := mul_in (A := 65535) (B := 1000000) (show -65535 ≤ D by omega) (by omega) (show -1000000 ≤ (W : Int) - i by omega) (by omega)
                obtain ⟨T, hT⟩ : ∃ t, t = D * ((W : Int) - i) := ⟨_, rfl⟩
                rw [← hT] at mu
                have q1 : IntKind.i64.wrap ((W : Int) - i) = (W : Int) - i := IntWalk.i64_in _ (by omega)
                have q2 : IntKind.i64.wrap (D * ((W : Int) - i)) = T := by rw [← hT]; exact IntWalk.i64_in _ (by omega)
                have h67 := fun W' => Round_any T (2 * (W : Int) + 1) W' (by omega) (by omega) (by omega) (by omega)
                have hsb := rnd_sh (T := T) (W := (W : Int)) (by omega) (by omega) (by omega)
                obtain ⟨sh, hsh⟩ : ∃ t, t = rnd T (2 * (W : Int) + 1) := ⟨_, rfl⟩
                rw [← hsh] at h67 hsb
                have HSH : Hid (sh = rnd (D * ((W : Int) - i)) (2 * (W : Int) + 1)) := Lib.hid (by rw [hsh, hT])
                have H67 := Lib.hid h67
                have r1 : IntKind.i64.wrap ((lo : Int) + W - 1 - i) = (lo : Int) + W - 1 - i := IntWalk.i64_in _ (by omega)
                have r2 : ((lo : Int) + W - 1 - i).toNat = lo + (W - 1 - i) := by omega
                have r3 : (0 : Int) ≤ (lo : Int) + W - 1 - i := by omega
                have r4 : (lo : Int) + W - 1 - i < (N : Int) := by omega
                have r5 : IntKind.i64.wrap (p + sh) = p + sh := IntWalk.i64_in _ (by omega)
                have r6 : IntKind.i64.wrap (y - sh) = y - sh := IntWalk.i64_in _ (by omega)
                have r7 : IntKind.i64.wrap ((lo : Int) + W + i) = (lo : Int) + W + i := IntWalk.i64_in _ (by omega)
                have r8 : ((lo : Int) + W + i).toNat = lo + W + i := by omega
                have r9 : (0 : Int) ≤ (lo : Int) + W + i := by omega
                have r10 : (lo : Int) + W + i < (N : Int) := by omega
                have r11 : IntKind.i64.wrap ((i : Int) + 1) = (i : Int) + 1 := IntWalk.i64_in _ (by omega)
                have HCP := Lib.hid (fun W' => clip_any (p + sh) W')
                have HCQ := Lib.hid (fun W' => clip_any (y - sh) W')
                obtain ⟨cp, hcp⟩ : ∃ t, t = clp (p + sh) := ⟨_, rfl⟩
                obtain ⟨cq, hcq⟩ : ∃ t, t = clp (y - sh) := ⟨_, rfl⟩
                rw [← hcp] at HCP
                rw [← hcq] at HCQ
                have HC1 := Lib.hid hcp
                have HC2 := Lib.hid hcq
                have gl := cell_lt p0
                clear h67 hsh hT hcp hcq hdb mu
                go_upto_region 14 with (first
                  | (go_at_call 67; with_reducible refine Calls.mono (H67.out _) ?_; rintro e w1 ⟨rfl, rfl⟩)
                  | (go_at_call 77; with_reducible refine Calls.mono (HCP.out _) ?_; rintro e w1 ⟨rfl, rfl⟩))
                have HI2 := Lib.hid (show SmBox (wr.setCell ⟨g, lo + (W - 1 - i), none⟩ (.int .i64 cp)) W1.heap.size rb g cap N q qc (fun j => if j = lo + (W - 1 - i) then cp else smS F lo W i j) m.marks ∧ Below W1.heap.size W1 (wr.setCell ⟨g, lo + (W - 1 - i), none⟩ (.int .i64 cp)) from ⟨HI.out.1.set (by omega) (fun j _ => rfl), HI.out.1.below HI.out.2 _ _⟩)
                clear p0 z0 gl
                generalize World.setCell wr _ _ = W2 at HI2 ⊢
                have q0 := (HI2.out.1.cell hcap (i := lo + W + i) (by omega)).1
                have z0 := (HI2.out.1.cell hcap (i := lo + W + i) (by omega)).2
                rw [if_neg (by omega), HE2.out, ← HY.out] at q0
                have gl := cell_lt q0
                go_wp2_with (go_at_call 77; with_reducible refine Calls.mono (HCQ.out _) ?_; rintro e w1 ⟨rfl, rfl⟩)
                have HI3 := Lib.hid (show SmBox (W2.setCell ⟨g, lo + W + i, none⟩ (.int .i64 cq)) W1.heap.size rb g cap N q qc (smS F lo W (i + 1)) m.marks ∧ Below W1.heap.size W1 (W2.setCell ⟨g, lo + W + i, none⟩ (.int .i64 cq)) from ⟨HI2.out.1.set (by omega) (fun j hj => by
                  rw [smS_step hit HD.out HSH.out]
                  by_cases h1 : j = lo + W + i
                  · rw [if_pos h1, if_pos h1, HC2.out, HY.out, h1]
                  · rw [if_neg h1, if_neg h1]
                    by_cases h2 : j = lo + (W - 1 - i)
                    · rw [if_pos h2, if_pos h2, HC1.out, HP.out, h2]
                    · rw [if_neg h2, if_neg h2]), HI2.out.1.below HI2.out.2 _ _⟩)
                go_roundw
                case rel =>
                  first
                    | exact ⟨i + 1, by omega, by go_num, HI3⟩
                    | ((repeat apply Exists.intro); refine ⟨?_, rfl⟩; exact ⟨i + 1, by omega, by go_num, HI3⟩)
                    | fail
                case measure => simp [intOf]; omega
              · obtain rfl : i = W := by omega
                go_wp2_with fail
                have HB3 : Hid (SmBox wr W1.heap.size rb g cap N q qc (smF i N (fun j => m.sam.getD j 0) ((smIn m).take (k + 1 - 1))) m.marks ∧ Below W1.heap.size W1 wr) := Lib.hid (by rw [Nat.add_sub_cancel, HFW.out]; exact HI.out)
                go_roundw
                case rel =>
                  first
                    | exact ⟨k + 1, by omega, by omega, by go_num, HB3⟩
                    | ((repeat apply Exists.intro); refine ⟨?_, rfl⟩; exact ⟨k + 1, by omega, by omega, by go_num, HB3⟩)
                    | fail
                case measure => simp [intOf]; omega
          · have t2 : (N : Int) < (P : Int) + W := by omega
            have t3 : ¬ (P : Int) - W < 0 := by omega
            go_wp2_with fail
            have HB3 : Hid (SmBox wr W1.heap.size rb g cap N q qc (smF W N (fun j => m.sam.getD j 0) ((smIn m).take (k + 1 - 1))) m.marks ∧ Below W1.heap.size W1 wr) := Lib.hid (by rw [Nat.add_sub_cancel, HT.out, smF_snoc, if_neg (by omega)]; exact HB.out)
            go_roundw
            case rel =>
              first
                | exact ⟨k + 1, by omega, by omega, by go_num, HB3⟩
                | ((repeat apply Exists.intro); refine ⟨?_, rfl⟩; exact ⟨k + 1, by omega, by omega, by go_num, HB3⟩)
                | fail
            case measure => simp [intOf]; omega
        · have t2 : (P : Int) - W < 0 := by omega
          go_wp2_with fail
          have HB3 : Hid (SmBox wr W1.heap.size rb g cap N q qc (smF W N (fun j => m.sam.getD j 0) ((smIn m).take (k + 1 - 1))) m.marks ∧ Below W1.heap.size W1 wr) := Lib.hid (by rw [Nat.add_sub_cancel, HT.out, smF_snoc, if_neg (by omega)]; exact HB.out)
          go_roundw
          case rel =>
            first
              | exact ⟨k + 1, by omega, by omega, by go_num, HB3⟩
              | ((repeat apply Exists.intro); refine ⟨?_, rfl⟩; exact ⟨k + 1, by omega, by omega, by go_num, HB3⟩)
              | fail
          case measure => simp [intOf]; omega
      · have t2 : ¬ (k : Int) + 1 < (n : Int) + 2 := by omega
        have r0 := keep hB (mcell HR1.out).1
        have r1 := keep hB (mcell HR1.out).2
        have rl := cell_lt r0
        have rf0 := frz (heap_keep hB HR1.out) 0
        have rf1 := frz (heap_keep hB HR1.out) 1
        have HBX := Lib.hid hB
        clear hB
        go_wp2_with fail
        (try simp only [Exit.inBlock, Exit.then])
        have hq1 := heap_keep HBX.out HR1.out
        refine bodyPost_ret (results_cell_row rfl _ _ (w.heap.size + 1) 24 _ (0, 0) _ rfl (set2_1 (set2_0 hq1 _) _) Try.underlying24 rfl (by kernel_rfl)) rfl ?_
        have hrow := HB.out.1.row
        obtain ⟨z, hz⟩ := hrow
        have hsl := rowF_slice hz hcap (by omega)
        have hin : (smIn m).take (k - 1) = smIn m := List.take_of_length_le (by rw [HIL.out]; omega)
        rw [hin] at hsl
        have hsm : (List.range N).map (smF W N (fun j => m.sam.getD j 0) (smIn m)) = smL m W := by unfold smL; rw [HN.out]
        rw [hsm] at hsl
        refine ⟨⟨_, _, _, _, by rw [HN.out, HNN.out], ?_, ?_⟩, ?_⟩
        · rw [HN.out]; exact ints_set2 hsl hq1
        · exact ints_set2 HB.out.1.mrk hq1
        · exact ((bThen HB1.out HBX.out).setCell (p := ⟨w.heap.size + 1, 0, none⟩) (Nat.le_succ _) _).setCell (p := ⟨w.heap.size + 1, 1, none⟩) (Nat.le_succ _) _
end Go.Proofs.Ytbeeddenidfenaa
