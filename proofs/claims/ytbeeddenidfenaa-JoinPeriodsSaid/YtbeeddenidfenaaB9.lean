/- Contracts: two waves joined. -/
import Derived.Test.YtbeeddenidfenaaB8
import Derived.Laws.CopyOwn
import Derived.Deep.DeepCutAuto
import Derived.Deep.RegionLaw
import Derived.Laws.MakeOwn
import Derived.StillTailTactics
set_option linter.unusedSimpArgs false
set_option linter.unusedVariables false
namespace Go.Proofs.Ytbeeddenidfenaa
open Go.RowKit

def joinL (x y : List Int) (n k : Nat) : List Int := x.take (x.length - n) ++ fadeL (endA x n) (partB y n k) ++ y.drop (k + n)
theorem spl_row {W : World} {g off T : Nat} {cur cs : List Value} {f h : Nat → Value} (hg : W.heap[g]? = some (.cells (splice cur off cs).toArray 3 (0, 0))) (hT : cur.length = T) (hf : ∀ i, i < T → cur[i]? = some (f i)) (hh : ∀ j, j < cs.length → cs[j]? = some (h j)) (hfit : off + cs.length ≤ T) :
    W.rowIs g 3 T (fun i => if off ≤ i ∧ i < off + cs.length then h (i - off) else f i) := by
  refine ⟨_, hg, by simp [splice]; omega, fun i hi => ?_⟩
  simp only [splice, List.getElem?_toArray]
  by_cases h1 : i < off
  · rw [List.getElem?_append_left (by simp; omega), List.getElem?_take_of_lt h1, hf i hi, if_neg (by omega)]
  · rw [List.getElem?_append_right (by simp; omega), List.length_take, Nat.min_eq_left (by omega)]
    by_cases h2 : i < off + cs.length
    · rw [List.getElem?_append_left (by omega), hh _ (by omega), if_pos (by omega)]
    · rw [List.getElem?_append_right (by omega), List.getElem?_drop, show off + cs.length + (i - off - cs.length) = i by omega, hf i hi, if_neg (by omega)]
theorem row_cells {W : World} {g T : Nat} {f : Nat → Value} (h : W.rowIs g 3 T f) : ∃ cur : List Value, W.heap[g]? = some (.cells cur.toArray 3 (0, 0)) ∧ cur.length = T ∧ ∀ i, i < T → cur[i]? = some (f i) := by
  obtain ⟨c, h1, h2, h3⟩ := h
  exact ⟨c.toList, h1, by simpa using h2, fun i hi => by simpa using h3 i hi⟩
theorem ints_news {W : World} {b o : Nat} {l : List Int} (h : ∀ i (hi : i < l.length), IntAt W b (o + i * 1) l[i]) : ∀ (j : Nat) (v : Value), (intV l)[j]? = some v → W.cell? ((⟨b, o, none⟩ : Addr).add j) = some v := by
  intro j v hv
  have hj : j < l.length := by
    by_cases hj : j < l.length
    · exact hj
    · rw [List.getElem?_eq_none (by rw [intV_len]; omega)] at hv; cases hv
  have := h j hj
  unfold IntAt at this
  rw [Nat.mul_one] at this
  have e : v = .int .i64 l[j] := by simp [intV, hj] at hv; exact hv.symm
  have ea : (⟨b, o, none⟩ : Addr).add j = ⟨b, o + j, none⟩ := by unfold Addr.add; split <;> simp_all
  rw [e, ea]; exact this
theorem ints_one (l : List Int) : ∀ v ∈ intV l, v.oneCell' = true := by
  intro v hv
  obtain ⟨x, _, rfl⟩ := List.mem_map.1 hv
  rfl
theorem intV_get {l : List Int} {j : Nat} (h : j < (intV l).length) : (intV l)[j]? = some (.int .i64 (l.getD j 0)) := by
  rw [intV_len] at h
  rw [gI h]; simp [intV, h]
theorem joinL_len {x y : List Int} {n k s q : Nat} (hs : x.length = s + n) (hq : y.length = k + n + q) : (joinL x y n k).length = s + n + q := by
  unfold joinL
  rw [List.length_append, List.length_append, fadeL_len, endA_len (by omega), List.length_take, List.length_drop]
  omega
theorem joinL_get {x y : List Int} {n k s q : Nat} (hs : x.length = s + n) (hq : y.length = k + n + q) (i : Nat) (hi : i < (joinL x y n k).length) :
    (if s + n ≤ i ∧ i < s + n + (intV (y.drop (k + n))).length then Value.int .i64 ((y.drop (k + n)).getD (i - (s + n)) 0) else (if s ≤ i ∧ i < s + n then .int .i64 (fd (endA x n) (partB y n k) n (i - s)) else if 0 ≤ i ∧ i < 0 + (intV (x.take s)).length then .int .i64 ((x.take s).getD (i - 0) 0) else .int .i64 0)) = .int .i64 (joinL x y n k)[i] := by
  have hl := joinL_len hs hq
  have hla : (x.take (x.length - n)).length = s := by rw [List.length_take]; omega
  have hle : (endA x n).length = n := endA_len (by omega)
  have hlf : (fadeL (endA x n) (partB y n k)).length = n := by rw [fadeL_len, hle]
  have hld : (y.drop (k + n)).length = q := by rw [List.length_drop]; omega
  have hlt : (x.take s).length = s := by rw [List.length_take]; omega
  rw [← gI hi]
  rw [hl] at hi
  rw [intV_len, intV_len, hld, hlt]
  have hxs : x.length - n = s := by omega
  by_cases h1 : i < s
  · rw [if_neg (by omega), if_neg (by omega), if_pos (by omega), Nat.sub_zero]
    unfold joinL
    rw [List.getD_eq_getElem?_getD, List.getD_eq_getElem?_getD, List.getElem?_append_left (by rw [List.length_append, hla, hlf]; omega), List.getElem?_append_left (by rw [hla]; exact h1), hxs]
  · by_cases h2 : i < s + n
    · rw [if_neg (by omega), if_pos (by omega)]
      unfold joinL
      rw [List.getD_eq_getElem?_getD, List.getElem?_append_left (by rw [List.length_append, hla, hlf]; omega), List.getElem?_append_right (by rw [hla]; omega), hla, List.getElem?_eq_getElem (by rw [hlf]; omega), fadeL_get, hle]
      rfl
    · rw [if_pos (by omega)]
      unfold joinL
      rw [List.getD_eq_getElem?_getD, List.getD_eq_getElem?_getD, List.getElem?_append_right (by rw [List.length_append, hla, hlf]; omega), List.length_append, hla, hlf]
set_option maxRecDepth 10000 in
set_option maxHeartbeats 4000000 in
theorem joined_any (x y : List Int) (n k : Nat) (v u : Value) (w : World) (hv : SliceV w v 1 IntAt x) (hu : SliceV w u 1 IntAt y) (hx : Sm x) (hy : Sm y) (h1 : 1 ≤ n) (h2 : n ≤ x.length) (h3 : k + n ≤ y.length) (hn : x.length ≤ 100000) (hm : y.length ≤ 100000) :
    Calls Try.prog 64 #[v, u, .int .i64 n, .int .i64 k] w fun e w' => (∃ g T, e = .returned (.slice (some ⟨g, 0, none⟩) T T) ∧ w.heap.size ≤ g ∧ SliceV w' (.slice (some ⟨g, 0, none⟩) T T) 1 IntAt (joinL x y n k)) ∧ Below w.heap.size w w' := by
  have HV := Lib.hid hv
  have HU := Lib.hid hu
  have HX := Lib.hid hx
  have HY := Lib.hid hy
  obtain ⟨xb, xo, c, rfl, hlc, -⟩ : ∃ xb xo c, v = .slice (some ⟨xb, xo, none⟩) x.length c ∧ x.length ≤ c ∧ True := by
    obtain ⟨a, c, rfl, hl, h⟩ := hv
    rcases h with h | ⟨b, o, rfl, hf⟩
    · exfalso
      have h0 : x.length = 0 := by rw [h]; rfl
      omega
    · exact ⟨b, o, c, rfl, hl.2, trivial⟩
  obtain ⟨yb, yo, d, rfl, hdl, -⟩ : ∃ yb yo d, u = .slice (some ⟨yb, yo, none⟩) y.length d ∧ y.length ≤ d ∧ True := by
    obtain ⟨a, c, rfl, hl, h⟩ := hu
    rcases h with h | ⟨b, o, rfl, hf⟩
    · exfalso
      have h0 : y.length = 0 := by rw [h]; rfl
      omega
    · exact ⟨b, o, c, rfl, hl.2, trivial⟩
  clear hx hy
  obtain ⟨s, hs⟩ : ∃ s, x.length = s + n := ⟨x.length - n, by omega⟩
  obtain ⟨q, hq⟩ : ∃ q, y.length = k + n + q := ⟨y.length - k - n, by omega⟩
  obtain ⟨T, hT⟩ : ∃ T, T = s + n + q := ⟨_, rfl⟩
  have HSX := Lib.hid hs
  have HQY := Lib.hid hq
  have HTT := Lib.hid hT
  rw [hs] at h2 hlc hn HV ⊢
  rw [hq] at h3 hdl hm HU ⊢
  clear hs hq
  have hTn : T ≤ 1000000 := by omega
  have e1 : IntKind.i64.wrap ((s : Int) + n - n) = (s : Int) := by rw [show (s : Int) + n - n = (s : Int) by omega]; exact IntWalk.i64_in _ (by omega)
  have e2 : IntKind.i64.wrap (s : Int) = (s : Int) := IntWalk.i64_in _ (by omega)
  have e3 : IntKind.i64.wrap ((s : Int) + n + ((k : Int) + n + q)) = (s : Int) + n + ((k : Int) + n + q) := IntWalk.i64_in _ (by omega)
  have e4 : IntKind.i64.wrap ((s : Int) + n + ((k : Int) + n + q) - n) = (s : Int) + n + ((k : Int) + n + q) - n := IntWalk.i64_in _ (by omega)
  have e5 : IntKind.i64.wrap ((s : Int) + n + ((k : Int) + n + q) - n - k) = (T : Int) := by rw [show (s : Int) + n + ((k : Int) + n + q) - n - k = (T : Int) by omega]; exact IntWalk.i64_in _ (by omega)
  have hTb : s + n ≤ T := by omega
  have hTm : (s : Int) + (n : Int) ≤ (T : Int) := by omega
  have i0 : (0 : Int) ≤ (s : Int) := by omega
  have i1 : (s : Int) ≤ (T : Int) := by omega
  have i2 : (s : Int) ≤ (s : Int) + (n : Int) := by omega
  have i3 : (s : Int) + (n : Int) ≤ (c : Int) := by omega
  have i4 : ¬ c = s := by omega
  have i5 : ¬ d = k := by omega
  have i6 : (k : Int) ≤ (k : Int) + (n : Int) := by omega
  have i7 : (k : Int) + (n : Int) ≤ (d : Int) := by omega
  have i8 : ((s : Int) + (n : Int)).toNat = s + n := by omega
  have i9 : ((k : Int) + (n : Int)).toNat = k + n := by omega
  have j1 : ¬ n = 0 := by omega
  have e6 : IntKind.i64.wrap ((k : Int) + n) = (k : Int) + n := IntWalk.i64_in _ (by omega)
  have hmk := makeI T hTn
  have HRM := Lib.hid (World.rowIs_made w (.int .i64 0) T 3)
  have HB1 := Lib.hid (bAlloc (Below.refl w.heap.size w) (.cells (madeCells #[Value.int .i64 0] T) 3))
  obtain ⟨cur, hg1, hcl, hcg⟩ := row_cells HRM.out
  have HCL := Lib.hid hcl
  have HCG := Lib.hid hcg
  have HXS : Hid ((intV (x.take s)).length = Nat.min (s + n) s) := Lib.hid (by rw [intV_len, List.length_take, HSX.out]; show min s (s + n) = min (s + n) s; omega)
  have HXN : Hid (∀ W, Below w.heap.size w W → ∀ (j : Nat) (v : Value), (intV (x.take s))[j]? = some v → W.cell? ((⟨xb, xo, none⟩ : Addr).add j) = some v) := Lib.hid (fun W hB => by
    have h0 := (HV.out.keep IntAt.stable hB).part 0 s c (by rw [HSX.out]; omega) (by omega)
    rw [List.drop_zero, Nat.add_zero] at h0
    by_cases hs0 : s = 0
    · intro j v hv
      rw [hs0] at hv
      simp [intV] at hv
    · obtain ⟨b', o', he, hf⟩ := h0.at (by intro h; have := congrArg List.length h; rw [List.length_take, HSX.out] at this; simp at this; omega)
      obtain ⟨rfl, rfl⟩ : xb = b' ∧ xo = o' := by simpa using he
      exact ints_news hf)
  have HG1 := Lib.hid hg1
  have HFT : Hid (0 + (intV (x.take s)).length ≤ cur.length) := Lib.hid (by rw [HCL.out, intV_len, List.length_take, HSX.out]; omega)
  clear hT hg1 hcl hcg
  go_enter Try.func64, Try.ntmps64
  go_upto_region 3 with (fail)
  go_wp2_with (with_reducible refine wpList_copy_splice (o := ⟨some 32, _, _, _, _, _⟩) rfl (.tmp 30) (.tmp 31) 22 22 rfl 3 Try.underlying22 (by kernel_rfl) _ _ _ _ _ _ rfl rfl w.heap.size 0 cur 3 HG1.out (intV (x.take s)) HXS.out (fun _ => ⟨rfl, _, rfl, HXN.out _ HB1.out⟩) HFT.out (ints_one _) w.heap.size w HB1.out (Nat.le_refl _) ?_; intro w4 hg4 hb4)
  have HR4 : Hid (w4.rowIs w.heap.size 3 T (fun i => if 0 ≤ i ∧ i < 0 + (intV (x.take s)).length then .int .i64 ((x.take s).getD (i - 0) 0) else .int .i64 0)) := Lib.hid (spl_row (h := fun j => .int .i64 ((x.take s).getD j 0)) hg4.out HCL.out (HCG.out) (fun j hj => intV_get hj) (by have := HFT.out; rw [HCL.out] at this; exact this))
  have HB4 := Lib.hid hb4
  have HEL : Hid ((endA x n).length = n) := Lib.hid (endA_len (by rw [HSX.out]; omega))
  have HPL : Hid ((partB y n k).length = n) := Lib.hid (partB_len (by rw [HQY.out]; omega))
  clear hg4 hb4 hmk
  have HF : Hid (∀ W f, Below w.heap.size w W → W.rowIs w.heap.size 3 T f → Calls Try.prog 66 #[.slice (some ⟨w.heap.size, s, none⟩) n n, .slice (some ⟨xb, xo + s, none⟩) n (c - s), .slice (some ⟨yb, yo + k, none⟩) n (d - k)] W fun e w' => (∃ r, e = .returned r) ∧ w'.rowIs w.heap.size 3 T (fun j => if s ≤ j ∧ j < s + n then .int .i64 (fd (endA x n) (partB y n k) n (j - s)) else f j) ∧ Below w.heap.size W w') := Lib.hid (fun W f hB hr => by
    have hkx : ∀ W', Below w.heap.size W W' → SliceV W' (.slice (some ⟨xb, xo + s, none⟩) n (c - s)) 1 IntAt (endA x n) := fun W' hW' => end_part (HV.out.keep IntAt.stable (hB.trans hW')) h1
    have hky : ∀ W', Below w.heap.size W W' → SliceV W' (.slice (some ⟨yb, yo + k, none⟩) n (d - k)) 1 IntAt (partB y n k) := fun W' hW' => mid_part (HU.out.keep IntAt.stable (hB.trans hW')) (by omega)
    have h := fade_any (endA x n) (partB y n k) w.heap.size s T n f (.slice (some ⟨xb, xo + s, none⟩) n (c - s)) (.slice (some ⟨yb, yo + k, none⟩) n (d - k)) W (by rw [HEL.out, HPL.out]) (by rw [HEL.out]; exact hTb) hr (hkx W (Below.refl _ _)) (hky W (Below.refl _ _)) hkx hky (HX.out.endA n) (HY.out.partB n k) (by rw [HEL.out]; omega)
    rw [HEL.out] at h
    exact h)
  simp only [goInt, Act.put]
  go_wp2_with fail
  go_region_held3 (fun _ => True) (trivial) (first
    | (go_at_call 66; with_reducible refine Calls.mono (HF.out _ _ (Below.drew HB4.out) (HR4.out.drew)) ?_; rintro e w5 ⟨⟨r, rfl⟩, hr5, hb5⟩; have HR5 := Lib.hid hr5; have HB5 := Lib.hid ((Below.drew HB4.out).trans hb5); clear hr5 hb5))
  all_goals
    go_wp2_with fail
    have hHB5 := HB5.out
    obtain ⟨cur5, hg5, hcl5, hcg5⟩ := row_cells HR5.out
    have HCL5 := Lib.hid hcl5
    have HCG5 := Lib.hid hcg5
    have hg5' : w5.drew.heap[w.heap.size]? = some (.cells cur5.toArray 3 (0, 0)) := hg5
    have HBD := Lib.hid (Below.drew hHB5)
    have hy3 : (y.drop (k + n)).length = q := by rw [List.length_drop, HQY.out]; omega
    have hnl : (intV (y.drop (k + n))).length = Nat.min q (T - (s + n)) := by rw [intV_len, hy3, HTT.out]; show q = min _ _; omega
    have hft : (s + n) + (intV (y.drop (k + n))).length ≤ cur5.length := by rw [intV_len, hy3, HCL5.out, HTT.out]; omega
    have HY3 := Lib.hid hy3
    have hnw : ∀ (hq0 : 0 < q) (j : Nat) (v : Value), (intV (y.drop (k + n)))[j]? = some v → w5.drew.cell? ((⟨yb, yo + (k + n), none⟩ : Addr).add j) = some v := fun hq0 => by
      have h0 := (HU.out.keep IntAt.stable HBD.out).from (k + n) (by omega)
      rw [if_neg (by omega)] at h0
      obtain ⟨b', o', he, hf⟩ := h0.at (by intro h; have := congrArg List.length h; rw [HY3.out] at this; simp at this; omega)
      obtain ⟨rfl, rfl⟩ : yb = b' ∧ yo + (k + n) = o' := by simpa using he
      exact ints_news hf
    have HNW := Lib.hid hnw
    have HNL := Lib.hid hnl
    have HFT5 := Lib.hid hft
    have HG5 := Lib.hid hg5'
    have k1 : (k : Int) + (n : Int) ≤ (k : Int) + (n : Int) + (q : Int) := by omega
    have k2 : (0 : Int) ≤ (k : Int) + (n : Int) := by omega
    have k3 : (0 : Int) ≤ (s : Int) + (n : Int) := by omega
    have k4 : (k : Int) + (n : Int) + (q : Int) ≤ (d : Int) := by omega
    clear hg5 hcl5 hcg5 hg5' hHB5 hy3 hnl hft hnw
    by_cases hq0 : 0 < q
    · have a1 : ¬ T = s + n := by have := HTT.out; omega
      have a2 : ¬ d = k + n := by omega
      have HHP : Hid (0 < (intV (y.drop (k + n))).length → some (⟨w.heap.size, s + n, none⟩ : Addr) = some ⟨w.heap.size, s + n, none⟩ ∧ ∃ ad : Addr, some (⟨yb, yo + (k + n), none⟩ : Addr) = some ad ∧ ∀ (j : Nat) (v : Value), (intV (y.drop (k + n)))[j]? = some v → w5.drew.cell? (ad.add j) = some v) := Lib.hid (fun _ => ⟨rfl, _, rfl, HNW.out hq0⟩)
      go_region_law (with_reducible refine step_copy_splice (o := ⟨some 56, _, _, _, _, _⟩) rfl (.tmp 50) (.tmp 55) 22 22 rfl 3 Try.underlying22 (by kernel_rfl) (some ⟨w.heap.size, s + n, none⟩) (some ⟨yb, yo + (k + n), none⟩) (T - (s + n)) (T - (s + n)) q (d - (k + n)) (by go_simp) (by go_simp) w.heap.size (s + n) cur5 3 HG5.out (intV (y.drop (k + n))) HNL.out HHP.out HFT5.out (ints_one _) w.heap.size w HBD.out (Nat.le_refl _) ?_; intro w6 hg6 hb6)
      all_goals
        have HR6 := Lib.hid (spl_row (h := fun j => .int .i64 ((y.drop (k + n)).getD j 0)) hg6.out HCL5.out HCG5.out (fun j hj => intV_get hj) (by have := HFT5.out; rw [HCL5.out] at this; exact this))
        go_wp2_with fail
        go_ret
        exact ⟨⟨w.heap.size, _, rfl, Nat.le_refl _, row_slice HR6.out (by rw [joinL_len HSX.out HQY.out]; have := HTT.out; omega) (fun i hi => joinL_get HSX.out HQY.out i hi) (by unfold most; omega)⟩, hb6⟩
    · obtain rfl : q = 0 := by omega
      have HZL : Hid ((intV (y.drop (k + n))).length = 0) := Lib.hid (by rw [intV_len, HY3.out])
      obtain rfl : T = s + n := by have := HTT.out; omega
      replace HNL : Hid ((intV (y.drop (k + n))).length = Nat.min 0 0) := Lib.hid (by rw [HZL.out]; rfl)
      have HHP : ∀ (p1 p2 : Option Addr), Hid (0 < (intV (y.drop (k + n))).length → p1 = some ⟨w.heap.size, s + n, none⟩ ∧ ∃ ad : Addr, p2 = some ad ∧ ∀ (j : Nat) (v : Value), (intV (y.drop (k + n)))[j]? = some v → w5.drew.cell? (ad.add j) = some v) := fun _ _ => Lib.hid (fun h => by rw [HZL.out] at h; omega)
      by_cases hd0 : d = k + n
      · go_region_law (with_reducible refine step_copy_splice (o := ⟨some 56, _, _, _, _, _⟩) rfl (.tmp 50) (.tmp 55) 22 22 rfl 3 Try.underlying22 (by kernel_rfl) (some ⟨w.heap.size, 0, none⟩) (some ⟨yb, yo, none⟩) 0 0 0 0 (by go_simp) (by go_simp) w.heap.size (s + n) cur5 3 HG5.out (intV (y.drop (k + n))) HNL.out (HHP _ _).out HFT5.out (ints_one _) w.heap.size w HBD.out (Nat.le_refl _) ?_; intro w6 hg6 hb6)
        all_goals
          have HR6 := Lib.hid (spl_row (h := fun j => .int .i64 ((y.drop (k + n)).getD j 0)) hg6.out HCL5.out HCG5.out (fun j hj => intV_get hj) (by have := HFT5.out; rw [HCL5.out] at this; exact this))
          go_wp2_with fail
          go_ret
          exact ⟨⟨w.heap.size, _, rfl, Nat.le_refl _, row_slice HR6.out (by rw [joinL_len HSX.out HQY.out]; have := HTT.out; omega) (fun i hi => joinL_get HSX.out HQY.out i hi) (by unfold most; omega)⟩, hb6⟩
      · go_region_law (with_reducible refine step_copy_splice (o := ⟨some 56, _, _, _, _, _⟩) rfl (.tmp 50) (.tmp 55) 22 22 rfl 3 Try.underlying22 (by kernel_rfl) (some ⟨w.heap.size, 0, none⟩) (some ⟨yb, yo + (k + n), none⟩) 0 0 0 (d - (k + n)) (by go_simp) (by go_simp) w.heap.size (s + n) cur5 3 HG5.out (intV (y.drop (k + n))) HNL.out (HHP _ _).out HFT5.out (ints_one _) w.heap.size w HBD.out (Nat.le_refl _) ?_; intro w6 hg6 hb6)
        all_goals
          have HR6 := Lib.hid (spl_row (h := fun j => .int .i64 ((y.drop (k + n)).getD j 0)) hg6.out HCL5.out HCG5.out (fun j hj => intV_get hj) (by have := HFT5.out; rw [HCL5.out] at this; exact this))
          go_wp2_with fail
          go_ret
          exact ⟨⟨w.heap.size, _, rfl, Nat.le_refl _, row_slice HR6.out (by rw [joinL_len HSX.out HQY.out]; have := HTT.out; omega) (fun i hi => joinL_get HSX.out HQY.out i hi) (by unfold most; omega)⟩, hb6⟩
end Go.Proofs.Ytbeeddenidfenaa
