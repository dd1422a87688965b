/- The law of long waves, given the examples. -/
import Derived.Test.YtbeeddenidfenaaP6
import Derived.Test.YtbeeddenidfenaaG71
import Derived.Test.YtbeeddenidfenaaE9
import Derived.Test.YtbeeddenidfenaaF1
set_option linter.unusedSimpArgs false
set_option linter.unusedVariables false
namespace Go.Proofs.Ytbeeddenidfenaa
open Go.RowKit

theorem tf_outL {er : Int} {r : Mk} {e : Ending} {w' : World} (h : TfPost er r e w') : ∃ ra rc qa qc, e = .returned (.tuple #[.agg #[.slice ra r.sam.length rc, .slice qa r.marks.length qc], .int .i64 er]) ∧ MkV w' (.slice ra r.sam.length rc) (.slice qa r.marks.length qc) r := by
  obtain ⟨rs, rm, rfl, h3, h4⟩ := h
  obtain ⟨ra, rc, rfl, h5⟩ := id h3
  obtain ⟨qa, qc, rfl, h6⟩ := id h4
  exact ⟨ra, rc, qa, qc, rfl, h3, h4⟩
/-- Marks at the same distance. -/
def lgK (L k : Nat) : List Int := (List.range k).map fun i => ((i * L : Nat) : Int)
def lgM (L K : Nat) : Mk := ⟨List.replicate (L * K) 0, lgK L (K + 1)⟩
theorem lgK_succ (L k : Nat) : lgK L (k + 1) = lgK L k ++ [((k * L : Nat) : Int)] := by unfold lgK; rw [List.range_succ, List.map_append]; rfl
theorem lgK_len (L k : Nat) : (lgK L k).length = k := by simp [lgK]
theorem lgM_mark {L K i : Nat} (h : i ≤ K) : (lgM L K).marks.getD i 0 = ((i * L : Nat) : Int) := by
  show (lgK L (K + 1)).getD i 0 = _
  rw [gI (by rw [lgK_len]; omega)]; simp [lgK]
theorem lgM_mkI {L K i : Nat} (h : i ≤ K) : mkI (lgM L K) i = i * L := by unfold mkI; rw [lgM_mark h]; omega
theorem lgM_pN (L K : Nat) : pN (lgM L K) = K := by unfold pN; show (lgK L (K + 1)).length - 1 = K; rw [lgK_len]; omega
theorem lgM_pL {L K i : Nat} (h : i < K) : pL (lgM L K) i = L := by
  unfold pL
  rw [lgM_mkI (show i + 1 ≤ K by omega), lgM_mkI (show i ≤ K by omega), Nat.succ_mul]; omega
theorem lgM_right {L K : Nat} (h1 : 1 ≤ L) (h2 : L ≤ 100) (h3 : 1 ≤ K) (h4 : K ≤ 1000) : MkR (lgM L K) := by
  have hl : (lgM L K).sam.length = L * K := List.length_replicate
  have hm : (lgM L K).marks.length = K + 1 := lgK_len L (K + 1)
  have hb : L * K ≤ 100 * 1000 := Nat.mul_le_mul h2 h4
  refine ⟨by omega, by omega, by omega, fun i hi => ?_, fun i hi => ?_, fun i hi => ?_⟩
  · rw [lgM_mark (by omega)]; omega
  · rw [lgM_mark (by omega), hl]
    have : i * L ≤ K * L := Nat.mul_le_mul_right _ (by omega)
    rw [Nat.mul_comm L K]; omega
  · rw [lgM_mark (by omega), lgM_mark (by omega), Nat.succ_mul]; omega
theorem lgM_sm (L K : Nat) : Sm (lgM L K).sam := by
  intro x hx
  have := List.eq_of_mem_replicate (show x ∈ List.replicate (L * K) (0 : Int) from hx)
  omega
theorem lg_str {L K : Nat} (h3 : 1 ≤ K) {num den : Int} (hA : strA (lgM L K) num den ≤ 16 * K) : ∀ k, k ≤ K → sumL (lgM L K) (gsStr (lgM L K) num den) k = L * fst' (strA (lgM L K) num den) K k
  | 0, _ => by
    have : fst' (strA (lgM L K) num den) K 0 = 0 := by unfold fst'; rw [Nat.zero_mul, Nat.zero_add]; exact Nat.div_eq_of_lt (by omega)
    rw [this]; rfl
  | k + 1, hk => by
    have e1 : fL (lgM L K) (gsStr (lgM L K) num den) k = L := by
      have : fL (lgM L K) (gsStr (lgM L K) num den) k = pL (lgM L K) k := by unfold fL fin gsStr; simp [gStr]
      rw [this, lgM_pL (by omega)]
    have e2 : fT (lgM L K) (gsStr (lgM L K) num den) k = fst' (strA (lgM L K) num den) K (k + 1) - fst' (strA (lgM L K) num den) K k := by unfold fT fin gsStr; simp [gStr, lgM_pN]
    have hm := (fst_mono (strA (lgM L K) num den) K k h3 hA).1
    simp only [sumL]
    rw [lg_str h3 hA k (by omega), e1, e2, ← Nat.mul_add]
    congr 1
    omega
theorem lg_tra {L K : Nat} {num den : Nat} : ∀ k, k ≤ K → sumL (lgM L K) (gsTra (num : Int) (den : Int)) k = k * (nr ((L : Int) * den) num).toNat
  | 0, _ => by simp [sumL]
  | k + 1, hk => by
    have e1 : fL (lgM L K) (gsTra (num : Int) (den : Int)) k = (nr ((L : Int) * den) num).toNat := by
      have : fL (lgM L K) (gsTra (num : Int) (den : Int)) k = (nr ((pL (lgM L K) k : Int) * den) num).toNat := by unfold fL fin gsTra; simp [gTra]
      rw [this, lgM_pL (by omega)]
    have e2 : fT (lgM L K) (gsTra (num : Int) (den : Int)) k = 1 := by unfold fT fin gsTra; simp [gTra]
    simp only [sumL]
    rw [lg_tra k (by omega), e1, e2, Nat.succ_mul]; omega
theorem lg_reb {L K : Nat} (gs : List Eff) : rebLen (lgM L K) gs = sumL (lgM L K) gs K := by
  unfold rebLen
  rw [lgM_pN, lgM_mkI (Nat.zero_le _), lgM_mkI (Nat.le_refl _)]
  show 0 * L + ((List.replicate (L * K) (0 : Int)).length - K * L) + _ = _
  rw [List.length_replicate, Nat.mul_comm L K]; omega
/-- The count that the law reckons. -/
theorem lg_max {a x y : Nat} (hx : 1 ≤ x) (hy : 1 ≤ y) : max (1 : Int) (((2 * (a : Int)) * x + y) / (2 * (y : Int))) = nr ((a : Int) * x) y := by
  unfold nr
  rw [rnd_pos (Int.mul_nonneg (by omega) (by omega)), Int.mul_assoc]
theorem zero_row {W : World} {g n : Nat} (h : W.rowIs g 3 n (fun _ => .int .i64 0)) (hn : n ≤ 1000000) (base : Nat) (hb : base ≤ g) : W.ownsRow base 3 1 (.slice (some ⟨g, 0, none⟩) n n) n (intV (List.replicate n 0)) := by
  obtain ⟨cs, h1, h2, h3⟩ := h
  refine ⟨by rw [intV_len, List.length_replicate, Nat.mul_one], .inr ⟨g, n, cs, rfl, hb, h1, Nat.le_refl _, by unfold maxLen; omega, by rw [h2, Nat.mul_one], ?_⟩⟩
  rw [Nat.mul_one]
  apply List.ext_getElem?
  intro i
  by_cases hi : i < n
  · rw [List.getElem?_take, if_pos hi, Array.getElem?_toList, h3 i hi]
    simp [intV, hi]
  · rw [List.getElem?_eq_none (by rw [List.length_take]; omega), List.getElem?_eq_none (by rw [intV_len, List.length_replicate]; omega)]

set_option maxRecDepth 10000 in
set_option maxHeartbeats 8000000 in
theorem law11_any (x y num den : Int) (w : World) (hK : Known) :
    Calls Try.prog 11 #[.int .i64 x, .int .i64 y, .int .i64 num, .int .i64 den] w fun e w' => e = .returned (.bool true) ∧ Below w.heap.size w w' := by
  have HK : Hid (∀ W, Calls Try.prog 18 #[] W fun e w' => e = .returned (.bool true) ∧ Below W.heap.size W w') := Lib.hid hK
  have HRA : Hid (∀ W, Calls Try.prog 44 #[.int .i64 num, .int .i64 den] W fun e w' => e = .returned (.bool (ratOk num den)) ∧ W = w') := Lib.hid (Ratio_any num den)
  clear hK
  by_cases g1 : x < 1
  · go_enter Try.func11, Try.ntmps11
    go_wp2_with (first
      | (go_at_call 44; with_reducible refine Calls.mono (HRA.out _) ?_; rintro e w7 ⟨rfl, rfl⟩)
      | (go_at_call 18; with_reducible refine Calls.mono (HK.out _) ?_; rintro e wk ⟨rfl, hb⟩; have HBK := Lib.hid hb; clear hb))
    all_goals first
      | (exfalso; omega)
      | (go_ret; exact ⟨rfl, HBK.out⟩)
  by_cases g2 : 100 < x
  · go_enter Try.func11, Try.ntmps11
    go_wp2_with (first
      | (go_at_call 44; with_reducible refine Calls.mono (HRA.out _) ?_; rintro e w7 ⟨rfl, rfl⟩)
      | (go_at_call 18; with_reducible refine Calls.mono (HK.out _) ?_; rintro e wk ⟨rfl, hb⟩; have HBK := Lib.hid hb; clear hb))
    all_goals first
      | (exfalso; omega)
      | (go_ret; exact ⟨rfl, HBK.out⟩)
  by_cases g3 : y < 1
  · go_enter Try.func11, Try.ntmps11
    go_wp2_with (first
      | (go_at_call 44; with_reducible refine Calls.mono (HRA.out _) ?_; rintro e w7 ⟨rfl, rfl⟩)
      | (go_at_call 18; with_reducible refine Calls.mono (HK.out _) ?_; rintro e wk ⟨rfl, hb⟩; have HBK := Lib.hid hb; clear hb))
    all_goals first
      | (exfalso; omega)
      | (go_ret; exact ⟨rfl, HBK.out⟩)
  by_cases g4 : 1000 < y
  · go_enter Try.func11, Try.ntmps11
    go_wp2_with (first
      | (go_at_call 44; with_reducible refine Calls.mono (HRA.out _) ?_; rintro e w7 ⟨rfl, rfl⟩)
      | (go_at_call 18; with_reducible refine Calls.mono (HK.out _) ?_; rintro e wk ⟨rfl, hb⟩; have HBK := Lib.hid hb; clear hb))
    all_goals first
      | (exfalso; omega)
      | (go_ret; exact ⟨rfl, HBK.out⟩)
  cases g5 : ratOk num den
  · rw [g5] at HRA
    clear g5
    go_enter Try.func11, Try.ntmps11
    go_wp2_with (first
      | (go_at_call 44; with_reducible refine Calls.mono (HRA.out _) ?_; rintro e w7 ⟨rfl, rfl⟩)
      | (go_at_call 18; with_reducible refine Calls.mono (HK.out _) ?_; rintro e wk ⟨rfl, hb⟩; have HBK := Lib.hid hb; clear hb))
    all_goals first
      | (exfalso; omega)
      | (go_ret; exact ⟨rfl, HBK.out⟩)
  have hri := ratOk_in g5
  rw [g5] at HRA
  obtain ⟨nn, rfl⟩ : ∃ nn : Nat, num = (nn : Int) := ⟨num.toNat, by omega⟩
  obtain ⟨dd, rfl⟩ : ∃ dd : Nat, den = (dd : Int) := ⟨den.toNat, by omega⟩
  obtain ⟨L, rfl⟩ : ∃ L : Nat, x = (L : Int) := ⟨x.toNat, by omega⟩
  obtain ⟨K, rfl⟩ : ∃ K : Nat, y = (K : Int) := ⟨y.toNat, by omega⟩
  have hmr := lgM_right (L := L) (K := K) (by omega) (by omega) (by omega) (by omega)
  have hA := strA_in hmr g5
  rw [lgM_pN] at hA
  obtain ⟨A, hAe⟩ : ∃ A, A = strA (lgM L K) nn dd := ⟨_, rfl⟩
  obtain ⟨T, hTe⟩ : ∃ T, T = (nr ((L : Int) * dd) nn).toNat := ⟨_, rfl⟩
  have hT := nr_ratio (q := (L : Int)) (num := (dd : Int)) (den := (nn : Int)) (by omega) (by omega) (by omega) (by omega)
  have hT1 : nr ((L : Int) * dd) nn = (T : Int) := by omega
  have hE : mkErr (ratOk (nn : Int) dd) (lgM L K) = 0 := by rw [g5]; exact mk_fine hmr (lgM_sm L K)
  have r1 : rebLen (lgM L K) (gsStr (lgM L K) nn dd) = L * A := by rw [lg_reb, lg_str (by omega) hA.2.2 K (Nat.le_refl _), fst_top _ _ (by omega), hAe]
  have r2 : rebLen (lgM L K) (gsTra nn dd) = K * T := by rw [lg_reb, lg_tra K (Nat.le_refl _), hTe]
  rw [← hAe] at hA
  obtain ⟨n, hn⟩ : ∃ n, n = L * A := ⟨_, rfl⟩
  obtain ⟨k, hk⟩ : ∃ k, k = K * T := ⟨_, rfl⟩
  have hnb : n ≤ 100 * 16000 := by rw [hn]; exact Nat.mul_le_mul (by omega) (by omega)
  have hkb : k ≤ 1000 * 1600 := by rw [hk]; exact Nat.mul_le_mul (by omega) (by omega)
  rw [← hn] at r1
  rw [← hk] at r2
  have hsl : (lgM L K).sam.length = L * K := List.length_replicate
  have hml : (lgM L K).marks.length = K + 1 := lgK_len L (K + 1)
  have hLK : L * K ≤ 100 * 1000 := Nat.mul_le_mul (by omega) (by omega)
  obtain ⟨S, hS⟩ : ∃ S, S = L * K := ⟨_, rfl⟩
  rw [← hS] at hsl hLK
  have hres : ∀ gs, (100000 < rebLen (lgM L K) gs → tfErr (lgM L K) nn dd gs = 4 ∧ tfV (lgM L K) nn dd gs = ⟨[], []⟩) ∧ (rebLen (lgM L K) gs ≤ 100000 → tfErr (lgM L K) nn dd gs = 0 ∧ (tfV (lgM L K) nn dd gs).sam.length = rebLen (lgM L K) gs) := fun gs => by
    constructor
    · intro h
      have h1 : tfErr (lgM L K) nn dd gs = 4 := by unfold tfErr; rw [if_pos hE, if_pos h]
      exact ⟨h1, by unfold tfV; rw [h1, if_neg (by decide)]⟩
    · intro h
      have h1 : tfErr (lgM L K) nn dd gs = 0 := by unfold tfErr; rw [if_pos hE, if_neg (by omega)]
      exact ⟨h1, by unfold tfV; rw [h1, if_pos rfl, bld_len hmr]⟩
  have hso := fun W vs vm (h : MkV W vs vm (lgM L K)) => (Stretch_any (lgM L K) nn dd vs vm W h (by rw [hsl]; omega)).mono fun e w' (h : _ ∧ _) => (⟨tf_outL h.1, h.2⟩ : _ ∧ _)
  have hto := fun W vs vm (h : MkV W vs vm (lgM L K)) => (Transpose_any (lgM L K) nn dd vs vm W h (by rw [hsl]; omega)).mono fun e w' (h : _ ∧ _) => (⟨tf_outL h.1, h.2⟩ : _ ∧ _)
  have hr1 := hres (gsStr (lgM L K) nn dd)
  have hr2 := hres (gsTra nn dd)
  rw [r1] at hr1
  rw [r2] at hr2
  obtain ⟨X, hX⟩ : ∃ X : Mk, X = tfV (lgM L K) nn dd (gsStr (lgM L K) nn dd) := ⟨_, rfl⟩
  obtain ⟨Y, hY⟩ : ∃ Y : Mk, Y = tfV (lgM L K) nn dd (gsTra nn dd) := ⟨_, rfl⟩
  obtain ⟨ex, hex⟩ : ∃ ex, ex = tfErr (lgM L K) nn dd (gsStr (lgM L K) nn dd) := ⟨_, rfl⟩
  obtain ⟨ey, hey⟩ : ∃ ey, ey = tfErr (lgM L K) nn dd (gsTra nn dd) := ⟨_, rfl⟩
  rw [← hX, ← hex] at hso hr1
  rw [← hY, ← hey] at hto hr2
  obtain ⟨xs, hxs⟩ : ∃ xs, xs = X.sam.length := ⟨_, rfl⟩
  obtain ⟨xm, hxm⟩ : ∃ xm, xm = X.marks.length := ⟨_, rfl⟩
  obtain ⟨ys, hys⟩ : ∃ ys, ys = Y.sam.length := ⟨_, rfl⟩
  obtain ⟨ym, hym⟩ : ∃ ym, ym = Y.marks.length := ⟨_, rfl⟩
  rw [← hxs, ← hxm] at hso
  rw [← hys, ← hym] at hto
  have hno : ∀ (M : Mk) (s t : Nat), M = ⟨[], []⟩ → s = M.sam.length → t = M.marks.length → ∀ W ra rc qa qc, MkV W (.slice ra s rc) (.slice qa t qc) M → Calls Try.prog 45 #[.agg #[.slice ra s rc, .slice qa t qc]] W fun e w' => e = .returned (.bool true) ∧ Below W.heap.size W w' := fun M s t hM hs ht W ra rc qa qc h => by
    subst hM hs ht
    exact none_any ⟨[], []⟩ _ _ W h (by show 0 ≤ 1000000; omega) (by show 0 ≤ 1000000; omega)
  have hcx : (100000 < n ∧ ex = 4 ∧ X = ⟨[], []⟩) ∨ (¬ 100000 < n ∧ ex = 0 ∧ xs = n) := by
    by_cases h : 100000 < n
    · exact .inl ⟨h, hr1.1 h⟩
    · exact .inr ⟨h, (hr1.2 (by omega)).1, by rw [hxs]; exact (hr1.2 (by omega)).2⟩
  have hcy : (100000 < k ∧ ey = 4 ∧ Y = ⟨[], []⟩) ∨ (¬ 100000 < k ∧ ey = 0 ∧ ys = k) := by
    by_cases h : 100000 < k
    · exact .inl ⟨h, hr2.1 h⟩
    · exact .inr ⟨h, (hr2.2 (by omega)).1, by rw [hys]; exact (hr2.2 (by omega)).2⟩
  have HNX : Hid (X = ⟨[], []⟩ → ∀ W ra rc qa qc, MkV W (.slice ra xs rc) (.slice qa xm qc) X → Calls Try.prog 45 #[.agg #[.slice ra xs rc, .slice qa xm qc]] W fun e w' => e = .returned (.bool true) ∧ Below W.heap.size W w') := Lib.hid fun h => hno X xs xm h hxs hxm
  have HNY : Hid (Y = ⟨[], []⟩ → ∀ W ra rc qa qc, MkV W (.slice ra ys rc) (.slice qa ym qc) Y → Calls Try.prog 45 #[.agg #[.slice ra ys rc, .slice qa ym qc]] W fun e w' => e = .returned (.bool true) ∧ Below W.heap.size W w') := Lib.hid fun h => hno Y ys ym h hys hym
  have mx1 : max (1 : Int) (((2 * (K : Int)) * nn + dd) / (2 * (dd : Int))) = (A : Int) := by rw [lg_max (by omega) (by omega), hA.1]
  have mx2 : max (1 : Int) (((2 * (L : Int)) * dd + nn) / (2 * (nn : Int))) = (T : Int) := by rw [lg_max (by omega) (by omega), hT1]
  have HSO := Lib.hid hso
  have HTO := Lib.hid hto
  have HSL := Lib.hid hsl
  have HML := Lib.hid hml
  have HSS := Lib.hid hS
  have w1 : IntKind.i64.wrap ((L : Int) * K) = (S : Int) := by rw [hS, Int.natCast_mul]; exact IntWalk.i64_in _ (by rw [← Int.natCast_mul, ← hS]; omega)
  have w2 : IntKind.i64.wrap (2 * (K : Int)) = 2 * (K : Int) := IntWalk.i64_in _ (by omega)
  have w3 : IntKind.i64.wrap (2 * (L : Int)) = 2 * (L : Int) := IntWalk.i64_in _ (by omega)
  have w4 : IntKind.i64.wrap (2 * (dd : Int)) = 2 * (dd : Int) := IntWalk.i64_in _ (by omega)
  have w5 : IntKind.i64.wrap (2 * (nn : Int)) = 2 * (nn : Int) := IntWalk.i64_in _ (by omega)
  have mu1 := mul_in (A := 2000) (B := 1000) (a := 2 * (K : Int)) (b := (nn : Int)) (by omega) (by omega) (by omega) (by omega)
  have mu2 := mul_in (A := 200) (B := 1000) (a := 2 * (L : Int)) (b := (dd : Int)) (by omega) (by omega) (by omega) (by omega)
  have mu3 : 0 ≤ 2 * (K : Int) * nn := Int.mul_nonneg (by omega) (by omega)
  have mu4 : 0 ≤ 2 * (L : Int) * dd := Int.mul_nonneg (by omega) (by omega)
  obtain ⟨p, hp⟩ : ∃ p, p = 2 * (K : Int) * nn := ⟨_, rfl⟩
  obtain ⟨q, hq⟩ : ∃ q, q = 2 * (L : Int) * dd := ⟨_, rfl⟩
  rw [← hp] at mu1 mu3 mx1
  rw [← hq] at mu2 mu4 mx2
  have w6 : IntKind.i64.wrap (2 * (K : Int) * nn) = p := by rw [← hp]; exact IntWalk.i64_in _ (by omega)
  have w7 : IntKind.i64.wrap (2 * (L : Int) * dd) = q := by rw [← hq]; exact IntWalk.i64_in _ (by omega)
  have w8 : IntKind.i64.wrap (p + (dd : Int)) = p + dd := IntWalk.i64_in _ (by omega)
  have w9 : IntKind.i64.wrap (q + (nn : Int)) = q + nn := IntWalk.i64_in _ (by omega)
  obtain ⟨pq, hpq⟩ : ∃ pq, pq = (p + (dd : Int)) / (2 * (dd : Int)) := ⟨_, rfl⟩
  obtain ⟨qq, hqq⟩ : ∃ qq, qq = (q + (nn : Int)) / (2 * (nn : Int)) := ⟨_, rfl⟩
  have t1 : (p + (dd : Int)).tdiv (2 * (dd : Int)) = pq := by rw [hpq]; exact Int.tdiv_eq_ediv_of_nonneg (by omega)
  have t2 : (q + (nn : Int)).tdiv (2 * (nn : Int)) = qq := by rw [hqq]; exact Int.tdiv_eq_ediv_of_nonneg (by omega)
  rw [← hpq] at mx1
  rw [← hqq] at mx2
  have hpq0 : 0 ≤ pq := by rw [hpq]; exact Int.ediv_nonneg (by omega) (by omega)
  have hqq0 : 0 ≤ qq := by rw [hqq]; exact Int.ediv_nonneg (by omega) (by omega)
  have t3 : IntKind.i64.wrap pq = pq := IntWalk.i64_in _ (by omega)
  have t4 : IntKind.i64.wrap qq = qq := IntWalk.i64_in _ (by omega)
  have t5 : ¬ 2 * (dd : Int) = 0 := by omega
  have t6 : (2 * (dd : Int) == 0) = false := by simp; omega
  have t7 : ¬ 2 * (nn : Int) = 0 := by omega
  have t8 : (2 * (nn : Int) == 0) = false := by simp; omega
  have t9 : IntKind.i64.wrap ((L : Int) * A) = (n : Int) := by rw [hn, Int.natCast_mul]; exact IntWalk.i64_in _ (by rw [← Int.natCast_mul, ← hn]; omega)
  have t10 : IntKind.i64.wrap ((K : Int) * T) = (k : Int) := by rw [hk, Int.natCast_mul]; exact IntWalk.i64_in _ (by rw [← Int.natCast_mul, ← hk]; omega)
  have hmkS := fun W => makeI S (by omega) W
  have u1 : ¬ (L : Int) < 1 := by omega
  have u2 : ¬ 100 < (L : Int) := by omega
  have u3 : ¬ (K : Int) < 1 := by omega
  have u4 : ¬ 1000 < (K : Int) := by omega
  have hK1000 : K ≤ 1000 := by omega
  have hL100 : L ≤ 100 := by omega
  clear hp hq hpq hqq hn hk hS hsl hml hso hto hno hxs hxm hys hym hX hY hex hey hr1 hr2 hres r1 r2 hE hT hT1 hTe hAe hA hmr hri g5 hnb hkb mu1 mu2 mu3 mu4
  go_enter Try.func11, Try.ntmps11
  go_wp2_with (go_at_call 44; with_reducible refine Calls.mono (HRA.out _) ?_; rintro e w7 ⟨rfl, rfl⟩)
  generalize hW2 : World.alloc (World.alloc w _) _ = W2
  have HO : Hid (BlBox W2 w.heap.size (w.heap.size + 1) S 0 (List.replicate S 0) [] (.slice (some ⟨w.heap.size, 0, none⟩) S S) (.slice none 0 0) ∧ Below w.heap.size w W2) := Lib.hid (by
    rw [← hW2]
    refine ⟨⟨heap_at (World.size_alloc _ _), ownsRow_below (zero_row (World.rowIs_made w (.int .i64 0) S 3) (by omega) w.heap.size (Nat.le_refl _)) (bAlloc (Below.refl _ _) _), World.ownsRow_nil _ _ _ _, .inr (by simp [Value.ownBlock]), by simp; omega⟩, bAlloc (bAlloc (Below.refl _ _) _) _⟩)
  clear hW2 hmkS
  go_loopw [10] (fun z wr => ∃ (j : Nat) (ma : Option Addr) (mc : Nat), j ≤ K + 1 ∧ z = .int .i64 j ∧ Hid (BlBox wr w.heap.size (w.heap.size + 1) S j (List.replicate S 0) (lgK L j) (.slice (some ⟨w.heap.size, 0, none⟩) S S) (.slice ma j mc) ∧ Below w.heap.size w wr)) (fun z _ => K + 1 - (intOf z).toNat)
  case atStart => exact ⟨0, none, 0, Nat.zero_le _, rfl, HO⟩
  case round =>
    obtain ⟨j, ma, mc, hj, rfl, HX⟩ := hrel
    have b0 := (mcell HX.out.1.box).1
    have b1 := (mcell HX.out.1.box).2
    have bf := frz HX.out.1.box 1
    have bl := cell_lt b0
    have hlow2 := HX.out.1.low
    by_cases hlt : j < K + 1
    · have e1 : (j : Int) ≤ (K : Int) := by omega
      obtain ⟨v, hv⟩ : ∃ v, v = j * L := ⟨_, rfl⟩
      have hvb : j * L ≤ 1000 * 100 := Nat.mul_le_mul (by omega) hL100
      have e2 : IntKind.i64.wrap ((j : Int) * L) = (v : Int) := by rw [hv, Int.natCast_mul]; exact IntWalk.i64_in _ (by rw [← Int.natCast_mul]; omega)
      have HVJ : Hid (lgK L (j + 1) = lgK L j ++ [(v : Int)]) := Lib.hid (by rw [lgK_succ, hv])
      clear hv hvb
      go_wp2_with (at_builtin; refine wpList_append_ints2 rfl _ _ rfl w.heap.size (.slice ma j mc) j (lgK L j) (by rfl) (HX.out.1.keep (bAlloc (Below.refl _ _) _)).mks (some ⟨wr.heap.size, 0, none⟩) 1 1 [(v : Int)] (by rfl) rfl (.inr ⟨_, rfl, one_new _ _ _⟩) (by omega) (Nat.le_trans hlow2 (by simp)) ?_; intro mv w4 hown hgr hnb; have HAD := Lib.hid ((HX.out.1.keep (bAlloc (Below.refl _ _) _)).addM (Nat.le_succ _) hown hgr hnb); have HBW := Lib.hid ((HX.out.2.alloc hlow2 _).trans HAD.out.2.2); have d0 := (mcell HAD.out.1).1; have d1 := (mcell HAD.out.1).2; have df := frz HAD.out.1 1; have dl := cell_lt d0; obtain ⟨ma2, mc2, rfl⟩ := ownsRow_slice hown; clear hown hgr hnb)
      have HX2 : Hid (BlBox (w4.setCell ⟨w.heap.size + 1, 1, none⟩ (.slice ma2 (j + 1) mc2)) w.heap.size (w.heap.size + 1) S (j + 1) (List.replicate S 0) (lgK L (j + 1)) (.slice (some ⟨w.heap.size, 0, none⟩) S S) (.slice ma2 (j + 1) mc2) ∧ Below w.heap.size w (w4.setCell ⟨w.heap.size + 1, 1, none⟩ (.slice ma2 (j + 1) mc2))) := Lib.hid (by rw [HVJ.out]; exact ⟨HAD.out.2.1, HBW.out⟩)
      go_roundw
      case rel =>
        first
          | exact ⟨j + 1, ma2, mc2, by omega, by go_num, HX2⟩
          | ((repeat apply Exists.intro); refine ⟨?_, rfl⟩; exact ⟨j + 1, ma2, mc2, by omega, by go_num, HX2⟩)
          | fail
      case measure => simp [intOf]; omega
    · have e1 : ¬ (j : Int) ≤ (K : Int) := by omega
      obtain rfl : j = K + 1 := by omega
      have HMV : Hid (MkV wr (.slice (some ⟨w.heap.size, 0, none⟩) S S) (.slice ma (K + 1) mc) (lgM L K)) := Lib.hid (by
        have h1 := HX.out.1.sam
        have h2 := HX.out.1.mks
        rw [show List.replicate S (0 : Int) = (lgM L K).sam by show _ = List.replicate (L * K) 0; rw [← HSS.out]] at h1
        rw [show lgK L (K + 1) = (lgM L K).marks from rfl] at h2
        have h3 : S = (lgM L K).sam.length := HSL.out.symm
        have h4 : K + 1 = (lgM L K).marks.length := HML.out.symm
        exact ⟨by have := own_slice (l := (lgM L K).sam) (by rw [← h3]; exact h1) (by omega); exact this, by have := own_slice (l := (lgM L K).marks) (by rw [← h4]; exact h2) (by omega); exact this⟩)
      have HBR := Lib.hid HX.out.2
      clear HX hlow2 bf
      rcases hcx with ⟨hn1, rfl, hX0⟩ | ⟨hn1, rfl, rfl⟩
      · have HNX2 := Lib.hid (HNX.out hX0)
        have hn2 : (100000 : Int) < (n : Int) := by omega
        clear hX0
        rcases hcy with ⟨hk1, rfl, hY0⟩ | ⟨hk1, rfl, rfl⟩
        · have HNY2 := Lib.hid (HNY.out hY0)
          have hk2 : (100000 : Int) < (k : Int) := by omega
          clear hY0
          go_wp2_with (first
            | (go_at_call 41; with_reducible refine Calls.mono (HSO.out _ _ _ HMV.out) ?_; rintro e w2 ⟨⟨xa, xc, ya, yc, rfl, hmv⟩, hb⟩; have HMX := Lib.hid (hmv.keep (bAlloc (Below.refl _ _) (.cells #[.slice xa xs xc, .slice ya xm yc] 24))); have x0 := (cell_new (V := w2) (cs := #[.slice xa xs xc, .slice ya xm yc]) (t := 24) (j := 0) (v := .slice xa xs xc) rfl); have x1 := (cell_new (V := w2) (cs := #[.slice xa xs xc, .slice ya xm yc]) (t := 24) (j := 1) (v := .slice ya xm yc) rfl); have xl := cell_lt x0; replace HBR := Lib.hid (bAlloc (bThen HBR.out hb) (.cells #[.slice xa xs xc, .slice ya xm yc] 24)); replace HMV := Lib.hid ((HMV.out.keep hb).keep (bAlloc (Below.refl _ _) (.cells #[.slice xa xs xc, .slice ya xm yc] 24))); replace b0 := keep (bAlloc (Below.refl _ _) (.cells #[.slice xa xs xc, .slice ya xm yc] 24)) (keep hb b0); replace b1 := keep (bAlloc (Below.refl _ _) (.cells #[.slice xa xs xc, .slice ya xm yc] 24)) (keep hb b1); replace bl := cell_lt b0; clear hb hmv)
            | (go_at_call 42; with_reducible refine Calls.mono (HTO.out _ _ _ HMV.out) ?_; rintro e w3 ⟨⟨sa, sc, ta, tc, rfl, hmv⟩, hb⟩; replace HMX := Lib.hid ((HMX.out.keep hb).keep (bAlloc (Below.refl _ _) (.cells #[.slice sa ys sc, .slice ta ym tc] 24))); replace x0 := keep (bAlloc (Below.refl _ _) (.cells #[.slice sa ys sc, .slice ta ym tc] 24)) (keep hb x0); replace x1 := keep (bAlloc (Below.refl _ _) (.cells #[.slice sa ys sc, .slice ta ym tc] 24)) (keep hb x1); replace xl := cell_lt x0; have HMY := Lib.hid (hmv.keep (bAlloc (Below.refl _ _) (.cells #[.slice sa ys sc, .slice ta ym tc] 24))); have y0 := (cell_new (V := w3) (cs := #[.slice sa ys sc, .slice ta ym tc]) (t := 24) (j := 0) (v := .slice sa ys sc) rfl); have y1 := (cell_new (V := w3) (cs := #[.slice sa ys sc, .slice ta ym tc]) (t := 24) (j := 1) (v := .slice ta ym tc) rfl); have yl := cell_lt y0; replace HBR := Lib.hid (bAlloc (bThen HBR.out hb) (.cells #[.slice sa ys sc, .slice ta ym tc] 24)); clear hb hmv b0 b1 bl)
            | (go_at_call 45; with_reducible refine Calls.mono (HNX2.out _ _ _ _ _ HMX.out) ?_; rintro e w8 ⟨rfl, hb⟩; replace HBR := Lib.hid (bThen HBR.out hb); replace HMY := Lib.hid (HMY.out.keep hb); replace y0 := keep hb y0; replace y1 := keep hb y1; replace yl := cell_lt y0; clear hb HMX x0 x1 xl)
            | (go_at_call 45; with_reducible refine Calls.mono (HNY2.out _ _ _ _ _ HMY.out) ?_; rintro e w8 ⟨rfl, hb⟩; replace HBR := Lib.hid (bThen HBR.out hb); clear hb HMY y0 y1 yl)
            | (go_at_call 18; with_reducible refine Calls.mono (HK.out _) ?_; rintro e wk ⟨rfl, hb⟩; have HBK := Lib.hid (bThen HBR.out hb); clear hb))
          all_goals first
            | (exfalso; omega)
            | (go_ret; exact ⟨rfl, HBK.out⟩)
        · have hk2 : ¬ (100000 : Int) < (ys : Int) := by omega
          go_wp2_with (first
            | (go_at_call 41; with_reducible refine Calls.mono (HSO.out _ _ _ HMV.out) ?_; rintro e w2 ⟨⟨xa, xc, ya, yc, rfl, hmv⟩, hb⟩; have HMX := Lib.hid (hmv.keep (bAlloc (Below.refl _ _) (.cells #[.slice xa xs xc, .slice ya xm yc] 24))); have x0 := (cell_new (V := w2) (cs := #[.slice xa xs xc, .slice ya xm yc]) (t := 24) (j := 0) (v := .slice xa xs xc) rfl); have x1 := (cell_new (V := w2) (cs := #[.slice xa xs xc, .slice ya xm yc]) (t := 24) (j := 1) (v := .slice ya xm yc) rfl); have xl := cell_lt x0; replace HBR := Lib.hid (bAlloc (bThen HBR.out hb) (.cells #[.slice xa xs xc, .slice ya xm yc] 24)); replace HMV := Lib.hid ((HMV.out.keep hb).keep (bAlloc (Below.refl _ _) (.cells #[.slice xa xs xc, .slice ya xm yc] 24))); replace b0 := keep (bAlloc (Below.refl _ _) (.cells #[.slice xa xs xc, .slice ya xm yc] 24)) (keep hb b0); replace b1 := keep (bAlloc (Below.refl _ _) (.cells #[.slice xa xs xc, .slice ya xm yc] 24)) (keep hb b1); replace bl := cell_lt b0; clear hb hmv)
            | (go_at_call 42; with_reducible refine Calls.mono (HTO.out _ _ _ HMV.out) ?_; rintro e w3 ⟨⟨sa, sc, ta, tc, rfl, hmv⟩, hb⟩; replace HMX := Lib.hid ((HMX.out.keep hb).keep (bAlloc (Below.refl _ _) (.cells #[.slice sa ys sc, .slice ta ym tc] 24))); replace x0 := keep (bAlloc (Below.refl _ _) (.cells #[.slice sa ys sc, .slice ta ym tc] 24)) (keep hb x0); replace x1 := keep (bAlloc (Below.refl _ _) (.cells #[.slice sa ys sc, .slice ta ym tc] 24)) (keep hb x1); replace xl := cell_lt x0; have HMY := Lib.hid (hmv.keep (bAlloc (Below.refl _ _) (.cells #[.slice sa ys sc, .slice ta ym tc] 24))); have y0 := (cell_new (V := w3) (cs := #[.slice sa ys sc, .slice ta ym tc]) (t := 24) (j := 0) (v := .slice sa ys sc) rfl); have y1 := (cell_new (V := w3) (cs := #[.slice sa ys sc, .slice ta ym tc]) (t := 24) (j := 1) (v := .slice ta ym tc) rfl); have yl := cell_lt y0; replace HBR := Lib.hid (bAlloc (bThen HBR.out hb) (.cells #[.slice sa ys sc, .slice ta ym tc] 24)); clear hb hmv b0 b1 bl)
            | (go_at_call 45; with_reducible refine Calls.mono (HNX2.out _ _ _ _ _ HMX.out) ?_; rintro e w8 ⟨rfl, hb⟩; replace HBR := Lib.hid (bThen HBR.out hb); replace HMY := Lib.hid (HMY.out.keep hb); replace y0 := keep hb y0; replace y1 := keep hb y1; replace yl := cell_lt y0; clear hb HMX x0 x1 xl)
            | (go_at_call 45; with_reducible refine Calls.mono (HNY2.out _ _ _ _ _ HMY.out) ?_; rintro e w8 ⟨rfl, hb⟩; replace HBR := Lib.hid (bThen HBR.out hb); clear hb HMY y0 y1 yl)
            | (go_at_call 18; with_reducible refine Calls.mono (HK.out _) ?_; rintro e wk ⟨rfl, hb⟩; have HBK := Lib.hid (bThen HBR.out hb); clear hb))
          all_goals first
            | (exfalso; omega)
            | (go_ret; exact ⟨rfl, HBK.out⟩)
      · have hn2 : ¬ (100000 : Int) < (xs : Int) := by omega
        have hn3 : (xs : Int) ≤ 100000 := by omega
        rcases hcy with ⟨hk1, rfl, hY0⟩ | ⟨hk1, rfl, rfl⟩
        · have HNY2 := Lib.hid (HNY.out hY0)
          have hk2 : (100000 : Int) < (k : Int) := by omega
          clear hY0
          go_wp2_with (first
            | (go_at_call 41; with_reducible refine Calls.mono (HSO.out _ _ _ HMV.out) ?_; rintro e w2 ⟨⟨xa, xc, ya, yc, rfl, hmv⟩, hb⟩; have HMX := Lib.hid (hmv.keep (bAlloc (Below.refl _ _) (.cells #[.slice xa xs xc, .slice ya xm yc] 24))); have x0 := (cell_new (V := w2) (cs := #[.slice xa xs xc, .slice ya xm yc]) (t := 24) (j := 0) (v := .slice xa xs xc) rfl); have x1 := (cell_new (V := w2) (cs := #[.slice xa xs xc, .slice ya xm yc]) (t := 24) (j := 1) (v := .slice ya xm yc) rfl); have xl := cell_lt x0; replace HBR := Lib.hid (bAlloc (bThen HBR.out hb) (.cells #[.slice xa xs xc, .slice ya xm yc] 24)); replace HMV := Lib.hid ((HMV.out.keep hb).keep (bAlloc (Below.refl _ _) (.cells #[.slice xa xs xc, .slice ya xm yc] 24))); replace b0 := keep (bAlloc (Below.refl _ _) (.cells #[.slice xa xs xc, .slice ya xm yc] 24)) (keep hb b0); replace b1 := keep (bAlloc (Below.refl _ _) (.cells #[.slice xa xs xc, .slice ya xm yc] 24)) (keep hb b1); replace bl := cell_lt b0; clear hb hmv)
            | (go_at_call 42; with_reducible refine Calls.mono (HTO.out _ _ _ HMV.out) ?_; rintro e w3 ⟨⟨sa, sc, ta, tc, rfl, hmv⟩, hb⟩; replace HMX := Lib.hid ((HMX.out.keep hb).keep (bAlloc (Below.refl _ _) (.cells #[.slice sa ys sc, .slice ta ym tc] 24))); replace x0 := keep (bAlloc (Below.refl _ _) (.cells #[.slice sa ys sc, .slice ta ym tc] 24)) (keep hb x0); replace x1 := keep (bAlloc (Below.refl _ _) (.cells #[.slice sa ys sc, .slice ta ym tc] 24)) (keep hb x1); replace xl := cell_lt x0; have HMY := Lib.hid (hmv.keep (bAlloc (Below.refl _ _) (.cells #[.slice sa ys sc, .slice ta ym tc] 24))); have y0 := (cell_new (V := w3) (cs := #[.slice sa ys sc, .slice ta ym tc]) (t := 24) (j := 0) (v := .slice sa ys sc) rfl); have y1 := (cell_new (V := w3) (cs := #[.slice sa ys sc, .slice ta ym tc]) (t := 24) (j := 1) (v := .slice ta ym tc) rfl); have yl := cell_lt y0; replace HBR := Lib.hid (bAlloc (bThen HBR.out hb) (.cells #[.slice sa ys sc, .slice ta ym tc] 24)); clear hb hmv b0 b1 bl)
            | (go_at_call 45; with_reducible refine Calls.mono (HNX2.out _ _ _ _ _ HMX.out) ?_; rintro e w8 ⟨rfl, hb⟩; replace HBR := Lib.hid (bThen HBR.out hb); replace HMY := Lib.hid (HMY.out.keep hb); replace y0 := keep hb y0; replace y1 := keep hb y1; replace yl := cell_lt y0; clear hb HMX x0 x1 xl)
            | (go_at_call 45; with_reducible refine Calls.mono (HNY2.out _ _ _ _ _ HMY.out) ?_; rintro e w8 ⟨rfl, hb⟩; replace HBR := Lib.hid (bThen HBR.out hb); clear hb HMY y0 y1 yl)
            | (go_at_call 18; with_reducible refine Calls.mono (HK.out _) ?_; rintro e wk ⟨rfl, hb⟩; have HBK := Lib.hid (bThen HBR.out hb); clear hb))
          all_goals first
            | (exfalso; omega)
            | (go_ret; exact ⟨rfl, HBK.out⟩)
        · have hk2 : ¬ (100000 : Int) < (ys : Int) := by omega
          go_wp2_with (first
            | (go_at_call 41; with_reducible refine Calls.mono (HSO.out _ _ _ HMV.out) ?_; rintro e w2 ⟨⟨xa, xc, ya, yc, rfl, hmv⟩, hb⟩; have HMX := Lib.hid (hmv.keep (bAlloc (Below.refl _ _) (.cells #[.slice xa xs xc, .slice ya xm yc] 24))); have x0 := (cell_new (V := w2) (cs := #[.slice xa xs xc, .slice ya xm yc]) (t := 24) (j := 0) (v := .slice xa xs xc) rfl); have x1 := (cell_new (V := w2) (cs := #[.slice xa xs xc, .slice ya xm yc]) (t := 24) (j := 1) (v := .slice ya xm yc) rfl); have xl := cell_lt x0; replace HBR := Lib.hid (bAlloc (bThen HBR.out hb) (.cells #[.slice xa xs xc, .slice ya xm yc] 24)); replace HMV := Lib.hid ((HMV.out.keep hb).keep (bAlloc (Below.refl _ _) (.cells #[.slice xa xs xc, .slice ya xm yc] 24))); replace b0 := keep (bAlloc (Below.refl _ _) (.cells #[.slice xa xs xc, .slice ya xm yc] 24)) (keep hb b0); replace b1 := keep (bAlloc (Below.refl _ _) (.cells #[.slice xa xs xc, .slice ya xm yc] 24)) (keep hb b1); replace bl := cell_lt b0; clear hb hmv)
            | (go_at_call 42; with_reducible refine Calls.mono (HTO.out _ _ _ HMV.out) ?_; rintro e w3 ⟨⟨sa, sc, ta, tc, rfl, hmv⟩, hb⟩; replace HMX := Lib.hid ((HMX.out.keep hb).keep (bAlloc (Below.refl _ _) (.cells #[.slice sa ys sc, .slice ta ym tc] 24))); replace x0 := keep (bAlloc (Below.refl _ _) (.cells #[.slice sa ys sc, .slice ta ym tc] 24)) (keep hb x0); replace x1 := keep (bAlloc (Below.refl _ _) (.cells #[.slice sa ys sc, .slice ta ym tc] 24)) (keep hb x1); replace xl := cell_lt x0; have HMY := Lib.hid (hmv.keep (bAlloc (Below.refl _ _) (.cells #[.slice sa ys sc, .slice ta ym tc] 24))); have y0 := (cell_new (V := w3) (cs := #[.slice sa ys sc, .slice ta ym tc]) (t := 24) (j := 0) (v := .slice sa ys sc) rfl); have y1 := (cell_new (V := w3) (cs := #[.slice sa ys sc, .slice ta ym tc]) (t := 24) (j := 1) (v := .slice ta ym tc) rfl); have yl := cell_lt y0; replace HBR := Lib.hid (bAlloc (bThen HBR.out hb) (.cells #[.slice sa ys sc, .slice ta ym tc] 24)); clear hb hmv b0 b1 bl)
            | (go_at_call 45; with_reducible refine Calls.mono (HNX2.out _ _ _ _ _ HMX.out) ?_; rintro e w8 ⟨rfl, hb⟩; replace HBR := Lib.hid (bThen HBR.out hb); replace HMY := Lib.hid (HMY.out.keep hb); replace y0 := keep hb y0; replace y1 := keep hb y1; replace yl := cell_lt y0; clear hb HMX x0 x1 xl)
            | (go_at_call 45; with_reducible refine Calls.mono (HNY2.out _ _ _ _ _ HMY.out) ?_; rintro e w8 ⟨rfl, hb⟩; replace HBR := Lib.hid (bThen HBR.out hb); clear hb HMY y0 y1 yl)
            | (go_at_call 18; with_reducible refine Calls.mono (HK.out _) ?_; rintro e wk ⟨rfl, hb⟩; have HBK := Lib.hid (bThen HBR.out hb); clear hb))
          all_goals first
            | (exfalso; omega)
            | (go_ret; exact ⟨rfl, HBK.out⟩)
end Go.Proofs.Ytbeeddenidfenaa
