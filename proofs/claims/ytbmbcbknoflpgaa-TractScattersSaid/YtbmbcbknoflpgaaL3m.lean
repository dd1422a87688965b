/- The law of scattering. -/
import Derived.Test.YtbmbcbknoflpgaaM1
import Derived.Test.YtbmbcbknoflpgaaA7
import Derived.Test.YtbmbcbknoflpgaaI2
import Derived.Laws.BitsLemmas
import Derived.Test.YtbmbcbknoflpgaaA5
import Derived.Test.YtbmbcbknoflpgaaA6
import Derived.Test.YtbmbcbknoflpgaaC2
import Derived.Test.YtbmbcbknoflpgaaI3
import Derived.Deep.RegionHeld3
import Derived.Deep.Cut
import Derived.Deep.RegionWith
import Derived.Deep.CutRange
import Derived.StillTailTactics
set_option linter.unusedSimpArgs false
set_option linter.unusedVariables false
namespace Go.Proofs.Ytbmbcbknoflpgaa
open Go.RowKit

theorem mask20 {x : Int} (h0 : 0 ≤ x) (h1 : x < 9223372036854775808) : bits BinOp.and IntKind.i64 x 1048575 = x % 1048576 := by
  have h := bits_mask .i64 63 (by decide) (fun n a b => IntWalk.i64_in _ (by omega)) 20 (by decide) x h0 (by omega)
  have e : ((2 : Int) ^ 20 - 1) = 1048575 := by decide
  have e2 : ((2 : Int) ^ 20) = 1048576 := by decide
  rwa [e, e2] at h
theorem mask40 {x : Int} (h0 : 0 ≤ x) (h1 : x < 9223372036854775808) : bits BinOp.and IntKind.i64 x 1099511627775 = x % 1099511627776 := by
  have h := bits_mask .i64 63 (by decide) (fun n a b => IntWalk.i64_in _ (by omega)) 40 (by decide) x h0 (by omega)
  have e : ((2 : Int) ^ 40 - 1) = 1099511627775 := by decide
  have e2 : ((2 : Int) ^ 40) = 1099511627776 := by decide
  rwa [e, e2] at h
theorem mul_in {a b A B : Int} (h1 : 0 ≤ a) (h2 : a ≤ A) (h3 : 0 ≤ b) (h4 : b ≤ B) : 0 ≤ a * b ∧ a * b ≤ A * B :=
  ⟨Int.mul_nonneg h1 h3, Int.le_trans (Int.mul_le_mul_of_nonneg_right h2 h3) (Int.mul_le_mul_of_nonneg_left h4 (Int.le_trans h1 h2))⟩
theorem w64_id {x : Int} (h : -9223372036854775808 ≤ x ∧ x ≤ 9223372036854775807) : wrap64 x = x := by unfold wrap64; omega
theorem infoA2 : (Try.prog.info? 33).map (·.size) = some 2 := by kernel_rfl
theorem new2_heap (w : World) (o : Obj) (x y : Value) (t : TypeId) : ((w.alloc o).alloc (.cells #[x, y] t)).heap[w.heap.size + 1]? = some (.cells #[x, y] t (0, 0)) := by
  have := World.alloc_heap_new (w.alloc o) (.cells #[x, y] t)
  rwa [World.size_alloc] at this
/-- What the sum comes to, in two words. -/
theorem plus_maths (c0 c1 a u X Y : Int) (h0 : 0 ≤ c0) (h0' : c0 ≤ 1000000000000) (h1 : 0 ≤ c1) (h1' : c1 < 1099511627776) (ha : 1 ≤ a) (ha' : a ≤ 1000) (hu : 0 ≤ u) (hu' : u ≤ 4294967296)
    (hX : X = wrap64 (wrap64 (wrap64 (wrap64 (c0 + wrap64 (wrap64 (a * (u / 1048576)) * (u / 1048576))) + wrap64 (wrap64 (2 * a * (u / 1048576)) * bits BinOp.and IntKind.i64 u 1048575) / 1048576) + wrap64 (c1 + wrap64 (wrap64 (a * bits BinOp.and IntKind.i64 u 1048575) * bits BinOp.and IntKind.i64 u 1048575)) / 1099511627776) + wrap64 (bits BinOp.and IntKind.i64 (wrap64 (c1 + wrap64 (wrap64 (a * bits BinOp.and IntKind.i64 u 1048575) * bits BinOp.and IntKind.i64 u 1048575))) 1099511627775 + wrap64 (bits BinOp.and IntKind.i64 (wrap64 (wrap64 (2 * a * (u / 1048576)) * bits BinOp.and IntKind.i64 u 1048575)) 1048575 * 1048576)) / 1099511627776))
    (hY : Y = bits BinOp.and IntKind.i64 (wrap64 (bits BinOp.and IntKind.i64 (wrap64 (c1 + wrap64 (wrap64 (a * bits BinOp.and IntKind.i64 u 1048575) * bits BinOp.and IntKind.i64 u 1048575))) 1099511627775 + wrap64 (bits BinOp.and IntKind.i64 (wrap64 (wrap64 (2 * a * (u / 1048576)) * bits BinOp.and IntKind.i64 u 1048575)) 1048575 * 1048576))) 1099511627775) :
    0 ≤ X ∧ 0 ≤ Y ∧ Y < 1099511627776 ∧ X * 1099511627776 + Y = c0 * 1099511627776 + c1 + a * (u * u) := by
  rw [mask20 hu (by omega)] at hX hY
  obtain ⟨m, hm⟩ : ∃ m, u % 1048576 = m := ⟨_, rfl⟩
  obtain ⟨h, hh⟩ : ∃ h, u / 1048576 = h := ⟨_, rfl⟩
  have hm0 : 0 ≤ m := by omega
  have hm1 : m ≤ 1048576 := by omega
  have hh0 : 0 ≤ h := by omega
  have hh1 : h ≤ 4096 := by omega
  have hv : u = h * 1048576 + m := by omega
  rw [hm, hh] at hX hY
  have i1 := mul_in (show 0 ≤ a by omega) ha' hm0 hm1
  have i2 := mul_in i1.1 i1.2 hm0 hm1
  have i3 := mul_in (show 0 ≤ 2 * a by omega) (show 2 * a ≤ 2000 by omega) hh0 hh1
  have i4 := mul_in i3.1 i3.2 hm0 hm1
  have i5 := mul_in (show 0 ≤ a by omega) ha' hh0 hh1
  have i6 := mul_in i5.1 i5.2 hh0 hh1
  have e : a * (u * u) = a * h * h * 1099511627776 + 2 * a * h * m * 1048576 + a * m * m := by rw [hv]; grind
  rw [e]
  rw [w64_id (x := a * m) (by omega), w64_id (x := 2 * a * h) (by omega)] at hX hY
  rw [w64_id (x := a * h) (by omega)] at hX
  generalize a * m = p at *
  generalize 2 * a * h = q at *
  generalize a * h = r at *
  rw [w64_id (x := p * m) (by omega), w64_id (x := q * m) (by omega)] at hX hY
  rw [w64_id (x := r * h) (by omega)] at hX
  generalize p * m = P at *
  generalize q * m = Q at *
  generalize r * h = R at *
  rw [w64_id (x := c1 + P) (by omega), mask40 (x := c1 + P) (by omega) (by omega), mask20 (x := Q) (by omega) (by omega), w64_id (x := Q % 1048576 * 1048576) (by omega), w64_id (x := (c1 + P) % 1099511627776 + Q % 1048576 * 1048576) (by omega)] at hX hY
  rw [mask40 (by omega) (by omega)] at hY
  rw [w64_id (x := c0 + R) (by omega), w64_id (x := c0 + R + Q / 1048576) (by omega), w64_id (x := c0 + R + Q / 1048576 + (c1 + P) / 1099511627776) (by omega), w64_id (by omega)] at hX
  omega
set_option maxRecDepth 10000 in
set_option maxHeartbeats 2000000 in
theorem plus_any (c0 c1 a v : Int) (w : World) (h0 : 0 ≤ c0) (h0' : c0 ≤ 1000000000000) (h1 : 0 ≤ c1) (h1' : c1 < 1099511627776) (ha : 1 ≤ a) (ha' : a ≤ 1000) (hv : -4294967296 ≤ v) (hv' : v ≤ 4294967296) :
    Calls Try.prog 23 #[.agg #[.int .i64 c0, .int .i64 c1], .int .i64 a, .int .i64 v] w fun e w' => (∃ p0 p1, e = .returned (.agg #[.int .i64 p0, .int .i64 p1]) ∧ 0 ≤ p0 ∧ 0 ≤ p1 ∧ p1 < 1099511627776 ∧ p0 * 1099511627776 + p1 = c0 * 1099511627776 + c1 + a * (v * v)) ∧ Below w.heap.size w w' := by
  by_cases hs : 0 ≤ v
  · have hmx : max v (-v) = v := by omega
    go_enter Try.func23, Try.ntmps23
    go_wp2_with fail
    (try simp only [Exit.inBlock, Exit.then])
    refine bodyPost_ret (results_cell_row rfl _ _ (w.heap.size + 1) 33 #[_, _] (0, 0) _ rfl (new2_heap _ _ _ _ _) Try.underlying33 rfl infoA2) rfl ?_
    refine ⟨⟨_, _, rfl, ?_⟩, bAlloc (bAlloc (Below.refl _ _) _) _⟩
    exact plus_maths c0 c1 a v _ _ h0 h0' h1 h1' ha ha' hs hv' rfl rfl
  · obtain ⟨u, rfl⟩ : ∃ u, v = -u := ⟨-v, by omega⟩
    have hmx : max (-u) u = u := by omega
    go_enter Try.func23, Try.ntmps23
    go_wp2_with fail
    (try simp only [Exit.inBlock, Exit.then])
    refine bodyPost_ret (results_cell_row rfl _ _ (w.heap.size + 1) 33 #[_, _] (0, 0) _ rfl (new2_heap _ _ _ _ _) Try.underlying33 rfl infoA2) rfl ?_
    refine ⟨⟨_, _, rfl, ?_⟩, bAlloc (bAlloc (Below.refl _ _) _) _⟩
    rw [Int.neg_mul_neg]
    exact plus_maths c0 c1 a u _ _ h0 h0' h1 h1' ha ha' (by omega) (by omega) rfl rfl
set_option maxRecDepth 10000 in
set_option maxHeartbeats 1000000 in
theorem short_any (s : Shp) (va vb : Value) (w : World) (ha : SliceV w va 1 IntAt s.areas) (hb : SliceV w vb 1 IntAt s.branch) :
    Calls Try.prog 16 #[.agg #[va, vb, .int .i64 s.joint, .int .i64 s.glottis, .int .i64 s.lips, .int .i64 s.nose]] w fun e w' => e = .returned (.bool (decide ((s.areas.length : Int) ≤ 40) && decide ((s.branch.length : Int) ≤ 40))) ∧ Below w.heap.size w w' := by
  obtain ⟨al, bl, j, g, li, no⟩ := s
  simp only at ha hb ⊢
  obtain ⟨a, c, rfl, hl, -⟩ := ha
  obtain ⟨b, d, rfl, hm, -⟩ := hb
  unfold most at hl hm
  generalize al.length = L at *
  generalize bl.length = M at *
  by_cases h1 : (L : Int) ≤ 40
  · by_cases h2 : (M : Int) ≤ 40
    · rw [decide_eq_true h1, decide_eq_true h2]
      go_enter Try.func16, Try.ntmps16
      go_wp2_with fail
      go_ret
      exact ⟨ret_bool (by simp_all), bAlloc (Below.refl _ _) _⟩
    · rw [decide_eq_true h1, decide_eq_false h2]
      go_enter Try.func16, Try.ntmps16
      go_wp2_with fail
      go_ret
      exact ⟨ret_bool (by simp_all), bAlloc (Below.refl _ _) _⟩
  · rw [decide_eq_false h1]
    go_enter Try.func16, Try.ntmps16
    go_wp2_with fail
    go_ret
    exact ⟨ret_bool (by simp_all), bAlloc (Below.refl _ _) _⟩

theorem sm_two {A F : Nat → Int} {n : Nat} {B : Int} (hA : ∀ j, j < n → 0 ≤ A j) (hF : ∀ j, j < n → -B ≤ F j ∧ F j ≤ B) : -(2 * B * sm A n) ≤ sm (fun j => 2 * A j * F j) n ∧ sm (fun j => 2 * A j * F j) n ≤ 2 * B * sm A n := by
  constructor
  · have h := sm_le (g := fun j => -(2 * B) * A j) (h := fun j => 2 * A j * F j) (n := n) fun j hj => by
      have h1 := Int.mul_le_mul_of_nonneg_left (hF j hj).1 (show 0 ≤ 2 * A j by have := hA j hj; omega)
      have e1 : 2 * A j * -B = -(2 * B) * A j := by grind
      rw [e1] at h1
      exact h1
    rw [sm_mul, Int.neg_mul] at h
    exact h
  · have h := sm_le (g := fun j => 2 * A j * F j) (h := fun j => 2 * B * A j) (n := n) fun j hj => by
      have h1 := Int.mul_le_mul_of_nonneg_left (hF j hj).2 (show 0 ≤ 2 * A j by have := hA j hj; omega)
      have e1 : 2 * A j * B = 2 * B * A j := by grind
      rw [e1] at h1
      exact h1
    rw [sm_mul] at h
    exact h
theorem sm_area {A : Nat → Int} {n : Nat} (hA : ∀ j, j < n → 1 ≤ A j ∧ A j ≤ 1000) (k : Nat) (hk : k ≤ n) : (k : Int) ≤ sm A k ∧ sm A k ≤ 1000 * (k : Int) := by
  rw [← sm_arS]
  exact arS_in hA k hk
theorem wv_sm {A F : Nat → Int} {n : Nat} (hn : n ≤ 10) (hA : ∀ j, j < n → 1 ≤ A j ∧ A j ≤ 1000) (hF : ∀ j, j < n → -1073741824 ≤ F j ∧ F j ≤ 1073741824) (k : Nat) (hk : k ≤ n) : wvS A F k = sm (fun j => 2 * A j * F j) k := by
  induction k with
  | zero => rfl
  | succ k ih =>
    have i1 := ih (by omega)
    have h1 := sm_two (A := A) (F := F) (n := k + 1) (B := 1073741824) (fun j hj => by have := hA j (by omega); omega) (fun j hj => hF j (by omega))
    have h0 := sm_two (A := A) (F := F) (n := k) (B := 1073741824) (fun j hj => by have := hA j (by omega); omega) (fun j hj => hF j (by omega))
    have h2 := sm_area hA (k + 1) hk
    have h3 := sm_area hA k (by omega)
    have e : sm (fun j => 2 * A j * F j) (k + 1) = sm (fun j => 2 * A j * F j) k + 2 * A k * F k := rfl
    unfold wvS
    rw [i1, e]
    rw [e] at h1
    generalize sm (fun j => 2 * A j * F j) k = t at *
    generalize 2 * A k * F k = u at *
    unfold wrap64
    omega
theorem tdiv_inS {x s c : Int} (hs : 1 ≤ s) (h1 : -(c * s) ≤ x) (h2 : x ≤ c * s) : -c ≤ x.tdiv s ∧ x.tdiv s ≤ c := by
  have aux : ∀ y : Int, 0 ≤ y → y ≤ c * s → 0 ≤ y.tdiv s ∧ y.tdiv s ≤ c := by
    intro y hy hc
    rw [Int.tdiv_eq_ediv_of_nonneg hy]
    exact ⟨Int.ediv_nonneg hy (by omega), Int.ediv_le_of_le_mul (by omega) hc⟩
  rcases Int.le_total 0 x with h | h
  · have := aux x h h2
    omega
  · have := aux (-x) (by omega) (by omega)
    rw [Int.neg_tdiv] at this
    omega
theorem sct_exact {A F : Nat → Int} {n : Nat} (hn0 : 1 ≤ n) (hn : n ≤ 10) (hA : ∀ j, j < n → 1 ≤ A j ∧ A j ≤ 1000) (hF : ∀ j, j < n → -1073741824 ≤ F j ∧ F j ≤ 1073741824) (i : Nat) (hi : i < n) :
    sct A F n i = sctX A F n i ∧ -4294967296 ≤ sct A F n i ∧ sct A F n i ≤ 4294967296 := by
  have h1 := sm_two (A := A) (F := F) (n := n) (B := 1073741824) (fun j hj => by have := hA j hj; omega) hF
  have h2 := sm_area hA n (Nat.le_refl _)
  have h3 := hF i hi
  have hs : 0 ≤ sm A n := by omega
  have h4 := Int.mul_le_mul_of_nonneg_left h3.1 hs
  have h5 := Int.mul_le_mul_of_nonneg_left h3.2 hs
  have e : sct A F n i = sctX A F n i := by
    unfold sct sctX
    rw [wv_sm hn hA hF n (Nat.le_refl _), sm_arS]
    generalize sm (fun j => 2 * A j * F j) n = t at *
    generalize sm A n = s at *
    generalize s * F i = u at *
    have e1 : wrap64 u = u := by unfold wrap64; omega
    have e2 : wrap64 (t - u) = t - u := by unfold wrap64; omega
    rw [e1, e2]
  refine ⟨e, ?_⟩
  rw [e]
  unfold sctX
  generalize sm (fun j => 2 * A j * F j) n = t at *
  generalize sm A n = s at *
  generalize s * F i = u at *
  have := tdiv_inS (x := t - u) (s := s) (c := 4294967296) (by omega) (by omega) (by omega)
  exact this
/-- The energy of a junction. -/
def enS (A F : Nat → Int) (k : Nat) : Int := sm (fun j => A j * (F j * F j)) k
theorem enS_succ (A F : Nat → Int) (k : Nat) : enS A F (k + 1) = enS A F k + A k * (F k * F k) := rfl
theorem enS_in {A F : Nat → Int} {n : Nat} (hA : ∀ j, j < n → 1 ≤ A j ∧ A j ≤ 1000) (hF : ∀ j, j < n → -4294967296 ≤ F j ∧ F j ≤ 4294967296) (k : Nat) (hk : k ≤ n) : 0 ≤ enS A F k ∧ enS A F k ≤ 18446744073709551616000 * (k : Int) := by
  induction k with
  | zero => unfold enS sm; omega
  | succ k ih =>
    have h1 := ih (by omega)
    have h2 := hA k (by omega)
    have h3 := hF k (by omega)
    have h4 : 0 ≤ F k * F k := sq_nonneg _
    have h5 : F k * F k ≤ 4294967296 * 4294967296 := by
      rcases Int.le_total 0 (F k) with h | h
      · exact Int.mul_le_mul h3.2 h3.2 h (by omega)
      · have := Int.mul_le_mul (show -F k ≤ 4294967296 by omega) (show -F k ≤ 4294967296 by omega) (by omega) (by omega)
        rwa [Int.neg_mul_neg] at this
    have h6 := Int.mul_nonneg (show 0 ≤ A k by omega) h4
    have h7 := Int.mul_le_mul h2.2 h5 h4 (by omega)
    rw [enS_succ]
    generalize A k * (F k * F k) = p at *
    omega
theorem sct_energy {A F : Nat → Int} {n : Nat} (hn0 : 1 ≤ n) (hn : n ≤ 10) (hA : ∀ j, j < n → 1 ≤ A j ∧ A j ≤ 1000) (hF : ∀ j, j < n → -1073741824 ≤ F j ∧ F j ≤ 1073741824) : enS A (sct A F n) n ≤ enS A F n := by
  have h := sctX_energy A F n (by have := sm_area hA n (Nat.le_refl _); omega) (fun j hj => by have := hA j hj; omega)
  unfold enS
  rw [sm_congr (g := fun j => A j * (sct A F n j * sct A F n j)) (h := fun j => A j * (sctX A F n j * sctX A F n j)) fun j hj => by rw [(sct_exact hn0 hn hA hF j hj).1]]
  exact h

/-- What Scatter hands back, in one form. -/
abbrev TwoS (w : World) (PN : Nat) (PE : Int) (PL : List Int) (e : Ending) (w' : World) : Prop :=
  (∃ pa pc, e = .returned (.tuple #[.slice pa PN pc, .int .i64 PE]) ∧ SliceV w' (.slice pa PN pc) 1 IntAt PL) ∧ Below w.heap.size w w'
theorem twoS {P : Program} {f : FuncId} {args : Array Value} {w : World} {PE : Int} {PL : List Int} (h : Calls P f args w fun e w' => (∃ r, e = .returned (.tuple #[r, .int .i64 PE]) ∧ SliceV w' r 1 IntAt PL) ∧ Below w.heap.size w w') (PN : Nat) (hn : PL.length = PN) : Calls P f args w (TwoS w PN PE PL) :=
  h.mono fun e w' ⟨⟨r, he, hs⟩, hb⟩ => by
    obtain ⟨a, c, rfl, h2⟩ := id hs
    rw [hn] at he hs
    exact ⟨⟨a, c, he, hs⟩, hb⟩
/-- A sum in a block of two words. -/
abbrev Sums (W : World) (b : Nat) (T : Int) : Prop := ∃ p0 p1, W.heap[b]? = some (.cells #[.int .i64 p0, .int .i64 p1] 33 (0, 0)) ∧ 0 ≤ p0 ∧ 0 ≤ p1 ∧ p1 < 1099511627776 ∧ p0 * 1099511627776 + p1 = T
theorem sums_start {A F G : Nat → Int} (w : World) : Below w.heap.size w ((w.alloc (.cells #[.int .i64 0, .int .i64 0] 33)).alloc (.cells #[.int .i64 0, .int .i64 0] 33)) ∧ Sums ((w.alloc (.cells #[.int .i64 0, .int .i64 0] 33)).alloc (.cells #[.int .i64 0, .int .i64 0] 33)) w.heap.size (enS A F 0) ∧ Sums ((w.alloc (.cells #[.int .i64 0, .int .i64 0] 33)).alloc (.cells #[.int .i64 0, .int .i64 0] 33)) (w.heap.size + 1) (enS A G 0) :=
  ⟨bAlloc (bAlloc (Below.refl _ _) _) _, ⟨0, 0, heap_keep (bAlloc (Below.refl _ _) _) (World.alloc_heap_new w _), by omega, by omega, by omega, rfl⟩, ⟨0, 0, new2_heap _ _ _ _ _, by omega, by omega, by omega, rfl⟩⟩
theorem frz {W : World} {b t j : Nat} {cs : Array Value} (h : W.heap[b]? = some (.cells cs t (0, 0))) : W.frozen? ⟨b, j, none⟩ = false := by
  unfold World.frozen?
  simp [h]
theorem cell_in {w W : World} {l : List Int} {b o c k : Nat} (hv : SliceV w (.slice (some ⟨b, o, none⟩) l.length c) 1 IntAt l) (hk : k < l.length) (hB : Below w.heap.size w W) : W.cell? ⟨b, o + k, none⟩ = some (.int .i64 l[k]) := by
  obtain ⟨b4, o4, q4, hf4⟩ := (hv.keep IntAt.stable hB).at (by intro h; simp [h] at hk)
  cases q4
  have := hf4 k hk
  unfold IntAt at this
  rwa [Nat.mul_one] at this
theorem other2 {W : World} {rb b : Nat} {o : Obj} (h : W.heap[b]? = some o) (hne : b ≠ rb) (x y : Value) : ((W.setCell ⟨rb, 0, none⟩ x).setCell ⟨rb, 1, none⟩ y).heap[b]? = some o := by
  rw [heap_setCell_other _ _ _ _ hne, heap_setCell_other _ _ _ _ hne]
  exact h
theorem ret_b {a : Bool} (h : a = true) : Value.bool a = Value.bool true := by rw [h]
/-- A section and its wave are in their bounds. -/
def inB (l m : List Int) (j : Nat) : Prop := 1 ≤ l.getD j 0 ∧ l.getD j 0 ≤ 1000 ∧ -1073741824 ≤ m.getD j 0 ∧ m.getD j 0 ≤ 1073741824
theorem meet_of {l m : List Int} (h1 : 1 ≤ l.length) (h2 : l.length ≤ 10) (h3 : m.length = l.length) (h : ∀ j, j < l.length → inB l m j) : meetOk l m = true := by
  simp only [meetOk, Bool.and_eq_true, betw_iff, decide_eq_true_eq, List.all_eq_true, arOk, wvOk]
  refine ⟨⟨⟨by omega, h3⟩, fun x hx => ?_⟩, fun x hx => ?_⟩
  · obtain ⟨j, hj, rfl⟩ := List.getElem_of_mem hx
    have := h j hj
    unfold inB at this
    rw [gI hj] at this
    omega
  · obtain ⟨j, hj, rfl⟩ := List.getElem_of_mem hx
    have := h j (by omega)
    unfold inB at this
    rw [gI hj] at this
    omega
theorem inB_succ {l m : List Int} {k : Nat} (h : ∀ j, j < k → inB l m j) (h2 : inB l m k) : ∀ j, j < k + 1 → inB l m j := fun j hj => by
  by_cases e : j = k
  · subst e; exact h2
  · exact h j (by omega)
theorem six_cells {W : World} {b t : Nat} {fr : Nat × Nat} {x0 x1 x2 x3 x4 x5 : Value} (h : W.heap[b]? = some (.cells #[x0, x1, x2, x3, x4, x5] t fr)) : W.cell? ⟨b, 0, none⟩ = some x0 ∧ W.cell? ⟨b, 1, none⟩ = some x1 ∧ W.cell? ⟨b, 2, none⟩ = some x2 ∧ W.cell? ⟨b, 3, none⟩ = some x3 ∧ W.cell? ⟨b, 4, none⟩ = some x4 ∧ W.cell? ⟨b, 5, none⟩ = some x5 :=
  ⟨cell_of_heap (n := 6) h (by omega), cell_of_heap (n := 6) h (by omega), cell_of_heap (n := 6) h (by omega), cell_of_heap (n := 6) h (by omega), cell_of_heap (n := 6) h (by omega), cell_of_heap (n := 6) h (by omega)⟩
abbrev ShB (s : Shp) (va vb : Value) : Obj := .cells #[va, vb, .int .i64 s.joint, .int .i64 s.glottis, .int .i64 s.lips, .int .i64 s.nose] 24
set_option maxRecDepth 10000 in
set_option maxHeartbeats 8000000 in
theorem law3_any (s : Shp) (va vb v u : Value) (l m : List Int) (w : World) (hk : ∀ w, Calls Try.prog 17 #[] w fun e w' => e = .returned (.bool true) ∧ Below w.heap.size w w') (ha : SliceV w va 1 IntAt s.areas) (hb : SliceV w vb 1 IntAt s.branch) (hv : SliceV w v 1 IntAt l) (hu : SliceV w u 1 IntAt m) :
    Calls Try.prog 3 #[.agg #[va, vb, .int .i64 s.joint, .int .i64 s.glottis, .int .i64 s.lips, .int .i64 s.nose], v, u] w fun e w' => e = .returned (.bool true) ∧ Below w.heap.size w w' := by
  have HK := Lib.hid hk
  have HSH := Lib.hid (fun W (hB : Below w.heap.size w W) => short_any s va vb W (ha.keep IntAt.stable hB) (hb.keep IntAt.stable hB))
  have HCH := Lib.hid (fun W (hB : Below w.heap.size w W) => Check_any s va vb W (ha.keep IntAt.stable hB) (hb.keep IntAt.stable hB))
  have HRS := Lib.hid (fun W (hB : Below w.heap.size w W) => refShape_any s va vb W (ha.keep IntAt.stable hB) (hb.keep IntAt.stable hB))
  have HSC0 := Lib.hid (fun W (hB : Below w.heap.size w W) => Scatter_any l m v u W (hv.keep IntAt.stable hB) (hu.keep IntAt.stable hB))
  have HRC0 := Lib.hid (fun (a : 1 ≤ l.length) (b : l.length ≤ 10) (c : m.length = l.length) (d : ∀ j, j < l.length → 1 ≤ l.getD j 0 ∧ l.getD j 0 ≤ 1000) W (hB : Below w.heap.size w W) => refScatter_any l m v u W (hv.keep IntAt.stable hB) (hu.keep IntAt.stable hB) a b c d)
  have HV := Lib.hid hv
  have HU := Lib.hid hu
  obtain ⟨a1, c1, rfl, hl, -⟩ := hv
  obtain ⟨a2, c2, rfl, hm, -⟩ := hu
  unfold most at hl hm
  have HB0 := Lib.hid (bAlloc (Below.refl w.heap.size w) (ShB s va vb))
  have HX0 := Lib.hid (World.alloc_heap_new w (ShB s va vb))
  obtain ⟨sj, hsj⟩ : ∃ x, s.joint = x := ⟨_, rfl⟩
  obtain ⟨sg, hsg⟩ : ∃ x, s.glottis = x := ⟨_, rfl⟩
  obtain ⟨sl, hsl⟩ : ∃ x, s.lips = x := ⟨_, rfl⟩
  obtain ⟨sn, hsn⟩ : ∃ x, s.nose = x := ⟨_, rfl⟩
  simp only [ShB, hsj, hsg, hsl, hsn] at HSH HCH HRS HB0 HX0 ⊢
  clear hk ha hb hsj hsg hsl hsn
  obtain ⟨bs, hbs⟩ : ∃ bs, (decide ((s.areas.length : Int) ≤ 40) && decide ((s.branch.length : Int) ≤ 40)) = bs := ⟨_, rfl⟩
  obtain ⟨ok, hok⟩ : ∃ ok, shpOk s = ok := ⟨_, rfl⟩
  rw [hbs] at HSH
  rw [hok] at HCH HRS
  clear hbs hok
  by_cases e0 : bs = false
  · subst e0
    clear HCH HRS HSC0 HRC0 HV HU
    generalize l.length = L at *
    generalize m.length = M at *
    go_enter Try.func3, Try.ntmps3
    go_wp2_with (first
      | (go_at_call 16; with_reducible refine Calls.mono (HSH.out _ HB0.out) ?_; rintro e w1 ⟨rfl, hb1⟩; have HB1 := Lib.hid (bThen HB0.out hb1); have HX1 := Lib.hid (heap_keep hb1 HX0.out); clear hb1)
      | (go_at_call 17; with_reducible refine Calls.mono (HK.out _) ?_; rintro e wk ⟨rfl, hb⟩; have HB := Lib.hid hb; clear hb))
    all_goals first
      | (exfalso; omega)
      | (go_ret; exact ⟨rfl, bThen HB1.out HB.out⟩)
  obtain rfl : bs = true := by simpa using e0
  clear e0
  by_cases e1 : (l.length : Int) > 20
  · clear HCH HRS HSC0 HRC0 HV HU
    generalize l.length = L at *
    generalize m.length = M at *
    go_enter Try.func3, Try.ntmps3
    go_wp2_with (first
      | (go_at_call 16; with_reducible refine Calls.mono (HSH.out _ HB0.out) ?_; rintro e w1 ⟨rfl, hb1⟩; have HB1 := Lib.hid (bThen HB0.out hb1); have HX1 := Lib.hid (heap_keep hb1 HX0.out); clear hb1)
      | (go_at_call 17; with_reducible refine Calls.mono (HK.out _) ?_; rintro e wk ⟨rfl, hb⟩; have HB := Lib.hid hb; clear hb))
    all_goals first
      | (exfalso; omega)
      | (go_ret; exact ⟨rfl, bThen HB1.out HB.out⟩)
  by_cases e2 : (m.length : Int) > 20
  · clear HCH HRS HSC0 HRC0 HV HU
    generalize l.length = L at *
    generalize m.length = M at *
    go_enter Try.func3, Try.ntmps3
    go_wp2_with (first
      | (go_at_call 16; with_reducible refine Calls.mono (HSH.out _ HB0.out) ?_; rintro e w1 ⟨rfl, hb1⟩; have HB1 := Lib.hid (bThen HB0.out hb1); have HX1 := Lib.hid (heap_keep hb1 HX0.out); clear hb1)
      | (go_at_call 17; with_reducible refine Calls.mono (HK.out _) ?_; rintro e wk ⟨rfl, hb⟩; have HB := Lib.hid hb; clear hb))
    all_goals first
      | (exfalso; omega)
      | (go_ret; exact ⟨rfl, bThen HB1.out HB.out⟩)
  go_enter Try.func3, Try.ntmps3
  go_upto_region 3 with (first | (go_at_call 16; with_reducible refine Calls.mono (HSH.out _ HB0.out) ?_; rintro e w1 ⟨rfl, hb1⟩; have HB1 := Lib.hid (bThen HB0.out hb1); have HX1 := Lib.hid (heap_keep hb1 HX0.out); clear hb1))
  all_goals first | (exfalso; omega) | skip
  go_cut [43] from 28 to 43 (fun r wc => r = .bool false ∧ Hid (Below w.heap.size w wc))
  case first =>
    cases ok
    · simp only [Bool.false_eq_true, if_false] at HCH
      go_region_held3 (fun W' => W'.cell? ⟨w.heap.size, 0, none⟩ = some va ∧ W'.cell? ⟨w.heap.size, 1, none⟩ = some vb ∧ W'.cell? ⟨w.heap.size, 2, none⟩ = some (.int .i64 sj) ∧ W'.cell? ⟨w.heap.size, 3, none⟩ = some (.int .i64 sg) ∧ W'.cell? ⟨w.heap.size, 4, none⟩ = some (.int .i64 sl) ∧ W'.cell? ⟨w.heap.size, 5, none⟩ = some (.int .i64 sn)) (((try dsimp only); first | exact six_cells HX5.out | exact six_cells HX4.out | exact six_cells HX3.out | exact six_cells HX2.out | exact six_cells HX1.out)) (first
        | (go_at_call 18; refine (HCH.out _ ?hb).mono ?_; (case hb => exact HB4.out.drew); rintro e w5 ⟨rfl, hb2⟩; have HX5 := Lib.hid (heap_keep hb2 (HX4.out)); have HB5 : Hid (Below w.heap.size w w5) := Lib.hid (bThen HB4.out.drew hb2); clear hb2)
        | (go_at_call 18; refine (HCH.out _ ?hb).mono ?_; (case hb => exact HB4.out); rintro e w5 ⟨rfl, hb2⟩; have HX5 := Lib.hid (heap_keep hb2 (HX4.out)); have HB5 : Hid (Below w.heap.size w w5) := Lib.hid (bThen HB4.out hb2); clear hb2)
        | (go_at_call 19; refine (HRS.out _ ?hb).mono ?_; (case hb => exact HB4.out.drew); rintro e w5 ⟨rfl, hb2⟩; have HX5 := Lib.hid (heap_keep hb2 (HX4.out)); have HB5 : Hid (Below w.heap.size w w5) := Lib.hid (bThen HB4.out.drew hb2); clear hb2)
        | (go_at_call 19; refine (HRS.out _ ?hb).mono ?_; (case hb => exact HB4.out); rintro e w5 ⟨rfl, hb2⟩; have HX5 := Lib.hid (heap_keep hb2 (HX4.out)); have HB5 : Hid (Below w.heap.size w w5) := Lib.hid (bThen HB4.out hb2); clear hb2)
        | (go_at_call 18; refine (HCH.out _ ?hb).mono ?_; (case hb => exact HB3.out.drew); rintro e w4 ⟨rfl, hb2⟩; have HX4 := Lib.hid (heap_keep hb2 (HX3.out)); have HB4 : Hid (Below w.heap.size w w4) := Lib.hid (bThen HB3.out.drew hb2); clear hb2)
        | (go_at_call 18; refine (HCH.out _ ?hb).mono ?_; (case hb => exact HB3.out); rintro e w4 ⟨rfl, hb2⟩; have HX4 := Lib.hid (heap_keep hb2 (HX3.out)); have HB4 : Hid (Below w.heap.size w w4) := Lib.hid (bThen HB3.out hb2); clear hb2)
        | (go_at_call 19; refine (HRS.out _ ?hb).mono ?_; (case hb => exact HB3.out.drew); rintro e w4 ⟨rfl, hb2⟩; have HX4 := Lib.hid (heap_keep hb2 (HX3.out)); have HB4 : Hid (Below w.heap.size w w4) := Lib.hid (bThen HB3.out.drew hb2); clear hb2)
        | (go_at_call 19; refine (HRS.out _ ?hb).mono ?_; (case hb => exact HB3.out); rintro e w4 ⟨rfl, hb2⟩; have HX4 := Lib.hid (heap_keep hb2 (HX3.out)); have HB4 : Hid (Below w.heap.size w w4) := Lib.hid (bThen HB3.out hb2); clear hb2)
        | (go_at_call 18; refine (HCH.out _ ?hb).mono ?_; (case hb => exact HB2.out.drew); rintro e w3 ⟨rfl, hb2⟩; have HX3 := Lib.hid (heap_keep hb2 (HX2.out)); have HB3 : Hid (Below w.heap.size w w3) := Lib.hid (bThen HB2.out.drew hb2); clear hb2)
        | (go_at_call 18; refine (HCH.out _ ?hb).mono ?_; (case hb => exact HB2.out); rintro e w3 ⟨rfl, hb2⟩; have HX3 := Lib.hid (heap_keep hb2 (HX2.out)); have HB3 : Hid (Below w.heap.size w w3) := Lib.hid (bThen HB2.out hb2); clear hb2)
        | (go_at_call 19; refine (HRS.out _ ?hb).mono ?_; (case hb => exact HB2.out.drew); rintro e w3 ⟨rfl, hb2⟩; have HX3 := Lib.hid (heap_keep hb2 (HX2.out)); have HB3 : Hid (Below w.heap.size w w3) := Lib.hid (bThen HB2.out.drew hb2); clear hb2)
        | (go_at_call 19; refine (HRS.out _ ?hb).mono ?_; (case hb => exact HB2.out); rintro e w3 ⟨rfl, hb2⟩; have HX3 := Lib.hid (heap_keep hb2 (HX2.out)); have HB3 : Hid (Below w.heap.size w w3) := Lib.hid (bThen HB2.out hb2); clear hb2)
        | (go_at_call 18; refine (HCH.out _ ?hb).mono ?_; (case hb => exact HB1.out.drew); rintro e w2 ⟨rfl, hb2⟩; have HX2 := Lib.hid (heap_keep hb2 (HX1.out)); have HB2 : Hid (Below w.heap.size w w2) := Lib.hid (bThen HB1.out.drew hb2); clear hb2)
        | (go_at_call 18; refine (HCH.out _ ?hb).mono ?_; (case hb => exact HB1.out); rintro e w2 ⟨rfl, hb2⟩; have HX2 := Lib.hid (heap_keep hb2 (HX1.out)); have HB2 : Hid (Below w.heap.size w w2) := Lib.hid (bThen HB1.out hb2); clear hb2)
        | (go_at_call 19; refine (HRS.out _ ?hb).mono ?_; (case hb => exact HB1.out.drew); rintro e w2 ⟨rfl, hb2⟩; have HX2 := Lib.hid (heap_keep hb2 (HX1.out)); have HB2 : Hid (Below w.heap.size w w2) := Lib.hid (bThen HB1.out.drew hb2); clear hb2)
        | (go_at_call 19; refine (HRS.out _ ?hb).mono ?_; (case hb => exact HB1.out); rintro e w2 ⟨rfl, hb2⟩; have HX2 := Lib.hid (heap_keep hb2 (HX1.out)); have HB2 : Hid (Below w.heap.size w w2) := Lib.hid (bThen HB1.out hb2); clear hb2))
      all_goals
        go_wp2_with fail
        go_meet
        exact ⟨rfl, by first | exact HB5 | exact HB4 | exact HB3 | exact HB2⟩
    · simp only [if_true] at HCH
      obtain ⟨x10, x11, x12, x13, x14, x15⟩ := six_cells HX1.out
      go_region_with (first
              | (go_at_call 18; refine (HCH.out _ ?hb).mono ?_; (case hb => exact HB4.out.drew); rintro e w5 ⟨rfl, hb2⟩; have HX5 := Lib.hid (heap_keep hb2 (HX4.out)); obtain ⟨x50, x51, x52, x53, x54, x55⟩ := six_cells HX5.out; have HB5 : Hid (Below w.heap.size w w5) := Lib.hid (bThen HB4.out.drew hb2); clear hb2)
              | (go_at_call 18; refine (HCH.out _ ?hb).mono ?_; (case hb => exact HB4.out); rintro e w5 ⟨rfl, hb2⟩; have HX5 := Lib.hid (heap_keep hb2 (HX4.out)); obtain ⟨x50, x51, x52, x53, x54, x55⟩ := six_cells HX5.out; have HB5 : Hid (Below w.heap.size w w5) := Lib.hid (bThen HB4.out hb2); clear hb2)
              | (go_at_call 19; refine (HRS.out _ ?hb).mono ?_; (case hb => exact HB4.out.drew); rintro e w5 ⟨rfl, hb2⟩; have HX5 := Lib.hid (heap_keep hb2 (HX4.out)); obtain ⟨x50, x51, x52, x53, x54, x55⟩ := six_cells HX5.out; have HB5 : Hid (Below w.heap.size w w5) := Lib.hid (bThen HB4.out.drew hb2); clear hb2)
              | (go_at_call 19; refine (HRS.out _ ?hb).mono ?_; (case hb => exact HB4.out); rintro e w5 ⟨rfl, hb2⟩; have HX5 := Lib.hid (heap_keep hb2 (HX4.out)); obtain ⟨x50, x51, x52, x53, x54, x55⟩ := six_cells HX5.out; have HB5 : Hid (Below w.heap.size w w5) := Lib.hid (bThen HB4.out hb2); clear hb2)
              | (go_at_call 18; refine (HCH.out _ ?hb).mono ?_; (case hb => exact HB3.out.drew); rintro e w4 ⟨rfl, hb2⟩; have HX4 := Lib.hid (heap_keep hb2 (HX3.out)); obtain ⟨x40, x41, x42, x43, x44, x45⟩ := six_cells HX4.out; have HB4 : Hid (Below w.heap.size w w4) := Lib.hid (bThen HB3.out.drew hb2); clear hb2)
              | (go_at_call 18; refine (HCH.out _ ?hb).mono ?_; (case hb => exact HB3.out); rintro e w4 ⟨rfl, hb2⟩; have HX4 := Lib.hid (heap_keep hb2 (HX3.out)); obtain ⟨x40, x41, x42, x43, x44, x45⟩ := six_cells HX4.out; have HB4 : Hid (Below w.heap.size w w4) := Lib.hid (bThen HB3.out hb2); clear hb2)
              | (go_at_call 19; refine (HRS.out _ ?hb).mono ?_; (case hb => exact HB3.out.drew); rintro e w4 ⟨rfl, hb2⟩; have HX4 := Lib.hid (heap_keep hb2 (HX3.out)); obtain ⟨x40, x41, x42, x43, x44, x45⟩ := six_cells HX4.out; have HB4 : Hid (Below w.heap.size w w4) := Lib.hid (bThen HB3.out.drew hb2); clear hb2)
              | (go_at_call 19; refine (HRS.out _ ?hb).mono ?_; (case hb => exact HB3.out); rintro e w4 ⟨rfl, hb2⟩; have HX4 := Lib.hid (heap_keep hb2 (HX3.out)); obtain ⟨x40, x41, x42, x43, x44, x45⟩ := six_cells HX4.out; have HB4 : Hid (Below w.heap.size w w4) := Lib.hid (bThen HB3.out hb2); clear hb2)
              | (go_at_call 18; refine (HCH.out _ ?hb).mono ?_; (case hb => exact HB2.out.drew); rintro e w3 ⟨rfl, hb2⟩; have HX3 := Lib.hid (heap_keep hb2 (HX2.out)); obtain ⟨x30, x31, x32, x33, x34, x35⟩ := six_cells HX3.out; have HB3 : Hid (Below w.heap.size w w3) := Lib.hid (bThen HB2.out.drew hb2); clear hb2)
              | (go_at_call 18; refine (HCH.out _ ?hb).mono ?_; (case hb => exact HB2.out); rintro e w3 ⟨rfl, hb2⟩; have HX3 := Lib.hid (heap_keep hb2 (HX2.out)); obtain ⟨x30, x31, x32, x33, x34, x35⟩ := six_cells HX3.out; have HB3 : Hid (Below w.heap.size w w3) := Lib.hid (bThen HB2.out hb2); clear hb2)
              | (go_at_call 19; refine (HRS.out _ ?hb).mono ?_; (case hb => exact HB2.out.drew); rintro e w3 ⟨rfl, hb2⟩; have HX3 := Lib.hid (heap_keep hb2 (HX2.out)); obtain ⟨x30, x31, x32, x33, x34, x35⟩ := six_cells HX3.out; have HB3 : Hid (Below w.heap.size w w3) := Lib.hid (bThen HB2.out.drew hb2); clear hb2)
              | (go_at_call 19; refine (HRS.out _ ?hb).mono ?_; (case hb => exact HB2.out); rintro e w3 ⟨rfl, hb2⟩; have HX3 := Lib.hid (heap_keep hb2 (HX2.out)); obtain ⟨x30, x31, x32, x33, x34, x35⟩ := six_cells HX3.out; have HB3 : Hid (Below w.heap.size w w3) := Lib.hid (bThen HB2.out hb2); clear hb2)
              | (go_at_call 18; refine (HCH.out _ ?hb).mono ?_; (case hb => exact HB1.out.drew); rintro e w2 ⟨rfl, hb2⟩; have HX2 := Lib.hid (heap_keep hb2 (HX1.out)); obtain ⟨x20, x21, x22, x23, x24, x25⟩ := six_cells HX2.out; have HB2 : Hid (Below w.heap.size w w2) := Lib.hid (bThen HB1.out.drew hb2); clear hb2)
              | (go_at_call 18; refine (HCH.out _ ?hb).mono ?_; (case hb => exact HB1.out); rintro e w2 ⟨rfl, hb2⟩; have HX2 := Lib.hid (heap_keep hb2 (HX1.out)); obtain ⟨x20, x21, x22, x23, x24, x25⟩ := six_cells HX2.out; have HB2 : Hid (Below w.heap.size w w2) := Lib.hid (bThen HB1.out hb2); clear hb2)
              | (go_at_call 19; refine (HRS.out _ ?hb).mono ?_; (case hb => exact HB1.out.drew); rintro e w2 ⟨rfl, hb2⟩; have HX2 := Lib.hid (heap_keep hb2 (HX1.out)); obtain ⟨x20, x21, x22, x23, x24, x25⟩ := six_cells HX2.out; have HB2 : Hid (Below w.heap.size w w2) := Lib.hid (bThen HB1.out.drew hb2); clear hb2)
              | (go_at_call 19; refine (HRS.out _ ?hb).mono ?_; (case hb => exact HB1.out); rintro e w2 ⟨rfl, hb2⟩; have HX2 := Lib.hid (heap_keep hb2 (HX1.out)); obtain ⟨x20, x21, x22, x23, x24, x25⟩ := six_cells HX2.out; have HB2 : Hid (Below w.heap.size w w2) := Lib.hid (bThen HB1.out hb2); clear hb2))
      all_goals
        go_wp2_with fail
        go_meet
        exact ⟨rfl, by first | exact HB5 | exact HB4 | exact HB3 | exact HB2⟩
  case rest =>
    obtain ⟨rfl, HB2⟩ := hcut
    clear HCH HRS HX1 HSH HX0 HB0
    cases hmo : meetOk l m
    · rw [hmo] at HSC0
      simp only [Bool.false_eq_true, if_false] at HSC0
      have HSC := Lib.hid (fun W (hB : Below w.heap.size w W) => twoS (HSC0.out W hB) 0 rfl)
      clear HSC0 HRC0
      go_wp2_with (first
        | (go_at_call 20; with_reducible refine Calls.mono (HSC.out _ HB2.out) ?_; rintro e w3 ht; obtain ⟨⟨pa, pc, rfl, hs⟩, hb⟩ := ht; have HB3 := Lib.hid (bThen HB2.out hb); have HSP := Lib.hid hs; clear hb hs HSC))
      all_goals
        go_loopw [9, 10] (fun b i wr => ∃ (k : Nat) (bb : Bool), k ≤ l.length ∧ i = .int .i64 k ∧ b = .bool bb ∧ Hid (bb = true → 1 ≤ l.length ∧ l.length ≤ 10 ∧ m.length = l.length ∧ ∀ j, j < k → inB l m j) ∧ w3 = wr) (fun _ i _ => l.length - (intOf i).toNat)
        case atStart => exact ⟨0, _, Nat.zero_le _, rfl, rfl, Lib.hid (by intro h; first | (simp at h; done) | ((try simp at h); exact ⟨by omega, by omega, by omega, fun j hj => absurd hj (by omega)⟩)), rfl⟩
        case round =>
          obtain ⟨k, bb, hk, rfl, rfl, HI, rfl⟩ := hrel
          cases bb
          · go_wp2_with (go_at_call 17; with_reducible refine Calls.mono (HK.out _) ?_; rintro e wk ⟨rfl, hb⟩; have HB := Lib.hid hb; clear hb)
            all_goals first
              | (exfalso; omega)
              | (go_ret; exact ⟨rfl, bThen HB3.out HB.out⟩)
          · obtain ⟨i1, i2, i3, i4⟩ := HI.out rfl
            by_cases hlt : k < l.length
            · have hlm : k < m.length := by omega
              obtain ⟨b1, o1, q1, hf1⟩ := (HV.out.keep IntAt.stable HB3.out).at (by intro h; simp [h] at hlt)
              obtain ⟨b2, o2, q2, hf2⟩ := (HU.out.keep IntAt.stable HB3.out).at (by intro h; simp [h] at hlm)
              cases q1
              cases q2
              have y0 := hf1 k hlt
              have y1 := hf2 k hlm
              unfold IntAt at y0 y1
              rw [Nat.mul_one] at y0 y1
              have hy0 := cell_lt y0
              have hy1 := cell_lt y1
              have HIN : Hid (1 ≤ l[k] ∧ l[k] ≤ 1000 ∧ -1073741824 ≤ m[k] ∧ m[k] ≤ 1073741824 → ∀ j, j < k + 1 → inB l m j) := Lib.hid fun h => inB_succ i4 (by unfold inB; rw [gI hlt, gI hlm]; exact h)
              clear hf1 hf2 i4 HI
              generalize l[k] = x at *
              generalize m[k] = y at *
              go_wp2_with fail
              all_goals first
                | (exfalso; omega)
                | skip
              all_goals
                go_roundw
                case rel => exact ⟨k + 1, _, by omega, by go_num, rfl, Lib.hid (by intro h; first | (simp at h; done) | ((try simp at h); exact ⟨by omega, by omega, by omega, HIN.out (by omega)⟩)), by first | rfl | trivial⟩
                case measure => simp [intOf]; omega
            · obtain rfl : k = l.length := by omega
              exfalso
              have := meet_of i1 i2 i3 i4
              rw [hmo] at this
              cases this
    · rw [hmo] at HSC0
      simp only [if_true] at HSC0
      obtain ⟨p1', p2', p3, p4, p5⟩ := meet_parts hmo
      have HSC := Lib.hid (fun W (hB : Below w.heap.size w W) => twoS (HSC0.out W hB) l.length (sctL_len l m))
      have HRC := Lib.hid (fun W hB => HRC0.out p1' p2' p3 p4 W hB)
      have HP4 := Lib.hid p4
      have HP5 := Lib.hid p5
      have HP3 := Lib.hid p3
      clear HSC0 HRC0 hmo p3 p4 p5
      go_wp2_with (first
        | (go_at_call 20; with_reducible refine Calls.mono (HSC.out _ HB2.out) ?_; rintro e w3 ht; obtain ⟨⟨pa, pc, rfl, hs⟩, hb⟩ := ht; have HB3 := Lib.hid (bThen HB2.out hb); have HSP := Lib.hid hs; clear hb hs HSC))
      all_goals first
        | (exfalso; have := HP3.out; omega)
        | skip
      go_loopw [9, 10] (fun b i wr => ∃ k : Nat, k ≤ l.length ∧ i = .int .i64 k ∧ b = .bool true ∧ w3 = wr) (fun _ i _ => l.length - (intOf i).toNat)
      case atStart => exact ⟨0, Nat.zero_le _, rfl, ret_b (by have := HP3.out; simp; omega), rfl⟩
      case round =>
        obtain ⟨k, hk, rfl, rfl, rfl⟩ := hrel
        by_cases hlt : k < l.length
        · have hlm : k < m.length := by rw [HP3.out]; exact hlt
          obtain ⟨b1, o1, q1, hf1⟩ := (HV.out.keep IntAt.stable HB3.out).at (by intro h; simp [h] at hlt)
          obtain ⟨b2, o2, q2, hf2⟩ := (HU.out.keep IntAt.stable HB3.out).at (by intro h; simp [h] at hlm)
          cases q1
          cases q2
          have y0 := hf1 k hlt
          have y1 := hf2 k hlm
          unfold IntAt at y0 y1
          rw [Nat.mul_one] at y0 y1
          have hy0 := cell_lt y0
          have hy1 := cell_lt y1
          have z0 := HP4.out k hlt
          have z1 := HP5.out k hlm
          rw [gI hlt] at z0
          rw [gI hlm] at z1
          obtain ⟨z01, z02⟩ := z0
          obtain ⟨z11, z12⟩ := z1
          clear hf1 hf2 HP4 HP5
          generalize l[k] = x at *
          generalize m[k] = y at *
          go_wp2_with fail
          all_goals first
            | (exfalso; omega)
            | skip
          go_roundw
          case rel => exact ⟨k + 1, by omega, by go_num, rfl, by first | rfl | trivial⟩
          case measure => simp [intOf]; omega
        · obtain rfl : k = l.length := by omega
          go_wp2_with (first
            | (go_at_call 22; with_reducible refine Calls.mono (HRC.out _ HB3.out) ?_; rintro e w4 ⟨⟨r4, rfl, hs4⟩, hb4⟩; have HB4 := Lib.hid (bThen HB3.out hb4); have HSP4 := Lib.hid (HSP.out.keep IntAt.stable hb4); have hsm := Same_any _ _ _ _ _ HSP4.out hs4; rw [decide_eq_true rfl] at hsm; have HSM := Lib.hid hsm; clear hb4 hs4 hsm)
            | (go_at_call 21; with_reducible refine Calls.mono HSM.out ?_; rintro e w5 ⟨rfl, hb5⟩; have HB5 := Lib.hid (bThen HB4.out hb5); have HSP5 := Lib.hid (HSP4.out.keep IntAt.stable hb5); clear hb5 HSM))
          clear HRC HB3 HB4 HSP HSP4
          have HST := Lib.hid (sums_start (A := fun i => l.getD i 0) (F := fun i => m.getD i 0) (G := fun i => (sctL l m).getD i 0) w5)
          generalize ((w5.alloc (.cells #[.int .i64 0, .int .i64 0] 33)).alloc (.cells #[.int .i64 0, .int .i64 0] 33)) = W5 at *
          go_loopw [13] (fun i wr => ∃ k : Nat, k ≤ l.length ∧ i = .int .i64 k ∧ Hid (Below w5.heap.size w5 wr) ∧ Hid (Sums wr w5.heap.size (enS (fun i => l.getD i 0) (fun i => m.getD i 0) k)) ∧ Hid (Sums wr (w5.heap.size + 1) (enS (fun i => l.getD i 0) (fun i => (sctL l m).getD i 0) k))) (fun i _ => l.length - (intOf i).toNat)
          case atStart => exact ⟨0, Nat.zero_le _, rfl, Lib.hid HST.out.1, Lib.hid HST.out.2.1, Lib.hid HST.out.2.2⟩
          case round =>
            obtain ⟨k, hk, rfl, HBW, HSA, HSB⟩ := hrel
            clear HST
            by_cases hlt : k < l.length
            · have hlm : k < m.length := by rw [HP3.out]; exact hlt
              have hls : k < (sctL l m).length := by rw [sctL_len]; exact hlt
              have hB := bThen HB5.out HBW.out
              obtain ⟨b1, o1, q1, hf1⟩ := (HV.out.keep IntAt.stable hB).at (by intro h; simp [h] at hlt)
              obtain ⟨b2, o2, q2, hf2⟩ := (HU.out.keep IntAt.stable hB).at (by intro h; simp [h] at hlm)
              obtain ⟨b3, o3, q3, hf3⟩ := (HSP5.out.keep IntAt.stable HBW.out).at (by intro h; simp [h] at hls)
              cases q1
              cases q2
              cases q3
              have y0 := hf1 k hlt
              have y1 := hf2 k hlm
              have y2 := hf3 k hls
              unfold IntAt at y0 y1 y2
              rw [Nat.mul_one] at y0 y1 y2
              have hy0 := cell_lt y0
              have hy1 := cell_lt y1
              have hy2 := cell_lt y2
              obtain ⟨p0, p1, hp, P1, P2, P3, P4⟩ := HSA.out
              obtain ⟨r0, r1, hr, R1, R2, R3, R4⟩ := HSB.out
              clear hf1 hf2 hf3 hB
              have x0 := cell_of_heap (n := 2) (j := 0) hp (by omega)
              have x1 := cell_of_heap (n := 2) (j := 1) hp (by omega)
              have z0 := cell_of_heap (n := 2) (j := 0) hr (by omega)
              have z1 := cell_of_heap (n := 2) (j := 1) hr (by omega)
              simp at x0 x1 z0 z1
              have hx0 := cell_lt x0
              have hz0 := cell_lt z0
              have HY0 := Lib.hid (fun W (hB : Below w.heap.size w W) => cell_in HV.out hlt hB)
              have HY2 := Lib.hid (fun W (hB : Below w5.heap.size w5 W) => cell_in (by have h := HSP5.out; rwa [← sctL_len l m] at h) hls hB)
              have hA := HP4.out k hlt
              have hF := HP5.out k hlm
              have hS := (sct_exact (F := fun i => m.getD i 0) p1' p2' HP4.out (fun j hj => HP5.out j (by rw [HP3.out]; exact hj)) k hlt).2
              have hEA := enS_in (A := fun i => l.getD i 0) (F := fun i => m.getD i 0) (n := l.length) HP4.out (fun j hj => by have := HP5.out j (by rw [HP3.out]; exact hj); omega) k hk
              have hEB := enS_in (A := fun i => l.getD i 0) (F := fun i => (sctL l m).getD i 0) (n := l.length) HP4.out (fun j hj => by rw [sctL_get l m hj]; exact (sct_exact (F := fun i => m.getD i 0) p1' p2' HP4.out (fun j hj => HP5.out j (by rw [HP3.out]; exact hj)) j hj).2) k hk
              have hE1 := enS_succ (fun i => l.getD i 0) (fun i => m.getD i 0) k
              have hE2 := enS_succ (fun i => l.getD i 0) (fun i => (sctL l m).getD i 0) k
              rw [← sctL_get l m hlt] at hS
              try simp only at hE1 hE2
              rw [gI hlt] at hA hE1 hE2
              rw [gI hlm] at hF hE1
              rw [gI hls] at hS hE2
              generalize l[k] = x at *
              generalize m[k] = y at *
              generalize (sctL l m)[k] = z at *
              have HE1 := Lib.hid hE1
              have HE2 := Lib.hid hE2
              have HPA := Lib.hid (fun W => plus_any p0 p1 x y W P1 (by omega) P2 P3 hA.1 hA.2 (by omega) (by omega))
              have HPB := Lib.hid (fun W => plus_any r0 r1 x z W R1 (by omega) R2 R3 hA.1 hA.2 hS.1 hS.2)
              have HP := Lib.hid hp
              have HR := Lib.hid hr
              have HP4' := Lib.hid P4
              have HR4' := Lib.hid R4
              clear hE1 hE2 hA hF hS hEA hEB hp hr P4 R4 P1 P2 P3 R1 R2 R3
              go_wp2_with fail
              go_still_tail 9, (by kernel_rfl)
              change wpList _ _ _ _ _ (World.drew _)
              generalize hW : World.drew _ = w6
              have HB6 : Below wr.heap.size wr w6 := by rw [← hW]; exact (Below.refl _ _).drew
              clear hW
              have y0 := keep HB6 y0
              have y1 := keep HB6 y1
              have y2 := keep HB6 y2
              have x0 := keep HB6 x0
              have x1 := keep HB6 x1
              have hy0 := cell_lt y0
              have hy1 := cell_lt y1
              have hx0 := cell_lt x0
              have HB6 := Lib.hid HB6
              have HP6 := Lib.hid (heap_keep HB6.out HP.out)
              have HR6 := Lib.hid (heap_keep HB6.out HR.out)
              go_upto_region 20 with (go_at_call 23; with_reducible refine Calls.mono (HPA.out _) ?_; rintro e w7 ⟨⟨n0, n1, rfl, N1, N2, N3, N4⟩, hb7⟩; have HB7 := Lib.hid (HBW.out.trans ((HB6.out.trans (hb7.mono HB6.out.size)).mono HBW.out.size)); have HP7 := Lib.hid (heap_keep hb7 HP6.out); have HR7 := Lib.hid (heap_keep hb7 HR6.out); have x0 := keep hb7 x0; have x1 := keep hb7 x1; have hx0 := cell_lt x0; have f0 := frz (j := 0) HP7.out; have f1 := frz (j := 1) HP7.out; clear hb7)
              have HPA8 := Lib.hid (set2 HP7.out (.int .i64 n0) (.int .i64 n1))
              have HPB8 := Lib.hid (other2 HR7.out (show w5.heap.size + 1 ≠ w5.heap.size by omega) (.int .i64 n0) (.int .i64 n1))
              have HB8 := Lib.hid (below2 HB7.out (Nat.le_refl _) (.int .i64 n0) (.int .i64 n1))
              generalize ((w7.setCell ⟨w5.heap.size, 0, none⟩ (.int .i64 n0)).setCell ⟨w5.heap.size, 1, none⟩ (.int .i64 n1)) = w8 at *
              have HN := Lib.hid (show Sums w8 w5.heap.size (enS (fun i => l.getD i 0) (fun i => m.getD i 0) (k + 1)) from ⟨n0, n1, HPA8.out, N1, N2, N3, by rw [HE1.out, N4, HP4'.out]⟩)
              clear y0 y1 y2 x0 x1 z0 z1 hy0 hy1 hy2 hx0 hz0 N1 N2 N3 N4 f0 f1 HP7 HR7 HP6 HR6 HB7 HB6
              have y0 := HY0.out w8 (bThen HB5.out HB8.out)
              have y2 := HY2.out w8 HB8.out
              have hy0 := cell_lt y0
              have hy2 := cell_lt y2
              have z0 := cell_of_heap (n := 2) (j := 0) HPB8.out (by omega)
              have z1 := cell_of_heap (n := 2) (j := 1) HPB8.out (by omega)
              simp at z0 z1
              have hz0 := cell_lt z0
              go_wp2_with fail
              go_still_tail 9, (by kernel_rfl)
              change wpList _ _ _ _ _ (World.drew _)
              generalize hW : World.drew _ = w9
              have HB9 : Below w8.heap.size w8 w9 := by rw [← hW]; exact (Below.refl _ _).drew
              clear hW
              have z0 := keep HB9 z0
              have z1 := keep HB9 z1
              have hz0 := cell_lt z0
              have HB9 := Lib.hid HB9
              have HR9 := Lib.hid (heap_keep HB9.out HPB8.out)
              clear y0 y2 hy0 hy2
              go_wp2_with (go_at_call 23; with_reducible refine Calls.mono (HPB.out _) ?_; rintro e wa ⟨⟨n2, n3, rfl, N1, N2, N3, N4⟩, hba⟩; have HBA := Lib.hid (HB9.out.trans (hba.mono HB9.out.size)); have HRA := Lib.hid (heap_keep hba HR9.out); have z0 := keep hba z0; have z1 := keep hba z1; have hz0 := cell_lt z0; have f0 := frz (j := 0) HRA.out; have f1 := frz (j := 1) HRA.out; clear hba)
              go_roundw
              case rel =>
                obtain ⟨u0, u1, ua, ub, uc, ud, ue⟩ := HN.out
                exact ⟨k + 1, by omega, by go_num, Lib.hid (below2 (HB8.out.trans (HBA.out.mono HB8.out.size)) (by omega) (.int .i64 n2) (.int .i64 n3)), Lib.hid ⟨u0, u1, other2 (heap_keep HBA.out ua) (show w5.heap.size ≠ w5.heap.size + 1 by omega) (.int .i64 n2) (.int .i64 n3), ub, uc, ud, ue⟩, Lib.hid ⟨n2, n3, set2 HRA.out (.int .i64 n2) (.int .i64 n3), N1, N2, N3, by rw [HE2.out, N4, HR4'.out]⟩⟩
              case measure => simp [intOf]; omega
            · obtain rfl : k = l.length := by omega
              obtain ⟨p0, p1, hp, P1, P2, P3, P4⟩ := HSA.out
              obtain ⟨r0, r1, hr, R1, R2, R3, R4⟩ := HSB.out
              have hen := sct_energy (F := fun i => m.getD i 0) p1' p2' HP4.out (fun j hj => HP5.out j (by rw [HP3.out]; exact hj))
              have he2 : enS (fun i => l.getD i 0) (fun i => (sctL l m).getD i 0) l.length = enS (fun i => l.getD i 0) (sct (fun i => l.getD i 0) (fun i => m.getD i 0) l.length) l.length := sm_congr fun j hj => by simp only [sctL_get l m hj]
              rw [he2] at R4
              have hle : r0 * 1099511627776 + r1 ≤ p0 * 1099511627776 + p1 := by rw [P4, R4]; exact hen
              have x0 := cell_of_heap (n := 2) (j := 0) hp (by omega)
              have x1 := cell_of_heap (n := 2) (j := 1) hp (by omega)
              have z0 := cell_of_heap (n := 2) (j := 0) hr (by omega)
              have z1 := cell_of_heap (n := 2) (j := 1) hr (by omega)
              simp at x0 x1 z0 z1
              have hx0 := cell_lt x0
              have hz0 := cell_lt z0
              clear hp hr hen he2 P4 R4 HSA HSB
              go_wp2_with (go_at_call 17; with_reducible refine Calls.mono (HK.out _) ?_; rintro e wk ⟨rfl, hb⟩; have HB := Lib.hid hb; clear hb)
              all_goals first
                | (exfalso; omega)
                | (go_ret; exact ⟨rfl, bThen (bThen HB5.out HBW.out) HB.out⟩)
end Go.Proofs.Ytbmbcbknoflpgaa
