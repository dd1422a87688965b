/- Contracts: notes sung. -/
import Derived.Test.YtejcbcjhmnhefabDoorF1
import Derived.Test.YtejcbcjhmnhefabDoorD2
set_option linter.unusedSimpArgs false
set_option linter.unusedVariables false
namespace Go.Proofs.YtejcbcjhmnhefabDoor
open Go.RowKit

/-- The key before a note. -/
def keyBefore (l : List Note) (n : Nat) : Int := match l[n - 1]? with | some x => x.key | none => 0
/-- The cents of the first so many frames of a note. -/
def noteL (l : List Note) (n m : Nat) : List Int := match l[n]? with | some x => (List.range m).map fun f : Nat => centsAt (keyBefore l n) x f | none => []
/-- The cents of the first so many notes. -/
def singTo (l : List Note) : Nat → List Int
  | 0 => []
  | n + 1 => singTo l n ++ (match l[n]? with | some x => noteL l n x.length.toNat | none => [])
def intV (l : List Int) : List Value := l.map (Value.int .i64)
def partL (k : Int) (x : Note) (f : Nat) : List Int := (List.range f).map fun j : Nat => centsAt k x j
theorem partL_succ (k : Int) (x : Note) (f : Nat) : partL k x (f + 1) = partL k x f ++ [centsAt k x f] := by simp [partL, List.range_succ]
theorem partL_len (k : Int) (x : Note) (f : Nat) : (partL k x f).length = f := by simp [partL]
theorem singTo_succ (l : List Note) (n : Nat) (x : Note) (h : l[n]? = some x) : singTo l (n + 1) = singTo l n ++ partL (keyBefore l n) x x.length.toNat := by simp [singTo, noteL, h, partL]
theorem singTo_len {l : List Note} (h : ∀ x ∈ l, noteOk x = true) : ∀ n, n ≤ l.length → (singTo l n).length ≤ 1000 * n := by
  intro n
  induction n with
  | zero => intro _; simp [singTo]
  | succ n ih =>
    intro hn
    have h1 := ih (by omega)
    have h2 := (noteOk_in (h _ (List.getElem_mem (show n < l.length by omega)))).2.1
    rw [singTo_succ l n _ (List.getElem?_eq_getElem (by omega)), List.length_append, partL_len]
    omega
theorem rnd_in' {a b A : Int} (h0 : -A ≤ a) (h1 : a ≤ A) (hb : 0 < b) : -(2 * A + b) ≤ rnd a b ∧ rnd a b ≤ 2 * A + b := by
  unfold rnd
  split
  · have h2 := Int.ediv_nonneg (show 0 ≤ 2 * -a + b by omega) (show 0 ≤ 2 * b by omega)
    have h3 := Int.ediv_le_self (2 * b) (show 0 ≤ 2 * -a + b by omega)
    omega
  · have h2 := Int.ediv_nonneg (show 0 ≤ 2 * a + b by omega) (show 0 ≤ 2 * b by omega)
    have h3 := Int.ediv_le_self (2 * b) (show 0 ≤ 2 * a + b by omega)
    omega
theorem glideC_in {a g f : Int} (ha0 : -119 ≤ a) (ha1 : a ≤ 119) (hg0 : 0 ≤ g) (hg1 : g ≤ 1000) (hf0 : 0 ≤ f) (hf1 : f ≤ 1000) : -100000000 ≤ glideC a g f ∧ glideC a g f ≤ 100000000 := by
  unfold glideC
  split
  · omega
  · have hm := mul_in (A := 11900) (B := 1000) (show -11900 ≤ 100 * a by omega) (by omega) (show -1000 ≤ g - f by omega) (by omega)
    have := rnd_in' (a := 100 * a * (g - f)) (b := g) (A := 11900000) (by omega) (by omega) (by omega)
    omega
theorem vibC_in {dl dp pr i : Int} (h1 : 0 ≤ dl) (h2 : dl ≤ 1000) (h3 : 0 ≤ dp) (h4 : dp ≤ 200) (h5 : 4 ≤ pr) (h6 : pr ≤ 200) (hi0 : 0 ≤ i) (hi1 : i ≤ 1000) : -100000000 ≤ vibC dl dp pr i ∧ vibC dl dp pr i ≤ 100000000 := by
  unfold vibC
  split
  · omega
  · have hj0 := Int.emod_nonneg (i - dl) (show pr ≠ 0 by omega)
    have hj1 := Int.emod_lt_of_pos (i - dl) (show 0 < pr by omega)
    simp only
    generalize (i - dl) % pr = j at *
    have m1 := mul_in (A := 800) (B := 200) (show -800 ≤ 4 * dp by omega) (by omega) (show -200 ≤ j by omega) (by omega)
    have m2 := mul_in (A := 800) (B := 200) (show -800 ≤ 4 * dp by omega) (by omega) (show -200 ≤ pr by omega) (by omega)
    have m3 := mul_in (A := 400) (B := 200) (show -400 ≤ 2 * dp by omega) (by omega) (show -200 ≤ pr by omega) (by omega)
    split
    · have := rnd_in' (a := 4 * dp * j - 4 * dp * pr) (b := pr) (A := 400000) (by omega) (by omega) (by omega)
      omega
    · split
      · have := rnd_in' (a := 2 * dp * pr - 4 * dp * j) (b := pr) (A := 400000) (by omega) (by omega) (by omega)
        omega
      · have := rnd_in' (a := 4 * dp * j) (b := pr) (A := 400000) (by omega) (by omega) (by omega)
        omega
theorem grown_below {W W' : World} {base e size k : Nat} {v : Value} {xs : List Value} (hg : W.grownBy W' v.ownBlock) (h : W.ownsRow base e size v k xs) (hb : base ≤ W.heap.size) : Below base W W' := by
  refine ⟨hg.os, hg.tape, hg.output, hg.size, fun j hj => hg.block j (by omega) ?_⟩
  rcases h.2 with ⟨rfl, _⟩ | ⟨g, cap, cur, rfl, hge, _⟩
  · simp [Value.ownBlock]
  · simp [Value.ownBlock]; omega
theorem block_kept {W W' : World} {base e size k b t : Nat} {v : Value} {xs : List Value} {cs : Array Value} {fr : Nat × Nat} (hg : W.grownBy W' v.ownBlock) (h : W.ownsRow base e size v k xs) (hb : W.heap[b]? = some (.cells cs t fr)) (ht : t ≠ e) : W'.heap[b]? = some (.cells cs t fr) := by
  refine (hg.block b (Array.getElem?_eq_some_iff.1 hb).1 ?_).trans hb
  rcases h.2 with ⟨rfl, _⟩ | ⟨g, cap, cur, rfl, hge, hgb, _⟩
  · simp [Value.ownBlock]
  · simp only [Value.ownBlock]
    intro e'
    rw [Option.some.inj e', hgb] at hb
    injection hb with hb
    injection hb with _ hb
    exact ht hb.symm

set_option maxRecDepth 20000 in
set_option maxHeartbeats 8000000 in
theorem sing_any (l : List Note) (v : Value) (w : World) (hv : SliceV w v 6 NoteAt l) (hok : ∀ x ∈ l, noteOk x = true) (hl : l.length ≤ 100) :
    Calls Tryd.prog 15 #[v] w fun e w' => (∃ u, e = .returned u ∧ w'.ownsRow w.heap.size 3 1 u (singTo l l.length).length (intV (singTo l l.length))) ∧ Below w.heap.size w w' := by
  have HV := Lib.hid hv
  have HOK := Lib.hid hok
  have HF := Lib.hid (frames_any l v w hv hok hl)
  obtain ⟨a, c, rfl, -, -⟩ := hv
  have hs := lenSum_in hok l.length (Nat.le_refl _)
  clear hok
  obtain ⟨i3, hi3, hz3, hs3, hb3⟩ := info_parts info3
  have HI := Lib.hid hi3
  obtain ⟨q, hq⟩ : ∃ q : Nat, lenSum l l.length = (q : Int) := ⟨(lenSum l l.length).toNat, by omega⟩
  rw [hq] at hs HF
  have hmk : ∀ W : World, (Instr.makeSlice 25 (.int .i64 0) (.int .i64 (q : Int))).run Tryd.prog W = .ok (.slice (some ⟨W.heap.size, 0, none⟩) 0 q) (W.alloc (.cells (madeCells #[Value.int .i64 0] q) 3)) := fun W => by
    have h := run_makeSlice (P := Tryd.prog) (w := W) 25 3 i3 _ Tryd.underlying25 hi3 hz3 .i64 .i64 0 (q : Int) (by omega) (by omega) (by rw [hs3]; omega) (by rw [hb3]; omega) (by omega)
    rw [h, hs3]
    rw [Int.toNat_natCast, Nat.mul_one]
    rfl
  clear hq hi3
  go_enter Tryd.func15, Tryd.ntmps15
  go_wp2_with (go_at_call 29; refine HF.out.mono ?_; rintro e w1 ⟨rfl, hb⟩; have HB := Lib.hid hb; clear hb)
  have hr0 : (w1.alloc (.cells (madeCells #[Value.int .i64 0] q) 3)).ownsRow w.heap.size 3 1 (.slice (some ⟨w1.heap.size, 0, none⟩) 0 q) 0 [] := World.ownsRow_made w1 _ q HB.out.size (by unfold maxLen; omega) (by simp [madeCells])
  have HR0 := Lib.hid hr0
  have HB0 := Lib.hid (bAlloc HB.out (.cells (madeCells #[Value.int .i64 0] q) 3))
  clear hr0 hmk
  generalize World.alloc w1 _ = w2 at *
  go_loopw [3, 17] (fun u i wr => ∃ n : Nat, n ≤ l.length ∧ i = .int .i64 n ∧ Hid (wr.ownsRow w.heap.size 3 1 u (singTo l n).length (intV (singTo l n))) ∧ Hid (Below w.heap.size w wr)) (fun _ i _ => l.length - (intOf i).toNat)
  case atStart => exact ⟨0, Nat.zero_le _, rfl, HR0, HB0⟩
  case round =>
    obtain ⟨n, hn, rfl, HR, HB⟩ := hrel
    by_cases hlt : n < l.length
    · obtain ⟨b, o, rfl, hf⟩ := HV.out.at (by intro h; simp [h] at hlt)
      obtain ⟨k0, k1, k2, k3, k4, k5⟩ := NoteAt.stable _ _ _ _ _ HB.out (hf n hlt)
      have hp1 : n - 1 < l.length := by omega
      obtain ⟨p0, -⟩ := NoteAt.stable _ _ _ _ _ HB.out (hf (n - 1) hp1)
      have hkb := cell_lt k0
      have hx := noteOk_in (HOK.out _ (List.getElem_mem hlt))
      have hy := (noteOk_in (HOK.out _ (List.getElem_mem hp1))).1
      have hkey : keyBefore l n = l[n - 1].key := by simp [keyBefore, List.getElem?_eq_getElem hp1]
      have hget : l[n]? = some l[n] := List.getElem?_eq_getElem hlt
      have HKEY := Lib.hid hkey
      have HGET := Lib.hid hget
      clear hf hkey hget
      have hxo := HOK.out _ (List.getElem_mem hlt)
      have HXO := Lib.hid hxo
      clear hxo
      have hdl := singTo_len HOK.out n hn
      generalize l[n] = x at *
      generalize l[n - 1] = y at *
      have hnx := singTo_succ l n x HGET.out
      rw [HKEY.out] at hnx
      obtain ⟨D, hD⟩ : ∃ D, D = singTo l n := ⟨_, rfl⟩
      obtain ⟨E, hE⟩ : ∃ E, E = singTo l (n + 1) := ⟨_, rfl⟩
      rw [← hD, ← hE] at hnx
      rw [← hD] at HR hdl
      have HE := Lib.hid hE
      have HNX := Lib.hid hnx
      obtain ⟨L, hL⟩ : ∃ L : Nat, x.length = (L : Int) := ⟨x.length.toNat, by omega⟩
      rw [hL, Int.toNat_natCast] at HNX
      have hL1 : L ≤ 1000 := by omega
      rw [hL] at k1
      clear hD hE hnx
      rcases Nat.eq_zero_or_pos n with h0 | h0
      · subst h0
        simp only [Nat.zero_mul, Nat.zero_sub, Nat.add_zero] at p0 k0 k1 k2 k3 k4 k5
        have hxy : x.key = y.key := by
          rw [k0] at p0; simpa using p0
        rw [← hxy] at HNX
        have HXY := Lib.hid hxy
        clear hxy
        clear p0
        go_wp2_with fail
        generalize hW : World.alloc (World.alloc wr _) _ = W1
        obtain ⟨pb, hpb⟩ : ∃ pb, pb = wr.heap.size + 1 := ⟨_, rfl⟩
        have hp : W1.heap[pb]? = some (.cells #[.iface 67 (.int .i64 x.key), .iface 69 (.agg #[.int .i64 (0), .int .i64 x.glide]), .iface 71 (.agg #[.int .i64 x.delay, .int .i64 x.depth, .int .i64 x.period])] 74 (0, 0)) := by
          rw [← hW, hpb]
          have h := World.alloc_heap_new (wr.alloc (.cells #[.int .i64 x.key, .int .i64 (L : Int), .int .i64 x.glide, .int .i64 x.delay, .int .i64 x.depth, .int .i64 x.period] 30)) (.cells #[.iface 67 (.int .i64 x.key), .iface 69 (.agg #[.int .i64 (0), .int .i64 x.glide]), .iface 71 (.agg #[.int .i64 x.delay, .int .i64 x.depth, .int .i64 x.period])] 74)
          rw [World.size_alloc] at h; exact h
        have hB1 : Below wr.heap.size wr W1 := by rw [← hW]; exact bAlloc (bAlloc (Below.refl _ _) _) _
        have HP := Lib.hid hp
        have HR1 := Lib.hid (ownsRow_below HR.out hB1)
        have HW1 := Lib.hid (bThen HB.out hB1)
        rw [← hpb]
        have HPB := Lib.hid hpb
        clear hW hp hB1 hpb k0 k1 k2 k3 k4 k5 hkb hL
        (try clear p0)
        obtain ⟨wo, hwo⟩ : ∃ wo, wo = wr := ⟨_, rfl⟩
        subst hwo
        go_loopw [3, 51] (fun u i wr => ∃ f : Nat, f ≤ L ∧ i = .int .i64 f ∧ Hid (wr.ownsRow w.heap.size 3 1 u (D.length + f) (intV (D ++ partL x.key x f))) ∧ Hid (wr.heap[pb]? = some (.cells #[.iface 67 (.int .i64 x.key), .iface 69 (.agg #[.int .i64 (0), .int .i64 x.glide]), .iface 71 (.agg #[.int .i64 x.delay, .int .i64 x.depth, .int .i64 x.period])] 74 (0, 0))) ∧ Hid (Below w.heap.size w wr)) (fun _ i _ => L - (intOf i).toNat)
        case atStart => exact ⟨0, Nat.zero_le _, rfl, Lib.hid (by simpa [partL] using HR1.out), HP, HW1⟩
        case round =>
          obtain ⟨f, hfl, rfl, HR2, HP2, HB2⟩ := hrel
          by_cases hlt2 : f < L
          · go_wp2_with fail
            have hgi := glideC_in (a := 0) (g := x.glide) (f := (f : Int)) (by omega) (by omega) (by omega) (by omega) (by omega) (by omega)
            have hvi := vibC_in (dl := x.delay) (dp := x.depth) (pr := x.period) (i := (f : Int)) (by omega) (by omega) (by omega) (by omega) (by omega) (by omega) (by omega) (by omega)
            go_loopw [9, 56] (fun t i wr => ∃ k : Nat, k ≤ 3 ∧ i = .int .i64 k ∧ t = .int .i64 (if k = 0 then 0 else if k = 1 then 100 * x.key else if k = 2 then 100 * x.key + glideC (0) x.glide f else 100 * x.key + glideC (0) x.glide f + vibC x.delay x.depth x.period f) ∧ Hid (wr.ownsRow w.heap.size 3 1 u3 (D.length + f) (intV (D ++ partL x.key x f))) ∧ Hid (wr.heap[pb]? = some (.cells #[.iface 67 (.int .i64 x.key), .iface 69 (.agg #[.int .i64 (0), .int .i64 x.glide]), .iface 71 (.agg #[.int .i64 x.delay, .int .i64 x.depth, .int .i64 x.period])] 74 (0, 0))) ∧ Hid (Below w.heap.size w wr)) (fun _ i _ => 3 - (intOf i).toNat)
            case atStart => exact ⟨0, by omega, rfl, rfl, HR2, HP2, HB2⟩
            case round =>
              obtain ⟨k, hk3, rfl, rfl, HR3, HP3, HB3⟩ := hrel
              have hcell : ∀ j u, (#[Value.iface 67 (.int .i64 x.key), .iface 69 (.agg #[.int .i64 (0), .int .i64 x.glide]), .iface 71 (.agg #[.int .i64 x.delay, .int .i64 x.depth, .int .i64 x.period])] : Array Value)[j]? = some u → wr.cell? ⟨pb, j, none⟩ = some u := fun j u h => by simp only [World.cell?, HP3.out]; simpa using h
              have hplt : pb < wr.heap.size := (Array.getElem?_eq_some_iff.1 HP3.out).1
              rcases (show k = 0 ∨ k = 1 ∨ k = 2 ∨ k = 3 by omega) with rfl | rfl | rfl | rfl
              · have e0 := hcell 0 _ rfl
                have H := Lib.hid (fun W => toneCents_any x.key f W (by omega) (by omega))
                clear hcell
                go_wp2_with (show Calls Tryd.prog 74 #[.int .i64 x.key, .int .i64 (f : Int)] _ _; refine (H.out _).mono ?_; rintro e w3 ⟨rfl, rfl⟩)
                go_roundw
                case rel =>
                  first
                    | exact ⟨1, by omega, rfl, by simp, HR3, HP3, HB3⟩
                    | ((repeat apply Exists.intro); refine ⟨?_, rfl⟩; exact ⟨1, by omega, rfl, by simp, HR3, HP3, HB3⟩)
                case measure => simp [intOf]
              · have e1 := hcell 1 _ rfl
                have H := Lib.hid (fun W => glideCents_any (0) x.glide f W (by omega) (by omega) (by omega) (by omega) (by omega) (by omega))
                clear hcell
                go_wp2_with (show Calls Tryd.prog 75 #[.agg _, .int .i64 (f : Int)] _ _; refine (H.out _).mono ?_; rintro e w3 ⟨rfl, hb⟩; have HBB := Lib.hid hb; clear hb)
                go_roundw
                case rel =>
                  first
                    | exact ⟨2, by omega, rfl, by simp; try go_num, Lib.hid (ownsRow_below HR3.out HBB.out), Lib.hid (heap_keep HBB.out HP3.out), Lib.hid (bThen HB3.out HBB.out)⟩
                    | ((repeat apply Exists.intro); refine ⟨?_, rfl⟩; exact ⟨2, by omega, rfl, by simp; try go_num, Lib.hid (ownsRow_below HR3.out HBB.out), Lib.hid (heap_keep HBB.out HP3.out), Lib.hid (bThen HB3.out HBB.out)⟩)
                case measure => simp [intOf]
              · have e2 := hcell 2 _ rfl
                have H := Lib.hid (fun W => vibCents_any x.delay x.depth x.period f W (by omega) (by omega) (by omega) (by omega) (by omega) (by omega) (by omega) (by omega))
                clear hcell
                go_wp2_with (show Calls Tryd.prog 76 #[.agg _, .int .i64 (f : Int)] _ _; refine (H.out _).mono ?_; rintro e w3 ⟨rfl, hb⟩; have HBB := Lib.hid hb; clear hb)
                go_roundw
                case rel =>
                  first
                    | exact ⟨3, by omega, rfl, by simp; try go_num, Lib.hid (ownsRow_below HR3.out HBB.out), Lib.hid (heap_keep HBB.out HP3.out), Lib.hid (bThen HB3.out HBB.out)⟩
                    | ((repeat apply Exists.intro); refine ⟨?_, rfl⟩; exact ⟨3, by omega, rfl, by simp; try go_num, Lib.hid (ownsRow_below HR3.out HBB.out), Lib.hid (heap_keep HBB.out HP3.out), Lib.hid (bThen HB3.out HBB.out)⟩)
                case measure => simp [intOf]
              · clear hcell
                go_wp2_with (at_builtin; go_loud (refine wpList_append_own _ rfl _ _ 25 rfl w.heap.size 3 i3 (.int .i64 0) 1 8 Tryd.underlying25 HI.out hz3 hs3 hb3 rfl (by decide) u3 _ _ rfl (HR3.out.alloc _) ⟨wr.heap.size, 0, none⟩ 1 1 _ rfl (by rfl) (cell_one_new _ _ _) (by simp [Value.oneCell']) (by unfold maxLen; omega) (by omega) (by have := HB3.out.size; simp; omega) ?_); intro v' w5 hown' hgrow _; have HU := Lib.hid (And.intro hown' hgrow); clear hown' hgrow)
                obtain ⟨hown', hgrow⟩ := HU.out
                go_roundw
                case rel =>
                  first
                    | refine ⟨f + 1, by omega, by go_num, Lib.hid ?_, Lib.hid (block_kept hgrow (HR3.out.alloc _) ((Below.heap_alloc _ _ _ hplt).trans HP3.out) (by decide)), Lib.hid (HB3.out.trans ((bAlloc (Below.refl _ _) _ |>.mono HB3.out.size).trans (grown_below hgrow (HR3.out.alloc _) (by have := HB3.out.size; simp; omega))))⟩
                    | ((repeat apply Exists.intro); refine ⟨?_, rfl⟩; refine ⟨f + 1, by omega, by go_num, Lib.hid ?_, Lib.hid (block_kept hgrow (HR3.out.alloc _) ((Below.heap_alloc _ _ _ hplt).trans HP3.out) (by decide)), Lib.hid (HB3.out.trans ((bAlloc (Below.refl _ _) _ |>.mono HB3.out.size).trans (grown_below hgrow (HR3.out.alloc _) (by have := HB3.out.size; simp; omega))))⟩)
                  have h := hown'
                  rw [Nat.add_assoc] at h
                  rw [partL_succ]
                  simpa [intV, centsAt] using h
                case measure => simp [intOf]; omega
          · obtain rfl : f = L := by omega
            go_wp2_with fail
            refine ⟨⟨1, by omega, by go_num, Lib.hid (by rw [← HE.out, HNX.out, List.length_append, partL_len]; exact HR2.out), HB2⟩, ?_⟩
            simp [intOf]; omega
      · obtain ⟨m, hm⟩ : ∃ m, n = m + 1 := ⟨n - 1, by omega⟩
        rw [show n - 1 = m by omega] at p0
        have hsub : (n : Int) - 1 = (m : Int) := by omega
        have hml : m < l.length := by omega
        clear hm h0
        go_wp2_with fail
        generalize hW : World.alloc (World.alloc wr _) _ = W1
        obtain ⟨pb, hpb⟩ : ∃ pb, pb = wr.heap.size + 1 := ⟨_, rfl⟩
        have hp : W1.heap[pb]? = some (.cells #[.iface 67 (.int .i64 x.key), .iface 69 (.agg #[.int .i64 (y.key - x.key), .int .i64 x.glide]), .iface 71 (.agg #[.int .i64 x.delay, .int .i64 x.depth, .int .i64 x.period])] 74 (0, 0)) := by
          rw [← hW, hpb]
          have h := World.alloc_heap_new (wr.alloc (.cells #[.int .i64 x.key, .int .i64 (L : Int), .int .i64 x.glide, .int .i64 x.delay, .int .i64 x.depth, .int .i64 x.period] 30)) (.cells #[.iface 67 (.int .i64 x.key), .iface 69 (.agg #[.int .i64 (y.key - x.key), .int .i64 x.glide]), .iface 71 (.agg #[.int .i64 x.delay, .int .i64 x.depth, .int .i64 x.period])] 74)
          rw [World.size_alloc] at h; exact h
        have hB1 : Below wr.heap.size wr W1 := by rw [← hW]; exact bAlloc (bAlloc (Below.refl _ _) _) _
        have HP := Lib.hid hp
        have HR1 := Lib.hid (ownsRow_below HR.out hB1)
        have HW1 := Lib.hid (bThen HB.out hB1)
        rw [← hpb]
        have HPB := Lib.hid hpb
        clear hW hp hB1 hpb k0 k1 k2 k3 k4 k5 hkb hL
        (try clear p0)
        obtain ⟨wo, hwo⟩ : ∃ wo, wo = wr := ⟨_, rfl⟩
        subst hwo
        go_loopw [3, 51] (fun u i wr => ∃ f : Nat, f ≤ L ∧ i = .int .i64 f ∧ Hid (wr.ownsRow w.heap.size 3 1 u (D.length + f) (intV (D ++ partL y.key x f))) ∧ Hid (wr.heap[pb]? = some (.cells #[.iface 67 (.int .i64 x.key), .iface 69 (.agg #[.int .i64 (y.key - x.key), .int .i64 x.glide]), .iface 71 (.agg #[.int .i64 x.delay, .int .i64 x.depth, .int .i64 x.period])] 74 (0, 0))) ∧ Hid (Below w.heap.size w wr)) (fun _ i _ => L - (intOf i).toNat)
        case atStart => exact ⟨0, Nat.zero_le _, rfl, Lib.hid (by simpa [partL] using HR1.out), HP, HW1⟩
        case round =>
          obtain ⟨f, hfl, rfl, HR2, HP2, HB2⟩ := hrel
          by_cases hlt2 : f < L
          · go_wp2_with fail
            have hgi := glideC_in (a := y.key - x.key) (g := x.glide) (f := (f : Int)) (by omega) (by omega) (by omega) (by omega) (by omega) (by omega)
            have hvi := vibC_in (dl := x.delay) (dp := x.depth) (pr := x.period) (i := (f : Int)) (by omega) (by omega) (by omega) (by omega) (by omega) (by omega) (by omega) (by omega)
            go_loopw [9, 56] (fun t i wr => ∃ k : Nat, k ≤ 3 ∧ i = .int .i64 k ∧ t = .int .i64 (if k = 0 then 0 else if k = 1 then 100 * x.key else if k = 2 then 100 * x.key + glideC (y.key - x.key) x.glide f else 100 * x.key + glideC (y.key - x.key) x.glide f + vibC x.delay x.depth x.period f) ∧ Hid (wr.ownsRow w.heap.size 3 1 u3 (D.length + f) (intV (D ++ partL y.key x f))) ∧ Hid (wr.heap[pb]? = some (.cells #[.iface 67 (.int .i64 x.key), .iface 69 (.agg #[.int .i64 (y.key - x.key), .int .i64 x.glide]), .iface 71 (.agg #[.int .i64 x.delay, .int .i64 x.depth, .int .i64 x.period])] 74 (0, 0))) ∧ Hid (Below w.heap.size w wr)) (fun _ i _ => 3 - (intOf i).toNat)
            case atStart => exact ⟨0, by omega, rfl, rfl, HR2, HP2, HB2⟩
            case round =>
              obtain ⟨k, hk3, rfl, rfl, HR3, HP3, HB3⟩ := hrel
              have hcell : ∀ j u, (#[Value.iface 67 (.int .i64 x.key), .iface 69 (.agg #[.int .i64 (y.key - x.key), .int .i64 x.glide]), .iface 71 (.agg #[.int .i64 x.delay, .int .i64 x.depth, .int .i64 x.period])] : Array Value)[j]? = some u → wr.cell? ⟨pb, j, none⟩ = some u := fun j u h => by simp only [World.cell?, HP3.out]; simpa using h
              have hplt : pb < wr.heap.size := (Array.getElem?_eq_some_iff.1 HP3.out).1
              rcases (show k = 0 ∨ k = 1 ∨ k = 2 ∨ k = 3 by omega) with rfl | rfl | rfl | rfl
              · have e0 := hcell 0 _ rfl
                have H := Lib.hid (fun W => toneCents_any x.key f W (by omega) (by omega))
                clear hcell
                go_wp2_with (show Calls Tryd.prog 74 #[.int .i64 x.key, .int .i64 (f : Int)] _ _; refine (H.out _).mono ?_; rintro e w3 ⟨rfl, rfl⟩)
                go_roundw
                case rel =>
                  first
                    | exact ⟨1, by omega, rfl, by simp, HR3, HP3, HB3⟩
                    | ((repeat apply Exists.intro); refine ⟨?_, rfl⟩; exact ⟨1, by omega, rfl, by simp, HR3, HP3, HB3⟩)
                case measure => simp [intOf]
              · have e1 := hcell 1 _ rfl
                have H := Lib.hid (fun W => glideCents_any (y.key - x.key) x.glide f W (by omega) (by omega) (by omega) (by omega) (by omega) (by omega))
                clear hcell
                go_wp2_with (show Calls Tryd.prog 75 #[.agg _, .int .i64 (f : Int)] _ _; refine (H.out _).mono ?_; rintro e w3 ⟨rfl, hb⟩; have HBB := Lib.hid hb; clear hb)
                go_roundw
                case rel =>
                  first
                    | exact ⟨2, by omega, rfl, by simp; try go_num, Lib.hid (ownsRow_below HR3.out HBB.out), Lib.hid (heap_keep HBB.out HP3.out), Lib.hid (bThen HB3.out HBB.out)⟩
                    | ((repeat apply Exists.intro); refine ⟨?_, rfl⟩; exact ⟨2, by omega, rfl, by simp; try go_num, Lib.hid (ownsRow_below HR3.out HBB.out), Lib.hid (heap_keep HBB.out HP3.out), Lib.hid (bThen HB3.out HBB.out)⟩)
                case measure => simp [intOf]
              · have e2 := hcell 2 _ rfl
                have H := Lib.hid (fun W => vibCents_any x.delay x.depth x.period f W (by omega) (by omega) (by omega) (by omega) (by omega) (by omega) (by omega) (by omega))
                clear hcell
                go_wp2_with (show Calls Tryd.prog 76 #[.agg _, .int .i64 (f : Int)] _ _; refine (H.out _).mono ?_; rintro e w3 ⟨rfl, hb⟩; have HBB := Lib.hid hb; clear hb)
                go_roundw
                case rel =>
                  first
                    | exact ⟨3, by omega, rfl, by simp; try go_num, Lib.hid (ownsRow_below HR3.out HBB.out), Lib.hid (heap_keep HBB.out HP3.out), Lib.hid (bThen HB3.out HBB.out)⟩
                    | ((repeat apply Exists.intro); refine ⟨?_, rfl⟩; exact ⟨3, by omega, rfl, by simp; try go_num, Lib.hid (ownsRow_below HR3.out HBB.out), Lib.hid (heap_keep HBB.out HP3.out), Lib.hid (bThen HB3.out HBB.out)⟩)
                case measure => simp [intOf]
              · clear hcell
                go_wp2_with (at_builtin; go_loud (refine wpList_append_own _ rfl _ _ 25 rfl w.heap.size 3 i3 (.int .i64 0) 1 8 Tryd.underlying25 HI.out hz3 hs3 hb3 rfl (by decide) u3 _ _ rfl (HR3.out.alloc _) ⟨wr.heap.size, 0, none⟩ 1 1 _ rfl (by rfl) (cell_one_new _ _ _) (by simp [Value.oneCell']) (by unfold maxLen; omega) (by omega) (by have := HB3.out.size; simp; omega) ?_); intro v' w5 hown' hgrow _; have HU := Lib.hid (And.intro hown' hgrow); clear hown' hgrow)
                obtain ⟨hown', hgrow⟩ := HU.out
                go_roundw
                case rel =>
                  first
                    | refine ⟨f + 1, by omega, by go_num, Lib.hid ?_, Lib.hid (block_kept hgrow (HR3.out.alloc _) ((Below.heap_alloc _ _ _ hplt).trans HP3.out) (by decide)), Lib.hid (HB3.out.trans ((bAlloc (Below.refl _ _) _ |>.mono HB3.out.size).trans (grown_below hgrow (HR3.out.alloc _) (by have := HB3.out.size; simp; omega))))⟩
                    | ((repeat apply Exists.intro); refine ⟨?_, rfl⟩; refine ⟨f + 1, by omega, by go_num, Lib.hid ?_, Lib.hid (block_kept hgrow (HR3.out.alloc _) ((Below.heap_alloc _ _ _ hplt).trans HP3.out) (by decide)), Lib.hid (HB3.out.trans ((bAlloc (Below.refl _ _) _ |>.mono HB3.out.size).trans (grown_below hgrow (HR3.out.alloc _) (by have := HB3.out.size; simp; omega))))⟩)
                  have h := hown'
                  rw [Nat.add_assoc] at h
                  rw [partL_succ]
                  simpa [intV, centsAt] using h
                case measure => simp [intOf]; omega
          · obtain rfl : f = L := by omega
            go_wp2_with fail
            refine ⟨⟨n + 1, by omega, by go_num, Lib.hid (by rw [← HE.out, HNX.out, List.length_append, partL_len]; exact HR2.out), HB2⟩, ?_⟩
            simp [intOf]; omega
    · obtain rfl : n = l.length := by omega
      go_wp2_with fail
      go_ret
      exact ⟨⟨_, rfl, HR.out⟩, HB.out⟩
end Go.Proofs.YtejcbcjhmnhefabDoor
