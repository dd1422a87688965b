/- Contracts: the samples of pulses. -/
import Derived.Test.YtbmbcbknoflpgaaB2
set_option linter.unusedSimpArgs false
set_option linter.unusedVariables false
namespace Go.Proofs.Ytbmbcbknoflpgaa
open Go.RowKit

theorem own_ne {W : World} {base e size k j : Nat} {v : Value} {xs : List Value} {o : Obj} (h : W.ownsRow base e size v k xs) (hj : W.heap[j]? = some o) (hne : ∀ cs, o ≠ .cells cs e (0, 0)) : v.ownBlock ≠ some j := by
  rcases h.2 with ⟨rfl, _⟩ | ⟨g, cap, cur, rfl, _, hb, _⟩
  · simp [Value.ownBlock]
  · intro e
    obtain rfl : g = j := by simpa [Value.ownBlock] using e
    rw [hb] at hj
    cases hj
    exact hne _ rfl
theorem make0 (n : Nat) (hn : n ≤ 1000000) (W : World) : (Instr.makeSlice 22 (.int .i64 0) (.int .i64 (n : Int))).run Try.prog W = .ok (.slice (some ⟨W.heap.size, 0, none⟩) 0 n) (W.alloc (.cells (madeCells #[Value.int .i64 0] n) 3)) := by
  obtain ⟨i3, hi3, hz3, hs3, hb3⟩ := info_parts infoI
  have h := run_makeSlice (P := Try.prog) (w := W) 22 3 i3 _ Try.underlying22 hi3 hz3 .i64 .i64 (0 : Int) (n : Int) (by omega) (by omega) (by rw [hs3]; omega) (by rw [hb3]; omega) (by omega)
  rw [hs3] at h
  simpa [Value.cells] using h
theorem own_made (W : World) (n : Nat) (hn : n ≤ 1000000) : (W.alloc (.cells (madeCells #[Value.int .i64 0] n) 3)).ownsRow W.heap.size 3 1 (.slice (some ⟨W.heap.size, 0, none⟩) 0 n) 0 (intV []) := by
  obtain ⟨cur, hb, hc, hx⟩ := World.rowIs_made W (.int .i64 0) n 3
  exact ⟨by simp [intV], .inr ⟨W.heap.size, n, cur, rfl, Nat.le_refl _, hb, Nat.zero_le _, by unfold maxLen; omega, by omega, by simp [intV]⟩⟩
theorem cell_of_heap {w : World} {b t n j : Nat} {cs : Array Value} {u : Nat × Nat} (h : w.heap[b]? = some (.cells cs t u)) (hj : j < n) : w.cell? ⟨b, j, none⟩ = cs[j]? := by
  show w.cell? ⟨b, j, none⟩ = _
  unfold World.cell?
  simp [h]
theorem box_grown {w2 w6 : World} {bx base k t : Nat} {v : Value} {xs : List Value} {cs : Array Value} (hx : w2.heap[bx]? = some (.cells cs t (0, 0))) (ho : w2.ownsRow base 3 1 v k xs) (hg : w2.grownBy w6 v.ownBlock) (hne : t ≠ 3) : w6.heap[bx]? = some (.cells cs t (0, 0)) :=
  (hg.block bx (Array.getElem?_eq_some_iff.1 hx).1 (fun e => own_ne ho hx (fun cs e => by cases e; exact hne rfl) e.symm)).trans hx
/-- The first samples of a stretch; all samples. -/
def pulP (g : Glo) (m : Nat) : List Int := (List.range m).map fun (i : Nat) => pls g ((i : Int) % g.len)
def pulL : List Glo → List Int
  | [] => []
  | g :: l => pulP g (g.per * g.len).toNat ++ pulL l
theorem pulP_len (g : Glo) (m : Nat) : (pulP g m).length = m := by simp [pulP]
theorem pulP_snoc (g : Glo) (m : Nat) : pulP g (m + 1) = pulP g m ++ [pls g ((m : Int) % g.len)] := by unfold pulP; rw [range_map_snoc]
theorem pulL_snoc (l : List Glo) (g : Glo) : pulL (l ++ [g]) = pulL l ++ pulP g (g.per * g.len).toNat := by
  induction l with
  | nil => simp [pulL]
  | cons x l ih => simp [pulL, ih]
theorem pulL_len {l : List Glo} (h : l.all gloOk = true) : ((pulL l).length : Int) = smp l := by
  induction l with
  | nil => rfl
  | cons x l ih =>
    simp only [List.all_cons, Bool.and_eq_true] at h
    have h2 := pl_in h.1
    have h3 := ih h.2
    simp only [pulL, List.length_append, pulP_len, smp]
    omega
theorem smp_take {l : List Glo} (h : l.all gloOk = true) (k : Nat) : smp (l.take k) ≤ smp l := by
  have e : smp l = smp (l.take k) + smp (l.drop k) := by
    have ap : ∀ a b : List Glo, smp (a ++ b) = smp a + smp b := fun a b => by
      induction a with
      | nil => simp [smp]
      | cons x a ih => simp only [List.cons_append, smp, ih]; omega
    conv => lhs; rw [← List.take_append_drop k l]
    exact ap _ _
  have hd : (l.drop k).all gloOk = true := by
    rw [List.all_eq_true] at h ⊢
    exact fun x hx => h x (List.mem_of_mem_drop hx)
  have := (smp_in hd).1
  omega
set_option maxRecDepth 10000 in
set_option maxHeartbeats 4000000 in
theorem pulses_any (l : List Glo) (v : Value) (w : World) (hv : SliceV w v 4 GloAt l) (hl : l.length ≤ 200) (hg : l.all gloOk = true) (h5 : smp l ≤ 100000) :
    Calls Try.prog 79 #[v] w fun e w' => (∃ r, e = .returned r ∧ SliceV w' r 1 IntAt (pulL l)) ∧ Below w.heap.size w w' := by
  have HV := Lib.hid hv
  have HG := Lib.hid hg
  have HSO := Lib.hid (samplesOf_any l v w hv hl hg)
  obtain ⟨a, c, rfl, hl2, -⟩ := hv
  obtain ⟨i3, hi, hz0, hz1, hz2⟩ := info_parts infoI
  have HI := Lib.hid hi
  have hsm := smp_in hg
  have HPL := Lib.hid (pulL_len hg)
  obtain ⟨N, hN⟩ : ∃ N : Nat, smp l = (N : Int) := ⟨(smp l).toNat, by omega⟩
  rw [hN] at HSO HPL hsm h5
  have hN5 : N ≤ 100000 := by omega
  have HN5 := Lib.hid hN5
  have HSN := Lib.hid hN
  have HHL := Lib.hid hl
  have hN4 : N ≤ 1000000 := by omega
  have HN4 := Lib.hid hN4
  have hmk := fun W => make0 N hN4 W
  clear hg hl2 hi hN hsm h5 hN5
  go_enter Try.func79, Try.ntmps79
  go_wp2_with (go_at_call 78; with_reducible refine Calls.mono HSO.out ?_; rintro e w1 ⟨rfl, hb⟩; have HB1 := Lib.hid hb; have hmk1 := hmk w1; have HOW := Lib.hid (own_made w1 N hN4); have HB2 := Lib.hid (bAlloc hb (.cells (madeCells #[Value.int .i64 0] N) 3)); have hsz := hb.size; clear hb)
  have HOW2 : Hid (World.ownsRow (World.alloc w1 (.cells (madeCells #[Value.int .i64 0] N) 3)) w.heap.size 3 1 (.slice (some ⟨w1.heap.size, 0, none⟩) 0 N) 0 (intV [])) := Lib.hid (HOW.out.mono hsz)
  clear hmk hmk1 HOW hsz
  generalize World.alloc w1 _ = W2 at *
  go_loopw [3, 12] (fun o i wr => ∃ k : Nat, k ≤ l.length ∧ i = .int .i64 k ∧ Hid (wr.ownsRow w.heap.size 3 1 o (pulL (l.take k)).length (intV (pulL (l.take k)))) ∧ Hid (Below w.heap.size w wr)) (fun _ i _ => l.length - (intOf i).toNat)
  case atStart => exact ⟨0, Nat.zero_le _, rfl, HOW2, HB2⟩
  case round =>
    obtain ⟨k, hk, rfl, HR, HB⟩ := hrel
    by_cases hlt : k < l.length
    · obtain ⟨b, o, rfl, hf⟩ := (HV.out.keep GloAt.stable HB.out).at (by intro h; simp [h] at hlt)
      obtain ⟨k0, k1, k2, k3⟩ := hf k hlt
      have HT : Hid (pulL (l.take (k + 1)) = pulL (l.take k) ++ pulP l[k] (l[k].per * l[k].len).toNat) := Lib.hid (by rw [take_succ l k hlt, pulL_snoc])
      have hkk : (k : Int) < (l.length : Int) := by omega
      have hgx := List.all_eq_true.1 HG.out _ (List.getElem_mem hlt)
      have hp := pl_in hgx
      have hi2 := glo_in hgx
      have hs := pulL_len (all_take HG.out k)
      have hs1 := smp_take HG.out (k + 1)
      have hs2 : smp (l.take (k + 1)) = smp (l.take k) + l[k].per * l[k].len := by rw [take_succ l k hlt, smp_snoc]
      clear hf
      have HGX := Lib.hid hgx
      clear hgx
      generalize l[k] = x at *
      unfold IntAt at k0 k1 k2 k3
      have hkb := cell_lt k0
      have hN4 := HN5.out
      have hsn := HSN.out
      rw [hsn] at hs1
      obtain ⟨S, hS⟩ : ∃ S, pulL (l.take k) = S := ⟨_, rfl⟩
      rw [hS] at HR HT hs
      obtain ⟨xp, xl, xo, xh⟩ := x
      simp only at k0 k1 k2 k3 hs2 hp hi2 HT
      obtain ⟨p, hpp⟩ : ∃ p : Nat, xp * xl = (p : Int) := ⟨(xp * xl).toNat, by omega⟩
      rw [hpp] at hp hs2 HT
      rw [show ((p : Int)).toNat = p by omega] at HT
      have u1 : IntKind.i64.wrap (xp * xl) = p := by rw [hpp]; exact IntWalk.i64_in _ (by omega)
      have hsum : S.length + p ≤ 100000 := by omega
      have HSUM := Lib.hid hsum
      have HI2 := Lib.hid hi2
      clear hpp hS hs hs1 hs2 hsn hi2 hp hsum
      have hbsz := HB.out.size
      have hrow := HR.out
      obtain ⟨ad, cap, rfl⟩ := ownsRow_slice hrow
      clear hrow
      have HR1 : Hid (World.ownsRow (wr.alloc (.cells #[.int .i64 xp, .int .i64 xl, .int .i64 xo, .int .i64 xh] 103)) w.heap.size 3 1 (.slice ad S.length cap) S.length (intV S)) := Lib.hid (HR.out.alloc _)
      have HBX0 : Hid ((wr.alloc (.cells #[.int .i64 xp, .int .i64 xl, .int .i64 xo, .int .i64 xh] 103)).heap[wr.heap.size]? = some (.cells #[.int .i64 xp, .int .i64 xl, .int .i64 xo, .int .i64 xh] 103 (0, 0))) := Lib.hid (World.alloc_heap_new wr _)
      have HB3 : Hid (Below w.heap.size w (wr.alloc (.cells #[.int .i64 xp, .int .i64 xl, .int .i64 xo, .int .i64 xh] 103))) := Lib.hid (bAlloc HB.out _)
      go_wp2_with fail
      generalize World.alloc wr _ = W3 at *
      obtain ⟨bx, hbx⟩ : ∃ bx, wr.heap.size = bx := ⟨_, rfl⟩
      rw [hbx] at HBX0 ⊢
      clear hbx k0 k1 k2 k3 hkb hbsz u1
      go_loopw [3, 21] (fun o i wi => ∃ j : Nat, j ≤ p ∧ i = .int .i64 j ∧ Hid (wi.ownsRow w.heap.size 3 1 o (S.length + j) (intV (S ++ pulP ⟨xp, xl, xo, xh⟩ j))) ∧ Hid (wi.heap[bx]? = some (.cells #[.int .i64 xp, .int .i64 xl, .int .i64 xo, .int .i64 xh] 103 (0, 0))) ∧ Hid (Below w.heap.size w wi)) (fun _ i _ => p - (intOf i).toNat)
      case atStart => exact ⟨0, Nat.zero_le _, rfl, Lib.hid (by simpa [pulP] using HR1.out), HBX0, HB3⟩
      case round =>
        obtain ⟨j, hj, rfl, HRJ, HBX, HBJ⟩ := hrel
        by_cases hjp : j < p
        · have hi2 := HI2.out
          have hjj : (j : Int) < (p : Int) := by omega
          have HSN : Hid (pulP ⟨xp, xl, xo, xh⟩ (j + 1) = pulP ⟨xp, xl, xo, xh⟩ j ++ [pls ⟨xp, xl, xo, xh⟩ ((j : Int) % xl)]) := Lib.hid (pulP_snoc _ _)
          have hm1 := Int.emod_nonneg (j : Int) (show xl ≠ 0 by omega)
          have hm2 := Int.emod_lt_of_pos (j : Int) (show 0 < xl by omega)
          obtain ⟨m, hm⟩ : ∃ m, (j : Int) % xl = m := ⟨_, rfl⟩
          rw [hm] at hm1 hm2 HSN
          have v5 : ¬ xl = 0 := by omega
          have v6 : (xl == 0) = false := by simp; omega
          have v7 : (j : Int).tmod xl = m := by rw [Int.tmod_eq_emod_of_nonneg (by omega), hm]
          have v9 : IntKind.i64.wrap m = m := IntWalk.i64_in _ (by omega)
          have HPU := Lib.hid (fun W => pulse_any ⟨xp, xl, xo, xh⟩ m W HGX.out hm1)
          simp only at HPU
          obtain ⟨y, hy⟩ : ∃ y, pls ⟨xp, xl, xo, xh⟩ m = y := ⟨_, rfl⟩
          rw [hy] at HPU HSN
          have e0 := cell_of_heap HBX.out (show 0 < 4 by omega)
          have e1 := cell_of_heap HBX.out (show 1 < 4 by omega)
          have e2 := cell_of_heap HBX.out (show 2 < 4 by omega)
          have e3 := cell_of_heap HBX.out (show 3 < 4 by omega)
          simp at e0 e1 e2 e3
          have hbl := cell_lt e0
          have hsz := HBJ.out.size
          have hrow := HRJ.out
          obtain ⟨ad, cap, rfl⟩ := ownsRow_slice hrow
          clear hrow hm hy hi2
          have HK : Hid (∀ X : World, X.heap[bx]? = some (.cells #[.int .i64 xp, .int .i64 xl, .int .i64 xo, .int .i64 xh] 103 (0, 0)) → (X.cell? ⟨bx, 0, none⟩ = some (.int .i64 xp) ∧ X.cell? ⟨bx, 1, none⟩ = some (.int .i64 xl) ∧ X.cell? ⟨bx, 2, none⟩ = some (.int .i64 xo) ∧ X.cell? ⟨bx, 3, none⟩ = some (.int .i64 xh))) := Lib.hid (fun X h => by
            have f0 := cell_of_heap h (show 0 < 4 by omega)
            have f1 := cell_of_heap h (show 1 < 4 by omega)
            have f2 := cell_of_heap h (show 2 < 4 by omega)
            have f3 := cell_of_heap h (show 3 < 4 by omega)
            simp at f0 f1 f2 f3
            exact ⟨f0, f1, f2, f3⟩)
          have hs2 := HSUM.out
          go_wp2_with fail
          go_region_held3 (fun X => (X.cell? ⟨bx, 0, none⟩ = some (.int .i64 xp) ∧ X.cell? ⟨bx, 1, none⟩ = some (.int .i64 xl) ∧ X.cell? ⟨bx, 2, none⟩ = some (.int .i64 xo) ∧ X.cell? ⟨bx, 3, none⟩ = some (.int .i64 xh))) (((try dsimp only); exact HK.out _ (by first | exact HBX.out | exact hx6 | exact hx2 | exact heap_keep (bAlloc (Below.refl _ _) _) hx2))) (first
            | (go_at_call 103; with_reducible refine Calls.mono (HPU.out _) ?_; rintro e w2 ⟨rfl, hb2⟩; have hx2 := heap_keep hb2 HBX.out; have hB2 := bThen (Below.drew HBJ.out) hb2; have hR2 := ownsRow_below (HRJ.out.drew) hb2; have hzz := hB2.size)
            | (refine step_append_lies _ (by rfl) _ _ _ (by rfl) w.heap.size 3 i3 _ 1 8 Try.underlying22 HI.out hz0 hz1 hz2 rfl (by decide) (.slice ad (S.length + j) cap) (S.length + j) _ (by rfl) (hR2.alloc (.cells #[.int .i64 y] 3)) ⟨w2.heap.size, 0, none⟩ 1 1 [.int .i64 y] (by rfl) (by rfl) (World.news_of_block (World.alloc_heap_new w2 (.cells #[.int .i64 y] 3))) (by simp [Value.oneCell']) (by omega) (by unfold maxLen; omega) (by omega) (by simp; omega) (w2.heap.size + 1) (by simp) ?_; intro g6 cap6 w6 hown hgrow hat6 hlt6; have hb6 : Below w.heap.size w w6 := (bAlloc hB2 _).trans (below_grown hgrow (hR2.alloc _) (by simp; omega)); have hx6 := box_grown (heap_keep (bAlloc (Below.refl _ _) _) hx2) (hR2.alloc _) hgrow (by decide)))
          have HR6 : Hid (w6.ownsRow w.heap.size 3 1 (.slice (some ⟨g6, 0, none⟩) (S.length + j + 1) cap6) (S.length + (j + 1)) (intV (S ++ pulP ⟨xp, xl, xo, xh⟩ (j + 1)))) := Lib.hid (by rw [HSN.out, ← List.append_assoc, intV_append, ← Nat.add_assoc]; exact hown)
          have HB6 := Lib.hid hb6
          have HX6 := Lib.hid hx6
          go_wp2_with fail
          go_roundw
          case rel =>
            first
              | exact ⟨j + 1, by omega, by go_num, HR6, HX6, HB6⟩
              | ((repeat apply Exists.intro); refine ⟨?_, rfl⟩; exact ⟨j + 1, by omega, by go_num, HR6, HX6, HB6⟩)
          case measure => simp [intOf]; omega
        · obtain rfl : j = p := by omega
          go_wp2_with fail
          go_roundw
          case rel => exact ⟨k + 1, by omega, by go_num, Lib.hid (by rw [HT.out, List.length_append, pulP_len]; exact HRJ.out), HBJ⟩
          case measure => simp [intOf]; omega
    · obtain rfl : k = l.length := by omega
      rw [List.take_length] at HR
      have hN4 := HN5.out
      go_wp2_with fail
      go_ret
      exact ⟨⟨_, rfl, own_slice (base := w.heap.size) HR.out (by have := HPL.out; omega)⟩, HB.out⟩
end Go.Proofs.Ytbmbcbknoflpgaa
