/- Contracts: Areas. -/
import Derived.Test.YtbmbcbknoflpgaaJ8
set_option linter.unusedSimpArgs false
set_option linter.unusedVariables false
namespace Go.Proofs.Ytbmbcbknoflpgaa
open Go.RowKit Go.Shelf
attribute [local go_sem] Oper.semAt_some

theorem KpM.putObj {n : Nat} (W : World) (l : Nat) (o o' : Obj) (hn : n ≤ l) (h : W.heap[l]? = some o) (ho : o.isCells = false) : KpM n W (W.putObj l o') := by
  refine ⟨⟨rfl, rfl, rfl, by simp, fun k hk => World.putObj_heap_other (fun e => by omega)⟩, fun k cs t u hk _ => (World.putObj_heap_other (fun e => ?_)).trans hk⟩
  subst e
  rw [h] at hk
  injection hk with hk
  rw [hk] at ho; cases ho
theorem all_areas (rest : List Int) (l : List Ges) (T : Nat) : ∀ j, j < T → ((List.range T).map (arL rest l)).getD j [] = arL rest l j := by
  intro j hj
  rw [List.getD_eq_getElem?_getD, List.getElem?_eq_getElem (by simp; exact hj)]
  simp
theorem as_slice {n n9 T : Nat} {w W : World} {rest : List Int} {l : List Ges} {v : Value} {xs : List Value} (h : AS n w W n9 rest l T v xs) (hT : T ≤ 1000000) (hr : rest.length ≤ 1000) : SliceV W v 1 WaveAt ((List.range T).map (arL rest l)) := by
  have hlen : xs.length = T := by have := h.row.1; omega
  rcases h.row.2 with ⟨rfl, h0⟩ | ⟨g, cap, cur, rfl, _, hb, hc, _, _, hx⟩
  · subst h0
    exact ⟨none, 0, by simp, by simp, .inl rfl⟩
  · refine ⟨_, cap, by simp, ⟨by simp [most]; omega, by simpa using hc⟩, .inr ⟨g, 0, rfl, fun i hi => ?_⟩⟩
    simp only [List.length_map, List.length_range] at hi
    have hxi : xs[i]? = some (xs[i]'(by omega)) := List.getElem?_eq_getElem (by omega)
    obtain ⟨ab, e, hrow⟩ := h.vals i _ hxi
    have hcell : W.cell? ⟨g, 0 + i * 1, none⟩ = some (.slice (some ⟨ab, 0, none⟩) rest.length rest.length) := by
      rw [e] at hxi
      rw [← hx, Nat.mul_one, List.getElem?_take, if_pos hi] at hxi
      simp only [World.cell?, hb]
      simpa using hxi
    simp only [List.getElem_map, List.getElem_range]
    exact ⟨_, hcell, row_slice hrow (by simp [arL]) (fun j hj => by rw [gI hj]) (by unfold most; omega)⟩
/-- What Areas hands back. -/
def AreasPost (rest : List Int) (l : List Ges) (T : Int) (e : Ending) (w' : World) : Prop :=
  ((scoOk rest l = false ∨ T < 0) ∧ e = .returned (.tuple #[.slice none 0 0, .int .i64 2])) ∨
  (scoOk rest l = true ∧ 0 ≤ T ∧ (100000 < T ∨ 200000 < T * rest.length) ∧ e = .returned (.tuple #[.slice none 0 0, .int .i64 4])) ∨
  (scoOk rest l = true ∧ 0 ≤ T ∧ ¬ (100000 < T ∨ 200000 < T * rest.length) ∧ ∃ v, e = .returned (.tuple #[v, .int .i64 0]) ∧ SliceV w' v 1 WaveAt ((List.range T.toNat).map (arL rest l)))
set_option maxRecDepth 100000 in
set_option maxHeartbeats 4000000 in
theorem Areas_any (rest : List Int) (l : List Ges) (T : Int) (va vb : Value) (w : World) (ha : SliceV w va 1 IntAt rest) (hb : SliceV w vb 6 GesAt l) :
    Calls Try.prog 40 #[va, vb, .int .i64 T] w fun e w' => AreasPost rest l T e w' ∧ Below w.heap.size w w' := by
  have HA := Lib.hid ha
  have HBV := Lib.hid hb
  have HR := Lib.hid (fun W (hB : Below w.heap.size w W) => scoreRight_any rest l va vb W (ha.keep IntAt.stable hB) (hb.keep GesAt.stable hB))
  obtain ⟨a, c, rfl, -⟩ := ha
  obtain ⟨b, d, rfl, -⟩ := hb
  have HB1 := Lib.hid (bAlloc (Below.refl w.heap.size w) (.cells #[.slice a rest.length c, .slice b l.length d] 120))
  have C0 : Hid ((w.alloc (.cells #[.slice a rest.length c, .slice b l.length d] 120)).cell? ⟨w.heap.size, 0, none⟩ = some (.slice a rest.length c)) := Lib.hid (cell_new rfl)
  have C1 : Hid ((w.alloc (.cells #[.slice a rest.length c, .slice b l.length d] 120)).cell? ⟨w.heap.size, 1, none⟩ = some (.slice b l.length d)) := Lib.hid (cell_new rfl)
  cases hok : scoOk rest l
  · rw [hok] at HR
    go_enter Try.func40, Try.ntmps40
    go_wp2_with (go_at_call 74; with_reducible refine Calls.mono (HR.out _ HB1.out) ?_; rintro e w1 ⟨rfl, hb⟩; have HB2 := Lib.hid (bThen HB1.out hb); clear hb)
    go_ret2
    exact ⟨.inl ⟨.inl hok, rfl⟩, HB2.out⟩
  · rw [hok] at HR
    by_cases hT : T < 0
    · go_enter Try.func40, Try.ntmps40
      go_wp2_with (go_at_call 74; with_reducible refine Calls.mono (HR.out _ HB1.out) ?_; rintro e w1 ⟨rfl, hb⟩; have HB2 := Lib.hid (bThen HB1.out hb); clear hb)
      go_ret2
      exact ⟨.inl ⟨.inr hT, rfl⟩, HB2.out⟩
    · have p2 := (sco_parts hok).2.1
      have HSL := Lib.hid (fun W => scoreLong_any a rest.length c (.slice b l.length d) T (by omega) p2 W)
      by_cases hL : 100000 < T ∨ 200000 < T * rest.length
      · have hd : (decide (100000 < T) || decide (200000 < T * (rest.length : Int))) = true := by simpa using hL
        rw [hd] at HSL
        clear hd
        go_enter Try.func40, Try.ntmps40
        go_wp2_with (first
          | (go_at_call 74; with_reducible refine Calls.mono (HR.out _ HB1.out) ?_; rintro e w1 ⟨rfl, hb⟩; have HB2 := Lib.hid (bThen HB1.out hb); have d0 := keep hb C0.out; have d1 := keep hb C1.out; have ld := cell_lt d0; clear hb)
          | (go_at_call 75; with_reducible refine Calls.mono (HSL.out _) ?_; rintro e w2 ⟨rfl, hb⟩; have HB3 := Lib.hid (bThen HB2.out hb); clear hb))
        go_ret2
        exact ⟨.inr (.inl ⟨hok, by omega, hL, rfl⟩), HB3.out⟩
      · have hd : (decide (100000 < T) || decide (200000 < T * (rest.length : Int))) = false := by simpa using hL
        rw [hd] at HSL
        clear hd
        obtain ⟨N, rfl⟩ : ∃ N : Nat, T = (N : Int) := ⟨T.toNat, by omega⟩
        have hN : N ≤ 100000 := by omega
        have hmk := makeS0 N (by omega)
        refine (callsIn_wide (n := 6)).1 ?_
        refine callsIn_of_wp_marks Try.func40 rfl trivial ?_ rfl
        simp only [Try.ntmps40, List.size_toArray, List.length_cons, List.length_nil, Nat.reduceAdd, Nat.reduceSub, Array.replicate_succ, Array.replicate_zero, List.push_toArray, List.append_toArray, List.nil_append, List.cons_append]
        gi_wp2_with (first
          | (refine ⟨trivial, ?_⟩; gi_at_call 74; with_reducible refine (callsIn_wide.2 (HR.out _ HB1.out)).mono ?_; rintro e w1 ⟨rfl, hb⟩; have HB2 := Lib.hid (bThen HB1.out hb); have d0 := keep hb C0.out; have d1 := keep hb C1.out; have ld := cell_lt d0; clear hb)
          | (refine ⟨trivial, ?_⟩; gi_at_call 75; with_reducible refine (callsIn_wide.2 (HSL.out _)).mono ?_; rintro e w2 ⟨rfl, hb⟩; have HB3 := Lib.hid (bThen HB2.out hb); have d0 := keep hb d0; have d1 := keep hb d1; have ld := cell_lt d0; clear hb)
          | (refine ⟨trivial, ?_⟩; gi_at_call 76; with_reducible refine (callsIn_wide.2 (moments_any _ _ _ _)).mono ?_; rintro e w3 ⟨rfl, rfl⟩))
        obtain ⟨mm, hmm⟩ : ∃ mm, w2.heap.size = mm := ⟨_, rfl⟩
        obtain ⟨n, hn⟩ : ∃ n, w.heap.size = n := ⟨_, rfl⟩
        have hnm : n ≤ mm := by have := HB3.out.size; omega
        have hown := own_madeS w2 N (by omega)
        rw [hmm] at hown ⊢
        rw [hn]
        generalize hW4 : World.alloc (World.alloc (World.alloc (World.alloc w2 _) _) _) _ = W4
        have hb9 : Boxed W4 (mm + 1) 37 (.slice (some ⟨mm, 0, none⟩) 0 N) := by
          rw [← hW4]
          exact heap_keep (bAlloc (bAlloc (Below.refl _ _) _) _) (bx_new (by rw [World.size_alloc, hmm]))
        have hbs : W4.heap[mm + 2]? = some (.cells #[.slice a rest.length c, .slice b l.length d] 120 (0, 0)) := by
          rw [← hW4]
          have h := World.alloc_heap_new ((w2.alloc (.cells (madeCells #[Value.slice none 0 0] N) 22)).alloc (.cells #[.slice (some ⟨mm, 0, none⟩) 0 N] 37)) (.cells #[.slice a rest.length c, .slice b l.length d] 120)
          rw [World.size_alloc, World.size_alloc, hmm] at h
          exact heap_keep (bAlloc (Below.refl _ _) _) h
        have hbt : Boxed W4 (mm + 3) 3 (.int .i64 (N : Int)) := by
          rw [← hW4]
          exact bx_new (by rw [World.size_alloc, World.size_alloc, World.size_alloc, hmm])
        have hown4 : W4.ownsRow mm 22 1 (.slice (some ⟨mm, 0, none⟩) 0 N) 0 [] := by
          rw [← hW4]
          exact ((hown.alloc _).alloc _).alloc _
        have hlow : Below n w W4 := by
          rw [← hW4, ← hn]
          exact bAlloc' (bAlloc' (bAlloc' (bAlloc' HB3.out (by omega) _) (by simp; omega) _) (by simp; omega) _) (by simp; omega) _
        have hsz : W4.heap.size = mm + 4 := by rw [← hW4]; simp; omega
        clear hW4 hown hmk
        refine wpIn_range_m (P := Try.prog) (n := 6) (by omega) (gf := 98) (lb := #[.pointer (some ⟨mm + 2, 0, none⟩), .pointer (some ⟨mm + 3, 0, none⟩)]) rfl (enters_of Try.func98 (by kernel_rfl) rfl)
          (moments_says 5 rest l N (mm + 2) (mm + 3) n _ _ w W4 hok (by omega) HA.out HBV.out hn hbs hbt hlow (by omega)) (fun h k => h.trans k) (fun W lo o o' hlo ho hc _ => KpM.putObj W lo o o' (by omega) ho hc) (Below.refl _ _) rfl
          (fun t W => ∃ v xs, AS n w W (mm + 1) rest l t v xs ∧ mm ≤ W.heap.size)
          ?hI ?hIm ?h0
          (fun x a' W => ArV rest l x.1 x.2 W ∧ a' = { tmps := #[.slice a rest.length c, .slice b l.length d, .int .i64 (N : Int), undef, undef, undef, .slice none 0 0, .int .i64 0, .pointer (some ⟨n, 0, none⟩), .pointer (some ⟨mm + 1, 0, none⟩), undef, x.2, .slice a rest.length c, .slice b l.length d, .agg #[.slice a rest.length c, .slice b l.length d], .bool (decide ((N : Int) < 0)), .agg #[.slice a rest.length c, .slice b l.length d], .bool true, .bool false, .bool false, .int .i64 (N : Int), .bool (decide ((N : Int) < 0)), .bool (decide ((N : Int) < 0)), .bool false, .agg #[.slice a rest.length c, .slice b l.length d], .int .i64 (N : Int), .bool false, .int .i64 (N : Int), .slice (some ⟨mm, 0, none⟩) 0 N, .agg #[.slice a rest.length c, .slice b l.length d], .int .i64 (N : Int), .func (.func 98) #[] #[.pointer (some ⟨mm + 1 + 1, 0, none⟩), .pointer (some ⟨mm + 1 + 1 + 1, 0, none⟩)], .int .i64 (x.1 : Int), x.2, undef, undef, undef, undef, undef], defers := [] })
          ?hAx ?assign ?body ?done
        case hI =>
          rintro t W W' row ⟨v, xs, h, hz⟩ hg hr
          have kp : ∀ (i : Nat) (cs : Array Value) (ty : TypeId), W.heap[i]? = some (.cells cs ty (0, 0)) → W'.heap[i]? = some (.cells cs ty (0, 0)) := fun i cs ty hi => entry_kept hi rfl hg (fun r e => (hr r e).2)
          exact ⟨v, xs, h.keep (fun i cs ty hi _ => kp i cs ty hi) ((ownFrom_below (B := W4.heap.size) (by omega) (by omega) : OwnFrom W4.heap.size (fun (_ : Unit) W => Below n w W)) () W W' row h.low hg hr), Nat.le_trans hz hg.size⟩
        case hIm =>
          rintro t A B ⟨v, xs, h, hz⟩ hst
          exact ⟨v, xs, h.keep (fun i cs ty hi ht => hst.same _ _ hi (fun cs2 u e => by cases e; rcases ht with h | h | h <;> cases h)) (hst.below h.low (by omega) (by omega)), Nat.le_trans hz hst.size⟩
        case h0 => exact ⟨_, _, ⟨hb9, hown4.mono hnm, fun j x hx => by simp at hx, hlow⟩, by omega⟩
        case hAx =>
          rintro ⟨t, v⟩ a' _ W W' row ⟨h1, h2⟩ hg hr
          exact ⟨h1.keep (fun i cs hi => entry_kept hi rfl hg (fun r e => (hr r e).2)), h2⟩
        case assign =>
          rintro lo t v W K htN hi hv hK
          gi_wp2
          exact hK _ _ (KeepsFrom.refl _ _) ⟨Below.refl _ _, fun _ _ _ _ h _ => h⟩ hi ⟨hv, rfl⟩
        case body =>
          rintro lo t v a' W ⟨u, xs, h, hz⟩ ⟨hv, rfl⟩ htN
          simp only at hv ⊢
          obtain ⟨ab, rfl, hrow⟩ := id hv
          obtain ⟨ad, cap, rfl⟩ := ownsRow_slice h.row
          obtain ⟨i0, z0, hi0, hz0, hzs, hz1, hz2⟩ := info_z infoIs
          have c9 := h.box.cell
          have f9 := h.box.frozen
          have l9 := h.box.lt
          have HH := Lib.hid h
          have HVV := Lib.hid hv
          have HI := Lib.hid hi0
          clear h hv hrow hi0
          gi_wp2_with (gi_at_builtin; refine wpListIn_append_own_at _ rfl _ _ 37 rfl n 22 i0 z0 1 24 Try.underlying37 HI.out hz0 hz1 hz2 hzs (by decide) (.slice ad t cap) t xs rfl (HH.out.row.alloc _) ⟨W.heap.size, 0, none⟩ 1 1 [.slice (some ⟨ab, 0, none⟩) rest.length rest.length] rfl (by rfl) (cell_one_new _ _ _) (by simp [Value.oneCell']) (by unfold maxLen; omega) (by omega) (by simp; omega) ?_; intro v' w2 hown' hgrow _ hblk; obtain ⟨g', cap', rfl⟩ := ownsRow_succ hown'; obtain ⟨hv1, hv2, hr2, hk2, hb2⟩ := Boxed.appended HH.out.box (by decide) HH.out.row (by omega) (by omega) hown' hgrow; have hc1 := hv1.cell; have hf1 := hv1.frozen; have hl1 := hv1.lt; have HU := Lib.hid (And.intro hgrow (And.intro hv2 (And.intro hr2 (And.intro hk2 (And.intro hb2 hv1))))); clear hown' hgrow hblk hv1 hv2 hr2 hk2 hb2)
          obtain ⟨hgrow, hv2, hr2, hk2, hb2, hv1⟩ := HU.out
          have kp : ∀ (i : Nat) (cs : Array Value) (ty : TypeId) (uu : Nat × Nat), W.heap[i]? = some (.cells cs ty uu) → ty ≠ 22 → ty ≠ 37 → (w2.setCell ⟨mm + 1, 0, none⟩ (.slice (some ⟨g', 0, none⟩) (t + 1) cap')).heap[i]? = some (.cells cs ty uu) := by
            intro i cs ty uu hi h1 h2
            have hil := (Array.getElem?_eq_some_iff.1 hi).1
            have e1 : (W.alloc (.cells #[.slice (some ⟨ab, 0, none⟩) rest.length rest.length] 22)).heap[i]? = some (.cells cs ty uu) := heap_keep (bAlloc (Below.refl _ _) _) hi
            have e2 : w2.heap[i]? = some (.cells cs ty uu) := (hgrow.block i (by simp; omega) (fun e => own_ne (HH.out.row.alloc _) e1 (fun cs2 e => by cases e; exact h1 rfl) e.symm)).trans e1
            refine (Below.heap_setCell _ _ _ _ (fun e => ?_)).trans e2
            simp only at e
            subst e
            rw [show w2.heap[mm + 1]? = _ from hv1] at e2
            cases e2
            exact h2 rfl
          refine ⟨hk2.from _, ⟨hb2, fun i cs ty uu hi ht => kp i cs ty uu hi (by rcases ht with h | h | h | h <;> rw [h] <;> decide) (by rcases ht with h | h | h | h <;> rw [h] <;> decide)⟩, ⟨_, _, ⟨hv2, hr2, fun j x hx => ?_, HH.out.low.trans hb2⟩, Nat.le_trans hz hb2.size⟩⟩
          have hlen : xs.length = t := by have := HH.out.row.1; omega
          by_cases hj : j < xs.length
          · rw [List.getElem?_append_left hj] at hx
            exact (HH.out.vals j x hx).keep (fun i cs hi => kp i cs _ _ hi (by decide) (by decide))
          · rw [List.getElem?_append_right (by omega)] at hx
            have hj0 : j - xs.length = 0 := by
              by_cases h0 : j - xs.length = 0
              · exact h0
              · rw [List.getElem?_eq_none (by simp; omega)] at hx; cases hx
            rw [hj0] at hx
            simp at hx
            subst hx
            obtain rfl : j = t := by omega
            exact HVV.out.keep (fun i cs hi => kp i cs _ _ hi (by decide) (by decide))
        case done =>
          rintro D W hD ⟨v, xs, h, hz⟩ hK
          obtain ⟨ad, cap, rfl⟩ := ownsRow_slice h.row
          have c9 := h.box.cell
          have HH := Lib.hid h
          have HKD := Lib.hid hK
          clear h hK
          gi_wp2
          refine ⟨by simp, .inl ⟨_, _, rfl, run_takeDeferred HKD.out, ?_⟩⟩
          have kp : ∀ (i : Nat) (cs : Array Value) (ty : TypeId), W.heap[i]? = some (.cells cs ty (0, 0)) → (W.putObj D (.deferred none)).heap[i]? = some (.cells cs ty (0, 0)) := fun i cs ty hi => entry_kept hi rfl (grownBy_putObj' W D _) (fun r e => by cases e; exact ⟨_, HKD.out, rfl⟩)
          have hB' : Below n w (W.putObj D (.deferred none)) := HH.out.low.trans (belowK_b (w := w) (by omega) W D _ _ (by omega) HKD.out rfl rfl)
          have h2 := as_slice (HH.out.keep (fun i cs ty hi _ => kp i cs ty hi) hB') (by omega) (by omega)
          refine ⟨_, results_tmp2 rfl _ _ _, .inr (.inr ⟨hok, hT, hL, _, rfl, by simpa using h2⟩), by rw [hn]; exact hB'⟩
end Go.Proofs.Ytbmbcbknoflpgaa
