/- Contracts: Pulses, Count. -/
import Derived.Test.YtejcbcjhmnhefabDoorD1
set_option linter.unusedSimpArgs false
set_option linter.unusedVariables false
namespace Go.Proofs.YtejcbcjhmnhefabDoor
open Go.RowKit Go.Shelf
attribute [local go_sem] Oper.semAt_some

def freqsOk (rate : Int) (l : List Int) : Bool := betw rate 1 192000 && decide ((l.length : Int) ≤ 400000) && !l.any (fun x => !samOk rate x)
theorem freqsOk_iff {rate : Int} {l : List Int} (h : freqsOk rate l = true) : FreqsOk rate l := by
  simp only [freqsOk, betw, Bool.and_eq_true, decide_eq_true_eq] at h
  refine ⟨h.1.1.1, h.1.1.2, by omega, fun x hx => ?_⟩
  have h2 := h.2
  simp only [Bool.not_eq_true', List.any_eq_false] at h2
  simpa using h2 x hx

set_option maxHeartbeats 1000000 in
theorem samplesRight_any (rate : Int) (l : List Int) (v : Value) (w : World) (hv : SliceV w v 1 IntAt l) :
    Calls Tryd.prog 25 #[.int .i64 rate, v] w fun e w' => e = .returned (.bool (freqsOk rate l)) ∧ Below w.heap.size w w' := by
  have HV := Lib.hid hv
  obtain ⟨a, c, rfl, hl, -⟩ := hv
  unfold most at hl
  have HN := Lib.hid (bAlloc (Below.refl w.heap.size w) (.cells #[.int .i64 rate] 3))
  cases h1 : betw rate 1 192000
  · go_enter Tryd.func25, Tryd.ntmps25
    go_wp2_with (go_at_call 17; refine (between_any _ _ _ _).mono ?_; rintro e w' ⟨rfl, rfl⟩; rw [h1])
    go_ret
    exact ⟨ret_bool (by simp [freqsOk, h1]), HN.out⟩
  · by_cases h2 : (l.length : Int) ≤ 400000
    · have hr := h1
      simp only [betw, Bool.and_eq_true, decide_eq_true_eq] at hr
      have HC := Lib.hid (containsI_any l rate w.heap.size _ _ (HV.out.keep IntAt.stable HN.out) (by omega) (by omega) (cell_new rfl))
      go_enter Tryd.func25, Tryd.ntmps25
      go_wp2_with (first
        | (go_at_call 17; refine (between_any _ _ _ _).mono ?_; rintro e w' ⟨rfl, rfl⟩; rw [h1])
        | (go_at_call 42; refine HC.out.mono ?_; rintro e w1 ⟨rfl, hb⟩; have HB := bThen HN.out hb; clear hb))
      go_ret
      exact ⟨ret_bool (by simp [freqsOk, h1, h2]), HB⟩
    · go_enter Tryd.func25, Tryd.ntmps25
      go_wp2_with (go_at_call 17; refine (between_any _ _ _ _).mono ?_; rintro e w' ⟨rfl, rfl⟩; rw [h1])
      go_ret
      exact ⟨ret_bool (by simp [freqsOk, h1]; omega), HN.out⟩

set_option maxHeartbeats 1000000 in
theorem pulses_any (rate : Int) (a : Option Addr) (n c : Nat) (w : World) :
    Calls Tryd.prog 26 #[.int .i64 rate, .slice a n c] w fun e w' => e = .returned (.func (.func 45) #[] #[.pointer (some ⟨w.heap.size + 1, 0, none⟩), .pointer (some ⟨w.heap.size, 0, none⟩)]) ∧ w' = (w.alloc (.cells #[.int .i64 rate] 3)).alloc (.cells #[.slice a n c] 25) := by
  go_enter Tryd.func26, Tryd.ntmps26
  go_wp2_with fail
  go_ret
  exact ⟨rfl, rfl⟩

theorem row_cell {W : World} {base e size k : Nat} {v : Value} {xs : List Value} (h : W.ownsRow base e size v k xs) (hk : 0 < k) : ∃ g cap, v = .slice (some ⟨g, 0, none⟩) k cap ∧ ∀ j u, xs[j]? = some u → W.cell? ⟨g, j, none⟩ = some u := by
  obtain ⟨hl, ⟨-, h0⟩ | ⟨g, cap, cur, rfl, -, hb, hkc, -, hcs, ht⟩⟩ := h
  · omega
  · refine ⟨g, cap, rfl, fun j u hj => ?_⟩
    rw [← ht] at hj
    have hj2 : cur.toList[j]? = some u := by
      rw [List.getElem?_take] at hj
      split at hj
      · exact hj
      · cases hj
    simp only [World.cell?, hb]
    simpa using hj2
def intsV (l : List Nat) : List Value := l.map fun n : Nat => Value.int .i64 (n : Int)
theorem ints_slice {W : World} {base : Nat} {v : Value} {l : List Nat} (h : W.ownsRow base 3 1 v l.length (intsV l)) (hl : l.length ≤ 1000000) : SliceV W v 1 IntAt (l.map fun n : Nat => (n : Int)) := by
  unfold intsV at h
  by_cases h0 : 0 < l.length
  · obtain ⟨g, cap, rfl, hc⟩ := row_cell h h0
    refine ⟨_, cap, by rw [List.length_map], by rw [List.length_map]; unfold most; omega, .inr ⟨g, 0, rfl, fun i hi => ?_⟩⟩
    refine hc (0 + i * 1) _ ?_
    rw [List.length_map] at hi
    simp [hi]
  · have : l = [] := by cases l; rfl; simp at h0
    subst this
    obtain ⟨ad, cap, rfl⟩ := ownsRow_slice h
    exact ⟨_, cap, rfl, by simp, .inl rfl⟩
theorem KpP.putObj {n : Nat} (W : World) (l : Nat) (o o' : Obj) (hn : n ≤ l) (h : W.heap[l]? = some o) (ho : o.isCells = false) (hw : o.isWalk = false) : KpP n W (W.putObj l o') := by
  have hne : ∀ b t x, Boxed W b t x → b ≠ l := by
    rintro b t x hb rfl
    rw [show W.heap[b]? = _ from hb] at h
    injection h with h
    rw [← h] at ho; cases ho
  exact ⟨fun x hx => (World.putObj_heap_other (fun e => hne _ _ _ hx e)).trans hx, fun x hx => (World.putObj_heap_other (fun e => hne _ _ _ hx e)).trans hx, by
    refine ⟨rfl, rfl, rfl, by simp, fun k hk => World.putObj_heap_other (fun e => by omega)⟩⟩
theorem info3 : (Tryd.prog.info? 3).map (fun i => (i.zero, i.size, i.bytes)) = some (some (.int .i64 0), 1, 8) := by kernel_rfl
def pulV {N : Nat} (pre : List (UpTo N)) : List Value := pre.map fun x => Value.int .i64 (x.1 : Int)
/-- What Pulses hands back. -/
def PulsesPost (rate : Int) (l : List Int) (e : Ending) (w' : World) : Prop :=
  (freqsOk rate l = false ∧ e = .returned (.tuple #[.slice none 0 0, .int .i64 2])) ∨
    (freqsOk rate l = true ∧ ∃ ad c, e = .returned (.tuple #[.slice ad (pulses (1000 * rate) l).length c, .int .i64 0]) ∧ SliceV w' (.slice ad (pulses (1000 * rate) l).length c) 1 IntAt ((pulses (1000 * rate) l).map fun n : Nat => (n : Int)))
set_option maxRecDepth 100000 in
set_option maxHeartbeats 4000000 in
theorem Pulses_any (rate : Int) (l : List Int) (v : Value) (w : World) (hv : SliceV w v 1 IntAt l) :
    Calls Tryd.prog 12 #[.int .i64 rate, v] w fun e w' => PulsesPost rate l e w' ∧ Below w.heap.size w w' := by
  have HV := Lib.hid hv
  have HR := Lib.hid (samplesRight_any rate l v w hv)
  obtain ⟨a, c, rfl, hl, -⟩ := hv
  cases hok : freqsOk rate l
  · rw [hok] at HR
    go_enter Tryd.func12, Tryd.ntmps12
    go_wp2_with (go_at_call 25; refine HR.out.mono ?_; rintro e w1 ⟨rfl, hb⟩)
    go_ret2
    exact ⟨.inl ⟨hok, rfl⟩, hb⟩
  · rw [hok] at HR
    have HOK := Lib.hid (freqsOk_iff hok)
    refine (callsIn_wide (n := 6)).1 ?_
    refine callsIn_of_wp_marks Tryd.func12 rfl trivial ?_ rfl
    simp only [Tryd.ntmps12, List.size_toArray, List.length_cons, List.length_nil, Nat.reduceAdd, Nat.reduceSub, Array.replicate_succ, Array.replicate_zero, List.push_toArray, List.append_toArray, List.nil_append, List.cons_append]
    gi_wp2_with (first
      | (refine ⟨trivial, ?_⟩; gi_at_call 25; refine (callsIn_wide.2 HR.out).mono ?_; rintro e w1 ⟨rfl, hb⟩)
      | (refine ⟨trivial, ?_⟩; gi_at_call 26; refine (callsIn_wide.2 (pulses_any _ _ _ _ _)).mono ?_; rintro e w2 ⟨rfl, rfl⟩))
    obtain ⟨i0, hi, hz0, hz1, hz2⟩ := info_parts info3
    have HI := Lib.hid hi
    clear hi
    obtain ⟨n, hn⟩ : ∃ n, n = w1.heap.size := ⟨_, rfl⟩
    rw [← hn]
    have HB1 := Lib.hid hb
    have HSL := Lib.hid (HV.out.keep IntAt.stable hb)
    generalize hW4 : World.alloc (World.alloc (World.alloc w1 _) _) _ = W4
    have hsz : W4.heap.size = n + 3 := by rw [← hW4, hn]; simp
    have b6 : Boxed W4 n 25 (.slice none 0 0) := by rw [← hW4, hn]; exact ((Boxed.new _ _ _).alloc _).alloc _
    have br : Boxed W4 (n + 1) 3 (.int .i64 rate) := by
      rw [← hW4, hn]
      have h := (Boxed.new (w1.alloc (.cells #[.slice none 0 0] 25)) 3 (.int .i64 rate)).alloc (.cells #[.slice a l.length c] 25)
      rw [World.size_alloc] at h; exact h
    have bs : Boxed W4 (n + 2) 25 (.slice a l.length c) := by
      rw [← hW4, hn]
      have h := Boxed.new ((w1.alloc (.cells #[.slice none 0 0] 25)).alloc (.cells #[.int .i64 rate] 3)) 25 (.slice a l.length c)
      rw [World.size_alloc, World.size_alloc] at h; exact h
    have hB4 : Below n w1 W4 := by rw [← hW4, hn]; exact bAlloc (bAlloc (bAlloc (Below.refl _ _) _) _) _
    clear hW4 hb
    have HN := Lib.hid hn.symm
    clear hn
    have hl4 : l.length ≤ 400000 := HOK.out.2.2.1
    refine wpIn_range_kept (P := Tryd.prog) (n := 6) (by omega) (gf := 45) (lb := #[.pointer (some ⟨n + 2, 0, none⟩), .pointer (some ⟨n + 1, 0, none⟩)]) rfl (enters_of Tryd.func45 (by kernel_rfl) rfl)
      (pulses_says 5 rate l n _ w1 W4 HOK.out HN.out HSL.out bs br hB4) (fun h k => h.trans k) (fun W lo o o' hlo ho hc hw => KpP.putObj W lo o o' (by omega) ho hc hw) (Below.refl _ _) (fun _ => rfl)
      (fun pre W => (∃ v, Boxed W n 25 v ∧ W.ownsRow n 3 1 v pre.length (pulV pre) ∧ v.ownBlock ≠ some (n + 1)) ∧ Boxed W (n + 1) 3 (.int .i64 rate) ∧ Boxed W (n + 2) 25 (.slice a l.length c) ∧ Below n w1 W)
      (fun _ _ => False)
      ?hI ?hIx ?h0
      (fun x a' _ => a' = { tmps := #[.int .i64 rate, .slice a l.length c, undef, undef, .slice none 0 0, .int .i64 0, .pointer (some ⟨n, 0, none⟩), .int .i64 (x.1 : Int), .int .i64 rate, .slice a l.length c, .bool true, .bool false, .int .i64 rate, .slice a l.length c, .func (.func 45) #[] #[.pointer (some ⟨n + 1 + 1, 0, none⟩), .pointer (some ⟨n + 1, 0, none⟩)], .int .i64 (x.1 : Int), undef, undef, undef, undef, undef], defers := [] })
      ?hAx ?assign ?body ?done ?stop
    case hI =>
      refine OwnFrom.and (Own.from (holdsRow_own n n 25 3 1 (fun pre : List (UpTo l.length) => pre.length) (fun pre => pulV pre) (fun _ v => v.ownBlock ≠ some (n + 1))) _) ?_
      exact OwnFrom.and (Own.from (boxed_own _ _ _) _) (OwnFrom.and (Own.from (boxed_own _ _ _) _) (ownFrom_below (by rw [HN.out]; exact Nat.le_refl _) (by omega)))
    case hIx => exact fun _ _ _ _ hs _ _ => hs
    case h0 => exact ⟨⟨_, b6, World.ownsRow_nil _ _ _ _, by simp [Value.ownBlock]⟩, br, bs, hB4⟩
    case hAx => exact fun _ _ _ _ _ _ hs _ _ => hs
    case assign =>
      rintro lo pre x W K hi hK
      gi_wp2
      exact hK _ _ (KeepsFrom.refl _ _) ⟨fun _ h => h, fun _ h => h, Below.refl _ _⟩ hi rfl
    case body =>
      rintro lo pre x a' W ⟨⟨v, v6, hrow, hne⟩, vr, vs, hB⟩ rfl hlen
      obtain ⟨x, hx⟩ := x
      simp only
      have hpl : pre.length ≤ 400000 := by
        have := (pul_prefix (1000 * rate) l l.length).length_le
        have h2 : (pul (1000 * rate) l l.length).length ≤ l.length := by
          rw [← List.length_map (f := Subtype.val), pul_val]; unfold pulses
          exact Nat.le_trans (List.length_filter_le _ _) (by simp)
        omega
      have c6 := v6.cell
      have l6 := v6.lt
      have HV6 := Lib.hid v6
      have HROW := Lib.hid hrow
      have HNE := Lib.hid hne
      have HVR := Lib.hid vr
      have HVS := Lib.hid vs
      have HBX := Lib.hid hB
      clear v6 hrow hne vr vs hB
      gi_wp2_with (gi_at_builtin; go_loud (refine wpListIn_append_own_at _ rfl _ _ 25 rfl n 3 i0 (.int .i64 0) 1 8 Tryd.underlying25 HI.out hz0 hz1 hz2 rfl (by decide) v pre.length (pulV pre) rfl (HROW.out.alloc _) ⟨W.heap.size, 0, none⟩ 1 1 [.int .i64 (x : Int)] rfl (by rfl) (cell_one_new _ _ _) (by simp [Value.oneCell']) (by unfold maxLen; omega) (by omega) (by simp; omega) ?_); intro v' w2 hown' hgrow _ hblk; obtain ⟨g', cap', rfl⟩ := ownsRow_succ hown'; obtain ⟨hv1, hv2, hr2, hk2, hb2⟩ := Boxed.appended HV6.out (by decide) HROW.out (by omega) (by omega) hown' hgrow; have hc1 := hv1.cell; have hf1 := hv1.frozen; have HU := Lib.hid (And.intro (And.intro hown' (And.intro hgrow hblk)) (And.intro hv2 (And.intro hr2 (And.intro hk2 hb2)))); clear hown' hgrow hblk hv1 hv2 hr2 hk2 hb2)
      obtain ⟨⟨hown', hgrow, hblk⟩, hv2, hr2, hk2, hb2⟩ := HU.out
      have hpv : pulV (pre ++ [⟨x, hx⟩]) = pulV pre ++ [.int .i64 (x : Int)] := by simp [pulV]
      have hr3 : ∀ y, Boxed W (n + 1) 3 y → Boxed (w2.setCell ⟨n, 0, none⟩ (.slice (some ⟨g', 0, none⟩) (pre.length + 1) cap')) (n + 1) 3 y := fun y h => ((h.alloc _).kept hgrow (Ne.symm HNE.out)).other (by omega) _
      have hs3 : ∀ y, Boxed W (n + 2) 25 y → Boxed (w2.setCell ⟨n, 0, none⟩ (.slice (some ⟨g', 0, none⟩) (pre.length + 1) cap')) (n + 2) 25 y := fun y h => Boxed.past h (by decide) HROW.out hgrow (by omega) _
      refine ⟨hk2.from _, ⟨hr3, hs3, hb2⟩, ⟨_, hv2, by rw [hpv, List.length_append, List.length_singleton]; exact hr2, ?_⟩, hr3 _ HVR.out, hs3 _ HVS.out, HBX.out.trans hb2⟩
      rcases hblk with h | h
      · rw [h]; exact HNE.out
      · rw [h]; simp; omega
    case done =>
      rintro D W hD ⟨⟨v, v6, hrow, -⟩, vr, vs, hB⟩ hK
      obtain ⟨ad, cap, rfl⟩ := ownsRow_slice hrow
      have c6 := v6.cell
      have HRW := Lib.hid hrow
      have HKD := Lib.hid hK
      have HBX := Lib.hid hB
      clear v6 hrow vr vs hK hB
      gi_wp2
      have hrow' := ownsRow_putObj HRW.out (.deferred none) HKD.out rfl
      have hB' : Below n w1 (W.putObj D (.deferred none)) := HBX.out.trans (belowK_b (w := w1) (by rw [HN.out]; exact Nat.le_refl _) W D _ _ (by have := HN.out; omega) HKD.out rfl rfl)
      refine ⟨by simp, .inl ⟨_, _, rfl, run_takeDeferred HKD.out, ?_⟩⟩
      have e : (pul (1000 * rate) l l.length).length = (pulses (1000 * rate) l).length := by rw [← pul_val, List.length_map]
      have e2 : pulV (pul (1000 * rate) l l.length) = intsV (pulses (1000 * rate) l) := by rw [← pul_val]; simp [pulV, intsV]
      have hlp : (pulses (1000 * rate) l).length ≤ 400000 := by
        unfold pulses
        exact Nat.le_trans (List.length_filter_le _ _) (by simpa using hl4)
      rw [e, e2] at hrow'
      rw [e]
      refine ⟨.tuple #[.slice ad (pulses (1000 * rate) l).length cap, .int .i64 0], ?_, .inr ⟨hok, ad, cap, rfl, ints_slice hrow' (by omega)⟩, HB1.out.trans (hB'.mono (by rw [← HN.out]; exact HB1.out.size))⟩
      simp [results, Tryd.results12, go_sem]
    case stop => rintro D pre W _ _ h _; exact h.elim
end Go.Proofs.YtejcbcjhmnhefabDoor
