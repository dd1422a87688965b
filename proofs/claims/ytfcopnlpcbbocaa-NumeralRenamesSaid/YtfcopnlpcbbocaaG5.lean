/- Contracts: Read. -/
import Derived.Test.YtfcopnlpcbbocaaG1
set_option linter.unusedSimpArgs false
set_option linter.unusedVariables false
namespace Go.Proofs.Ytfcopnlpcbbocaa
open Go.RowKit

theorem ints_slice {W : World} {base : Nat} {v : Value} {l : List Nat} (h : W.ownsRow base 3 1 v l.length (l.map fun n : Nat => Value.int .i64 (n : Int))) (hl : l.length ≤ 1000000) : SliceV W v 1 IntAt (l.map fun n : Nat => (n : Int)) := by
  by_cases h0 : 0 < l.length
  · obtain ⟨g, cap, rfl, hc⟩ := row_cell h h0
    refine ⟨_, cap, by rw [List.length_map], by rw [List.length_map]; unfold most; omega, .inr ⟨g, 0, rfl, fun i hi => ?_⟩⟩
    refine hc (0 + i * 1) _ ?_
    rw [List.length_map] at hi
    simp [hi]
  · have : l = [] := by cases l; rfl; simp at h0
    subst this
    obtain ⟨ad, cap, rfl⟩ := ownsRow_slice h
    exact ⟨_, cap, rfl, by simp, .inl rfl⟩
theorem scan_ok {S : Sys} {a : Ask} (h : scanErr a [S] = 0) : askOk S a = true ∧ a.num ≤ 20000 := by
  unfold scanErr at h
  simp only [List.all_cons, List.all_nil, Bool.and_true] at h
  split at h
  · split at h
    · omega
    · exact ⟨by assumption, by omega⟩
  · omega
theorem numb_right {S : Sys} {a : Ask} (ha : AskRight S a) {n : Nat} (h : (n : Int) ≤ a.num) : AskRight S (numb a n) :=
  ⟨by simp [numb], by have := ha.top; simp only [numb]; omega, ha.set, ha.gen, ha.kas⟩
/-- The numbers up to one that have the words. -/
def readsTo (S : Sys) (a : Ask) (N : Nat) (ws : List ByteArray) : List Nat := (List.range (N + 1)).filter fun n => decide (wordsOf S (numb a n) = some ws)
def ReadPost (S : Sys) (a : Ask) (ws : List ByteArray) (e : Ending) (w' : World) : Prop :=
  (scanErr a [S] ≠ 0 ∧ e = .returned (.tuple #[.slice none 0 0, .int .i64 (scanErr a [S])])) ∨ (scanErr a [S] = 0 ∧ readsTo S a a.num.toNat ws = [] ∧ e = .returned (.tuple #[.slice none 0 0, .int .i64 5])) ∨
    (scanErr a [S] = 0 ∧ readsTo S a a.num.toNat ws ≠ [] ∧ ∃ v, e = .returned (.tuple #[v, .int .i64 0]) ∧ SliceV w' v 1 IntAt ((readsTo S a a.num.toNat ws).map fun n : Nat => (n : Int)))

theorem cell_1 {w : World} {cs : Array Value} {t j : Nat} {v : Value} {o o' : Obj} (h : cs[j]? = some v) : (((w.alloc (.cells cs t)).alloc o).alloc o').cell? ⟨w.heap.size, j, none⟩ = some v := keep (bAlloc (bAlloc (Below.refl _ _) _) _) (cell_new h)
theorem cell_2 {w : World} {cs : Array Value} {t j : Nat} {v : Value} {o o' : Obj} (h : cs[j]? = some v) : (((w.alloc o).alloc (.cells cs t)).alloc o').cell? ⟨w.heap.size + 1, j, none⟩ = some v := by
  have := keep (bAlloc (Below.refl _ _) o') (cell_new (V := w.alloc o) (t := t) h)
  rwa [World.size_alloc] at this
theorem cell_3 {w : World} {cs : Array Value} {t j : Nat} {v : Value} {o o' : Obj} (h : cs[j]? = some v) : (((w.alloc o).alloc o').alloc (.cells cs t)).cell? ⟨w.heap.size + 1 + 1, j, none⟩ = some v := by
  have := cell_new (V := (w.alloc o).alloc o') (t := t) h
  rwa [World.size_alloc, World.size_alloc] at this

/-- The numbers that have the words, kept. -/
theorem keepRead_any (S : Sys) (a : Ask) (ws : List ByteArray) (N ub bs ba bw sb : Nat) (vw : Value) (w : World) (hN : N ≤ 20000) (hNa : a.num = (N : Int)) (hS : Right S) (ha : AskRight S a) (hu : w.cell? ⟨ub, 0, none⟩ = some (.int .i64 (N : Int)))
    (hs0 : SplAt w sb S) (hcs : w.cell? ⟨bs, 0, none⟩ = some (.pointer (some ⟨sb, 0, none⟩))) (hca : AskAt w ba 0 a) (hcw : w.cell? ⟨bw, 0, none⟩ = some vw) (hvw : SliceV w vw 1 StrAt ws) :
    Calls Try.prog 54 #[.func (.func 84) #[] #[.pointer (some ⟨ub, 0, none⟩)], .func (.func 56) #[] #[.pointer (some ⟨bs, 0, none⟩), .pointer (some ⟨ba, 0, none⟩), .pointer (some ⟨bw, 0, none⟩)]] w fun e w' =>
      (∃ ad cap, e = .returned (.slice ad (readsTo S a N ws).length cap) ∧ SliceV w' (.slice ad (readsTo S a N ws).length cap) 1 IntAt ((readsTo S a N ws).map fun n : Nat => (n : Int))) ∧ Below w.heap.size w w' := by
  have hpred : ∀ n : Nat, n ≤ N → ∀ W', Below w.heap.size w W' → Calls Try.prog 56 (#[.int .i64 (n : Int)] ++ #[.pointer (some ⟨bs, 0, none⟩), .pointer (some ⟨ba, 0, none⟩), .pointer (some ⟨bw, 0, none⟩)]) W' fun e w'' => e = .returned (.bool (decide (wordsOf S (numb a n) = some ws))) ∧ Below W'.heap.size W' w'' := fun n hn W' hB => by
    have h := read1_any S a ws n bs ba bw sb vw W' hS (numb_right ha (by omega)) (hs0.keep hB) (keep hB hcs) (AskAt.stable _ _ _ _ _ hB hca) (keep hB hcw) (hvw.keep StrAt.stable hB)
    have e : (#[Value.int .i64 (n : Int)] ++ #[.pointer (some ⟨bs, 0, none⟩), .pointer (some ⟨ba, 0, none⟩), .pointer (some ⟨bw, 0, none⟩)]) = #[.int .i64 (n : Int), .pointer (some ⟨bs, 0, none⟩), .pointer (some ⟨ba, 0, none⟩), .pointer (some ⟨bw, 0, none⟩)] := by simp
    rw [e]; exact h
  have hent : ∀ args w, (callFunc 56 args).run Try.prog w = .ok (.enter 56 args) w := enters_of Try.func56 (by kernel_rfl) rfl
  have h := keep_any N ub 56 #[.pointer (some ⟨bs, 0, none⟩), .pointer (some ⟨ba, 0, none⟩), .pointer (some ⟨bw, 0, none⟩)] (fun n => decide (wordsOf S (numb a n) = some ws)) w hN hu hent hpred
  refine h.mono ?_
  rintro e w' ⟨⟨v, rfl, hrow⟩, hb⟩
  obtain ⟨ad, cap, rfl⟩ := ownsRow_slice hrow
  have hl : (readsTo S a N ws).length ≤ 1000000 := by
    have := List.length_filter_le (fun n : Nat => decide (wordsOf S (numb a n) = some ws)) (List.range (N + 1))
    rw [List.length_range] at this
    unfold readsTo; omega
  exact ⟨⟨ad, cap, rfl, ints_slice hrow hl⟩, hb⟩

set_option maxRecDepth 100000 in
set_option maxHeartbeats 4000000 in
theorem Read_any (S : Sys) (a : Ask) (ws : List ByteArray) (vt vp vs vw : Value) (w : World) (hp : SysParts w vt vp vs S) (hvw : SliceV w vw 1 StrAt ws) :
    Calls Try.prog 27 #[sysVal S vt vp vs, a.val, vw] w fun e w' => ReadPost S a ws e w' ∧ Below w.heap.size w w' := by
  have HP := Lib.hid hp
  have HV := Lib.hid hvw
  obtain ⟨⟨at_, ct, rfl, -⟩, ⟨ap, cp, rfl, -⟩, ⟨as_, cs, rfl, -⟩⟩ := hp
  obtain ⟨wa, wc, rfl, hwl, -⟩ := hvw
  unfold most at hwl
  unfold sysVal Ask.val
  have hBA : Below w.heap.size w ((((w.alloc (.cells #[.int .i64 S.top, .int .i64 S.genders, .int .i64 S.cases, .int .i64 S.classes, .slice at_ S.terms.length ct, .slice ap S.plurals.length cp, .slice as_ S.sets.length cs] 26)).alloc (.cells #[.int .i64 a.num, .int .i64 a.set, .int .i64 a.gen, .int .i64 a.kas] 36)).alloc (.cells #[.slice wa ws.length wc] 37)).alloc (.cells #[.int .i64 S.top, .int .i64 S.genders, .int .i64 S.cases, .int .i64 S.classes, .slice at_ S.terms.length ct, .slice ap S.plurals.length cp, .slice as_ S.sets.length cs] 26)) := bAlloc (bAlloc (bAlloc (bAlloc (Below.refl _ _) _) _) _) _
  have hcn : ∀ {j : Nat} {v : Value}, _ := fun {j v} h => cell_new (V := ((w.alloc (.cells #[.int .i64 S.top, .int .i64 S.genders, .int .i64 S.cases, .int .i64 S.classes, .slice at_ S.terms.length ct, .slice ap S.plurals.length cp, .slice as_ S.sets.length cs] 26)).alloc (.cells #[.int .i64 a.num, .int .i64 a.set, .int .i64 a.gen, .int .i64 a.kas] 36)).alloc (.cells #[.slice wa ws.length wc] 37)) (cs := #[.int .i64 S.top, .int .i64 S.genders, .int .i64 S.cases, .int .i64 S.classes, .slice at_ S.terms.length ct, .slice ap S.plurals.length cp, .slice as_ S.sets.length cs]) (t := 26) (j := j) (v := v) h
  simp only [World.size_alloc] at hcn
  have h53 : Calls Try.prog 53 #[.agg #[.int .i64 a.num, .int .i64 a.set, .int .i64 a.gen, .int .i64 a.kas], .slice (some ⟨w.heap.size + 1 + 1 + 1, 0, none⟩) 1 1] ((((w.alloc (.cells #[.int .i64 S.top, .int .i64 S.genders, .int .i64 S.cases, .int .i64 S.classes, .slice at_ S.terms.length ct, .slice ap S.plurals.length cp, .slice as_ S.sets.length cs] 26)).alloc (.cells #[.int .i64 a.num, .int .i64 a.set, .int .i64 a.gen, .int .i64 a.kas] 36)).alloc (.cells #[.slice wa ws.length wc] 37)).alloc (.cells #[.int .i64 S.top, .int .i64 S.genders, .int .i64 S.cases, .int .i64 S.classes, .slice at_ S.terms.length ct, .slice ap S.plurals.length cp, .slice as_ S.sets.length cs] 26)) fun e w' => e = .returned (.int .i64 (scanErr a [S])) ∧ Below ((((w.alloc (.cells #[.int .i64 S.top, .int .i64 S.genders, .int .i64 S.cases, .int .i64 S.classes, .slice at_ S.terms.length ct, .slice ap S.plurals.length cp, .slice as_ S.sets.length cs] 26)).alloc (.cells #[.int .i64 a.num, .int .i64 a.set, .int .i64 a.gen, .int .i64 a.kas] 36)).alloc (.cells #[.slice wa ws.length wc] 37)).alloc (.cells #[.int .i64 S.top, .int .i64 S.genders, .int .i64 S.cases, .int .i64 S.classes, .slice at_ S.terms.length ct, .slice ap S.plurals.length cp, .slice as_ S.sets.length cs] 26)).heap.size ((((w.alloc (.cells #[.int .i64 S.top, .int .i64 S.genders, .int .i64 S.cases, .int .i64 S.classes, .slice at_ S.terms.length ct, .slice ap S.plurals.length cp, .slice as_ S.sets.length cs] 26)).alloc (.cells #[.int .i64 a.num, .int .i64 a.set, .int .i64 a.gen, .int .i64 a.kas] 36)).alloc (.cells #[.slice wa ws.length wc] 37)).alloc (.cells #[.int .i64 S.top, .int .i64 S.genders, .int .i64 S.cases, .int .i64 S.classes, .slice at_ S.terms.length ct, .slice ap S.plurals.length cp, .slice as_ S.sets.length cs] 26)) w' :=
    scanError_any a [S] _ _ (one_sys ⟨_, _, _, hcn rfl, hcn rfl, hcn rfl, hcn rfl, hcn rfl, hcn rfl, hcn rfl, HP.out.keep hBA⟩)
  have H53 := Lib.hid h53
  clear h53
  by_cases hz : scanErr a [S] = 0
  · obtain ⟨hok, htop⟩ := scan_ok hz
    obtain ⟨hS, ha⟩ := askRight_of hok
    rw [hz] at H53
    obtain ⟨N, hN⟩ := Int.eq_ofNat_of_zero_le ha.num
    have hN2 : (N : Int) ≤ 20000 := by omega
    have HZ := Lib.hid hz
    have HS := Lib.hid hS
    have HA := Lib.hid ha
    have HNN := Lib.hid hN
    clear hz hS ha hok htop
    have hNt : a.num.toNat = N := by rw [HNN.out]; simp
    have HNT := Lib.hid hNt
    by_cases hemp : readsTo S a N ws = []
    · have hl0 : (((readsTo S a N ws).length : Int) == 0) = true := by simp [hemp]
      have HEM := Lib.hid hemp
      clear hemp hNt
      obtain ⟨W3, hW3⟩ : ∃ W3, W3 = ((w.alloc (.cells #[.int .i64 S.top, .int .i64 S.genders, .int .i64 S.cases, .int .i64 S.classes, .slice at_ S.terms.length ct, .slice ap S.plurals.length cp, .slice as_ S.sets.length cs] 26)).alloc (.cells #[.int .i64 a.num, .int .i64 a.set, .int .i64 a.gen, .int .i64 a.kas] 36)).alloc (.cells #[.slice wa ws.length wc] 37) := ⟨_, rfl⟩
      have s0 : W3.cell? ⟨w.heap.size, 0, none⟩ = some (.int .i64 S.top) := by rw [hW3]; exact cell_1 rfl
      have s1 : W3.cell? ⟨w.heap.size, 1, none⟩ = some (.int .i64 S.genders) := by rw [hW3]; exact cell_1 rfl
      have s2 : W3.cell? ⟨w.heap.size, 2, none⟩ = some (.int .i64 S.cases) := by rw [hW3]; exact cell_1 rfl
      have s3 : W3.cell? ⟨w.heap.size, 3, none⟩ = some (.int .i64 S.classes) := by rw [hW3]; exact cell_1 rfl
      have s4 : W3.cell? ⟨w.heap.size, 4, none⟩ = some (.slice at_ S.terms.length ct) := by rw [hW3]; exact cell_1 rfl
      have s5 : W3.cell? ⟨w.heap.size, 5, none⟩ = some (.slice ap S.plurals.length cp) := by rw [hW3]; exact cell_1 rfl
      have s6 : W3.cell? ⟨w.heap.size, 6, none⟩ = some (.slice as_ S.sets.length cs) := by rw [hW3]; exact cell_1 rfl
      have a0 : W3.cell? ⟨w.heap.size + 1, 0, none⟩ = some (.int .i64 N) := by rw [hW3, ← hN]; exact cell_2 rfl
      have a1 : W3.cell? ⟨w.heap.size + 1, 1, none⟩ = some (.int .i64 a.set) := by rw [hW3]; exact cell_2 rfl
      have a2 : W3.cell? ⟨w.heap.size + 1, 2, none⟩ = some (.int .i64 a.gen) := by rw [hW3]; exact cell_2 rfl
      have a3 : W3.cell? ⟨w.heap.size + 1, 3, none⟩ = some (.int .i64 a.kas) := by rw [hW3]; exact cell_2 rfl
      have v0 : W3.cell? ⟨w.heap.size + 1 + 1, 0, none⟩ = some (.slice wa ws.length wc) := by rw [hW3]; exact cell_3 rfl
      have HW3 := Lib.hid hW3
      clear hW3 hN
      have hs := cell_lt s0
      have ha := cell_lt a0
      have hv := cell_lt v0
      go_enter Try.func27, Try.ntmps27
      go_wp2_with (first
        | (go_at_call 53; refine H53.out.mono ?_; rintro e w1 ⟨rfl, hb1⟩; have HB1 := bThen hBA hb1; have HB31 : Below W3.heap.size W3 w1 := bThen (by rw [HW3.out]; exact bAlloc (Below.refl _ _) _) hb1; clear hb1; have s0 := keep HB31 s0; have s1 := keep HB31 s1; have s2 := keep HB31 s2; have s3 := keep HB31 s3; have s4 := keep HB31 s4; have s5 := keep HB31 s5; have s6 := keep HB31 s6; have a0 := keep HB31 a0; have a1 := keep HB31 a1; have a2 := keep HB31 a2; have a3 := keep HB31 a3; have v0 := keep HB31 v0; have hs := cell_lt s0; have ha := cell_lt a0; have hv := cell_lt v0)
        | (go_at_call 43; refine (newSpeller_any S _ _ _ _ (HP.out.keep HB1)).mono ?_; rintro e w2 ⟨⟨sb, rfl, hspl⟩, hb2⟩; have HSP := Lib.hid hspl; clear hspl; have a0 := keep hb2 a0; have a1 := keep hb2 a1; have a2 := keep hb2 a2; have a3 := keep hb2 a3; have v0 := keep hb2 v0; have ha := cell_lt a0; have hv := cell_lt v0; have HB2 := bThen HB1 hb2; clear hb2)
        | (go_at_call 55; have hx0 : (w2.alloc (.cells #[.pointer (some ⟨sb, 0, none⟩)] 96)).cell? ⟨w2.heap.size, 0, none⟩ = some (.pointer (some ⟨sb, 0, none⟩)) := cell_new rfl; refine (upTo_any (N : Int) _).mono ?_; rintro e w3 ⟨ub, ⟨rfl, hu⟩, hb3⟩; have x0 := keep hb3 hx0; clear hx0; have HB23 : Below w2.heap.size w2 w3 := bThen (bAlloc (Below.refl _ _) _) hb3; clear hb3; have a0 := keep HB23 a0; have a1 := keep HB23 a1; have a2 := keep HB23 a2; have a3 := keep HB23 a3; have v0 := keep HB23 v0; have HB3 := bThen HB2 HB23; have HS3 := Lib.hid (HSP.out.keep HB23); clear HB23)
        | (go_at_call 54; refine (keepRead_any S a ws N ub _ _ _ sb _ w3 (by omega) HNN.out HS.out HA.out hu HS3.out x0 ⟨by rw [HNN.out]; exact a0, a1, a2, a3⟩ v0 (HV.out.keep StrAt.stable HB3)).mono ?_; rintro e w4 ⟨⟨ad, cap, rfl, hsl⟩, hb4⟩; have HSL := Lib.hid hsl; clear hsl; have HB4 := bThen HB3 hb4))
      go_ret2
      exact ⟨.inr (.inl ⟨HZ.out, by rw [HNT.out]; exact HEM.out, rfl⟩), HB4⟩
    · have hl0 : (((readsTo S a N ws).length : Int) == 0) = false := by
        simp only [beq_eq_false_iff_ne, ne_eq]
        intro h
        exact hemp (List.length_eq_zero_iff.1 (by omega))
      have HEM := Lib.hid hemp
      clear hemp hNt
      obtain ⟨W3, hW3⟩ : ∃ W3, W3 = ((w.alloc (.cells #[.int .i64 S.top, .int .i64 S.genders, .int .i64 S.cases, .int .i64 S.classes, .slice at_ S.terms.length ct, .slice ap S.plurals.length cp, .slice as_ S.sets.length cs] 26)).alloc (.cells #[.int .i64 a.num, .int .i64 a.set, .int .i64 a.gen, .int .i64 a.kas] 36)).alloc (.cells #[.slice wa ws.length wc] 37) := ⟨_, rfl⟩
      have s0 : W3.cell? ⟨w.heap.size, 0, none⟩ = some (.int .i64 S.top) := by rw [hW3]; exact cell_1 rfl
      have s1 : W3.cell? ⟨w.heap.size, 1, none⟩ = some (.int .i64 S.genders) := by rw [hW3]; exact cell_1 rfl
      have s2 : W3.cell? ⟨w.heap.size, 2, none⟩ = some (.int .i64 S.cases) := by rw [hW3]; exact cell_1 rfl
      have s3 : W3.cell? ⟨w.heap.size, 3, none⟩ = some (.int .i64 S.classes) := by rw [hW3]; exact cell_1 rfl
      have s4 : W3.cell? ⟨w.heap.size, 4, none⟩ = some (.slice at_ S.terms.length ct) := by rw [hW3]; exact cell_1 rfl
      have s5 : W3.cell? ⟨w.heap.size, 5, none⟩ = some (.slice ap S.plurals.length cp) := by rw [hW3]; exact cell_1 rfl
      have s6 : W3.cell? ⟨w.heap.size, 6, none⟩ = some (.slice as_ S.sets.length cs) := by rw [hW3]; exact cell_1 rfl
      have a0 : W3.cell? ⟨w.heap.size + 1, 0, none⟩ = some (.int .i64 N) := by rw [hW3, ← hN]; exact cell_2 rfl
      have a1 : W3.cell? ⟨w.heap.size + 1, 1, none⟩ = some (.int .i64 a.set) := by rw [hW3]; exact cell_2 rfl
      have a2 : W3.cell? ⟨w.heap.size + 1, 2, none⟩ = some (.int .i64 a.gen) := by rw [hW3]; exact cell_2 rfl
      have a3 : W3.cell? ⟨w.heap.size + 1, 3, none⟩ = some (.int .i64 a.kas) := by rw [hW3]; exact cell_2 rfl
      have v0 : W3.cell? ⟨w.heap.size + 1 + 1, 0, none⟩ = some (.slice wa ws.length wc) := by rw [hW3]; exact cell_3 rfl
      have HW3 := Lib.hid hW3
      clear hW3 hN
      have hs := cell_lt s0
      have ha := cell_lt a0
      have hv := cell_lt v0
      go_enter Try.func27, Try.ntmps27
      go_wp2_with (first
        | (go_at_call 53; refine H53.out.mono ?_; rintro e w1 ⟨rfl, hb1⟩; have HB1 := bThen hBA hb1; have HB31 : Below W3.heap.size W3 w1 := bThen (by rw [HW3.out]; exact bAlloc (Below.refl _ _) _) hb1; clear hb1; have s0 := keep HB31 s0; have s1 := keep HB31 s1; have s2 := keep HB31 s2; have s3 := keep HB31 s3; have s4 := keep HB31 s4; have s5 := keep HB31 s5; have s6 := keep HB31 s6; have a0 := keep HB31 a0; have a1 := keep HB31 a1; have a2 := keep HB31 a2; have a3 := keep HB31 a3; have v0 := keep HB31 v0; have hs := cell_lt s0; have ha := cell_lt a0; have hv := cell_lt v0)
        | (go_at_call 43; refine (newSpeller_any S _ _ _ _ (HP.out.keep HB1)).mono ?_; rintro e w2 ⟨⟨sb, rfl, hspl⟩, hb2⟩; have HSP := Lib.hid hspl; clear hspl; have a0 := keep hb2 a0; have a1 := keep hb2 a1; have a2 := keep hb2 a2; have a3 := keep hb2 a3; have v0 := keep hb2 v0; have ha := cell_lt a0; have hv := cell_lt v0; have HB2 := bThen HB1 hb2; clear hb2)
        | (go_at_call 55; have hx0 : (w2.alloc (.cells #[.pointer (some ⟨sb, 0, none⟩)] 96)).cell? ⟨w2.heap.size, 0, none⟩ = some (.pointer (some ⟨sb, 0, none⟩)) := cell_new rfl; refine (upTo_any (N : Int) _).mono ?_; rintro e w3 ⟨ub, ⟨rfl, hu⟩, hb3⟩; have x0 := keep hb3 hx0; clear hx0; have HB23 : Below w2.heap.size w2 w3 := bThen (bAlloc (Below.refl _ _) _) hb3; clear hb3; have a0 := keep HB23 a0; have a1 := keep HB23 a1; have a2 := keep HB23 a2; have a3 := keep HB23 a3; have v0 := keep HB23 v0; have HB3 := bThen HB2 HB23; have HS3 := Lib.hid (HSP.out.keep HB23); clear HB23)
        | (go_at_call 54; refine (keepRead_any S a ws N ub _ _ _ sb _ w3 (by omega) HNN.out HS.out HA.out hu HS3.out x0 ⟨by rw [HNN.out]; exact a0, a1, a2, a3⟩ v0 (HV.out.keep StrAt.stable HB3)).mono ?_; rintro e w4 ⟨⟨ad, cap, rfl, hsl⟩, hb4⟩; have HSL := Lib.hid hsl; clear hsl; have HB4 := bThen HB3 hb4))
      go_ret2
      exact ⟨.inr (.inr ⟨HZ.out, by rw [HNT.out]; exact HEM.out, _, rfl, by rw [HNT.out]; exact HSL.out⟩), HB4⟩
  · have HZ := Lib.hid hz
    have hz1 : (scanErr a [S] == 0) = false := by simp [hz]
    clear hz
    obtain ⟨err, herr⟩ : ∃ err, scanErr a [S] = err := ⟨_, rfl⟩
    rw [herr] at H53 hz1
    have HE := Lib.hid herr
    clear herr
    go_enter Try.func27, Try.ntmps27
    go_wp2_with (go_at_call 53; refine H53.out.mono ?_; rintro e w1 ⟨rfl, hb1⟩; have HB1 := bThen hBA hb1)
    go_ret2
    exact ⟨.inl ⟨HZ.out, by rw [HE.out]; rfl⟩, HB1⟩
end Go.Proofs.Ytfcopnlpcbbocaa
