/- Contracts: the numbers for which a rule is used. -/
import Derived.Test.YtfcopnlpcbbocaaR19
set_option linter.unusedSimpArgs false
set_option linter.unusedVariables false
namespace Go.Proofs.Ytfcopnlpcbbocaa
open Go.RowKit

set_option maxRecDepth 100000 in
set_option maxHeartbeats 4000000 in
theorem uses1_any (S : Sys) (a : Ask) (K : Nat) (n set rule : Int) (bs ba bx bt sb : Nat) (W : World) (hS : Right S) (ha : AskRight S (numb a n)) (hK : n < K) (hs0 : SplAt W sb S)
    (hcs : W.cell? ⟨bs, 0, none⟩ = some (.pointer (some ⟨sb, 0, none⟩))) (hca : AskAt W ba 0 a) (hcx : W.cell? ⟨bx, 0, none⟩ = some (.int .i64 set)) (hct : W.cell? ⟨bt, 0, none⟩ = some (.int .i64 rule)) :
    Calls Try.prog 63 #[.int .i64 n, .pointer (some ⟨bs, 0, none⟩), .pointer (some ⟨ba, 0, none⟩), .pointer (some ⟨bx, 0, none⟩), .pointer (some ⟨bt, 0, none⟩)] W fun e w' => e = .returned (.bool (usedF K S (numb a n) set rule)) ∧ Below W.heap.size W w' := by
  have HSP := Lib.hid hs0
  obtain ⟨a0, a1, a2, a3⟩ := hca
  simp only [Nat.zero_add] at a1 a2 a3
  have hbs := cell_lt hcs
  have hbx := cell_lt hcx
  have hbt := cell_lt hct
  have hba := cell_lt a0
  have h57 : ∀ W', Calls Try.prog 57 #[.agg #[.int .i64 a.num, .int .i64 a.set, .int .i64 a.gen, .int .i64 a.kas], .int .i64 n] W' fun e w' => e = .returned (.agg #[.int .i64 n, .int .i64 a.set, .int .i64 a.gen, .int .i64 a.kas]) ∧ Below W'.heap.size W' w' := fun W' => numbered_any a n W'
  have h64 : ∀ W', Below W.heap.size W W' → Calls Try.prog 64 #[.pointer (some ⟨sb, 0, none⟩), .agg #[.int .i64 n, .int .i64 a.set, .int .i64 a.gen, .int .i64 a.kas], .int .i64 set, .int .i64 rule] W' fun e w' => e = .returned (.bool (usedF K S (numb a n) set rule)) ∧ Below W'.heap.size W' w' := fun W' hB => uses_any S hS sb set rule K (numb a n) W' ha hK (HSP.out.keep hB)
  have HK1 : ∀ W', Below W.heap.size W W' → (W'.cell? ⟨bs, 0, none⟩ = some (.pointer (some ⟨sb, 0, none⟩)) ∧ W'.cell? ⟨ba, 0, none⟩ = some (.int .i64 a.num) ∧ W'.cell? ⟨ba, 1, none⟩ = some (.int .i64 a.set) ∧ W'.cell? ⟨ba, 2, none⟩ = some (.int .i64 a.gen) ∧ W'.cell? ⟨ba, 3, none⟩ = some (.int .i64 a.kas) ∧ W'.cell? ⟨bx, 0, none⟩ = some (.int .i64 set) ∧ W'.cell? ⟨bt, 0, none⟩ = some (.int .i64 rule)) :=
    fun W' hB => ⟨keep hB hcs, keep hB a0, keep hB a1, keep hB a2, keep hB a3, keep hB hcx, keep hB hct⟩
  have H57 := Lib.hid h57
  have H64 := Lib.hid h64
  have HK4 := Lib.hid HK1
  clear h57 h64 HK1 ha hs0
  generalize usedF K S (numb a n) set rule = u at *
  go_enter Try.func63, Try.ntmps63
  go_wp2_with fail
  refine wp_opaque fun Q2 hQ2 => ?_
  go_region_held3 (fun W' => (W'.cell? ⟨bs, 0, none⟩ = some (.pointer (some ⟨sb, 0, none⟩)) ∧ W'.cell? ⟨ba, 0, none⟩ = some (.int .i64 a.num) ∧ W'.cell? ⟨ba, 1, none⟩ = some (.int .i64 a.set) ∧ W'.cell? ⟨ba, 2, none⟩ = some (.int .i64 a.gen) ∧ W'.cell? ⟨ba, 3, none⟩ = some (.int .i64 a.kas) ∧ W'.cell? ⟨bx, 0, none⟩ = some (.int .i64 set) ∧ W'.cell? ⟨bt, 0, none⟩ = some (.int .i64 rule))) (((try dsimp only); exact HK4.out _ (by (repeat (first | exact Below.refl _ _ | refine Below.drew ?_ | refine bThen ?_ hb4 | refine bThen ?_ hb3))))) (first | (go_at_call 57; refine (H57.out _).mono ?_; rintro e w3 ⟨rfl, hb3⟩) | (go_at_call 64; refine (H64.out _ (by (repeat (first | exact Below.refl _ _ | refine Below.drew ?_ | refine bThen ?_ hb3)))).mono ?_; rintro e w4 ⟨rfl, hb4⟩))
  all_goals
    have HBF : Below W.heap.size W w4 := by (repeat (first | exact Below.refl _ _ | refine Below.drew ?_ | refine bThen ?_ hb4 | refine bThen ?_ hb3))
    refine hQ2 _ _ _ ?_
    go_wp2_with fail
    go_ret
    exact ⟨rfl, HBF⟩

/-- The numbers for which a rule is used, kept. -/
theorem keepUses_any (S : Sys) (a : Ask) (N ub bs ba bx bt sb : Nat) (set rule : Int) (w : World) (hN : N ≤ 20000) (hNa : a.num = (N : Int)) (hS : Right S) (ha : AskRight S a) (hu : w.cell? ⟨ub, 0, none⟩ = some (.int .i64 (N : Int)))
    (hs0 : SplAt w sb S) (hcs : w.cell? ⟨bs, 0, none⟩ = some (.pointer (some ⟨sb, 0, none⟩))) (hca : AskAt w ba 0 a) (hcx : w.cell? ⟨bx, 0, none⟩ = some (.int .i64 set)) (hct : w.cell? ⟨bt, 0, none⟩ = some (.int .i64 rule)) :
    Calls Try.prog 54 #[.func (.func 84) #[] #[.pointer (some ⟨ub, 0, none⟩)], .func (.func 63) #[] #[.pointer (some ⟨bs, 0, none⟩), .pointer (some ⟨ba, 0, none⟩), .pointer (some ⟨bx, 0, none⟩), .pointer (some ⟨bt, 0, none⟩)]] w fun e w' =>
      (∃ ad cap, e = .returned (.slice ad (usesTo S a N set rule).length cap) ∧ SliceV w' (.slice ad (usesTo S a N set rule).length cap) 1 IntAt ((usesTo S a N set rule).map fun n : Nat => (n : Int))) ∧ Below w.heap.size w w' := by
  have hpred : ∀ n : Nat, n ≤ N → ∀ W', Below w.heap.size w W' → Calls Try.prog 63 (#[.int .i64 (n : Int)] ++ #[.pointer (some ⟨bs, 0, none⟩), .pointer (some ⟨ba, 0, none⟩), .pointer (some ⟨bx, 0, none⟩), .pointer (some ⟨bt, 0, none⟩)]) W' fun e w'' => e = .returned (.bool (usedF (a.num.toNat + 1) S (numb a n) set rule)) ∧ Below W'.heap.size W' w'' := fun n hn W' hB => by
    have h := uses1_any S a (a.num.toNat + 1) n set rule bs ba bx bt sb W' hS (numb_right ha (by omega)) (by omega) (hs0.keep hB) (keep hB hcs) (AskAt.stable _ _ _ _ _ hB hca) (keep hB hcx) (keep hB hct)
    have e : (#[Value.int .i64 (n : Int)] ++ #[.pointer (some ⟨bs, 0, none⟩), .pointer (some ⟨ba, 0, none⟩), .pointer (some ⟨bx, 0, none⟩), .pointer (some ⟨bt, 0, none⟩)]) = #[.int .i64 (n : Int), .pointer (some ⟨bs, 0, none⟩), .pointer (some ⟨ba, 0, none⟩), .pointer (some ⟨bx, 0, none⟩), .pointer (some ⟨bt, 0, none⟩)] := by simp
    rw [e]; exact h
  have hent : ∀ args w, (callFunc 63 args).run Try.prog w = .ok (.enter 63 args) w := enters_of Try.func63 (by kernel_rfl) rfl
  have h := keep_any N ub 63 #[.pointer (some ⟨bs, 0, none⟩), .pointer (some ⟨ba, 0, none⟩), .pointer (some ⟨bx, 0, none⟩), .pointer (some ⟨bt, 0, none⟩)] (fun n => usedF (a.num.toNat + 1) S (numb a n) set rule) w hN hu hent hpred
  refine h.mono ?_
  rintro e w' ⟨⟨v, rfl, hrow⟩, hb⟩
  obtain ⟨ad, cap, rfl⟩ := ownsRow_slice hrow
  have hl : (usesTo S a N set rule).length ≤ 1000000 := by
    have := List.length_filter_le (fun n : Nat => usedF (a.num.toNat + 1) S (numb a n) set rule) (List.range (N + 1))
    rw [List.length_range] at this
    unfold usesTo; omega
  exact ⟨⟨ad, cap, rfl, ints_slice hrow hl⟩, hb⟩

/-- Is there such a rule? -/
def hasRule (S : Sys) (set rule : Int) : Bool := exst set S.sets.length && exst rule (setOf S set).length
def UsesPost (S : Sys) (a : Ask) (set rule : Int) (e : Ending) (w' : World) : Prop :=
  (hasRule S set rule = false ∧ e = .returned (.tuple #[.slice none 0 0, .int .i64 2])) ∨ (hasRule S set rule = true ∧ scanErr a [S] ≠ 0 ∧ e = .returned (.tuple #[.slice none 0 0, .int .i64 (scanErr a [S])])) ∨
    (hasRule S set rule = true ∧ scanErr a [S] = 0 ∧ ∃ ad c, e = .returned (.tuple #[.slice ad (usesTo S a a.num.toNat set rule).length c, .int .i64 0]) ∧ SliceV w' (.slice ad (usesTo S a a.num.toNat set rule).length c) 1 IntAt ((usesTo S a a.num.toNat set rule).map fun n : Nat => (n : Int)))
set_option maxRecDepth 100000 in
set_option maxHeartbeats 4000000 in
theorem Uses_any (S : Sys) (a : Ask) (set rule : Int) (vt vp vs : Value) (w : World) (hp : SysParts w vt vp vs S) :
    Calls Try.prog 36 #[sysVal S vt vp vs, a.val, .int .i64 set, .int .i64 rule] w fun e w' => UsesPost S a set rule e w' ∧ Below w.heap.size w w' := by
  have HP := Lib.hid hp
  obtain ⟨⟨at_, ct, rfl, -⟩, ⟨ap, cp, rfl, -⟩, ⟨as_, cs, rfl, hsl', hx⟩⟩ := hp
  unfold most at hsl'
  unfold sysVal Ask.val
  cases g1 : exst set S.sets.length
  · have HR : Hid (hasRule S set rule = false) := Lib.hid (by simp [hasRule, g1])
    go_enter Try.func36, Try.ntmps36
    go_wp2_with fail
    generalize hW4 : World.alloc (World.alloc (World.alloc (World.alloc w _) _) _) _ = W4
    have hbn : Below w.heap.size w W4 := by rw [← hW4]; exact bAlloc (bAlloc (bAlloc (bAlloc (Below.refl _ _) _) _) _) _
    have s0 : W4.cell? ⟨w.heap.size, 0, none⟩ = some (.int .i64 S.top) := by rw [← hW4]; exact keep (bAlloc (bAlloc (bAlloc (Below.refl _ _) _) _) _) (cell_new rfl)
    have s1 : W4.cell? ⟨w.heap.size, 1, none⟩ = some (.int .i64 S.genders) := by rw [← hW4]; exact keep (bAlloc (bAlloc (bAlloc (Below.refl _ _) _) _) _) (cell_new rfl)
    have s2 : W4.cell? ⟨w.heap.size, 2, none⟩ = some (.int .i64 S.cases) := by rw [← hW4]; exact keep (bAlloc (bAlloc (bAlloc (Below.refl _ _) _) _) _) (cell_new rfl)
    have s3 : W4.cell? ⟨w.heap.size, 3, none⟩ = some (.int .i64 S.classes) := by rw [← hW4]; exact keep (bAlloc (bAlloc (bAlloc (Below.refl _ _) _) _) _) (cell_new rfl)
    have s4 : W4.cell? ⟨w.heap.size, 4, none⟩ = some (.slice at_ S.terms.length ct) := by rw [← hW4]; exact keep (bAlloc (bAlloc (bAlloc (Below.refl _ _) _) _) _) (cell_new rfl)
    have s5 : W4.cell? ⟨w.heap.size, 5, none⟩ = some (.slice ap S.plurals.length cp) := by rw [← hW4]; exact keep (bAlloc (bAlloc (bAlloc (Below.refl _ _) _) _) _) (cell_new rfl)
    have s6 : W4.cell? ⟨w.heap.size, 6, none⟩ = some (.slice as_ S.sets.length cs) := by rw [← hW4]; exact keep (bAlloc (bAlloc (bAlloc (Below.refl _ _) _) _) _) (cell_new rfl)
    have a0 : W4.cell? ⟨w.heap.size + 1, 0, none⟩ = some (.int .i64 a.num) := by rw [← hW4]; have := keep (bAlloc (bAlloc (Below.refl _ _) (.cells #[.int .i64 set] 3)) (.cells #[.int .i64 rule] 3)) (cell_new (V := w.alloc (.cells #[.int .i64 S.top, .int .i64 S.genders, .int .i64 S.cases, .int .i64 S.classes, .slice at_ S.terms.length ct, .slice ap S.plurals.length cp, .slice as_ S.sets.length cs] 26)) (cs := #[.int .i64 a.num, .int .i64 a.set, .int .i64 a.gen, .int .i64 a.kas]) (t := 36) (j := 0) rfl); rw [World.size_alloc] at this; exact this
    have a1 : W4.cell? ⟨w.heap.size + 1, 1, none⟩ = some (.int .i64 a.set) := by rw [← hW4]; have := keep (bAlloc (bAlloc (Below.refl _ _) (.cells #[.int .i64 set] 3)) (.cells #[.int .i64 rule] 3)) (cell_new (V := w.alloc (.cells #[.int .i64 S.top, .int .i64 S.genders, .int .i64 S.cases, .int .i64 S.classes, .slice at_ S.terms.length ct, .slice ap S.plurals.length cp, .slice as_ S.sets.length cs] 26)) (cs := #[.int .i64 a.num, .int .i64 a.set, .int .i64 a.gen, .int .i64 a.kas]) (t := 36) (j := 1) rfl); rw [World.size_alloc] at this; exact this
    have a2 : W4.cell? ⟨w.heap.size + 1, 2, none⟩ = some (.int .i64 a.gen) := by rw [← hW4]; have := keep (bAlloc (bAlloc (Below.refl _ _) (.cells #[.int .i64 set] 3)) (.cells #[.int .i64 rule] 3)) (cell_new (V := w.alloc (.cells #[.int .i64 S.top, .int .i64 S.genders, .int .i64 S.cases, .int .i64 S.classes, .slice at_ S.terms.length ct, .slice ap S.plurals.length cp, .slice as_ S.sets.length cs] 26)) (cs := #[.int .i64 a.num, .int .i64 a.set, .int .i64 a.gen, .int .i64 a.kas]) (t := 36) (j := 2) rfl); rw [World.size_alloc] at this; exact this
    have a3 : W4.cell? ⟨w.heap.size + 1, 3, none⟩ = some (.int .i64 a.kas) := by rw [← hW4]; have := keep (bAlloc (bAlloc (Below.refl _ _) (.cells #[.int .i64 set] 3)) (.cells #[.int .i64 rule] 3)) (cell_new (V := w.alloc (.cells #[.int .i64 S.top, .int .i64 S.genders, .int .i64 S.cases, .int .i64 S.classes, .slice at_ S.terms.length ct, .slice ap S.plurals.length cp, .slice as_ S.sets.length cs] 26)) (cs := #[.int .i64 a.num, .int .i64 a.set, .int .i64 a.gen, .int .i64 a.kas]) (t := 36) (j := 3) rfl); rw [World.size_alloc] at this; exact this
    have x0 : W4.cell? ⟨w.heap.size + 1 + 1, 0, none⟩ = some (.int .i64 set) := by rw [← hW4]; have := keep (bAlloc (Below.refl _ _) (.cells #[.int .i64 rule] 3)) (cell_new (V := (w.alloc (.cells #[.int .i64 S.top, .int .i64 S.genders, .int .i64 S.cases, .int .i64 S.classes, .slice at_ S.terms.length ct, .slice ap S.plurals.length cp, .slice as_ S.sets.length cs] 26)).alloc (.cells #[.int .i64 a.num, .int .i64 a.set, .int .i64 a.gen, .int .i64 a.kas] 36)) (cs := #[.int .i64 set]) (t := 3) (j := 0) rfl); simp only [World.size_alloc] at this; exact this
    have t0 : W4.cell? ⟨w.heap.size + 1 + 1 + 1, 0, none⟩ = some (.int .i64 rule) := by rw [← hW4]; have := cell_new (V := ((w.alloc (.cells #[.int .i64 S.top, .int .i64 S.genders, .int .i64 S.cases, .int .i64 S.classes, .slice at_ S.terms.length ct, .slice ap S.plurals.length cp, .slice as_ S.sets.length cs] 26)).alloc (.cells #[.int .i64 a.num, .int .i64 a.set, .int .i64 a.gen, .int .i64 a.kas] 36)).alloc (.cells #[.int .i64 set] 3)) (cs := #[.int .i64 rule]) (t := 3) (j := 0) rfl; simp only [World.size_alloc] at this; exact this
    have HB := Lib.hid hbn
    clear hW4 hbn
    have hsl := cell_lt s0
    have hal := cell_lt a0
    have hxl := cell_lt x0
    have htl := cell_lt t0
    (refine wp_region_below (by kernel_rfl) (by kernel_rfl) ?_; (repeat (first | go_big_quiet_step ((go_at_call 62; exact toS (fun _ => isB (exists_any _ _ _) g1) _)) | quiet_step ((go_at_call 62; exact toS (fun _ => isB (exists_any _ _ _) g1) _)))); (refine wpQuiet_nil ?_; intro _ hw'; obtain ⟨xq, hw''⟩ := hw'; subst hw''))
    have hb := xq.2
    replace HB := Lib.hid (bThen HB.out hb)
    clear hb
    go_wp2_with fail
    go_ret2
    exact ⟨.inl ⟨HR.out, rfl⟩, HB.out⟩
  · have hs01 : 0 ≤ set ∧ set < S.sets.length := by simpa [exst] using g1
    obtain ⟨hs0, hs1⟩ := hs01
    have hat : set.toNat < S.sets.length := by omega
    rcases hx with hnil | ⟨xb, xo, rfl, hf⟩
    · simp [hnil] at hat
    obtain ⟨lv, c0, hlv⟩ := hf set.toNat hat
    have hse : S.sets[set.toNat] = setOf S set := by simp [setOf, List.getElem?_eq_getElem hat]
    rw [hse] at hlv
    simp only [Nat.mul_one] at c0
    obtain ⟨la, lc, rfl, hll, -⟩ := hlv
    unfold most at hll
    have hxb := cell_lt c0
    clear hf hse
    cases g2 : exst rule (setOf S set).length
    · have HR : Hid (hasRule S set rule = false) := Lib.hid (by simp [hasRule, g1, g2])
      go_enter Try.func36, Try.ntmps36
      go_wp2_with fail
      generalize hW4 : World.alloc (World.alloc (World.alloc (World.alloc w _) _) _) _ = W4
      have hbn : Below w.heap.size w W4 := by rw [← hW4]; exact bAlloc (bAlloc (bAlloc (bAlloc (Below.refl _ _) _) _) _) _
      have s0 : W4.cell? ⟨w.heap.size, 0, none⟩ = some (.int .i64 S.top) := by rw [← hW4]; exact keep (bAlloc (bAlloc (bAlloc (Below.refl _ _) _) _) _) (cell_new rfl)
      have s1 : W4.cell? ⟨w.heap.size, 1, none⟩ = some (.int .i64 S.genders) := by rw [← hW4]; exact keep (bAlloc (bAlloc (bAlloc (Below.refl _ _) _) _) _) (cell_new rfl)
      have s2 : W4.cell? ⟨w.heap.size, 2, none⟩ = some (.int .i64 S.cases) := by rw [← hW4]; exact keep (bAlloc (bAlloc (bAlloc (Below.refl _ _) _) _) _) (cell_new rfl)
      have s3 : W4.cell? ⟨w.heap.size, 3, none⟩ = some (.int .i64 S.classes) := by rw [← hW4]; exact keep (bAlloc (bAlloc (bAlloc (Below.refl _ _) _) _) _) (cell_new rfl)
      have s4 : W4.cell? ⟨w.heap.size, 4, none⟩ = some (.slice at_ S.terms.length ct) := by rw [← hW4]; exact keep (bAlloc (bAlloc (bAlloc (Below.refl _ _) _) _) _) (cell_new rfl)
      have s5 : W4.cell? ⟨w.heap.size, 5, none⟩ = some (.slice ap S.plurals.length cp) := by rw [← hW4]; exact keep (bAlloc (bAlloc (bAlloc (Below.refl _ _) _) _) _) (cell_new rfl)
      have s6 : W4.cell? ⟨w.heap.size, 6, none⟩ = some (.slice (some ⟨xb, xo, none⟩) S.sets.length cs) := by rw [← hW4]; exact keep (bAlloc (bAlloc (bAlloc (Below.refl _ _) _) _) _) (cell_new rfl)
      have a0 : W4.cell? ⟨w.heap.size + 1, 0, none⟩ = some (.int .i64 a.num) := by rw [← hW4]; have := keep (bAlloc (bAlloc (Below.refl _ _) (.cells #[.int .i64 set] 3)) (.cells #[.int .i64 rule] 3)) (cell_new (V := w.alloc (.cells #[.int .i64 S.top, .int .i64 S.genders, .int .i64 S.cases, .int .i64 S.classes, .slice at_ S.terms.length ct, .slice ap S.plurals.length cp, .slice (some ⟨xb, xo, none⟩) S.sets.length cs] 26)) (cs := #[.int .i64 a.num, .int .i64 a.set, .int .i64 a.gen, .int .i64 a.kas]) (t := 36) (j := 0) rfl); rw [World.size_alloc] at this; exact this
      have a1 : W4.cell? ⟨w.heap.size + 1, 1, none⟩ = some (.int .i64 a.set) := by rw [← hW4]; have := keep (bAlloc (bAlloc (Below.refl _ _) (.cells #[.int .i64 set] 3)) (.cells #[.int .i64 rule] 3)) (cell_new (V := w.alloc (.cells #[.int .i64 S.top, .int .i64 S.genders, .int .i64 S.cases, .int .i64 S.classes, .slice at_ S.terms.length ct, .slice ap S.plurals.length cp, .slice (some ⟨xb, xo, none⟩) S.sets.length cs] 26)) (cs := #[.int .i64 a.num, .int .i64 a.set, .int .i64 a.gen, .int .i64 a.kas]) (t := 36) (j := 1) rfl); rw [World.size_alloc] at this; exact this
      have a2 : W4.cell? ⟨w.heap.size + 1, 2, none⟩ = some (.int .i64 a.gen) := by rw [← hW4]; have := keep (bAlloc (bAlloc (Below.refl _ _) (.cells #[.int .i64 set] 3)) (.cells #[.int .i64 rule] 3)) (cell_new (V := w.alloc (.cells #[.int .i64 S.top, .int .i64 S.genders, .int .i64 S.cases, .int .i64 S.classes, .slice at_ S.terms.length ct, .slice ap S.plurals.length cp, .slice (some ⟨xb, xo, none⟩) S.sets.length cs] 26)) (cs := #[.int .i64 a.num, .int .i64 a.set, .int .i64 a.gen, .int .i64 a.kas]) (t := 36) (j := 2) rfl); rw [World.size_alloc] at this; exact this
      have a3 : W4.cell? ⟨w.heap.size + 1, 3, none⟩ = some (.int .i64 a.kas) := by rw [← hW4]; have := keep (bAlloc (bAlloc (Below.refl _ _) (.cells #[.int .i64 set] 3)) (.cells #[.int .i64 rule] 3)) (cell_new (V := w.alloc (.cells #[.int .i64 S.top, .int .i64 S.genders, .int .i64 S.cases, .int .i64 S.classes, .slice at_ S.terms.length ct, .slice ap S.plurals.length cp, .slice (some ⟨xb, xo, none⟩) S.sets.length cs] 26)) (cs := #[.int .i64 a.num, .int .i64 a.set, .int .i64 a.gen, .int .i64 a.kas]) (t := 36) (j := 3) rfl); rw [World.size_alloc] at this; exact this
      have x0 : W4.cell? ⟨w.heap.size + 1 + 1, 0, none⟩ = some (.int .i64 set) := by rw [← hW4]; have := keep (bAlloc (Below.refl _ _) (.cells #[.int .i64 rule] 3)) (cell_new (V := (w.alloc (.cells #[.int .i64 S.top, .int .i64 S.genders, .int .i64 S.cases, .int .i64 S.classes, .slice at_ S.terms.length ct, .slice ap S.plurals.length cp, .slice (some ⟨xb, xo, none⟩) S.sets.length cs] 26)).alloc (.cells #[.int .i64 a.num, .int .i64 a.set, .int .i64 a.gen, .int .i64 a.kas] 36)) (cs := #[.int .i64 set]) (t := 3) (j := 0) rfl); simp only [World.size_alloc] at this; exact this
      have t0 : W4.cell? ⟨w.heap.size + 1 + 1 + 1, 0, none⟩ = some (.int .i64 rule) := by rw [← hW4]; have := cell_new (V := ((w.alloc (.cells #[.int .i64 S.top, .int .i64 S.genders, .int .i64 S.cases, .int .i64 S.classes, .slice at_ S.terms.length ct, .slice ap S.plurals.length cp, .slice (some ⟨xb, xo, none⟩) S.sets.length cs] 26)).alloc (.cells #[.int .i64 a.num, .int .i64 a.set, .int .i64 a.gen, .int .i64 a.kas] 36)).alloc (.cells #[.int .i64 set] 3)) (cs := #[.int .i64 rule]) (t := 3) (j := 0) rfl; simp only [World.size_alloc] at this; exact this
      replace c0 := keep hbn c0
      have hxb := cell_lt c0
      have HB := Lib.hid hbn
      clear hW4 hbn
      have hsl := cell_lt s0
      have hal := cell_lt a0
      have hxl := cell_lt x0
      have htl := cell_lt t0
      (refine wp_region_below (by kernel_rfl) (by kernel_rfl) ?_; (repeat (first | go_big_quiet_step ((go_at_call 62; first | with_reducible exact toS (fun _ => isB (exists_any _ _ _) g1) _ | with_reducible exact toS (fun _ => isB (exists_any _ _ _) g2) _)) | quiet_step ((go_at_call 62; first | with_reducible exact toS (fun _ => isB (exists_any _ _ _) g1) _ | with_reducible exact toS (fun _ => isB (exists_any _ _ _) g2) _)))); (refine wpQuiet_nil ?_; intro _ hw'; obtain ⟨xq, hw''⟩ := hw'; subst hw''))
      have hb := xq.2
      replace HB := Lib.hid (bThen HB.out hb)
      clear hb
      go_wp2_with fail
      go_ret2
      exact ⟨.inl ⟨HR.out, rfl⟩, HB.out⟩
    · have HR : Hid (hasRule S set rule = true) := Lib.hid (by simp [hasRule, g1, g2])
      by_cases hz : scanErr a [S] = 0
      case neg =>
        obtain ⟨en, hen⟩ : ∃ en, en = scanErr a [S] := ⟨_, rfl⟩
        have HEN := Lib.hid hen.symm
        have hnz : (en != 0) = true := by simp only [bne_iff_ne, ne_eq]; rw [hen]; exact hz
        have HNZ := Lib.hid hz
        clear hen hz
        go_enter Try.func36, Try.ntmps36
        go_wp2_with fail
        generalize hW4 : World.alloc (World.alloc (World.alloc (World.alloc w _) _) _) _ = W4
        have hbn : Below w.heap.size w W4 := by rw [← hW4]; exact bAlloc (bAlloc (bAlloc (bAlloc (Below.refl _ _) _) _) _) _
        have s0 : W4.cell? ⟨w.heap.size, 0, none⟩ = some (.int .i64 S.top) := by rw [← hW4]; exact keep (bAlloc (bAlloc (bAlloc (Below.refl _ _) _) _) _) (cell_new rfl)
        have s1 : W4.cell? ⟨w.heap.size, 1, none⟩ = some (.int .i64 S.genders) := by rw [← hW4]; exact keep (bAlloc (bAlloc (bAlloc (Below.refl _ _) _) _) _) (cell_new rfl)
        have s2 : W4.cell? ⟨w.heap.size, 2, none⟩ = some (.int .i64 S.cases) := by rw [← hW4]; exact keep (bAlloc (bAlloc (bAlloc (Below.refl _ _) _) _) _) (cell_new rfl)
        have s3 : W4.cell? ⟨w.heap.size, 3, none⟩ = some (.int .i64 S.classes) := by rw [← hW4]; exact keep (bAlloc (bAlloc (bAlloc (Below.refl _ _) _) _) _) (cell_new rfl)
        have s4 : W4.cell? ⟨w.heap.size, 4, none⟩ = some (.slice at_ S.terms.length ct) := by rw [← hW4]; exact keep (bAlloc (bAlloc (bAlloc (Below.refl _ _) _) _) _) (cell_new rfl)
        have s5 : W4.cell? ⟨w.heap.size, 5, none⟩ = some (.slice ap S.plurals.length cp) := by rw [← hW4]; exact keep (bAlloc (bAlloc (bAlloc (Below.refl _ _) _) _) _) (cell_new rfl)
        have s6 : W4.cell? ⟨w.heap.size, 6, none⟩ = some (.slice (some ⟨xb, xo, none⟩) S.sets.length cs) := by rw [← hW4]; exact keep (bAlloc (bAlloc (bAlloc (Below.refl _ _) _) _) _) (cell_new rfl)
        have a0 : W4.cell? ⟨w.heap.size + 1, 0, none⟩ = some (.int .i64 a.num) := by rw [← hW4]; have := keep (bAlloc (bAlloc (Below.refl _ _) (.cells #[.int .i64 set] 3)) (.cells #[.int .i64 rule] 3)) (cell_new (V := w.alloc (.cells #[.int .i64 S.top, .int .i64 S.genders, .int .i64 S.cases, .int .i64 S.classes, .slice at_ S.terms.length ct, .slice ap S.plurals.length cp, .slice (some ⟨xb, xo, none⟩) S.sets.length cs] 26)) (cs := #[.int .i64 a.num, .int .i64 a.set, .int .i64 a.gen, .int .i64 a.kas]) (t := 36) (j := 0) rfl); rw [World.size_alloc] at this; exact this
        have a1 : W4.cell? ⟨w.heap.size + 1, 1, none⟩ = some (.int .i64 a.set) := by rw [← hW4]; have := keep (bAlloc (bAlloc (Below.refl _ _) (.cells #[.int .i64 set] 3)) (.cells #[.int .i64 rule] 3)) (cell_new (V := w.alloc (.cells #[.int .i64 S.top, .int .i64 S.genders, .int .i64 S.cases, .int .i64 S.classes, .slice at_ S.terms.length ct, .slice ap S.plurals.length cp, .slice (some ⟨xb, xo, none⟩) S.sets.length cs] 26)) (cs := #[.int .i64 a.num, .int .i64 a.set, .int .i64 a.gen, .int .i64 a.kas]) (t := 36) (j := 1) rfl); rw [World.size_alloc] at this; exact this
        have a2 : W4.cell? ⟨w.heap.size + 1, 2, none⟩ = some (.int .i64 a.gen) := by rw [← hW4]; have := keep (bAlloc (bAlloc (Below.refl _ _) (.cells #[.int .i64 set] 3)) (.cells #[.int .i64 rule] 3)) (cell_new (V := w.alloc (.cells #[.int .i64 S.top, .int .i64 S.genders, .int .i64 S.cases, .int .i64 S.classes, .slice at_ S.terms.length ct, .slice ap S.plurals.length cp, .slice (some ⟨xb, xo, none⟩) S.sets.length cs] 26)) (cs := #[.int .i64 a.num, .int .i64 a.set, .int .i64 a.gen, .int .i64 a.kas]) (t := 36) (j := 2) rfl); rw [World.size_alloc] at this; exact this
        have a3 : W4.cell? ⟨w.heap.size + 1, 3, none⟩ = some (.int .i64 a.kas) := by rw [← hW4]; have := keep (bAlloc (bAlloc (Below.refl _ _) (.cells #[.int .i64 set] 3)) (.cells #[.int .i64 rule] 3)) (cell_new (V := w.alloc (.cells #[.int .i64 S.top, .int .i64 S.genders, .int .i64 S.cases, .int .i64 S.classes, .slice at_ S.terms.length ct, .slice ap S.plurals.length cp, .slice (some ⟨xb, xo, none⟩) S.sets.length cs] 26)) (cs := #[.int .i64 a.num, .int .i64 a.set, .int .i64 a.gen, .int .i64 a.kas]) (t := 36) (j := 3) rfl); rw [World.size_alloc] at this; exact this
        have x0 : W4.cell? ⟨w.heap.size + 1 + 1, 0, none⟩ = some (.int .i64 set) := by rw [← hW4]; have := keep (bAlloc (Below.refl _ _) (.cells #[.int .i64 rule] 3)) (cell_new (V := (w.alloc (.cells #[.int .i64 S.top, .int .i64 S.genders, .int .i64 S.cases, .int .i64 S.classes, .slice at_ S.terms.length ct, .slice ap S.plurals.length cp, .slice (some ⟨xb, xo, none⟩) S.sets.length cs] 26)).alloc (.cells #[.int .i64 a.num, .int .i64 a.set, .int .i64 a.gen, .int .i64 a.kas] 36)) (cs := #[.int .i64 set]) (t := 3) (j := 0) rfl); simp only [World.size_alloc] at this; exact this
        have t0 : W4.cell? ⟨w.heap.size + 1 + 1 + 1, 0, none⟩ = some (.int .i64 rule) := by rw [← hW4]; have := cell_new (V := ((w.alloc (.cells #[.int .i64 S.top, .int .i64 S.genders, .int .i64 S.cases, .int .i64 S.classes, .slice at_ S.terms.length ct, .slice ap S.plurals.length cp, .slice (some ⟨xb, xo, none⟩) S.sets.length cs] 26)).alloc (.cells #[.int .i64 a.num, .int .i64 a.set, .int .i64 a.gen, .int .i64 a.kas] 36)).alloc (.cells #[.int .i64 set] 3)) (cs := #[.int .i64 rule]) (t := 3) (j := 0) rfl; simp only [World.size_alloc] at this; exact this
        replace c0 := keep hbn c0
        have hxb := cell_lt c0
        have HB := Lib.hid hbn
        clear hW4 hbn
        have hsl := cell_lt s0
        have hal := cell_lt a0
        have hxl := cell_lt x0
        have htl := cell_lt t0
        (refine wp_region_below (by kernel_rfl) (by kernel_rfl) ?_; (repeat (first | go_big_quiet_step ((go_at_call 62; first | with_reducible exact toS (fun _ => isB (exists_any _ _ _) g1) _ | with_reducible exact toS (fun _ => isB (exists_any _ _ _) g2) _)) | quiet_step ((go_at_call 62; first | with_reducible exact toS (fun _ => isB (exists_any _ _ _) g1) _ | with_reducible exact toS (fun _ => isB (exists_any _ _ _) g2) _)))); (refine wpQuiet_nil ?_; intro _ hw'; obtain ⟨xq, hw''⟩ := hw'; subst hw''))
        have hb := xq.2
        generalize xq.val = W5 at *
        replace s0 := keep hb s0; replace s1 := keep hb s1; replace s2 := keep hb s2; replace s3 := keep hb s3; replace s4 := keep hb s4; replace s5 := keep hb s5; replace s6 := keep hb s6; replace a0 := keep hb a0; replace a1 := keep hb a1; replace a2 := keep hb a2; replace a3 := keep hb a3; replace x0 := keep hb x0; replace t0 := keep hb t0; replace hsl := cell_lt s0; replace hal := cell_lt a0; replace hxl := cell_lt x0; replace htl := cell_lt t0; replace HB := Lib.hid (bThen HB.out hb)
        clear hb
        go_wp2_with (go_at_call 53; have hcn := (one_sys (c := 1) (b := W5.heap.size) (S := S) (W := W5.alloc (.cells #[.int .i64 S.top, .int .i64 S.genders, .int .i64 S.cases, .int .i64 S.classes, .slice at_ S.terms.length ct, .slice ap S.plurals.length cp, .slice (some ⟨xb, xo, none⟩) S.sets.length cs] 26)) ⟨_, _, _, cell_new rfl, cell_new rfl, cell_new rfl, cell_new rfl, cell_new rfl, cell_new rfl, cell_new rfl, HP.out.keep (bThen HB.out (bAlloc (Below.refl _ _) _))⟩); refine (scanError_any a [S] _ _ hcn).mono ?_; rintro e w6 ⟨rfl, hb'⟩; rw [HEN.out]; have hb := bThen (bAlloc (Below.refl _ _) _) hb'; replace s0 := keep hb s0; replace s1 := keep hb s1; replace s2 := keep hb s2; replace s3 := keep hb s3; replace s4 := keep hb s4; replace s5 := keep hb s5; replace s6 := keep hb s6; replace a0 := keep hb a0; replace a1 := keep hb a1; replace a2 := keep hb a2; replace a3 := keep hb a3; replace x0 := keep hb x0; replace t0 := keep hb t0; replace hsl := cell_lt s0; replace hal := cell_lt a0; replace hxl := cell_lt x0; replace htl := cell_lt t0; replace HB := Lib.hid (bThen HB.out hb); clear hb hb' hcn)
        go_ret2
        exact ⟨.inr (.inl ⟨HR.out, HNZ.out, by rw [HEN.out]; rfl⟩), HB.out⟩
      obtain ⟨hok, htop⟩ := scan_ok hz
      obtain ⟨hS, ha⟩ := askRight_of hok
      obtain ⟨N, hN⟩ := Int.eq_ofNat_of_zero_le ha.num
      have hN2 : (N : Int) ≤ 20000 := by omega
      have HZ := Lib.hid hz
      have HS := Lib.hid hS
      have HA := Lib.hid ha
      have HNN := Lib.hid hN
      have HNT : Hid (a.num.toNat = N) := Lib.hid (by rw [hN]; simp)
      clear hz hS ha hok htop hN
      go_enter Try.func36, Try.ntmps36
      go_wp2_with fail
      generalize hW4 : World.alloc (World.alloc (World.alloc (World.alloc w _) _) _) _ = W4
      have hbn : Below w.heap.size w W4 := by rw [← hW4]; exact bAlloc (bAlloc (bAlloc (bAlloc (Below.refl _ _) _) _) _) _
      have s0 : W4.cell? ⟨w.heap.size, 0, none⟩ = some (.int .i64 S.top) := by rw [← hW4]; exact keep (bAlloc (bAlloc (bAlloc (Below.refl _ _) _) _) _) (cell_new rfl)
      have s1 : W4.cell? ⟨w.heap.size, 1, none⟩ = some (.int .i64 S.genders) := by rw [← hW4]; exact keep (bAlloc (bAlloc (bAlloc (Below.refl _ _) _) _) _) (cell_new rfl)
      have s2 : W4.cell? ⟨w.heap.size, 2, none⟩ = some (.int .i64 S.cases) := by rw [← hW4]; exact keep (bAlloc (bAlloc (bAlloc (Below.refl _ _) _) _) _) (cell_new rfl)
      have s3 : W4.cell? ⟨w.heap.size, 3, none⟩ = some (.int .i64 S.classes) := by rw [← hW4]; exact keep (bAlloc (bAlloc (bAlloc (Below.refl _ _) _) _) _) (cell_new rfl)
      have s4 : W4.cell? ⟨w.heap.size, 4, none⟩ = some (.slice at_ S.terms.length ct) := by rw [← hW4]; exact keep (bAlloc (bAlloc (bAlloc (Below.refl _ _) _) _) _) (cell_new rfl)
      have s5 : W4.cell? ⟨w.heap.size, 5, none⟩ = some (.slice ap S.plurals.length cp) := by rw [← hW4]; exact keep (bAlloc (bAlloc (bAlloc (Below.refl _ _) _) _) _) (cell_new rfl)
      have s6 : W4.cell? ⟨w.heap.size, 6, none⟩ = some (.slice (some ⟨xb, xo, none⟩) S.sets.length cs) := by rw [← hW4]; exact keep (bAlloc (bAlloc (bAlloc (Below.refl _ _) _) _) _) (cell_new rfl)
      have a0 : W4.cell? ⟨w.heap.size + 1, 0, none⟩ = some (.int .i64 a.num) := by rw [← hW4]; have := keep (bAlloc (bAlloc (Below.refl _ _) (.cells #[.int .i64 set] 3)) (.cells #[.int .i64 rule] 3)) (cell_new (V := w.alloc (.cells #[.int .i64 S.top, .int .i64 S.genders, .int .i64 S.cases, .int .i64 S.classes, .slice at_ S.terms.length ct, .slice ap S.plurals.length cp, .slice (some ⟨xb, xo, none⟩) S.sets.length cs] 26)) (cs := #[.int .i64 a.num, .int .i64 a.set, .int .i64 a.gen, .int .i64 a.kas]) (t := 36) (j := 0) rfl); rw [World.size_alloc] at this; exact this
      have a1 : W4.cell? ⟨w.heap.size + 1, 1, none⟩ = some (.int .i64 a.set) := by rw [← hW4]; have := keep (bAlloc (bAlloc (Below.refl _ _) (.cells #[.int .i64 set] 3)) (.cells #[.int .i64 rule] 3)) (cell_new (V := w.alloc (.cells #[.int .i64 S.top, .int .i64 S.genders, .int .i64 S.cases, .int .i64 S.classes, .slice at_ S.terms.length ct, .slice ap S.plurals.length cp, .slice (some ⟨xb, xo, none⟩) S.sets.length cs] 26)) (cs := #[.int .i64 a.num, .int .i64 a.set, .int .i64 a.gen, .int .i64 a.kas]) (t := 36) (j := 1) rfl); rw [World.size_alloc] at this; exact this
      have a2 : W4.cell? ⟨w.heap.size + 1, 2, none⟩ = some (.int .i64 a.gen) := by rw [← hW4]; have := keep (bAlloc (bAlloc (Below.refl _ _) (.cells #[.int .i64 set] 3)) (.cells #[.int .i64 rule] 3)) (cell_new (V := w.alloc (.cells #[.int .i64 S.top, .int .i64 S.genders, .int .i64 S.cases, .int .i64 S.classes, .slice at_ S.terms.length ct, .slice ap S.plurals.length cp, .slice (some ⟨xb, xo, none⟩) S.sets.length cs] 26)) (cs := #[.int .i64 a.num, .int .i64 a.set, .int .i64 a.gen, .int .i64 a.kas]) (t := 36) (j := 2) rfl); rw [World.size_alloc] at this; exact this
      have a3 : W4.cell? ⟨w.heap.size + 1, 3, none⟩ = some (.int .i64 a.kas) := by rw [← hW4]; have := keep (bAlloc (bAlloc (Below.refl _ _) (.cells #[.int .i64 set] 3)) (.cells #[.int .i64 rule] 3)) (cell_new (V := w.alloc (.cells #[.int .i64 S.top, .int .i64 S.genders, .int .i64 S.cases, .int .i64 S.classes, .slice at_ S.terms.length ct, .slice ap S.plurals.length cp, .slice (some ⟨xb, xo, none⟩) S.sets.length cs] 26)) (cs := #[.int .i64 a.num, .int .i64 a.set, .int .i64 a.gen, .int .i64 a.kas]) (t := 36) (j := 3) rfl); rw [World.size_alloc] at this; exact this
      have x0 : W4.cell? ⟨w.heap.size + 1 + 1, 0, none⟩ = some (.int .i64 set) := by rw [← hW4]; have := keep (bAlloc (Below.refl _ _) (.cells #[.int .i64 rule] 3)) (cell_new (V := (w.alloc (.cells #[.int .i64 S.top, .int .i64 S.genders, .int .i64 S.cases, .int .i64 S.classes, .slice at_ S.terms.length ct, .slice ap S.plurals.length cp, .slice (some ⟨xb, xo, none⟩) S.sets.length cs] 26)).alloc (.cells #[.int .i64 a.num, .int .i64 a.set, .int .i64 a.gen, .int .i64 a.kas] 36)) (cs := #[.int .i64 set]) (t := 3) (j := 0) rfl); simp only [World.size_alloc] at this; exact this
      have t0 : W4.cell? ⟨w.heap.size + 1 + 1 + 1, 0, none⟩ = some (.int .i64 rule) := by rw [← hW4]; have := cell_new (V := ((w.alloc (.cells #[.int .i64 S.top, .int .i64 S.genders, .int .i64 S.cases, .int .i64 S.classes, .slice at_ S.terms.length ct, .slice ap S.plurals.length cp, .slice (some ⟨xb, xo, none⟩) S.sets.length cs] 26)).alloc (.cells #[.int .i64 a.num, .int .i64 a.set, .int .i64 a.gen, .int .i64 a.kas] 36)).alloc (.cells #[.int .i64 set] 3)) (cs := #[.int .i64 rule]) (t := 3) (j := 0) rfl; simp only [World.size_alloc] at this; exact this
      replace c0 := keep hbn c0
      have hxb := cell_lt c0
      have HB := Lib.hid hbn
      clear hW4 hbn
      have hsl := cell_lt s0
      have hal := cell_lt a0
      have hxl := cell_lt x0
      have htl := cell_lt t0
      (refine wp_region_below (by kernel_rfl) (by kernel_rfl) ?_; (repeat (first | go_big_quiet_step ((go_at_call 62; first | with_reducible exact toS (fun _ => isB (exists_any _ _ _) g1) _ | with_reducible exact toS (fun _ => isB (exists_any _ _ _) g2) _)) | quiet_step ((go_at_call 62; first | with_reducible exact toS (fun _ => isB (exists_any _ _ _) g1) _ | with_reducible exact toS (fun _ => isB (exists_any _ _ _) g2) _)))); (refine wpQuiet_nil ?_; intro _ hw'; obtain ⟨xq, hw''⟩ := hw'; subst hw''))
      have hb := xq.2
      generalize xq.val = W5 at *
      replace s0 := keep hb s0; replace s1 := keep hb s1; replace s2 := keep hb s2; replace s3 := keep hb s3; replace s4 := keep hb s4; replace s5 := keep hb s5; replace s6 := keep hb s6; replace a0 := keep hb a0; replace a1 := keep hb a1; replace a2 := keep hb a2; replace a3 := keep hb a3; replace x0 := keep hb x0; replace t0 := keep hb t0; replace hsl := cell_lt s0; replace hal := cell_lt a0; replace hxl := cell_lt x0; replace htl := cell_lt t0; replace HB := Lib.hid (bThen HB.out hb)
      clear hb
      go_wp2_with (first
        | (go_at_call 53; have hcn := (one_sys (c := 1) (b := W5.heap.size) (S := S) (W := W5.alloc (.cells #[.int .i64 S.top, .int .i64 S.genders, .int .i64 S.cases, .int .i64 S.classes, .slice at_ S.terms.length ct, .slice ap S.plurals.length cp, .slice (some ⟨xb, xo, none⟩) S.sets.length cs] 26)) ⟨_, _, _, cell_new rfl, cell_new rfl, cell_new rfl, cell_new rfl, cell_new rfl, cell_new rfl, cell_new rfl, HP.out.keep (bThen HB.out (bAlloc (Below.refl _ _) _))⟩); refine (scanError_any a [S] _ _ hcn).mono ?_; rintro e w6 ⟨rfl, hb'⟩; rw [HZ.out]; have hb := bThen (bAlloc (Below.refl _ _) _) hb'; replace s0 := keep hb s0; replace s1 := keep hb s1; replace s2 := keep hb s2; replace s3 := keep hb s3; replace s4 := keep hb s4; replace s5 := keep hb s5; replace s6 := keep hb s6; replace a0 := keep hb a0; replace a1 := keep hb a1; replace a2 := keep hb a2; replace a3 := keep hb a3; replace x0 := keep hb x0; replace t0 := keep hb t0; replace hsl := cell_lt s0; replace hal := cell_lt a0; replace hxl := cell_lt x0; replace htl := cell_lt t0; replace HB := Lib.hid (bThen HB.out hb); clear hb hb' hcn)
        | (go_at_call 43; refine (newSpeller_any S _ _ _ _ (HP.out.keep HB.out)).mono ?_; rintro e w7 ⟨⟨sb, rfl, hspl⟩, hb⟩; have HSP := Lib.hid hspl; replace s0 := keep hb s0; replace s1 := keep hb s1; replace s2 := keep hb s2; replace s3 := keep hb s3; replace s4 := keep hb s4; replace s5 := keep hb s5; replace s6 := keep hb s6; replace a0 := keep hb a0; replace a1 := keep hb a1; replace a2 := keep hb a2; replace a3 := keep hb a3; replace x0 := keep hb x0; replace t0 := keep hb t0; replace hsl := cell_lt s0; replace hal := cell_lt a0; replace hxl := cell_lt x0; replace htl := cell_lt t0; replace HB := Lib.hid (bThen HB.out hb); clear hb hspl)
        | (go_at_call 55; have hx0 : (w7.alloc (.cells #[.pointer (some ⟨sb, 0, none⟩)] 96)).cell? ⟨w7.heap.size, 0, none⟩ = some (.pointer (some ⟨sb, 0, none⟩)) := cell_new rfl; refine (upTo_any a.num _).mono ?_; rintro e w8 ⟨ub, ⟨rfl, hu⟩, hb8⟩; have y0 := keep hb8 hx0; have hb := bThen (bAlloc (Below.refl _ _) _) hb8; have HS3 := Lib.hid (HSP.out.keep hb); replace s0 := keep hb s0; replace s1 := keep hb s1; replace s2 := keep hb s2; replace s3 := keep hb s3; replace s4 := keep hb s4; replace s5 := keep hb s5; replace s6 := keep hb s6; replace a0 := keep hb a0; replace a1 := keep hb a1; replace a2 := keep hb a2; replace a3 := keep hb a3; replace x0 := keep hb x0; replace t0 := keep hb t0; replace hsl := cell_lt s0; replace hal := cell_lt a0; replace hxl := cell_lt x0; replace htl := cell_lt t0; replace HB := Lib.hid (bThen HB.out hb); clear hb hb8 hx0)
        | (go_at_call 54; refine (keepUses_any S a N ub _ _ _ _ sb set rule w8 (by omega) HNN.out HS.out HA.out (by rw [← HNN.out]; exact hu) HS3.out y0 ⟨a0, a1, a2, a3⟩ x0 t0).mono ?_; rintro e w9 ⟨⟨ad, cap, rfl, hsl9⟩, hb⟩; have HSL := Lib.hid hsl9; clear hsl9; replace HB := Lib.hid (bThen HB.out hb); clear hb))
      go_ret2
      exact ⟨.inr (.inr ⟨HR.out, HZ.out, ad, cap, by rw [HNT.out]; rfl, by rw [HNT.out]; exact HSL.out⟩), HB.out⟩
end Go.Proofs.Ytfcopnlpcbbocaa
