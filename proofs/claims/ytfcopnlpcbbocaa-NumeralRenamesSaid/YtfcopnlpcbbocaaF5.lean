/- Contracts: Spell and Trace. -/
import Derived.Test.YtfcopnlpcbbocaaF4
set_option linter.unusedSimpArgs false
set_option linter.unusedVariables false
namespace Go.Proofs.Ytfcopnlpcbbocaa
open Go.RowKit

theorem askRight_of {S : Sys} {a : Ask} (h : askOk S a = true) : Right S ∧ AskRight S a := by
  simp only [askOk, Bool.and_eq_true, betw, exst, decide_eq_true_eq] at h
  obtain ⟨⟨⟨⟨h1, h2⟩, h3⟩, h4⟩, h5⟩ := h
  refine ⟨⟨h1⟩, h2.1, ?_, h3, h4, h5⟩
  simp only [sysOk, sizesOk, betw, Bool.and_eq_true, decide_eq_true_eq] at h1
  have := h1.1.1.1.1.1.1.1.1.1.2
  omega
def SpellPost (S : Sys) (a : Ask) (e : Ending) (w' : World) : Prop :=
  (askOk S a = false ∧ e = .returned (.tuple #[.slice none 0 0, .int .i64 2])) ∨ (askOk S a = true ∧ wordsOf S a = none ∧ e = .returned (.tuple #[.slice none 0 0, .int .i64 5])) ∨
    (askOk S a = true ∧ ∃ ws v, wordsOf S a = some ws ∧ e = .returned (.tuple #[v, .int .i64 0]) ∧ SliceV w' v 1 StrAt ws)
def TracePost (S : Sys) (a : Ask) (e : Ending) (w' : World) : Prop :=
  (askOk S a = false ∧ e = .returned (.tuple #[.slice none 0 0, .int .i64 2])) ∨ (askOk S a = true ∧ saidOf S a = none ∧ e = .returned (.tuple #[.slice none 0 0, .int .i64 5])) ∨
    (askOk S a = true ∧ ∃ ws v, saidOf S a = some ws ∧ e = .returned (.tuple #[v, .int .i64 0]) ∧ SliceV w' v 6 SaidAt ws)
theorem cell_new {V : World} {cs : Array Value} {t j : Nat} {v : Value} (h : cs[j]? = some v) : (V.alloc (.cells cs t)).cell? ⟨V.heap.size, j, none⟩ = some v := by
  have hb := World.alloc_heap_new V (.cells cs t)
  simp only [World.cell?, hb]
  simpa using h
/-- What a speller hands back, with its value at hand. -/
def SpelledV (S : Sys) (a : Ask) (v : Value) (t : Bool) (w' : World) : Prop := (t = true ∧ ∃ ws, wordsOf S a = some ws ∧ SliceV w' v 1 StrAt ws) ∨ (t = false ∧ wordsOf S a = none ∧ v = .slice none 0 0)
def TracedV (S : Sys) (a : Ask) (v : Value) (t : Bool) (w' : World) : Prop := (t = true ∧ ∃ ws, saidOf S a = some ws ∧ SliceV w' v 6 SaidAt ws) ∨ (t = false ∧ saidOf S a = none ∧ v = .slice none 0 0)
theorem Spelled.shape {S : Sys} {a : Ask} {e : Ending} {w' : World} (h : Spelled S a e w') : ∃ ad k c t, e = .returned (.tuple #[.slice ad k c, .bool t]) ∧ SpelledV S a (.slice ad k c) t w' := by
  rcases h with ⟨ws, v, h1, rfl, h2⟩ | ⟨h1, rfl⟩
  · obtain ⟨ad, c, rfl, -⟩ := id h2
    exact ⟨_, _, _, _, rfl, .inl ⟨rfl, ws, h1, h2⟩⟩
  · exact ⟨_, _, _, _, rfl, .inr ⟨rfl, h1, rfl⟩⟩
theorem Traced.shape {S : Sys} {a : Ask} {e : Ending} {w' : World} (h : Traced S a e w') : ∃ ad k c t, e = .returned (.tuple #[.slice ad k c, .bool t]) ∧ TracedV S a (.slice ad k c) t w' := by
  rcases h with ⟨ws, v, h1, rfl, h2⟩ | ⟨h1, rfl⟩
  · obtain ⟨ad, c, rfl, -⟩ := id h2
    exact ⟨_, _, _, _, rfl, .inl ⟨rfl, ws, h1, h2⟩⟩
  · exact ⟨_, _, _, _, rfl, .inr ⟨rfl, h1, rfl⟩⟩
/-- One system, in a block of its own. -/
theorem one_sys {W : World} {b : Nat} {S : Sys} {c : Nat} (h : SysAt W b 0 S) : SliceV W (.slice (some ⟨b, 0, none⟩) 1 c) 7 SysAt [S] :=
  ⟨_, c, rfl, by unfold most; simp, .inr ⟨b, 0, rfl, fun i hi => by
    have : i = 0 := by simp at hi; omega
    subst this
    simpa using h⟩⟩

set_option maxRecDepth 100000 in
set_option maxHeartbeats 4000000 in
theorem Spell_any (S : Sys) (a : Ask) (vt vp vs : Value) (w : World) (hp : SysParts w vt vp vs S) :
    Calls Try.prog 20 #[sysVal S vt vp vs, a.val] w fun e w' => SpellPost S a e w' ∧ Below w.heap.size w w' := by
  have HP := Lib.hid hp
  obtain ⟨⟨at_, ct, rfl, -⟩, ⟨ap, cp, rfl, -⟩, ⟨as_, cs, rfl, -⟩⟩ := hp
  unfold sysVal Ask.val
  have hBA : Below w.heap.size w (((w.alloc (.cells #[.int .i64 S.top, .int .i64 S.genders, .int .i64 S.cases, .int .i64 S.classes, .slice at_ S.terms.length ct, .slice ap S.plurals.length cp, .slice as_ S.sets.length cs] 26)).alloc (.cells #[.int .i64 a.num, .int .i64 a.set, .int .i64 a.gen, .int .i64 a.kas] 36)).alloc (.cells #[.int .i64 S.top, .int .i64 S.genders, .int .i64 S.cases, .int .i64 S.classes, .slice at_ S.terms.length ct, .slice ap S.plurals.length cp, .slice as_ S.sets.length cs] 26)) := bAlloc (bAlloc (bAlloc (Below.refl _ _) _) _) _
  have hcn : ∀ {j : Nat} {v : Value}, _ := fun {j v} h => cell_new (V := (w.alloc (.cells #[.int .i64 S.top, .int .i64 S.genders, .int .i64 S.cases, .int .i64 S.classes, .slice at_ S.terms.length ct, .slice ap S.plurals.length cp, .slice as_ S.sets.length cs] 26)).alloc (.cells #[.int .i64 a.num, .int .i64 a.set, .int .i64 a.gen, .int .i64 a.kas] 36)) (cs := #[.int .i64 S.top, .int .i64 S.genders, .int .i64 S.cases, .int .i64 S.classes, .slice at_ S.terms.length ct, .slice ap S.plurals.length cp, .slice as_ S.sets.length cs]) (t := 26) (j := j) (v := v) h
  simp only [World.size_alloc] at hcn
  have h47 : Calls Try.prog 47 #[.agg #[.int .i64 a.num, .int .i64 a.set, .int .i64 a.gen, .int .i64 a.kas], .slice (some ⟨w.heap.size + 1 + 1, 0, none⟩) 1 1] (((w.alloc (.cells #[.int .i64 S.top, .int .i64 S.genders, .int .i64 S.cases, .int .i64 S.classes, .slice at_ S.terms.length ct, .slice ap S.plurals.length cp, .slice as_ S.sets.length cs] 26)).alloc (.cells #[.int .i64 a.num, .int .i64 a.set, .int .i64 a.gen, .int .i64 a.kas] 36)).alloc (.cells #[.int .i64 S.top, .int .i64 S.genders, .int .i64 S.cases, .int .i64 S.classes, .slice at_ S.terms.length ct, .slice ap S.plurals.length cp, .slice as_ S.sets.length cs] 26)) fun e w' => e = .returned (.bool (askOk S a)) ∧ Below (((w.alloc (.cells #[.int .i64 S.top, .int .i64 S.genders, .int .i64 S.cases, .int .i64 S.classes, .slice at_ S.terms.length ct, .slice ap S.plurals.length cp, .slice as_ S.sets.length cs] 26)).alloc (.cells #[.int .i64 a.num, .int .i64 a.set, .int .i64 a.gen, .int .i64 a.kas] 36)).alloc (.cells #[.int .i64 S.top, .int .i64 S.genders, .int .i64 S.cases, .int .i64 S.classes, .slice at_ S.terms.length ct, .slice ap S.plurals.length cp, .slice as_ S.sets.length cs] 26)).heap.size (((w.alloc (.cells #[.int .i64 S.top, .int .i64 S.genders, .int .i64 S.cases, .int .i64 S.classes, .slice at_ S.terms.length ct, .slice ap S.plurals.length cp, .slice as_ S.sets.length cs] 26)).alloc (.cells #[.int .i64 a.num, .int .i64 a.set, .int .i64 a.gen, .int .i64 a.kas] 36)).alloc (.cells #[.int .i64 S.top, .int .i64 S.genders, .int .i64 S.cases, .int .i64 S.classes, .slice at_ S.terms.length ct, .slice ap S.plurals.length cp, .slice as_ S.sets.length cs] 26)) w' :=
    isB (askRight_any a [S] _ _ (one_sys ⟨_, _, _, hcn rfl, hcn rfl, hcn rfl, hcn rfl, hcn rfl, hcn rfl, hcn rfl, HP.out.keep hBA⟩)) (by simp)
  have H47 := Lib.hid h47
  clear h47
  cases g1 : askOk S a
  · have G1 := Lib.hid g1
    clear g1
    go_enter Try.func20, Try.ntmps20
    go_wp2_with (go_at_call 47; refine (isB H47.out G1.out).mono ?_; rintro e w1 ⟨rfl, hb1⟩; have HB1 := bThen hBA hb1)
    go_ret2
    exact ⟨.inl ⟨G1.out, rfl⟩, HB1⟩
  · have G1 := Lib.hid g1
    have HR := Lib.hid (askRight_of g1)
    clear g1
    obtain ⟨W3, hW3⟩ : ∃ W3, W3 = (w.alloc (.cells #[.int .i64 S.top, .int .i64 S.genders, .int .i64 S.cases, .int .i64 S.classes, .slice at_ S.terms.length ct, .slice ap S.plurals.length cp, .slice as_ S.sets.length cs] 26)).alloc (.cells #[.int .i64 a.num, .int .i64 a.set, .int .i64 a.gen, .int .i64 a.kas] 36) := ⟨_, rfl⟩
    have HB3 : Below w.heap.size w W3 := by rw [hW3]; exact bAlloc (bAlloc (Below.refl _ _) _) _
    have s0 : W3.cell? ⟨w.heap.size, 0, none⟩ = some (.int .i64 S.top) := by rw [hW3]; simp
    have s1 : W3.cell? ⟨w.heap.size, 1, none⟩ = some (.int .i64 S.genders) := by rw [hW3]; simp
    have s2 : W3.cell? ⟨w.heap.size, 2, none⟩ = some (.int .i64 S.cases) := by rw [hW3]; simp
    have s3 : W3.cell? ⟨w.heap.size, 3, none⟩ = some (.int .i64 S.classes) := by rw [hW3]; simp
    have s4 : W3.cell? ⟨w.heap.size, 4, none⟩ = some (.slice at_ S.terms.length ct) := by rw [hW3]; simp
    have s5 : W3.cell? ⟨w.heap.size, 5, none⟩ = some (.slice ap S.plurals.length cp) := by rw [hW3]; simp
    have s6 : W3.cell? ⟨w.heap.size, 6, none⟩ = some (.slice as_ S.sets.length cs) := by rw [hW3]; simp
    have a0 : W3.cell? ⟨w.heap.size + 1, 0, none⟩ = some (.int .i64 a.num) := by rw [hW3]; simp
    have a1 : W3.cell? ⟨w.heap.size + 1, 1, none⟩ = some (.int .i64 a.set) := by rw [hW3]; simp
    have a2 : W3.cell? ⟨w.heap.size + 1, 2, none⟩ = some (.int .i64 a.gen) := by rw [hW3]; simp
    have a3 : W3.cell? ⟨w.heap.size + 1, 3, none⟩ = some (.int .i64 a.kas) := by rw [hW3]; simp
    have HW3 := Lib.hid hW3
    clear hW3
    have hs := cell_lt s0
    have ha := cell_lt a0
    go_enter Try.func20, Try.ntmps20
    go_wp2_with (go_at_call 47; refine (isB H47.out G1.out).mono ?_; rintro e w1 ⟨rfl, hb1⟩; have HB1 := bThen hBA hb1; have HB31 : Below W3.heap.size W3 w1 := bThen (by rw [HW3.out]; exact bAlloc (Below.refl _ _) _) hb1; clear hb1; have t0 := keep HB31 s0; have t1 := keep HB31 s1; have t2 := keep HB31 s2; have t3 := keep HB31 s3; have t4 := keep HB31 s4; have t5 := keep HB31 s5; have t6 := keep HB31 s6; have c0 := keep HB31 a0; have c1 := keep HB31 a1; have c2 := keep HB31 a2; have c3 := keep HB31 a3; clear s0 s1 s2 s3 s4 s5 s6 a0 a1 a2 a3; have hs := cell_lt t0; have ha := cell_lt c0)
    have HX := Lib.hid HB31
    clear HB31
    have h43 : ∀ W', Below w1.heap.size w1 W' → Calls Try.prog 43 #[.agg #[.int .i64 S.top, .int .i64 S.genders, .int .i64 S.cases, .int .i64 S.classes, .slice at_ S.terms.length ct, .slice ap S.plurals.length cp, .slice as_ S.sets.length cs]] W' fun e w' => (∃ b, e = .returned (.pointer (some ⟨b, 0, none⟩)) ∧ SplAt w' b S) ∧ Below W'.heap.size W' w' :=
      fun W' hB => newSpeller_any S _ _ _ W' (HP.out.keep (bThen HB1 hB))
    have h48 : ∀ b W', SplAt W' b S → Calls Try.prog 48 #[.pointer (some ⟨b, 0, none⟩), .agg #[.int .i64 a.num, .int .i64 a.set, .int .i64 a.gen, .int .i64 a.kas]] W' fun e w' => Spelled S a e w' ∧ Below W'.heap.size W' w' :=
      fun b W' h => spell_any S a b W' HR.out.1 HR.out.2 h
    have HK1 : ∀ W', Below w1.heap.size w1 W' → (W'.cell? ⟨w.heap.size, 0, none⟩ = some (.int .i64 S.top) ∧ W'.cell? ⟨w.heap.size, 1, none⟩ = some (.int .i64 S.genders) ∧ W'.cell? ⟨w.heap.size, 2, none⟩ = some (.int .i64 S.cases) ∧ W'.cell? ⟨w.heap.size, 3, none⟩ = some (.int .i64 S.classes) ∧ W'.cell? ⟨w.heap.size, 4, none⟩ = some (.slice at_ S.terms.length ct) ∧ W'.cell? ⟨w.heap.size, 5, none⟩ = some (.slice ap S.plurals.length cp) ∧ W'.cell? ⟨w.heap.size, 6, none⟩ = some (.slice as_ S.sets.length cs) ∧ W'.cell? ⟨w.heap.size + 1, 0, none⟩ = some (.int .i64 a.num) ∧ W'.cell? ⟨w.heap.size + 1, 1, none⟩ = some (.int .i64 a.set) ∧ W'.cell? ⟨w.heap.size + 1, 2, none⟩ = some (.int .i64 a.gen) ∧ W'.cell? ⟨w.heap.size + 1, 3, none⟩ = some (.int .i64 a.kas)) :=
      fun W' hB => ⟨keep hB t0, keep hB t1, keep hB t2, keep hB t3, keep hB t4, keep hB t5, keep hB t6, keep hB c0, keep hB c1, keep hB c2, keep hB c3⟩
    refine wp_opaque fun Q2 hQ2 => ?_
    go_region_held3 (fun W' => (W'.cell? ⟨w.heap.size, 0, none⟩ = some (.int .i64 S.top) ∧ W'.cell? ⟨w.heap.size, 1, none⟩ = some (.int .i64 S.genders) ∧ W'.cell? ⟨w.heap.size, 2, none⟩ = some (.int .i64 S.cases) ∧ W'.cell? ⟨w.heap.size, 3, none⟩ = some (.int .i64 S.classes) ∧ W'.cell? ⟨w.heap.size, 4, none⟩ = some (.slice at_ S.terms.length ct) ∧ W'.cell? ⟨w.heap.size, 5, none⟩ = some (.slice ap S.plurals.length cp) ∧ W'.cell? ⟨w.heap.size, 6, none⟩ = some (.slice as_ S.sets.length cs) ∧ W'.cell? ⟨w.heap.size + 1, 0, none⟩ = some (.int .i64 a.num) ∧ W'.cell? ⟨w.heap.size + 1, 1, none⟩ = some (.int .i64 a.set) ∧ W'.cell? ⟨w.heap.size + 1, 2, none⟩ = some (.int .i64 a.gen) ∧ W'.cell? ⟨w.heap.size + 1, 3, none⟩ = some (.int .i64 a.kas))) (((try dsimp only); exact HK1 _ (by (repeat (first | exact Below.refl _ _ | refine Below.drew ?_ | refine bThen ?_ hb4 | refine bThen ?_ hb3))))) (first | (go_at_call 43; refine (h43 _ (by (repeat (first | exact Below.refl _ _ | refine Below.drew ?_)))).mono ?_; rintro e w3 ⟨⟨b, rfl, hspl⟩, hb3⟩; have HSP := Lib.hid hspl; clear hspl) | (go_at_call 48; refine (h48 _ _ HSP.out).mono ?_; rintro e w4 ⟨hsp, hb4⟩; obtain ⟨ad, k, c, t, rfl, hq⟩ := hsp.shape; clear hsp; have HQ := Lib.hid hq; clear hq))
    have HBF : Below w.heap.size w w4 := by (repeat (first | exact HB1 | refine Below.drew ?_ | refine bThen ?_ hb4 | refine bThen ?_ hb3))
    refine hQ2 _ _ _ ?_
    cases t
    · have hq := HQ.out.resolve_left (fun h => by cases h.1)
      go_wp2_with fail
      go_ret2
      exact ⟨.inr (.inl ⟨G1.out, hq.2.1, rfl⟩), HBF⟩
    · obtain ⟨-, ws, hq1, hq2⟩ := HQ.out.resolve_right (fun h => by cases h.1)
      go_wp2_with fail
      go_ret2
      exact ⟨.inr (.inr ⟨G1.out, ws, _, hq1, rfl, hq2⟩), HBF⟩
set_option maxRecDepth 100000 in
set_option maxHeartbeats 4000000 in
theorem Trace_any (S : Sys) (a : Ask) (vt vp vs : Value) (w : World) (hp : SysParts w vt vp vs S) :
    Calls Try.prog 21 #[sysVal S vt vp vs, a.val] w fun e w' => TracePost S a e w' ∧ Below w.heap.size w w' := by
  have HP := Lib.hid hp
  obtain ⟨⟨at_, ct, rfl, -⟩, ⟨ap, cp, rfl, -⟩, ⟨as_, cs, rfl, -⟩⟩ := hp
  unfold sysVal Ask.val
  have hBA : Below w.heap.size w (((w.alloc (.cells #[.int .i64 S.top, .int .i64 S.genders, .int .i64 S.cases, .int .i64 S.classes, .slice at_ S.terms.length ct, .slice ap S.plurals.length cp, .slice as_ S.sets.length cs] 26)).alloc (.cells #[.int .i64 a.num, .int .i64 a.set, .int .i64 a.gen, .int .i64 a.kas] 36)).alloc (.cells #[.int .i64 S.top, .int .i64 S.genders, .int .i64 S.cases, .int .i64 S.classes, .slice at_ S.terms.length ct, .slice ap S.plurals.length cp, .slice as_ S.sets.length cs] 26)) := bAlloc (bAlloc (bAlloc (Below.refl _ _) _) _) _
  have hcn : ∀ {j : Nat} {v : Value}, _ := fun {j v} h => cell_new (V := (w.alloc (.cells #[.int .i64 S.top, .int .i64 S.genders, .int .i64 S.cases, .int .i64 S.classes, .slice at_ S.terms.length ct, .slice ap S.plurals.length cp, .slice as_ S.sets.length cs] 26)).alloc (.cells #[.int .i64 a.num, .int .i64 a.set, .int .i64 a.gen, .int .i64 a.kas] 36)) (cs := #[.int .i64 S.top, .int .i64 S.genders, .int .i64 S.cases, .int .i64 S.classes, .slice at_ S.terms.length ct, .slice ap S.plurals.length cp, .slice as_ S.sets.length cs]) (t := 26) (j := j) (v := v) h
  simp only [World.size_alloc] at hcn
  have h47 : Calls Try.prog 47 #[.agg #[.int .i64 a.num, .int .i64 a.set, .int .i64 a.gen, .int .i64 a.kas], .slice (some ⟨w.heap.size + 1 + 1, 0, none⟩) 1 1] (((w.alloc (.cells #[.int .i64 S.top, .int .i64 S.genders, .int .i64 S.cases, .int .i64 S.classes, .slice at_ S.terms.length ct, .slice ap S.plurals.length cp, .slice as_ S.sets.length cs] 26)).alloc (.cells #[.int .i64 a.num, .int .i64 a.set, .int .i64 a.gen, .int .i64 a.kas] 36)).alloc (.cells #[.int .i64 S.top, .int .i64 S.genders, .int .i64 S.cases, .int .i64 S.classes, .slice at_ S.terms.length ct, .slice ap S.plurals.length cp, .slice as_ S.sets.length cs] 26)) fun e w' => e = .returned (.bool (askOk S a)) ∧ Below (((w.alloc (.cells #[.int .i64 S.top, .int .i64 S.genders, .int .i64 S.cases, .int .i64 S.classes, .slice at_ S.terms.length ct, .slice ap S.plurals.length cp, .slice as_ S.sets.length cs] 26)).alloc (.cells #[.int .i64 a.num, .int .i64 a.set, .int .i64 a.gen, .int .i64 a.kas] 36)).alloc (.cells #[.int .i64 S.top, .int .i64 S.genders, .int .i64 S.cases, .int .i64 S.classes, .slice at_ S.terms.length ct, .slice ap S.plurals.length cp, .slice as_ S.sets.length cs] 26)).heap.size (((w.alloc (.cells #[.int .i64 S.top, .int .i64 S.genders, .int .i64 S.cases, .int .i64 S.classes, .slice at_ S.terms.length ct, .slice ap S.plurals.length cp, .slice as_ S.sets.length cs] 26)).alloc (.cells #[.int .i64 a.num, .int .i64 a.set, .int .i64 a.gen, .int .i64 a.kas] 36)).alloc (.cells #[.int .i64 S.top, .int .i64 S.genders, .int .i64 S.cases, .int .i64 S.classes, .slice at_ S.terms.length ct, .slice ap S.plurals.length cp, .slice as_ S.sets.length cs] 26)) w' :=
    isB (askRight_any a [S] _ _ (one_sys ⟨_, _, _, hcn rfl, hcn rfl, hcn rfl, hcn rfl, hcn rfl, hcn rfl, hcn rfl, HP.out.keep hBA⟩)) (by simp)
  have H47 := Lib.hid h47
  clear h47
  cases g1 : askOk S a
  · have G1 := Lib.hid g1
    clear g1
    go_enter Try.func21, Try.ntmps21
    go_wp2_with (go_at_call 47; refine (isB H47.out G1.out).mono ?_; rintro e w1 ⟨rfl, hb1⟩; have HB1 := bThen hBA hb1)
    go_ret2
    exact ⟨.inl ⟨G1.out, rfl⟩, HB1⟩
  · have G1 := Lib.hid g1
    have HR := Lib.hid (askRight_of g1)
    clear g1
    obtain ⟨W3, hW3⟩ : ∃ W3, W3 = (w.alloc (.cells #[.int .i64 S.top, .int .i64 S.genders, .int .i64 S.cases, .int .i64 S.classes, .slice at_ S.terms.length ct, .slice ap S.plurals.length cp, .slice as_ S.sets.length cs] 26)).alloc (.cells #[.int .i64 a.num, .int .i64 a.set, .int .i64 a.gen, .int .i64 a.kas] 36) := ⟨_, rfl⟩
    have HB3 : Below w.heap.size w W3 := by rw [hW3]; exact bAlloc (bAlloc (Below.refl _ _) _) _
    have s0 : W3.cell? ⟨w.heap.size, 0, none⟩ = some (.int .i64 S.top) := by rw [hW3]; simp
    have s1 : W3.cell? ⟨w.heap.size, 1, none⟩ = some (.int .i64 S.genders) := by rw [hW3]; simp
    have s2 : W3.cell? ⟨w.heap.size, 2, none⟩ = some (.int .i64 S.cases) := by rw [hW3]; simp
    have s3 : W3.cell? ⟨w.heap.size, 3, none⟩ = some (.int .i64 S.classes) := by rw [hW3]; simp
    have s4 : W3.cell? ⟨w.heap.size, 4, none⟩ = some (.slice at_ S.terms.length ct) := by rw [hW3]; simp
    have s5 : W3.cell? ⟨w.heap.size, 5, none⟩ = some (.slice ap S.plurals.length cp) := by rw [hW3]; simp
    have s6 : W3.cell? ⟨w.heap.size, 6, none⟩ = some (.slice as_ S.sets.length cs) := by rw [hW3]; simp
    have a0 : W3.cell? ⟨w.heap.size + 1, 0, none⟩ = some (.int .i64 a.num) := by rw [hW3]; simp
    have a1 : W3.cell? ⟨w.heap.size + 1, 1, none⟩ = some (.int .i64 a.set) := by rw [hW3]; simp
    have a2 : W3.cell? ⟨w.heap.size + 1, 2, none⟩ = some (.int .i64 a.gen) := by rw [hW3]; simp
    have a3 : W3.cell? ⟨w.heap.size + 1, 3, none⟩ = some (.int .i64 a.kas) := by rw [hW3]; simp
    have HW3 := Lib.hid hW3
    clear hW3
    have hs := cell_lt s0
    have ha := cell_lt a0
    go_enter Try.func21, Try.ntmps21
    go_wp2_with (go_at_call 47; refine (isB H47.out G1.out).mono ?_; rintro e w1 ⟨rfl, hb1⟩; have HB1 := bThen hBA hb1; have HB31 : Below W3.heap.size W3 w1 := bThen (by rw [HW3.out]; exact bAlloc (Below.refl _ _) _) hb1; clear hb1; have t0 := keep HB31 s0; have t1 := keep HB31 s1; have t2 := keep HB31 s2; have t3 := keep HB31 s3; have t4 := keep HB31 s4; have t5 := keep HB31 s5; have t6 := keep HB31 s6; have c0 := keep HB31 a0; have c1 := keep HB31 a1; have c2 := keep HB31 a2; have c3 := keep HB31 a3; clear s0 s1 s2 s3 s4 s5 s6 a0 a1 a2 a3; have hs := cell_lt t0; have ha := cell_lt c0)
    have HX := Lib.hid HB31
    clear HB31
    have h43 : ∀ W', Below w1.heap.size w1 W' → Calls Try.prog 43 #[.agg #[.int .i64 S.top, .int .i64 S.genders, .int .i64 S.cases, .int .i64 S.classes, .slice at_ S.terms.length ct, .slice ap S.plurals.length cp, .slice as_ S.sets.length cs]] W' fun e w' => (∃ b, e = .returned (.pointer (some ⟨b, 0, none⟩)) ∧ SplAt w' b S) ∧ Below W'.heap.size W' w' :=
      fun W' hB => newSpeller_any S _ _ _ W' (HP.out.keep (bThen HB1 hB))
    have h48 : ∀ b W', SplAt W' b S → Calls Try.prog 49 #[.pointer (some ⟨b, 0, none⟩), .agg #[.int .i64 a.num, .int .i64 a.set, .int .i64 a.gen, .int .i64 a.kas]] W' fun e w' => Traced S a e w' ∧ Below W'.heap.size W' w' :=
      fun b W' h => trace_any S a b W' HR.out.1 HR.out.2 h
    have HK1 : ∀ W', Below w1.heap.size w1 W' → (W'.cell? ⟨w.heap.size, 0, none⟩ = some (.int .i64 S.top) ∧ W'.cell? ⟨w.heap.size, 1, none⟩ = some (.int .i64 S.genders) ∧ W'.cell? ⟨w.heap.size, 2, none⟩ = some (.int .i64 S.cases) ∧ W'.cell? ⟨w.heap.size, 3, none⟩ = some (.int .i64 S.classes) ∧ W'.cell? ⟨w.heap.size, 4, none⟩ = some (.slice at_ S.terms.length ct) ∧ W'.cell? ⟨w.heap.size, 5, none⟩ = some (.slice ap S.plurals.length cp) ∧ W'.cell? ⟨w.heap.size, 6, none⟩ = some (.slice as_ S.sets.length cs) ∧ W'.cell? ⟨w.heap.size + 1, 0, none⟩ = some (.int .i64 a.num) ∧ W'.cell? ⟨w.heap.size + 1, 1, none⟩ = some (.int .i64 a.set) ∧ W'.cell? ⟨w.heap.size + 1, 2, none⟩ = some (.int .i64 a.gen) ∧ W'.cell? ⟨w.heap.size + 1, 3, none⟩ = some (.int .i64 a.kas)) :=
      fun W' hB => ⟨keep hB t0, keep hB t1, keep hB t2, keep hB t3, keep hB t4, keep hB t5, keep hB t6, keep hB c0, keep hB c1, keep hB c2, keep hB c3⟩
    refine wp_opaque fun Q2 hQ2 => ?_
    go_region_held3 (fun W' => (W'.cell? ⟨w.heap.size, 0, none⟩ = some (.int .i64 S.top) ∧ W'.cell? ⟨w.heap.size, 1, none⟩ = some (.int .i64 S.genders) ∧ W'.cell? ⟨w.heap.size, 2, none⟩ = some (.int .i64 S.cases) ∧ W'.cell? ⟨w.heap.size, 3, none⟩ = some (.int .i64 S.classes) ∧ W'.cell? ⟨w.heap.size, 4, none⟩ = some (.slice at_ S.terms.length ct) ∧ W'.cell? ⟨w.heap.size, 5, none⟩ = some (.slice ap S.plurals.length cp) ∧ W'.cell? ⟨w.heap.size, 6, none⟩ = some (.slice as_ S.sets.length cs) ∧ W'.cell? ⟨w.heap.size + 1, 0, none⟩ = some (.int .i64 a.num) ∧ W'.cell? ⟨w.heap.size + 1, 1, none⟩ = some (.int .i64 a.set) ∧ W'.cell? ⟨w.heap.size + 1, 2, none⟩ = some (.int .i64 a.gen) ∧ W'.cell? ⟨w.heap.size + 1, 3, none⟩ = some (.int .i64 a.kas))) (((try dsimp only); exact HK1 _ (by (repeat (first | exact Below.refl _ _ | refine Below.drew ?_ | refine bThen ?_ hb4 | refine bThen ?_ hb3))))) (first | (go_at_call 43; refine (h43 _ (by (repeat (first | exact Below.refl _ _ | refine Below.drew ?_)))).mono ?_; rintro e w3 ⟨⟨b, rfl, hspl⟩, hb3⟩; have HSP := Lib.hid hspl; clear hspl) | (go_at_call 49; refine (h48 _ _ HSP.out).mono ?_; rintro e w4 ⟨hsp, hb4⟩; obtain ⟨ad, k, c, t, rfl, hq⟩ := hsp.shape; clear hsp; have HQ := Lib.hid hq; clear hq))
    have HBF : Below w.heap.size w w4 := by (repeat (first | exact HB1 | refine Below.drew ?_ | refine bThen ?_ hb4 | refine bThen ?_ hb3))
    refine hQ2 _ _ _ ?_
    cases t
    · have hq := HQ.out.resolve_left (fun h => by cases h.1)
      go_wp2_with fail
      go_ret2
      exact ⟨.inr (.inl ⟨G1.out, hq.2.1, rfl⟩), HBF⟩
    · obtain ⟨-, ws, hq1, hq2⟩ := HQ.out.resolve_right (fun h => by cases h.1)
      go_wp2_with fail
      go_ret2
      exact ⟨.inr (.inr ⟨G1.out, ws, _, hq1, rfl, hq2⟩), HBF⟩
end Go.Proofs.Ytfcopnlpcbbocaa
