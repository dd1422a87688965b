/- The law of changes, walked: for every system, ask, set, rule and replacement it answers true. -/
import Derived.Test.YtfcopnlpcbbocaaS1
import Derived.Test.YtfcopnlpcbbocaaI5
import Derived.Test.YtfcopnlpcbbocaaR1
import Derived.Test.YtfcopnlpcbbocaaK1
import Derived.Deep.RegionHeld3
set_option linter.unusedSimpArgs false
set_option linter.unusedVariables false
namespace Go.Proofs.Ytfcopnlpcbbocaa
open Go.RowKit

theorem scanErr_ref' (S : Sys) (a : Ask) : refErr S a true = scanErr a [S] := by
  unfold refErr scanErr; simp
theorem scanErr_one' (S : Sys) (a : Ask) : scanErr a [S] = if askOk S a = true then (if 20000 < a.num then 4 else 0) else 2 := by unfold scanErr; simp
theorem scanErr_two' (S T : Sys) (a : Ask) : scanErr a [S, T] = if askOk S a = true ∧ askOk T a = true then (if 20000 < a.num then 4 else 0) else 2 := by unfold scanErr; simp
theorem DiffPost.got {S T : Sys} {a : Ask} {e : Ending} {w : World} {L : List Nat} (h : DiffPost S T a e w) (he : scanErr a [S, T] = 0) (hL : diffTo S T a a.num.toNat = L) :
    ∃ ad c, e = .returned (.tuple #[.slice ad L.length c, .int .i64 0]) ∧ Hid (SliceV w (.slice ad L.length c) 1 IntAt (L.map fun n : Nat => (n : Int))) := by
  subst hL
  rcases h with ⟨h, -⟩ | ⟨-, ad, c, rfl, hs⟩
  · exact absurd he h
  · exact ⟨ad, c, rfl, Lib.hid hs⟩
theorem UsesPost.got {S : Sys} {a : Ask} {set rule : Int} {e : Ending} {w : World} {L : List Nat} (h : UsesPost S a set rule e w) (hr : hasRule S set rule = true) (he : scanErr a [S] = 0) (hL : usesTo S a a.num.toNat set rule = L) :
    ∃ ad c, e = .returned (.tuple #[.slice ad L.length c, .int .i64 0]) ∧ Hid (SliceV w (.slice ad L.length c) 1 IntAt (L.map fun n : Nat => (n : Int))) := by
  subst hL
  rcases h with ⟨h, -⟩ | ⟨-, h, -⟩ | ⟨-, -, ad, c, rfl, hs⟩
  · rw [hr] at h; cases h
  · exact absurd he h
  · exact ⟨ad, c, rfl, Lib.hid hs⟩
theorem info55 : (Try.prog.info? 55).map (fun i => (i.zero, i.size, i.bytes)) = some (some (.slice none 0 0), 1, 24) := by kernel_rfl
theorem new_cell {W W' : World} {cs : Array Value} {t j : Nat} {v : Value} (hB : Below (W.heap.size + 1) (W.alloc (.cells cs t)) W') (h : cs[j]? = some v) : W'.cell? ⟨W.heap.size, j, none⟩ = some v :=
  (hB.cell (p := ⟨W.heap.size, j, none⟩) (Nat.lt_succ_self _)).trans (cell_new h)
theorem new_free {W W' : World} {cs : Array Value} {t : Nat} (hB : Below (W.heap.size + 1) (W.alloc (.cells cs t)) W') (j : Nat) : W'.frozen? ⟨W.heap.size, j, none⟩ = false :=
  (hB.frozen (p := ⟨W.heap.size, j, none⟩) (Nat.lt_succ_self _)).trans (by simp)
theorem free_new (V : World) (cs : Array Value) (t j : Nat) : (V.alloc (.cells cs t)).frozen? ⟨V.heap.size, j, none⟩ = false := by simp
theorem free_3 (w : World) (o o' : Obj) (cs : Array Value) (t j : Nat) : (((w.alloc o).alloc o').alloc (.cells cs t)).frozen? ⟨w.heap.size + 1 + 1, j, none⟩ = false := by
  have h := free_new ((w.alloc o).alloc o') cs t j
  rwa [World.size_alloc, World.size_alloc] at h
theorem off {W : World} {b c j o : Nat} {v x : Value} (h : b ≠ c) (hc : W.cell? ⟨b, j, none⟩ = some v) : (W.setCell ⟨c, o, none⟩ x).cell? ⟨b, j, none⟩ = some v :=
  (World.cell?_setCell_far W ⟨c, o, none⟩ ⟨b, j, none⟩ x (Ne.symm h)).trans hc
theorem off2 {W : World} {b j o : Nat} {v x : Value} (h : j ≠ o) (hc : W.cell? ⟨b, j, none⟩ = some v) : (W.setCell ⟨b, o, none⟩ x).cell? ⟨b, j, none⟩ = some v :=
  (World.cell?_setCell_other W ⟨b, o, none⟩ ⟨b, j, none⟩ x (fun e => h (congrArg Addr.off e).symm)).trans hc
theorem off3 {W : World} {b c j o1 o2 o3 : Nat} {v x1 x2 x3 : Value} (h : b ≠ c) (hc : W.cell? ⟨b, j, none⟩ = some v) : (((W.setCell ⟨c, o1, none⟩ x1).setCell ⟨c, o2, none⟩ x2).setCell ⟨c, o3, none⟩ x3).cell? ⟨b, j, none⟩ = some v := off h (off h (off h hc))
theorem grown_cell (W : World) (c o : Nat) (x : Value) : W.grownBy (W.setCell ⟨c, o, none⟩ x) (some c) :=
  ⟨rfl, rfl, rfl, by simp, fun k _ hk => heap_setCell_other W ⟨c, o, none⟩ k x (fun e => hk (by simp [e]))⟩
theorem row_off {W : World} {base e size g n cap c o : Nat} {xs : List Value} {x : Value} (h : W.ownsRow base e size (.slice (some ⟨g, 0, none⟩) n cap) n xs) (hne : g ≠ c) : (W.setCell ⟨c, o, none⟩ x).ownsRow base e size (.slice (some ⟨g, 0, none⟩) n cap) n xs :=
  h.kept (grown_cell W c o x) (.inr (by simp only [Value.ownBlock]; intro e; exact hne (Option.some.inj e)))
theorem sets_few {S : Sys} (h : Right S) : S.sets.length ≤ 8 := by
  have h1 := h.ok
  simp only [sysOk, sizesOk, betw, Bool.and_eq_true, decide_eq_true_eq] at h1
  omega
theorem set_few {S : Sys} (h : Right S) {i : Int} (h0 : 0 ≤ i) (h1 : i < S.sets.length) : (setOf S i).length ≤ 200 := by
  obtain ⟨l, -, h2, h3⟩ := h.set h0 h1
  rw [h2]
  exact (setRight_of h3).few

set_option maxRecDepth 100000 in
set_option maxHeartbeats 16000000 in
theorem change_any (S : Sys) (a : Ask) (set rule : Int) (R : Rul) (vt vp vs vr : Value) (w : World) (hp : SysParts w vt vp vs S) (hr : SliceV w vr 4 PceAt R.pieces) :
    Calls Try.prog 11 #[sysVal S vt vp vs, a.val, .int .i64 set, .int .i64 rule, .agg #[.int .i64 R.base, .int .i64 R.div, vr]] w fun e w' => e = .returned (.bool true) ∧ Below w.heap.size w w' := by
  have HPS := Lib.hid hp
  have HRP := Lib.hid hr
  obtain ⟨⟨at_, ct, rfl, -⟩, ⟨ap, cp, rfl, -⟩, ⟨as_, cs, rfl, hsl', hx⟩⟩ := hp
  obtain ⟨ra, rc, rfl, hrl', -⟩ := hr
  unfold most at hsl' hrl'
  have HSV := Lib.hid (sysVal_eq S (.slice at_ S.terms.length ct) (.slice ap S.plurals.length cp) (.slice as_ S.sets.length cs))
  have HXS := Lib.hid hx
  clear hx
  unfold sysVal Ask.val
  have h34 : ∀ T ut up us W', SysParts W' (.slice at_ S.terms.length ct) (.slice ap S.plurals.length cp) (.slice as_ S.sets.length cs) S → SysParts W' ut up us T → Calls Try.prog 34 #[.agg #[.int .i64 S.top, .int .i64 S.genders, .int .i64 S.cases, .int .i64 S.classes, .slice at_ S.terms.length ct, .slice ap S.plurals.length cp, .slice as_ S.sets.length cs], sysVal T ut up us, .agg #[.int .i64 a.num, .int .i64 a.set, .int .i64 a.gen, .int .i64 a.kas]] W' fun e w' => DiffPost S T a e w' ∧ Below W'.heap.size W' w' := fun T ut up us W' h h' => Differ_any S T a _ _ _ _ _ _ W' h h'
  have h22 : ∀ W', SysParts W' (.slice at_ S.terms.length ct) (.slice ap S.plurals.length cp) (.slice as_ S.sets.length cs) S → Calls Try.prog 22 #[.agg #[.int .i64 S.top, .int .i64 S.genders, .int .i64 S.cases, .int .i64 S.classes, .slice at_ S.terms.length ct, .slice ap S.plurals.length cp, .slice as_ S.sets.length cs], .agg #[.int .i64 a.num, .int .i64 a.set, .int .i64 a.gen, .int .i64 a.kas], .bool true] W' fun e w' => e = .returned (.int .i64 (refErr S a true)) ∧ Below W'.heap.size W' w' := fun W' h => refused_any S a true _ _ _ W' h
  have H34 := Lib.hid h34
  have H22 := Lib.hid h22
  clear h34 h22
  by_cases c1 : 200 < a.num
  · go_enter Try.func11, Try.ntmps11
    go_wp2_with fail
    generalize hW1 : World.alloc (World.alloc (World.alloc w _) _) _ = W1
    have hbn : Below w.heap.size w W1 := by rw [← hW1]; exact bAlloc (bAlloc (bAlloc (Below.refl _ _) _) _) _
    have hsz : w.heap.size + 1 + 1 + 1 = W1.heap.size := by rw [← hW1]; simp
    have s0 : W1.cell? ⟨w.heap.size, 0, none⟩ = some (.int .i64 S.top) := by rw [← hW1]; exact cell_1 rfl
    have s1 : W1.cell? ⟨w.heap.size, 1, none⟩ = some (.int .i64 S.genders) := by rw [← hW1]; exact cell_1 rfl
    have s2 : W1.cell? ⟨w.heap.size, 2, none⟩ = some (.int .i64 S.cases) := by rw [← hW1]; exact cell_1 rfl
    have s3 : W1.cell? ⟨w.heap.size, 3, none⟩ = some (.int .i64 S.classes) := by rw [← hW1]; exact cell_1 rfl
    have s4 : W1.cell? ⟨w.heap.size, 4, none⟩ = some (.slice at_ S.terms.length ct) := by rw [← hW1]; exact cell_1 rfl
    have s5 : W1.cell? ⟨w.heap.size, 5, none⟩ = some (.slice ap S.plurals.length cp) := by rw [← hW1]; exact cell_1 rfl
    have s6 : W1.cell? ⟨w.heap.size, 6, none⟩ = some (.slice as_ S.sets.length cs) := by rw [← hW1]; exact cell_1 rfl
    have a0 : W1.cell? ⟨w.heap.size + 1, 0, none⟩ = some (.int .i64 a.num) := by rw [← hW1]; exact cell_2 rfl
    have a1 : W1.cell? ⟨w.heap.size + 1, 1, none⟩ = some (.int .i64 a.set) := by rw [← hW1]; exact cell_2 rfl
    have a2 : W1.cell? ⟨w.heap.size + 1, 2, none⟩ = some (.int .i64 a.gen) := by rw [← hW1]; exact cell_2 rfl
    have a3 : W1.cell? ⟨w.heap.size + 1, 3, none⟩ = some (.int .i64 a.kas) := by rw [← hW1]; exact cell_2 rfl
    have r0 : W1.cell? ⟨w.heap.size + 1 + 1, 0, none⟩ = some (.int .i64 R.base) := by rw [← hW1]; exact cell_3 rfl
    have r1 : W1.cell? ⟨w.heap.size + 1 + 1, 1, none⟩ = some (.int .i64 R.div) := by rw [← hW1]; exact cell_3 rfl
    have r2 : W1.cell? ⟨w.heap.size + 1 + 1, 2, none⟩ = some (.slice ra R.pieces.length rc) := by rw [← hW1]; exact cell_3 rfl
    have fr : W1.frozen? ⟨w.heap.size + 1 + 1, 0, none⟩ = false := by rw [← hW1]; exact free_3 _ _ _ _ _ _
    have HB := Lib.hid hbn
    have HPn := Lib.hid (HPS.out.keep hbn)
    have HSZ := Lib.hid (Nat.le_of_eq hsz)
    (try (replace c0 := keep hbn c0))
    (try (have hxb := cell_lt c0))
    have hsl := cell_lt s0
    have hal := cell_lt a0
    have hrl := cell_lt r0
    clear hW1 hbn hsz
    go_wp2_with (first
      | (go_at_call 14; rw [HSV.out]; refine (small_any S _ _ _ _ HPn.out).mono ?_; rintro e w1 ⟨⟨b, rfl⟩, hb⟩; replace s0 := keep hb s0; replace s1 := keep hb s1; replace s2 := keep hb s2; replace s3 := keep hb s3; replace s4 := keep hb s4; replace s5 := keep hb s5; replace s6 := keep hb s6; replace a0 := keep hb a0; replace a1 := keep hb a1; replace a2 := keep hb a2; replace a3 := keep hb a3; replace r0 := keep hb r0; replace r1 := keep hb r1; replace r2 := keep hb r2; replace fr := (hb.frozen (p := ⟨w.heap.size + 1 + 1, 0, none⟩) hrl).trans fr; replace hsl := cell_lt s0; replace hal := cell_lt a0; replace hrl := cell_lt r0; replace HPn := Lib.hid (HPn.out.keep hb); replace HB := Lib.hid (bThen HB.out hb); (try (replace c0 := keep hb c0; replace hxb := cell_lt c0)); replace HSZ := Lib.hid (Nat.le_trans HSZ.out hb.size); clear hb; cases b)
      | (go_at_call 15; refine (known_any _).mono ?_; rintro e wk ⟨rfl, hb⟩; replace HB := Lib.hid (bThen HB.out hb); clear hb)
      | (go_at_call 22; refine (H22.out _ HPn.out).mono ?_; rintro e w4 ⟨rfl, hb⟩; rw [HER.out]; replace s0 := keep hb s0; replace s1 := keep hb s1; replace s2 := keep hb s2; replace s3 := keep hb s3; replace s4 := keep hb s4; replace s5 := keep hb s5; replace s6 := keep hb s6; replace a0 := keep hb a0; replace a1 := keep hb a1; replace a2 := keep hb a2; replace a3 := keep hb a3; replace r0 := keep hb r0; replace r1 := keep hb r1; replace r2 := keep hb r2; replace fr := (hb.frozen (p := ⟨w.heap.size + 1 + 1, 0, none⟩) hrl).trans fr; replace hsl := cell_lt s0; replace hal := cell_lt a0; replace hrl := cell_lt r0; replace HPn := Lib.hid (HPn.out.keep hb); replace HB := Lib.hid (bThen HB.out hb); (try (replace c0 := keep hb c0; replace hxb := cell_lt c0)); replace HSZ := Lib.hid (Nat.le_trans HSZ.out hb.size); clear hb))
    all_goals
      first
        | (go_ret; exact ⟨rfl, HB.out⟩)
        | (exfalso; omega)
  cases hok : askOk S a
  · have HER : Hid (refErr S a true = 2) := Lib.hid (by rw [scanErr_ref', scanErr_one']; simp [hok])
    clear hok
    go_enter Try.func11, Try.ntmps11
    go_wp2_with fail
    generalize hW1 : World.alloc (World.alloc (World.alloc w _) _) _ = W1
    have hbn : Below w.heap.size w W1 := by rw [← hW1]; exact bAlloc (bAlloc (bAlloc (Below.refl _ _) _) _) _
    have hsz : w.heap.size + 1 + 1 + 1 = W1.heap.size := by rw [← hW1]; simp
    have s0 : W1.cell? ⟨w.heap.size, 0, none⟩ = some (.int .i64 S.top) := by rw [← hW1]; exact cell_1 rfl
    have s1 : W1.cell? ⟨w.heap.size, 1, none⟩ = some (.int .i64 S.genders) := by rw [← hW1]; exact cell_1 rfl
    have s2 : W1.cell? ⟨w.heap.size, 2, none⟩ = some (.int .i64 S.cases) := by rw [← hW1]; exact cell_1 rfl
    have s3 : W1.cell? ⟨w.heap.size, 3, none⟩ = some (.int .i64 S.classes) := by rw [← hW1]; exact cell_1 rfl
    have s4 : W1.cell? ⟨w.heap.size, 4, none⟩ = some (.slice at_ S.terms.length ct) := by rw [← hW1]; exact cell_1 rfl
    have s5 : W1.cell? ⟨w.heap.size, 5, none⟩ = some (.slice ap S.plurals.length cp) := by rw [← hW1]; exact cell_1 rfl
    have s6 : W1.cell? ⟨w.heap.size, 6, none⟩ = some (.slice as_ S.sets.length cs) := by rw [← hW1]; exact cell_1 rfl
    have a0 : W1.cell? ⟨w.heap.size + 1, 0, none⟩ = some (.int .i64 a.num) := by rw [← hW1]; exact cell_2 rfl
    have a1 : W1.cell? ⟨w.heap.size + 1, 1, none⟩ = some (.int .i64 a.set) := by rw [← hW1]; exact cell_2 rfl
    have a2 : W1.cell? ⟨w.heap.size + 1, 2, none⟩ = some (.int .i64 a.gen) := by rw [← hW1]; exact cell_2 rfl
    have a3 : W1.cell? ⟨w.heap.size + 1, 3, none⟩ = some (.int .i64 a.kas) := by rw [← hW1]; exact cell_2 rfl
    have r0 : W1.cell? ⟨w.heap.size + 1 + 1, 0, none⟩ = some (.int .i64 R.base) := by rw [← hW1]; exact cell_3 rfl
    have r1 : W1.cell? ⟨w.heap.size + 1 + 1, 1, none⟩ = some (.int .i64 R.div) := by rw [← hW1]; exact cell_3 rfl
    have r2 : W1.cell? ⟨w.heap.size + 1 + 1, 2, none⟩ = some (.slice ra R.pieces.length rc) := by rw [← hW1]; exact cell_3 rfl
    have fr : W1.frozen? ⟨w.heap.size + 1 + 1, 0, none⟩ = false := by rw [← hW1]; exact free_3 _ _ _ _ _ _
    have HB := Lib.hid hbn
    have HPn := Lib.hid (HPS.out.keep hbn)
    have HSZ := Lib.hid (Nat.le_of_eq hsz)
    (try (replace c0 := keep hbn c0))
    (try (have hxb := cell_lt c0))
    have hsl := cell_lt s0
    have hal := cell_lt a0
    have hrl := cell_lt r0
    clear hW1 hbn hsz
    go_wp2_with (first
      | (go_at_call 14; rw [HSV.out]; refine (small_any S _ _ _ _ HPn.out).mono ?_; rintro e w1 ⟨⟨b, rfl⟩, hb⟩; replace s0 := keep hb s0; replace s1 := keep hb s1; replace s2 := keep hb s2; replace s3 := keep hb s3; replace s4 := keep hb s4; replace s5 := keep hb s5; replace s6 := keep hb s6; replace a0 := keep hb a0; replace a1 := keep hb a1; replace a2 := keep hb a2; replace a3 := keep hb a3; replace r0 := keep hb r0; replace r1 := keep hb r1; replace r2 := keep hb r2; replace fr := (hb.frozen (p := ⟨w.heap.size + 1 + 1, 0, none⟩) hrl).trans fr; replace hsl := cell_lt s0; replace hal := cell_lt a0; replace hrl := cell_lt r0; replace HPn := Lib.hid (HPn.out.keep hb); replace HB := Lib.hid (bThen HB.out hb); (try (replace c0 := keep hb c0; replace hxb := cell_lt c0)); replace HSZ := Lib.hid (Nat.le_trans HSZ.out hb.size); clear hb; cases b)
      | (go_at_call 15; refine (known_any _).mono ?_; rintro e wk ⟨rfl, hb⟩; replace HB := Lib.hid (bThen HB.out hb); clear hb)
      | (go_at_call 22; refine (H22.out _ HPn.out).mono ?_; rintro e w4 ⟨rfl, hb⟩; rw [HER.out]; replace s0 := keep hb s0; replace s1 := keep hb s1; replace s2 := keep hb s2; replace s3 := keep hb s3; replace s4 := keep hb s4; replace s5 := keep hb s5; replace s6 := keep hb s6; replace a0 := keep hb a0; replace a1 := keep hb a1; replace a2 := keep hb a2; replace a3 := keep hb a3; replace r0 := keep hb r0; replace r1 := keep hb r1; replace r2 := keep hb r2; replace fr := (hb.frozen (p := ⟨w.heap.size + 1 + 1, 0, none⟩) hrl).trans fr; replace hsl := cell_lt s0; replace hal := cell_lt a0; replace hrl := cell_lt r0; replace HPn := Lib.hid (HPn.out.keep hb); replace HB := Lib.hid (bThen HB.out hb); (try (replace c0 := keep hb c0; replace hxb := cell_lt c0)); replace HSZ := Lib.hid (Nat.le_trans HSZ.out hb.size); clear hb))
    all_goals
      first
        | (go_ret; exact ⟨rfl, HB.out⟩)
        | (exfalso; omega)
  have HER : Hid (refErr S a true = 0) := Lib.hid (by rw [scanErr_ref', scanErr_one']; simp [hok]; try omega)
  have HRT := Lib.hid (askRight_of hok)
  have HOK := Lib.hid hok
  clear hok
  by_cases hs0 : set < 0
  · go_enter Try.func11, Try.ntmps11
    go_wp2_with fail
    generalize hW1 : World.alloc (World.alloc (World.alloc w _) _) _ = W1
    have hbn : Below w.heap.size w W1 := by rw [← hW1]; exact bAlloc (bAlloc (bAlloc (Below.refl _ _) _) _) _
    have hsz : w.heap.size + 1 + 1 + 1 = W1.heap.size := by rw [← hW1]; simp
    have s0 : W1.cell? ⟨w.heap.size, 0, none⟩ = some (.int .i64 S.top) := by rw [← hW1]; exact cell_1 rfl
    have s1 : W1.cell? ⟨w.heap.size, 1, none⟩ = some (.int .i64 S.genders) := by rw [← hW1]; exact cell_1 rfl
    have s2 : W1.cell? ⟨w.heap.size, 2, none⟩ = some (.int .i64 S.cases) := by rw [← hW1]; exact cell_1 rfl
    have s3 : W1.cell? ⟨w.heap.size, 3, none⟩ = some (.int .i64 S.classes) := by rw [← hW1]; exact cell_1 rfl
    have s4 : W1.cell? ⟨w.heap.size, 4, none⟩ = some (.slice at_ S.terms.length ct) := by rw [← hW1]; exact cell_1 rfl
    have s5 : W1.cell? ⟨w.heap.size, 5, none⟩ = some (.slice ap S.plurals.length cp) := by rw [← hW1]; exact cell_1 rfl
    have s6 : W1.cell? ⟨w.heap.size, 6, none⟩ = some (.slice as_ S.sets.length cs) := by rw [← hW1]; exact cell_1 rfl
    have a0 : W1.cell? ⟨w.heap.size + 1, 0, none⟩ = some (.int .i64 a.num) := by rw [← hW1]; exact cell_2 rfl
    have a1 : W1.cell? ⟨w.heap.size + 1, 1, none⟩ = some (.int .i64 a.set) := by rw [← hW1]; exact cell_2 rfl
    have a2 : W1.cell? ⟨w.heap.size + 1, 2, none⟩ = some (.int .i64 a.gen) := by rw [← hW1]; exact cell_2 rfl
    have a3 : W1.cell? ⟨w.heap.size + 1, 3, none⟩ = some (.int .i64 a.kas) := by rw [← hW1]; exact cell_2 rfl
    have r0 : W1.cell? ⟨w.heap.size + 1 + 1, 0, none⟩ = some (.int .i64 R.base) := by rw [← hW1]; exact cell_3 rfl
    have r1 : W1.cell? ⟨w.heap.size + 1 + 1, 1, none⟩ = some (.int .i64 R.div) := by rw [← hW1]; exact cell_3 rfl
    have r2 : W1.cell? ⟨w.heap.size + 1 + 1, 2, none⟩ = some (.slice ra R.pieces.length rc) := by rw [← hW1]; exact cell_3 rfl
    have fr : W1.frozen? ⟨w.heap.size + 1 + 1, 0, none⟩ = false := by rw [← hW1]; exact free_3 _ _ _ _ _ _
    have HB := Lib.hid hbn
    have HPn := Lib.hid (HPS.out.keep hbn)
    have HSZ := Lib.hid (Nat.le_of_eq hsz)
    (try (replace c0 := keep hbn c0))
    (try (have hxb := cell_lt c0))
    have hsl := cell_lt s0
    have hal := cell_lt a0
    have hrl := cell_lt r0
    clear hW1 hbn hsz
    go_wp2_with (first
      | (go_at_call 14; rw [HSV.out]; refine (small_any S _ _ _ _ HPn.out).mono ?_; rintro e w1 ⟨⟨b, rfl⟩, hb⟩; replace s0 := keep hb s0; replace s1 := keep hb s1; replace s2 := keep hb s2; replace s3 := keep hb s3; replace s4 := keep hb s4; replace s5 := keep hb s5; replace s6 := keep hb s6; replace a0 := keep hb a0; replace a1 := keep hb a1; replace a2 := keep hb a2; replace a3 := keep hb a3; replace r0 := keep hb r0; replace r1 := keep hb r1; replace r2 := keep hb r2; replace fr := (hb.frozen (p := ⟨w.heap.size + 1 + 1, 0, none⟩) hrl).trans fr; replace hsl := cell_lt s0; replace hal := cell_lt a0; replace hrl := cell_lt r0; replace HPn := Lib.hid (HPn.out.keep hb); replace HB := Lib.hid (bThen HB.out hb); (try (replace c0 := keep hb c0; replace hxb := cell_lt c0)); replace HSZ := Lib.hid (Nat.le_trans HSZ.out hb.size); clear hb; cases b)
      | (go_at_call 15; refine (known_any _).mono ?_; rintro e wk ⟨rfl, hb⟩; replace HB := Lib.hid (bThen HB.out hb); clear hb)
      | (go_at_call 22; refine (H22.out _ HPn.out).mono ?_; rintro e w4 ⟨rfl, hb⟩; rw [HER.out]; replace s0 := keep hb s0; replace s1 := keep hb s1; replace s2 := keep hb s2; replace s3 := keep hb s3; replace s4 := keep hb s4; replace s5 := keep hb s5; replace s6 := keep hb s6; replace a0 := keep hb a0; replace a1 := keep hb a1; replace a2 := keep hb a2; replace a3 := keep hb a3; replace r0 := keep hb r0; replace r1 := keep hb r1; replace r2 := keep hb r2; replace fr := (hb.frozen (p := ⟨w.heap.size + 1 + 1, 0, none⟩) hrl).trans fr; replace hsl := cell_lt s0; replace hal := cell_lt a0; replace hrl := cell_lt r0; replace HPn := Lib.hid (HPn.out.keep hb); replace HB := Lib.hid (bThen HB.out hb); (try (replace c0 := keep hb c0; replace hxb := cell_lt c0)); replace HSZ := Lib.hid (Nat.le_trans HSZ.out hb.size); clear hb))
    all_goals
      first
        | (go_ret; exact ⟨rfl, HB.out⟩)
        | (exfalso; omega)
  by_cases hs1 : (S.sets.length : Int) ≤ set
  · go_enter Try.func11, Try.ntmps11
    go_wp2_with fail
    generalize hW1 : World.alloc (World.alloc (World.alloc w _) _) _ = W1
    have hbn : Below w.heap.size w W1 := by rw [← hW1]; exact bAlloc (bAlloc (bAlloc (Below.refl _ _) _) _) _
    have hsz : w.heap.size + 1 + 1 + 1 = W1.heap.size := by rw [← hW1]; simp
    have s0 : W1.cell? ⟨w.heap.size, 0, none⟩ = some (.int .i64 S.top) := by rw [← hW1]; exact cell_1 rfl
    have s1 : W1.cell? ⟨w.heap.size, 1, none⟩ = some (.int .i64 S.genders) := by rw [← hW1]; exact cell_1 rfl
    have s2 : W1.cell? ⟨w.heap.size, 2, none⟩ = some (.int .i64 S.cases) := by rw [← hW1]; exact cell_1 rfl
    have s3 : W1.cell? ⟨w.heap.size, 3, none⟩ = some (.int .i64 S.classes) := by rw [← hW1]; exact cell_1 rfl
    have s4 : W1.cell? ⟨w.heap.size, 4, none⟩ = some (.slice at_ S.terms.length ct) := by rw [← hW1]; exact cell_1 rfl
    have s5 : W1.cell? ⟨w.heap.size, 5, none⟩ = some (.slice ap S.plurals.length cp) := by rw [← hW1]; exact cell_1 rfl
    have s6 : W1.cell? ⟨w.heap.size, 6, none⟩ = some (.slice as_ S.sets.length cs) := by rw [← hW1]; exact cell_1 rfl
    have a0 : W1.cell? ⟨w.heap.size + 1, 0, none⟩ = some (.int .i64 a.num) := by rw [← hW1]; exact cell_2 rfl
    have a1 : W1.cell? ⟨w.heap.size + 1, 1, none⟩ = some (.int .i64 a.set) := by rw [← hW1]; exact cell_2 rfl
    have a2 : W1.cell? ⟨w.heap.size + 1, 2, none⟩ = some (.int .i64 a.gen) := by rw [← hW1]; exact cell_2 rfl
    have a3 : W1.cell? ⟨w.heap.size + 1, 3, none⟩ = some (.int .i64 a.kas) := by rw [← hW1]; exact cell_2 rfl
    have r0 : W1.cell? ⟨w.heap.size + 1 + 1, 0, none⟩ = some (.int .i64 R.base) := by rw [← hW1]; exact cell_3 rfl
    have r1 : W1.cell? ⟨w.heap.size + 1 + 1, 1, none⟩ = some (.int .i64 R.div) := by rw [← hW1]; exact cell_3 rfl
    have r2 : W1.cell? ⟨w.heap.size + 1 + 1, 2, none⟩ = some (.slice ra R.pieces.length rc) := by rw [← hW1]; exact cell_3 rfl
    have fr : W1.frozen? ⟨w.heap.size + 1 + 1, 0, none⟩ = false := by rw [← hW1]; exact free_3 _ _ _ _ _ _
    have HB := Lib.hid hbn
    have HPn := Lib.hid (HPS.out.keep hbn)
    have HSZ := Lib.hid (Nat.le_of_eq hsz)
    (try (replace c0 := keep hbn c0))
    (try (have hxb := cell_lt c0))
    have hsl := cell_lt s0
    have hal := cell_lt a0
    have hrl := cell_lt r0
    clear hW1 hbn hsz
    go_wp2_with (first
      | (go_at_call 14; rw [HSV.out]; refine (small_any S _ _ _ _ HPn.out).mono ?_; rintro e w1 ⟨⟨b, rfl⟩, hb⟩; replace s0 := keep hb s0; replace s1 := keep hb s1; replace s2 := keep hb s2; replace s3 := keep hb s3; replace s4 := keep hb s4; replace s5 := keep hb s5; replace s6 := keep hb s6; replace a0 := keep hb a0; replace a1 := keep hb a1; replace a2 := keep hb a2; replace a3 := keep hb a3; replace r0 := keep hb r0; replace r1 := keep hb r1; replace r2 := keep hb r2; replace fr := (hb.frozen (p := ⟨w.heap.size + 1 + 1, 0, none⟩) hrl).trans fr; replace hsl := cell_lt s0; replace hal := cell_lt a0; replace hrl := cell_lt r0; replace HPn := Lib.hid (HPn.out.keep hb); replace HB := Lib.hid (bThen HB.out hb); (try (replace c0 := keep hb c0; replace hxb := cell_lt c0)); replace HSZ := Lib.hid (Nat.le_trans HSZ.out hb.size); clear hb; cases b)
      | (go_at_call 15; refine (known_any _).mono ?_; rintro e wk ⟨rfl, hb⟩; replace HB := Lib.hid (bThen HB.out hb); clear hb)
      | (go_at_call 22; refine (H22.out _ HPn.out).mono ?_; rintro e w4 ⟨rfl, hb⟩; rw [HER.out]; replace s0 := keep hb s0; replace s1 := keep hb s1; replace s2 := keep hb s2; replace s3 := keep hb s3; replace s4 := keep hb s4; replace s5 := keep hb s5; replace s6 := keep hb s6; replace a0 := keep hb a0; replace a1 := keep hb a1; replace a2 := keep hb a2; replace a3 := keep hb a3; replace r0 := keep hb r0; replace r1 := keep hb r1; replace r2 := keep hb r2; replace fr := (hb.frozen (p := ⟨w.heap.size + 1 + 1, 0, none⟩) hrl).trans fr; replace hsl := cell_lt s0; replace hal := cell_lt a0; replace hrl := cell_lt r0; replace HPn := Lib.hid (HPn.out.keep hb); replace HB := Lib.hid (bThen HB.out hb); (try (replace c0 := keep hb c0; replace hxb := cell_lt c0)); replace HSZ := Lib.hid (Nat.le_trans HSZ.out hb.size); clear hb))
    all_goals
      first
        | (go_ret; exact ⟨rfl, HB.out⟩)
        | (exfalso; omega)
  have hat : set.toNat < S.sets.length := by omega
  rcases HXS.out with hnil | ⟨xb, xo, rfl, hf⟩
  · simp [hnil] at hat
  have HSC := Lib.hid (sets_cells hf)
  have HSF := Lib.hid hf
  obtain ⟨lv, c0, hlv⟩ := hf set.toNat hat
  have hse : S.sets[set.toNat] = setOf S set := by simp [setOf, List.getElem?_eq_getElem hat]
  rw [hse] at hlv
  simp only [Nat.mul_one] at c0
  have HLV := Lib.hid hlv
  obtain ⟨la, lc, rfl, hll, hlx⟩ := hlv
  unfold most at hll
  have hxb := cell_lt c0
  have HLX := Lib.hid hlx
  have C0 := Lib.hid c0
  clear hf hse hlx
  by_cases hr0 : rule < 0
  · go_enter Try.func11, Try.ntmps11
    go_wp2_with fail
    generalize hW1 : World.alloc (World.alloc (World.alloc w _) _) _ = W1
    have hbn : Below w.heap.size w W1 := by rw [← hW1]; exact bAlloc (bAlloc (bAlloc (Below.refl _ _) _) _) _
    have hsz : w.heap.size + 1 + 1 + 1 = W1.heap.size := by rw [← hW1]; simp
    have s0 : W1.cell? ⟨w.heap.size, 0, none⟩ = some (.int .i64 S.top) := by rw [← hW1]; exact cell_1 rfl
    have s1 : W1.cell? ⟨w.heap.size, 1, none⟩ = some (.int .i64 S.genders) := by rw [← hW1]; exact cell_1 rfl
    have s2 : W1.cell? ⟨w.heap.size, 2, none⟩ = some (.int .i64 S.cases) := by rw [← hW1]; exact cell_1 rfl
    have s3 : W1.cell? ⟨w.heap.size, 3, none⟩ = some (.int .i64 S.classes) := by rw [← hW1]; exact cell_1 rfl
    have s4 : W1.cell? ⟨w.heap.size, 4, none⟩ = some (.slice at_ S.terms.length ct) := by rw [← hW1]; exact cell_1 rfl
    have s5 : W1.cell? ⟨w.heap.size, 5, none⟩ = some (.slice ap S.plurals.length cp) := by rw [← hW1]; exact cell_1 rfl
    have s6 : W1.cell? ⟨w.heap.size, 6, none⟩ = some (.slice (some ⟨xb, xo, none⟩) S.sets.length cs) := by rw [← hW1]; exact cell_1 rfl
    have a0 : W1.cell? ⟨w.heap.size + 1, 0, none⟩ = some (.int .i64 a.num) := by rw [← hW1]; exact cell_2 rfl
    have a1 : W1.cell? ⟨w.heap.size + 1, 1, none⟩ = some (.int .i64 a.set) := by rw [← hW1]; exact cell_2 rfl
    have a2 : W1.cell? ⟨w.heap.size + 1, 2, none⟩ = some (.int .i64 a.gen) := by rw [← hW1]; exact cell_2 rfl
    have a3 : W1.cell? ⟨w.heap.size + 1, 3, none⟩ = some (.int .i64 a.kas) := by rw [← hW1]; exact cell_2 rfl
    have r0 : W1.cell? ⟨w.heap.size + 1 + 1, 0, none⟩ = some (.int .i64 R.base) := by rw [← hW1]; exact cell_3 rfl
    have r1 : W1.cell? ⟨w.heap.size + 1 + 1, 1, none⟩ = some (.int .i64 R.div) := by rw [← hW1]; exact cell_3 rfl
    have r2 : W1.cell? ⟨w.heap.size + 1 + 1, 2, none⟩ = some (.slice ra R.pieces.length rc) := by rw [← hW1]; exact cell_3 rfl
    have fr : W1.frozen? ⟨w.heap.size + 1 + 1, 0, none⟩ = false := by rw [← hW1]; exact free_3 _ _ _ _ _ _
    have HB := Lib.hid hbn
    have HPn := Lib.hid (HPS.out.keep hbn)
    have HSZ := Lib.hid (Nat.le_of_eq hsz)
    (try (replace c0 := keep hbn c0))
    (try (have hxb := cell_lt c0))
    have hsl := cell_lt s0
    have hal := cell_lt a0
    have hrl := cell_lt r0
    clear hW1 hbn hsz
    go_wp2_with (first
      | (go_at_call 14; rw [HSV.out]; refine (small_any S _ _ _ _ HPn.out).mono ?_; rintro e w1 ⟨⟨b, rfl⟩, hb⟩; replace s0 := keep hb s0; replace s1 := keep hb s1; replace s2 := keep hb s2; replace s3 := keep hb s3; replace s4 := keep hb s4; replace s5 := keep hb s5; replace s6 := keep hb s6; replace a0 := keep hb a0; replace a1 := keep hb a1; replace a2 := keep hb a2; replace a3 := keep hb a3; replace r0 := keep hb r0; replace r1 := keep hb r1; replace r2 := keep hb r2; replace fr := (hb.frozen (p := ⟨w.heap.size + 1 + 1, 0, none⟩) hrl).trans fr; replace hsl := cell_lt s0; replace hal := cell_lt a0; replace hrl := cell_lt r0; replace HPn := Lib.hid (HPn.out.keep hb); replace HB := Lib.hid (bThen HB.out hb); (try (replace c0 := keep hb c0; replace hxb := cell_lt c0)); replace HSZ := Lib.hid (Nat.le_trans HSZ.out hb.size); clear hb; cases b)
      | (go_at_call 15; refine (known_any _).mono ?_; rintro e wk ⟨rfl, hb⟩; replace HB := Lib.hid (bThen HB.out hb); clear hb)
      | (go_at_call 22; refine (H22.out _ HPn.out).mono ?_; rintro e w4 ⟨rfl, hb⟩; rw [HER.out]; replace s0 := keep hb s0; replace s1 := keep hb s1; replace s2 := keep hb s2; replace s3 := keep hb s3; replace s4 := keep hb s4; replace s5 := keep hb s5; replace s6 := keep hb s6; replace a0 := keep hb a0; replace a1 := keep hb a1; replace a2 := keep hb a2; replace a3 := keep hb a3; replace r0 := keep hb r0; replace r1 := keep hb r1; replace r2 := keep hb r2; replace fr := (hb.frozen (p := ⟨w.heap.size + 1 + 1, 0, none⟩) hrl).trans fr; replace hsl := cell_lt s0; replace hal := cell_lt a0; replace hrl := cell_lt r0; replace HPn := Lib.hid (HPn.out.keep hb); replace HB := Lib.hid (bThen HB.out hb); (try (replace c0 := keep hb c0; replace hxb := cell_lt c0)); replace HSZ := Lib.hid (Nat.le_trans HSZ.out hb.size); clear hb))
    all_goals
      first
        | (go_ret; exact ⟨rfl, HB.out⟩)
        | (exfalso; omega)
  by_cases hr1 : ((setOf S set).length : Int) ≤ rule
  · go_enter Try.func11, Try.ntmps11
    go_wp2_with fail
    generalize hW1 : World.alloc (World.alloc (World.alloc w _) _) _ = W1
    have hbn : Below w.heap.size w W1 := by rw [← hW1]; exact bAlloc (bAlloc (bAlloc (Below.refl _ _) _) _) _
    have hsz : w.heap.size + 1 + 1 + 1 = W1.heap.size := by rw [← hW1]; simp
    have s0 : W1.cell? ⟨w.heap.size, 0, none⟩ = some (.int .i64 S.top) := by rw [← hW1]; exact cell_1 rfl
    have s1 : W1.cell? ⟨w.heap.size, 1, none⟩ = some (.int .i64 S.genders) := by rw [← hW1]; exact cell_1 rfl
    have s2 : W1.cell? ⟨w.heap.size, 2, none⟩ = some (.int .i64 S.cases) := by rw [← hW1]; exact cell_1 rfl
    have s3 : W1.cell? ⟨w.heap.size, 3, none⟩ = some (.int .i64 S.classes) := by rw [← hW1]; exact cell_1 rfl
    have s4 : W1.cell? ⟨w.heap.size, 4, none⟩ = some (.slice at_ S.terms.length ct) := by rw [← hW1]; exact cell_1 rfl
    have s5 : W1.cell? ⟨w.heap.size, 5, none⟩ = some (.slice ap S.plurals.length cp) := by rw [← hW1]; exact cell_1 rfl
    have s6 : W1.cell? ⟨w.heap.size, 6, none⟩ = some (.slice (some ⟨xb, xo, none⟩) S.sets.length cs) := by rw [← hW1]; exact cell_1 rfl
    have a0 : W1.cell? ⟨w.heap.size + 1, 0, none⟩ = some (.int .i64 a.num) := by rw [← hW1]; exact cell_2 rfl
    have a1 : W1.cell? ⟨w.heap.size + 1, 1, none⟩ = some (.int .i64 a.set) := by rw [← hW1]; exact cell_2 rfl
    have a2 : W1.cell? ⟨w.heap.size + 1, 2, none⟩ = some (.int .i64 a.gen) := by rw [← hW1]; exact cell_2 rfl
    have a3 : W1.cell? ⟨w.heap.size + 1, 3, none⟩ = some (.int .i64 a.kas) := by rw [← hW1]; exact cell_2 rfl
    have r0 : W1.cell? ⟨w.heap.size + 1 + 1, 0, none⟩ = some (.int .i64 R.base) := by rw [← hW1]; exact cell_3 rfl
    have r1 : W1.cell? ⟨w.heap.size + 1 + 1, 1, none⟩ = some (.int .i64 R.div) := by rw [← hW1]; exact cell_3 rfl
    have r2 : W1.cell? ⟨w.heap.size + 1 + 1, 2, none⟩ = some (.slice ra R.pieces.length rc) := by rw [← hW1]; exact cell_3 rfl
    have fr : W1.frozen? ⟨w.heap.size + 1 + 1, 0, none⟩ = false := by rw [← hW1]; exact free_3 _ _ _ _ _ _
    have HB := Lib.hid hbn
    have HPn := Lib.hid (HPS.out.keep hbn)
    have HSZ := Lib.hid (Nat.le_of_eq hsz)
    (try (replace c0 := keep hbn c0))
    (try (have hxb := cell_lt c0))
    have hsl := cell_lt s0
    have hal := cell_lt a0
    have hrl := cell_lt r0
    clear hW1 hbn hsz
    go_wp2_with (first
      | (go_at_call 14; rw [HSV.out]; refine (small_any S _ _ _ _ HPn.out).mono ?_; rintro e w1 ⟨⟨b, rfl⟩, hb⟩; replace s0 := keep hb s0; replace s1 := keep hb s1; replace s2 := keep hb s2; replace s3 := keep hb s3; replace s4 := keep hb s4; replace s5 := keep hb s5; replace s6 := keep hb s6; replace a0 := keep hb a0; replace a1 := keep hb a1; replace a2 := keep hb a2; replace a3 := keep hb a3; replace r0 := keep hb r0; replace r1 := keep hb r1; replace r2 := keep hb r2; replace fr := (hb.frozen (p := ⟨w.heap.size + 1 + 1, 0, none⟩) hrl).trans fr; replace hsl := cell_lt s0; replace hal := cell_lt a0; replace hrl := cell_lt r0; replace HPn := Lib.hid (HPn.out.keep hb); replace HB := Lib.hid (bThen HB.out hb); (try (replace c0 := keep hb c0; replace hxb := cell_lt c0)); replace HSZ := Lib.hid (Nat.le_trans HSZ.out hb.size); clear hb; cases b)
      | (go_at_call 15; refine (known_any _).mono ?_; rintro e wk ⟨rfl, hb⟩; replace HB := Lib.hid (bThen HB.out hb); clear hb)
      | (go_at_call 22; refine (H22.out _ HPn.out).mono ?_; rintro e w4 ⟨rfl, hb⟩; rw [HER.out]; replace s0 := keep hb s0; replace s1 := keep hb s1; replace s2 := keep hb s2; replace s3 := keep hb s3; replace s4 := keep hb s4; replace s5 := keep hb s5; replace s6 := keep hb s6; replace a0 := keep hb a0; replace a1 := keep hb a1; replace a2 := keep hb a2; replace a3 := keep hb a3; replace r0 := keep hb r0; replace r1 := keep hb r1; replace r2 := keep hb r2; replace fr := (hb.frozen (p := ⟨w.heap.size + 1 + 1, 0, none⟩) hrl).trans fr; replace hsl := cell_lt s0; replace hal := cell_lt a0; replace hrl := cell_lt r0; replace HPn := Lib.hid (HPn.out.keep hb); replace HB := Lib.hid (bThen HB.out hb); (try (replace c0 := keep hb c0; replace hxb := cell_lt c0)); replace HSZ := Lib.hid (Nat.le_trans HSZ.out hb.size); clear hb))
    all_goals
      first
        | (go_ret; exact ⟨rfl, HB.out⟩)
        | (exfalso; omega)
  by_cases hr2 : 20 < (R.pieces.length : Int)
  · go_enter Try.func11, Try.ntmps11
    go_wp2_with fail
    generalize hW1 : World.alloc (World.alloc (World.alloc w _) _) _ = W1
    have hbn : Below w.heap.size w W1 := by rw [← hW1]; exact bAlloc (bAlloc (bAlloc (Below.refl _ _) _) _) _
    have hsz : w.heap.size + 1 + 1 + 1 = W1.heap.size := by rw [← hW1]; simp
    have s0 : W1.cell? ⟨w.heap.size, 0, none⟩ = some (.int .i64 S.top) := by rw [← hW1]; exact cell_1 rfl
    have s1 : W1.cell? ⟨w.heap.size, 1, none⟩ = some (.int .i64 S.genders) := by rw [← hW1]; exact cell_1 rfl
    have s2 : W1.cell? ⟨w.heap.size, 2, none⟩ = some (.int .i64 S.cases) := by rw [← hW1]; exact cell_1 rfl
    have s3 : W1.cell? ⟨w.heap.size, 3, none⟩ = some (.int .i64 S.classes) := by rw [← hW1]; exact cell_1 rfl
    have s4 : W1.cell? ⟨w.heap.size, 4, none⟩ = some (.slice at_ S.terms.length ct) := by rw [← hW1]; exact cell_1 rfl
    have s5 : W1.cell? ⟨w.heap.size, 5, none⟩ = some (.slice ap S.plurals.length cp) := by rw [← hW1]; exact cell_1 rfl
    have s6 : W1.cell? ⟨w.heap.size, 6, none⟩ = some (.slice (some ⟨xb, xo, none⟩) S.sets.length cs) := by rw [← hW1]; exact cell_1 rfl
    have a0 : W1.cell? ⟨w.heap.size + 1, 0, none⟩ = some (.int .i64 a.num) := by rw [← hW1]; exact cell_2 rfl
    have a1 : W1.cell? ⟨w.heap.size + 1, 1, none⟩ = some (.int .i64 a.set) := by rw [← hW1]; exact cell_2 rfl
    have a2 : W1.cell? ⟨w.heap.size + 1, 2, none⟩ = some (.int .i64 a.gen) := by rw [← hW1]; exact cell_2 rfl
    have a3 : W1.cell? ⟨w.heap.size + 1, 3, none⟩ = some (.int .i64 a.kas) := by rw [← hW1]; exact cell_2 rfl
    have r0 : W1.cell? ⟨w.heap.size + 1 + 1, 0, none⟩ = some (.int .i64 R.base) := by rw [← hW1]; exact cell_3 rfl
    have r1 : W1.cell? ⟨w.heap.size + 1 + 1, 1, none⟩ = some (.int .i64 R.div) := by rw [← hW1]; exact cell_3 rfl
    have r2 : W1.cell? ⟨w.heap.size + 1 + 1, 2, none⟩ = some (.slice ra R.pieces.length rc) := by rw [← hW1]; exact cell_3 rfl
    have fr : W1.frozen? ⟨w.heap.size + 1 + 1, 0, none⟩ = false := by rw [← hW1]; exact free_3 _ _ _ _ _ _
    have HB := Lib.hid hbn
    have HPn := Lib.hid (HPS.out.keep hbn)
    have HSZ := Lib.hid (Nat.le_of_eq hsz)
    (try (replace c0 := keep hbn c0))
    (try (have hxb := cell_lt c0))
    have hsl := cell_lt s0
    have hal := cell_lt a0
    have hrl := cell_lt r0
    clear hW1 hbn hsz
    go_wp2_with (first
      | (go_at_call 14; rw [HSV.out]; refine (small_any S _ _ _ _ HPn.out).mono ?_; rintro e w1 ⟨⟨b, rfl⟩, hb⟩; replace s0 := keep hb s0; replace s1 := keep hb s1; replace s2 := keep hb s2; replace s3 := keep hb s3; replace s4 := keep hb s4; replace s5 := keep hb s5; replace s6 := keep hb s6; replace a0 := keep hb a0; replace a1 := keep hb a1; replace a2 := keep hb a2; replace a3 := keep hb a3; replace r0 := keep hb r0; replace r1 := keep hb r1; replace r2 := keep hb r2; replace fr := (hb.frozen (p := ⟨w.heap.size + 1 + 1, 0, none⟩) hrl).trans fr; replace hsl := cell_lt s0; replace hal := cell_lt a0; replace hrl := cell_lt r0; replace HPn := Lib.hid (HPn.out.keep hb); replace HB := Lib.hid (bThen HB.out hb); (try (replace c0 := keep hb c0; replace hxb := cell_lt c0)); replace HSZ := Lib.hid (Nat.le_trans HSZ.out hb.size); clear hb; cases b)
      | (go_at_call 15; refine (known_any _).mono ?_; rintro e wk ⟨rfl, hb⟩; replace HB := Lib.hid (bThen HB.out hb); clear hb)
      | (go_at_call 22; refine (H22.out _ HPn.out).mono ?_; rintro e w4 ⟨rfl, hb⟩; rw [HER.out]; replace s0 := keep hb s0; replace s1 := keep hb s1; replace s2 := keep hb s2; replace s3 := keep hb s3; replace s4 := keep hb s4; replace s5 := keep hb s5; replace s6 := keep hb s6; replace a0 := keep hb a0; replace a1 := keep hb a1; replace a2 := keep hb a2; replace a3 := keep hb a3; replace r0 := keep hb r0; replace r1 := keep hb r1; replace r2 := keep hb r2; replace fr := (hb.frozen (p := ⟨w.heap.size + 1 + 1, 0, none⟩) hrl).trans fr; replace hsl := cell_lt s0; replace hal := cell_lt a0; replace hrl := cell_lt r0; replace HPn := Lib.hid (HPn.out.keep hb); replace HB := Lib.hid (bThen HB.out hb); (try (replace c0 := keep hb c0; replace hxb := cell_lt c0)); replace HSZ := Lib.hid (Nat.le_trans HSZ.out hb.size); clear hb))
    all_goals
      first
        | (go_ret; exact ⟨rfl, HB.out⟩)
        | (exfalso; omega)
  have hral : rule.toNat < (setOf S set).length := by omega
  rcases HLX.out with hnil | ⟨lb, lo, rfl, hlf⟩
  · simp [hnil] at hral
  have HLF := Lib.hid hlf
  have HLC := Lib.hid (rules_cells hlf)
  obtain ⟨b0, -, -⟩ := hlf rule.toNat hral
  have hn8 : S.sets.length ≤ 8 := sets_few HRT.out.1
  have hl200 : (setOf S set).length ≤ 200 := set_few (i := set) HRT.out.1 (by omega) (by omega)
  obtain ⟨i55, hi5, hy0, hy1, hy2⟩ := info_parts info55
  have HI5 := Lib.hid hi5
  obtain ⟨i54, hi4, hz0, hz1, hz2⟩ := info_parts info54
  have HI4 := Lib.hid hi4
  clear hlf hi5 hi4
  go_enter Try.func11, Try.ntmps11
  go_wp2_with fail
  generalize hW1 : World.alloc (World.alloc (World.alloc w _) _) _ = W1
  have hbn : Below w.heap.size w W1 := by rw [← hW1]; exact bAlloc (bAlloc (bAlloc (Below.refl _ _) _) _) _
  have hsz : w.heap.size + 1 + 1 + 1 = W1.heap.size := by rw [← hW1]; simp
  have s0 : W1.cell? ⟨w.heap.size, 0, none⟩ = some (.int .i64 S.top) := by rw [← hW1]; exact cell_1 rfl
  have s1 : W1.cell? ⟨w.heap.size, 1, none⟩ = some (.int .i64 S.genders) := by rw [← hW1]; exact cell_1 rfl
  have s2 : W1.cell? ⟨w.heap.size, 2, none⟩ = some (.int .i64 S.cases) := by rw [← hW1]; exact cell_1 rfl
  have s3 : W1.cell? ⟨w.heap.size, 3, none⟩ = some (.int .i64 S.classes) := by rw [← hW1]; exact cell_1 rfl
  have s4 : W1.cell? ⟨w.heap.size, 4, none⟩ = some (.slice at_ S.terms.length ct) := by rw [← hW1]; exact cell_1 rfl
  have s5 : W1.cell? ⟨w.heap.size, 5, none⟩ = some (.slice ap S.plurals.length cp) := by rw [← hW1]; exact cell_1 rfl
  have s6 : W1.cell? ⟨w.heap.size, 6, none⟩ = some (.slice (some ⟨xb, xo, none⟩) S.sets.length cs) := by rw [← hW1]; exact cell_1 rfl
  have a0 : W1.cell? ⟨w.heap.size + 1, 0, none⟩ = some (.int .i64 a.num) := by rw [← hW1]; exact cell_2 rfl
  have a1 : W1.cell? ⟨w.heap.size + 1, 1, none⟩ = some (.int .i64 a.set) := by rw [← hW1]; exact cell_2 rfl
  have a2 : W1.cell? ⟨w.heap.size + 1, 2, none⟩ = some (.int .i64 a.gen) := by rw [← hW1]; exact cell_2 rfl
  have a3 : W1.cell? ⟨w.heap.size + 1, 3, none⟩ = some (.int .i64 a.kas) := by rw [← hW1]; exact cell_2 rfl
  have r0 : W1.cell? ⟨w.heap.size + 1 + 1, 0, none⟩ = some (.int .i64 R.base) := by rw [← hW1]; exact cell_3 rfl
  have r1 : W1.cell? ⟨w.heap.size + 1 + 1, 1, none⟩ = some (.int .i64 R.div) := by rw [← hW1]; exact cell_3 rfl
  have r2 : W1.cell? ⟨w.heap.size + 1 + 1, 2, none⟩ = some (.slice ra R.pieces.length rc) := by rw [← hW1]; exact cell_3 rfl
  have fr : W1.frozen? ⟨w.heap.size + 1 + 1, 0, none⟩ = false := by rw [← hW1]; exact free_3 _ _ _ _ _ _
  have HB := Lib.hid hbn
  have HPn := Lib.hid (HPS.out.keep hbn)
  have HSZ := Lib.hid (Nat.le_of_eq hsz)
  (try (replace c0 := keep hbn c0))
  (try (have hxb := cell_lt c0))
  have hsl := cell_lt s0
  have hal := cell_lt a0
  have hrl := cell_lt r0
  clear hW1 hbn hsz
  go_wp2_with (first
    | (go_at_call 14; rw [HSV.out]; refine (small_any S _ _ _ _ HPn.out).mono ?_; rintro e w1 ⟨⟨b, rfl⟩, hb⟩; replace s0 := keep hb s0; replace s1 := keep hb s1; replace s2 := keep hb s2; replace s3 := keep hb s3; replace s4 := keep hb s4; replace s5 := keep hb s5; replace s6 := keep hb s6; replace a0 := keep hb a0; replace a1 := keep hb a1; replace a2 := keep hb a2; replace a3 := keep hb a3; replace r0 := keep hb r0; replace r1 := keep hb r1; replace r2 := keep hb r2; replace fr := (hb.frozen (p := ⟨w.heap.size + 1 + 1, 0, none⟩) hrl).trans fr; replace hsl := cell_lt s0; replace hal := cell_lt a0; replace hrl := cell_lt r0; replace HPn := Lib.hid (HPn.out.keep hb); replace HB := Lib.hid (bThen HB.out hb); (try (replace c0 := keep hb c0; replace hxb := cell_lt c0)); replace HSZ := Lib.hid (Nat.le_trans HSZ.out hb.size); clear hb; cases b)
    | (go_at_call 15; refine (known_any _).mono ?_; rintro e wk ⟨rfl, hb⟩; replace HB := Lib.hid (bThen HB.out hb); clear hb)
    | (go_at_call 22; refine (H22.out _ HPn.out).mono ?_; rintro e w4 ⟨rfl, hb⟩; rw [HER.out]; replace s0 := keep hb s0; replace s1 := keep hb s1; replace s2 := keep hb s2; replace s3 := keep hb s3; replace s4 := keep hb s4; replace s5 := keep hb s5; replace s6 := keep hb s6; replace a0 := keep hb a0; replace a1 := keep hb a1; replace a2 := keep hb a2; replace a3 := keep hb a3; replace r0 := keep hb r0; replace r1 := keep hb r1; replace r2 := keep hb r2; replace fr := (hb.frozen (p := ⟨w.heap.size + 1 + 1, 0, none⟩) hrl).trans fr; replace hsl := cell_lt s0; replace hal := cell_lt a0; replace hrl := cell_lt r0; replace HPn := Lib.hid (HPn.out.keep hb); replace HB := Lib.hid (bThen HB.out hb); (try (replace c0 := keep hb c0; replace hxb := cell_lt c0)); replace HSZ := Lib.hid (Nat.le_trans HSZ.out hb.size); clear hb)
    | (at_builtin; refine wpList_append_lies _ rfl _ _ 24 rfl (w4.heap.size + 1) 55 i55 (.slice none 0 0) 1 24 Try.underlying24 HI5.out hy0 hy1 hy2 rfl (by decide) (.slice none 0 0) 0 [] rfl (World.ownsRow_nil _ _ _ _) ⟨xb, xo, none⟩ S.sets.length cs (cellsFrom w xb xo S.sets.length) rfl (by rw [cellsFrom_len, Nat.mul_one]) (cellsFrom_news (bAlloc HB.out _) fun j hj => (let ⟨u, h1, _⟩ := HSC.out j hj; ⟨u, h1⟩)) (cellsFrom_one HSC.out) (by omega) (by unfold maxLen; omega) (by omega) (by simp) (w4.heap.size + 1) (by simp) ?_; intro g cap5 w5 hown hgrow hat hlt5; obtain rfl : g = w4.heap.size + 1 := (by simpa [Value.ownBlock] using hat); have hb5 : Below (w4.heap.size + 1) (w4.alloc (.cells #[.int .i64 S.top, .int .i64 S.genders, .int .i64 S.cases, .int .i64 S.classes, .slice at_ S.terms.length ct, .slice ap S.plurals.length cp, .slice (some ⟨xb, xo, none⟩) S.sets.length cs] 26)) w5 := (Below.refl _ _).grown hgrow (by simp) (by intro g h; simp [Value.ownBlock] at h); have hb : Below w4.heap.size w4 w5 := (bAlloc (Below.refl _ _) _).trans (hb5.mono (by omega)); simp only [Nat.zero_add, List.nil_append] at hown; rw [Nat.zero_add]; have HR1 := Lib.hid hown; have t0 : w5.cell? ⟨w4.heap.size, 0, none⟩ = some (.int .i64 S.top) := new_cell hb5 rfl; have t1 : w5.cell? ⟨w4.heap.size, 1, none⟩ = some (.int .i64 S.genders) := new_cell hb5 rfl; have t2 : w5.cell? ⟨w4.heap.size, 2, none⟩ = some (.int .i64 S.cases) := new_cell hb5 rfl; have t3 : w5.cell? ⟨w4.heap.size, 3, none⟩ = some (.int .i64 S.classes) := new_cell hb5 rfl; have t4 : w5.cell? ⟨w4.heap.size, 4, none⟩ = some (.slice at_ S.terms.length ct) := new_cell hb5 rfl; have t5 : w5.cell? ⟨w4.heap.size, 5, none⟩ = some (.slice ap S.plurals.length cp) := new_cell hb5 rfl; have t6 : w5.cell? ⟨w4.heap.size, 6, none⟩ = some (.slice (some ⟨xb, xo, none⟩) S.sets.length cs) := new_cell hb5 rfl; have f6 : w5.frozen? ⟨w4.heap.size, 6, none⟩ = false := new_free hb5 6; replace s0 := keep hb s0; replace s1 := keep hb s1; replace s2 := keep hb s2; replace s3 := keep hb s3; replace s4 := keep hb s4; replace s5 := keep hb s5; replace s6 := keep hb s6; replace a0 := keep hb a0; replace a1 := keep hb a1; replace a2 := keep hb a2; replace a3 := keep hb a3; replace r0 := keep hb r0; replace r1 := keep hb r1; replace r2 := keep hb r2; replace fr := (hb.frozen (p := ⟨w.heap.size + 1 + 1, 0, none⟩) hrl).trans fr; replace hsl := cell_lt s0; replace hal := cell_lt a0; replace hrl := cell_lt r0; replace HPn := Lib.hid (HPn.out.keep hb); replace HB := Lib.hid (bThen HB.out hb); (try (replace c0 := keep hb c0; replace hxb := cell_lt c0)); clear hb hb5 hown hgrow hat))
  · go_ret
    exact ⟨rfl, HB.out⟩
  · have hsz := HSZ.out
    generalize hV5 : World.setCell w5 _ _ = V5
    have hxw : xb < w.heap.size := cell_lt C0.out
    have HB5 := Lib.hid (show Below w.heap.size w V5 by rw [← hV5]; exact bSet HB.out (by omega))
    replace s0 := (by rw [← hV5]; exact off (by omega) s0 : V5.cell? ⟨w.heap.size, 0, none⟩ = some (.int .i64 S.top))
    replace s1 := (by rw [← hV5]; exact off (by omega) s1 : V5.cell? ⟨w.heap.size, 1, none⟩ = some (.int .i64 S.genders))
    replace s2 := (by rw [← hV5]; exact off (by omega) s2 : V5.cell? ⟨w.heap.size, 2, none⟩ = some (.int .i64 S.cases))
    replace s3 := (by rw [← hV5]; exact off (by omega) s3 : V5.cell? ⟨w.heap.size, 3, none⟩ = some (.int .i64 S.classes))
    replace s4 := (by rw [← hV5]; exact off (by omega) s4 : V5.cell? ⟨w.heap.size, 4, none⟩ = some (.slice at_ S.terms.length ct))
    replace s5 := (by rw [← hV5]; exact off (by omega) s5 : V5.cell? ⟨w.heap.size, 5, none⟩ = some (.slice ap S.plurals.length cp))
    replace s6 := (by rw [← hV5]; exact off (by omega) s6 : V5.cell? ⟨w.heap.size, 6, none⟩ = some (.slice (some ⟨xb, xo, none⟩) S.sets.length cs))
    replace a0 := (by rw [← hV5]; exact off (by omega) a0 : V5.cell? ⟨w.heap.size + 1, 0, none⟩ = some (.int .i64 a.num))
    replace a1 := (by rw [← hV5]; exact off (by omega) a1 : V5.cell? ⟨w.heap.size + 1, 1, none⟩ = some (.int .i64 a.set))
    replace a2 := (by rw [← hV5]; exact off (by omega) a2 : V5.cell? ⟨w.heap.size + 1, 2, none⟩ = some (.int .i64 a.gen))
    replace a3 := (by rw [← hV5]; exact off (by omega) a3 : V5.cell? ⟨w.heap.size + 1, 3, none⟩ = some (.int .i64 a.kas))
    replace r0 := (by rw [← hV5]; exact off (by omega) r0 : V5.cell? ⟨w.heap.size + 1 + 1, 0, none⟩ = some (.int .i64 R.base))
    replace r1 := (by rw [← hV5]; exact off (by omega) r1 : V5.cell? ⟨w.heap.size + 1 + 1, 1, none⟩ = some (.int .i64 R.div))
    replace r2 := (by rw [← hV5]; exact off (by omega) r2 : V5.cell? ⟨w.heap.size + 1 + 1, 2, none⟩ = some (.slice ra R.pieces.length rc))
    replace t0 := (by rw [← hV5]; exact off2 (by omega) t0 : V5.cell? ⟨w4.heap.size, 0, none⟩ = some (.int .i64 S.top))
    replace t1 := (by rw [← hV5]; exact off2 (by omega) t1 : V5.cell? ⟨w4.heap.size, 1, none⟩ = some (.int .i64 S.genders))
    replace t2 := (by rw [← hV5]; exact off2 (by omega) t2 : V5.cell? ⟨w4.heap.size, 2, none⟩ = some (.int .i64 S.cases))
    replace t3 := (by rw [← hV5]; exact off2 (by omega) t3 : V5.cell? ⟨w4.heap.size, 3, none⟩ = some (.int .i64 S.classes))
    replace t4 := (by rw [← hV5]; exact off2 (by omega) t4 : V5.cell? ⟨w4.heap.size, 4, none⟩ = some (.slice at_ S.terms.length ct))
    replace t5 := (by rw [← hV5]; exact off2 (by omega) t5 : V5.cell? ⟨w4.heap.size, 5, none⟩ = some (.slice ap S.plurals.length cp))
    replace t6 : V5.cell? ⟨w4.heap.size, 6, none⟩ = some (.slice (some ⟨w4.heap.size + 1, 0, none⟩) S.sets.length cap5) := by rw [← hV5]; exact World.cell?_setCell_same _ _ _ t6
    replace fr : V5.frozen? ⟨w.heap.size + 1 + 1, 0, none⟩ = false := by rw [← hV5]; simpa using fr
    replace HR1 := Lib.hid (show V5.ownsRow _ 55 1 (.slice (some ⟨w4.heap.size + 1, 0, none⟩) S.sets.length cap5) S.sets.length (cellsFrom w xb xo S.sets.length) by rw [← hV5]; exact row_off HR1.out (by omega))
    replace c0 := keep HB5.out C0.out
    have hz5 : w4.heap.size + 1 < V5.heap.size := by rw [← hV5]; simpa using hlt5
    clear hV5 f6 hlt5 HB
    have gc : V5.cell? ⟨w4.heap.size + 1, set.toNat, none⟩ = some (.slice (some ⟨lb, lo, none⟩) (setOf S set).length lc) := by
      rw [HR1.out.cellAt _ (by omega)]; exact cellsFrom_get hat C0.out
    have GF := Lib.hid (HR1.out.frozenAt set.toNat)
    replace hsl := cell_lt s0
    replace hxb := cell_lt c0
    have htl := cell_lt t6
    have HK5 : Hid (∀ W', Below V5.heap.size V5 W' → (W'.cell? ⟨w4.heap.size, 6, none⟩ = some (.slice (some ⟨w4.heap.size + 1, 0, none⟩) S.sets.length cap5) ∧ W'.cell? ⟨w.heap.size, 6, none⟩ = some (.slice (some ⟨xb, xo, none⟩) S.sets.length cs) ∧ W'.cell? ⟨xb, xo + set.toNat, none⟩ = some (.slice (some ⟨lb, lo, none⟩) (setOf S set).length lc))) := Lib.hid fun W' hB => ⟨keep hB t6, keep hB s6, keep hB c0⟩
    have HKS : Hid (∀ (W' : World) (v : Value), (W'.cell? ⟨w4.heap.size, 6, none⟩ = some (.slice (some ⟨w4.heap.size + 1, 0, none⟩) S.sets.length cap5) ∧ W'.cell? ⟨w.heap.size, 6, none⟩ = some (.slice (some ⟨xb, xo, none⟩) S.sets.length cs) ∧ W'.cell? ⟨xb, xo + set.toNat, none⟩ = some (.slice (some ⟨lb, lo, none⟩) (setOf S set).length lc)) → ((W'.setCell ⟨w4.heap.size + 1, set.toNat, none⟩ v).cell? ⟨w4.heap.size, 6, none⟩ = some (.slice (some ⟨w4.heap.size + 1, 0, none⟩) S.sets.length cap5) ∧ (W'.setCell ⟨w4.heap.size + 1, set.toNat, none⟩ v).cell? ⟨w.heap.size, 6, none⟩ = some (.slice (some ⟨xb, xo, none⟩) S.sets.length cs) ∧ (W'.setCell ⟨w4.heap.size + 1, set.toNat, none⟩ v).cell? ⟨xb, xo + set.toNat, none⟩ = some (.slice (some ⟨lb, lo, none⟩) (setOf S set).length lc))) := Lib.hid fun W' v h => ⟨off (by omega) h.1, off (by omega) h.2.1, off (by omega) h.2.2⟩
    go_region_held3 (fun W' => (W'.cell? ⟨w4.heap.size, 6, none⟩ = some (.slice (some ⟨w4.heap.size + 1, 0, none⟩) S.sets.length cap5) ∧ W'.cell? ⟨w.heap.size, 6, none⟩ = some (.slice (some ⟨xb, xo, none⟩) S.sets.length cs) ∧ W'.cell? ⟨xb, xo + set.toNat, none⟩ = some (.slice (some ⟨lb, lo, none⟩) (setOf S set).length lc))) (((try dsimp only); first | ((with_reducible refine HKS.out _ _ (HK5.out _ ?_)); (repeat (first | (with_reducible exact Below.refl _ _) | refine Below.drew ?_ | refine bThen ?_ hb6 | refine bAlloc ?_ _)); done) | ((with_reducible refine HK5.out _ ?_); (repeat (first | (with_reducible exact Below.refl _ _) | refine Below.drew ?_ | refine bThen ?_ hb6 | refine bAlloc ?_ _)); done))) ((refine step_append_lies _ (by rfl) _ _ _ (by rfl) V5.heap.size 54 i54 _ 3 40 Try.underlying55 HI4.out hz0 hz1 hz2 rfl (by omega) (.slice none 0 0) 0 [] (by rfl) (World.ownsRow_nil _ _ _ _) ⟨lb, lo, none⟩ (setOf S set).length lc (cellsFrom w lb lo ((setOf S set).length * 3)) (by rfl) (by rw [cellsFrom_len]) (cellsFrom_news (Below.drew HB5.out) fun j hj => (let ⟨u, h1, _⟩ := HLC.out j hj; ⟨u, h1⟩)) (cellsFrom_one HLC.out) (by omega) (by unfold maxLen; omega) (by omega) (by simp) V5.heap.size (by simp) ?_; intro g2 cap6 w6 hown2 hgrow2 hat2 hlt2; obtain rfl : g2 = V5.heap.size := (by simpa [Value.ownBlock] using hat2); have hb6 : Below V5.heap.size V5 w6 := Below.grown (Below.drew (Below.refl _ _)) hgrow2 (by simp) (by intro g h; simp [Value.ownBlock] at h); simp only [Nat.zero_add, List.nil_append] at hown2; rw [Nat.zero_add]; have HR2 := Lib.hid hown2; have gc6 := keep hb6 gc; have gf6 : w6.frozen? ⟨w4.heap.size + 1, set.toNat, none⟩ = false := (hb6.frozen (p := ⟨w4.heap.size + 1, set.toNat, none⟩) hz5).trans GF.out; clear hown2 hgrow2 hat2))
    generalize hV6 : World.setCell w6 _ _ = V6
    have HB6 := Lib.hid (show Below w.heap.size w V6 by rw [← hV6]; exact bSet (bThen HB5.out hb6) (by omega))
    replace s0 := (by rw [← hV6]; exact off (by omega) (keep hb6 s0) : V6.cell? ⟨w.heap.size, 0, none⟩ = some (.int .i64 S.top))
    replace s1 := (by rw [← hV6]; exact off (by omega) (keep hb6 s1) : V6.cell? ⟨w.heap.size, 1, none⟩ = some (.int .i64 S.genders))
    replace s2 := (by rw [← hV6]; exact off (by omega) (keep hb6 s2) : V6.cell? ⟨w.heap.size, 2, none⟩ = some (.int .i64 S.cases))
    replace s3 := (by rw [← hV6]; exact off (by omega) (keep hb6 s3) : V6.cell? ⟨w.heap.size, 3, none⟩ = some (.int .i64 S.classes))
    replace s4 := (by rw [← hV6]; exact off (by omega) (keep hb6 s4) : V6.cell? ⟨w.heap.size, 4, none⟩ = some (.slice at_ S.terms.length ct))
    replace s5 := (by rw [← hV6]; exact off (by omega) (keep hb6 s5) : V6.cell? ⟨w.heap.size, 5, none⟩ = some (.slice ap S.plurals.length cp))
    replace s6 := (by rw [← hV6]; exact off (by omega) (keep hb6 s6) : V6.cell? ⟨w.heap.size, 6, none⟩ = some (.slice (some ⟨xb, xo, none⟩) S.sets.length cs))
    replace a0 := (by rw [← hV6]; exact off (by omega) (keep hb6 a0) : V6.cell? ⟨w.heap.size + 1, 0, none⟩ = some (.int .i64 a.num))
    replace a1 := (by rw [← hV6]; exact off (by omega) (keep hb6 a1) : V6.cell? ⟨w.heap.size + 1, 1, none⟩ = some (.int .i64 a.set))
    replace a2 := (by rw [← hV6]; exact off (by omega) (keep hb6 a2) : V6.cell? ⟨w.heap.size + 1, 2, none⟩ = some (.int .i64 a.gen))
    replace a3 := (by rw [← hV6]; exact off (by omega) (keep hb6 a3) : V6.cell? ⟨w.heap.size + 1, 3, none⟩ = some (.int .i64 a.kas))
    replace t0 := (by rw [← hV6]; exact off (by omega) (keep hb6 t0) : V6.cell? ⟨w4.heap.size, 0, none⟩ = some (.int .i64 S.top))
    replace t1 := (by rw [← hV6]; exact off (by omega) (keep hb6 t1) : V6.cell? ⟨w4.heap.size, 1, none⟩ = some (.int .i64 S.genders))
    replace t2 := (by rw [← hV6]; exact off (by omega) (keep hb6 t2) : V6.cell? ⟨w4.heap.size, 2, none⟩ = some (.int .i64 S.cases))
    replace t3 := (by rw [← hV6]; exact off (by omega) (keep hb6 t3) : V6.cell? ⟨w4.heap.size, 3, none⟩ = some (.int .i64 S.classes))
    replace t4 := (by rw [← hV6]; exact off (by omega) (keep hb6 t4) : V6.cell? ⟨w4.heap.size, 4, none⟩ = some (.slice at_ S.terms.length ct))
    replace t5 := (by rw [← hV6]; exact off (by omega) (keep hb6 t5) : V6.cell? ⟨w4.heap.size, 5, none⟩ = some (.slice ap S.plurals.length cp))
    replace t6 := (by rw [← hV6]; exact off (by omega) (keep hb6 t6) : V6.cell? ⟨w4.heap.size, 6, none⟩ = some (.slice (some ⟨w4.heap.size + 1, 0, none⟩) S.sets.length cap5))
    replace r0 := (by rw [← hV6]; exact off (by omega) (keep hb6 r0) : V6.cell? ⟨w.heap.size + 1 + 1, 0, none⟩ = some (.int .i64 R.base))
    replace r1 := (by rw [← hV6]; exact off (by omega) (keep hb6 r1) : V6.cell? ⟨w.heap.size + 1 + 1, 1, none⟩ = some (.int .i64 R.div))
    replace r2 := (by rw [← hV6]; exact off (by omega) (keep hb6 r2) : V6.cell? ⟨w.heap.size + 1 + 1, 2, none⟩ = some (.slice ra R.pieces.length rc))
    replace fr : V6.frozen? ⟨w.heap.size + 1 + 1, 0, none⟩ = false := by rw [← hV6]; simpa using (hb6.frozen (p := ⟨w.heap.size + 1 + 1, 0, none⟩) (by show w.heap.size + 1 + 1 < _; omega)).trans fr
    have gc7 : V6.cell? ⟨w4.heap.size + 1, set.toNat, none⟩ = some (.slice (some ⟨V5.heap.size, 0, none⟩) (setOf S set).length cap6) := by rw [← hV6]; exact World.cell?_setCell_same _ _ _ gc6
    replace HR1 := Lib.hid (show V6.ownsRow _ 55 1 (.slice (some ⟨w4.heap.size + 1, 0, none⟩) S.sets.length cap5) S.sets.length ((cellsFrom w xb xo S.sets.length).set set.toNat (.slice (some ⟨V5.heap.size, 0, none⟩) (setOf S set).length cap6)) by rw [← hV6]; exact ((ownsRow_below HR1.out hb6).stored set.toNat _).1)
    replace HR2 := Lib.hid (show V6.ownsRow _ 54 3 (.slice (some ⟨V5.heap.size, 0, none⟩) (setOf S set).length cap6) (setOf S set).length (cellsFrom w lb lo ((setOf S set).length * 3)) by rw [← hV6]; exact row_off HR2.out (by omega))
    have hz6 : V5.heap.size < V6.heap.size := by rw [← hV6]; simpa using hlt2
    replace c0 := keep HB6.out C0.out
    have b7 := keep HB6.out b0
    clear hV6 gc6 gf6 hb6 hlt2 gc HB5 HK5 HKS
    replace hsl := cell_lt s0
    replace hrl := cell_lt r0
    replace htl := cell_lt t6
    replace hxb := cell_lt c0
    go_wp2_with fail
    generalize hV7 : World.setCell V6 _ _ = V7
    have HB7 := Lib.hid (show Below w.heap.size w V7 by rw [← hV7]; exact bSet HB6.out (by omega))
    replace s0 := (by rw [← hV7]; exact off (by omega) s0 : V7.cell? ⟨w.heap.size, 0, none⟩ = some (.int .i64 S.top))
    replace s1 := (by rw [← hV7]; exact off (by omega) s1 : V7.cell? ⟨w.heap.size, 1, none⟩ = some (.int .i64 S.genders))
    replace s2 := (by rw [← hV7]; exact off (by omega) s2 : V7.cell? ⟨w.heap.size, 2, none⟩ = some (.int .i64 S.cases))
    replace s3 := (by rw [← hV7]; exact off (by omega) s3 : V7.cell? ⟨w.heap.size, 3, none⟩ = some (.int .i64 S.classes))
    replace s4 := (by rw [← hV7]; exact off (by omega) s4 : V7.cell? ⟨w.heap.size, 4, none⟩ = some (.slice at_ S.terms.length ct))
    replace s5 := (by rw [← hV7]; exact off (by omega) s5 : V7.cell? ⟨w.heap.size, 5, none⟩ = some (.slice ap S.plurals.length cp))
    replace s6 := (by rw [← hV7]; exact off (by omega) s6 : V7.cell? ⟨w.heap.size, 6, none⟩ = some (.slice (some ⟨xb, xo, none⟩) S.sets.length cs))
    replace a0 := (by rw [← hV7]; exact off (by omega) a0 : V7.cell? ⟨w.heap.size + 1, 0, none⟩ = some (.int .i64 a.num))
    replace a1 := (by rw [← hV7]; exact off (by omega) a1 : V7.cell? ⟨w.heap.size + 1, 1, none⟩ = some (.int .i64 a.set))
    replace a2 := (by rw [← hV7]; exact off (by omega) a2 : V7.cell? ⟨w.heap.size + 1, 2, none⟩ = some (.int .i64 a.gen))
    replace a3 := (by rw [← hV7]; exact off (by omega) a3 : V7.cell? ⟨w.heap.size + 1, 3, none⟩ = some (.int .i64 a.kas))
    replace t0 := (by rw [← hV7]; exact off (by omega) t0 : V7.cell? ⟨w4.heap.size, 0, none⟩ = some (.int .i64 S.top))
    replace t1 := (by rw [← hV7]; exact off (by omega) t1 : V7.cell? ⟨w4.heap.size, 1, none⟩ = some (.int .i64 S.genders))
    replace t2 := (by rw [← hV7]; exact off (by omega) t2 : V7.cell? ⟨w4.heap.size, 2, none⟩ = some (.int .i64 S.cases))
    replace t3 := (by rw [← hV7]; exact off (by omega) t3 : V7.cell? ⟨w4.heap.size, 3, none⟩ = some (.int .i64 S.classes))
    replace t4 := (by rw [← hV7]; exact off (by omega) t4 : V7.cell? ⟨w4.heap.size, 4, none⟩ = some (.slice at_ S.terms.length ct))
    replace t5 := (by rw [← hV7]; exact off (by omega) t5 : V7.cell? ⟨w4.heap.size, 5, none⟩ = some (.slice ap S.plurals.length cp))
    replace t6 := (by rw [← hV7]; exact off (by omega) t6 : V7.cell? ⟨w4.heap.size, 6, none⟩ = some (.slice (some ⟨w4.heap.size + 1, 0, none⟩) S.sets.length cap5))
    replace r0 : V7.cell? ⟨w.heap.size + 1 + 1, 0, none⟩ = some (.int .i64 (setOf S set)[rule.toNat].base) := by rw [← hV7]; exact World.cell?_setCell_same _ _ _ r0
    replace r1 := (by rw [← hV7]; exact off2 (by omega) r1 : V7.cell? ⟨w.heap.size + 1 + 1, 1, none⟩ = some (.int .i64 R.div))
    replace r2 := (by rw [← hV7]; exact off2 (by omega) r2 : V7.cell? ⟨w.heap.size + 1 + 1, 2, none⟩ = some (.slice ra R.pieces.length rc))
    replace gc7 : V7.cell? ⟨w4.heap.size + 1, set.toNat, none⟩ = some (.slice (some ⟨V5.heap.size, 0, none⟩) (setOf S set).length cap6) := by rw [← hV7]; exact off (by omega) gc7
    replace HR1 := Lib.hid (show V7.ownsRow _ 55 1 (.slice (some ⟨w4.heap.size + 1, 0, none⟩) S.sets.length cap5) S.sets.length ((cellsFrom w xb xo S.sets.length).set set.toNat (.slice (some ⟨V5.heap.size, 0, none⟩) (setOf S set).length cap6)) by rw [← hV7]; exact row_off HR1.out (by omega))
    replace HR2 := Lib.hid (show V7.ownsRow _ 54 3 (.slice (some ⟨V5.heap.size, 0, none⟩) (setOf S set).length cap6) (setOf S set).length (cellsFrom w lb lo ((setOf S set).length * 3)) by rw [← hV7]; exact row_off HR2.out (by omega))
    have hz7 : V5.heap.size < V7.heap.size := by rw [← hV7]; simpa using hz6
    clear hV7 HB6 c0 b7 fr
    replace hsl := cell_lt s0
    replace hrl := cell_lt r0
    replace htl := cell_lt t6
    have hgl := cell_lt gc7
    obtain ⟨u0, hu0, -⟩ := HLC.out (rule.toNat * 3) (by omega)
    obtain ⟨u1, hu1, -⟩ := HLC.out (rule.toNat * 3 + 1) (by omega)
    obtain ⟨u2, hu2, -⟩ := HLC.out (rule.toNat * 3 + 2) (by omega)
    have e0 : V7.cell? ⟨V5.heap.size, rule.toNat * 3, none⟩ = some u0 := by rw [HR2.out.cellAt _ (by omega)]; exact cellsFrom_get (by omega) hu0
    have e1 : V7.cell? ⟨V5.heap.size, rule.toNat * 3 + 1, none⟩ = some u1 := by rw [HR2.out.cellAt _ (by omega)]; exact cellsFrom_get (by omega) hu1
    have e2 : V7.cell? ⟨V5.heap.size, rule.toNat * 3 + 2, none⟩ = some u2 := by rw [HR2.out.cellAt _ (by omega)]; exact cellsFrom_get (by omega) hu2
    have f0 := HR2.out.frozenAt (rule.toNat * 3)
    have f1 := HR2.out.frozenAt (rule.toNat * 3 + 1)
    have f2 := HR2.out.frozenAt (rule.toNat * 3 + 2)
    clear hu0 hu1 hu2
    have HK7 : Hid (∀ W', Below V7.heap.size V7 W' → (W'.cell? ⟨w4.heap.size, 6, none⟩ = some (.slice (some ⟨w4.heap.size + 1, 0, none⟩) S.sets.length cap5) ∧ W'.cell? ⟨w4.heap.size + 1, set.toNat, none⟩ = some (.slice (some ⟨V5.heap.size, 0, none⟩) (setOf S set).length cap6) ∧ W'.cell? ⟨w.heap.size + 1 + 1, 0, none⟩ = some (.int .i64 (setOf S set)[rule.toNat].base) ∧ W'.cell? ⟨w.heap.size + 1 + 1, 1, none⟩ = some (.int .i64 R.div) ∧ W'.cell? ⟨w.heap.size + 1 + 1, 2, none⟩ = some (.slice ra R.pieces.length rc))) := Lib.hid fun W' hB => ⟨keep hB t6, keep hB gc7, keep hB r0, keep hB r1, keep hB r2⟩
    go_region_held3 (fun W' => (W'.cell? ⟨w4.heap.size, 6, none⟩ = some (.slice (some ⟨w4.heap.size + 1, 0, none⟩) S.sets.length cap5) ∧ W'.cell? ⟨w4.heap.size + 1, set.toNat, none⟩ = some (.slice (some ⟨V5.heap.size, 0, none⟩) (setOf S set).length cap6) ∧ W'.cell? ⟨w.heap.size + 1 + 1, 0, none⟩ = some (.int .i64 (setOf S set)[rule.toNat].base) ∧ W'.cell? ⟨w.heap.size + 1 + 1, 1, none⟩ = some (.int .i64 R.div) ∧ W'.cell? ⟨w.heap.size + 1 + 1, 2, none⟩ = some (.slice ra R.pieces.length rc))) (((try dsimp only); first | ((with_reducible refine HK7.out _ ?_); (repeat (first | (with_reducible exact Below.refl _ _) | refine Below.drew ?_ | refine bThen ?_ hb6 | refine bAlloc ?_ _)); done) | exact ⟨off3 (by omega) t6, off3 (by omega) gc7, off3 (by omega) r0, off3 (by omega) r1, off3 (by omega) r2⟩)) (fail)
    generalize hV8 : World.drew (World.setCell (World.setCell (World.setCell V7 _ _) _ _) _ _) = V8
    have HB8 := Lib.hid (show Below w.heap.size w V8 by rw [← hV8]; exact Below.drew (bSet (bSet (bSet HB7.out (by omega)) (by omega)) (by omega)))
    replace s0 := (by rw [← hV8]; exact off3 (by omega) s0 : V8.cell? ⟨w.heap.size, 0, none⟩ = some (.int .i64 S.top))
    replace s1 := (by rw [← hV8]; exact off3 (by omega) s1 : V8.cell? ⟨w.heap.size, 1, none⟩ = some (.int .i64 S.genders))
    replace s2 := (by rw [← hV8]; exact off3 (by omega) s2 : V8.cell? ⟨w.heap.size, 2, none⟩ = some (.int .i64 S.cases))
    replace s3 := (by rw [← hV8]; exact off3 (by omega) s3 : V8.cell? ⟨w.heap.size, 3, none⟩ = some (.int .i64 S.classes))
    replace s4 := (by rw [← hV8]; exact off3 (by omega) s4 : V8.cell? ⟨w.heap.size, 4, none⟩ = some (.slice at_ S.terms.length ct))
    replace s5 := (by rw [← hV8]; exact off3 (by omega) s5 : V8.cell? ⟨w.heap.size, 5, none⟩ = some (.slice ap S.plurals.length cp))
    replace s6 := (by rw [← hV8]; exact off3 (by omega) s6 : V8.cell? ⟨w.heap.size, 6, none⟩ = some (.slice (some ⟨xb, xo, none⟩) S.sets.length cs))
    replace a0 := (by rw [← hV8]; exact off3 (by omega) a0 : V8.cell? ⟨w.heap.size + 1, 0, none⟩ = some (.int .i64 a.num))
    replace a1 := (by rw [← hV8]; exact off3 (by omega) a1 : V8.cell? ⟨w.heap.size + 1, 1, none⟩ = some (.int .i64 a.set))
    replace a2 := (by rw [← hV8]; exact off3 (by omega) a2 : V8.cell? ⟨w.heap.size + 1, 2, none⟩ = some (.int .i64 a.gen))
    replace a3 := (by rw [← hV8]; exact off3 (by omega) a3 : V8.cell? ⟨w.heap.size + 1, 3, none⟩ = some (.int .i64 a.kas))
    replace t0 := (by rw [← hV8]; exact off3 (by omega) t0 : V8.cell? ⟨w4.heap.size, 0, none⟩ = some (.int .i64 S.top))
    replace t1 := (by rw [← hV8]; exact off3 (by omega) t1 : V8.cell? ⟨w4.heap.size, 1, none⟩ = some (.int .i64 S.genders))
    replace t2 := (by rw [← hV8]; exact off3 (by omega) t2 : V8.cell? ⟨w4.heap.size, 2, none⟩ = some (.int .i64 S.cases))
    replace t3 := (by rw [← hV8]; exact off3 (by omega) t3 : V8.cell? ⟨w4.heap.size, 3, none⟩ = some (.int .i64 S.classes))
    replace t4 := (by rw [← hV8]; exact off3 (by omega) t4 : V8.cell? ⟨w4.heap.size, 4, none⟩ = some (.slice at_ S.terms.length ct))
    replace t5 := (by rw [← hV8]; exact off3 (by omega) t5 : V8.cell? ⟨w4.heap.size, 5, none⟩ = some (.slice ap S.plurals.length cp))
    replace t6 := (by rw [← hV8]; exact off3 (by omega) t6 : V8.cell? ⟨w4.heap.size, 6, none⟩ = some (.slice (some ⟨w4.heap.size + 1, 0, none⟩) S.sets.length cap5))
    have h1 : V8.ownsRow (w4.heap.size + 1) 55 1 (.slice (some ⟨w4.heap.size + 1, 0, none⟩) S.sets.length cap5) S.sets.length ((cellsFrom w xb xo S.sets.length).set set.toNat (.slice (some ⟨V5.heap.size, 0, none⟩) (setOf S set).length cap6)) := by rw [← hV8]; exact World.ownsRow.drew (row_off (row_off (row_off HR1.out (by omega)) (by omega)) (by omega))
    have h2 : V8.ownsRow V5.heap.size 54 3 (.slice (some ⟨V5.heap.size, 0, none⟩) (setOf S set).length cap6) (setOf S set).length ((((cellsFrom w lb lo ((setOf S set).length * 3)).set (rule.toNat * 3) (.int .i64 (setOf S set)[rule.toNat].base)).set (rule.toNat * 3 + 1) (.int .i64 R.div)).set (rule.toNat * 3 + 2) (.slice ra R.pieces.length rc)) := by rw [← hV8]; exact World.ownsRow.drew ((((HR2.out.stored _ _).1.stored _ _).1.stored _ _).1)
    obtain ⟨T, hT⟩ : ∃ T, T = swapR S set.toNat rule.toNat ⟨(setOf S set)[rule.toNat].base, R.div, R.pieces⟩ := ⟨_, rfl⟩
    have hq8 : SysParts V8 (.slice at_ S.terms.length ct) (.slice ap S.plurals.length cp) (.slice (some ⟨w4.heap.size + 1, 0, none⟩) S.sets.length cap5) T := by rw [hT]; exact swapped_parts (lc := 0) hs0 hs1 hr0 hr1 HB8.out HPS.out HSF.out HLF.out (by unfold most; omega) (by unfold most; omega) HRP.out h1 h2
    have HQn := Lib.hid hq8
    have HPn := Lib.hid (HPS.out.keep HB8.out)
    have hsw : Swap S T set rule := by
      have h := swapR_swap S set.toNat rule.toNat ⟨(setOf S set)[rule.toNat].base, R.div, R.pieces⟩ hat (fun x hx => by
        rw [show ((set.toNat : Nat) : Int) = set by omega, List.getElem?_eq_getElem hral] at hx
        injection hx with hx; rw [← hx])
      rw [show ((set.toNat : Nat) : Int) = set by omega, show ((rule.toNat : Nat) : Int) = rule by omega] at h
      rw [hT]; exact h
    have hlen : T.sets.length = S.sets.length := by rw [hT]; simp [swapR]
    have hlen2 : (setOf T set).length = (setOf S set).length := by rw [hT]; simp [swapR, setOf, hat, show ((set.toNat : Nat) : Int) = set by omega]
    have HTV : Hid (Value.agg #[.int .i64 S.top, .int .i64 S.genders, .int .i64 S.cases, .int .i64 S.classes, .slice at_ S.terms.length ct, .slice ap S.plurals.length cp, .slice (some ⟨w4.heap.size + 1, 0, none⟩) S.sets.length cap5] = sysVal T (.slice at_ S.terms.length ct) (.slice ap S.plurals.length cp) (.slice (some ⟨w4.heap.size + 1, 0, none⟩) S.sets.length cap5)) := Lib.hid (by rw [hT]; rfl)
    have hT4 : T.top = S.top ∧ T.genders = S.genders ∧ T.cases = S.cases := by rw [hT]; exact ⟨rfl, rfl, rfl⟩
    have HOKT : Hid (sysOk T = true → askOk T a = true) := Lib.hid fun hv => by
      have h := HOK.out
      simp only [askOk, Bool.and_eq_true] at h ⊢
      rw [hT4.1, hT4.2.1, hT4.2.2, hlen]
      exact ⟨⟨⟨⟨hv, h.1.1.1.2⟩, h.1.1.2⟩, h.1.2⟩, h.2⟩
    have HRS : Hid (hasRule S set rule = true) := Lib.hid (by simp [hasRule, exst]; omega)
    have HRTT : Hid (hasRule T set rule = true) := Lib.hid (by simp [hasRule, exst, hlen, hlen2]; omega)
    obtain ⟨LU, hLU⟩ : ∃ LU, LU = usesTo S a a.num.toNat set rule := ⟨_, rfl⟩
    obtain ⟨LD, hLD⟩ : ∃ LD, LD = diffTo S T a a.num.toNat := ⟨_, rfl⟩
    have HIN : Hid (∀ x ∈ LD.map (fun n : Nat => (n : Int)), x ∈ LU.map (fun n : Nat => (n : Int))) := Lib.hid (by rw [hLU, hLD]; exact hsw.within HRT.out.1 HRT.out.2)
    have HLU := Lib.hid hLU.symm
    have HLUT : Hid (usesTo T a a.num.toNat set rule = LU) := Lib.hid (by rw [hLU]; exact hsw.usesTo HRT.out.1 HRT.out.2)
    have HLD := Lib.hid hLD.symm
    have HES : Hid (scanErr a [S] = 0) := Lib.hid (by rw [scanErr_one']; simp [HOK.out]; omega)
    replace hsl := cell_lt s0
    replace htl := cell_lt t0
    have hal := cell_lt a0
    clear hV8 h1 h2 hT hq8 hsw hlen hlen2 hT4 hLU hLD e0 e1 e2 f0 f1 f2 HR1 HR2 gc7 r0 r1 r2 HK7 HB7 hz7 hgl
    have h36 : ∀ W', SysParts W' (.slice at_ S.terms.length ct) (.slice ap S.plurals.length cp) (.slice (some ⟨xb, xo, none⟩) S.sets.length cs) S → Calls Try.prog 36 #[.agg #[.int .i64 S.top, .int .i64 S.genders, .int .i64 S.cases, .int .i64 S.classes, .slice at_ S.terms.length ct, .slice ap S.plurals.length cp, .slice (some ⟨xb, xo, none⟩) S.sets.length cs], .agg #[.int .i64 a.num, .int .i64 a.set, .int .i64 a.gen, .int .i64 a.kas], .int .i64 set, .int .i64 rule] W' fun e w' => UsesPost S a set rule e w' ∧ Below W'.heap.size W' w' := fun W' h => Uses_any S a set rule _ _ _ W' h
    have H36 := Lib.hid h36
    have h36t : ∀ W', SysParts W' (.slice at_ S.terms.length ct) (.slice ap S.plurals.length cp) (.slice (some ⟨w4.heap.size + 1, 0, none⟩) S.sets.length cap5) T → Calls Try.prog 36 #[sysVal T (.slice at_ S.terms.length ct) (.slice ap S.plurals.length cp) (.slice (some ⟨w4.heap.size + 1, 0, none⟩) S.sets.length cap5), .agg #[.int .i64 a.num, .int .i64 a.set, .int .i64 a.gen, .int .i64 a.kas], .int .i64 set, .int .i64 rule] W' fun e w' => UsesPost T a set rule e w' ∧ Below W'.heap.size W' w' := fun W' h => Uses_any T a set rule _ _ _ W' h
    have H36T := Lib.hid h36t
    clear h36 h36t
    cases hv : sysOk T
    · have HV := Lib.hid hv
      clear hv
      go_wp2_with (first
        | (go_at_call 17; rw [HTV.out]; refine (isB (Valid_any T _ _ _ _ HQn.out) HV.out).mono ?_; rintro e wv ⟨rfl, hb⟩; replace s0 := keep hb s0; replace s1 := keep hb s1; replace s2 := keep hb s2; replace s3 := keep hb s3; replace s4 := keep hb s4; replace s5 := keep hb s5; replace s6 := keep hb s6; replace t0 := keep hb t0; replace t1 := keep hb t1; replace t2 := keep hb t2; replace t3 := keep hb t3; replace t4 := keep hb t4; replace t5 := keep hb t5; replace t6 := keep hb t6; replace a0 := keep hb a0; replace a1 := keep hb a1; replace a2 := keep hb a2; replace a3 := keep hb a3; replace hsl := cell_lt s0; replace htl := cell_lt t0; replace hal := cell_lt a0; replace HPn := Lib.hid (HPn.out.keep hb); replace HQn := Lib.hid (HQn.out.keep hb); replace HB8 := Lib.hid (bThen HB8.out hb); (try (replace HRD := Lib.hid (HRD.out.keep IntAt.stable hb))); (try (replace HRX := Lib.hid (HRX.out.keep IntAt.stable hb))); clear hb)
        | (go_at_call 15; refine (known_any _).mono ?_; rintro e wk ⟨rfl, hb⟩; replace HB8 := Lib.hid (bThen HB8.out hb); clear hb))
      go_ret
      exact ⟨rfl, HB8.out⟩
    · have HV := Lib.hid hv
      have HE2 : Hid (scanErr a [S, T] = 0) := Lib.hid (by rw [scanErr_two']; simp [HOK.out, HOKT.out hv]; omega)
      have HET : Hid (scanErr a [T] = 0) := Lib.hid (by rw [scanErr_one']; simp [HOKT.out hv]; omega)
      clear hv
      go_wp2_with (first
        | (go_at_call 17; rw [HTV.out]; refine (isB (Valid_any T _ _ _ _ HQn.out) HV.out).mono ?_; rintro e wv ⟨rfl, hb⟩; replace s0 := keep hb s0; replace s1 := keep hb s1; replace s2 := keep hb s2; replace s3 := keep hb s3; replace s4 := keep hb s4; replace s5 := keep hb s5; replace s6 := keep hb s6; replace t0 := keep hb t0; replace t1 := keep hb t1; replace t2 := keep hb t2; replace t3 := keep hb t3; replace t4 := keep hb t4; replace t5 := keep hb t5; replace t6 := keep hb t6; replace a0 := keep hb a0; replace a1 := keep hb a1; replace a2 := keep hb a2; replace a3 := keep hb a3; replace hsl := cell_lt s0; replace htl := cell_lt t0; replace hal := cell_lt a0; replace HPn := Lib.hid (HPn.out.keep hb); replace HQn := Lib.hid (HQn.out.keep hb); replace HB8 := Lib.hid (bThen HB8.out hb); (try (replace HRD := Lib.hid (HRD.out.keep IntAt.stable hb))); (try (replace HRX := Lib.hid (HRX.out.keep IntAt.stable hb))); clear hb)
        | (go_at_call 34; rw [HTV.out]; refine (H34.out T _ _ _ _ HPn.out HQn.out).mono ?_; rintro e wd ⟨hq, hb⟩; obtain ⟨adr, ccr, rfl, HRD⟩ := DiffPost.got hq HE2.out HLD.out; replace s0 := keep hb s0; replace s1 := keep hb s1; replace s2 := keep hb s2; replace s3 := keep hb s3; replace s4 := keep hb s4; replace s5 := keep hb s5; replace s6 := keep hb s6; replace t0 := keep hb t0; replace t1 := keep hb t1; replace t2 := keep hb t2; replace t3 := keep hb t3; replace t4 := keep hb t4; replace t5 := keep hb t5; replace t6 := keep hb t6; replace a0 := keep hb a0; replace a1 := keep hb a1; replace a2 := keep hb a2; replace a3 := keep hb a3; replace hsl := cell_lt s0; replace htl := cell_lt t0; replace hal := cell_lt a0; replace HPn := Lib.hid (HPn.out.keep hb); replace HQn := Lib.hid (HQn.out.keep hb); replace HB8 := Lib.hid (bThen HB8.out hb); (try (replace HRD := Lib.hid (HRD.out.keep IntAt.stable hb))); (try (replace HRX := Lib.hid (HRX.out.keep IntAt.stable hb))); clear hb hq)
        | (go_at_call 36; rw [HTV.out]; (with_reducible refine Calls.mono (H36T.out _ ?_) ?_); exact HQn.out; rintro e wy ⟨hq, hb⟩; obtain ⟨ady, ccy, rfl, HRY⟩ := UsesPost.got hq HRTT.out HET.out HLUT.out; replace s0 := keep hb s0; replace s1 := keep hb s1; replace s2 := keep hb s2; replace s3 := keep hb s3; replace s4 := keep hb s4; replace s5 := keep hb s5; replace s6 := keep hb s6; replace t0 := keep hb t0; replace t1 := keep hb t1; replace t2 := keep hb t2; replace t3 := keep hb t3; replace t4 := keep hb t4; replace t5 := keep hb t5; replace t6 := keep hb t6; replace a0 := keep hb a0; replace a1 := keep hb a1; replace a2 := keep hb a2; replace a3 := keep hb a3; replace hsl := cell_lt s0; replace htl := cell_lt t0; replace hal := cell_lt a0; replace HPn := Lib.hid (HPn.out.keep hb); replace HQn := Lib.hid (HQn.out.keep hb); replace HB8 := Lib.hid (bThen HB8.out hb); (try (replace HRD := Lib.hid (HRD.out.keep IntAt.stable hb))); (try (replace HRX := Lib.hid (HRX.out.keep IntAt.stable hb))); clear hb hq)
        | (go_at_call 36; (with_reducible refine Calls.mono (H36.out _ ?_) ?_); exact HPn.out; rintro e wx ⟨hq, hb⟩; obtain ⟨adx, ccx, rfl, HRX⟩ := UsesPost.got hq HRS.out HES.out HLU.out; replace s0 := keep hb s0; replace s1 := keep hb s1; replace s2 := keep hb s2; replace s3 := keep hb s3; replace s4 := keep hb s4; replace s5 := keep hb s5; replace s6 := keep hb s6; replace t0 := keep hb t0; replace t1 := keep hb t1; replace t2 := keep hb t2; replace t3 := keep hb t3; replace t4 := keep hb t4; replace t5 := keep hb t5; replace t6 := keep hb t6; replace a0 := keep hb a0; replace a1 := keep hb a1; replace a2 := keep hb a2; replace a3 := keep hb a3; replace hsl := cell_lt s0; replace htl := cell_lt t0; replace hal := cell_lt a0; replace HPn := Lib.hid (HPn.out.keep hb); replace HQn := Lib.hid (HQn.out.keep hb); replace HB8 := Lib.hid (bThen HB8.out hb); (try (replace HRD := Lib.hid (HRD.out.keep IntAt.stable hb))); (try (replace HRX := Lib.hid (HRX.out.keep IntAt.stable hb))); clear hb hq)
        | (go_at_call 29; refine (isB (Numbers_any (LU.map fun n : Nat => (n : Int)) (LU.map fun n : Nat => (n : Int)) _ _ _ HRX.out HRY.out) (show _ = true by simp)).mono ?_; rintro e wn ⟨rfl, hb⟩; replace s0 := keep hb s0; replace s1 := keep hb s1; replace s2 := keep hb s2; replace s3 := keep hb s3; replace s4 := keep hb s4; replace s5 := keep hb s5; replace s6 := keep hb s6; replace t0 := keep hb t0; replace t1 := keep hb t1; replace t2 := keep hb t2; replace t3 := keep hb t3; replace t4 := keep hb t4; replace t5 := keep hb t5; replace t6 := keep hb t6; replace a0 := keep hb a0; replace a1 := keep hb a1; replace a2 := keep hb a2; replace a3 := keep hb a3; replace hsl := cell_lt s0; replace htl := cell_lt t0; replace hal := cell_lt a0; replace HPn := Lib.hid (HPn.out.keep hb); replace HQn := Lib.hid (HQn.out.keep hb); replace HB8 := Lib.hid (bThen HB8.out hb); (try (replace HRD := Lib.hid (HRD.out.keep IntAt.stable hb))); (try (replace HRX := Lib.hid (HRX.out.keep IntAt.stable hb))); clear hb)
        | (go_at_call 40; refine (within_any (LD.map fun n : Nat => (n : Int)) (LU.map fun n : Nat => (n : Int)) _ _ _ (by have h := HRD.out; rw [← List.length_map (fun n : Nat => (n : Int))] at h; rw [← List.length_map (fun n : Nat => (n : Int))]; exact h) HRX.out HIN.out).mono ?_; rintro e wi ⟨rfl, hb⟩; replace s0 := keep hb s0; replace s1 := keep hb s1; replace s2 := keep hb s2; replace s3 := keep hb s3; replace s4 := keep hb s4; replace s5 := keep hb s5; replace s6 := keep hb s6; replace t0 := keep hb t0; replace t1 := keep hb t1; replace t2 := keep hb t2; replace t3 := keep hb t3; replace t4 := keep hb t4; replace t5 := keep hb t5; replace t6 := keep hb t6; replace a0 := keep hb a0; replace a1 := keep hb a1; replace a2 := keep hb a2; replace a3 := keep hb a3; replace hsl := cell_lt s0; replace htl := cell_lt t0; replace hal := cell_lt a0; replace HPn := Lib.hid (HPn.out.keep hb); replace HQn := Lib.hid (HQn.out.keep hb); replace HB8 := Lib.hid (bThen HB8.out hb); (try (replace HRD := Lib.hid (HRD.out.keep IntAt.stable hb))); (try (replace HRX := Lib.hid (HRX.out.keep IntAt.stable hb))); clear hb)
        | (go_at_call 15; refine (known_any _).mono ?_; rintro e wk ⟨rfl, hb⟩; replace HB8 := Lib.hid (bThen HB8.out hb); clear hb))
      go_ret
      exact ⟨rfl, HB8.out⟩
end Go.Proofs.Ytfcopnlpcbbocaa
