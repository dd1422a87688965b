/- Contracts: the numbers without words. -/
import Derived.Test.YtfcopnlpcbbocaaR7
set_option linter.unusedSimpArgs false
set_option linter.unusedVariables false
namespace Go.Proofs.Ytfcopnlpcbbocaa
open Go.RowKit

set_option maxRecDepth 100000 in
set_option maxHeartbeats 4000000 in
theorem missing1_any (S : Sys) (a : Ask) (n : Int) (bs ba sb : Nat) (W : World) (hS : Right S) (ha : AskRight S (numb a n)) (hs0 : SplAt W sb S)
    (hcs : W.cell? ⟨bs, 0, none⟩ = some (.pointer (some ⟨sb, 0, none⟩))) (hca : AskAt W ba 0 a) :
    Calls Try.prog 60 #[.int .i64 n, .pointer (some ⟨bs, 0, none⟩), .pointer (some ⟨ba, 0, none⟩)] W fun e w' => e = .returned (.bool (decide (wordsOf S (numb a n) = none))) ∧ Below W.heap.size W w' := by
  have HSP := Lib.hid hs0
  obtain ⟨a0, a1, a2, a3⟩ := hca
  simp only [Nat.zero_add] at a1 a2 a3
  have hbs := cell_lt hcs
  have hba := cell_lt a0
  have h57 : ∀ W', Calls Try.prog 57 #[.agg #[.int .i64 a.num, .int .i64 a.set, .int .i64 a.gen, .int .i64 a.kas], .int .i64 n] W' fun e w' => e = .returned (.agg #[.int .i64 n, .int .i64 a.set, .int .i64 a.gen, .int .i64 a.kas]) ∧ Below W'.heap.size W' w' := fun W' => numbered_any a n W'
  have h48 : ∀ W', Below W.heap.size W W' → Calls Try.prog 48 #[.pointer (some ⟨sb, 0, none⟩), .agg #[.int .i64 n, .int .i64 a.set, .int .i64 a.gen, .int .i64 a.kas]] W' fun e w' => Spelled S (numb a n) e w' ∧ Below W'.heap.size W' w' := fun W' hB => spell_any S (numb a n) sb W' hS ha (HSP.out.keep hB)
  have HK1 : ∀ W', Below W.heap.size W W' → (W'.cell? ⟨bs, 0, none⟩ = some (.pointer (some ⟨sb, 0, none⟩)) ∧ W'.cell? ⟨ba, 0, none⟩ = some (.int .i64 a.num) ∧ W'.cell? ⟨ba, 1, none⟩ = some (.int .i64 a.set) ∧ W'.cell? ⟨ba, 2, none⟩ = some (.int .i64 a.gen) ∧ W'.cell? ⟨ba, 3, none⟩ = some (.int .i64 a.kas)) :=
    fun W' hB => ⟨keep hB hcs, keep hB a0, keep hB a1, keep hB a2, keep hB a3⟩
  have H57 := Lib.hid h57
  have H48 := Lib.hid h48
  have HK4 := Lib.hid HK1
  clear h57 h48 HK1 ha hs0
  go_enter Try.func60, Try.ntmps60
  go_wp2_with fail
  refine wp_opaque fun Q2 hQ2 => ?_
  go_region_held3 (fun W' => (W'.cell? ⟨bs, 0, none⟩ = some (.pointer (some ⟨sb, 0, none⟩)) ∧ W'.cell? ⟨ba, 0, none⟩ = some (.int .i64 a.num) ∧ W'.cell? ⟨ba, 1, none⟩ = some (.int .i64 a.set) ∧ W'.cell? ⟨ba, 2, none⟩ = some (.int .i64 a.gen) ∧ W'.cell? ⟨ba, 3, none⟩ = some (.int .i64 a.kas))) (((try dsimp only); exact HK4.out _ (by (repeat (first | exact Below.refl _ _ | refine Below.drew ?_ | refine bThen ?_ hb4 | refine bThen ?_ hb3))))) (first | (go_at_call 57; refine (H57.out _).mono ?_; rintro e w3 ⟨rfl, hb3⟩) | (go_at_call 48; refine (H48.out _ (by (repeat (first | exact Below.refl _ _ | refine Below.drew ?_ | refine bThen ?_ hb3)))).mono ?_; rintro e w4 ⟨hsp, hb4⟩; obtain ⟨ad, k, c, t, rfl, hq⟩ := hsp.shape; clear hsp; have HQ := Lib.hid hq; clear hq))
  all_goals
    have HBF : Below W.heap.size W w4 := by (repeat (first | exact Below.refl _ _ | refine Below.drew ?_ | refine bThen ?_ hb4 | refine bThen ?_ hb3))
    refine hQ2 _ _ _ ?_
    cases t
  · have hq := (HQ.out.resolve_left (fun h => by cases h.1)).2.1
    have HW := Lib.hid hq
    clear hq
    go_wp2_with fail
    go_ret
    exact ⟨ret_bool (by rw [HW.out]; simp), HBF⟩
  · obtain ⟨-, ws, hq, -⟩ := HQ.out.resolve_right (fun h => by cases h.1)
    have HW := Lib.hid hq
    clear hq
    go_wp2_with fail
    go_ret
    exact ⟨ret_bool (by rw [HW.out]; simp), HBF⟩

/-- The numbers without words, kept. -/
theorem keepMissing_any (S : Sys) (a : Ask) (N ub bs ba sb : Nat) (w : World) (hN : N ≤ 20000) (hNa : a.num = (N : Int)) (hS : Right S) (ha : AskRight S a) (hu : w.cell? ⟨ub, 0, none⟩ = some (.int .i64 (N : Int)))
    (hs0 : SplAt w sb S) (hcs : w.cell? ⟨bs, 0, none⟩ = some (.pointer (some ⟨sb, 0, none⟩))) (hca : AskAt w ba 0 a) :
    Calls Try.prog 54 #[.func (.func 84) #[] #[.pointer (some ⟨ub, 0, none⟩)], .func (.func 60) #[] #[.pointer (some ⟨bs, 0, none⟩), .pointer (some ⟨ba, 0, none⟩)]] w fun e w' =>
      (∃ ad cap, e = .returned (.slice ad (missTo S a N).length cap) ∧ SliceV w' (.slice ad (missTo S a N).length cap) 1 IntAt ((missTo S a N).map fun n : Nat => (n : Int))) ∧ Below w.heap.size w w' := by
  have hpred : ∀ n : Nat, n ≤ N → ∀ W', Below w.heap.size w W' → Calls Try.prog 60 (#[.int .i64 (n : Int)] ++ #[.pointer (some ⟨bs, 0, none⟩), .pointer (some ⟨ba, 0, none⟩)]) W' fun e w'' => e = .returned (.bool (decide (wordsOf S (numb a n) = none))) ∧ Below W'.heap.size W' w'' := fun n hn W' hB => by
    have h := missing1_any S a n bs ba sb W' hS (numb_right ha (by omega)) (hs0.keep hB) (keep hB hcs) (AskAt.stable _ _ _ _ _ hB hca)
    have e : (#[Value.int .i64 (n : Int)] ++ #[.pointer (some ⟨bs, 0, none⟩), .pointer (some ⟨ba, 0, none⟩)]) = #[.int .i64 (n : Int), .pointer (some ⟨bs, 0, none⟩), .pointer (some ⟨ba, 0, none⟩)] := by simp
    rw [e]; exact h
  have hent : ∀ args w, (callFunc 60 args).run Try.prog w = .ok (.enter 60 args) w := enters_of Try.func60 (by kernel_rfl) rfl
  have h := keep_any N ub 60 #[.pointer (some ⟨bs, 0, none⟩), .pointer (some ⟨ba, 0, none⟩)] (fun n => decide (wordsOf S (numb a n) = none)) w hN hu hent hpred
  refine h.mono ?_
  rintro e w' ⟨⟨v, rfl, hrow⟩, hb⟩
  obtain ⟨ad, cap, rfl⟩ := ownsRow_slice hrow
  have hl : (missTo S a N).length ≤ 1000000 := by
    have := List.length_filter_le (fun n : Nat => decide (wordsOf S (numb a n) = none)) (List.range (N + 1))
    rw [List.length_range] at this
    unfold missTo; omega
  exact ⟨⟨ad, cap, rfl, ints_slice hrow hl⟩, hb⟩

def MissPost (S : Sys) (a : Ask) (e : Ending) (w' : World) : Prop :=
  (scanErr a [S] ≠ 0 ∧ e = .returned (.tuple #[.slice none 0 0, .int .i64 (scanErr a [S])])) ∨
    (scanErr a [S] = 0 ∧ ∃ ad c, e = .returned (.tuple #[.slice ad (missTo S a a.num.toNat).length c, .int .i64 0]) ∧ SliceV w' (.slice ad (missTo S a a.num.toNat).length c) 1 IntAt ((missTo S a a.num.toNat).map fun n : Nat => (n : Int)))
set_option maxRecDepth 100000 in
set_option maxHeartbeats 4000000 in
theorem Missing_any (S : Sys) (a : Ask) (vt vp vs : Value) (w : World) (hp : SysParts w vt vp vs S) :
    Calls Try.prog 31 #[sysVal S vt vp vs, a.val] w fun e w' => MissPost S a e w' ∧ Below w.heap.size w w' := by
  have HP := Lib.hid hp
  obtain ⟨⟨at_, ct, rfl, -⟩, ⟨ap, cp, rfl, -⟩, ⟨as_, cs, rfl, -⟩⟩ := hp
  unfold sysVal Ask.val
  by_cases hz : scanErr a [S] = 0
  case neg =>
    obtain ⟨en, hen⟩ : ∃ en, en = scanErr a [S] := ⟨_, rfl⟩
    have HEN := Lib.hid hen.symm
    have hnz : (en != 0) = true := by simp only [bne_iff_ne, ne_eq]; rw [hen]; exact hz
    have HNZ := Lib.hid hz
    clear hen hz
    go_enter Try.func31, Try.ntmps31
    go_wp2_with fail
    generalize hW1 : World.alloc (World.alloc w _) _ = W1
    have hbn : Below w.heap.size w W1 := by rw [← hW1]; exact bAlloc (bAlloc (Below.refl _ _) _) _
    have HBX : Hid (BX W1 w.heap.size S a (.slice at_ S.terms.length ct) (.slice ap S.plurals.length cp) (.slice as_ S.sets.length cs)) := Lib.hid (by rw [← hW1]; exact BX.new _ _ _ _ _ _)
    obtain ⟨s0, s1, s2, s3, s4, s5, s6, a0, a1, a2, a3, -, -⟩ := HBX.out
    have HB := Lib.hid hbn
    have hsz1 : W1.heap.size = w.heap.size + 1 + 1 := by rw [← hW1]; simp
    have hc53 : Calls Try.prog 53 #[.agg #[.int .i64 a.num, .int .i64 a.set, .int .i64 a.gen, .int .i64 a.kas], .slice (some ⟨w.heap.size + 1 + 1, 0, none⟩) 1 1] (W1.alloc (.cells #[.int .i64 S.top, .int .i64 S.genders, .int .i64 S.cases, .int .i64 S.classes, .slice at_ S.terms.length ct, .slice ap S.plurals.length cp, .slice as_ S.sets.length cs] 26)) fun e w' => e = .returned (.int .i64 (scanErr a [S])) ∧ Below (W1.alloc (.cells #[.int .i64 S.top, .int .i64 S.genders, .int .i64 S.cases, .int .i64 S.classes, .slice at_ S.terms.length ct, .slice ap S.plurals.length cp, .slice as_ S.sets.length cs] 26)).heap.size (W1.alloc (.cells #[.int .i64 S.top, .int .i64 S.genders, .int .i64 S.cases, .int .i64 S.classes, .slice at_ S.terms.length ct, .slice ap S.plurals.length cp, .slice as_ S.sets.length cs] 26)) w' := scanError_any a [S] _ _ (by rw [← hsz1]; exact (one_sys (c := 1) (b := W1.heap.size) (S := S) (W := W1.alloc (.cells #[.int .i64 S.top, .int .i64 S.genders, .int .i64 S.cases, .int .i64 S.classes, .slice at_ S.terms.length ct, .slice ap S.plurals.length cp, .slice as_ S.sets.length cs] 26)) ⟨_, _, _, cell_new rfl, cell_new rfl, cell_new rfl, cell_new rfl, cell_new rfl, cell_new rfl, cell_new rfl, HP.out.keep (bThen HB.out (bAlloc (Below.refl _ _) _))⟩))
    have HC53 := Lib.hid hc53
    clear hW1 hbn hc53 hsz1
    have hsl := cell_lt s0
    have hal := cell_lt a0
    refine HC53.out.mono ?_
    rintro e w6 ⟨rfl, hb'⟩
    rw [HEN.out]
    have hb := bThen (bAlloc (Below.refl _ _) _) hb'
    replace s0 := keep hb s0; replace s1 := keep hb s1; replace s2 := keep hb s2; replace s3 := keep hb s3; replace s4 := keep hb s4; replace s5 := keep hb s5; replace s6 := keep hb s6; replace a0 := keep hb a0; replace a1 := keep hb a1; replace a2 := keep hb a2; replace a3 := keep hb a3; replace hsl := cell_lt s0; replace hal := cell_lt a0; replace HB := Lib.hid (bThen HB.out hb)
    clear hb hb'
    go_wp2_with fail
    go_ret2
    exact ⟨.inl ⟨HNZ.out, by rw [HEN.out]; rfl⟩, HB.out⟩
  obtain ⟨hok, htop⟩ := scan_ok hz
  obtain ⟨hS, ha⟩ := askRight_of hok
  obtain ⟨N, hN⟩ := Int.eq_ofNat_of_zero_le ha.num
  have hN2 : (N : Int) ≤ 20000 := by omega
  have HZ := Lib.hid hz
  have HS := Lib.hid hS
  have HA := Lib.hid ha
  have HNN := Lib.hid hN
  have HNT : Hid (a.num.toNat = N) := Lib.hid (by rw [hN]; simp)
  clear hz hS ha hok htop hN
  go_enter Try.func31, Try.ntmps31
  go_wp2_with fail
  generalize hW1 : World.alloc (World.alloc w _) _ = W1
  have hbn : Below w.heap.size w W1 := by rw [← hW1]; exact bAlloc (bAlloc (Below.refl _ _) _) _
  have HBX : Hid (BX W1 w.heap.size S a (.slice at_ S.terms.length ct) (.slice ap S.plurals.length cp) (.slice as_ S.sets.length cs)) := Lib.hid (by rw [← hW1]; exact BX.new _ _ _ _ _ _)
  obtain ⟨s0, s1, s2, s3, s4, s5, s6, a0, a1, a2, a3, -, -⟩ := HBX.out
  have HB := Lib.hid hbn
  have hsz1 : W1.heap.size = w.heap.size + 1 + 1 := by rw [← hW1]; simp
  have hc53 : Calls Try.prog 53 #[.agg #[.int .i64 a.num, .int .i64 a.set, .int .i64 a.gen, .int .i64 a.kas], .slice (some ⟨w.heap.size + 1 + 1, 0, none⟩) 1 1] (W1.alloc (.cells #[.int .i64 S.top, .int .i64 S.genders, .int .i64 S.cases, .int .i64 S.classes, .slice at_ S.terms.length ct, .slice ap S.plurals.length cp, .slice as_ S.sets.length cs] 26)) fun e w' => e = .returned (.int .i64 (scanErr a [S])) ∧ Below (W1.alloc (.cells #[.int .i64 S.top, .int .i64 S.genders, .int .i64 S.cases, .int .i64 S.classes, .slice at_ S.terms.length ct, .slice ap S.plurals.length cp, .slice as_ S.sets.length cs] 26)).heap.size (W1.alloc (.cells #[.int .i64 S.top, .int .i64 S.genders, .int .i64 S.cases, .int .i64 S.classes, .slice at_ S.terms.length ct, .slice ap S.plurals.length cp, .slice as_ S.sets.length cs] 26)) w' := scanError_any a [S] _ _ (by rw [← hsz1]; exact (one_sys (c := 1) (b := W1.heap.size) (S := S) (W := W1.alloc (.cells #[.int .i64 S.top, .int .i64 S.genders, .int .i64 S.cases, .int .i64 S.classes, .slice at_ S.terms.length ct, .slice ap S.plurals.length cp, .slice as_ S.sets.length cs] 26)) ⟨_, _, _, cell_new rfl, cell_new rfl, cell_new rfl, cell_new rfl, cell_new rfl, cell_new rfl, cell_new rfl, HP.out.keep (bThen HB.out (bAlloc (Below.refl _ _) _))⟩))
  have HC53 := Lib.hid hc53
  clear hW1 hbn hc53 hsz1
  have hsl := cell_lt s0
  have hal := cell_lt a0
  refine HC53.out.mono ?_
  rintro e w6 ⟨rfl, hb'⟩
  rw [HZ.out]
  have hb := bThen (bAlloc (Below.refl _ _) _) hb'
  replace s0 := keep hb s0; replace s1 := keep hb s1; replace s2 := keep hb s2; replace s3 := keep hb s3; replace s4 := keep hb s4; replace s5 := keep hb s5; replace s6 := keep hb s6; replace a0 := keep hb a0; replace a1 := keep hb a1; replace a2 := keep hb a2; replace a3 := keep hb a3; replace hsl := cell_lt s0; replace hal := cell_lt a0; replace HB := Lib.hid (bThen HB.out hb)
  clear hb hb'
  go_wp2_with (first
    | (go_at_call 43; refine (newSpeller_any S _ _ _ _ (HP.out.keep HB.out)).mono ?_; rintro e w7 ⟨⟨sb, rfl, hspl⟩, hb⟩; have HSP := Lib.hid hspl; replace s0 := keep hb s0; replace s1 := keep hb s1; replace s2 := keep hb s2; replace s3 := keep hb s3; replace s4 := keep hb s4; replace s5 := keep hb s5; replace s6 := keep hb s6; replace a0 := keep hb a0; replace a1 := keep hb a1; replace a2 := keep hb a2; replace a3 := keep hb a3; replace hsl := cell_lt s0; replace hal := cell_lt a0; replace HB := Lib.hid (bThen HB.out hb); clear hb hspl)
    | (go_at_call 55; have hx0 : (w7.alloc (.cells #[.pointer (some ⟨sb, 0, none⟩)] 96)).cell? ⟨w7.heap.size, 0, none⟩ = some (.pointer (some ⟨sb, 0, none⟩)) := cell_new rfl; refine (upTo_any a.num _).mono ?_; rintro e w8 ⟨ub, ⟨rfl, hu⟩, hb8⟩; have y0 := keep hb8 hx0; have hb := bThen (bAlloc (Below.refl _ _) _) hb8; have HS3 := Lib.hid (HSP.out.keep hb); replace s0 := keep hb s0; replace s1 := keep hb s1; replace s2 := keep hb s2; replace s3 := keep hb s3; replace s4 := keep hb s4; replace s5 := keep hb s5; replace s6 := keep hb s6; replace a0 := keep hb a0; replace a1 := keep hb a1; replace a2 := keep hb a2; replace a3 := keep hb a3; replace hsl := cell_lt s0; replace hal := cell_lt a0; replace HB := Lib.hid (bThen HB.out hb); clear hb hb8 hx0)
    | (go_at_call 54; refine (keepMissing_any S a N ub _ _ sb w8 (by omega) HNN.out HS.out HA.out (by rw [← HNN.out]; exact hu) HS3.out y0 ⟨a0, a1, a2, a3⟩).mono ?_; rintro e w9 ⟨⟨ad, cap, rfl, hsl9⟩, hb⟩; have HSL := Lib.hid hsl9; clear hsl9; replace HB := Lib.hid (bThen HB.out hb); clear hb))
  go_ret2
  exact ⟨.inr ⟨HZ.out, ad, cap, by rw [HNT.out]; rfl, by rw [HNT.out]; exact HSL.out⟩, HB.out⟩
end Go.Proofs.Ytfcopnlpcbbocaa
