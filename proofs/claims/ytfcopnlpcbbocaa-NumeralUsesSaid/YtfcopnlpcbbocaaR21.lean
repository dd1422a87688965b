/- Contracts: the number with the most words. -/
import Derived.Test.YtfcopnlpcbbocaaR20
import Derived.Test.YtfcopnlpcbbocaaRF
import Derived.Stop.RegionWithIn
import Derived.BigRegionIn
set_option linter.unusedSimpArgs false
set_option linter.unusedVariables false
namespace Go.Proofs.Ytfcopnlpcbbocaa
open Go.RowKit Go.Shelf
attribute [local go_sem] Oper.semAt_some

def lngStep (S : Sys) (a : Ask) (acc : Int × Nat) (n : Nat) : Int × Nat := match wordsOf S (numb a n) with
  | some ws => if acc.2 < ws.length then ((n : Int), ws.length) else acc
  | none => acc
theorem lngF_fold (n0 : Int) (S : Sys) (a : Ask) : ∀ k, lngF n0 S a k = (List.range k).foldl (lngStep S a) (n0, 0)
  | 0 => rfl
  | k + 1 => by
    rw [List.range_succ, List.foldl_append, ← lngF_fold n0 S a k]
    simp only [List.foldl_cons, List.foldl_nil, lngStep, lngF]
    cases wordsOf S (numb a k) <;> rfl
def lngP {M : Nat} (S : Sys) (a : Ask) (pre : List (UpTo M)) : Int × Nat := (pre.map Subtype.val).foldl (lngStep S a) (0, 0)
theorem lngP_snoc {M : Nat} (S : Sys) (a : Ask) (pre : List (UpTo M)) (x : UpTo M) : lngP S a (pre ++ [x]) = lngStep S a (lngP S a pre) x.1 := by simp [lngP]
theorem lngP_all {M : Nat} (S : Sys) (a : Ask) : lngP S a (upL M) = lngF 0 S a M := by unfold lngP; rw [upL_val, lngF_fold]

def LongestPost (S : Sys) (a : Ask) (e : Ending) : Prop :=
  (scanErr a [S] ≠ 0 ∧ e = .returned (.tuple #[.int .i64 0, .int .i64 0, .int .i64 (scanErr a [S])])) ∨ (scanErr a [S] = 0 ∧ (lngF 0 S a (a.num.toNat + 1)).2 = 0 ∧ e = .returned (.tuple #[.int .i64 0, .int .i64 0, .int .i64 5])) ∨
    (scanErr a [S] = 0 ∧ (lngF 0 S a (a.num.toNat + 1)).2 ≠ 0 ∧ e = .returned (.tuple #[.int .i64 (lngF 0 S a (a.num.toNat + 1)).1, .int .i64 ((lngF 0 S a (a.num.toNat + 1)).2 : Int), .int .i64 0]))
theorem Spelled.one {S : Sys} {a : Ask} {e : Ending} {w' : World} (h : Spelled S a e w') : ∃ v t, e = .returned (.tuple #[v, .bool t]) ∧ ((∃ ws, wordsOf S a = some ws ∧ t = true ∧ SliceV w' v 1 StrAt ws) ∨ (wordsOf S a = none ∧ t = false)) := by
  rcases h with ⟨ws, v, h1, rfl, h2⟩ | ⟨h1, rfl⟩
  · exact ⟨v, true, rfl, .inl ⟨ws, h1, rfl, h2⟩⟩
  · exact ⟨_, false, rfl, .inr ⟨h1, rfl⟩⟩
set_option maxRecDepth 100000 in
set_option maxHeartbeats 4000000 in
theorem Longest_any (S : Sys) (a : Ask) (vt vp vs : Value) (w : World) (hp : SysParts w vt vp vs S) :
    Calls Try.prog 37 #[sysVal S vt vp vs, a.val] w fun e w' => LongestPost S a e ∧ Below w.heap.size w w' := by
  have HP := Lib.hid hp
  obtain ⟨⟨at_, ct, rfl, -⟩, ⟨ap, cp, rfl, -⟩, ⟨as_, cs, rfl, -⟩⟩ := hp
  unfold sysVal Ask.val
  by_cases hz : scanErr a [S] = 0
  case neg =>
    obtain ⟨en, hen⟩ : ∃ en, en = scanErr a [S] := ⟨_, rfl⟩
    have HEN := Lib.hid hen.symm
    have hnz : (en != 0) = true := by simp only [bne_iff_ne, ne_eq]; rw [hen]; exact hz
    have HNZ := Lib.hid hz
    clear hen hz
    refine (callsIn_wide (n := 6)).1 ?_
    refine callsIn_of_wp_marks Try.func37 rfl trivial ?_ rfl
    simp only [Try.ntmps37, List.size_toArray, List.length_cons, List.length_nil, Nat.reduceAdd, Nat.reduceSub, Array.replicate_succ, Array.replicate_zero, List.push_toArray, List.append_toArray, List.nil_append, List.cons_append]
    gi_wp2_with fail
    generalize hW1 : World.alloc (World.alloc w _) _ = W1
    have hbn : Below w.heap.size w W1 := by rw [← hW1]; exact bAlloc (bAlloc (Below.refl _ _) _) _
    have HBX : Hid (BX W1 w.heap.size S a (.slice at_ S.terms.length ct) (.slice ap S.plurals.length cp) (.slice as_ S.sets.length cs)) := Lib.hid (by rw [← hW1]; exact BX.new _ _ _ _ _ _)
    obtain ⟨s0, s1, s2, s3, s4, s5, s6, a0, a1, a2, a3, -, -⟩ := HBX.out
    have HB := Lib.hid hbn
    have hsz1 : W1.heap.size = w.heap.size + 1 + 1 := by rw [← hW1]; simp
    have hc53 : Calls Try.prog 53 #[.agg #[.int .i64 a.num, .int .i64 a.set, .int .i64 a.gen, .int .i64 a.kas], .slice (some ⟨w.heap.size + 1 + 1, 0, none⟩) 1 1] (W1.alloc (.cells #[.int .i64 S.top, .int .i64 S.genders, .int .i64 S.cases, .int .i64 S.classes, .slice at_ S.terms.length ct, .slice ap S.plurals.length cp, .slice as_ S.sets.length cs] 26)) fun e w' => e = .returned (.int .i64 (scanErr a [S])) ∧ Below (W1.alloc (.cells #[.int .i64 S.top, .int .i64 S.genders, .int .i64 S.cases, .int .i64 S.classes, .slice at_ S.terms.length ct, .slice ap S.plurals.length cp, .slice as_ S.sets.length cs] 26)).heap.size (W1.alloc (.cells #[.int .i64 S.top, .int .i64 S.genders, .int .i64 S.cases, .int .i64 S.classes, .slice at_ S.terms.length ct, .slice ap S.plurals.length cp, .slice as_ S.sets.length cs] 26)) w' := scanError_any a [S] _ _ (by rw [← hsz1]; exact (one_sys (c := 1) (b := W1.heap.size) (S := S) (W := W1.alloc (.cells #[.int .i64 S.top, .int .i64 S.genders, .int .i64 S.cases, .int .i64 S.classes, .slice at_ S.terms.length ct, .slice ap S.plurals.length cp, .slice as_ S.sets.length cs] 26)) ⟨_, _, _, cell_new rfl, cell_new rfl, cell_new rfl, cell_new rfl, cell_new rfl, cell_new rfl, cell_new rfl, HP.out.keep (bThen HB.out (bAlloc (Below.refl _ _) _))⟩))
    have HC53 := Lib.hid hc53
    clear hW1 hbn hc53 hsz1
    have hsl := cell_lt s0
    have hal := cell_lt a0
    refine ⟨trivial, ?_⟩
    refine (callsIn_wide.2 HC53.out).mono ?_
    rintro e w6 ⟨rfl, hb'⟩
    rw [HEN.out]
    have hb := bThen (bAlloc (Below.refl _ _) _) hb'
    replace s0 := keep hb s0; replace s1 := keep hb s1; replace s2 := keep hb s2; replace s3 := keep hb s3; replace s4 := keep hb s4; replace s5 := keep hb s5; replace s6 := keep hb s6; replace a0 := keep hb a0; replace a1 := keep hb a1; replace a2 := keep hb a2; replace a3 := keep hb a3; replace hsl := cell_lt s0; replace hal := cell_lt a0; replace HB := Lib.hid (bThen HB.out hb)
    clear hb hb'
    gi_wp2_with fail
    exact ⟨_, results_tmp3 rfl _ _ _, .inl ⟨HNZ.out, by rw [HEN.out]; rfl⟩, HB.out⟩
  obtain ⟨hok, htop⟩ := scan_ok hz
  obtain ⟨hS, ha⟩ := askRight_of hok
  have HZ := Lib.hid hz
  have HS := Lib.hid hS
  have HA := Lib.hid ha
  clear hz hS ha hok
  refine (callsIn_wide (n := 6)).1 ?_
  refine callsIn_of_wp_marks Try.func37 rfl trivial ?_ rfl
  simp only [Try.ntmps37, List.size_toArray, List.length_cons, List.length_nil, Nat.reduceAdd, Nat.reduceSub, Array.replicate_succ, Array.replicate_zero, List.push_toArray, List.append_toArray, List.nil_append, List.cons_append]
  gi_wp2_with fail
  generalize hW1 : World.alloc (World.alloc w _) _ = W1
  have hbn : Below w.heap.size w W1 := by rw [← hW1]; exact bAlloc (bAlloc (Below.refl _ _) _) _
  have HBX : Hid (BX W1 w.heap.size S a (.slice at_ S.terms.length ct) (.slice ap S.plurals.length cp) (.slice as_ S.sets.length cs)) := Lib.hid (by rw [← hW1]; exact BX.new _ _ _ _ _ _)
  obtain ⟨s0, s1, s2, s3, s4, s5, s6, a0, a1, a2, a3, -, -⟩ := HBX.out
  have HB := Lib.hid hbn
  have hsz1 : W1.heap.size = w.heap.size + 1 + 1 := by rw [← hW1]; simp
  have hc53 : Calls Try.prog 53 #[.agg #[.int .i64 a.num, .int .i64 a.set, .int .i64 a.gen, .int .i64 a.kas], .slice (some ⟨w.heap.size + 1 + 1, 0, none⟩) 1 1] (W1.alloc (.cells #[.int .i64 S.top, .int .i64 S.genders, .int .i64 S.cases, .int .i64 S.classes, .slice at_ S.terms.length ct, .slice ap S.plurals.length cp, .slice as_ S.sets.length cs] 26)) fun e w' => e = .returned (.int .i64 (scanErr a [S])) ∧ Below (W1.alloc (.cells #[.int .i64 S.top, .int .i64 S.genders, .int .i64 S.cases, .int .i64 S.classes, .slice at_ S.terms.length ct, .slice ap S.plurals.length cp, .slice as_ S.sets.length cs] 26)).heap.size (W1.alloc (.cells #[.int .i64 S.top, .int .i64 S.genders, .int .i64 S.cases, .int .i64 S.classes, .slice at_ S.terms.length ct, .slice ap S.plurals.length cp, .slice as_ S.sets.length cs] 26)) w' := scanError_any a [S] _ _ (by rw [← hsz1]; exact (one_sys (c := 1) (b := W1.heap.size) (S := S) (W := W1.alloc (.cells #[.int .i64 S.top, .int .i64 S.genders, .int .i64 S.cases, .int .i64 S.classes, .slice at_ S.terms.length ct, .slice ap S.plurals.length cp, .slice as_ S.sets.length cs] 26)) ⟨_, _, _, cell_new rfl, cell_new rfl, cell_new rfl, cell_new rfl, cell_new rfl, cell_new rfl, cell_new rfl, HP.out.keep (bThen HB.out (bAlloc (Below.refl _ _) _))⟩))
  have HC53 := Lib.hid hc53
  clear hW1 hbn hc53 hsz1
  have hsl := cell_lt s0
  have hal := cell_lt a0
  refine ⟨trivial, ?_⟩
  refine (callsIn_wide.2 HC53.out).mono ?_
  rintro e w6 ⟨rfl, hb'⟩
  rw [HZ.out]
  have hb := bThen (bAlloc (Below.refl _ _) _) hb'
  replace s0 := keep hb s0; replace s1 := keep hb s1; replace s2 := keep hb s2; replace s3 := keep hb s3; replace s4 := keep hb s4; replace s5 := keep hb s5; replace s6 := keep hb s6; replace a0 := keep hb a0; replace a1 := keep hb a1; replace a2 := keep hb a2; replace a3 := keep hb a3; replace hsl := cell_lt s0; replace hal := cell_lt a0; replace HB := Lib.hid (bThen HB.out hb)
  clear hb hb'
  gi_wp2_with fail
  refine ⟨trivial, ?_⟩
  refine (callsIn_wide.2 (newSpeller_any S _ _ _ _ (HP.out.keep HB.out))).mono ?_
  rintro e w7 ⟨⟨sb, rfl, hspl⟩, hb⟩
  replace s0 := keep hb s0; replace s1 := keep hb s1; replace s2 := keep hb s2; replace s3 := keep hb s3; replace s4 := keep hb s4; replace s5 := keep hb s5; replace s6 := keep hb s6; replace a0 := keep hb a0; replace a1 := keep hb a1; replace a2 := keep hb a2; replace a3 := keep hb a3; replace hsl := cell_lt s0; replace hal := cell_lt a0; replace HB := Lib.hid (bThen HB.out hb)
  clear hb
  gi_wp2_with fail
  obtain ⟨W5, hW5⟩ : ∃ W5, W5 = w7.alloc (.cells #[.pointer (some ⟨sb, 0, none⟩)] 96) := ⟨_, rfl⟩
  rw [← hW5]
  generalize hW9 : World.alloc (World.alloc W5 _) _ = W9
  obtain ⟨n, hn⟩ : ∃ n, n = w7.heap.size + 1 := ⟨_, rfl⟩
  have hn5 : W5.heap.size = n := by rw [hW5, hn]; simp
  have hb : Below w7.heap.size w7 W5 := by rw [hW5]; exact bAlloc (Below.refl _ _) _
  have y0 : W5.cell? ⟨w7.heap.size, 0, none⟩ = some (.pointer (some ⟨sb, 0, none⟩)) := by rw [hW5]; exact cell_new rfl
  have HSP := Lib.hid (hspl.keep hb)
  replace s0 := keep hb s0; replace s1 := keep hb s1; replace s2 := keep hb s2; replace s3 := keep hb s3; replace s4 := keep hb s4; replace s5 := keep hb s5; replace s6 := keep hb s6; replace a0 := keep hb a0; replace a1 := keep hb a1; replace a2 := keep hb a2; replace a3 := keep hb a3; replace hsl := cell_lt s0; replace hal := cell_lt a0; replace HB := Lib.hid (bThen HB.out hb)
  have HW5 := Lib.hid (Below.refl W5.heap.size W5)
  have v9 : Boxed W9 n 3 (.int .i64 0) := by rw [← hW9, ← hn5]; exact (Boxed.new _ _ _).alloc _
  have v10 : Boxed W9 (n + 1) 3 (.int .i64 0) := by rw [← hW9, ← hn5]; have := Boxed.new (W5.alloc (.cells #[.int .i64 0] 3)) 3 (.int .i64 0); rw [World.size_alloc] at this; exact this
  have hB9 : Below n W5 W9 := by rw [← hW9, ← hn5]; exact bAlloc (bAlloc (Below.refl _ _) _) _
  refine ⟨trivial, ?_⟩
  refine (callsIn_wide.2 (upTo_any a.num _)).mono ?_
  rintro e w10 ⟨ub, ⟨rfl, hu⟩, hb'⟩
  obtain ⟨N, hN⟩ := Int.eq_ofNat_of_zero_le HA.out.num
  rw [hN] at hu
  have hN2 : N ≤ 20000 := by have := htop; omega
  have v9 := heap_keep hb' v9
  have v10 := heap_keep hb' v10
  have hB10 : Below n W5 w10 := hB9.trans (hb'.mono (by have := hB9.size; omega))
  have hsz10 := hB10.size
  have HNN := Lib.hid hN
  have HHB := HB
  clear hW9 hW5 hb hb' hB9 htop hN
  subst hn
  gi_wp2_with fail
  refine wpIn_range_kept (P := Try.prog) (n := 6) (by omega) (gf := 84) (lb := #[.pointer (some ⟨ub, 0, none⟩)]) rfl (enters_of Try.func84 (by kernel_rfl) rfl)
    (upTo1_says 5 N ub (fun _ _ => True) w10 hN2 hu) (fun _ _ => trivial) (fun _ _ _ _ _ _ _ _ => trivial) (Below.refl _ _) (fun _ => rfl)
    (fun pre W => Boxed W (w7.heap.size + 1) 3 (.int .i64 (lngP S a pre).1) ∧ Boxed W (w7.heap.size + 1 + 1) 3 (.int .i64 ((lngP S a pre).2 : Int)) ∧ Below (w7.heap.size + 1) W5 W)
    (fun _ _ => False)
    ?hI ?hIx ?h0
    (fun x a' _ => a' = { tmps := #[.agg #[.int .i64 S.top, .int .i64 S.genders, .int .i64 S.cases, .int .i64 S.classes, .slice at_ S.terms.length ct, .slice ap S.plurals.length cp, .slice as_ S.sets.length cs], .agg #[.int .i64 a.num, .int .i64 a.set, .int .i64 a.gen, .int .i64 a.kas], .pointer (some ⟨w.heap.size, 0, none⟩), .pointer (some ⟨w.heap.size + 1, 0, none⟩), .int .i64 0, .int .i64 0, .int .i64 0, .int .i64 0, .pointer (some ⟨w7.heap.size, 0, none⟩), .pointer (some ⟨w7.heap.size + 1, 0, none⟩), .pointer (some ⟨w7.heap.size + 1 + 1, 0, none⟩), .int .i64 (x.1 : Int), undef, undef, .agg #[.int .i64 a.num, .int .i64 a.set, .int .i64 a.gen, .int .i64 a.kas], .agg #[.int .i64 S.top, .int .i64 S.genders, .int .i64 S.cases, .int .i64 S.classes, .slice at_ S.terms.length ct, .slice ap S.plurals.length cp, .slice as_ S.sets.length cs], .slice (some ⟨w.heap.size + 1 + 1, 0, none⟩) 1 1, .int .i64 0, .int .i64 0, .bool false, undef, .agg #[.int .i64 S.top, .int .i64 S.genders, .int .i64 S.cases, .int .i64 S.classes, .slice at_ S.terms.length ct, .slice ap S.plurals.length cp, .slice as_ S.sets.length cs], .pointer (some ⟨sb, 0, none⟩), .pointer (some ⟨w.heap.size + 1, 0, none⟩), .int .i64 a.num, .func (.func 84) #[] #[.pointer (some ⟨ub, 0, none⟩)], .int .i64 (x.1 : Int), undef, undef, undef, undef, undef, undef, undef, undef, undef, undef, undef, undef, undef, undef, undef, undef, undef, undef, undef, undef, undef, undef], defers := [] })
    ?hAx ?assign ?body ?done ?stop
  case hI =>
    refine OwnFrom.and (Own.from (boxed_own _ _ (fun pre => Value.int .i64 (lngP S a pre).1)) _) ?_
    exact OwnFrom.and (Own.from (boxed_own _ _ (fun pre => Value.int .i64 ((lngP S a pre).2 : Int))) _) (ownFrom_below (by omega) (by omega))
  case hIx => exact fun _ _ _ _ hs _ _ => hs
  case h0 => exact ⟨v9, v10, hB10⟩
  case hAx => exact fun _ _ _ _ _ _ hs _ _ => hs
  case assign =>
    rintro l pre x W K hi hK
    gi_wp2
    exact hK _ _ (KeepsFrom.refl _ _) trivial hi rfl
  case body =>
    rintro l pre x a' W ⟨u9, u10, hB⟩ rfl hlen
    obtain ⟨x, hx⟩ := x
    simp only
    have hB5 : Below W5.heap.size W5 W := by rw [hn5]; exact hB
    have y0 := keep hB5 y0
    have a0 := keep hB5 a0
    have a1 := keep hB5 a1
    have a2 := keep hB5 a2
    have a3 := keep hB5 a3
    have HX := Lib.hid hx
    have ha' : AskRight S (numb a x) := numb_right HA.out (by have := HNN.out; omega)
    have h57 : ∀ W', Calls Try.prog 57 #[.agg #[.int .i64 a.num, .int .i64 a.set, .int .i64 a.gen, .int .i64 a.kas], .int .i64 (x : Int)] W' fun e w' => e = .returned (.agg #[.int .i64 (x : Int), .int .i64 a.set, .int .i64 a.gen, .int .i64 a.kas]) ∧ Below W'.heap.size W' w' := fun W' => numbered_any a x W'
    have h48 : ∀ W', Below W.heap.size W W' → Calls Try.prog 48 #[.pointer (some ⟨sb, 0, none⟩), .agg #[.int .i64 (x : Int), .int .i64 a.set, .int .i64 a.gen, .int .i64 a.kas]] W' fun e w' => Spelled S (numb a x) e w' ∧ Below W'.heap.size W' w' := fun W' hb => spell_any S (numb a x) sb W' HS.out ha' ((HSP.out.keep hB5).keep hb)
    have H57 := Lib.hid h57
    have H48 := Lib.hid h48
    have HV9 := Lib.hid u9
    have HV10 := Lib.hid u10
    have HBX5 := Lib.hid hB
    have hsW := hB.size
    have hyl := cell_lt y0
    have hal' := cell_lt a0
    clear h57 h48 u9 u10 hB hB5 ha' hB10 v9 v10
    gi_wp2_with fail
    gi_region_with (first
      | (refine ⟨trivial, ?_⟩; refine (CallsIn.inRound l (callsIn_wide.2 (H57.out _))).mono ?_; rintro e w1 ⟨rfl, hb1⟩; have HB1 := Lib.hid (bThen (Below.drew (Below.refl W.heap.size W)) hb1); have y1 := keep HB1.out y0; have hy1 := cell_lt y1; clear hb1)
      | (refine ⟨trivial, ?_⟩; refine (CallsIn.inRound l (callsIn_wide.2 (H48.out _ HB1.out))).mono ?_; rintro e w2 ⟨hsp, hb2⟩; have HBF := Lib.hid (bThen HB1.out hb2); clear hb2; have hv9 : Boxed w2 (w7.heap.size + 1) 3 (.int .i64 (lngP S a pre).1) := heap_keep HBF.out HV9.out; have hv10 : Boxed w2 (w7.heap.size + 1 + 1) 3 (.int .i64 ((lngP S a pre).2 : Int)) := heap_keep HBF.out HV10.out; have hO := Lib.hid (others_below HBF.out); obtain ⟨v, t, rfl, hq⟩ := hsp.one; have HQ := Lib.hid hq; have hsW2 := HBF.out.size; clear hq hsp))
    all_goals
      have c10 := hv10.cell
      have c9 := hv9.cell
      have f9 := hv9.frozen
      have f10 := hv10.frozen
      have l9 := hv9.lt
      have l10 := hv10.lt
      have HV9' := Lib.hid hv9
      have HV10' := Lib.hid hv10
      clear hv9 hv10
      have hB2 : Below (w7.heap.size + 1) W5 w2 := HBX5.out.trans (HBF.out.mono (by omega))
      have HB2 := Lib.hid hB2
      clear hB2
      rcases HQ.out with ⟨ws, hws, rfl, hv⟩ | ⟨hnone, rfl⟩
      · obtain ⟨ad, cap, rfl, -, -⟩ := hv
        have HWS := Lib.hid hws
        clear hws
        by_cases hlt : (lngP S a pre).2 < ws.length
        · have hgt : decide (((lngP S a pre).2 : Int) < (ws.length : Int)) = true := by simp; omega
          have hgt' : ((lngP S a pre).2 : Int) < (ws.length : Int) := by omega
          gi_wp2_with fail
          have e : lngP S a (pre ++ [⟨x, hx⟩]) = ((x : Int), ws.length) := by rw [lngP_snoc]; simp only [lngStep, HWS.out, if_pos hlt]
          refine ⟨((others_below HBF.out).trans ((KeepsOthers.setCell _ _ _).trans (KeepsOthers.setCell _ _ _))).from _, trivial, ?_⟩
          dsimp only
          rw [e]
          exact ⟨(HV9'.out.set _).other (by omega) _, (HV10'.out.other (by omega) _).set _, (HB2.out.setCell (p := ⟨w7.heap.size + 1, 0, none⟩) (by simp) _).setCell (p := ⟨w7.heap.size + 1 + 1, 0, none⟩) (by first | (simp; done) | (simp; omega)) _⟩
        · have hgt : decide (((lngP S a pre).2 : Int) < (ws.length : Int)) = false := by simp; omega
          have hgt' : ¬ ((lngP S a pre).2 : Int) < (ws.length : Int) := by omega
          gi_wp2_with fail
          have e : lngP S a (pre ++ [⟨x, hx⟩]) = lngP S a pre := by rw [lngP_snoc]; simp only [lngStep, HWS.out, if_neg hlt]
          refine ⟨(others_below HBF.out).from _, trivial, ?_⟩
          dsimp only
          rw [e]
          exact ⟨HV9'.out, HV10'.out, HB2.out⟩
      · gi_wp2_with fail
        have e : lngP S a (pre ++ [⟨x, hx⟩]) = lngP S a pre := by rw [lngP_snoc]; simp only [lngStep, hnone]
        refine ⟨(others_below HBF.out).from _, trivial, ?_⟩
        dsimp only
        rw [e]
        exact ⟨HV9'.out, HV10'.out, HB2.out⟩
  case done =>
    rintro D W hD ⟨u9, u10, hB⟩ hK
    have c9 := u9.cell
    have c10 := u10.cell
    have h9 := u9.lt
    have h10 := u10.lt
    have HKD := Lib.hid hK
    have HBX5 := Lib.hid hB
    clear hK u9 u10 hB v9 v10 hB10
    rw [lngP_all] at c9 c10
    have e0 : a.num.toNat = N := by rw [HNN.out]; rfl
    obtain ⟨r, hr⟩ : ∃ r, r = lngF 0 S a (N + 1) := ⟨_, rfl⟩
    rw [← hr] at c9 c10
    have HR := Lib.hid hr
    have HE0 := Lib.hid e0
    clear hr e0
    obtain ⟨r1, r2⟩ := r
    dsimp only at c9 c10
    by_cases hr0 : r2 = 0
    · subst hr0
      gi_wp2_with fail
      have hB' : Below (w7.heap.size + 1) W5 (W.putObj D (.deferred none)) := HBX5.out.trans (belowK_b (w := W5) (by omega) W D _ _ (by omega) HKD.out rfl rfl)
      refine ⟨by simp, .inl ⟨_, _, rfl, run_takeDeferred HKD.out, ?_⟩⟩
      exact ⟨_, results_tmp3 rfl _ _ _, .inr (.inl ⟨HZ.out, by rw [HE0.out, ← HR.out], rfl⟩), bThen HHB.out (by rw [hn5]; exact hB')⟩
    · have hr1 : ((r2 : Int) == 0) = false := by simp; omega
      gi_wp2_with fail
      gi_region
      gi_wp2_with fail
      have hB' : Below (w7.heap.size + 1) W5 (W.putObj D (.deferred none)) := HBX5.out.trans (belowK_b (w := W5) (by omega) W D _ _ (by omega) HKD.out rfl rfl)
      refine ⟨by simp, .inl ⟨_, _, rfl, run_takeDeferred HKD.out, ?_⟩⟩
      exact ⟨_, results_tmp3 rfl _ _ _, .inr (.inr ⟨HZ.out, by rw [HE0.out, ← HR.out]; exact hr0, by rw [HE0.out, ← HR.out]; rfl⟩), bThen HHB.out (by rw [hn5]; exact hB'.drew)⟩
  case stop => rintro D pre W _ _ h _; exact h.elim
end Go.Proofs.Ytfcopnlpcbbocaa
