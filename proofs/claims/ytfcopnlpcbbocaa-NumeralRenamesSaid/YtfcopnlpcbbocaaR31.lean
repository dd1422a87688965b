/- Contracts: the numbers that sound like smaller ones. -/
import Derived.Test.YtfcopnlpcbbocaaRF
import Derived.Stop.RegionWithIn
import Derived.BigRegionIn
import Derived.Test.YtfcopnlpcbbocaaR30
import Derived.Test.YtfcopnlpcbbocaaJn
import Derived.Maps.OwnIn
import Derived.Maps.OwnSet
set_option linter.unusedSimpArgs false
set_option linter.unusedVariables false
namespace Go.Proofs.Ytfcopnlpcbbocaa
open Go.RowKit Go.Shelf
attribute [local go_sem] Oper.semAt_some

/-- What a speller hands back, with the room behind the words. -/
def SpelledC (S : Sys) (a : Ask) (e : Ending) (w' : World) : Prop :=
  ∃ v t, e = .returned (.tuple #[v, .bool t]) ∧ ((∃ ws g c, wordsOf S a = some ws ∧ t = true ∧ v = .slice (some ⟨g, 0, none⟩) ws.length c ∧ ws.length ≤ c ∧ g < w'.heap.size ∧ ∀ (j : Nat) x, ws[j]? = some x → w'.cell? ⟨g, 0 + j, none⟩ = some (.string x)) ∨ (wordsOf S a = none ∧ t = false))
set_option maxHeartbeats 1000000 in
theorem spellC_any (S : Sys) (a : Ask) (sb : Nat) (w : World) (hS : Right S) (ha : AskRight S a) (hs0 : SplAt w sb S) :
    Calls Try.prog 48 #[.pointer (some ⟨sb, 0, none⟩), a.val] w fun e w' => SpelledC S a e w' ∧ Below w.heap.size w w' := by
  have HA := Lib.hid ha
  have HS := Lib.hid hS
  have HSP := Lib.hid hs0
  unfold Ask.val
  clear ha hS hs0
  go_enter Try.func48, Try.ntmps48
  go_wp2_with (first
    | (go_at_call 80; refine (words_any a sb _).mono ?_; rintro e w1 ⟨bs, ba, ⟨rfl, hcs, hca⟩, hb1⟩; have HB1 := bThen (bAlloc (Below.refl _ _) _) hb1; have HCS := Lib.hid hcs; have HCA := Lib.hid hca; clear hcs hca)
    | (go_at_call 79; refine (collectText_any S a sb bs ba _ HS.out HA.out (HSP.out.keep HB1) HCS.out HCA.out (items_few HS.out HA.out 0)).mono ?_; rintro e w2 ⟨⟨hall, v, rfl, hrow⟩ | ⟨hall, rfl⟩, hb2⟩))
  · go_ret2
    refine ⟨⟨v, true, rfl, .inl ?_⟩, bThen HB1 hb2⟩
    have hne := itemsF_ne HS.out (a.num.toNat + 1) a 0 HA.out (by have := HA.out.num; omega)
    have hpos : 0 < (items S a 0).length := List.length_pos_iff.2 hne
    obtain ⟨hl, ⟨-, h0⟩ | ⟨g, cap, cur, rfl, hb, hg, hnc, -, hcs, ht⟩⟩ := hrow
    · omega
    · refine ⟨(items S a 0).map fun x => x.1.txt, g, cap, by simp [wordsOf, saidOf, hall], rfl, by rw [List.length_map], by rw [List.length_map]; exact hnc, (Array.getElem?_eq_some_iff.1 hg).1, fun j x hx => ?_⟩
      have hj : (texts (items S a 0))[j]? = some (.string x) := by
        rw [List.getElem?_map] at hx
        obtain ⟨y, hy, rfl⟩ := Option.map_eq_some_iff.1 hx
        simp [texts, hy]
      rw [← ht, List.getElem?_take] at hj
      rw [Nat.zero_add]
      split at hj
      · simp only [World.cell?, hg]; simpa using hj
      · cases hj
  · go_ret2
    exact ⟨⟨.slice none 0 0, false, rfl, .inr ⟨by simp [wordsOf, saidOf, hall], rfl⟩⟩, bThen HB1 hb2⟩

theorem join_key {S : Sys} {a : Ask} (hS : Right S) (ha : AskRight S a) {ws : List ByteArray} (h : wordsOf S a = some ws) :
    ∃ s : ByteArray, keyOf Try.prog 9 (.string s) = some (keyL ws) ∧ ∀ g c (w : World), ws.length ≤ c → g < w.heap.size → (∀ (j : Nat) x, ws[j]? = some x → w.cell? ⟨g, 0 + j, none⟩ = some (.string x)) →
      Calls Try.prog 59 #[.slice (some ⟨g, 0, none⟩) ws.length c, .string ⟨#[32]⟩] w fun e w' => e = .returned (.string s) ∧ Below w.heap.size w w' := by
  have hok := words_ok hS h
  obtain ⟨-, hfw⟩ := words_ne hS ha h
  have hlen := keyW_len hok hfw
  refine ⟨⟨(keyW ws).toArray⟩, ?_, fun g c w hcap hgl hcells => ?_⟩
  · have h := Go.WideMaps.keyOf_string_mk Try.underlying9 (s := ⟨(keyW ws).toArray⟩) (by unfold maxLen; show (keyW ws).toArray.size ≤ _; rw [List.size_toArray]; omega)
    rw [h]; rfl
  · have h := Try.strings_Join g 0 c ws ⟨#[32]⟩ w hcells hgl (by omega) hcap (Nat.le_trans hlen (by omega))
    exact h
def MapAt (n : Nat) (k : Nat) (l : List (List ByteArray × Nat)) (W : World) : Prop := ∃ D : DataW Unit, W.ownsMap Try.prog 9 (plainElem Try.prog 3) n k D ∧ MapR D l
theorem map_own {β : Type} {B n : Nat} (hB : n < B) (k : β → Nat) (l : β → List (List ByteArray × Nat)) : OwnFrom B (fun (s : β) W => MapAt n (k s) (l s) W) := by
  rintro s W W' row ⟨D, hm, hr⟩ hg hr'
  refine ⟨D, hm.kept hg (fun e => ?_), hr⟩
  obtain ⟨h1, -⟩ := hr' n e.symm; omega
theorem MapAt.below {n k : Nat} {l : List (List ByteArray × Nat)} {W W' : World} (h : MapAt n k l W) (hB : Below W.heap.size W W') : MapAt n k l W' := by
  obtain ⟨D, ⟨es, cl, h1, h2⟩, hr⟩ := h
  exact ⟨D, ⟨es, cl, heap_keep hB h1, h2⟩, hr⟩
theorem MapAt.more {n k : Nat} {l : List (List ByteArray × Nat)} {W : World} (h : MapAt n k l W) : MapAt n (k + 1) l W := let ⟨D, h1, h2⟩ := h; ⟨D, h1.mono (by omega), h2⟩
theorem twP_few {M : Nat} (S : Sys) (a : Ask) (pre : List (UpTo M)) : (twP S a pre).1.length ≤ pre.length ∧ (twP S a pre).2.length ≤ pre.length := by
  have h := twP_len (M := M) S a (pre.map Subtype.val) ([], [])
  simpa [twP] using h
theorem results_tmp2 {fn : Func} {t u : Tmp} (h : fn.results = #[.tmp t, .tmp u]) (tmps : Array Value) (P : Program) (w : World) : (results fn tmps).run P w = .ok (.tuple #[tmps.getD t undef, tmps.getD u undef]) w := by
  simp [results, h]

def TwinsPost (S : Sys) (a : Ask) (e : Ending) (w' : World) : Prop :=
  (scanErr a [S] ≠ 0 ∧ e = .returned (.tuple #[.slice none 0 0, .int .i64 (scanErr a [S])])) ∨
    (scanErr a [S] = 0 ∧ ∃ v, e = .returned (.tuple #[v, .int .i64 0]) ∧ SliceV w' v 2 TwAt (twinsTo S a a.num.toNat))
set_option maxRecDepth 100000 in
set_option maxHeartbeats 8000000 in
theorem Twins_any (S : Sys) (a : Ask) (vt vp vs : Value) (w : World) (hp : SysParts w vt vp vs S) :
    Calls Try.prog 30 #[sysVal S vt vp vs, a.val] w fun e w' => TwinsPost S a e w' ∧ Below w.heap.size w w' := by
  have HP := Lib.hid hp
  obtain ⟨⟨at_, ct, rfl, -⟩, ⟨ap, cp, rfl, -⟩, ⟨as_, cs, rfl, -⟩⟩ := hp
  unfold sysVal Ask.val
  by_cases hz : scanErr a [S] = 0
  case neg =>
    obtain ⟨en, hen⟩ : ∃ en, en = scanErr a [S] := ⟨_, rfl⟩
    have HEN := Lib.hid hen.symm
    have hnz : (en != 0) = true := by simp only [bne_iff_ne, ne_eq]; rw [hen]; exact hz
    have HNZ := Lib.hid hz
    clear hen hz
    refine (callsIn_wide (n := 6)).1 ?_
    refine callsIn_of_wp_marks Try.func30 rfl trivial ?_ rfl
    simp only [Try.ntmps30, List.size_toArray, List.length_cons, List.length_nil, Nat.reduceAdd, Nat.reduceSub, Array.replicate_succ, Array.replicate_zero, List.push_toArray, List.append_toArray, List.nil_append, List.cons_append]
    gi_wp2_with fail
    generalize hW1 : World.alloc (World.alloc w _) _ = W1
    have hbn : Below w.heap.size w W1 := by rw [← hW1]; exact bAlloc (bAlloc (Below.refl _ _) _) _
    have HBX : Hid (BX W1 w.heap.size S a (.slice at_ S.terms.length ct) (.slice ap S.plurals.length cp) (.slice as_ S.sets.length cs)) := Lib.hid (by rw [← hW1]; exact BX.new _ _ _ _ _ _)
    obtain ⟨s0, s1, s2, s3, s4, s5, s6, a0, a1, a2, a3, -, -⟩ := HBX.out
    have HB := Lib.hid hbn
    have hsz1 : W1.heap.size = w.heap.size + 1 + 1 := by rw [← hW1]; simp
    have hc53 : Calls Try.prog 53 #[.agg #[.int .i64 a.num, .int .i64 a.set, .int .i64 a.gen, .int .i64 a.kas], .slice (some ⟨w.heap.size + 1 + 1, 0, none⟩) 1 1] (W1.alloc (.cells #[.int .i64 S.top, .int .i64 S.genders, .int .i64 S.cases, .int .i64 S.classes, .slice at_ S.terms.length ct, .slice ap S.plurals.length cp, .slice as_ S.sets.length cs] 26)) fun e w' => e = .returned (.int .i64 (scanErr a [S])) ∧ Below (W1.alloc (.cells #[.int .i64 S.top, .int .i64 S.genders, .int .i64 S.cases, .int .i64 S.classes, .slice at_ S.terms.length ct, .slice ap S.plurals.length cp, .slice as_ S.sets.length cs] 26)).heap.size (W1.alloc (.cells #[.int .i64 S.top, .int .i64 S.genders, .int .i64 S.cases, .int .i64 S.classes, .slice at_ S.terms.length ct, .slice ap S.plurals.length cp, .slice as_ S.sets.length cs] 26)) w' := scanError_any a [S] _ _ (by rw [← hsz1]; exact (one_sys (c := 1) (b := W1.heap.size) (S := S) (W := W1.alloc (.cells #[.int .i64 S.top, .int .i64 S.genders, .int .i64 S.cases, .int .i64 S.classes, .slice at_ S.terms.length ct, .slice ap S.plurals.length cp, .slice as_ S.sets.length cs] 26)) ⟨_, _, _, cell_new rfl, cell_new rfl, cell_new rfl, cell_new rfl, cell_new rfl, cell_new rfl, cell_new rfl, HP.out.keep (bThen HB.out (bAlloc (Below.refl _ _) _))⟩))
    have HC53 := Lib.hid hc53
    clear hW1 hbn hc53 hsz1
    have hsl := cell_lt s0
    have hal := cell_lt a0
    refine ⟨trivial, ?_⟩
    refine (callsIn_wide.2 HC53.out).mono ?_
    rintro e w6 ⟨rfl, hb'⟩
    rw [HEN.out]
    have hb := bThen (bAlloc (Below.refl _ _) _) hb'
    replace s0 := keep hb s0; replace s1 := keep hb s1; replace s2 := keep hb s2; replace s3 := keep hb s3; replace s4 := keep hb s4; replace s5 := keep hb s5; replace s6 := keep hb s6; replace a0 := keep hb a0; replace a1 := keep hb a1; replace a2 := keep hb a2; replace a3 := keep hb a3; replace hsl := cell_lt s0; replace hal := cell_lt a0; replace HB := Lib.hid (bThen HB.out hb)
    clear hb hb'
    gi_wp2_with fail
    exact ⟨_, results_tmp2 rfl _ _ _, .inl ⟨HNZ.out, by rw [HEN.out]; rfl⟩, HB.out⟩
  obtain ⟨hok, htop⟩ := scan_ok hz
  obtain ⟨hS, ha⟩ := askRight_of hok
  have HZ := Lib.hid hz
  have HS := Lib.hid hS
  have HA := Lib.hid ha
  clear hz hS ha hok
  refine (callsIn_wide (n := 6)).1 ?_
  refine callsIn_of_wp_marks Try.func30 rfl trivial ?_ rfl
  simp only [Try.ntmps30, List.size_toArray, List.length_cons, List.length_nil, Nat.reduceAdd, Nat.reduceSub, Array.replicate_succ, Array.replicate_zero, List.push_toArray, List.append_toArray, List.nil_append, List.cons_append]
  gi_wp2_with fail
  generalize hW1 : World.alloc (World.alloc w _) _ = W1
  have hbn : Below w.heap.size w W1 := by rw [← hW1]; exact bAlloc (bAlloc (Below.refl _ _) _) _
  have HBX : Hid (BX W1 w.heap.size S a (.slice at_ S.terms.length ct) (.slice ap S.plurals.length cp) (.slice as_ S.sets.length cs)) := Lib.hid (by rw [← hW1]; exact BX.new _ _ _ _ _ _)
  obtain ⟨s0, s1, s2, s3, s4, s5, s6, a0, a1, a2, a3, -, -⟩ := HBX.out
  have HB := Lib.hid hbn
  have hsz1 : W1.heap.size = w.heap.size + 1 + 1 := by rw [← hW1]; simp
  have hc53 : Calls Try.prog 53 #[.agg #[.int .i64 a.num, .int .i64 a.set, .int .i64 a.gen, .int .i64 a.kas], .slice (some ⟨w.heap.size + 1 + 1, 0, none⟩) 1 1] (W1.alloc (.cells #[.int .i64 S.top, .int .i64 S.genders, .int .i64 S.cases, .int .i64 S.classes, .slice at_ S.terms.length ct, .slice ap S.plurals.length cp, .slice as_ S.sets.length cs] 26)) fun e w' => e = .returned (.int .i64 (scanErr a [S])) ∧ Below (W1.alloc (.cells #[.int .i64 S.top, .int .i64 S.genders, .int .i64 S.cases, .int .i64 S.classes, .slice at_ S.terms.length ct, .slice ap S.plurals.length cp, .slice as_ S.sets.length cs] 26)).heap.size (W1.alloc (.cells #[.int .i64 S.top, .int .i64 S.genders, .int .i64 S.cases, .int .i64 S.classes, .slice at_ S.terms.length ct, .slice ap S.plurals.length cp, .slice as_ S.sets.length cs] 26)) w' := scanError_any a [S] _ _ (by rw [← hsz1]; exact (one_sys (c := 1) (b := W1.heap.size) (S := S) (W := W1.alloc (.cells #[.int .i64 S.top, .int .i64 S.genders, .int .i64 S.cases, .int .i64 S.classes, .slice at_ S.terms.length ct, .slice ap S.plurals.length cp, .slice as_ S.sets.length cs] 26)) ⟨_, _, _, cell_new rfl, cell_new rfl, cell_new rfl, cell_new rfl, cell_new rfl, cell_new rfl, cell_new rfl, HP.out.keep (bThen HB.out (bAlloc (Below.refl _ _) _))⟩))
  have HC53 := Lib.hid hc53
  clear hW1 hbn hc53 hsz1
  have hsl := cell_lt s0
  have hal := cell_lt a0
  refine ⟨trivial, ?_⟩
  refine (callsIn_wide.2 HC53.out).mono ?_
  rintro e w6 ⟨rfl, hb'⟩
  rw [HZ.out]
  have hb := bThen (bAlloc (Below.refl _ _) _) hb'
  replace s0 := keep hb s0; replace s1 := keep hb s1; replace s2 := keep hb s2; replace s3 := keep hb s3; replace s4 := keep hb s4; replace s5 := keep hb s5; replace s6 := keep hb s6; replace a0 := keep hb a0; replace a1 := keep hb a1; replace a2 := keep hb a2; replace a3 := keep hb a3; replace hsl := cell_lt s0; replace hal := cell_lt a0; replace HB := Lib.hid (bThen HB.out hb)
  clear hb hb'
  gi_wp2_with fail
  refine ⟨trivial, ?_⟩
  refine (callsIn_wide.2 (newSpeller_any S _ _ _ _ (HP.out.keep HB.out))).mono ?_
  rintro e w7 ⟨⟨sb, rfl, hspl⟩, hb⟩
  replace s0 := keep hb s0; replace s1 := keep hb s1; replace s2 := keep hb s2; replace s3 := keep hb s3; replace s4 := keep hb s4; replace s5 := keep hb s5; replace s6 := keep hb s6; replace a0 := keep hb a0; replace a1 := keep hb a1; replace a2 := keep hb a2; replace a3 := keep hb a3; replace hsl := cell_lt s0; replace hal := cell_lt a0; replace HB := Lib.hid (bThen HB.out hb)
  clear hb
  have hmm := @run_makeMap Try.prog
  have hal2 : w.heap.size + 1 < w7.heap.size + 1 := by omega
  have hal3 : w.heap.size + 1 < w7.heap.size + 1 + 1 := by omega
  have hal4 : w.heap.size + 1 < w7.heap.size + 1 + 1 + 1 := by omega
  gi_wp2_with fail
  clear hmm hal2 hal3 hal4
  obtain ⟨W5, hW5⟩ : ∃ W5, W5 = w7.alloc (.cells #[.pointer (some ⟨sb, 0, none⟩)] 96) := ⟨_, rfl⟩
  rw [← hW5]
  generalize hW9 : World.alloc (World.alloc (World.alloc W5 _) _) _ = W9
  obtain ⟨n, hn⟩ : ∃ n, n = w7.heap.size + 1 := ⟨_, rfl⟩
  have hn5 : W5.heap.size = n := by rw [hW5, hn]; simp
  have hb : Below w7.heap.size w7 W5 := by rw [hW5]; exact bAlloc (Below.refl _ _) _
  have y0 : W5.cell? ⟨w7.heap.size, 0, none⟩ = some (.pointer (some ⟨sb, 0, none⟩)) := by rw [hW5]; exact cell_new rfl
  have HSP := Lib.hid (hspl.keep hb)
  replace s0 := keep hb s0; replace s1 := keep hb s1; replace s2 := keep hb s2; replace s3 := keep hb s3; replace s4 := keep hb s4; replace s5 := keep hb s5; replace s6 := keep hb s6; replace a0 := keep hb a0; replace a1 := keep hb a1; replace a2 := keep hb a2; replace a3 := keep hb a3; replace hsl := cell_lt s0; replace hal := cell_lt a0; replace HB := Lib.hid (bThen HB.out hb)
  have HW5 := Lib.hid (Below.refl W5.heap.size W5)
  have v8 : MapAt n 0 [] W9 := ⟨.map [], by rw [← hW9, ← hn5]; exact ((World.ownsMap_made W5 Try.prog 9 (plainElem Try.prog 3)).alloc _).alloc _, MapR.nil⟩
  have v9 : Boxed W9 (n + 1) 116 (.map (some n)) := by rw [← hW9, ← hn5]; have := (Boxed.new (W5.alloc (.map #[] 0)) 116 (.map (some W5.heap.size))).alloc (.cells #[.slice none 0 0] 69); rw [World.size_alloc] at this; rw [hn5, hn]; rw [hn5, hn] at this; exact this
  have v10 : Boxed W9 (n + 1 + 1) 69 (.slice none 0 0) := by rw [← hW9, ← hn5]; have := Boxed.new ((W5.alloc (.map #[] 0)).alloc (.cells #[.map (some (w7.heap.size + 1))] 116)) 69 (.slice none 0 0); rw [World.size_alloc, World.size_alloc] at this; exact this
  have hB9 : Below n W5 W9 := by rw [← hW9, ← hn5]; exact bAlloc (bAlloc (bAlloc (Below.refl _ _) _) _) _
  have hz9 : n + 1 + 1 < W9.heap.size := by rw [← hW9]; simp; omega
  refine ⟨trivial, ?_⟩
  refine (callsIn_wide.2 (upTo_any a.num _)).mono ?_
  rintro e w10 ⟨ub, ⟨rfl, hu⟩, hb'⟩
  obtain ⟨N, hN⟩ := Int.eq_ofNat_of_zero_le HA.out.num
  rw [hN] at hu
  have hN2 : N ≤ 20000 := by have := htop; omega
  have v8 := v8.below hb'
  have v9 := heap_keep hb' v9
  have v10 := heap_keep hb' v10
  have hB10 : Below n W5 w10 := hB9.trans (hb'.mono (by have := hB9.size; omega))
  have hsz10 := hB10.size
  have hz10 : n + 1 + 1 < w10.heap.size := Nat.lt_of_lt_of_le hz9 hb'.size
  have HNN := Lib.hid hN
  have HHB := HB
  clear hW9 hW5 hb hb' hB9 htop hN hz9
  subst hn
  gi_wp2_with fail
  obtain ⟨i0, hi, hz0, hz1, hz2⟩ := info_parts info76
  have HI := Lib.hid hi
  clear hi
  refine wpIn_range_kept (P := Try.prog) (n := 6) (by omega) (gf := 84) (lb := #[.pointer (some ⟨ub, 0, none⟩)]) rfl (enters_of Try.func84 (by kernel_rfl) rfl)
    (upTo1_says 5 N ub (fun _ _ => True) w10 hN2 hu) (fun _ _ => trivial) (fun _ _ _ _ _ _ _ _ => trivial) (Below.refl _ _) (fun _ => rfl)
    (fun pre W => MapAt (w7.heap.size + 1) pre.length (twP S a pre).1 W ∧ Boxed W (w7.heap.size + 1 + 1) 116 (.map (some (w7.heap.size + 1))) ∧ (∃ v, Boxed W (w7.heap.size + 1 + 1 + 1) 69 v ∧ W.ownsRow (w7.heap.size + 1 + 1) 76 2 v (twP S a pre).2.length (twC (twP S a pre).2) ∧ True) ∧ Below (w7.heap.size + 1) W5 W)
    (fun _ _ => False)
    ?hI ?hIx ?h0
    (fun x a' _ => a' = { tmps := #[.agg #[.int .i64 S.top, .int .i64 S.genders, .int .i64 S.cases, .int .i64 S.classes, .slice at_ S.terms.length ct, .slice ap S.plurals.length cp, .slice as_ S.sets.length cs], .agg #[.int .i64 a.num, .int .i64 a.set, .int .i64 a.gen, .int .i64 a.kas], .pointer (some ⟨w.heap.size, 0, none⟩), .pointer (some ⟨w.heap.size + 1, 0, none⟩), .slice none 0 0, .int .i64 0, .int .i64 0, .pointer (some ⟨w7.heap.size, 0, none⟩), .pointer (some ⟨w7.heap.size + 1 + 1, 0, none⟩), .pointer (some ⟨w7.heap.size + 1 + 1 + 1, 0, none⟩), .int .i64 (x.1 : Int), undef, undef, undef, undef, undef, .agg #[.int .i64 a.num, .int .i64 a.set, .int .i64 a.gen, .int .i64 a.kas], .agg #[.int .i64 S.top, .int .i64 S.genders, .int .i64 S.cases, .int .i64 S.classes, .slice at_ S.terms.length ct, .slice ap S.plurals.length cp, .slice as_ S.sets.length cs], .slice (some ⟨w.heap.size + 1 + 1, 0, none⟩) 1 1, .int .i64 0, .int .i64 0, .bool false, undef, .agg #[.int .i64 S.top, .int .i64 S.genders, .int .i64 S.cases, .int .i64 S.classes, .slice at_ S.terms.length ct, .slice ap S.plurals.length cp, .slice as_ S.sets.length cs], .pointer (some ⟨sb, 0, none⟩), .map (some (w7.heap.size + 1)), .pointer (some ⟨w.heap.size + 1, 0, none⟩), .int .i64 a.num, .func (.func 84) #[] #[.pointer (some ⟨ub, 0, none⟩)], .int .i64 (x.1 : Int), undef, undef, undef, undef, undef, undef, undef, undef, undef, undef, undef, undef, undef, undef, undef, undef, undef, undef, undef, undef, undef, undef, undef, undef, undef, undef, undef, undef, undef], defers := [] })
    ?hAx ?assign ?body ?done ?stop
  case hI =>
    refine OwnFrom.and (map_own (by omega) _ _) (OwnFrom.and (Own.from (boxed_own _ _ (fun _ => Value.map (some (w7.heap.size + 1)))) _) (OwnFrom.and (Own.from (holdsRow_own (w7.heap.size + 1 + 1) (w7.heap.size + 1 + 1 + 1) 69 76 2 (fun pre : List (UpTo (N + 1)) => (twP S a pre).2.length) (fun pre => twC (twP S a pre).2) (fun _ _ => True)) _) (ownFrom_below (by omega) (by omega))))
  case hIx => exact fun _ _ _ _ hs _ _ => hs
  case h0 => exact ⟨v8, v9, ⟨_, v10, World.ownsRow_nil _ _ _ _, trivial⟩, hB10⟩
  case hAx => exact fun _ _ _ _ _ _ hs _ _ => hs
  case assign =>
    rintro l pre x W K hi hK
    gi_wp2
    exact hK _ _ (KeepsFrom.refl _ _) trivial hi rfl
  case body =>
    rintro l pre x a' W ⟨u8, u9, ⟨v, u10, urow, -⟩, hB⟩ rfl hlen
    obtain ⟨x, hx⟩ := x
    simp only
    have hB5 : Below W5.heap.size W5 W := by rw [hn5]; exact hB
    have y0 := keep hB5 y0
    have a0 := keep hB5 a0
    have a1 := keep hB5 a1
    have a2 := keep hB5 a2
    have a3 := keep hB5 a3
    have HX := Lib.hid hx
    have ha' : AskRight S (numb a x) := numb_right HA.out (by have := HNN.out; omega)
    have h57 : ∀ W', Calls Try.prog 57 #[.agg #[.int .i64 a.num, .int .i64 a.set, .int .i64 a.gen, .int .i64 a.kas], .int .i64 (x : Int)] W' fun e w' => e = .returned (.agg #[.int .i64 (x : Int), .int .i64 a.set, .int .i64 a.gen, .int .i64 a.kas]) ∧ Below W'.heap.size W' w' := fun W' => numbered_any a x W'
    have h48 : ∀ W', Below W.heap.size W W' → Calls Try.prog 48 #[.pointer (some ⟨sb, 0, none⟩), .agg #[.int .i64 (x : Int), .int .i64 a.set, .int .i64 a.gen, .int .i64 a.kas]] W' fun e w' => SpelledC S (numb a x) e w' ∧ Below W'.heap.size W' w' := fun W' hb => spellC_any S (numb a x) sb W' HS.out ha' ((HSP.out.keep hB5).keep hb)
    have H57 := Lib.hid h57
    have H48 := Lib.hid h48
    have HAR' := Lib.hid ha'
    have HV8 := Lib.hid u8
    have HV9 := Lib.hid u9
    have HV10 := Lib.hid u10
    have HRW := Lib.hid urow
    have HBX5 := Lib.hid hB
    have HSN := Lib.hid (twP_snoc S a pre ⟨x, hx⟩)
    have hsW := hB.size
    have hyl := cell_lt y0
    have hal' := cell_lt a0
    have hfew := twP_few S a pre
    have hlen2 : pre.length ≤ 20001 := by rw [upL_length] at hlen; omega
    clear h57 h48 u8 u9 u10 urow hB hB5 ha' hB10 v8 v9 v10 hlen
    gi_wp2_with fail
    refine wpIn_mono (Q := fun e a' w' => e = .normal ∧ ∃ vv t, a' = { tmps := #[.agg #[.int .i64 S.top, .int .i64 S.genders, .int .i64 S.cases, .int .i64 S.classes, .slice at_ S.terms.length ct, .slice ap S.plurals.length cp, .slice as_ S.sets.length cs], .agg #[.int .i64 a.num, .int .i64 a.set, .int .i64 a.gen, .int .i64 a.kas], .pointer (some ⟨w.heap.size, 0, none⟩), .pointer (some ⟨w.heap.size + 1, 0, none⟩), .slice none 0 0, .int .i64 0, .int .i64 0, .pointer (some ⟨w7.heap.size, 0, none⟩), .pointer (some ⟨w7.heap.size + 1 + 1, 0, none⟩), .pointer (some ⟨w7.heap.size + 1 + 1 + 1, 0, none⟩), .int .i64 (x : Int), vv, .bool t, undef, undef, undef, .agg #[.int .i64 a.num, .int .i64 a.set, .int .i64 a.gen, .int .i64 a.kas], .agg #[.int .i64 S.top, .int .i64 S.genders, .int .i64 S.cases, .int .i64 S.classes, .slice at_ S.terms.length ct, .slice ap S.plurals.length cp, .slice as_ S.sets.length cs], .slice (some ⟨w.heap.size + 1 + 1, 0, none⟩) 1 1, .int .i64 0, .int .i64 0, .bool false, undef, .agg #[.int .i64 S.top, .int .i64 S.genders, .int .i64 S.cases, .int .i64 S.classes, .slice at_ S.terms.length ct, .slice ap S.plurals.length cp, .slice as_ S.sets.length cs], .pointer (some ⟨sb, 0, none⟩), .map (some (w7.heap.size + 1)), .pointer (some ⟨w.heap.size + 1, 0, none⟩), .int .i64 a.num, .func (.func 84) #[] #[.pointer (some ⟨ub, 0, none⟩)], .int .i64 (x : Int), .tuple #[vv, .bool t], .pointer (some ⟨sb, 0, none⟩), .agg #[.int .i64 a.num, .int .i64 a.set, .int .i64 a.gen, .int .i64 a.kas], .int .i64 (x : Int), .agg #[.int .i64 (x : Int), .int .i64 a.set, .int .i64 a.gen, .int .i64 a.kas], .tuple #[vv, .bool t], vv, .bool t, undef, undef, undef, undef, undef, undef, undef, undef, undef, undef, undef, undef, undef, undef, undef, undef, undef, undef, undef, undef, undef], defers := [] } ∧ SpelledC S (numb a x) (.returned (.tuple #[vv, .bool t])) w' ∧ Below W.heap.size W w') ?_ ?_
    · gi_region_with (first
        | (refine ⟨trivial, ?_⟩; refine (CallsIn.inRound l (callsIn_wide.2 (H57.out _))).mono ?_; rintro e w1 ⟨rfl, hb1⟩; have HB1 := Lib.hid (bThen (Below.drew (Below.refl W.heap.size W)) hb1); have y1 := keep HB1.out y0; have hy1 := cell_lt y1; clear hb1)
        | (refine ⟨trivial, ?_⟩; refine (CallsIn.inRound l (callsIn_wide.2 (H48.out _ HB1.out))).mono ?_; rintro e w2 ⟨hsp, hb2⟩; have HBF := Lib.hid (bThen HB1.out hb2); clear hb2; have HSP2 := Lib.hid hsp; obtain ⟨vv, t, rfl, -⟩ := hsp))
      all_goals exact ⟨rfl, _, _, rfl, HSP2.out, HBF.out⟩
    rintro e a' w2 ⟨rfl, vv, t, rfl, hsp, hbf⟩
    have HBF := Lib.hid hbf
    have HM8 := Lib.hid (HV8.out.below hbf)
    have HM9 := Lib.hid (show Boxed w2 (w7.heap.size + 1 + 1) 116 (.map (some (w7.heap.size + 1))) from heap_keep hbf HV9.out)
    have HM10 := Lib.hid (show Boxed w2 (w7.heap.size + 1 + 1 + 1) 69 v from heap_keep hbf HV10.out)
    have HR2 := Lib.hid (ownsRow_below HRW.out hbf)
    have hsW2 := hbf.size
    have hq : (∃ ws g c, wordsOf S (numb a x) = some ws ∧ t = true ∧ vv = .slice (some ⟨g, 0, none⟩) ws.length c ∧ ws.length ≤ c ∧ g < w2.heap.size ∧ ∀ (j : Nat) x, ws[j]? = some x → w2.cell? ⟨g, 0 + j, none⟩ = some (.string x)) ∨ (wordsOf S (numb a x) = none ∧ t = false) := by
      obtain ⟨v1, t1, he, h⟩ := hsp
      simp only [Ending.returned.injEq, Value.tuple.injEq, Array.mk.injEq, List.cons.injEq, Value.bool.injEq, and_true] at he
      obtain ⟨rfl, rfl⟩ := he
      exact h
    have HQ := Lib.hid hq
    clear hsp hbf hq
    all_goals
      have HB2 := Lib.hid (HBX5.out.trans (HBF.out.mono (by omega)))
      rcases HQ.out with ⟨ws, g, c, hws, rfl, rfl, hcap, hgl, hcells⟩ | ⟨hnone, rfl⟩
      · have hok := words_ok HS.out hws
        obtain ⟨hne, hfw⟩ := words_ne HS.out HAR'.out hws
        have HWS := Lib.hid hws
        have HWK := Lib.hid hok
        have HWN := Lib.hid hne
        obtain ⟨s, hkey, hj⟩ := join_key HS.out HAR'.out hws
        have HJ := Lib.hid (hj g c w2 hcap hgl hcells)
        have HKEY := Lib.hid hkey
        obtain ⟨D, hD, hDR⟩ := HM8.out
        have HD := Lib.hid hD
        have HDR := Lib.hid hDR
        clear hok hne hws hkey hj hcells hD hDR hfw
        cases hsn : seen (twP S a pre).1 ws with
        | some f =>
          have HHAS : Hid (Go.Maps.has D (keyL ws) = true) := Lib.hid (by rw [HDR.out.has ws HWK.out HWN.out, hsn]; rfl)
          have HVAL : Hid (∀ z, D.atKey (keyL ws) z = .lit (.int .i64 (f : Int))) := Lib.hid (HDR.out.val ws f HWK.out HWN.out hsn)
          have HST : Hid (twP S a (pre ++ [⟨x, hx⟩]) = ((twP S a pre).1, (twP S a pre).2 ++ [(f, x)])) := Lib.hid (by rw [HSN.out]; unfold twStep; rw [HWS.out]; dsimp only; rw [hsn])
          clear hsn
          gi_wp2_with (first
            | (refine ⟨trivial, ?_⟩; refine (CallsIn.inRound l (callsIn_wide.2 HJ.out)).mono ?_; rintro e w3 ⟨rfl, hb3⟩; have HB3 := Lib.hid hb3; have c9 := (show Boxed w3 _ _ _ from heap_keep hb3 HM9.out).cell; have l9 := (show Boxed w3 _ _ _ from heap_keep hb3 HM9.out).lt; have hv10 : Boxed w3 (w7.heap.size + 1 + 1 + 1) 69 v := heap_keep hb3 HM10.out; have c10 := hv10.cell; have l10 := hv10.lt; have HV3 := Lib.hid hv10; have HR3 := Lib.hid (ownsRow_below HR2.out hb3); have HD3 := Lib.hid (show w3.ownsMap Try.prog 9 (plainElem Try.prog 3) (w7.heap.size + 1) pre.length D from (let ⟨es, cl, h1, h2⟩ := HD.out; ⟨es, cl, heap_keep hb3 h1, h2⟩)); clear hb3 hv10)
            | (gi_at_lookup; refine wpListIn_lookup_own_ok_int _ rfl _ _ 116 rfl 9 3 .i64 (Go.Maps.string_keyed Try.underlying9) Try.underlying116 Try.underlying3 (Try.zeroValue3 _) (w7.heap.size + 1) pre.length D rfl HD3.out _ _ rfl HKEY.out ?_; intro cc hat hwc; rw [HVAL.out] at hat; obtain rfl : cc = (f : Int) := (by injection hat with hat; injection hat with _ hat; exact hat.symm); rw [HHAS.out]; clear hat hwc)
            | (gi_at_builtin; refine wpListIn_append_own _ rfl _ _ 69 rfl (w7.heap.size + 1 + 1) 76 i0 (.agg #[.int .i64 0, .int .i64 0]) 2 16 Try.underlying69 HI.out hz0 hz1 hz2 rfl (by decide) v (twP S a pre).2.length (twC (twP S a pre).2) rfl (HR3.out.alloc _) ⟨w3.heap.size, 0, none⟩ 1 1 [.int .i64 (f : Int), .int .i64 (x : Int)] rfl rfl (cells_new _ _ _) (by simp [Value.oneCell']) (by unfold maxLen; omega) (by omega) (by simp; omega) ?_; intro v' w4 hown' hgrow _; obtain ⟨g', cap', rfl⟩ := ownsRow_succ hown'; obtain ⟨hv1, hv2, hr2, hk2, hb2⟩ := Boxed.appended HV3.out (by decide) HR3.out (by omega) (by omega) hown' hgrow; have hc1 := hv1.cell; have hf1 := hv1.frozen; have HU := Lib.hid (And.intro (And.intro hown' hgrow) (And.intro hv2 (And.intro hr2 (And.intro hk2 hb2)))); clear hown' hgrow hv1 hv2 hr2 hk2 hb2))
          obtain ⟨⟨hown', hgrow⟩, hv2, hr2, hk2, hb2⟩ := HU.out
          have hb3 := HB3.out
          refine ⟨((others_below HBF.out).trans ((others_below hb3).trans hk2)).from _, trivial, ?_⟩
          dsimp only
          rw [HST.out]
          refine ⟨⟨D, ?_, HDR.out⟩, Boxed.past (heap_keep hb3 HM9.out) (by decide) HR3.out hgrow (by omega) _, ⟨_, hv2, by rw [List.length_append, twC_append]; simpa [twC] using hr2, trivial⟩, HB2.out.trans ((hb3.mono (by omega)).trans (hb2.mono (by omega)))⟩
          have hrb : some (w7.heap.size + 1) ≠ v.ownBlock := fun e => by have := (HR3.out.lt _ e.symm).1; omega
          rw [List.length_append]
          exact ((HD3.out.alloc _).kept hgrow hrb |>.setCell (by simp) _).mono (by simp)
        | none =>
          have HHAS : Hid (Go.Maps.has D (keyL ws) = false) := Lib.hid (by rw [HDR.out.has ws HWK.out HWN.out, hsn]; rfl)
          have HST : Hid (twP S a (pre ++ [⟨x, hx⟩]) = ((twP S a pre).1 ++ [(ws, x)], (twP S a pre).2)) := Lib.hid (by rw [HSN.out]; unfold twStep; rw [HWS.out]; dsimp only; rw [hsn])
          have HSEEN := Lib.hid hsn
          have HWF : Hid ((Lit.int .i64 (x : Int)).wf = true) := Lib.hid (WalkArith.wf_i64 (by have := HX.out; omega))
          clear hsn
          gi_wp2_with (first
            | (refine ⟨trivial, ?_⟩; refine (CallsIn.inRound l (callsIn_wide.2 HJ.out)).mono ?_; rintro e w3 ⟨rfl, hb3⟩; have HB3 := Lib.hid hb3; have c9 := (show Boxed w3 _ _ _ from heap_keep hb3 HM9.out).cell; have l9 := (show Boxed w3 _ _ _ from heap_keep hb3 HM9.out).lt; have hv10 : Boxed w3 (w7.heap.size + 1 + 1 + 1) 69 v := heap_keep hb3 HM10.out; have c10 := hv10.cell; have l10 := hv10.lt; have HV3 := Lib.hid hv10; have HR3 := Lib.hid (ownsRow_below HR2.out hb3); have HD3 := Lib.hid (show w3.ownsMap Try.prog 9 (plainElem Try.prog 3) (w7.heap.size + 1) pre.length D from (let ⟨es, cl, h1, h2⟩ := HD.out; ⟨es, cl, heap_keep hb3 h1, h2⟩)); clear hb3 hv10)
            | (gi_at_lookup; refine wpListIn_lookup_own_ok_int _ rfl _ _ 116 rfl 9 3 .i64 (Go.Maps.string_keyed Try.underlying9) Try.underlying116 Try.underlying3 (Try.zeroValue3 _) (w7.heap.size + 1) pre.length D rfl HD3.out _ _ rfl HKEY.out ?_; intro cc hat hwc; rw [HHAS.out]; clear hat hwc)
            | (gi_at_mapUpdate; refine wpListIn_mapUpdate_own _ rfl _ _ _ 116 rfl 9 3 (Go.Maps.string_keyed Try.underlying9) Try.underlying116 _ (w7.heap.size + 1) pre.length D rfl HD3.out (by unfold maxLen; omega) _ _ _ rfl rfl HKEY.out _ [] (plainElem_int Try.underlying3 HWF.out) ?_; intro w4 hown4 hgrow4; have HU := Lib.hid (And.intro hown4 hgrow4); clear hown4 hgrow4))
          obtain ⟨hown4, hgrow4⟩ := HU.out
          have hb3 := HB3.out
          have hz3 := hb3.size
          refine ⟨(((others_below HBF.out).trans (others_below hb3)).from _).trans (KeepsFrom.of_grownBy hgrow4 (fun j e => by injection e with e; omega)), trivial, ?_⟩
          dsimp only
          rw [HST.out]
          refine ⟨⟨_, by rw [List.length_append]; exact hown4, HDR.out.put HWK.out HWN.out HSEEN.out x⟩, Boxed.kept (heap_keep hb3 HM9.out) hgrow4 (fun e => by injection e with e; omega), ⟨v, Boxed.kept HV3.out hgrow4 (fun e => by injection e with e; omega), HR3.out.kept hgrow4 (.inr (fun e => by have := (HR3.out.lt _ e).1; omega)), trivial⟩, HB2.out.trans ((hb3.mono (by omega)).trans ((Below.refl _ _).grown hgrow4 (by omega) (fun g e => by injection e with e; omega)))⟩
      · have HST : Hid (twP S a (pre ++ [⟨x, hx⟩]) = twP S a pre) := Lib.hid (by rw [HSN.out]; unfold twStep; rw [hnone])
        clear hnone
        gi_wp2_with fail
        refine ⟨(others_below HBF.out).from _, trivial, ?_⟩
        dsimp only
        rw [HST.out]
        first
          | exact ⟨by rw [List.length_append]; exact HM8.out.more, HM9.out, ⟨v, HM10.out, HR2.out, trivial⟩, HB2.out⟩
          | exact ⟨by rw [List.length_append]; exact HM8.out.more, HM9.out, ⟨v, HM10.out, HR2.out⟩, HB2.out⟩
  case done =>
    rintro D W hD ⟨u8, u9, ⟨v, u10, urow, -⟩, hB⟩ hK
    obtain ⟨ad, cap, rfl⟩ := ownsRow_slice urow
    have c10 := u10.cell
    have h10 := u10.lt
    have HRW := Lib.hid urow
    have HKD := Lib.hid hK
    have HBX5 := Lib.hid hB
    clear u8 u9 u10 urow hB hK v8 v9 v10 hB10
    gi_wp2_with fail
    have hrow' := ownsRow_putObj HRW.out (.deferred none) HKD.out rfl
    have hB' : Below (w7.heap.size + 1) W5 (W.putObj D (.deferred none)) := HBX5.out.trans (belowK_b (w := W5) (by omega) W D _ _ (by omega) HKD.out rfl rfl)
    refine ⟨by simp, .inl ⟨_, _, rfl, run_takeDeferred HKD.out, ?_⟩⟩
    refine ⟨_, results_tmp2 rfl _ _ _, .inr ⟨HZ.out, _, rfl, ?_⟩, bThen HHB.out (by rw [hn5]; exact hB')⟩
    have e0 : a.num.toNat = N := by rw [HNN.out]; rfl
    have h1 := tw_slice hrow' (by have := (twP_few S a (upL (N + 1))).2; rw [upL_length] at this; omega)
    rw [twP_all] at h1
    rw [e0]
    rw [twP_all]
    exact h1
  case stop => rintro D pre W _ _ h _; exact h.elim
end Go.Proofs.Ytfcopnlpcbbocaa
