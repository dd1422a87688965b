/- The law of reading, walked: for every system, ask, words and number it answers true. -/
import Derived.Test.YtfcopnlpcbbocaaR7
set_option linter.unusedSimpArgs false
set_option linter.unusedVariables false
namespace Go.Proofs.Ytfcopnlpcbbocaa
open Go.RowKit

theorem SliceV.mono {α : Type} {w : World} {v : Value} {sz : Nat} {R R' : World → Nat → Nat → α → Prop} {xs : List α} (h : SliceV w v sz R xs) (hR : ∀ w b o x, R w b o x → R' w b o x) : SliceV w v sz R' xs := by
  obtain ⟨a, c, hv, hl, hx⟩ := h
  exact ⟨a, c, hv, hl, hx.imp id fun ⟨b, o, ha, hi⟩ => ⟨b, o, ha, fun i h => hR _ _ _ _ (hi i h)⟩⟩
theorem scanErr_ref (S : Sys) (a : Ask) : refErr S a true = scanErr a [S] := by
  unfold refErr scanErr; simp
theorem ReadPost.err {S : Sys} {a : Ask} {ws : List ByteArray} {e : Ending} {w : World} {n : Int} (h : ReadPost S a ws e w) (he : scanErr a [S] = n) (hn : n ≠ 0) : e = .returned (.tuple #[.slice none 0 0, .int .i64 n]) := by
  rcases h with ⟨-, h⟩ | ⟨h, -⟩ | ⟨h, -⟩
  · rw [he] at h; exact h
  · exact absurd (he.symm.trans h) hn
  · exact absurd (he.symm.trans h) hn
theorem ReadPost.none {S : Sys} {a : Ask} {ws : List ByteArray} {e : Ending} {w : World} (h : ReadPost S a ws e w) (he : scanErr a [S] = 0) (hn : readsTo S a a.num.toNat ws = []) : e = .returned (.tuple #[.slice none 0 0, .int .i64 5]) := by
  rcases h with ⟨h, -⟩ | ⟨-, -, h⟩ | ⟨-, h, -⟩
  · exact absurd he h
  · exact h
  · exact absurd hn h
theorem ReadPost.some {S : Sys} {a : Ask} {ws : List ByteArray} {e : Ending} {w : World} {L : List Nat} (h : ReadPost S a ws e w) (he : scanErr a [S] = 0) (hL : readsTo S a a.num.toNat ws = L) (hn : L ≠ []) :
    ∃ ad c, e = .returned (.tuple #[.slice ad L.length c, .int .i64 0]) ∧ Hid (SliceV w (.slice ad L.length c) 1 IntAt (L.map fun n : Nat => (n : Int))) := by
  subst hL
  rcases h with ⟨h, -⟩ | ⟨-, h, -⟩ | ⟨-, -, v, rfl, hs⟩
  · exact absurd he h
  · exact absurd h hn
  · obtain ⟨ad, c, rfl, -⟩ := id hs
    rw [List.length_map] at hs ⊢
    exact ⟨ad, c, rfl, Lib.hid hs⟩
theorem askOk_numb {S : Sys} {a : Ask} {n : Int} (h : askOk S a = true) (h0 : 0 ≤ n) (h1 : n ≤ a.num) : askOk S ⟨n, a.set, a.gen, a.kas⟩ = true := by
  simp only [askOk, Bool.and_eq_true, betw, exst, decide_eq_true_eq] at h ⊢
  refine ⟨⟨⟨⟨h.1.1.1.1, h0, by omega⟩, h.1.1.2⟩, h.1.2⟩, h.2⟩
theorem met_succ (L : List Nat) (k : Nat) (h : k < L.length) (n : Int) : decide (n ∈ (L.take (k + 1)).map fun n : Nat => (n : Int)) = (decide (n ∈ (L.take k).map fun n : Nat => (n : Int)) || ((L[k] : Int) == n)) := by
  rw [take_succ L k h, List.map_append, Bool.eq_iff_iff]
  simp only [List.mem_append, List.map_cons, List.map_nil, List.mem_singleton, decide_eq_true_eq, Bool.or_eq_true, beq_iff_eq]
  exact ⟨fun h => h.imp id Eq.symm, fun h => h.imp id Eq.symm⟩
theorem reads_mem {S : Sys} {a : Ask} {n : Int} {ws : List ByteArray} (h0 : 0 ≤ n) (h1 : n ≤ a.num) (hw : wordsOf S ⟨n, a.set, a.gen, a.kas⟩ = some ws) : n.toNat ∈ readsTo S a a.num.toNat ws := by
  unfold readsTo
  rw [List.mem_filter, List.mem_range]
  refine ⟨by omega, ?_⟩
  have e : numb a (n.toNat : Int) = ⟨n, a.set, a.gen, a.kas⟩ := by unfold numb; rw [Int.toNat_of_nonneg h0]
  rw [e, hw]; simp

set_option maxRecDepth 100000 in
set_option maxHeartbeats 8000000 in
theorem reads_any (S : Sys) (a : Ask) (n : Int) (ws : List ByteArray) (vt vp vs vw : Value) (w : World) (hp : SysParts w vt vp vs S) (hvw : SliceV w vw 1 (fun w b o t => StrAt w b o t ∧ t.size ≤ most) ws) :
    Calls Try.prog 6 #[sysVal S vt vp vs, a.val, vw, .int .i64 n] w fun e w' => e = .returned (.bool true) ∧ Below w.heap.size w w' := by
  have HVS := Lib.hid (hvw.mono (R' := StrAt) fun _ _ _ _ h => h.1)
  have HSZ : Hid (∀ k (h : k < ws.length), ws[k].size ≤ most) := Lib.hid fun k h => by
    obtain ⟨_, _, _, _, hx⟩ := hvw
    rcases hx with hx | ⟨b, o, _, hf⟩
    · rw [hx] at h; simp at h
    · exact (hf k h).2
  obtain ⟨wa, wc, rfl, hwl, -⟩ := hvw
  unfold most at hwl
  have HPS := Lib.hid hp
  obtain ⟨⟨at_, ct, rfl, -⟩, ⟨ap, cp, rfl, -⟩, ⟨as_, cs, rfl, -⟩⟩ := hp
  have HSV := Lib.hid (sysVal_eq S (.slice at_ S.terms.length ct) (.slice ap S.plurals.length cp) (.slice as_ S.sets.length cs))
  unfold sysVal Ask.val
  have h20 : ∀ W', SysParts W' (.slice at_ S.terms.length ct) (.slice ap S.plurals.length cp) (.slice as_ S.sets.length cs) S → Calls Try.prog 20 #[.agg #[.int .i64 S.top, .int .i64 S.genders, .int .i64 S.cases, .int .i64 S.classes, .slice at_ S.terms.length ct, .slice ap S.plurals.length cp, .slice as_ S.sets.length cs], .agg #[.int .i64 n, .int .i64 a.set, .int .i64 a.gen, .int .i64 a.kas]] W' fun e w' => SpellPost S ⟨n, a.set, a.gen, a.kas⟩ e w' ∧ Below W'.heap.size W' w' := fun W' h => Spell_any S ⟨n, a.set, a.gen, a.kas⟩ _ _ _ W' h
  have h27 : ∀ W' vw' ws', SysParts W' (.slice at_ S.terms.length ct) (.slice ap S.plurals.length cp) (.slice as_ S.sets.length cs) S → SliceV W' vw' 1 StrAt ws' → Calls Try.prog 27 #[.agg #[.int .i64 S.top, .int .i64 S.genders, .int .i64 S.cases, .int .i64 S.classes, .slice at_ S.terms.length ct, .slice ap S.plurals.length cp, .slice as_ S.sets.length cs], .agg #[.int .i64 a.num, .int .i64 a.set, .int .i64 a.gen, .int .i64 a.kas], vw'] W' fun e w' => ReadPost S a ws' e w' ∧ Below W'.heap.size W' w' := fun W' vw' ws' h h' => Read_any S a ws' _ _ _ vw' W' h h'
  have h22 : ∀ W', SysParts W' (.slice at_ S.terms.length ct) (.slice ap S.plurals.length cp) (.slice as_ S.sets.length cs) S → Calls Try.prog 22 #[.agg #[.int .i64 S.top, .int .i64 S.genders, .int .i64 S.cases, .int .i64 S.classes, .slice at_ S.terms.length ct, .slice ap S.plurals.length cp, .slice as_ S.sets.length cs], .agg #[.int .i64 a.num, .int .i64 a.set, .int .i64 a.gen, .int .i64 a.kas], .bool true] W' fun e w' => e = .returned (.int .i64 (refErr S a true)) ∧ Below W'.heap.size W' w' := fun W' h => refused_any S a true _ _ _ W' h
  have H20 := Lib.hid h20
  have H27 := Lib.hid h27
  have H22 := Lib.hid h22
  clear h20 h27 h22
  have tok1 : True := trivial
  have tok2 : True := trivial
  by_cases c1 : 300 < a.num
  · by_cases c1' : a.num ≤ 20000
    · go_enter Try.func6, Try.ntmps6
      go_wp2_with fail
      generalize hW1 : World.alloc (World.alloc w _) _ = W1
      have hbn : Below w.heap.size w W1 := by rw [← hW1]; exact bAlloc (bAlloc (Below.refl _ _) _) _
      have s0 : W1.cell? ⟨w.heap.size, 0, none⟩ = some (.int .i64 S.top) := by rw [← hW1]; exact keep (bAlloc (Below.refl _ _) _) (cell_new rfl)
      have s1 : W1.cell? ⟨w.heap.size, 1, none⟩ = some (.int .i64 S.genders) := by rw [← hW1]; exact keep (bAlloc (Below.refl _ _) _) (cell_new rfl)
      have s2 : W1.cell? ⟨w.heap.size, 2, none⟩ = some (.int .i64 S.cases) := by rw [← hW1]; exact keep (bAlloc (Below.refl _ _) _) (cell_new rfl)
      have s3 : W1.cell? ⟨w.heap.size, 3, none⟩ = some (.int .i64 S.classes) := by rw [← hW1]; exact keep (bAlloc (Below.refl _ _) _) (cell_new rfl)
      have s4 : W1.cell? ⟨w.heap.size, 4, none⟩ = some (.slice at_ S.terms.length ct) := by rw [← hW1]; exact keep (bAlloc (Below.refl _ _) _) (cell_new rfl)
      have s5 : W1.cell? ⟨w.heap.size, 5, none⟩ = some (.slice ap S.plurals.length cp) := by rw [← hW1]; exact keep (bAlloc (Below.refl _ _) _) (cell_new rfl)
      have s6 : W1.cell? ⟨w.heap.size, 6, none⟩ = some (.slice as_ S.sets.length cs) := by rw [← hW1]; exact keep (bAlloc (Below.refl _ _) _) (cell_new rfl)
      have a0 : W1.cell? ⟨w.heap.size + 1, 0, none⟩ = some (.int .i64 a.num) := by rw [← hW1]; simp
      have a1 : W1.cell? ⟨w.heap.size + 1, 1, none⟩ = some (.int .i64 a.set) := by rw [← hW1]; simp
      have a2 : W1.cell? ⟨w.heap.size + 1, 2, none⟩ = some (.int .i64 a.gen) := by rw [← hW1]; simp
      have a3 : W1.cell? ⟨w.heap.size + 1, 3, none⟩ = some (.int .i64 a.kas) := by rw [← hW1]; simp
      have HB := Lib.hid hbn
      have HPn := Lib.hid (HPS.out.keep hbn)
      have hsl := cell_lt s0
      have hal := cell_lt a0
      have HV := Lib.hid (HVS.out.keep StrAt.stable hbn)
      clear hW1 hbn
      go_wp2_with (first
        | (go_at_call 14; rw [HSV.out]; refine (small_any S _ _ _ _ HPn.out).mono ?_; rintro e w1 ⟨⟨b, rfl⟩, hb⟩; replace s0 := keep hb s0; replace s1 := keep hb s1; replace s2 := keep hb s2; replace s3 := keep hb s3; replace s4 := keep hb s4; replace s5 := keep hb s5; replace s6 := keep hb s6; replace a0 := keep hb a0; replace a1 := keep hb a1; replace a2 := keep hb a2; replace a3 := keep hb a3; replace hsl := cell_lt s0; replace hal := cell_lt a0; replace HPn := Lib.hid (HPn.out.keep hb); replace HB := Lib.hid (bThen HB.out hb); have HBw1 := Lib.hid hb; clear hb; cases b)
        | (go_at_call 15; have _t := tok1; refine (known_any _).mono ?_; rintro e wk ⟨rfl, hb⟩; replace HB := Lib.hid (bThen HB.out hb); clear hb))
      all_goals
        go_ret
        exact ⟨rfl, HB.out⟩
    by_cases c2 : 60 < (ws.length : Int)
    · go_enter Try.func6, Try.ntmps6
      go_wp2_with fail
      generalize hW1 : World.alloc (World.alloc w _) _ = W1
      have hbn : Below w.heap.size w W1 := by rw [← hW1]; exact bAlloc (bAlloc (Below.refl _ _) _) _
      have s0 : W1.cell? ⟨w.heap.size, 0, none⟩ = some (.int .i64 S.top) := by rw [← hW1]; exact keep (bAlloc (Below.refl _ _) _) (cell_new rfl)
      have s1 : W1.cell? ⟨w.heap.size, 1, none⟩ = some (.int .i64 S.genders) := by rw [← hW1]; exact keep (bAlloc (Below.refl _ _) _) (cell_new rfl)
      have s2 : W1.cell? ⟨w.heap.size, 2, none⟩ = some (.int .i64 S.cases) := by rw [← hW1]; exact keep (bAlloc (Below.refl _ _) _) (cell_new rfl)
      have s3 : W1.cell? ⟨w.heap.size, 3, none⟩ = some (.int .i64 S.classes) := by rw [← hW1]; exact keep (bAlloc (Below.refl _ _) _) (cell_new rfl)
      have s4 : W1.cell? ⟨w.heap.size, 4, none⟩ = some (.slice at_ S.terms.length ct) := by rw [← hW1]; exact keep (bAlloc (Below.refl _ _) _) (cell_new rfl)
      have s5 : W1.cell? ⟨w.heap.size, 5, none⟩ = some (.slice ap S.plurals.length cp) := by rw [← hW1]; exact keep (bAlloc (Below.refl _ _) _) (cell_new rfl)
      have s6 : W1.cell? ⟨w.heap.size, 6, none⟩ = some (.slice as_ S.sets.length cs) := by rw [← hW1]; exact keep (bAlloc (Below.refl _ _) _) (cell_new rfl)
      have a0 : W1.cell? ⟨w.heap.size + 1, 0, none⟩ = some (.int .i64 a.num) := by rw [← hW1]; simp
      have a1 : W1.cell? ⟨w.heap.size + 1, 1, none⟩ = some (.int .i64 a.set) := by rw [← hW1]; simp
      have a2 : W1.cell? ⟨w.heap.size + 1, 2, none⟩ = some (.int .i64 a.gen) := by rw [← hW1]; simp
      have a3 : W1.cell? ⟨w.heap.size + 1, 3, none⟩ = some (.int .i64 a.kas) := by rw [← hW1]; simp
      have HB := Lib.hid hbn
      have HPn := Lib.hid (HPS.out.keep hbn)
      have hsl := cell_lt s0
      have hal := cell_lt a0
      have HV := Lib.hid (HVS.out.keep StrAt.stable hbn)
      clear hW1 hbn
      go_wp2_with (first
        | (go_at_call 14; rw [HSV.out]; refine (small_any S _ _ _ _ HPn.out).mono ?_; rintro e w1 ⟨⟨b, rfl⟩, hb⟩; replace s0 := keep hb s0; replace s1 := keep hb s1; replace s2 := keep hb s2; replace s3 := keep hb s3; replace s4 := keep hb s4; replace s5 := keep hb s5; replace s6 := keep hb s6; replace a0 := keep hb a0; replace a1 := keep hb a1; replace a2 := keep hb a2; replace a3 := keep hb a3; replace hsl := cell_lt s0; replace hal := cell_lt a0; replace HPn := Lib.hid (HPn.out.keep hb); replace HB := Lib.hid (bThen HB.out hb); have HBw1 := Lib.hid hb; clear hb; cases b)
        | (go_at_call 15; have _t := tok1; refine (known_any _).mono ?_; rintro e wk ⟨rfl, hb⟩; replace HB := Lib.hid (bThen HB.out hb); clear hb))
      all_goals
        go_ret
        exact ⟨rfl, HB.out⟩
    go_enter Try.func6, Try.ntmps6
    go_wp2_with fail
    generalize hW1 : World.alloc (World.alloc w _) _ = W1
    have hbn : Below w.heap.size w W1 := by rw [← hW1]; exact bAlloc (bAlloc (Below.refl _ _) _) _
    have s0 : W1.cell? ⟨w.heap.size, 0, none⟩ = some (.int .i64 S.top) := by rw [← hW1]; exact keep (bAlloc (Below.refl _ _) _) (cell_new rfl)
    have s1 : W1.cell? ⟨w.heap.size, 1, none⟩ = some (.int .i64 S.genders) := by rw [← hW1]; exact keep (bAlloc (Below.refl _ _) _) (cell_new rfl)
    have s2 : W1.cell? ⟨w.heap.size, 2, none⟩ = some (.int .i64 S.cases) := by rw [← hW1]; exact keep (bAlloc (Below.refl _ _) _) (cell_new rfl)
    have s3 : W1.cell? ⟨w.heap.size, 3, none⟩ = some (.int .i64 S.classes) := by rw [← hW1]; exact keep (bAlloc (Below.refl _ _) _) (cell_new rfl)
    have s4 : W1.cell? ⟨w.heap.size, 4, none⟩ = some (.slice at_ S.terms.length ct) := by rw [← hW1]; exact keep (bAlloc (Below.refl _ _) _) (cell_new rfl)
    have s5 : W1.cell? ⟨w.heap.size, 5, none⟩ = some (.slice ap S.plurals.length cp) := by rw [← hW1]; exact keep (bAlloc (Below.refl _ _) _) (cell_new rfl)
    have s6 : W1.cell? ⟨w.heap.size, 6, none⟩ = some (.slice as_ S.sets.length cs) := by rw [← hW1]; exact keep (bAlloc (Below.refl _ _) _) (cell_new rfl)
    have a0 : W1.cell? ⟨w.heap.size + 1, 0, none⟩ = some (.int .i64 a.num) := by rw [← hW1]; simp
    have a1 : W1.cell? ⟨w.heap.size + 1, 1, none⟩ = some (.int .i64 a.set) := by rw [← hW1]; simp
    have a2 : W1.cell? ⟨w.heap.size + 1, 2, none⟩ = some (.int .i64 a.gen) := by rw [← hW1]; simp
    have a3 : W1.cell? ⟨w.heap.size + 1, 3, none⟩ = some (.int .i64 a.kas) := by rw [← hW1]; simp
    have HB := Lib.hid hbn
    have HPn := Lib.hid (HPS.out.keep hbn)
    have hsl := cell_lt s0
    have hal := cell_lt a0
    have HV := Lib.hid (HVS.out.keep StrAt.stable hbn)
    clear hW1 hbn
    go_wp2_with (first
      | (go_at_call 14; rw [HSV.out]; refine (small_any S _ _ _ _ HPn.out).mono ?_; rintro e w1 ⟨⟨b, rfl⟩, hb⟩; replace s0 := keep hb s0; replace s1 := keep hb s1; replace s2 := keep hb s2; replace s3 := keep hb s3; replace s4 := keep hb s4; replace s5 := keep hb s5; replace s6 := keep hb s6; replace a0 := keep hb a0; replace a1 := keep hb a1; replace a2 := keep hb a2; replace a3 := keep hb a3; replace hsl := cell_lt s0; replace hal := cell_lt a0; replace HPn := Lib.hid (HPn.out.keep hb); replace HB := Lib.hid (bThen HB.out hb); have HBw1 := Lib.hid hb; replace HV := Lib.hid (HV.out.keep StrAt.stable hb); clear hb; cases b)
      | (go_at_call 15; have _t := tok1; refine (known_any _).mono ?_; rintro e wk ⟨rfl, hb⟩; replace HB := Lib.hid (bThen HB.out hb); clear hb))
    any_goals first
      | (go_ret; exact ⟨rfl, HB.out⟩)
      | (exfalso; omega)
      | skip
    go_loopw [9] (fun i wr => ∃ k : Nat, k ≤ ws.length ∧ i = .int .i64 k ∧ wr = w1) (fun i _ => ws.length - (intOf i).toNat)
    case atStart => exact ⟨0, Nat.zero_le _, rfl, rfl⟩
    case round =>
      obtain ⟨k, hk, rfl, rfl⟩ := hrel
      by_cases hlt : k < ws.length
      · have hne : ws ≠ [] := by intro h; rw [h] at hlt; simp at hlt
        obtain ⟨xb, xo, rfl, hf⟩ := HV.out.at hne
        have x0 : _ = _ := hf k hlt
        simp only [Nat.mul_one] at x0
        have hxs := HSZ.out k hlt
        have hxl := cell_lt x0
        clear hf hne
        generalize ws[k] = x at *
        unfold most at hxs
        by_cases hx60 : 60 < (x.size : Int)
        · go_wp2_with ((go_at_call 15; have _t := tok1; refine (known_any _).mono ?_; rintro e wk ⟨rfl, hb⟩; replace HB := Lib.hid (bThen HB.out hb); clear hb))
          go_ret
          exact ⟨rfl, HB.out⟩
        · go_wp2_with fail
          go_roundw
          case rel => exact ⟨k + 1, by omega, by go_num, by first | rfl | trivial⟩
          case measure => simp [intOf]; omega
      · obtain rfl : k = ws.length := by omega
        clear hk hlt
        by_cases he : scanErr a [S] = 0
        case neg =>
          obtain ⟨en, hen⟩ : ∃ en, en = scanErr a [S] := ⟨_, rfl⟩
          have HEN := Lib.hid hen.symm
          have HNZ := Lib.hid (show en ≠ 0 by rw [hen]; exact he)
          have hnz : (en != 0) = true := by simp [HNZ.out]
          have HER : Hid (refErr S a true = en) := Lib.hid (by rw [scanErr_ref, HEN.out])
          clear hen he
          go_wp2_with (first
            | (go_at_call 27; refine (H27.out _ _ _ HPn.out HV.out).mono ?_; rintro e w2 ⟨hq, hb⟩; obtain rfl := ReadPost.err hq HEN.out HNZ.out; replace s0 := keep hb s0; replace s1 := keep hb s1; replace s2 := keep hb s2; replace s3 := keep hb s3; replace s4 := keep hb s4; replace s5 := keep hb s5; replace s6 := keep hb s6; replace a0 := keep hb a0; replace a1 := keep hb a1; replace a2 := keep hb a2; replace a3 := keep hb a3; replace hsl := cell_lt s0; replace hal := cell_lt a0; replace HPn := Lib.hid (HPn.out.keep hb); replace HB := Lib.hid (bThen HB.out hb); replace HV := Lib.hid (HV.out.keep StrAt.stable hb); clear hb hq)
            | (go_at_call 22; refine (H22.out _ HPn.out).mono ?_; rintro e w2 ⟨rfl, hb⟩; rw [HER.out]; replace s0 := keep hb s0; replace s1 := keep hb s1; replace s2 := keep hb s2; replace s3 := keep hb s3; replace s4 := keep hb s4; replace s5 := keep hb s5; replace s6 := keep hb s6; replace a0 := keep hb a0; replace a1 := keep hb a1; replace a2 := keep hb a2; replace a3 := keep hb a3; replace hsl := cell_lt s0; replace hal := cell_lt a0; replace HPn := Lib.hid (HPn.out.keep hb); replace HB := Lib.hid (bThen HB.out hb); replace HV := Lib.hid (HV.out.keep StrAt.stable hb); clear hb)
            | (go_at_call 15; have _t := tok1; refine (known_any _).mono ?_; rintro e wk ⟨rfl, hb⟩; replace HB := Lib.hid (bThen HB.out hb); clear hb))
          go_ret
          exact ⟨rfl, HB.out⟩
        have hok : askOk S a = true := by
          cases h : askOk S a
          · unfold scanErr at he; simp [h] at he
          · rfl
        have hmx : a.num ≤ 20000 := by
          unfold scanErr at he; simp [hok] at he; omega
        exact absurd hmx (by omega)
  by_cases c2 : 60 < (ws.length : Int)
  · go_enter Try.func6, Try.ntmps6
    go_wp2_with fail
    generalize hW1 : World.alloc (World.alloc w _) _ = W1
    have hbn : Below w.heap.size w W1 := by rw [← hW1]; exact bAlloc (bAlloc (Below.refl _ _) _) _
    have s0 : W1.cell? ⟨w.heap.size, 0, none⟩ = some (.int .i64 S.top) := by rw [← hW1]; exact keep (bAlloc (Below.refl _ _) _) (cell_new rfl)
    have s1 : W1.cell? ⟨w.heap.size, 1, none⟩ = some (.int .i64 S.genders) := by rw [← hW1]; exact keep (bAlloc (Below.refl _ _) _) (cell_new rfl)
    have s2 : W1.cell? ⟨w.heap.size, 2, none⟩ = some (.int .i64 S.cases) := by rw [← hW1]; exact keep (bAlloc (Below.refl _ _) _) (cell_new rfl)
    have s3 : W1.cell? ⟨w.heap.size, 3, none⟩ = some (.int .i64 S.classes) := by rw [← hW1]; exact keep (bAlloc (Below.refl _ _) _) (cell_new rfl)
    have s4 : W1.cell? ⟨w.heap.size, 4, none⟩ = some (.slice at_ S.terms.length ct) := by rw [← hW1]; exact keep (bAlloc (Below.refl _ _) _) (cell_new rfl)
    have s5 : W1.cell? ⟨w.heap.size, 5, none⟩ = some (.slice ap S.plurals.length cp) := by rw [← hW1]; exact keep (bAlloc (Below.refl _ _) _) (cell_new rfl)
    have s6 : W1.cell? ⟨w.heap.size, 6, none⟩ = some (.slice as_ S.sets.length cs) := by rw [← hW1]; exact keep (bAlloc (Below.refl _ _) _) (cell_new rfl)
    have a0 : W1.cell? ⟨w.heap.size + 1, 0, none⟩ = some (.int .i64 a.num) := by rw [← hW1]; simp
    have a1 : W1.cell? ⟨w.heap.size + 1, 1, none⟩ = some (.int .i64 a.set) := by rw [← hW1]; simp
    have a2 : W1.cell? ⟨w.heap.size + 1, 2, none⟩ = some (.int .i64 a.gen) := by rw [← hW1]; simp
    have a3 : W1.cell? ⟨w.heap.size + 1, 3, none⟩ = some (.int .i64 a.kas) := by rw [← hW1]; simp
    have HB := Lib.hid hbn
    have HPn := Lib.hid (HPS.out.keep hbn)
    have hsl := cell_lt s0
    have hal := cell_lt a0
    have HV := Lib.hid (HVS.out.keep StrAt.stable hbn)
    clear hW1 hbn
    go_wp2_with (first
      | (go_at_call 14; rw [HSV.out]; refine (small_any S _ _ _ _ HPn.out).mono ?_; rintro e w1 ⟨⟨b, rfl⟩, hb⟩; replace s0 := keep hb s0; replace s1 := keep hb s1; replace s2 := keep hb s2; replace s3 := keep hb s3; replace s4 := keep hb s4; replace s5 := keep hb s5; replace s6 := keep hb s6; replace a0 := keep hb a0; replace a1 := keep hb a1; replace a2 := keep hb a2; replace a3 := keep hb a3; replace hsl := cell_lt s0; replace hal := cell_lt a0; replace HPn := Lib.hid (HPn.out.keep hb); replace HB := Lib.hid (bThen HB.out hb); have HBw1 := Lib.hid hb; clear hb; cases b)
      | (go_at_call 15; have _t := tok1; refine (known_any _).mono ?_; rintro e wk ⟨rfl, hb⟩; replace HB := Lib.hid (bThen HB.out hb); clear hb))
    all_goals
      go_ret
      exact ⟨rfl, HB.out⟩
  go_enter Try.func6, Try.ntmps6
  go_wp2_with fail
  generalize hW1 : World.alloc (World.alloc w _) _ = W1
  have hbn : Below w.heap.size w W1 := by rw [← hW1]; exact bAlloc (bAlloc (Below.refl _ _) _) _
  have s0 : W1.cell? ⟨w.heap.size, 0, none⟩ = some (.int .i64 S.top) := by rw [← hW1]; exact keep (bAlloc (Below.refl _ _) _) (cell_new rfl)
  have s1 : W1.cell? ⟨w.heap.size, 1, none⟩ = some (.int .i64 S.genders) := by rw [← hW1]; exact keep (bAlloc (Below.refl _ _) _) (cell_new rfl)
  have s2 : W1.cell? ⟨w.heap.size, 2, none⟩ = some (.int .i64 S.cases) := by rw [← hW1]; exact keep (bAlloc (Below.refl _ _) _) (cell_new rfl)
  have s3 : W1.cell? ⟨w.heap.size, 3, none⟩ = some (.int .i64 S.classes) := by rw [← hW1]; exact keep (bAlloc (Below.refl _ _) _) (cell_new rfl)
  have s4 : W1.cell? ⟨w.heap.size, 4, none⟩ = some (.slice at_ S.terms.length ct) := by rw [← hW1]; exact keep (bAlloc (Below.refl _ _) _) (cell_new rfl)
  have s5 : W1.cell? ⟨w.heap.size, 5, none⟩ = some (.slice ap S.plurals.length cp) := by rw [← hW1]; exact keep (bAlloc (Below.refl _ _) _) (cell_new rfl)
  have s6 : W1.cell? ⟨w.heap.size, 6, none⟩ = some (.slice as_ S.sets.length cs) := by rw [← hW1]; exact keep (bAlloc (Below.refl _ _) _) (cell_new rfl)
  have a0 : W1.cell? ⟨w.heap.size + 1, 0, none⟩ = some (.int .i64 a.num) := by rw [← hW1]; simp
  have a1 : W1.cell? ⟨w.heap.size + 1, 1, none⟩ = some (.int .i64 a.set) := by rw [← hW1]; simp
  have a2 : W1.cell? ⟨w.heap.size + 1, 2, none⟩ = some (.int .i64 a.gen) := by rw [← hW1]; simp
  have a3 : W1.cell? ⟨w.heap.size + 1, 3, none⟩ = some (.int .i64 a.kas) := by rw [← hW1]; simp
  have HB := Lib.hid hbn
  have HPn := Lib.hid (HPS.out.keep hbn)
  have hsl := cell_lt s0
  have hal := cell_lt a0
  have HV := Lib.hid (HVS.out.keep StrAt.stable hbn)
  clear hW1 hbn
  go_wp2_with (first
    | (go_at_call 14; rw [HSV.out]; refine (small_any S _ _ _ _ HPn.out).mono ?_; rintro e w1 ⟨⟨b, rfl⟩, hb⟩; replace s0 := keep hb s0; replace s1 := keep hb s1; replace s2 := keep hb s2; replace s3 := keep hb s3; replace s4 := keep hb s4; replace s5 := keep hb s5; replace s6 := keep hb s6; replace a0 := keep hb a0; replace a1 := keep hb a1; replace a2 := keep hb a2; replace a3 := keep hb a3; replace hsl := cell_lt s0; replace hal := cell_lt a0; replace HPn := Lib.hid (HPn.out.keep hb); replace HB := Lib.hid (bThen HB.out hb); have HBw1 := Lib.hid hb; replace HV := Lib.hid (HV.out.keep StrAt.stable hb); clear hb; cases b)
    | (go_at_call 15; have _t := tok1; refine (known_any _).mono ?_; rintro e wk ⟨rfl, hb⟩; replace HB := Lib.hid (bThen HB.out hb); clear hb))
  any_goals first
    | (go_ret; exact ⟨rfl, HB.out⟩)
    | (exfalso; omega)
    | skip
  go_loopw [9] (fun i wr => ∃ k : Nat, k ≤ ws.length ∧ i = .int .i64 k ∧ wr = w1) (fun i _ => ws.length - (intOf i).toNat)
  case atStart => exact ⟨0, Nat.zero_le _, rfl, rfl⟩
  case round =>
    obtain ⟨k, hk, rfl, rfl⟩ := hrel
    by_cases hlt : k < ws.length
    · have hne : ws ≠ [] := by intro h; rw [h] at hlt; simp at hlt
      obtain ⟨xb, xo, rfl, hf⟩ := HV.out.at hne
      have x0 : _ = _ := hf k hlt
      simp only [Nat.mul_one] at x0
      have hxs := HSZ.out k hlt
      have hxl := cell_lt x0
      clear hf hne
      generalize ws[k] = x at *
      unfold most at hxs
      by_cases hx60 : 60 < (x.size : Int)
      · go_wp2_with ((go_at_call 15; have _t := tok1; refine (known_any _).mono ?_; rintro e wk ⟨rfl, hb⟩; replace HB := Lib.hid (bThen HB.out hb); clear hb))
        go_ret
        exact ⟨rfl, HB.out⟩
      · go_wp2_with fail
        go_roundw
        case rel => exact ⟨k + 1, by omega, by go_num, by first | rfl | trivial⟩
        case measure => simp [intOf]; omega
    · obtain rfl : k = ws.length := by omega
      clear hk hlt
      by_cases he : scanErr a [S] = 0
      case neg =>
        obtain ⟨en, hen⟩ : ∃ en, en = scanErr a [S] := ⟨_, rfl⟩
        have HEN := Lib.hid hen.symm
        have HNZ := Lib.hid (show en ≠ 0 by rw [hen]; exact he)
        have hnz : (en != 0) = true := by simp [HNZ.out]
        have HER : Hid (refErr S a true = en) := Lib.hid (by rw [scanErr_ref, HEN.out])
        clear hen he
        go_wp2_with (first
          | (go_at_call 27; refine (H27.out _ _ _ HPn.out HV.out).mono ?_; rintro e w2 ⟨hq, hb⟩; obtain rfl := ReadPost.err hq HEN.out HNZ.out; replace s0 := keep hb s0; replace s1 := keep hb s1; replace s2 := keep hb s2; replace s3 := keep hb s3; replace s4 := keep hb s4; replace s5 := keep hb s5; replace s6 := keep hb s6; replace a0 := keep hb a0; replace a1 := keep hb a1; replace a2 := keep hb a2; replace a3 := keep hb a3; replace hsl := cell_lt s0; replace hal := cell_lt a0; replace HPn := Lib.hid (HPn.out.keep hb); replace HB := Lib.hid (bThen HB.out hb); replace HV := Lib.hid (HV.out.keep StrAt.stable hb); clear hb hq)
          | (go_at_call 22; refine (H22.out _ HPn.out).mono ?_; rintro e w2 ⟨rfl, hb⟩; rw [HER.out]; replace s0 := keep hb s0; replace s1 := keep hb s1; replace s2 := keep hb s2; replace s3 := keep hb s3; replace s4 := keep hb s4; replace s5 := keep hb s5; replace s6 := keep hb s6; replace a0 := keep hb a0; replace a1 := keep hb a1; replace a2 := keep hb a2; replace a3 := keep hb a3; replace hsl := cell_lt s0; replace hal := cell_lt a0; replace HPn := Lib.hid (HPn.out.keep hb); replace HB := Lib.hid (bThen HB.out hb); replace HV := Lib.hid (HV.out.keep StrAt.stable hb); clear hb)
          | (go_at_call 15; have _t := tok1; refine (known_any _).mono ?_; rintro e wk ⟨rfl, hb⟩; replace HB := Lib.hid (bThen HB.out hb); clear hb))
        go_ret
        exact ⟨rfl, HB.out⟩
      have hok : askOk S a = true := by
        cases h : askOk S a
        · unfold scanErr at he; simp [h] at he
        · rfl
      have hmx : a.num ≤ 20000 := by
        unfold scanErr at he; simp [hok] at he; omega
      have HE0 := Lib.hid he
      have HER : Hid (refErr S a true = 0) := Lib.hid (by rw [scanErr_ref, he])
      have hR := askRight_of hok
      have h28 : ∀ W', SysParts W' (.slice at_ S.terms.length ct) (.slice ap S.plurals.length cp) (.slice as_ S.sets.length cs) S → SliceV W' (.slice wa ws.length wc) 1 StrAt ws → Calls Try.prog 28 #[.agg #[.int .i64 S.top, .int .i64 S.genders, .int .i64 S.cases, .int .i64 S.classes, .slice at_ S.terms.length ct, .slice ap S.plurals.length cp, .slice as_ S.sets.length cs], .agg #[.int .i64 a.num, .int .i64 a.set, .int .i64 a.gen, .int .i64 a.kas], .slice wa ws.length wc] W' fun e w' => (∃ v, e = .returned v ∧ SliceV w' v 1 IntAt ((readsTo S a a.num.toNat ws).map fun n : Nat => (n : Int))) ∧ Below W'.heap.size W' w' := fun W' h h' => refRead_any S hR.1 a hR.2 hmx ws _ _ _ _ W' h h'
      have H28 := Lib.hid h28
      have HOK := Lib.hid hok
      clear he hok hR h28
      obtain ⟨L, hL⟩ : ∃ L, L = readsTo S a a.num.toNat ws := ⟨_, rfl⟩
      have HL := Lib.hid hL.symm
      rw [← hL] at H28
      have hLl : L.length ≤ 20001 := by
        have := scan_len (fun n => decide (wordsOf S (numb a n) = some ws)) (a.num.toNat + 1)
        rw [hL]; unfold readsTo; omega
      clear hL
      by_cases hn0 : n < 0 ∨ a.num < n
      · rcases hn0 with hn0 | hn0
        · by_cases hnil : L = []
          · have hz : ((L.length : Int) == 0) = true := by simp [hnil]
            have HNIL := Lib.hid hnil
            clear hnil
            go_wp2_with (first
              | (go_at_call 27; have _t := tok2; refine (H27.out _ _ _ HPn.out HV.out).mono ?_; rintro e w2 ⟨hq, hb⟩; obtain rfl := ReadPost.none hq HE0.out (HL.out.trans HNIL.out); clear tok2; replace s0 := keep hb s0; replace s1 := keep hb s1; replace s2 := keep hb s2; replace s3 := keep hb s3; replace s4 := keep hb s4; replace s5 := keep hb s5; replace s6 := keep hb s6; replace a0 := keep hb a0; replace a1 := keep hb a1; replace a2 := keep hb a2; replace a3 := keep hb a3; replace hsl := cell_lt s0; replace hal := cell_lt a0; replace HPn := Lib.hid (HPn.out.keep hb); replace HB := Lib.hid (bThen HB.out hb); replace HV := Lib.hid (HV.out.keep StrAt.stable hb); clear hb hq)
              | (go_at_call 22; refine (H22.out _ HPn.out).mono ?_; rintro e w2 ⟨rfl, hb⟩; rw [HER.out]; replace s0 := keep hb s0; replace s1 := keep hb s1; replace s2 := keep hb s2; replace s3 := keep hb s3; replace s4 := keep hb s4; replace s5 := keep hb s5; replace s6 := keep hb s6; replace a0 := keep hb a0; replace a1 := keep hb a1; replace a2 := keep hb a2; replace a3 := keep hb a3; replace hsl := cell_lt s0; replace hal := cell_lt a0; replace HPn := Lib.hid (HPn.out.keep hb); replace HB := Lib.hid (bThen HB.out hb); replace HV := Lib.hid (HV.out.keep StrAt.stable hb); clear hb)
              | (go_at_call 28; refine (H28.out _ HPn.out HV.out).mono ?_; rintro e w2 ⟨⟨vq, rfl, hq⟩, hb⟩; obtain ⟨adq, ccq, rfl, -⟩ := id hq; rw [List.length_map] at hq ⊢; have HX := Lib.hid hq; replace s0 := keep hb s0; replace s1 := keep hb s1; replace s2 := keep hb s2; replace s3 := keep hb s3; replace s4 := keep hb s4; replace s5 := keep hb s5; replace s6 := keep hb s6; replace a0 := keep hb a0; replace a1 := keep hb a1; replace a2 := keep hb a2; replace a3 := keep hb a3; replace hsl := cell_lt s0; replace hal := cell_lt a0; replace HPn := Lib.hid (HPn.out.keep hb); replace HB := Lib.hid (bThen HB.out hb); replace HV := Lib.hid (HV.out.keep StrAt.stable hb); clear hb hq)
              | (go_at_call 15; have _t := tok1; refine (known_any _).mono ?_; rintro e wk ⟨rfl, hb⟩; replace HB := Lib.hid (bThen HB.out hb); clear hb))
            all_goals
              go_ret
              exact ⟨rfl, HB.out⟩
          · have hz : ((L.length : Int) == 0) = false := by simp [hnil]
            have HNIL := Lib.hid hnil
            clear hnil
            go_wp2_with (first
              | (go_at_call 27; have _t := tok2; refine (H27.out _ _ _ HPn.out HV.out).mono ?_; rintro e w2 ⟨hq, hb⟩; obtain ⟨adr, ccr, rfl, HRD⟩ := ReadPost.some hq HE0.out HL.out HNIL.out; clear tok2; replace s0 := keep hb s0; replace s1 := keep hb s1; replace s2 := keep hb s2; replace s3 := keep hb s3; replace s4 := keep hb s4; replace s5 := keep hb s5; replace s6 := keep hb s6; replace a0 := keep hb a0; replace a1 := keep hb a1; replace a2 := keep hb a2; replace a3 := keep hb a3; replace hsl := cell_lt s0; replace hal := cell_lt a0; replace HPn := Lib.hid (HPn.out.keep hb); replace HB := Lib.hid (bThen HB.out hb); replace HV := Lib.hid (HV.out.keep StrAt.stable hb); clear hb hq)
              | (go_at_call 22; refine (H22.out _ HPn.out).mono ?_; rintro e w2 ⟨rfl, hb⟩; rw [HER.out]; replace s0 := keep hb s0; replace s1 := keep hb s1; replace s2 := keep hb s2; replace s3 := keep hb s3; replace s4 := keep hb s4; replace s5 := keep hb s5; replace s6 := keep hb s6; replace a0 := keep hb a0; replace a1 := keep hb a1; replace a2 := keep hb a2; replace a3 := keep hb a3; replace hsl := cell_lt s0; replace hal := cell_lt a0; replace HPn := Lib.hid (HPn.out.keep hb); replace HB := Lib.hid (bThen HB.out hb); replace HV := Lib.hid (HV.out.keep StrAt.stable hb); replace HRD := Lib.hid (HRD.out.keep IntAt.stable hb); clear hb)
              | (go_at_call 28; refine (H28.out _ HPn.out HV.out).mono ?_; rintro e w2 ⟨⟨vq, rfl, hq⟩, hb⟩; obtain ⟨adq, ccq, rfl, -⟩ := id hq; rw [List.length_map] at hq ⊢; have HX := Lib.hid hq; replace s0 := keep hb s0; replace s1 := keep hb s1; replace s2 := keep hb s2; replace s3 := keep hb s3; replace s4 := keep hb s4; replace s5 := keep hb s5; replace s6 := keep hb s6; replace a0 := keep hb a0; replace a1 := keep hb a1; replace a2 := keep hb a2; replace a3 := keep hb a3; replace hsl := cell_lt s0; replace hal := cell_lt a0; replace HPn := Lib.hid (HPn.out.keep hb); replace HB := Lib.hid (bThen HB.out hb); replace HV := Lib.hid (HV.out.keep StrAt.stable hb); replace HRD := Lib.hid (HRD.out.keep IntAt.stable hb); clear hb hq)
              | (go_at_call 29; refine (isB (Numbers_any (L.map fun n : Nat => (n : Int)) (L.map fun n : Nat => (n : Int)) _ _ _ HRD.out HX.out) (show _ = true by simp)).mono ?_; rintro e w2 ⟨rfl, hb⟩; replace s0 := keep hb s0; replace s1 := keep hb s1; replace s2 := keep hb s2; replace s3 := keep hb s3; replace s4 := keep hb s4; replace s5 := keep hb s5; replace s6 := keep hb s6; replace a0 := keep hb a0; replace a1 := keep hb a1; replace a2 := keep hb a2; replace a3 := keep hb a3; replace hsl := cell_lt s0; replace hal := cell_lt a0; replace HPn := Lib.hid (HPn.out.keep hb); replace HB := Lib.hid (bThen HB.out hb); replace HV := Lib.hid (HV.out.keep StrAt.stable hb); replace HRD := Lib.hid (HRD.out.keep IntAt.stable hb); replace HX := Lib.hid (HX.out.keep IntAt.stable hb); clear hb)
              | (go_at_call 15; have _t := tok1; refine (known_any _).mono ?_; rintro e wk ⟨rfl, hb⟩; replace HB := Lib.hid (bThen HB.out hb); clear hb))
            all_goals
              go_ret
              exact ⟨rfl, HB.out⟩
        · by_cases hnn : n < 0
          · by_cases hnil : L = []
            · have hz : ((L.length : Int) == 0) = true := by simp [hnil]
              have HNIL := Lib.hid hnil
              clear hnil
              go_wp2_with (first
                | (go_at_call 27; have _t := tok2; refine (H27.out _ _ _ HPn.out HV.out).mono ?_; rintro e w2 ⟨hq, hb⟩; obtain rfl := ReadPost.none hq HE0.out (HL.out.trans HNIL.out); clear tok2; replace s0 := keep hb s0; replace s1 := keep hb s1; replace s2 := keep hb s2; replace s3 := keep hb s3; replace s4 := keep hb s4; replace s5 := keep hb s5; replace s6 := keep hb s6; replace a0 := keep hb a0; replace a1 := keep hb a1; replace a2 := keep hb a2; replace a3 := keep hb a3; replace hsl := cell_lt s0; replace hal := cell_lt a0; replace HPn := Lib.hid (HPn.out.keep hb); replace HB := Lib.hid (bThen HB.out hb); replace HV := Lib.hid (HV.out.keep StrAt.stable hb); clear hb hq)
                | (go_at_call 22; refine (H22.out _ HPn.out).mono ?_; rintro e w2 ⟨rfl, hb⟩; rw [HER.out]; replace s0 := keep hb s0; replace s1 := keep hb s1; replace s2 := keep hb s2; replace s3 := keep hb s3; replace s4 := keep hb s4; replace s5 := keep hb s5; replace s6 := keep hb s6; replace a0 := keep hb a0; replace a1 := keep hb a1; replace a2 := keep hb a2; replace a3 := keep hb a3; replace hsl := cell_lt s0; replace hal := cell_lt a0; replace HPn := Lib.hid (HPn.out.keep hb); replace HB := Lib.hid (bThen HB.out hb); replace HV := Lib.hid (HV.out.keep StrAt.stable hb); clear hb)
                | (go_at_call 28; refine (H28.out _ HPn.out HV.out).mono ?_; rintro e w2 ⟨⟨vq, rfl, hq⟩, hb⟩; obtain ⟨adq, ccq, rfl, -⟩ := id hq; rw [List.length_map] at hq ⊢; have HX := Lib.hid hq; replace s0 := keep hb s0; replace s1 := keep hb s1; replace s2 := keep hb s2; replace s3 := keep hb s3; replace s4 := keep hb s4; replace s5 := keep hb s5; replace s6 := keep hb s6; replace a0 := keep hb a0; replace a1 := keep hb a1; replace a2 := keep hb a2; replace a3 := keep hb a3; replace hsl := cell_lt s0; replace hal := cell_lt a0; replace HPn := Lib.hid (HPn.out.keep hb); replace HB := Lib.hid (bThen HB.out hb); replace HV := Lib.hid (HV.out.keep StrAt.stable hb); clear hb hq)
                | (go_at_call 15; have _t := tok1; refine (known_any _).mono ?_; rintro e wk ⟨rfl, hb⟩; replace HB := Lib.hid (bThen HB.out hb); clear hb))
              all_goals
                go_ret
                exact ⟨rfl, HB.out⟩
            · have hz : ((L.length : Int) == 0) = false := by simp [hnil]
              have HNIL := Lib.hid hnil
              clear hnil
              go_wp2_with (first
                | (go_at_call 27; have _t := tok2; refine (H27.out _ _ _ HPn.out HV.out).mono ?_; rintro e w2 ⟨hq, hb⟩; obtain ⟨adr, ccr, rfl, HRD⟩ := ReadPost.some hq HE0.out HL.out HNIL.out; clear tok2; replace s0 := keep hb s0; replace s1 := keep hb s1; replace s2 := keep hb s2; replace s3 := keep hb s3; replace s4 := keep hb s4; replace s5 := keep hb s5; replace s6 := keep hb s6; replace a0 := keep hb a0; replace a1 := keep hb a1; replace a2 := keep hb a2; replace a3 := keep hb a3; replace hsl := cell_lt s0; replace hal := cell_lt a0; replace HPn := Lib.hid (HPn.out.keep hb); replace HB := Lib.hid (bThen HB.out hb); replace HV := Lib.hid (HV.out.keep StrAt.stable hb); clear hb hq)
                | (go_at_call 22; refine (H22.out _ HPn.out).mono ?_; rintro e w2 ⟨rfl, hb⟩; rw [HER.out]; replace s0 := keep hb s0; replace s1 := keep hb s1; replace s2 := keep hb s2; replace s3 := keep hb s3; replace s4 := keep hb s4; replace s5 := keep hb s5; replace s6 := keep hb s6; replace a0 := keep hb a0; replace a1 := keep hb a1; replace a2 := keep hb a2; replace a3 := keep hb a3; replace hsl := cell_lt s0; replace hal := cell_lt a0; replace HPn := Lib.hid (HPn.out.keep hb); replace HB := Lib.hid (bThen HB.out hb); replace HV := Lib.hid (HV.out.keep StrAt.stable hb); replace HRD := Lib.hid (HRD.out.keep IntAt.stable hb); clear hb)
                | (go_at_call 28; refine (H28.out _ HPn.out HV.out).mono ?_; rintro e w2 ⟨⟨vq, rfl, hq⟩, hb⟩; obtain ⟨adq, ccq, rfl, -⟩ := id hq; rw [List.length_map] at hq ⊢; have HX := Lib.hid hq; replace s0 := keep hb s0; replace s1 := keep hb s1; replace s2 := keep hb s2; replace s3 := keep hb s3; replace s4 := keep hb s4; replace s5 := keep hb s5; replace s6 := keep hb s6; replace a0 := keep hb a0; replace a1 := keep hb a1; replace a2 := keep hb a2; replace a3 := keep hb a3; replace hsl := cell_lt s0; replace hal := cell_lt a0; replace HPn := Lib.hid (HPn.out.keep hb); replace HB := Lib.hid (bThen HB.out hb); replace HV := Lib.hid (HV.out.keep StrAt.stable hb); replace HRD := Lib.hid (HRD.out.keep IntAt.stable hb); clear hb hq)
                | (go_at_call 29; refine (isB (Numbers_any (L.map fun n : Nat => (n : Int)) (L.map fun n : Nat => (n : Int)) _ _ _ HRD.out HX.out) (show _ = true by simp)).mono ?_; rintro e w2 ⟨rfl, hb⟩; replace s0 := keep hb s0; replace s1 := keep hb s1; replace s2 := keep hb s2; replace s3 := keep hb s3; replace s4 := keep hb s4; replace s5 := keep hb s5; replace s6 := keep hb s6; replace a0 := keep hb a0; replace a1 := keep hb a1; replace a2 := keep hb a2; replace a3 := keep hb a3; replace hsl := cell_lt s0; replace hal := cell_lt a0; replace HPn := Lib.hid (HPn.out.keep hb); replace HB := Lib.hid (bThen HB.out hb); replace HV := Lib.hid (HV.out.keep StrAt.stable hb); replace HRD := Lib.hid (HRD.out.keep IntAt.stable hb); replace HX := Lib.hid (HX.out.keep IntAt.stable hb); clear hb)
                | (go_at_call 15; have _t := tok1; refine (known_any _).mono ?_; rintro e wk ⟨rfl, hb⟩; replace HB := Lib.hid (bThen HB.out hb); clear hb))
              all_goals
                go_ret
                exact ⟨rfl, HB.out⟩
          · by_cases hnil : L = []
            · have hz : ((L.length : Int) == 0) = true := by simp [hnil]
              have HNIL := Lib.hid hnil
              clear hnil
              go_wp2_with (first
                | (go_at_call 27; have _t := tok2; refine (H27.out _ _ _ HPn.out HV.out).mono ?_; rintro e w2 ⟨hq, hb⟩; obtain rfl := ReadPost.none hq HE0.out (HL.out.trans HNIL.out); clear tok2; replace s0 := keep hb s0; replace s1 := keep hb s1; replace s2 := keep hb s2; replace s3 := keep hb s3; replace s4 := keep hb s4; replace s5 := keep hb s5; replace s6 := keep hb s6; replace a0 := keep hb a0; replace a1 := keep hb a1; replace a2 := keep hb a2; replace a3 := keep hb a3; replace hsl := cell_lt s0; replace hal := cell_lt a0; replace HPn := Lib.hid (HPn.out.keep hb); replace HB := Lib.hid (bThen HB.out hb); replace HV := Lib.hid (HV.out.keep StrAt.stable hb); clear hb hq)
                | (go_at_call 22; refine (H22.out _ HPn.out).mono ?_; rintro e w2 ⟨rfl, hb⟩; rw [HER.out]; replace s0 := keep hb s0; replace s1 := keep hb s1; replace s2 := keep hb s2; replace s3 := keep hb s3; replace s4 := keep hb s4; replace s5 := keep hb s5; replace s6 := keep hb s6; replace a0 := keep hb a0; replace a1 := keep hb a1; replace a2 := keep hb a2; replace a3 := keep hb a3; replace hsl := cell_lt s0; replace hal := cell_lt a0; replace HPn := Lib.hid (HPn.out.keep hb); replace HB := Lib.hid (bThen HB.out hb); replace HV := Lib.hid (HV.out.keep StrAt.stable hb); clear hb)
                | (go_at_call 28; refine (H28.out _ HPn.out HV.out).mono ?_; rintro e w2 ⟨⟨vq, rfl, hq⟩, hb⟩; obtain ⟨adq, ccq, rfl, -⟩ := id hq; rw [List.length_map] at hq ⊢; have HX := Lib.hid hq; replace s0 := keep hb s0; replace s1 := keep hb s1; replace s2 := keep hb s2; replace s3 := keep hb s3; replace s4 := keep hb s4; replace s5 := keep hb s5; replace s6 := keep hb s6; replace a0 := keep hb a0; replace a1 := keep hb a1; replace a2 := keep hb a2; replace a3 := keep hb a3; replace hsl := cell_lt s0; replace hal := cell_lt a0; replace HPn := Lib.hid (HPn.out.keep hb); replace HB := Lib.hid (bThen HB.out hb); replace HV := Lib.hid (HV.out.keep StrAt.stable hb); clear hb hq)
                | (go_at_call 15; have _t := tok1; refine (known_any _).mono ?_; rintro e wk ⟨rfl, hb⟩; replace HB := Lib.hid (bThen HB.out hb); clear hb))
              all_goals
                go_ret
                exact ⟨rfl, HB.out⟩
            · have hz : ((L.length : Int) == 0) = false := by simp [hnil]
              have HNIL := Lib.hid hnil
              clear hnil
              go_wp2_with (first
                | (go_at_call 27; have _t := tok2; refine (H27.out _ _ _ HPn.out HV.out).mono ?_; rintro e w2 ⟨hq, hb⟩; obtain ⟨adr, ccr, rfl, HRD⟩ := ReadPost.some hq HE0.out HL.out HNIL.out; clear tok2; replace s0 := keep hb s0; replace s1 := keep hb s1; replace s2 := keep hb s2; replace s3 := keep hb s3; replace s4 := keep hb s4; replace s5 := keep hb s5; replace s6 := keep hb s6; replace a0 := keep hb a0; replace a1 := keep hb a1; replace a2 := keep hb a2; replace a3 := keep hb a3; replace hsl := cell_lt s0; replace hal := cell_lt a0; replace HPn := Lib.hid (HPn.out.keep hb); replace HB := Lib.hid (bThen HB.out hb); replace HV := Lib.hid (HV.out.keep StrAt.stable hb); clear hb hq)
                | (go_at_call 22; refine (H22.out _ HPn.out).mono ?_; rintro e w2 ⟨rfl, hb⟩; rw [HER.out]; replace s0 := keep hb s0; replace s1 := keep hb s1; replace s2 := keep hb s2; replace s3 := keep hb s3; replace s4 := keep hb s4; replace s5 := keep hb s5; replace s6 := keep hb s6; replace a0 := keep hb a0; replace a1 := keep hb a1; replace a2 := keep hb a2; replace a3 := keep hb a3; replace hsl := cell_lt s0; replace hal := cell_lt a0; replace HPn := Lib.hid (HPn.out.keep hb); replace HB := Lib.hid (bThen HB.out hb); replace HV := Lib.hid (HV.out.keep StrAt.stable hb); replace HRD := Lib.hid (HRD.out.keep IntAt.stable hb); clear hb)
                | (go_at_call 28; refine (H28.out _ HPn.out HV.out).mono ?_; rintro e w2 ⟨⟨vq, rfl, hq⟩, hb⟩; obtain ⟨adq, ccq, rfl, -⟩ := id hq; rw [List.length_map] at hq ⊢; have HX := Lib.hid hq; replace s0 := keep hb s0; replace s1 := keep hb s1; replace s2 := keep hb s2; replace s3 := keep hb s3; replace s4 := keep hb s4; replace s5 := keep hb s5; replace s6 := keep hb s6; replace a0 := keep hb a0; replace a1 := keep hb a1; replace a2 := keep hb a2; replace a3 := keep hb a3; replace hsl := cell_lt s0; replace hal := cell_lt a0; replace HPn := Lib.hid (HPn.out.keep hb); replace HB := Lib.hid (bThen HB.out hb); replace HV := Lib.hid (HV.out.keep StrAt.stable hb); replace HRD := Lib.hid (HRD.out.keep IntAt.stable hb); clear hb hq)
                | (go_at_call 29; refine (isB (Numbers_any (L.map fun n : Nat => (n : Int)) (L.map fun n : Nat => (n : Int)) _ _ _ HRD.out HX.out) (show _ = true by simp)).mono ?_; rintro e w2 ⟨rfl, hb⟩; replace s0 := keep hb s0; replace s1 := keep hb s1; replace s2 := keep hb s2; replace s3 := keep hb s3; replace s4 := keep hb s4; replace s5 := keep hb s5; replace s6 := keep hb s6; replace a0 := keep hb a0; replace a1 := keep hb a1; replace a2 := keep hb a2; replace a3 := keep hb a3; replace hsl := cell_lt s0; replace hal := cell_lt a0; replace HPn := Lib.hid (HPn.out.keep hb); replace HB := Lib.hid (bThen HB.out hb); replace HV := Lib.hid (HV.out.keep StrAt.stable hb); replace HRD := Lib.hid (HRD.out.keep IntAt.stable hb); replace HX := Lib.hid (HX.out.keep IntAt.stable hb); clear hb)
                | (go_at_call 15; have _t := tok1; refine (known_any _).mono ?_; rintro e wk ⟨rfl, hb⟩; replace HB := Lib.hid (bThen HB.out hb); clear hb))
              all_goals
                go_ret
                exact ⟨rfl, HB.out⟩
      have hn1 : ¬ (n < 0) := fun h => hn0 (.inl h)
      have hn2 : ¬ (a.num < n) := fun h => hn0 (.inr h)
      have HOKN := Lib.hid (askOk_numb HOK.out (by omega) (by omega) (n := n))
      clear hn0
      cases hwo : wordsOf S ⟨n, a.set, a.gen, a.kas⟩ with
      | none =>
        have HWN := Lib.hid hwo
        clear hwo
        by_cases hnil : L = []
        · have hz : ((L.length : Int) == 0) = true := by simp [hnil]
          have HNIL := Lib.hid hnil
          clear hnil
          go_wp2_with (first
            | (go_at_call 27; have _t := tok2; refine (H27.out _ _ _ HPn.out HV.out).mono ?_; rintro e w2 ⟨hq, hb⟩; obtain rfl := ReadPost.none hq HE0.out (HL.out.trans HNIL.out); clear tok2; replace s0 := keep hb s0; replace s1 := keep hb s1; replace s2 := keep hb s2; replace s3 := keep hb s3; replace s4 := keep hb s4; replace s5 := keep hb s5; replace s6 := keep hb s6; replace a0 := keep hb a0; replace a1 := keep hb a1; replace a2 := keep hb a2; replace a3 := keep hb a3; replace hsl := cell_lt s0; replace hal := cell_lt a0; replace HPn := Lib.hid (HPn.out.keep hb); replace HB := Lib.hid (bThen HB.out hb); replace HV := Lib.hid (HV.out.keep StrAt.stable hb); clear hb hq)
            | (go_at_call 22; refine (H22.out _ HPn.out).mono ?_; rintro e w2 ⟨rfl, hb⟩; rw [HER.out]; replace s0 := keep hb s0; replace s1 := keep hb s1; replace s2 := keep hb s2; replace s3 := keep hb s3; replace s4 := keep hb s4; replace s5 := keep hb s5; replace s6 := keep hb s6; replace a0 := keep hb a0; replace a1 := keep hb a1; replace a2 := keep hb a2; replace a3 := keep hb a3; replace hsl := cell_lt s0; replace hal := cell_lt a0; replace HPn := Lib.hid (HPn.out.keep hb); replace HB := Lib.hid (bThen HB.out hb); replace HV := Lib.hid (HV.out.keep StrAt.stable hb); clear hb)
            | (go_at_call 28; refine (H28.out _ HPn.out HV.out).mono ?_; rintro e w2 ⟨⟨vq, rfl, hq⟩, hb⟩; obtain ⟨adq, ccq, rfl, -⟩ := id hq; rw [List.length_map] at hq ⊢; have HX := Lib.hid hq; replace s0 := keep hb s0; replace s1 := keep hb s1; replace s2 := keep hb s2; replace s3 := keep hb s3; replace s4 := keep hb s4; replace s5 := keep hb s5; replace s6 := keep hb s6; replace a0 := keep hb a0; replace a1 := keep hb a1; replace a2 := keep hb a2; replace a3 := keep hb a3; replace hsl := cell_lt s0; replace hal := cell_lt a0; replace HPn := Lib.hid (HPn.out.keep hb); replace HB := Lib.hid (bThen HB.out hb); replace HV := Lib.hid (HV.out.keep StrAt.stable hb); clear hb hq)
            | (go_at_call 20; refine (H20.out _ (by exact HPn.out.keep (bAlloc (Below.refl _ _) _))).mono ?_; rintro e w2 ⟨hq, hb'⟩; have hb := bThen (bAlloc (Below.refl _ _) _) hb'; obtain rfl := SpellPost.none hq HOKN.out HWN.out; replace s0 := keep hb s0; replace s1 := keep hb s1; replace s2 := keep hb s2; replace s3 := keep hb s3; replace s4 := keep hb s4; replace s5 := keep hb s5; replace s6 := keep hb s6; replace a0 := keep hb a0; replace a1 := keep hb a1; replace a2 := keep hb a2; replace a3 := keep hb a3; replace hsl := cell_lt s0; replace hal := cell_lt a0; replace HPn := Lib.hid (HPn.out.keep hb); replace HB := Lib.hid (bThen HB.out hb); clear hb hb' hq)
            | (go_at_call 15; have _t := tok1; refine (known_any _).mono ?_; rintro e wk ⟨rfl, hb⟩; replace HB := Lib.hid (bThen HB.out hb); clear hb))
          all_goals
            go_ret
            exact ⟨rfl, HB.out⟩
        · have hz : ((L.length : Int) == 0) = false := by simp [hnil]
          have HNIL := Lib.hid hnil
          clear hnil
          go_wp2_with (first
            | (go_at_call 27; have _t := tok2; refine (H27.out _ _ _ HPn.out HV.out).mono ?_; rintro e w2 ⟨hq, hb⟩; obtain ⟨adr, ccr, rfl, HRD⟩ := ReadPost.some hq HE0.out HL.out HNIL.out; clear tok2; replace s0 := keep hb s0; replace s1 := keep hb s1; replace s2 := keep hb s2; replace s3 := keep hb s3; replace s4 := keep hb s4; replace s5 := keep hb s5; replace s6 := keep hb s6; replace a0 := keep hb a0; replace a1 := keep hb a1; replace a2 := keep hb a2; replace a3 := keep hb a3; replace hsl := cell_lt s0; replace hal := cell_lt a0; replace HPn := Lib.hid (HPn.out.keep hb); replace HB := Lib.hid (bThen HB.out hb); replace HV := Lib.hid (HV.out.keep StrAt.stable hb); clear hb hq)
            | (go_at_call 22; refine (H22.out _ HPn.out).mono ?_; rintro e w2 ⟨rfl, hb⟩; rw [HER.out]; replace s0 := keep hb s0; replace s1 := keep hb s1; replace s2 := keep hb s2; replace s3 := keep hb s3; replace s4 := keep hb s4; replace s5 := keep hb s5; replace s6 := keep hb s6; replace a0 := keep hb a0; replace a1 := keep hb a1; replace a2 := keep hb a2; replace a3 := keep hb a3; replace hsl := cell_lt s0; replace hal := cell_lt a0; replace HPn := Lib.hid (HPn.out.keep hb); replace HB := Lib.hid (bThen HB.out hb); replace HV := Lib.hid (HV.out.keep StrAt.stable hb); replace HRD := Lib.hid (HRD.out.keep IntAt.stable hb); clear hb)
            | (go_at_call 28; refine (H28.out _ HPn.out HV.out).mono ?_; rintro e w2 ⟨⟨vq, rfl, hq⟩, hb⟩; obtain ⟨adq, ccq, rfl, -⟩ := id hq; rw [List.length_map] at hq ⊢; have HX := Lib.hid hq; replace s0 := keep hb s0; replace s1 := keep hb s1; replace s2 := keep hb s2; replace s3 := keep hb s3; replace s4 := keep hb s4; replace s5 := keep hb s5; replace s6 := keep hb s6; replace a0 := keep hb a0; replace a1 := keep hb a1; replace a2 := keep hb a2; replace a3 := keep hb a3; replace hsl := cell_lt s0; replace hal := cell_lt a0; replace HPn := Lib.hid (HPn.out.keep hb); replace HB := Lib.hid (bThen HB.out hb); replace HV := Lib.hid (HV.out.keep StrAt.stable hb); replace HRD := Lib.hid (HRD.out.keep IntAt.stable hb); clear hb hq)
            | (go_at_call 29; refine (isB (Numbers_any (L.map fun n : Nat => (n : Int)) (L.map fun n : Nat => (n : Int)) _ _ _ HRD.out HX.out) (show _ = true by simp)).mono ?_; rintro e w2 ⟨rfl, hb⟩; replace s0 := keep hb s0; replace s1 := keep hb s1; replace s2 := keep hb s2; replace s3 := keep hb s3; replace s4 := keep hb s4; replace s5 := keep hb s5; replace s6 := keep hb s6; replace a0 := keep hb a0; replace a1 := keep hb a1; replace a2 := keep hb a2; replace a3 := keep hb a3; replace hsl := cell_lt s0; replace hal := cell_lt a0; replace HPn := Lib.hid (HPn.out.keep hb); replace HB := Lib.hid (bThen HB.out hb); replace HV := Lib.hid (HV.out.keep StrAt.stable hb); replace HRD := Lib.hid (HRD.out.keep IntAt.stable hb); replace HX := Lib.hid (HX.out.keep IntAt.stable hb); clear hb)
            | (go_at_call 20; refine (H20.out _ (by exact HPn.out.keep (bAlloc (Below.refl _ _) _))).mono ?_; rintro e w2 ⟨hq, hb'⟩; have hb := bThen (bAlloc (Below.refl _ _) _) hb'; obtain rfl := SpellPost.none hq HOKN.out HWN.out; replace s0 := keep hb s0; replace s1 := keep hb s1; replace s2 := keep hb s2; replace s3 := keep hb s3; replace s4 := keep hb s4; replace s5 := keep hb s5; replace s6 := keep hb s6; replace a0 := keep hb a0; replace a1 := keep hb a1; replace a2 := keep hb a2; replace a3 := keep hb a3; replace hsl := cell_lt s0; replace hal := cell_lt a0; replace HPn := Lib.hid (HPn.out.keep hb); replace HB := Lib.hid (bThen HB.out hb); clear hb hb' hq)
            | (go_at_call 15; have _t := tok1; refine (known_any _).mono ?_; rintro e wk ⟨rfl, hb⟩; replace HB := Lib.hid (bThen HB.out hb); clear hb))
          all_goals
            go_ret
            exact ⟨rfl, HB.out⟩
      | some xs =>
        have HWN := Lib.hid hwo
        obtain ⟨L2, hL2⟩ : ∃ L2, L2 = readsTo S a a.num.toNat xs := ⟨_, rfl⟩
        have HL2 := Lib.hid hL2.symm
        have HMEM : Hid (n.toNat ∈ L2) := Lib.hid (by rw [hL2]; exact reads_mem (by omega) (by omega) hwo)
        have HNE2 : Hid (L2 ≠ []) := Lib.hid (by intro h; have := HMEM.out; rw [h] at this; simp at this)
        have hL2l : L2.length ≤ 20001 := by
          have := scan_len (fun n => decide (wordsOf S (numb a n) = some xs)) (a.num.toNat + 1)
          rw [hL2]; unfold readsTo; omega
        clear hwo hL2
        by_cases hnil : L = []
        · have hz : ((L.length : Int) == 0) = true := by simp [hnil]
          have HNIL := Lib.hid hnil
          clear hnil
          go_wp2_with (first
            | (go_at_call 27; have _t := tok2; refine (H27.out _ _ _ HPn.out HV.out).mono ?_; rintro e w2 ⟨hq, hb⟩; obtain rfl := ReadPost.none hq HE0.out (HL.out.trans HNIL.out); clear tok2; replace s0 := keep hb s0; replace s1 := keep hb s1; replace s2 := keep hb s2; replace s3 := keep hb s3; replace s4 := keep hb s4; replace s5 := keep hb s5; replace s6 := keep hb s6; replace a0 := keep hb a0; replace a1 := keep hb a1; replace a2 := keep hb a2; replace a3 := keep hb a3; replace hsl := cell_lt s0; replace hal := cell_lt a0; replace HPn := Lib.hid (HPn.out.keep hb); replace HB := Lib.hid (bThen HB.out hb); replace HV := Lib.hid (HV.out.keep StrAt.stable hb); clear hb hq)
            | (go_at_call 22; refine (H22.out _ HPn.out).mono ?_; rintro e w2 ⟨rfl, hb⟩; rw [HER.out]; replace s0 := keep hb s0; replace s1 := keep hb s1; replace s2 := keep hb s2; replace s3 := keep hb s3; replace s4 := keep hb s4; replace s5 := keep hb s5; replace s6 := keep hb s6; replace a0 := keep hb a0; replace a1 := keep hb a1; replace a2 := keep hb a2; replace a3 := keep hb a3; replace hsl := cell_lt s0; replace hal := cell_lt a0; replace HPn := Lib.hid (HPn.out.keep hb); replace HB := Lib.hid (bThen HB.out hb); replace HV := Lib.hid (HV.out.keep StrAt.stable hb); clear hb)
            | (go_at_call 28; refine (H28.out _ HPn.out HV.out).mono ?_; rintro e w2 ⟨⟨vq, rfl, hq⟩, hb⟩; obtain ⟨adq, ccq, rfl, -⟩ := id hq; rw [List.length_map] at hq ⊢; have HX := Lib.hid hq; replace s0 := keep hb s0; replace s1 := keep hb s1; replace s2 := keep hb s2; replace s3 := keep hb s3; replace s4 := keep hb s4; replace s5 := keep hb s5; replace s6 := keep hb s6; replace a0 := keep hb a0; replace a1 := keep hb a1; replace a2 := keep hb a2; replace a3 := keep hb a3; replace hsl := cell_lt s0; replace hal := cell_lt a0; replace HPn := Lib.hid (HPn.out.keep hb); replace HB := Lib.hid (bThen HB.out hb); replace HV := Lib.hid (HV.out.keep StrAt.stable hb); clear hb hq)
            | (go_at_call 20; refine (H20.out _ (by exact HPn.out.keep (bAlloc (Below.refl _ _) _))).mono ?_; rintro e w2 ⟨hq, hb'⟩; have hb := bThen (bAlloc (Below.refl _ _) _) hb'; obtain ⟨ads, ccs, rfl, HXS⟩ := SpellPost.some hq HOKN.out HWN.out; replace s0 := keep hb s0; replace s1 := keep hb s1; replace s2 := keep hb s2; replace s3 := keep hb s3; replace s4 := keep hb s4; replace s5 := keep hb s5; replace s6 := keep hb s6; replace a0 := keep hb a0; replace a1 := keep hb a1; replace a2 := keep hb a2; replace a3 := keep hb a3; replace hsl := cell_lt s0; replace hal := cell_lt a0; replace HPn := Lib.hid (HPn.out.keep hb); replace HB := Lib.hid (bThen HB.out hb); clear hb hb' hq)
            | (go_at_call 27; refine (H27.out _ _ _ HPn.out HXS.out).mono ?_; rintro e w3 ⟨hq, hb⟩; obtain ⟨adb, ccb, rfl, HRB⟩ := ReadPost.some hq HE0.out HL2.out HNE2.out; replace s0 := keep hb s0; replace s1 := keep hb s1; replace s2 := keep hb s2; replace s3 := keep hb s3; replace s4 := keep hb s4; replace s5 := keep hb s5; replace s6 := keep hb s6; replace a0 := keep hb a0; replace a1 := keep hb a1; replace a2 := keep hb a2; replace a3 := keep hb a3; replace hsl := cell_lt s0; replace hal := cell_lt a0; replace HPn := Lib.hid (HPn.out.keep hb); replace HB := Lib.hid (bThen HB.out hb); clear hb hq))
          any_goals first
            | (go_ret; exact ⟨rfl, HB.out⟩)
            | (exfalso; omega)
            | skip
          go_loopw [19, 20] (fun m i wr => ∃ k : Nat, k ≤ L2.length ∧ i = .int .i64 k ∧ m = .bool (decide (n ∈ (L2.take k).map fun n : Nat => (n : Int))) ∧ wr = w3) (fun _ i _ => L2.length - (intOf i).toNat)
          case atStart => exact ⟨0, Nat.zero_le _, rfl, by simp, rfl⟩
          case round =>
            obtain ⟨k, hk, rfl, rfl, rfl⟩ := hrel
            by_cases hlt : k < L2.length
            · obtain ⟨xb, xo, rfl, hf⟩ := HRB.out.at (show (L2.map fun n : Nat => (n : Int)) ≠ [] by intro h; have := List.map_eq_nil_iff.1 h; rw [this] at hlt; simp at hlt)
              have x0 : _ = _ := hf k (by rw [List.length_map]; exact hlt)
              simp only [Nat.mul_one, List.getElem_map] at x0
              have hxl := cell_lt x0
              have HTK : Hid ((decide (n ∈ (L2.take (k + 1)).map fun n : Nat => (n : Int))) = (decide (n ∈ (L2.take k).map fun n : Nat => (n : Int)) || ((L2[k] : Int) == n))) := Lib.hid (met_succ L2 k hlt n)
              clear hf
              generalize L2[k] = x at *
              cases hmet : decide (n ∈ (L2.take k).map fun n : Nat => (n : Int))
              all_goals
                have HM := Lib.hid hmet
                clear hmet
              · cases hxn : ((x : Int) == n)
                all_goals
                  go_wp2_with fail
                  go_roundw
                  case rel => exact ⟨k + 1, by omega, by go_num, by rw [HTK.out, HM.out, hxn]; rfl, by first | rfl | trivial⟩
                  case measure => simp [intOf]; omega
              · go_wp2_with fail
                go_roundw
                case rel => exact ⟨k + 1, by omega, by go_num, by rw [HTK.out, HM.out]; rfl, by first | rfl | trivial⟩
                case measure => simp [intOf]; omega
            · obtain rfl : k = L2.length := by omega
              have hmem : decide (n ∈ (L2.take L2.length).map fun n : Nat => (n : Int)) = true := by
                rw [List.take_length]; simp only [decide_eq_true_eq, List.mem_map]
                exact ⟨n.toNat, HMEM.out, Int.toNat_of_nonneg (by omega)⟩
              rw [hmem]
              clear hmem
              go_wp2_with ((go_at_call 15; have _t := tok1; refine (known_any _).mono ?_; rintro e wk ⟨rfl, hb⟩; replace HB := Lib.hid (bThen HB.out hb); clear hb))
              go_ret
              exact ⟨rfl, HB.out⟩
        · have hz : ((L.length : Int) == 0) = false := by simp [hnil]
          have HNIL := Lib.hid hnil
          clear hnil
          go_wp2_with (first
            | (go_at_call 27; have _t := tok2; refine (H27.out _ _ _ HPn.out HV.out).mono ?_; rintro e w2 ⟨hq, hb⟩; obtain ⟨adr, ccr, rfl, HRD⟩ := ReadPost.some hq HE0.out HL.out HNIL.out; clear tok2; replace s0 := keep hb s0; replace s1 := keep hb s1; replace s2 := keep hb s2; replace s3 := keep hb s3; replace s4 := keep hb s4; replace s5 := keep hb s5; replace s6 := keep hb s6; replace a0 := keep hb a0; replace a1 := keep hb a1; replace a2 := keep hb a2; replace a3 := keep hb a3; replace hsl := cell_lt s0; replace hal := cell_lt a0; replace HPn := Lib.hid (HPn.out.keep hb); replace HB := Lib.hid (bThen HB.out hb); replace HV := Lib.hid (HV.out.keep StrAt.stable hb); clear hb hq)
            | (go_at_call 22; refine (H22.out _ HPn.out).mono ?_; rintro e w2 ⟨rfl, hb⟩; rw [HER.out]; replace s0 := keep hb s0; replace s1 := keep hb s1; replace s2 := keep hb s2; replace s3 := keep hb s3; replace s4 := keep hb s4; replace s5 := keep hb s5; replace s6 := keep hb s6; replace a0 := keep hb a0; replace a1 := keep hb a1; replace a2 := keep hb a2; replace a3 := keep hb a3; replace hsl := cell_lt s0; replace hal := cell_lt a0; replace HPn := Lib.hid (HPn.out.keep hb); replace HB := Lib.hid (bThen HB.out hb); replace HV := Lib.hid (HV.out.keep StrAt.stable hb); replace HRD := Lib.hid (HRD.out.keep IntAt.stable hb); clear hb)
            | (go_at_call 28; refine (H28.out _ HPn.out HV.out).mono ?_; rintro e w2 ⟨⟨vq, rfl, hq⟩, hb⟩; obtain ⟨adq, ccq, rfl, -⟩ := id hq; rw [List.length_map] at hq ⊢; have HX := Lib.hid hq; replace s0 := keep hb s0; replace s1 := keep hb s1; replace s2 := keep hb s2; replace s3 := keep hb s3; replace s4 := keep hb s4; replace s5 := keep hb s5; replace s6 := keep hb s6; replace a0 := keep hb a0; replace a1 := keep hb a1; replace a2 := keep hb a2; replace a3 := keep hb a3; replace hsl := cell_lt s0; replace hal := cell_lt a0; replace HPn := Lib.hid (HPn.out.keep hb); replace HB := Lib.hid (bThen HB.out hb); replace HV := Lib.hid (HV.out.keep StrAt.stable hb); replace HRD := Lib.hid (HRD.out.keep IntAt.stable hb); clear hb hq)
            | (go_at_call 29; refine (isB (Numbers_any (L.map fun n : Nat => (n : Int)) (L.map fun n : Nat => (n : Int)) _ _ _ HRD.out HX.out) (show _ = true by simp)).mono ?_; rintro e w2 ⟨rfl, hb⟩; replace s0 := keep hb s0; replace s1 := keep hb s1; replace s2 := keep hb s2; replace s3 := keep hb s3; replace s4 := keep hb s4; replace s5 := keep hb s5; replace s6 := keep hb s6; replace a0 := keep hb a0; replace a1 := keep hb a1; replace a2 := keep hb a2; replace a3 := keep hb a3; replace hsl := cell_lt s0; replace hal := cell_lt a0; replace HPn := Lib.hid (HPn.out.keep hb); replace HB := Lib.hid (bThen HB.out hb); replace HV := Lib.hid (HV.out.keep StrAt.stable hb); replace HRD := Lib.hid (HRD.out.keep IntAt.stable hb); replace HX := Lib.hid (HX.out.keep IntAt.stable hb); clear hb)
            | (go_at_call 20; refine (H20.out _ (by exact HPn.out.keep (bAlloc (Below.refl _ _) _))).mono ?_; rintro e w2 ⟨hq, hb'⟩; have hb := bThen (bAlloc (Below.refl _ _) _) hb'; obtain ⟨ads, ccs, rfl, HXS⟩ := SpellPost.some hq HOKN.out HWN.out; replace s0 := keep hb s0; replace s1 := keep hb s1; replace s2 := keep hb s2; replace s3 := keep hb s3; replace s4 := keep hb s4; replace s5 := keep hb s5; replace s6 := keep hb s6; replace a0 := keep hb a0; replace a1 := keep hb a1; replace a2 := keep hb a2; replace a3 := keep hb a3; replace hsl := cell_lt s0; replace hal := cell_lt a0; replace HPn := Lib.hid (HPn.out.keep hb); replace HB := Lib.hid (bThen HB.out hb); clear hb hb' hq)
            | (go_at_call 27; refine (H27.out _ _ _ HPn.out HXS.out).mono ?_; rintro e w3 ⟨hq, hb⟩; obtain ⟨adb, ccb, rfl, HRB⟩ := ReadPost.some hq HE0.out HL2.out HNE2.out; replace s0 := keep hb s0; replace s1 := keep hb s1; replace s2 := keep hb s2; replace s3 := keep hb s3; replace s4 := keep hb s4; replace s5 := keep hb s5; replace s6 := keep hb s6; replace a0 := keep hb a0; replace a1 := keep hb a1; replace a2 := keep hb a2; replace a3 := keep hb a3; replace hsl := cell_lt s0; replace hal := cell_lt a0; replace HPn := Lib.hid (HPn.out.keep hb); replace HB := Lib.hid (bThen HB.out hb); clear hb hq))
          any_goals first
            | (go_ret; exact ⟨rfl, HB.out⟩)
            | (exfalso; omega)
            | skip
          go_loopw [19, 20] (fun m i wr => ∃ k : Nat, k ≤ L2.length ∧ i = .int .i64 k ∧ m = .bool (decide (n ∈ (L2.take k).map fun n : Nat => (n : Int))) ∧ wr = w3) (fun _ i _ => L2.length - (intOf i).toNat)
          case atStart => exact ⟨0, Nat.zero_le _, rfl, by simp, rfl⟩
          case round =>
            obtain ⟨k, hk, rfl, rfl, rfl⟩ := hrel
            by_cases hlt : k < L2.length
            · obtain ⟨xb, xo, rfl, hf⟩ := HRB.out.at (show (L2.map fun n : Nat => (n : Int)) ≠ [] by intro h; have := List.map_eq_nil_iff.1 h; rw [this] at hlt; simp at hlt)
              have x0 : _ = _ := hf k (by rw [List.length_map]; exact hlt)
              simp only [Nat.mul_one, List.getElem_map] at x0
              have hxl := cell_lt x0
              have HTK : Hid ((decide (n ∈ (L2.take (k + 1)).map fun n : Nat => (n : Int))) = (decide (n ∈ (L2.take k).map fun n : Nat => (n : Int)) || ((L2[k] : Int) == n))) := Lib.hid (met_succ L2 k hlt n)
              clear hf
              generalize L2[k] = x at *
              cases hmet : decide (n ∈ (L2.take k).map fun n : Nat => (n : Int))
              all_goals
                have HM := Lib.hid hmet
                clear hmet
              · cases hxn : ((x : Int) == n)
                all_goals
                  go_wp2_with fail
                  go_roundw
                  case rel => exact ⟨k + 1, by omega, by go_num, by rw [HTK.out, HM.out, hxn]; rfl, by first | rfl | trivial⟩
                  case measure => simp [intOf]; omega
              · go_wp2_with fail
                go_roundw
                case rel => exact ⟨k + 1, by omega, by go_num, by rw [HTK.out, HM.out]; rfl, by first | rfl | trivial⟩
                case measure => simp [intOf]; omega
            · obtain rfl : k = L2.length := by omega
              have hmem : decide (n ∈ (L2.take L2.length).map fun n : Nat => (n : Int)) = true := by
                rw [List.take_length]; simp only [decide_eq_true_eq, List.mem_map]
                exact ⟨n.toNat, HMEM.out, Int.toNat_of_nonneg (by omega)⟩
              rw [hmem]
              clear hmem
              go_wp2_with ((go_at_call 15; have _t := tok1; refine (known_any _).mono ?_; rintro e wk ⟨rfl, hb⟩; replace HB := Lib.hid (bThen HB.out hb); clear hb))
              go_ret
              exact ⟨rfl, HB.out⟩
end Go.Proofs.Ytfcopnlpcbbocaa
