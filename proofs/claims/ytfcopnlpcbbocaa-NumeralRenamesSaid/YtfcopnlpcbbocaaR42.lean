/- The law of renaming, walked: for every system and ask and every raise of Top it answers true. -/
import Derived.Test.YtfcopnlpcbbocaaR41
import Derived.Test.YtfcopnlpcbbocaaR31
import Derived.Test.YtfcopnlpcbbocaaR5
import Derived.Test.YtfcopnlpcbbocaaH2
import Derived.Laws.IdiomStrings
import Derived.Laws.Concat
set_option linter.unusedSimpArgs false
set_option linter.unusedVariables false
namespace Go.Proofs.Ytfcopnlpcbbocaa
open Go.RowKit

theorem info90 : (Try.prog.info? 90).map (fun i => (i.zero, i.size, i.bytes)) = some (some (.agg #[.int .i64 0, .int .i64 0, .int .i64 0, .string ⟨#[]⟩]), 4, 40) := by kernel_rfl
theorem eqTw (d : Nat) (x : Nat × Nat) (w : World) : (Op.equalIn (d + 1 + 1) 76 (.agg #[.int .i64 (x.1 : Int), .int .i64 (x.2 : Int)]) (.agg #[.int .i64 (x.1 : Int), .int .i64 (x.2 : Int)])).run Try.prog w = .ok true w := by
  have hs : (Try.prog.stoodInHeld 76) = false := by kernel_rfl
  have h3 : ∀ w, (sizeOf 3).run Try.prog w = .ok 1 w := fun _ => by kernel_rfl
  unfold Op.equalIn
  simp only [Sem.run_bind, run_underlying Try.underlying76, Result.andThen, h3]
  simp [go_sem, hs, Try.underlying3]
/-- The words that are handed back, and the error. -/
def wsOf (S : Sys) (a : Ask) : List ByteArray := (wordsOf S a).getD []
def erOf (S : Sys) (a : Ask) : Int := if wordsOf S a = none then 5 else 0
theorem ren_wsOf (S : Sys) (top : Int) (a : Ask) : wsOf (ren S top) a = (wsOf S a).map star := by
  unfold wsOf; rw [ren_words]; cases wordsOf S a <;> rfl
theorem ren_erOf (S : Sys) (top : Int) (a : Ask) : erOf (ren S top) a = erOf S a := by
  unfold erOf; simp only [ren_none]
theorem SpellPost.any {S : Sys} {a : Ask} {e : Ending} {w : World} {L : List ByteArray} {n : Int} (h : SpellPost S a e w) (hok : askOk S a = true) (hL : wsOf S a = L) (hn : erOf S a = n) :
    ∃ ad c, e = .returned (.tuple #[.slice ad L.length c, .int .i64 n]) ∧ Hid (SliceV w (.slice ad L.length c) 1 StrAt L) := by
  subst hL hn
  rcases h with ⟨h, -⟩ | ⟨-, h, h'⟩ | ⟨-, ws, v, h, h', hs⟩
  · rw [hok] at h; cases h
  · have e1 : wsOf S a = [] := by unfold wsOf; rw [h]; rfl
    have e2 : erOf S a = 5 := if_pos h
    rw [e1, e2]
    exact ⟨Option.none, 0, h', Lib.hid ⟨Option.none, 0, rfl, Nat.zero_le _, .inl rfl⟩⟩
  · have e1 : wsOf S a = ws := by unfold wsOf; rw [h]; rfl
    have e2 : erOf S a = 0 := if_neg (by rw [h]; simp)
    rw [e1, e2]
    obtain ⟨ad, c, rfl, -⟩ := id hs
    exact ⟨ad, c, h', Lib.hid hs⟩
theorem scan_zero {S : Sys} {a : Ask} (hok : askOk S a = true) (hn : ¬ 100 < a.num) : scanErr a [S] = 0 := by unfold scanErr; simp [hok]; omega
theorem TwinsPost.ok {S : Sys} {a : Ask} {e : Ending} {w : World} {L : List (Nat × Nat)} (h : TwinsPost S a e w) (he : scanErr a [S] = 0) (hL : twinsTo S a a.num.toNat = L) :
    ∃ ad c, e = .returned (.tuple #[.slice ad L.length c, .int .i64 0]) ∧ Hid (SliceV w (.slice ad L.length c) 2 TwAt L) := by
  subst hL
  rcases h with ⟨h, -⟩ | ⟨-, v, rfl, hs⟩
  · exact absurd he h
  · obtain ⟨ad, c, rfl, -⟩ := id hs
    exact ⟨ad, c, rfl, Lib.hid hs⟩
theorem star_add (t : ByteArray) (h : t.size ≤ 1000) (w : World) : (Op.stringOp .add ⟨#[42]⟩ t).run Try.prog w = .ok (.string (star t)) w :=
  run_string_add_sum w _ _ (by have : (ByteArray.mk #[42]).size = 1 := rfl; omega)
theorem two_al {w : World} {F T : Obj} : ((w.alloc F).alloc T).heap[w.heap.size + 1]? = some T := by
  have := World.alloc_heap_new (w.alloc F) T
  rw [World.size_alloc] at this; exact this
theorem EnR.setTop {n s : Nat} {S : Sys} {vp vs : Value} {w W : World} {v : Value} {ts : List Term} (hE : EnR n s S vp vs w W v ts) (tp : Int) : EnR n s { S with top := tp } vp vs w (W.setCell ⟨s, 0, none⟩ (.int .i64 tp)) v ts := by
  have hk : Kp n ownEn W (W.setCell ⟨s, 0, none⟩ (.int .i64 tp)) := kp_set hE.sys rfl hE.sn _
  obtain ⟨cs, -, -, hrow, -⟩ := hE.terms
  refine ⟨?_, ?_, hE.low.trans hk.low, hE.sn⟩
  · have := set_block (o := 0) hE.sys (.int .i64 tp)
    simpa [rBlock] using this
  · exact hE.terms.kept (own := ownEn) (TermG.held rfl) hk (grown_set _ s 0 _) (.inr (apart_row hE.sys hrow (by decide)).symm)
theorem pieces_mem {f : Pce → Nat → List Item} {x : Item} : ∀ (l : List Pce) (i : Nat), x ∈ piecesFrom f l i → ∃ p j, x ∈ f p j
  | [], _, h => by simp [piecesFrom] at h
  | p :: l, i, h => by
    rw [piecesFrom] at h
    rcases List.mem_append.1 h with h | h
    · exact ⟨p, i, h⟩
    · exact pieces_mem l (i + 1) h
theorem say_small {S : Sys} (hs : ∀ t ∈ S.terms, ∀ f ∈ t.forms, f.txt.size ≤ 29) (a : Ask) (i : Nat) (d t g c : Int) : (sayItem S a i d t g c).1.txt.size ≤ 29 := by
  unfold sayItem
  split
  · rename_i x hx
    show x.size ≤ 29
    unfold formOf at hx
    cases hf : (termOf S t).forms.find? (agrees g a.kas (classOf c S.plurals)) with
    | none => rw [hf] at hx; cases hx
    | some f =>
      rw [hf] at hx
      obtain rfl : f.txt = x := Option.some.inj hx
      have hm := List.mem_of_find?_eq_some hf
      unfold termOf at hm
      cases ht : S.terms[t.toNat]? with
      | none => rw [ht] at hm; simp at hm
      | some u => rw [ht] at hm; exact hs u (List.mem_of_getElem? ht) f hm
  · show ByteArray.empty.size ≤ 29
    decide
theorem items_small {S : Sys} (hs : ∀ t ∈ S.terms, ∀ f ∈ t.forms, f.txt.size ≤ 29) : ∀ (k : Nat) (a : Ask) (d : Int) (x : Item), x ∈ itemsF k S a d → x.1.txt.size ≤ 29
  | 0, _, _, _, h => by simp [itemsF] at h
  | k + 1, a, d, x, h => by
    rw [itemsF_succ] at h
    obtain ⟨p, j, hx⟩ := pieces_mem _ _ h
    have ih := items_small hs k
    unfold pieceItems at hx
    split at hx
    · rw [List.mem_singleton.1 hx]; exact say_small hs _ _ _ _ _ _
    split at hx
    · rw [List.mem_singleton.1 hx]; exact say_small hs _ _ _ _ _ _
    split at hx
    · exact ih _ _ _ hx
    split at hx
    · split at hx
      · cases hx
      · exact ih _ _ _ hx
    split at hx
    · split at hx
      · cases hx
      · rw [List.mem_singleton.1 hx]; exact say_small hs _ _ _ _ _ _
    · cases hx
theorem words_small {S : Sys} {a : Ask} (hs : ∀ t ∈ S.terms, ∀ f ∈ t.forms, f.txt.size ≤ 29) : ∀ p ∈ wsOf S a, p.size ≤ 29 := by
  intro p hp
  unfold wsOf wordsOf saidOf at hp
  split at hp
  · simp only [Option.map_some, Option.getD_some, List.map_map, List.mem_map] at hp
    obtain ⟨x, hx, rfl⟩ := hp
    exact items_small hs _ a 0 x hx
  · simp at hp

set_option maxRecDepth 100000 in
set_option maxHeartbeats 16000000 in
theorem renames_any (S : Sys) (a : Ask) (by_ : Int) (vt vp vs : Value) (w : World) (hp : SysParts w vt vp vs S) (hby : -9223372036854775808 ≤ by_ ∧ by_ ≤ 9223372036854775807) :
    Calls Try.prog 12 #[sysVal S vt vp vs, a.val, .int .i64 by_] w fun e w' => e = .returned (.bool true) ∧ Below w.heap.size w w' := by
  have HPS := Lib.hid hp
  obtain ⟨⟨at_, ct, rfl, -⟩, ⟨ap, cp, rfl, -⟩, ⟨as_, cs, rfl, -⟩⟩ := hp
  have HSV := Lib.hid (sysVal_eq S (.slice at_ S.terms.length ct) (.slice ap S.plurals.length cp) (.slice as_ S.sets.length cs))
  unfold sysVal Ask.val
  have h22 : ∀ W', SysParts W' (.slice at_ S.terms.length ct) (.slice ap S.plurals.length cp) (.slice as_ S.sets.length cs) S → Calls Try.prog 22 #[.agg #[.int .i64 S.top, .int .i64 S.genders, .int .i64 S.cases, .int .i64 S.classes, .slice at_ S.terms.length ct, .slice ap S.plurals.length cp, .slice as_ S.sets.length cs], .agg #[.int .i64 a.num, .int .i64 a.set, .int .i64 a.gen, .int .i64 a.kas], .bool true] W' fun e w' => e = .returned (.int .i64 (refErr S a true)) ∧ Below W'.heap.size W' w' := fun W' h => refused_any S a true _ _ _ W' h
  have H22 := Lib.hid h22
  clear h22
  by_cases c1 : 100 < a.num
  · obtain ⟨er, her⟩ : ∃ er, er = refErr S a true := ⟨_, rfl⟩
    have HER : Hid (refErr S a true = er) := Lib.hid her.symm
    clear her
    go_enter Try.func12, Try.ntmps12
    go_wp2_with fail
    generalize hW1 : World.alloc (World.alloc w _) _ = W1
    have hbn : Below w.heap.size w W1 := by rw [← hW1]; exact bAlloc (bAlloc (Below.refl _ _) _) _
    have s0 : W1.cell? ⟨w.heap.size, 0, none⟩ = some (.int .i64 S.top) := by rw [← hW1]; exact keep (bAlloc (Below.refl _ _) _) (cell_new rfl)
    have s1 : W1.cell? ⟨w.heap.size, 1, none⟩ = some (.int .i64 S.genders) := by rw [← hW1]; exact keep (bAlloc (Below.refl _ _) _) (cell_new rfl)
    have s2 : W1.cell? ⟨w.heap.size, 2, none⟩ = some (.int .i64 S.cases) := by rw [← hW1]; exact keep (bAlloc (Below.refl _ _) _) (cell_new rfl)
    have s3 : W1.cell? ⟨w.heap.size, 3, none⟩ = some (.int .i64 S.classes) := by rw [← hW1]; exact keep (bAlloc (Below.refl _ _) _) (cell_new rfl)
    have s4 : W1.cell? ⟨w.heap.size, 4, none⟩ = some (.slice at_ S.terms.length ct) := by rw [← hW1]; exact keep (bAlloc (Below.refl _ _) _) (cell_new rfl)
    have s5 : W1.cell? ⟨w.heap.size, 5, none⟩ = some (.slice ap S.plurals.length cp) := by rw [← hW1]; exact keep (bAlloc (Below.refl _ _) _) (cell_new rfl)
    have s6 : W1.cell? ⟨w.heap.size, 6, none⟩ = some (.slice as_ S.sets.length cs) := by rw [← hW1]; exact keep (bAlloc (Below.refl _ _) _) (cell_new rfl)
    have a0 : W1.cell? ⟨w.heap.size + 1, 0, none⟩ = some (.int .i64 a.num) := by rw [← hW1]; simp
    have a1 : W1.cell? ⟨w.heap.size + 1, 1, none⟩ = some (.int .i64 a.set) := by rw [← hW1]; simp
    have a2 : W1.cell? ⟨w.heap.size + 1, 2, none⟩ = some (.int .i64 a.gen) := by rw [← hW1]; simp
    have a3 : W1.cell? ⟨w.heap.size + 1, 3, none⟩ = some (.int .i64 a.kas) := by rw [← hW1]; simp
    have HB := Lib.hid hbn
    have HPn := Lib.hid (HPS.out.keep hbn)
    have hsl := cell_lt s0
    have hal := cell_lt a0
    clear hW1 hbn
    go_wp2_with (first
      | (go_at_call 14; rw [HSV.out]; refine (small_any S _ _ _ _ HPn.out).mono ?_; rintro e w1 ⟨⟨b, rfl⟩, hb⟩; replace s0 := keep hb s0; replace s1 := keep hb s1; replace s2 := keep hb s2; replace s3 := keep hb s3; replace s4 := keep hb s4; replace s5 := keep hb s5; replace s6 := keep hb s6; replace a0 := keep hb a0; replace a1 := keep hb a1; replace a2 := keep hb a2; replace a3 := keep hb a3; replace hsl := cell_lt s0; replace hal := cell_lt a0; replace HPn := Lib.hid (HPn.out.keep hb); replace HB := Lib.hid (bThen HB.out hb); clear hb; cases b)
      | (go_at_call 15; refine (known_any _).mono ?_; rintro e wk ⟨rfl, hb⟩; replace HB := Lib.hid (bThen HB.out hb); clear hb)
      | (go_at_call 22; refine (H22.out _ HPn.out).mono ?_; rintro e w4 ⟨rfl, hb⟩; rw [HER.out]; replace s0 := keep hb s0; replace s1 := keep hb s1; replace s2 := keep hb s2; replace s3 := keep hb s3; replace s4 := keep hb s4; replace s5 := keep hb s5; replace s6 := keep hb s6; replace a0 := keep hb a0; replace a1 := keep hb a1; replace a2 := keep hb a2; replace a3 := keep hb a3; replace hsl := cell_lt s0; replace hal := cell_lt a0; replace HPn := Lib.hid (HPn.out.keep hb); replace HB := Lib.hid (bThen HB.out hb); clear hb))
    all_goals
      first
        | (go_ret; exact ⟨rfl, HB.out⟩)
        | (exfalso; omega)
  cases hok : askOk S a
  · have HER : Hid (refErr S a true = 2) := Lib.hid (by unfold refErr; simp [hok])
    clear hok
    go_enter Try.func12, Try.ntmps12
    go_wp2_with fail
    generalize hW1 : World.alloc (World.alloc w _) _ = W1
    have hbn : Below w.heap.size w W1 := by rw [← hW1]; exact bAlloc (bAlloc (Below.refl _ _) _) _
    have s0 : W1.cell? ⟨w.heap.size, 0, none⟩ = some (.int .i64 S.top) := by rw [← hW1]; exact keep (bAlloc (Below.refl _ _) _) (cell_new rfl)
    have s1 : W1.cell? ⟨w.heap.size, 1, none⟩ = some (.int .i64 S.genders) := by rw [← hW1]; exact keep (bAlloc (Below.refl _ _) _) (cell_new rfl)
    have s2 : W1.cell? ⟨w.heap.size, 2, none⟩ = some (.int .i64 S.cases) := by rw [← hW1]; exact keep (bAlloc (Below.refl _ _) _) (cell_new rfl)
    have s3 : W1.cell? ⟨w.heap.size, 3, none⟩ = some (.int .i64 S.classes) := by rw [← hW1]; exact keep (bAlloc (Below.refl _ _) _) (cell_new rfl)
    have s4 : W1.cell? ⟨w.heap.size, 4, none⟩ = some (.slice at_ S.terms.length ct) := by rw [← hW1]; exact keep (bAlloc (Below.refl _ _) _) (cell_new rfl)
    have s5 : W1.cell? ⟨w.heap.size, 5, none⟩ = some (.slice ap S.plurals.length cp) := by rw [← hW1]; exact keep (bAlloc (Below.refl _ _) _) (cell_new rfl)
    have s6 : W1.cell? ⟨w.heap.size, 6, none⟩ = some (.slice as_ S.sets.length cs) := by rw [← hW1]; exact keep (bAlloc (Below.refl _ _) _) (cell_new rfl)
    have a0 : W1.cell? ⟨w.heap.size + 1, 0, none⟩ = some (.int .i64 a.num) := by rw [← hW1]; simp
    have a1 : W1.cell? ⟨w.heap.size + 1, 1, none⟩ = some (.int .i64 a.set) := by rw [← hW1]; simp
    have a2 : W1.cell? ⟨w.heap.size + 1, 2, none⟩ = some (.int .i64 a.gen) := by rw [← hW1]; simp
    have a3 : W1.cell? ⟨w.heap.size + 1, 3, none⟩ = some (.int .i64 a.kas) := by rw [← hW1]; simp
    have HB := Lib.hid hbn
    have HPn := Lib.hid (HPS.out.keep hbn)
    have hsl := cell_lt s0
    have hal := cell_lt a0
    clear hW1 hbn
    go_wp2_with (first
      | (go_at_call 14; rw [HSV.out]; refine (small_any S _ _ _ _ HPn.out).mono ?_; rintro e w1 ⟨⟨b, rfl⟩, hb⟩; replace s0 := keep hb s0; replace s1 := keep hb s1; replace s2 := keep hb s2; replace s3 := keep hb s3; replace s4 := keep hb s4; replace s5 := keep hb s5; replace s6 := keep hb s6; replace a0 := keep hb a0; replace a1 := keep hb a1; replace a2 := keep hb a2; replace a3 := keep hb a3; replace hsl := cell_lt s0; replace hal := cell_lt a0; replace HPn := Lib.hid (HPn.out.keep hb); replace HB := Lib.hid (bThen HB.out hb); clear hb; cases b)
      | (go_at_call 15; refine (known_any _).mono ?_; rintro e wk ⟨rfl, hb⟩; replace HB := Lib.hid (bThen HB.out hb); clear hb)
      | (go_at_call 22; refine (H22.out _ HPn.out).mono ?_; rintro e w4 ⟨rfl, hb⟩; rw [HER.out]; replace s0 := keep hb s0; replace s1 := keep hb s1; replace s2 := keep hb s2; replace s3 := keep hb s3; replace s4 := keep hb s4; replace s5 := keep hb s5; replace s6 := keep hb s6; replace a0 := keep hb a0; replace a1 := keep hb a1; replace a2 := keep hb a2; replace a3 := keep hb a3; replace hsl := cell_lt s0; replace hal := cell_lt a0; replace HPn := Lib.hid (HPn.out.keep hb); replace HB := Lib.hid (bThen HB.out hb); clear hb))
    all_goals
      first
        | (go_ret; exact ⟨rfl, HB.out⟩)
        | (exfalso; omega)
  have HER : Hid (refErr S a true = 0) := Lib.hid (by unfold refErr; simp [hok]; try omega)
  have HRT := Lib.hid (askRight_of hok)
  have HOK := Lib.hid hok
  clear hok
  by_cases hb0 : by_ < 0
  · go_enter Try.func12, Try.ntmps12
    go_wp2_with fail
    generalize hW1 : World.alloc (World.alloc w _) _ = W1
    have hbn : Below w.heap.size w W1 := by rw [← hW1]; exact bAlloc (bAlloc (Below.refl _ _) _) _
    have s0 : W1.cell? ⟨w.heap.size, 0, none⟩ = some (.int .i64 S.top) := by rw [← hW1]; exact keep (bAlloc (Below.refl _ _) _) (cell_new rfl)
    have s1 : W1.cell? ⟨w.heap.size, 1, none⟩ = some (.int .i64 S.genders) := by rw [← hW1]; exact keep (bAlloc (Below.refl _ _) _) (cell_new rfl)
    have s2 : W1.cell? ⟨w.heap.size, 2, none⟩ = some (.int .i64 S.cases) := by rw [← hW1]; exact keep (bAlloc (Below.refl _ _) _) (cell_new rfl)
    have s3 : W1.cell? ⟨w.heap.size, 3, none⟩ = some (.int .i64 S.classes) := by rw [← hW1]; exact keep (bAlloc (Below.refl _ _) _) (cell_new rfl)
    have s4 : W1.cell? ⟨w.heap.size, 4, none⟩ = some (.slice at_ S.terms.length ct) := by rw [← hW1]; exact keep (bAlloc (Below.refl _ _) _) (cell_new rfl)
    have s5 : W1.cell? ⟨w.heap.size, 5, none⟩ = some (.slice ap S.plurals.length cp) := by rw [← hW1]; exact keep (bAlloc (Below.refl _ _) _) (cell_new rfl)
    have s6 : W1.cell? ⟨w.heap.size, 6, none⟩ = some (.slice as_ S.sets.length cs) := by rw [← hW1]; exact keep (bAlloc (Below.refl _ _) _) (cell_new rfl)
    have a0 : W1.cell? ⟨w.heap.size + 1, 0, none⟩ = some (.int .i64 a.num) := by rw [← hW1]; simp
    have a1 : W1.cell? ⟨w.heap.size + 1, 1, none⟩ = some (.int .i64 a.set) := by rw [← hW1]; simp
    have a2 : W1.cell? ⟨w.heap.size + 1, 2, none⟩ = some (.int .i64 a.gen) := by rw [← hW1]; simp
    have a3 : W1.cell? ⟨w.heap.size + 1, 3, none⟩ = some (.int .i64 a.kas) := by rw [← hW1]; simp
    have HB := Lib.hid hbn
    have HPn := Lib.hid (HPS.out.keep hbn)
    have hsl := cell_lt s0
    have hal := cell_lt a0
    clear hW1 hbn
    go_wp2_with (first
      | (go_at_call 14; rw [HSV.out]; refine (small_any S _ _ _ _ HPn.out).mono ?_; rintro e w1 ⟨⟨b, rfl⟩, hb⟩; replace s0 := keep hb s0; replace s1 := keep hb s1; replace s2 := keep hb s2; replace s3 := keep hb s3; replace s4 := keep hb s4; replace s5 := keep hb s5; replace s6 := keep hb s6; replace a0 := keep hb a0; replace a1 := keep hb a1; replace a2 := keep hb a2; replace a3 := keep hb a3; replace hsl := cell_lt s0; replace hal := cell_lt a0; replace HPn := Lib.hid (HPn.out.keep hb); replace HB := Lib.hid (bThen HB.out hb); clear hb; cases b)
      | (go_at_call 15; refine (known_any _).mono ?_; rintro e wk ⟨rfl, hb⟩; replace HB := Lib.hid (bThen HB.out hb); clear hb)
      | (go_at_call 22; refine (H22.out _ HPn.out).mono ?_; rintro e w4 ⟨rfl, hb⟩; rw [HER.out]; replace s0 := keep hb s0; replace s1 := keep hb s1; replace s2 := keep hb s2; replace s3 := keep hb s3; replace s4 := keep hb s4; replace s5 := keep hb s5; replace s6 := keep hb s6; replace a0 := keep hb a0; replace a1 := keep hb a1; replace a2 := keep hb a2; replace a3 := keep hb a3; replace hsl := cell_lt s0; replace hal := cell_lt a0; replace HPn := Lib.hid (HPn.out.keep hb); replace HB := Lib.hid (bThen HB.out hb); clear hb))
    all_goals
      first
        | (go_ret; exact ⟨rfl, HB.out⟩)
        | (exfalso; omega)
  by_cases hb1 : 1000000 < by_
  · go_enter Try.func12, Try.ntmps12
    go_wp2_with fail
    generalize hW1 : World.alloc (World.alloc w _) _ = W1
    have hbn : Below w.heap.size w W1 := by rw [← hW1]; exact bAlloc (bAlloc (Below.refl _ _) _) _
    have s0 : W1.cell? ⟨w.heap.size, 0, none⟩ = some (.int .i64 S.top) := by rw [← hW1]; exact keep (bAlloc (Below.refl _ _) _) (cell_new rfl)
    have s1 : W1.cell? ⟨w.heap.size, 1, none⟩ = some (.int .i64 S.genders) := by rw [← hW1]; exact keep (bAlloc (Below.refl _ _) _) (cell_new rfl)
    have s2 : W1.cell? ⟨w.heap.size, 2, none⟩ = some (.int .i64 S.cases) := by rw [← hW1]; exact keep (bAlloc (Below.refl _ _) _) (cell_new rfl)
    have s3 : W1.cell? ⟨w.heap.size, 3, none⟩ = some (.int .i64 S.classes) := by rw [← hW1]; exact keep (bAlloc (Below.refl _ _) _) (cell_new rfl)
    have s4 : W1.cell? ⟨w.heap.size, 4, none⟩ = some (.slice at_ S.terms.length ct) := by rw [← hW1]; exact keep (bAlloc (Below.refl _ _) _) (cell_new rfl)
    have s5 : W1.cell? ⟨w.heap.size, 5, none⟩ = some (.slice ap S.plurals.length cp) := by rw [← hW1]; exact keep (bAlloc (Below.refl _ _) _) (cell_new rfl)
    have s6 : W1.cell? ⟨w.heap.size, 6, none⟩ = some (.slice as_ S.sets.length cs) := by rw [← hW1]; exact keep (bAlloc (Below.refl _ _) _) (cell_new rfl)
    have a0 : W1.cell? ⟨w.heap.size + 1, 0, none⟩ = some (.int .i64 a.num) := by rw [← hW1]; simp
    have a1 : W1.cell? ⟨w.heap.size + 1, 1, none⟩ = some (.int .i64 a.set) := by rw [← hW1]; simp
    have a2 : W1.cell? ⟨w.heap.size + 1, 2, none⟩ = some (.int .i64 a.gen) := by rw [← hW1]; simp
    have a3 : W1.cell? ⟨w.heap.size + 1, 3, none⟩ = some (.int .i64 a.kas) := by rw [← hW1]; simp
    have HB := Lib.hid hbn
    have HPn := Lib.hid (HPS.out.keep hbn)
    have hsl := cell_lt s0
    have hal := cell_lt a0
    clear hW1 hbn
    go_wp2_with (first
      | (go_at_call 14; rw [HSV.out]; refine (small_any S _ _ _ _ HPn.out).mono ?_; rintro e w1 ⟨⟨b, rfl⟩, hb⟩; replace s0 := keep hb s0; replace s1 := keep hb s1; replace s2 := keep hb s2; replace s3 := keep hb s3; replace s4 := keep hb s4; replace s5 := keep hb s5; replace s6 := keep hb s6; replace a0 := keep hb a0; replace a1 := keep hb a1; replace a2 := keep hb a2; replace a3 := keep hb a3; replace hsl := cell_lt s0; replace hal := cell_lt a0; replace HPn := Lib.hid (HPn.out.keep hb); replace HB := Lib.hid (bThen HB.out hb); clear hb; cases b)
      | (go_at_call 15; refine (known_any _).mono ?_; rintro e wk ⟨rfl, hb⟩; replace HB := Lib.hid (bThen HB.out hb); clear hb)
      | (go_at_call 22; refine (H22.out _ HPn.out).mono ?_; rintro e w4 ⟨rfl, hb⟩; rw [HER.out]; replace s0 := keep hb s0; replace s1 := keep hb s1; replace s2 := keep hb s2; replace s3 := keep hb s3; replace s4 := keep hb s4; replace s5 := keep hb s5; replace s6 := keep hb s6; replace a0 := keep hb a0; replace a1 := keep hb a1; replace a2 := keep hb a2; replace a3 := keep hb a3; replace hsl := cell_lt s0; replace hal := cell_lt a0; replace HPn := Lib.hid (HPn.out.keep hb); replace HB := Lib.hid (bThen HB.out hb); clear hb))
    all_goals
      first
        | (go_ret; exact ⟨rfl, HB.out⟩)
        | (exfalso; omega)
  have d0 : decide (by_ < 0) = false := decide_eq_false hb0
  have d1 : decide (1000000 < by_) = false := decide_eq_false hb1
  have d2 : decide (100 < a.num) = false := decide_eq_false c1
  go_enter Try.func12, Try.ntmps12
  go_wp2_with fail
  generalize hW1 : World.alloc (World.alloc w _) _ = W1
  have hbn : Below w.heap.size w W1 := by rw [← hW1]; exact bAlloc (bAlloc (Below.refl _ _) _) _
  have s0 : W1.cell? ⟨w.heap.size, 0, none⟩ = some (.int .i64 S.top) := by rw [← hW1]; exact keep (bAlloc (Below.refl _ _) _) (cell_new rfl)
  have s1 : W1.cell? ⟨w.heap.size, 1, none⟩ = some (.int .i64 S.genders) := by rw [← hW1]; exact keep (bAlloc (Below.refl _ _) _) (cell_new rfl)
  have s2 : W1.cell? ⟨w.heap.size, 2, none⟩ = some (.int .i64 S.cases) := by rw [← hW1]; exact keep (bAlloc (Below.refl _ _) _) (cell_new rfl)
  have s3 : W1.cell? ⟨w.heap.size, 3, none⟩ = some (.int .i64 S.classes) := by rw [← hW1]; exact keep (bAlloc (Below.refl _ _) _) (cell_new rfl)
  have s4 : W1.cell? ⟨w.heap.size, 4, none⟩ = some (.slice at_ S.terms.length ct) := by rw [← hW1]; exact keep (bAlloc (Below.refl _ _) _) (cell_new rfl)
  have s5 : W1.cell? ⟨w.heap.size, 5, none⟩ = some (.slice ap S.plurals.length cp) := by rw [← hW1]; exact keep (bAlloc (Below.refl _ _) _) (cell_new rfl)
  have s6 : W1.cell? ⟨w.heap.size, 6, none⟩ = some (.slice as_ S.sets.length cs) := by rw [← hW1]; exact keep (bAlloc (Below.refl _ _) _) (cell_new rfl)
  have a0 : W1.cell? ⟨w.heap.size + 1, 0, none⟩ = some (.int .i64 a.num) := by rw [← hW1]; simp
  have a1 : W1.cell? ⟨w.heap.size + 1, 1, none⟩ = some (.int .i64 a.set) := by rw [← hW1]; simp
  have a2 : W1.cell? ⟨w.heap.size + 1, 2, none⟩ = some (.int .i64 a.gen) := by rw [← hW1]; simp
  have a3 : W1.cell? ⟨w.heap.size + 1, 3, none⟩ = some (.int .i64 a.kas) := by rw [← hW1]; simp
  have HB := Lib.hid hbn
  have HPn := Lib.hid (HPS.out.keep hbn)
  have hsl := cell_lt s0
  have hal := cell_lt a0
  clear hW1 hbn
  go_wp2_with (first
    | (go_at_call 14; rw [HSV.out]; refine (small_any S _ _ _ _ HPn.out).mono ?_; rintro e w1 ⟨⟨b, rfl⟩, hb⟩; replace s0 := keep hb s0; replace s1 := keep hb s1; replace s2 := keep hb s2; replace s3 := keep hb s3; replace s4 := keep hb s4; replace s5 := keep hb s5; replace s6 := keep hb s6; replace a0 := keep hb a0; replace a1 := keep hb a1; replace a2 := keep hb a2; replace a3 := keep hb a3; replace hsl := cell_lt s0; replace hal := cell_lt a0; replace HPn := Lib.hid (HPn.out.keep hb); replace HB := Lib.hid (bThen HB.out hb); clear hb; cases b)
    | (go_at_call 15; refine (known_any _).mono ?_; rintro e wk ⟨rfl, hb⟩; replace HB := Lib.hid (bThen HB.out hb); clear hb)
    | (go_at_call 22; refine (H22.out _ HPn.out).mono ?_; rintro e w4 ⟨rfl, hb⟩; rw [HER.out]; replace s0 := keep hb s0; replace s1 := keep hb s1; replace s2 := keep hb s2; replace s3 := keep hb s3; replace s4 := keep hb s4; replace s5 := keep hb s5; replace s6 := keep hb s6; replace a0 := keep hb a0; replace a1 := keep hb a1; replace a2 := keep hb a2; replace a3 := keep hb a3; replace hsl := cell_lt s0; replace hal := cell_lt a0; replace HPn := Lib.hid (HPn.out.keep hb); replace HB := Lib.hid (bThen HB.out hb); clear hb))
  · go_ret
    exact ⟨rfl, HB.out⟩
  · clear d0 d1 d2
    have hfr : S.top ≤ 999999999999 := by
      have := HRT.out.1.ok
      simp only [sysOk, sizesOk, Bool.and_eq_true, betw, decide_eq_true_eq] at this
      omega
    have hto : 0 ≤ S.top := by
      have := HRT.out.1.ok
      simp only [sysOk, sizesOk, Bool.and_eq_true, betw, decide_eq_true_eq] at this
      omega
    have htl : S.terms.length ≤ 500 := by
      have := HRT.out.1.ok
      simp only [sysOk, sizesOk, Bool.and_eq_true, betw, decide_eq_true_eq] at this
      omega
    have HFL : Hid (∀ t ∈ S.terms, t.forms.length ≤ 60) := Lib.hid (by
      have := HRT.out.1.ok
      simp only [sysOk, Bool.and_eq_true] at this
      intro t ht
      have h := List.all_eq_true.1 this.1.1.2 t ht
      simp only [termOk, Bool.and_eq_true, decide_eq_true_eq] at h
      exact h.1.2)
    obtain ⟨i62, hi, hz0, hz1, hz2⟩ := info_parts info62
    obtain ⟨i90, hj, hy0, hy1, hy2⟩ := info_parts info90
    have HI := Lib.hid hi
    have HJ := Lib.hid hj
    clear hi hj
    generalize hW5 : World.alloc w4 _ = W5
    have hE : EnR w4.heap.size w4.heap.size S (.slice ap S.plurals.length cp) (.slice as_ S.sets.length cs) w4 W5 (.slice none 0 0) ((S.terms.take 0).map starT) := by
      rw [← hW5]; exact ⟨World.alloc_heap_new w4 _, OwnsV.nil _ _ _ _ _, bAlloc (Below.refl _ _) _, Nat.le_refl _⟩
    have HE := Lib.hid hE
    have HCE : Hid (w4.cell? ⟨w.heap.size, 0, none⟩ = some (.int .i64 S.top) ∧ w4.cell? ⟨w.heap.size, 1, none⟩ = some (.int .i64 S.genders) ∧ w4.cell? ⟨w.heap.size, 2, none⟩ = some (.int .i64 S.cases) ∧ w4.cell? ⟨w.heap.size, 3, none⟩ = some (.int .i64 S.classes) ∧ w4.cell? ⟨w.heap.size, 4, none⟩ = some (.slice at_ S.terms.length ct) ∧ w4.cell? ⟨w.heap.size, 5, none⟩ = some (.slice ap S.plurals.length cp) ∧ w4.cell? ⟨w.heap.size, 6, none⟩ = some (.slice as_ S.sets.length cs)) := Lib.hid ⟨s0, s1, s2, s3, s4, s5, s6⟩
    have HCA : Hid (w4.cell? ⟨w.heap.size + 1, 0, none⟩ = some (.int .i64 a.num) ∧ w4.cell? ⟨w.heap.size + 1, 1, none⟩ = some (.int .i64 a.set) ∧ w4.cell? ⟨w.heap.size + 1, 2, none⟩ = some (.int .i64 a.gen) ∧ w4.cell? ⟨w.heap.size + 1, 3, none⟩ = some (.int .i64 a.kas)) := Lib.hid ⟨a0, a1, a2, a3⟩
    have S4 := Lib.hid s4
    clear hE hW5 s0 s1 s2 s3 s4 s5 s6 a0 a1 a2 a3
    go_loopw [8] (fun i wr => ∃ (k : Nat) (v : Value), k ≤ S.terms.length ∧ i = .int .i64 k ∧ Hid (EnR w4.heap.size w4.heap.size S (.slice ap S.plurals.length cp) (.slice as_ S.sets.length cs) w4 wr v ((S.terms.take k).map starT)) ∧ Hid (shortTo S k)) (fun i _ => S.terms.length - (intOf i).toNat)
    case atStart => exact ⟨0, _, Nat.zero_le _, rfl, HE, Lib.hid (shortTo_zero S)⟩
    case round =>
      obtain ⟨k, v, hk, rfl, HE, HS⟩ := hrel
      have s4 := keep HE.out.low S4.out
      have hsl4 := HE.out.low.size
      by_cases hlt : k < S.terms.length
      · have HPr := Lib.hid (HPn.out.keep HE.out.low)
        have hne : S.terms ≠ [] := by intro h; simp [h] at hlt
        obtain ⟨tb, to, rfl, hf⟩ := HPr.out.1.at hne
        have hx := hf k hlt
        have HTK := Lib.hid (starT_take hlt)
        have HSK : Hid ((∀ f ∈ S.terms[k].forms, f.txt.size ≤ 29) → shortTo S (k + 1)) := Lib.hid (shortTo_succ hlt HS.out)
        have hfl := HFL.out _ (List.getElem_mem hlt)
        clear hf hne
        generalize S.terms[k] = t at *
        obtain ⟨x0, vf, x1, hfs⟩ := hx
        have HFS := Lib.hid hfs
        obtain ⟨fa, fc, rfl, -⟩ := hfs
        have htb := cell_lt x0
        have hsz4 := HE.out.size
        go_wp2_with fail
        obtain ⟨wo, hwo⟩ : ∃ wo : World, wo = wr := ⟨_, rfl⟩
        rw [← hwo] at x0 x1 s4 htb hsl4 hsz4 HFS HPr HE ⊢
        clear hwo wr
        have HWO := Lib.hid (InR.new wo t.gen)
        generalize hW6 : World.alloc wo _ = W6 at *
        clear hW6
        go_loopw [10] (fun j wi => ∃ (q : Nat) (u : Value), q ≤ t.forms.length ∧ j = .int .i64 q ∧ Hid (InR wo wi t.gen u ((t.forms.take q).map starF)) ∧ Hid (∀ f ∈ t.forms.take q, f.txt.size ≤ 29)) (fun j _ => t.forms.length - (intOf j).toNat)
        case atStart => exact ⟨0, _, Nat.zero_le _, rfl, HWO, Lib.hid (by simp)⟩
        case round =>
          obtain ⟨q, u, hq, rfl, HIN, HSF⟩ := hrel
          have hlow := HIN.out.low
          replace x0 := keep hlow x0
          replace x1 := keep hlow x1
          replace s4 := keep hlow s4
          have hsz0 := HIN.out.size
          have hszl := hlow.size
          by_cases hql : q < t.forms.length
          · have hne : t.forms ≠ [] := by intro h; simp [h] at hql
            obtain ⟨fb, fo, rfl, hff⟩ := (HFS.out.keep FormAt.stable hlow).at hne
            obtain ⟨f0, f1, f2, f3, hfm⟩ := hff q hql
            have HTQ := Lib.hid (starF_take hql)
            have HTS := Lib.hid (take_succ t.forms q hql)
            clear hff hne
            generalize t.forms[q] = f at *
            have hfb := cell_lt f0
            by_cases hbig : 29 < (f.txt.size : Int)
            · go_wp2_with (go_at_call 15; refine (known_any _).mono ?_; rintro e wk ⟨rfl, hb⟩; have HBK := Lib.hid (bThen (bThen HB.out (HE.out.low.trans (hlow.mono HE.out.low.size))) (bThen (bAlloc (Below.refl _ _) _) hb)); clear hb)
              go_ret
              exact ⟨rfl, HBK.out⟩
            · have hadd := fun W => star_add f.txt (by omega) W
              obtain ⟨sp, hsp⟩ : ∃ sp, sp = star f.txt := ⟨_, rfl⟩
              rw [← hsp] at hadd
              have HSP := Lib.hid hsp
              clear hsp
              have hrow := HIN.out.row
              have hlen : ((t.forms.take q).map starF).length = q := by simp; omega
              rw [hlen] at hrow
              obtain ⟨ad, cap, rfl⟩ := ownsRow_slice hrow
              have HN3 := Lib.hid (apart_row HIN.out.box hrow (by decide))
              have b0 : wr.cell? ⟨wo.heap.size, 0, none⟩ = some (.int .i64 t.gen) := by simp [World.cell?, HIN.out.box]
              have b1 : wr.cell? ⟨wo.heap.size, 1, none⟩ = some (.slice ad q cap) := by simp [World.cell?, HIN.out.box]
              have bf : wr.frozen? ⟨wo.heap.size, 1, none⟩ = false := by simp [World.frozen?, HIN.out.box]
              have HRW := Lib.hid hrow
              have HLEN := Lib.hid hlen
              have HK1 : Hid (∀ W', Below wr.heap.size wr W' → W'.cell? ⟨wo.heap.size, 1, none⟩ = some (.slice ad q cap)) := Lib.hid fun W' hB => keep hB b1
              have HF1 : Hid (∀ W', Below wr.heap.size wr W' → W'.frozen? ⟨wo.heap.size, 1, none⟩ = false) := Lib.hid fun W' hB => (hB.frozen (p := ⟨wo.heap.size, 1, none⟩) hsz0).trans bf
              clear hrow hlen bf
              have hq60 : q < 60 := by omega
              go_wp2_with (at_builtin; refine wpList_append_lies _ rfl _ _ 60 rfl wo.heap.size 90 i90 _ 4 40 Try.underlying60 HJ.out hy0 hy1 hy2 rfl (by decide) (.slice ad q cap) q (fcells ((t.forms.take q).map starF)) (by rfl) ((HRW.out.alloc _).alloc _) ⟨wr.heap.size + 1, 0, none⟩ 1 1 [.int .i64 f.gen, .int .i64 f.kas, .int .i64 f.cls, .string sp] (by rfl) (by rfl) (World.news_of_block two_al) (by simp [Value.oneCell']) (by omega) (by unfold maxLen; omega) (by omega) (by simp; omega) (wr.heap.size + 1 + 1) (by simp) ?_; intro g6 cap6 w6 hown hgrow hat6 hlt6; have hfz : w6.frozen? ⟨wo.heap.size, 1, none⟩ = false := (hgrow.frozen_far ⟨wo.heap.size, 1, none⟩ (by simp; omega) HN3.out).trans (HF1.out _ (bAlloc (bAlloc (Below.refl _ _) _) _)); have hcz : w6.cell? ⟨wo.heap.size, 1, none⟩ = some (.slice ad q cap) := (hgrow.cell_far ⟨wo.heap.size, 1, none⟩ (by simp; omega) HN3.out).trans (HK1.out _ (bAlloc (bAlloc (Below.refl _ _) _) _)))
              have hIN := InR.more (f := starF f) HIN.out (bAlloc (bAlloc (Below.refl _ _) _) _) hgrow (by rw [HLEN.out]; have e : Form.cells (starF f) = [.int .i64 f.gen, .int .i64 f.kas, .int .i64 f.cls, .string sp] := (by rw [HSP.out]; rfl); rw [e]; exact hown)
              have HI2 := Lib.hid hIN
              clear hIN hown hgrow
              go_roundw
              case rel =>
                refine ⟨q + 1, .slice (some ⟨g6, 0, none⟩) (q + 1) cap6, by omega, by go_num, Lib.hid ?_, Lib.hid ?_⟩
                · rw [HTQ.out]; exact HI2.out
                · rw [HTS.out]
                  intro x hx
                  rcases List.mem_append.1 hx with hx | hx
                  · exact HSF.out x hx
                  · rw [List.mem_singleton.1 hx]; omega
              case measure => simp [intOf]; omega
          · obtain rfl : q = t.forms.length := by omega
            have HE2 := Lib.hid (HE.out.below hlow HE.out.low.size)
            obtain ⟨cl, hc1, hc2, hrow, hc3⟩ := HE2.out.terms
            have hlen : ((S.terms.take k).map starT).length = k := by simp; omega
            have hlf : ((t.forms.take t.forms.length).map starF).length = t.forms.length := by simp
            have hrw := HIN.out.row
            rw [hlen] at hrow
            rw [hlf] at hrw
            obtain ⟨ad, cap, rfl⟩ := ownsRow_slice hrow
            obtain ⟨ad2, cap2, rfl⟩ := ownsRow_slice hrw
            have HN3 := Lib.hid (apart_row HE2.out.sys hrow (by decide))
            have hsz2 := HE2.out.size
            have hnw : w4.heap.size ≤ wr.heap.size := Nat.le_trans HE.out.low.size hszl
            have b0 : wr.cell? ⟨wo.heap.size, 0, none⟩ = some (.int .i64 t.gen) := by simp [World.cell?, HIN.out.box]
            have b1 : wr.cell? ⟨wo.heap.size, 1, none⟩ = some (.slice ad2 t.forms.length cap2) := by simp [World.cell?, HIN.out.box]
            have c4 : wr.cell? ⟨w4.heap.size, 4, none⟩ = some (.slice ad k cap) := by simp [World.cell?, HE2.out.sys, rBlock]
            have f4 : wr.frozen? ⟨w4.heap.size, 4, none⟩ = false := by simp [World.frozen?, HE2.out.sys, rBlock]
            have HG : Hid (TermG (wr.alloc (.cells #[.int .i64 t.gen, .slice ad2 t.forms.length cap2] 62)) [.int .i64 t.gen, .slice ad2 t.forms.length cap2] (starT t)) := Lib.hid (by
              have h1 : (t.forms.take t.forms.length).map starF = t.forms.map starF := by rw [List.take_length]
              have h2 := HIN.out.row
              rw [h1] at h2
              refine TermG.of_row (g := t.gen) (fs := t.forms.map starF) (h2.alloc _) (by simp; omega) ?_
              intro x hx
              obtain ⟨y, hy, rfl⟩ := List.mem_map.1 hx
              have := HSF.out y (by rw [List.take_length]; exact hy)
              show (star y.txt).size ≤ most
              rw [star_size]; unfold most; omega)
            have HSS := Lib.hid (HSK.out (fun f hf => HSF.out f (by rw [List.take_length]; exact hf)))
            have HRW := Lib.hid hrow
            have HLEN := Lib.hid hlen
            have HCS := Lib.hid (And.intro hc1 (And.intro hc2 hc3))
            have HK4 := Lib.hid c4
            have HF4 := Lib.hid f4
            clear hrow hrw hlen hlf hc1 hc2 hc3 HSF HSK HFS HIN f4 hlow
            go_wp2_with (at_builtin; refine wpList_append_lies _ rfl _ _ 22 rfl w4.heap.size 62 i62 _ 2 32 Try.underlying22 HI.out hz0 hz1 hz2 rfl (by decide) (.slice ad k cap) k cl.flatten (by rfl) (HRW.out.alloc _) ⟨wr.heap.size, 0, none⟩ 1 1 [.int .i64 t.gen, .slice ad2 t.forms.length cap2] (by rfl) (by rfl) (World.news_of_block (World.alloc_heap_new _ _)) (by simp [Value.oneCell']) (by omega) (by unfold maxLen; omega) (by omega) (by simp; omega) (wr.heap.size + 1) (by simp) ?_; intro g6 cap6 w6 hown hgrow hat6 hlt6; have hfz : w6.frozen? ⟨w4.heap.size, 4, none⟩ = false := (hgrow.frozen_far ⟨w4.heap.size, 4, none⟩ (by simp; omega) HN3.out).trans (((bAlloc (Below.refl _ _) _ : Below wr.heap.size wr _).frozen (p := ⟨w4.heap.size, 4, none⟩) hsz2).trans HF4.out); have hcz : w6.cell? ⟨w4.heap.size, 4, none⟩ = some (.slice ad k cap) := (hgrow.cell_far ⟨w4.heap.size, 4, none⟩ (by simp; omega) HN3.out).trans (keep (bAlloc (Below.refl _ _) _) HK4.out))
            have hE1 := EnR.moreTerms (w1 := w6) (v' := .slice (some ⟨g6, 0, none⟩) (k + 1) cap6) (ys := [starT t]) (ds := [[.int .i64 t.gen, .slice ad2 t.forms.length cap2]]) (HE2.out.below (bAlloc (Below.refl _ _) (.cells #[.int .i64 t.gen, .slice ad2 t.forms.length cap2] 62)) hnw) HCS.out.1 HCS.out.2.1 (by rw [HLEN.out]; exact HRW.out.alloc _) (fun i h h' => TermG.held (own := ownEn) rfl w4.heap.size _ _ _ _ (Kp.of_below (bAlloc (Below.refl _ _) _) hnw) (HCS.out.2.2 i h h')) hgrow (by rw [HLEN.out]; simpa using hown) rfl (by simp)
              (fun i h h' => by
                obtain rfl : i = 0 := by simp at h; omega
                exact HG.out)
            have HE3 := Lib.hid hE1.1
            clear hE1 hown hgrow
            go_roundw
            case rel => exact ⟨k + 1, .slice (some ⟨g6, 0, none⟩) (k + 1) cap6, by omega, by go_num, Lib.hid (by rw [HTK.out]; exact HE3.out), HSS⟩
            case measure => simp [intOf]; omega
      · obtain rfl : k = S.terms.length := by omega
        have hts : (S.terms.take S.terms.length).map starT = S.terms.map starT := by rw [List.take_length]
        have HSH : Hid (∀ t ∈ S.terms, ∀ f ∈ t.forms, f.txt.size ≤ 29) := Lib.hid (by have := HS.out; unfold shortTo at this; rwa [List.take_length] at this)
        have hE := HE.out
        rw [hts] at hE
        replace HE := Lib.hid hE
        obtain ⟨cl, -, -, hrow, -⟩ := hE.terms
        rw [List.length_map] at hrow
        obtain ⟨ad, cap, rfl⟩ := ownsRow_slice hrow
        have hsz := hE.size
        have t0 : wr.cell? ⟨w4.heap.size, 0, none⟩ = some (.int .i64 S.top) := by simp [World.cell?, hE.sys, rBlock]
        have tf : wr.frozen? ⟨w4.heap.size, 0, none⟩ = false := by simp [World.frozen?, hE.sys, rBlock]
        have s0 := keep hE.low HCE.out.1
        clear hE hrow hts HS
        obtain ⟨tp, htp⟩ : ∃ tp, tp = min 999999999999 (S.top + by_) := ⟨_, rfl⟩
        have htp1 : S.top ≤ tp := by omega
        have htp2 : tp ≤ 999999999999 := by omega
        go_upto_region 19 with (fail)
        generalize hV : World.setCell wr _ _ = V
        have hE7 : EnR w4.heap.size w4.heap.size { S with top := tp } (.slice ap S.plurals.length cp) (.slice as_ S.sets.length cs) w4 V (.slice ad S.terms.length cap) (S.terms.map starT) := by rw [← hV, htp]; exact HE.out.setTop _
        clear hV htp
        replace t0 : V.cell? ⟨w4.heap.size, 0, none⟩ = some (.int .i64 tp) := by simp [World.cell?, hE7.sys, rBlock]
        have t1 : V.cell? ⟨w4.heap.size, 1, none⟩ = some (.int .i64 S.genders) := by simp [World.cell?, hE7.sys, rBlock]
        have t2 : V.cell? ⟨w4.heap.size, 2, none⟩ = some (.int .i64 S.cases) := by simp [World.cell?, hE7.sys, rBlock]
        have t3 : V.cell? ⟨w4.heap.size, 3, none⟩ = some (.int .i64 S.classes) := by simp [World.cell?, hE7.sys, rBlock]
        have t4 : V.cell? ⟨w4.heap.size, 4, none⟩ = some (.slice ad S.terms.length cap) := by simp [World.cell?, hE7.sys, rBlock]
        have t5 : V.cell? ⟨w4.heap.size, 5, none⟩ = some (.slice ap S.plurals.length cp) := by simp [World.cell?, hE7.sys, rBlock]
        have t6 : V.cell? ⟨w4.heap.size, 6, none⟩ = some (.slice as_ S.sets.length cs) := by simp [World.cell?, hE7.sys, rBlock]
        replace s0 := keep hE7.low HCE.out.1
        have s1 := keep hE7.low HCE.out.2.1
        have s2 := keep hE7.low HCE.out.2.2.1
        have s3 := keep hE7.low HCE.out.2.2.2.1
        have s4 := keep hE7.low HCE.out.2.2.2.2.1
        have s5 := keep hE7.low HCE.out.2.2.2.2.2.1
        have s6 := keep hE7.low HCE.out.2.2.2.2.2.2
        have a0 := keep hE7.low HCA.out.1
        have a1 := keep hE7.low HCA.out.2.1
        have a2 := keep hE7.low HCA.out.2.2.1
        have a3 := keep hE7.low HCA.out.2.2.2
        replace hsl := cell_lt s0
        replace hal := cell_lt a0
        have htl2 := cell_lt t0
        have HPS7 := Lib.hid (HPn.out.keep hE7.low)
        have HPT7 : Hid (SysParts V (.slice ad S.terms.length cap) (.slice ap S.plurals.length cp) (.slice as_ S.sets.length cs) (ren S tp)) := Lib.hid ⟨hE7.terms.termsG (by simp; omega), (HPn.out.keep hE7.low).2.1, (HPn.out.keep hE7.low).2.2⟩
        replace HB := Lib.hid (bThen HB.out hE7.low)
        have HOKT := Lib.hid (ren_ask HOK.out htp1 htp2 HSH.out)
        clear hE7 HE HCE HCA tf hsl4 S4
        obtain ⟨L, hL⟩ : ∃ L, L = wsOf S a := ⟨_, rfl⟩
        obtain ⟨er, her⟩ : ∃ er, er = erOf S a := ⟨_, rfl⟩
        obtain ⟨M, hM⟩ : ∃ M, M = twinsTo S a a.num.toNat := ⟨_, rfl⟩
        have HL := Lib.hid hL.symm
        have HLT : Hid (wsOf (ren S tp) a = L.map star) := Lib.hid (by rw [ren_wsOf, hL])
        have HERO := Lib.hid her.symm
        have HERT : Hid (erOf (ren S tp) a = er) := Lib.hid (by rw [ren_erOf, her])
        have HM := Lib.hid hM.symm
        have HMT : Hid (twinsTo (ren S tp) a a.num.toNat = M) := Lib.hid (by rw [ren_twins, hM])
        have HSC := Lib.hid (scan_zero HOK.out (by omega))
        have HSCT := Lib.hid (scan_zero HOKT.out (by omega))
        have HSMALL : Hid (∀ p ∈ L, p.size ≤ 29) := Lib.hid (by rw [hL]; exact words_small HSH.out)
        clear hL her hM
        have h20 : ∀ W', SysParts W' (.slice at_ S.terms.length ct) (.slice ap S.plurals.length cp) (.slice as_ S.sets.length cs) S → Calls Try.prog 20 #[.agg #[.int .i64 S.top, .int .i64 S.genders, .int .i64 S.cases, .int .i64 S.classes, .slice at_ S.terms.length ct, .slice ap S.plurals.length cp, .slice as_ S.sets.length cs], .agg #[.int .i64 a.num, .int .i64 a.set, .int .i64 a.gen, .int .i64 a.kas]] W' fun e w' => SpellPost S a e w' ∧ Below W'.heap.size W' w' := fun W' h => Spell_any S a _ _ _ W' h
        have h20t : ∀ W', SysParts W' (.slice ad S.terms.length cap) (.slice ap S.plurals.length cp) (.slice as_ S.sets.length cs) (ren S tp) → Calls Try.prog 20 #[.agg #[.int .i64 tp, .int .i64 S.genders, .int .i64 S.cases, .int .i64 S.classes, .slice ad S.terms.length cap, .slice ap S.plurals.length cp, .slice as_ S.sets.length cs], .agg #[.int .i64 a.num, .int .i64 a.set, .int .i64 a.gen, .int .i64 a.kas]] W' fun e w' => SpellPost (ren S tp) a e w' ∧ Below W'.heap.size W' w' := fun W' h => Spell_any (ren S tp) a _ _ _ W' h
        have h30 : ∀ W', SysParts W' (.slice at_ S.terms.length ct) (.slice ap S.plurals.length cp) (.slice as_ S.sets.length cs) S → Calls Try.prog 30 #[.agg #[.int .i64 S.top, .int .i64 S.genders, .int .i64 S.cases, .int .i64 S.classes, .slice at_ S.terms.length ct, .slice ap S.plurals.length cp, .slice as_ S.sets.length cs], .agg #[.int .i64 a.num, .int .i64 a.set, .int .i64 a.gen, .int .i64 a.kas]] W' fun e w' => TwinsPost S a e w' ∧ Below W'.heap.size W' w' := fun W' h => Twins_any S a _ _ _ W' h
        have h30t : ∀ W', SysParts W' (.slice ad S.terms.length cap) (.slice ap S.plurals.length cp) (.slice as_ S.sets.length cs) (ren S tp) → Calls Try.prog 30 #[.agg #[.int .i64 tp, .int .i64 S.genders, .int .i64 S.cases, .int .i64 S.classes, .slice ad S.terms.length cap, .slice ap S.plurals.length cp, .slice as_ S.sets.length cs], .agg #[.int .i64 a.num, .int .i64 a.set, .int .i64 a.gen, .int .i64 a.kas]] W' fun e w' => TwinsPost (ren S tp) a e w' ∧ Below W'.heap.size W' w' := fun W' h => Twins_any (ren S tp) a _ _ _ W' h
        have H20 := Lib.hid h20
        have H20T := Lib.hid h20t
        have H30 := Lib.hid h30
        have H30T := Lib.hid h30t
        clear h20 h20t h30 h30t
        have hle : ((L.length : Int) != (L.length : Int)) = false := by simp
        have hee : (er != er) = false := by simp
        go_wp2_with (first
          | (go_at_call 20; (with_reducible refine Calls.mono (H20.out _ ?_) ?_); exact HPS7.out; rintro e w5 ⟨hq, hb⟩; obtain ⟨adv, ccv, rfl, HVS⟩ := SpellPost.any hq HOK.out HL.out HERO.out; replace s0 := keep hb s0; replace s1 := keep hb s1; replace s2 := keep hb s2; replace s3 := keep hb s3; replace s4 := keep hb s4; replace s5 := keep hb s5; replace s6 := keep hb s6; replace a0 := keep hb a0; replace a1 := keep hb a1; replace a2 := keep hb a2; replace a3 := keep hb a3; replace t0 := keep hb t0; replace t1 := keep hb t1; replace t2 := keep hb t2; replace t3 := keep hb t3; replace t4 := keep hb t4; replace t5 := keep hb t5; replace t6 := keep hb t6; replace hsl := cell_lt s0; replace hal := cell_lt a0; replace htl2 := cell_lt t0; replace HPS7 := Lib.hid (HPS7.out.keep hb); replace HPT7 := Lib.hid (HPT7.out.keep hb); replace HB := Lib.hid (bThen HB.out hb); clear hb hq)
          | (go_at_call 20; (with_reducible refine Calls.mono (H20T.out _ ?_) ?_); exact HPT7.out; rintro e w6 ⟨hq, hb⟩; obtain ⟨adw, ccw, rfl, HWS⟩ := SpellPost.any hq HOKT.out HLT.out HERT.out; rw [List.length_map] at HWS ⊢; replace HVS := Lib.hid (HVS.out.keep StrAt.stable hb); replace s0 := keep hb s0; replace s1 := keep hb s1; replace s2 := keep hb s2; replace s3 := keep hb s3; replace s4 := keep hb s4; replace s5 := keep hb s5; replace s6 := keep hb s6; replace a0 := keep hb a0; replace a1 := keep hb a1; replace a2 := keep hb a2; replace a3 := keep hb a3; replace t0 := keep hb t0; replace t1 := keep hb t1; replace t2 := keep hb t2; replace t3 := keep hb t3; replace t4 := keep hb t4; replace t5 := keep hb t5; replace t6 := keep hb t6; replace hsl := cell_lt s0; replace hal := cell_lt a0; replace htl2 := cell_lt t0; replace HPS7 := Lib.hid (HPS7.out.keep hb); replace HPT7 := Lib.hid (HPT7.out.keep hb); replace HB := Lib.hid (bThen HB.out hb); clear hb hq))
        have HLE : Hid (L.length ≤ most) := Lib.hid (by obtain ⟨_, _, _, h, _⟩ := HVS.out; exact h)
        have hll := HLE.out
        unfold most at hll
        go_loopw [16] (fun i wr => ∃ k : Nat, k ≤ L.length ∧ i = .int .i64 k ∧ Hid (Below w6.heap.size w6 wr)) (fun i _ => L.length - (intOf i).toNat)
        case atStart => exact ⟨0, Nat.zero_le _, rfl, Lib.hid (Below.refl _ _)⟩
        case round =>
          obtain ⟨k, hk, rfl, HBR⟩ := hrel
          by_cases hlt : k < L.length
          · have hne : L ≠ [] := by intro h; rw [h] at hlt; simp at hlt
            have hne2 : L.map star ≠ [] := by intro h; exact hne (List.map_eq_nil_iff.1 h)
            obtain ⟨vb, vo, rfl, hvf⟩ := HVS.out.at hne
            obtain ⟨wb, wo, rfl, hwf⟩ := HWS.out.at hne2
            have p0 : wr.cell? ⟨vb, vo + k, none⟩ = some (.string L[k]) := by have := keep HBR.out (hvf k hlt); simpa using this
            have q0 : wr.cell? ⟨wb, wo + k, none⟩ = some (.string (star L[k])) := by have := keep HBR.out (hwf k (by simpa using hlt)); simpa using this
            have hsm := HSMALL.out _ (List.getElem_mem hlt)
            obtain ⟨p, hp⟩ : ∃ p, p = L[k] := ⟨_, rfl⟩
            rw [← hp] at p0 q0 hsm
            have hpb := cell_lt p0
            have hqb := cell_lt q0
            clear hvf hwf hne hne2 hp
            have hadd := fun W => star_add p (by omega) W
            have h1 : ((star p).toList == (star p).toList) = true := by simp
            clear s0 s1 s2 s3 s4 s5 s6 t0 t1 t2 t3 t4 t5 t6 a0 a1 a2 a3 hsl hal htl2 hee hle
            go_wp2_with fail
            refine wp_opaque fun Q2 hQ2 => ?_
            (refine wp_region_below (by kernel_rfl) (by kernel_rfl) ?_; (repeat (first | go_big_quiet_step (fail) | quiet_step (fail))); (refine wpQuiet_nil ?_; intro _ hw'; obtain ⟨xq, hw''⟩ := hw'; subst hw''))
            refine hQ2 _ _ _ ?_
            replace HBR := Lib.hid (bThen HBR.out xq.2)
            generalize xq.val = W9 at HBR ⊢
            go_wp2_with fail
            go_roundw
            case rel => exact ⟨k + 1, by omega, by go_num, HBR⟩
            case measure => simp [intOf]; omega
          · obtain rfl : k = L.length := by omega
            have hb := HBR.out
            replace s0 := keep hb s0
            replace s1 := keep hb s1
            replace s2 := keep hb s2
            replace s3 := keep hb s3
            replace s4 := keep hb s4
            replace s5 := keep hb s5
            replace s6 := keep hb s6
            replace a0 := keep hb a0
            replace a1 := keep hb a1
            replace a2 := keep hb a2
            replace a3 := keep hb a3
            replace t0 := keep hb t0
            replace t1 := keep hb t1
            replace t2 := keep hb t2
            replace t3 := keep hb t3
            replace t4 := keep hb t4
            replace t5 := keep hb t5
            replace t6 := keep hb t6
            replace hsl := cell_lt s0
            replace hal := cell_lt a0
            replace htl2 := cell_lt t0
            replace HPS7 := Lib.hid (HPS7.out.keep hb)
            replace HPT7 := Lib.hid (HPT7.out.keep hb)
            replace HB := Lib.hid (bThen HB.out hb)
            replace HVS := Lib.hid (HVS.out.keep StrAt.stable hb)
            clear hb
            go_wp2_with (first
              | (go_at_call 30; (with_reducible refine Calls.mono (H30.out _ ?_) ?_); exact HPS7.out; rintro e w7 ⟨hq, hb⟩; obtain ⟨adl, ccl, rfl, HLS⟩ := TwinsPost.ok hq HSC.out HM.out; replace s0 := keep hb s0; replace s1 := keep hb s1; replace s2 := keep hb s2; replace s3 := keep hb s3; replace s4 := keep hb s4; replace s5 := keep hb s5; replace s6 := keep hb s6; replace a0 := keep hb a0; replace a1 := keep hb a1; replace a2 := keep hb a2; replace a3 := keep hb a3; replace t0 := keep hb t0; replace t1 := keep hb t1; replace t2 := keep hb t2; replace t3 := keep hb t3; replace t4 := keep hb t4; replace t5 := keep hb t5; replace t6 := keep hb t6; replace hsl := cell_lt s0; replace hal := cell_lt a0; replace htl2 := cell_lt t0; replace HPS7 := Lib.hid (HPS7.out.keep hb); replace HPT7 := Lib.hid (HPT7.out.keep hb); replace HB := Lib.hid (bThen HB.out hb); clear hb hq)
              | (go_at_call 30; (with_reducible refine Calls.mono (H30T.out _ ?_) ?_); exact HPT7.out; rintro e w8 ⟨hq, hb⟩; obtain ⟨adm, ccm, rfl, HMS⟩ := TwinsPost.ok hq HSCT.out HMT.out; replace HLS := Lib.hid (HLS.out.keep TwAt.stable hb); replace s0 := keep hb s0; replace s1 := keep hb s1; replace s2 := keep hb s2; replace s3 := keep hb s3; replace s4 := keep hb s4; replace s5 := keep hb s5; replace s6 := keep hb s6; replace a0 := keep hb a0; replace a1 := keep hb a1; replace a2 := keep hb a2; replace a3 := keep hb a3; replace t0 := keep hb t0; replace t1 := keep hb t1; replace t2 := keep hb t2; replace t3 := keep hb t3; replace t4 := keep hb t4; replace t5 := keep hb t5; replace t6 := keep hb t6; replace hsl := cell_lt s0; replace hal := cell_lt a0; replace htl2 := cell_lt t0; replace HPS7 := Lib.hid (HPS7.out.keep hb); replace HPT7 := Lib.hid (HPT7.out.keep hb); replace HB := Lib.hid (bThen HB.out hb); clear hb hq))
            have HLM : Hid (M.length ≤ most) := Lib.hid (by obtain ⟨_, _, _, h, _⟩ := HLS.out; exact h)
            have hlm := HLM.out
            unfold most at hlm
            clear s0 s1 s2 s3 s4 s5 s6 t0 t1 t2 t3 t4 t5 t6 a0 a1 a2 a3 hsl hal htl2 hee hle HPS7 HPT7 HVS HWS
            go_loopw [21] (fun i wr => ∃ k : Nat, k ≤ M.length ∧ i = .int .i64 k ∧ Hid (Below w8.heap.size w8 wr)) (fun i _ => M.length - (intOf i).toNat)
            case atStart => exact ⟨0, Nat.zero_le _, rfl, Lib.hid (Below.refl _ _)⟩
            case round =>
              obtain ⟨k, hk, rfl, HBR⟩ := hrel
              by_cases hlt : k < M.length
              · have hne : M ≠ [] := by intro h; rw [h] at hlt; simp at hlt
                obtain ⟨vb, vo, rfl, hvf⟩ := HLS.out.at hne
                obtain ⟨wb, wo, rfl, hwf⟩ := HMS.out.at hne
                obtain ⟨p0, p1⟩ := hvf k hlt
                obtain ⟨q0, q1⟩ := hwf k hlt
                replace p0 := keep HBR.out p0
                replace p1 := keep HBR.out p1
                replace q0 := keep HBR.out q0
                replace q1 := keep HBR.out q1
                obtain ⟨x, hx⟩ : ∃ x, x = M[k] := ⟨_, rfl⟩
                rw [← hx] at p0 p1 q0 q1
                have hpb := cell_lt p0
                have hqb := cell_lt q0
                clear hvf hwf hne hx
                have he := fun w => eqTw 9998 x w
                go_wp2_with fail
                refine wp_opaque fun Q2 hQ2 => ?_
                (refine wp_region_below (by kernel_rfl) (by kernel_rfl) ?_; (repeat (first | go_big_quiet_step (fail) | quiet_step (fail))); (refine wpQuiet_nil ?_; intro _ hw'; obtain ⟨xq, hw''⟩ := hw'; subst hw''))
                refine hQ2 _ _ _ ?_
                replace HBR := Lib.hid (bThen HBR.out xq.2)
                clear he
                generalize xq.val = W9 at HBR ⊢
                go_wp2_with fail
                go_roundw
                case rel => exact ⟨k + 1, by omega, by go_num, HBR⟩
                case measure => simp [intOf]; omega
              · obtain rfl : k = M.length := by omega
                go_wp2_with (go_at_call 15; refine (known_any _).mono ?_; rintro e wk ⟨rfl, hb⟩; have HBK := Lib.hid (bThen HB.out (bThen HBR.out hb)); clear hb)
                go_ret
                exact ⟨rfl, HBK.out⟩

end Go.Proofs.Ytfcopnlpcbbocaa
