/- The law of agreement, walked: for every system and every ask it answers true. -/
import Derived.Test.YtfcopnlpcbbocaaR14
import Derived.Deep.RegionHeld3
import Derived.Deep.Cut
set_option linter.unusedSimpArgs false
set_option linter.unusedVariables false
namespace Go.Proofs.Ytfcopnlpcbbocaa
open Go.RowKit

set_option maxRecDepth 100000 in
set_option maxHeartbeats 8000000 in
theorem agrees_any (S : Sys) (a : Ask) (vt vp vs : Value) (w : World) (hp : SysParts w vt vp vs S) :
    Calls Try.prog 5 #[sysVal S vt vp vs, a.val] w fun e w' => e = .returned (.bool true) ∧ Below w.heap.size w w' := by
  have HPS := Lib.hid hp
  obtain ⟨⟨at_, ct, rfl, -⟩, ⟨ap, cp, rfl, -⟩, ⟨as_, cs, rfl, -⟩⟩ := hp
  have HSV := Lib.hid (sysVal_eq S (.slice at_ S.terms.length ct) (.slice ap S.plurals.length cp) (.slice as_ S.sets.length cs))
  unfold sysVal Ask.val
  have h20 : ∀ (b : Ask) W', SysParts W' (.slice at_ S.terms.length ct) (.slice ap S.plurals.length cp) (.slice as_ S.sets.length cs) S → Calls Try.prog 20 #[.agg #[.int .i64 S.top, .int .i64 S.genders, .int .i64 S.cases, .int .i64 S.classes, .slice at_ S.terms.length ct, .slice ap S.plurals.length cp, .slice as_ S.sets.length cs], .agg #[.int .i64 b.num, .int .i64 b.set, .int .i64 b.gen, .int .i64 b.kas]] W' fun e w' => SpellPost S b e w' ∧ Below W'.heap.size W' w' := fun b W' h => Spell_any S b _ _ _ W' h
  have h21 : ∀ W', SysParts W' (.slice at_ S.terms.length ct) (.slice ap S.plurals.length cp) (.slice as_ S.sets.length cs) S → Calls Try.prog 21 #[.agg #[.int .i64 S.top, .int .i64 S.genders, .int .i64 S.cases, .int .i64 S.classes, .slice at_ S.terms.length ct, .slice ap S.plurals.length cp, .slice as_ S.sets.length cs], .agg #[.int .i64 a.num, .int .i64 a.set, .int .i64 a.gen, .int .i64 a.kas]] W' fun e w' => TracePost S a e w' ∧ Below W'.heap.size W' w' := fun W' h => Trace_any S a _ _ _ W' h
  have h22 : ∀ W', SysParts W' (.slice at_ S.terms.length ct) (.slice ap S.plurals.length cp) (.slice as_ S.sets.length cs) S → Calls Try.prog 22 #[.agg #[.int .i64 S.top, .int .i64 S.genders, .int .i64 S.cases, .int .i64 S.classes, .slice at_ S.terms.length ct, .slice ap S.plurals.length cp, .slice as_ S.sets.length cs], .agg #[.int .i64 a.num, .int .i64 a.set, .int .i64 a.gen, .int .i64 a.kas], .bool false] W' fun e w' => e = .returned (.int .i64 (refErr S a false)) ∧ Below W'.heap.size W' w' := fun W' h => refused_any S a false _ _ _ W' h
  have H20 := Lib.hid h20
  have H21 := Lib.hid h21
  have H22 := Lib.hid h22
  clear h20 h21 h22
  cases hok : askOk S a
  · have HOK := Lib.hid hok
    have HE : Hid (refErr S a false = 2) := Lib.hid (by rw [refErr, HOK.out]; simp)
    clear hok
    go_enter Try.func5, Try.ntmps5
    go_wp2_with fail
    generalize hW1 : World.alloc (World.alloc w _) _ = W1
    have hbn : Below w.heap.size w W1 := by rw [← hW1]; exact bAlloc (bAlloc (Below.refl _ _) _) _
    have s0 : W1.cell? ⟨w.heap.size, 0, none⟩ = some (.int .i64 S.top) := by rw [← hW1]; exact keep (bAlloc (Below.refl _ _) _) (cell_new rfl)
    have s1 : W1.cell? ⟨w.heap.size, 1, none⟩ = some (.int .i64 S.genders) := by rw [← hW1]; exact keep (bAlloc (Below.refl _ _) _) (cell_new rfl)
    have s2 : W1.cell? ⟨w.heap.size, 2, none⟩ = some (.int .i64 S.cases) := by rw [← hW1]; exact keep (bAlloc (Below.refl _ _) _) (cell_new rfl)
    have s3 : W1.cell? ⟨w.heap.size, 3, none⟩ = some (.int .i64 S.classes) := by rw [← hW1]; exact keep (bAlloc (Below.refl _ _) _) (cell_new rfl)
    have s4 : W1.cell? ⟨w.heap.size, 4, none⟩ = some (.slice at_ S.terms.length ct) := by rw [← hW1]; exact keep (bAlloc (Below.refl _ _) _) (cell_new rfl)
    have s5 : W1.cell? ⟨w.heap.size, 5, none⟩ = some (.slice ap S.plurals.length cp) := by rw [← hW1]; exact keep (bAlloc (Below.refl _ _) _) (cell_new rfl)
    have s6 : W1.cell? ⟨w.heap.size, 6, none⟩ = some (.slice as_ S.sets.length cs) := by rw [← hW1]; exact keep (bAlloc (Below.refl _ _) _) (cell_new rfl)
    have a0 : W1.cell? ⟨w.heap.size + 1, 0, none⟩ = some (.int .i64 a.num) := by rw [← hW1]; simp
    have a1 : W1.cell? ⟨w.heap.size + 1, 1, none⟩ = some (.int .i64 a.set) := by rw [← hW1]; simp
    have a2 : W1.cell? ⟨w.heap.size + 1, 2, none⟩ = some (.int .i64 a.gen) := by rw [← hW1]; simp
    have a3 : W1.cell? ⟨w.heap.size + 1, 3, none⟩ = some (.int .i64 a.kas) := by rw [← hW1]; simp
    have HB := Lib.hid hbn
    have HPn := Lib.hid (HPS.out.keep hbn)
    have hsl := cell_lt s0
    have hal := cell_lt a0
    clear hW1 hbn
    go_wp2_with (first
      | (go_at_call 14; rw [HSV.out]; refine (small_any S _ _ _ _ HPn.out).mono ?_; rintro e w1 ⟨⟨b, rfl⟩, hb⟩; replace s0 := keep hb s0; replace s1 := keep hb s1; replace s2 := keep hb s2; replace s3 := keep hb s3; replace s4 := keep hb s4; replace s5 := keep hb s5; replace s6 := keep hb s6; replace a0 := keep hb a0; replace a1 := keep hb a1; replace a2 := keep hb a2; replace a3 := keep hb a3; replace hsl := cell_lt s0; replace hal := cell_lt a0; replace HPn := Lib.hid (HPn.out.keep hb); replace HB := Lib.hid (bThen HB.out hb); clear hb; cases b)
      | (go_at_call 15; refine (known_any _).mono ?_; rintro e wk ⟨rfl, hb⟩; replace HB := Lib.hid (bThen HB.out hb); clear hb)
      | (go_at_call 22; refine (H22.out _ HPn.out).mono ?_; rintro e w1 ⟨rfl, hb⟩; rw [HE.out]; replace s0 := keep hb s0; replace s1 := keep hb s1; replace s2 := keep hb s2; replace s3 := keep hb s3; replace s4 := keep hb s4; replace s5 := keep hb s5; replace s6 := keep hb s6; replace a0 := keep hb a0; replace a1 := keep hb a1; replace a2 := keep hb a2; replace a3 := keep hb a3; replace hsl := cell_lt s0; replace hal := cell_lt a0; replace HPn := Lib.hid (HPn.out.keep hb); replace HB := Lib.hid (bThen HB.out hb); clear hb))
    all_goals
      go_ret
      exact ⟨rfl, HB.out⟩
  · have hR := askRight_of hok
    have HR := Lib.hid hR.1
    have HAR := Lib.hid hR.2
    have HOK := Lib.hid hok
    have HE : Hid (refErr S a false = 0) := Lib.hid (by rw [refErr, HOK.out]; simp)
    have HWO : Hid (∀ b, (items S a 0).all Prod.snd = b → saidOf S a = if b = true then some ((items S a 0).map Prod.fst) else none) := Lib.hid fun b h => by
      subst h; unfold saidOf; split <;> simp
    have HIT : Hid (items S a 0 = piecesFrom (pieceItems (itemsF a.num.toNat S) S a 0) (ruleOf S a).pieces 0) := Lib.hid (itemsF_succ a.num.toNat S a 0)
    have HFEW := Lib.hid (items_few hR.1 hR.2 0)
    clear hok hR
    cases hall : (items S a 0).all Prod.snd
    · have HALL := Lib.hid hall
      have HS0 : Hid (saidOf S a = none) := Lib.hid ((HWO.out false hall).trans rfl)
      clear hall
      go_enter Try.func5, Try.ntmps5
      go_wp2_with fail
      generalize hW1 : World.alloc (World.alloc w _) _ = W1
      have hbn : Below w.heap.size w W1 := by rw [← hW1]; exact bAlloc (bAlloc (Below.refl _ _) _) _
      have s0 : W1.cell? ⟨w.heap.size, 0, none⟩ = some (.int .i64 S.top) := by rw [← hW1]; exact keep (bAlloc (Below.refl _ _) _) (cell_new rfl)
      have s1 : W1.cell? ⟨w.heap.size, 1, none⟩ = some (.int .i64 S.genders) := by rw [← hW1]; exact keep (bAlloc (Below.refl _ _) _) (cell_new rfl)
      have s2 : W1.cell? ⟨w.heap.size, 2, none⟩ = some (.int .i64 S.cases) := by rw [← hW1]; exact keep (bAlloc (Below.refl _ _) _) (cell_new rfl)
      have s3 : W1.cell? ⟨w.heap.size, 3, none⟩ = some (.int .i64 S.classes) := by rw [← hW1]; exact keep (bAlloc (Below.refl _ _) _) (cell_new rfl)
      have s4 : W1.cell? ⟨w.heap.size, 4, none⟩ = some (.slice at_ S.terms.length ct) := by rw [← hW1]; exact keep (bAlloc (Below.refl _ _) _) (cell_new rfl)
      have s5 : W1.cell? ⟨w.heap.size, 5, none⟩ = some (.slice ap S.plurals.length cp) := by rw [← hW1]; exact keep (bAlloc (Below.refl _ _) _) (cell_new rfl)
      have s6 : W1.cell? ⟨w.heap.size, 6, none⟩ = some (.slice as_ S.sets.length cs) := by rw [← hW1]; exact keep (bAlloc (Below.refl _ _) _) (cell_new rfl)
      have a0 : W1.cell? ⟨w.heap.size + 1, 0, none⟩ = some (.int .i64 a.num) := by rw [← hW1]; simp
      have a1 : W1.cell? ⟨w.heap.size + 1, 1, none⟩ = some (.int .i64 a.set) := by rw [← hW1]; simp
      have a2 : W1.cell? ⟨w.heap.size + 1, 2, none⟩ = some (.int .i64 a.gen) := by rw [← hW1]; simp
      have a3 : W1.cell? ⟨w.heap.size + 1, 3, none⟩ = some (.int .i64 a.kas) := by rw [← hW1]; simp
      have HB := Lib.hid hbn
      have HPn := Lib.hid (HPS.out.keep hbn)
      have hsl := cell_lt s0
      have hal := cell_lt a0
      clear hW1 hbn
      go_wp2_with (first
        | (go_at_call 14; rw [HSV.out]; refine (small_any S _ _ _ _ HPn.out).mono ?_; rintro e w1 ⟨⟨b, rfl⟩, hb⟩; replace s0 := keep hb s0; replace s1 := keep hb s1; replace s2 := keep hb s2; replace s3 := keep hb s3; replace s4 := keep hb s4; replace s5 := keep hb s5; replace s6 := keep hb s6; replace a0 := keep hb a0; replace a1 := keep hb a1; replace a2 := keep hb a2; replace a3 := keep hb a3; replace hsl := cell_lt s0; replace hal := cell_lt a0; replace HPn := Lib.hid (HPn.out.keep hb); replace HB := Lib.hid (bThen HB.out hb); clear hb; cases b)
        | (go_at_call 15; refine (known_any _).mono ?_; rintro e wk ⟨rfl, hb⟩; replace HB := Lib.hid (bThen HB.out hb); clear hb)
        | (go_at_call 22; refine (H22.out _ HPn.out).mono ?_; rintro e w1 ⟨rfl, hb⟩; rw [HE.out]; replace s0 := keep hb s0; replace s1 := keep hb s1; replace s2 := keep hb s2; replace s3 := keep hb s3; replace s4 := keep hb s4; replace s5 := keep hb s5; replace s6 := keep hb s6; replace a0 := keep hb a0; replace a1 := keep hb a1; replace a2 := keep hb a2; replace a3 := keep hb a3; replace hsl := cell_lt s0; replace hal := cell_lt a0; replace HPn := Lib.hid (HPn.out.keep hb); replace HB := Lib.hid (bThen HB.out hb); clear hb)
        | (go_at_call 21; refine (H21.out _ HPn.out).mono ?_; rintro e w1 ⟨hq, hb⟩; obtain rfl := TracePost.none hq HOK.out HS0.out; replace s0 := keep hb s0; replace s1 := keep hb s1; replace s2 := keep hb s2; replace s3 := keep hb s3; replace s4 := keep hb s4; replace s5 := keep hb s5; replace s6 := keep hb s6; replace a0 := keep hb a0; replace a1 := keep hb a1; replace a2 := keep hb a2; replace a3 := keep hb a3; replace hsl := cell_lt s0; replace hal := cell_lt a0; replace HPn := Lib.hid (HPn.out.keep hb); replace HB := Lib.hid (bThen HB.out hb); clear hb hq))
      all_goals
        go_ret
        exact ⟨rfl, HB.out⟩
    · have HALL := Lib.hid hall
      have HS0 : Hid (saidOf S a = some ((items S a 0).map Prod.fst)) := Lib.hid ((HWO.out true hall).trans rfl)
      clear hall
      obtain ⟨l, hl1, hl2, hsr, hidx, hrule, hrr⟩ := rule_right HR.out HAR.out
      have HRR := Lib.hid hrr
      have hnum := HAR.out.num
      have htop := HAR.out.top
      obtain ⟨hset0, hset1⟩ := HAR.out.set
      obtain ⟨-, -, ⟨as', cs', hse, hl3', hx⟩⟩ := HPS.out
      obtain ⟨rfl, rfl⟩ : as_ = as' ∧ cs = cs' := by simpa using hse
      clear hse
      unfold most at hl3'
      have hat : a.set.toNat < S.sets.length := by omega
      rcases hx with hnil | ⟨xb, xo, rfl, hf⟩
      · simp [hnil] at hat
      obtain ⟨lv, c0, hlv⟩ := hf a.set.toNat hat
      rw [List.getElem?_eq_getElem hat] at hl1
      have hl1 := Option.some.inj hl1
      rw [hl1] at hlv
      simp only [Nat.mul_one] at c0
      obtain ⟨la, lc, rfl, hll, hly⟩ := id hlv
      unfold most at hll
      rcases hly with hnil | ⟨lb, lo, rfl, hlf⟩
      · simp [hnil] at hidx
      obtain ⟨r0, r1, rv, r2, hrv⟩ := hlf _ hidx
      have HX := Lib.hid (show (ruleIdx l a.num) = idxOf S a by rw [idxOf, hl2])
      rw [hrule hidx] at r0 r1 hrv
      have HLV := Lib.hid hlv
      have HRV := Lib.hid hrv
      obtain ⟨pa, pcap, rfl, hpl, hpx⟩ := hrv
      unfold most at hpl
      clear hf hlf hlv hrule hsr hl1 hl2 hrr
      have HNE : Hid (items S a 0 ≠ []) := Lib.hid (itemsF_ne HR.out (a.num.toNat + 1) a 0 HAR.out (by omega))
      have hln : (items S a 0).length ≤ 1000000 := HFEW.out
      have HPO : Hid (∀ p ∈ (ruleOf S a).pieces, pceOk S (ruleOf S a) p = true) := Lib.hid HRR.out.piece
      have hpl10 : (ruleOf S a).pieces.length ≤ 10 := HRR.out.few
      have HDV := Lib.hid HRR.out.div
      have HQL : Hid ((ruleOf S a).div ≠ 0 → 0 ≤ quo (ruleOf S a) a.num ∧ quo (ruleOf S a) a.num < a.num ∧ 0 ≤ rst (ruleOf S a) a.num ∧ rst (ruleOf S a) a.num < a.num) := Lib.hid fun h => by have := quo_lt HRR.out h; exact ⟨this.1, this.2.1, this.2.2.1, this.2.2.2.1⟩
      have HAQ : Hid (∀ p ∈ (ruleOf S a).pieces, p.kind = 3 → AskRight S ⟨quo (ruleOf S a) a.num, p.set, countedGen S (ruleOf S a).pieces a.gen, a.kas⟩) := Lib.hid fun p hp hk => (askQuo_right HR.out HAR.out hp hk).1
      have HAS : Hid (∀ p ∈ (ruleOf S a).pieces, p.kind = 4 → AskRight S ⟨rst (ruleOf S a) a.num, p.set, a.gen, a.kas⟩) := Lib.hid fun p hp hk => (askRst_right HR.out HAR.out hp hk).1
      have HF3 : Hid (∀ p j, p.kind = 3 → pieceItems (itemsF a.num.toNat S) S a 0 p j = itemsF a.num.toNat S ⟨quo (ruleOf S a) a.num, p.set, countedGen S (ruleOf S a).pieces a.gen, a.kas⟩ 1) := Lib.hid fun p j hk => by simp [pieceItems, hk, askQuo]
      have HF4 : Hid (∀ p j, p.kind = 4 → rst (ruleOf S a) a.num ≠ 0 → pieceItems (itemsF a.num.toNat S) S a 0 p j = itemsF a.num.toNat S ⟨rst (ruleOf S a) a.num, p.set, a.gen, a.kas⟩ 1) := Lib.hid fun p j hk h => by simp [pieceItems, hk, askRst, h]
      have HFO : Hid (∀ p j x, p.kind ≠ 3 → (p.kind = 4 → rst (ruleOf S a) a.num = 0) → x ∈ pieceItems (itemsF a.num.toNat S) S a 0 p j → x.2 = true → x.1.depth = 0 ∧ x.1.piece = j) := Lib.hid fun p j x h3 h4 hx h2 => by
        exact pieceItems_own h3 h4 hx h2
      have HLN : Hid (∀ j x, x ∈ piecesFrom (pieceItems (itemsF a.num.toNat S) S a 0) ((ruleOf S a).pieces.drop (j + 1)) (j + 1) → x.2 = true → ¬ (x.1.depth = 0 ∧ x.1.piece = j)) := Lib.hid fun j x hx h2 => later_ne hx h2
      have HDZ0 : Hid (∀ p ∈ (ruleOf S a).pieces, p.kind ≠ 1 → (ruleOf S a).div ≠ 0) := Lib.hid fun p hp hk => pce_div (HRR.out.piece p hp) hk
      have HTM : Hid ((ruleOf S a).div ≠ 0 → a.num.tmod (ruleOf S a).div = rst (ruleOf S a) a.num) := Lib.hid fun h => by rw [rst, if_neg h]; exact Int.tmod_eq_emod_of_nonneg hnum
      have HTD : Hid ((ruleOf S a).div ≠ 0 → a.num.tdiv (ruleOf S a).div = quo (ruleOf S a) a.num) := Lib.hid fun h => by rw [quo, if_neg h]; exact Int.tdiv_eq_ediv_of_nonneg hnum
      generalize pieceItems (itemsF a.num.toNat S) S a 0 = f at *
      generalize items S a 0 = L at *
      generalize (ruleOf S a).pieces = pcs at *
      generalize quo (ruleOf S a) a.num = qv at *
      generalize rst (ruleOf S a) a.num = sv at *
      generalize (ruleOf S a).div = dv at *
      go_enter Try.func5, Try.ntmps5
      go_wp2_with fail
      generalize hW1 : World.alloc (World.alloc w _) _ = W1
      have hbn : Below w.heap.size w W1 := by rw [← hW1]; exact bAlloc (bAlloc (Below.refl _ _) _) _
      have s0 : W1.cell? ⟨w.heap.size, 0, none⟩ = some (.int .i64 S.top) := by rw [← hW1]; exact keep (bAlloc (Below.refl _ _) _) (cell_new rfl)
      have s1 : W1.cell? ⟨w.heap.size, 1, none⟩ = some (.int .i64 S.genders) := by rw [← hW1]; exact keep (bAlloc (Below.refl _ _) _) (cell_new rfl)
      have s2 : W1.cell? ⟨w.heap.size, 2, none⟩ = some (.int .i64 S.cases) := by rw [← hW1]; exact keep (bAlloc (Below.refl _ _) _) (cell_new rfl)
      have s3 : W1.cell? ⟨w.heap.size, 3, none⟩ = some (.int .i64 S.classes) := by rw [← hW1]; exact keep (bAlloc (Below.refl _ _) _) (cell_new rfl)
      have s4 : W1.cell? ⟨w.heap.size, 4, none⟩ = some (.slice at_ S.terms.length ct) := by rw [← hW1]; exact keep (bAlloc (Below.refl _ _) _) (cell_new rfl)
      have s5 : W1.cell? ⟨w.heap.size, 5, none⟩ = some (.slice ap S.plurals.length cp) := by rw [← hW1]; exact keep (bAlloc (Below.refl _ _) _) (cell_new rfl)
      have s6 : W1.cell? ⟨w.heap.size, 6, none⟩ = some (.slice (some ⟨xb, xo, none⟩) S.sets.length cs) := by rw [← hW1]; exact keep (bAlloc (Below.refl _ _) _) (cell_new rfl)
      have a0 : W1.cell? ⟨w.heap.size + 1, 0, none⟩ = some (.int .i64 a.num) := by rw [← hW1]; simp
      have a1 : W1.cell? ⟨w.heap.size + 1, 1, none⟩ = some (.int .i64 a.set) := by rw [← hW1]; simp
      have a2 : W1.cell? ⟨w.heap.size + 1, 2, none⟩ = some (.int .i64 a.gen) := by rw [← hW1]; simp
      have a3 : W1.cell? ⟨w.heap.size + 1, 3, none⟩ = some (.int .i64 a.kas) := by rw [← hW1]; simp
      have HB := Lib.hid hbn
      have HPn := Lib.hid (HPS.out.keep hbn)
      have hsl := cell_lt s0
      have hal := cell_lt a0
      replace c0 := keep hbn c0
      replace r0 := keep hbn r0
      replace r1 := keep hbn r1
      replace r2 := keep hbn r2
      clear hW1 hbn
      go_upto_region 6 with (first
        | (go_at_call 14; rw [HSV.out]; refine (small_any S _ _ _ _ HPn.out).mono ?_; rintro e w1 ⟨⟨b, rfl⟩, hb⟩; replace s0 := keep hb s0; replace s1 := keep hb s1; replace s2 := keep hb s2; replace s3 := keep hb s3; replace s4 := keep hb s4; replace s5 := keep hb s5; replace s6 := keep hb s6; replace a0 := keep hb a0; replace a1 := keep hb a1; replace a2 := keep hb a2; replace a3 := keep hb a3; replace hsl := cell_lt s0; replace hal := cell_lt a0; replace HPn := Lib.hid (HPn.out.keep hb); replace HB := Lib.hid (bThen HB.out hb); replace c0 := keep hb c0; replace r0 := keep hb r0; replace r1 := keep hb r1; replace r2 := keep hb r2; clear hb; cases b)
        | (go_at_call 15; refine (known_any _).mono ?_; rintro e wk ⟨rfl, hb⟩; replace HB := Lib.hid (bThen HB.out hb); clear hb)
        | (go_at_call 22; refine (H22.out _ HPn.out).mono ?_; rintro e w1 ⟨rfl, hb⟩; rw [HE.out]; replace s0 := keep hb s0; replace s1 := keep hb s1; replace s2 := keep hb s2; replace s3 := keep hb s3; replace s4 := keep hb s4; replace s5 := keep hb s5; replace s6 := keep hb s6; replace a0 := keep hb a0; replace a1 := keep hb a1; replace a2 := keep hb a2; replace a3 := keep hb a3; replace hsl := cell_lt s0; replace hal := cell_lt a0; replace HPn := Lib.hid (HPn.out.keep hb); replace HB := Lib.hid (bThen HB.out hb); replace c0 := keep hb c0; replace r0 := keep hb r0; replace r1 := keep hb r1; replace r2 := keep hb r2; clear hb)
        | (go_at_call 21; refine (H21.out _ HPn.out).mono ?_; rintro e w1 ⟨hq, hb⟩; obtain ⟨ad2, cc2, rfl, HT1⟩ := TracePost.some hq HOK.out HS0.out; rw [List.length_map]; replace s0 := keep hb s0; replace s1 := keep hb s1; replace s2 := keep hb s2; replace s3 := keep hb s3; replace s4 := keep hb s4; replace s5 := keep hb s5; replace s6 := keep hb s6; replace a0 := keep hb a0; replace a1 := keep hb a1; replace a2 := keep hb a2; replace a3 := keep hb a3; replace hsl := cell_lt s0; replace hal := cell_lt a0; replace HPn := Lib.hid (HPn.out.keep hb); replace HB := Lib.hid (bThen HB.out hb); replace c0 := keep hb c0; replace r0 := keep hb r0; replace r1 := keep hb r1; replace r2 := keep hb r2; clear hb hq))
      any_goals first
        | (go_ret; exact ⟨rfl, HB.out⟩)
        | skip
      have hxb := cell_lt c0
      have hlb := cell_lt r0
      have hixl : (idxOf S a : Int) < l.length := by omega
      have HLVc := Lib.hid (HLV.out.keep RulAt.stable HB.out)
      have s6' := s6
      have HBw := Lib.hid (Below.refl w1.heap.size w1)
      go_cut [7] from 39 (fun p wc => ∃ rb : Nat, p = .pointer (some ⟨rb, 0, none⟩) ∧ wc.cell? ⟨rb, 1, none⟩ = some (.int .i64 dv) ∧ wc.cell? ⟨rb, 2, none⟩ = some (.slice pa pcs.length pcap) ∧ Below w1.heap.size w1 wc)
      case first =>
        go_region_held3 (fun w' => w'.cell? ⟨w.heap.size, 6, none⟩ = some (.slice (some ⟨xb, xo, none⟩) S.sets.length cs) ∧ w'.cell? ⟨w.heap.size + 1, 0, none⟩ = some (.int .i64 a.num) ∧ w'.cell? ⟨w.heap.size + 1, 1, none⟩ = some (.int .i64 a.set) ∧ w'.cell? ⟨xb, xo + a.set.toNat, none⟩ = some (.slice (some ⟨lb, lo, none⟩) l.length lc) ∧ w'.cell? ⟨lb, lo + idxOf S a * 3, none⟩ = some (.int .i64 (ruleOf S a).base) ∧ w'.cell? ⟨lb, lo + idxOf S a * 3 + 1, none⟩ = some (.int .i64 dv) ∧ w'.cell? ⟨lb, lo + idxOf S a * 3 + 2, none⟩ = some (.slice pa pcs.length pcap)) (go_keep) (first | (go_at_call 26; refine (Index_any l a.num _ _ (by exact HLVc.out.keep RulAt.stable (by repeat (first | exact Below.refl _ _ | refine Below.drew ?_ | refine bAlloc ?_ _)))).mono ?_; rintro e w' ⟨rfl, rfl⟩; rw [HX.out]))
        all_goals
          go_wp2_with fail
          go_meet
          case rel => exact ⟨_, rfl, by simp, by simp, (bAlloc (Below.refl _ _) _).drew⟩
      case rest =>
        obtain ⟨rb, rfl, q1, q2, hb⟩ := hcut
        clear HBw s6' r0 r1 r2 c0 HLVc
        replace s0 := keep hb s0
        replace s1 := keep hb s1
        replace s2 := keep hb s2
        replace s3 := keep hb s3
        replace s4 := keep hb s4
        replace s5 := keep hb s5
        replace s6 := keep hb s6
        replace a0 := keep hb a0
        replace a1 := keep hb a1
        replace a2 := keep hb a2
        replace a3 := keep hb a3
        replace hsl := cell_lt s0
        replace hal := cell_lt a0
        replace HPn := Lib.hid (HPn.out.keep hb)
        replace HB := Lib.hid (bThen HB.out hb)
        replace HT1 := Lib.hid (HT1.out.keep SaidAt.stable hb)
        clear hb hxb hlb
        obtain ⟨tb, to, rfl, -⟩ := HT1.out.at (by intro h; exact HNE.out (List.map_eq_nil_iff.1 h))
        have hrbl := cell_lt q1
        go_wp2_with fail
        go_loopw [8, 9] (fun v i wr => ∃ j : Nat, j ≤ pcs.length ∧ i = .int .i64 j ∧ v = .int .i64 ((saidTo f pcs j).length : Int) ∧ Hid (Below wc.heap.size wc wr)) (fun _ i _ => pcs.length - (intOf i).toNat)
        case atStart => exact ⟨0, Nat.zero_le _, rfl, by simp [saidTo_zero], Lib.hid (Below.refl _ _)⟩
        case round =>
          obtain ⟨j, hj, rfl, rfl, HBr⟩ := hrel
          obtain ⟨wo, hwo⟩ : ∃ wo : World, wo = wr := ⟨_, rfl⟩
          subst hwo
          have hb := HBr.out
          replace s0 := keep hb s0
          replace s1 := keep hb s1
          replace s2 := keep hb s2
          replace s3 := keep hb s3
          replace s4 := keep hb s4
          replace s5 := keep hb s5
          replace s6 := keep hb s6
          replace a0 := keep hb a0
          replace a1 := keep hb a1
          replace a2 := keep hb a2
          replace a3 := keep hb a3
          replace q1 := keep hb q1
          replace q2 := keep hb q2
          replace HT1 := Lib.hid (HT1.out.keep SaidAt.stable hb)
          replace HPn := Lib.hid (HPn.out.keep hb)
          replace HB := Lib.hid (bThen HB.out hb)
          have hsl := cell_lt s0
          have hal := cell_lt a0
          have hrbl := cell_lt q1
          clear hb
          by_cases hlt : j < pcs.length
          · rcases hpx with hnil | ⟨pb, po, rfl, hpp⟩
            · simp [hnil] at hlt
            obtain ⟨z0, z1, z2, z3⟩ := hpp j hlt
            replace z0 := keep HB.out z0
            replace z1 := keep HB.out z1
            replace z2 := keep HB.out z2
            replace z3 := keep HB.out z3
            have hpb := cell_lt z0
            have hok := HPO.out _ (List.getElem_mem hlt)
            have hkind := pce_kind hok
            have hmem := List.getElem_mem hlt
            have H3 := Lib.hid (HIT.out.trans (said_three f pcs j hlt))
            have HSS := Lib.hid (saidTo_succ f pcs j hlt)
            obtain ⟨pc, hpc⟩ : ∃ pc, pc = pcs[j] := ⟨_, rfl⟩
            rw [← hpc] at z0 z1 z2 z3 hok hkind hmem H3 HSS
            have HOK2 := Lib.hid hok
            have HMEM := Lib.hid hmem
            have HPC := Lib.hid hpc
            clear hpp hpc hok hmem
            have HM3 := Lib.hid (in_mid H3.out HALL.out)
            have HML := Lib.hid (in_late H3.out HALL.out)
            have hlm := len_mid H3.out
            have HLNj := Lib.hid (HLN.out j)
            have hne2 : w.heap.size ≠ wo.heap.size + 1 := by omega
            have hal0 := hal
            have hrb0 := hrbl
            have Xs0 := Lib.hid s0
            have Xs1 := Lib.hid s1
            have Xs2 := Lib.hid s2
            have Xs3 := Lib.hid s3
            have Xs4 := Lib.hid s4
            have Xs5 := Lib.hid s5
            have Xs6 := Lib.hid s6
            have Xa0 := Lib.hid a0
            have Xa1 := Lib.hid a1
            have Xa2 := Lib.hid a2
            have Xa3 := Lib.hid a3
            have Xq1 := Lib.hid q1
            have Xq2 := Lib.hid q2
            go_upto_region 14 with fail
            generalize hW3 : World.alloc (World.alloc wo _) _ = W3
            have hb : Below wo.heap.size wo W3 := by rw [← hW3]; exact bAlloc (bAlloc (Below.refl _ _) _) _
            have p0 : W3.cell? ⟨wo.heap.size, 0, none⟩ = some (.int .i64 pc.kind) := by rw [← hW3]; exact keep (bAlloc (Below.refl _ _) _) (cell_new rfl)
            have b0 : W3.cell? ⟨wo.heap.size + 1, 0, none⟩ = some (.int .i64 (-1)) := by rw [← hW3]; simp
            have b1 : W3.cell? ⟨wo.heap.size + 1, 1, none⟩ = some (.int .i64 pc.set) := by rw [← hW3]; simp
            have b2 : W3.cell? ⟨wo.heap.size + 1, 2, none⟩ = some (.int .i64 a.gen) := by rw [← hW3]; simp
            have b3 : W3.cell? ⟨wo.heap.size + 1, 3, none⟩ = some (.int .i64 a.kas) := by rw [← hW3]; simp
            have bf : ∀ j, W3.frozen? ⟨wo.heap.size + 1, j, none⟩ = false := by intro j; rw [← hW3]; simp
            replace s0 := keep hb s0
            replace s1 := keep hb s1
            replace s2 := keep hb s2
            replace s3 := keep hb s3
            replace s4 := keep hb s4
            replace s5 := keep hb s5
            replace s6 := keep hb s6
            replace a0 := keep hb a0
            replace a1 := keep hb a1
            replace a2 := keep hb a2
            replace a3 := keep hb a3
            replace q1 := keep hb q1
            replace q2 := keep hb q2
            have HPr := HPn
            have HTr := HT1
            replace HPn := Lib.hid (HPn.out.keep hb)
            replace HT1 := Lib.hid (HT1.out.keep SaidAt.stable hb)
            have HBx := Lib.hid hb
            clear hW3 z0 z1 z2 z3 hb hpb
            have hpl0 := cell_lt p0
            have hbl := cell_lt b0
            replace hsl := cell_lt s0
            replace hal := cell_lt a0
            replace hrbl := cell_lt q1
            have hwr : wo.heap.size + 1 < W3.heap.size := hbl
            have HDZ : Hid (pc.kind = 3 ∨ pc.kind = 4 → dv ≠ 0) := Lib.hid fun h => HDZ0.out pc HMEM.out (by omega)
            obtain ⟨kind, term, set, below⟩ := pc
            simp only at hkind p0 b1 HDZ
            by_cases hk3 : kind = 3
            · obtain rfl := hk3
              have hdv : dv ≠ 0 := HDZ.out (by simp)
              obtain ⟨hq0, hq1, -, -⟩ := HQL.out hdv
              have hzz : (dv == 0) = false := by simp [hdv]
              have e1 : a.num.tdiv dv = qv := HTD.out hdv
              have w1' : IntKind.i64.wrap qv = qv := IntWalk.i64_in _ (by omega)
              have hqn : ¬ (qv < 0) := by omega
              have hbR : AskRight S ⟨qv, set, countedGen S pcs a.gen, a.kas⟩ := HAQ.out _ HMEM.out rfl
              have HOKB := Lib.hid (askOk_mk HOK.out hbR (by simp only; omega))
              obtain ⟨BL, hBL⟩ : ∃ BL, BL = itemsF a.num.toNat S ⟨qv, set, countedGen S pcs a.gen, a.kas⟩ 1 := ⟨_, rfl⟩
              have HFB : Hid (f ⟨3, term, set, below⟩ j = BL) := Lib.hid (by rw [hBL]; exact HF3.out _ j rfl)
              have hallB : BL.all Prod.snd = true := by have := all_mid H3.out HALL.out; rw [HFB.out] at this; exact this
              have HWB : Hid (wordsOf S ⟨qv, set, countedGen S pcs a.gen, a.kas⟩ = some (BL.map fun x => x.1.txt)) := Lib.hid (by rw [hBL] at hallB ⊢; exact inner_words HR.out hbR (by simp only; omega) 1 hallB)
              have hneB : BL ≠ [] := by rw [hBL]; exact itemsF_ne HR.out _ _ _ hbR (by simp only; omega)
              have HNEB := Lib.hid (show (BL.map fun x => x.1.txt) ≠ [] by intro h; exact hneB (List.map_eq_nil_iff.1 h))
              have HDB : Hid (∀ k (h : k < BL.length), 1 ≤ BL[k].1.depth) := Lib.hid fun k h => by
                have hm : BL[k] ∈ itemsF a.num.toNat S ⟨qv, set, countedGen S pcs a.gen, a.kas⟩ 1 := by rw [← hBL]; exact List.getElem_mem h
                exact items_depth _ _ _ _ hm (List.all_eq_true.1 hallB _ (List.getElem_mem h))
              have hlB : (saidTo f pcs j).length + BL.length ≤ L.length := by rw [HFB.out] at hlm; exact hlm
              have HMB : Hid (∀ k (hk : k < BL.length), ∃ hm : (saidTo f pcs j).length + k < L.length, L[(saidTo f pcs j).length + k] = BL[k]) := Lib.hid fun k hk => at_mid (by have := H3.out; rw [HFB.out] at this; exact this) k hk
              have hwB : IntKind.i64.wrap (((saidTo f pcs j).length : Int) + (BL.length : Int)) = ((saidTo f pcs j).length : Int) + (BL.length : Int) := IntWalk.i64_in _ (by omega)
              have hgtB : ¬ ((L.length : Int) < ((saidTo f pcs j).length : Int) + (BL.length : Int)) := by omega
              clear hbR hBL hallB hneB

              go_wp2_with fail
              generalize hW5 : World.setCell W3 _ _ = W5
              have HBl : Hid (Below wo.heap.size wo W5) := Lib.hid (by rw [← hW5]; exact HBx.out.setCell (p := ⟨wo.heap.size + 1, 0, none⟩) (by simp) _)
              have HCl : Hid (W5.cell? ⟨wo.heap.size + 1, 0, none⟩ = some (.int .i64 qv) ∧ W5.cell? ⟨wo.heap.size + 1, 1, none⟩ = some (.int .i64 set) ∧ W5.cell? ⟨wo.heap.size + 1, 2, none⟩ = some (.int .i64 a.gen) ∧ W5.cell? ⟨wo.heap.size + 1, 3, none⟩ = some (.int .i64 a.kas) ∧ W5.cell? ⟨wo.heap.size, 0, none⟩ = some (.int .i64 3) ∧ ∀ j, W5.frozen? ⟨wo.heap.size + 1, j, none⟩ = false) := Lib.hid (by
                rw [← hW5]
                exact ⟨World.cell?_setCell_same _ _ _ b0, (World.cell?_setCell_other _ _ _ _ (by simp)).trans b1, (World.cell?_setCell_other _ _ _ _ (by simp)).trans b2, (World.cell?_setCell_other _ _ _ _ (by simp)).trans b3, (cell_other (by omega) _).trans p0, fun j => by first | exact bf j | simp [bf]⟩)
              clear hW5 b0 b1 b2 b3 bf p0 s0 s1 s2 s3 s4 s5 s6 a0 a1 a2 a3 q1 q2 hpl0 hbl hsl hal hrbl hwr
              go_loopw [12] (fun v wx => ∃ m : Nat, m ≤ pcs.length ∧ v = .int .i64 ((m : Int) - 1) ∧ Hid (Below wo.heap.size wo wx) ∧ Hid (wx.cell? ⟨wo.heap.size + 1, 0, none⟩ = some (.int .i64 qv) ∧ wx.cell? ⟨wo.heap.size + 1, 1, none⟩ = some (.int .i64 set) ∧ wx.cell? ⟨wo.heap.size + 1, 2, none⟩ = some (.int .i64 (countedGen S (pcs.drop m) a.gen)) ∧ wx.cell? ⟨wo.heap.size + 1, 3, none⟩ = some (.int .i64 a.kas) ∧ wx.cell? ⟨wo.heap.size, 0, none⟩ = some (.int .i64 3) ∧ ∀ j, wx.frozen? ⟨wo.heap.size + 1, j, none⟩ = false)) (fun v _ => (intOf v + 1).toNat)
              case atStart => exact ⟨pcs.length, Nat.le_refl _, by first | rfl | go_num, HBl, by rw [List.drop_length]; exact HCl⟩
              case round =>
                obtain ⟨m, hm, hv, HBl, HCl⟩ := hrel
                obtain ⟨b0, b1, b2, b3, p0, bf⟩ := HCl.out
                have s0 := keep HBl.out Xs0.out
                have s1 := keep HBl.out Xs1.out
                have s2 := keep HBl.out Xs2.out
                have s3 := keep HBl.out Xs3.out
                have s4 := keep HBl.out Xs4.out
                have s5 := keep HBl.out Xs5.out
                have s6 := keep HBl.out Xs6.out
                have a0 := keep HBl.out Xa0.out
                have a1 := keep HBl.out Xa1.out
                have a2 := keep HBl.out Xa2.out
                have a3 := keep HBl.out Xa3.out
                have q1 := keep HBl.out Xq1.out
                have q2 := keep HBl.out Xq2.out
                have hbl := cell_lt b0
                have hpl0 := cell_lt p0
                have hsl := cell_lt s0
                have hal := cell_lt a0
                have hrbl := cell_lt q1
                rcases m with _ | i
                · obtain rfl := hv.trans (show _ = Value.int .i64 (-1) from rfl)
                  rw [List.drop_zero] at b2
                  clear bf
                  go_wp2_with (go_at_call 20; refine (H20.out ⟨qv, set, countedGen S pcs a.gen, a.kas⟩ _ (by exact HPr.out.keep HBl.out)).mono ?_; rintro e w6 ⟨hq, hb6⟩; obtain ⟨ad5, cc5, rfl, HI5⟩ := SpellPost.some hq HOKB.out HWB.out; rw [List.length_map]; have hbx := bThen HBl.out hb6; have HT6 := Lib.hid (HTr.out.keep SaidAt.stable hbx); have HBy := Lib.hid hbx; clear hq hb6 hbx)
                  obtain ⟨xb5, xo5, rfl, -⟩ := HI5.out.at HNEB.out
                  go_loopw [15] (fun v wx => ∃ k : Nat, k ≤ BL.length ∧ v = .int .i64 k ∧ Hid (Below wo.heap.size wo wx) ∧ Hid (SliceV wx (.slice (some ⟨tb, to, none⟩) (L.map Prod.fst).length cc2) 6 SaidAt (L.map Prod.fst)) ∧ Hid (SliceV wx (.slice (some ⟨xb5, xo5, none⟩) (BL.map fun x => x.1.txt).length cc5) 1 StrAt (BL.map fun x => x.1.txt))) (fun v _ => BL.length - (intOf v).toNat)
                  case atStart => exact ⟨0, Nat.zero_le _, rfl, HBy, HT6, HI5⟩
                  case round =>
                    obtain ⟨k, hk, rfl, HBy, HT6, HI5⟩ := hrel
                    by_cases hlk : k < BL.length
                    · have hc : ∃ tx dd, 1 ≤ dd ∧ wr.cell? ⟨tb, to + ((saidTo f pcs j).length + k) * 6, none⟩ = some (.string tx) ∧ wr.cell? ⟨tb, to + ((saidTo f pcs j).length + k) * 6 + 5, none⟩ = some (.int .i64 dd) ∧ wr.cell? ⟨xb5, xo5 + k, none⟩ = some (.string tx) := by
                        obtain ⟨hm, he⟩ := HMB.out k hlk
                        obtain ⟨c0, -, -, -, -, c5⟩ := said_at HT6.out _ hm
                        obtain ⟨xb', xo', hx', hfx⟩ := HI5.out.at HNEB.out
                        obtain ⟨rfl, rfl⟩ : xb5 = xb' ∧ xo5 = xo' := by simpa using hx'
                        have x0 : _ = _ := hfx k (by rw [List.length_map]; exact hlk)
                        rw [he] at c0 c5
                        simp only [Nat.mul_one, List.getElem_map] at x0
                        exact ⟨_, _, HDB.out k hlk, c0, c5, x0⟩
                      obtain ⟨tx, dd, hdd, c0, c5, x0⟩ := hc
                      obtain ⟨q, hqq⟩ : ∃ q, q = (saidTo f pcs j).length + k := ⟨_, rfl⟩
                      have hw2 : IntKind.i64.wrap (((saidTo f pcs j).length : Int) + (k : Int)) = (q : Int) := by rw [hqq, IntWalk.i64_in _ (by omega)]; omega
                      have hqL : (q : Int) < (L.length : Int) := by omega
                      rw [← hqq] at c0 c5
                      have hcl := cell_lt c0
                      have hxl := cell_lt x0
                      have h1 : (tx.toList == tx.toList) = true := by simp
                      have hd1 : ¬ (dd < 1) := by omega
                      clear hqq
                      go_wp2_with fail
                      refine wp_opaque fun Q2 hQ2 => ?_
                      (refine wp_region_below (by kernel_rfl) (by kernel_rfl) ?_; (repeat (first | go_big_quiet_step (fail) | quiet_step (fail))); (refine wpQuiet_nil ?_; intro _ hw'; obtain ⟨xq, hw''⟩ := hw'; subst hw''))
                      refine hQ2 _ _ _ ?_
                      have hb := xq.2
                      replace HBy := Lib.hid (bThen HBy.out hb)
                      replace HT6 := Lib.hid (HT6.out.keep SaidAt.stable hb)
                      replace HI5 := Lib.hid (HI5.out.keep StrAt.stable hb)
                      clear hb hw2
                      generalize xq.val = W8 at *
                      go_wp2_with fail
                      go_roundw
                      case rel => exact ⟨k + 1, by omega, by go_num, HBy, HT6, HI5⟩
                      case measure => simp [intOf]; omega
                    · obtain rfl : k = BL.length := by omega
                      go_wp2_with fail
                      go_roundw
                      case rel => exact ⟨j + 1, by omega, by go_num, by rw [HSS.out, List.length_append, HFB.out]; go_num, Lib.hid (HBr.out.trans (HBy.out.mono HBr.out.size))⟩
                      case measure => simp [intOf]; omega
                · have hv2 : ((i + 1 : Nat) : Int) - 1 = (i : Int) := by omega
                  rw [hv2] at hv
                  obtain rfl := hv
                  have hil : i < pcs.length := by omega
                  have hilz : (i : Int) < (pcs.length : Int) := by omega
                  obtain ⟨_, _, hpe, -, hpf⟩ := HRV.out
                  rcases hpf with hnil | ⟨pb', po', hpa, hpf⟩
                  · rw [hnil] at hil; simp at hil
                  obtain ⟨rfl, rfl⟩ : pb = pb' ∧ po = po' := by simp at hpe; have := hpe.1.trans hpa; simpa using this
                  obtain ⟨z0, z1, -, -⟩ := hpf i hil
                  replace z0 := keep (bThen HB.out HBl.out) z0
                  replace z1 := keep (bThen HB.out HBl.out) z1
                  have hzl := cell_lt z0
                  have HCD := Lib.hid (countedGen_drop S pcs a.gen i hil)
                  have HCH := Lib.hid (countedGen_hit S pcs a.gen i hil)
                  have hokp := HPO.out _ (List.getElem_mem hil)
                  clear hpf hpe hpa hv2
                  obtain ⟨pi, hpi⟩ : ∃ pi, pi = pcs[i] := ⟨_, rfl⟩
                  rw [← hpi] at z0 z1 HCD HCH hokp
                  clear hpi
                  by_cases hk2 : pi.kind = 2
                  · have hkk : (pi.kind == 2) = true := by simp [hk2]
                    obtain ⟨ht0, ht1⟩ := pce_term hokp (by simp [hk2])
                    have HG := Lib.hid (HCH.out hk2)
                    have hat2 : pi.term.toNat < S.terms.length := by omega
                    have hneT : S.terms ≠ [] := by intro h; rw [h] at hat2; simp at hat2
                    obtain ⟨tb2, to2, rfl, hft⟩ := (HPr.out.1.keep TermAt.stable HBl.out).at hneT
                    obtain ⟨t0, -⟩ := hft pi.term.toNat hat2
                    have et : S.terms[pi.term.toNat] = termOf S pi.term := by simp [termOf, List.getElem?_eq_getElem hat2]
                    rw [et] at t0
                    have htl := cell_lt t0
                    have hneq : wo.heap.size + 1 ≠ tb2 := by
                      obtain ⟨tb3, to3, h3, hft3⟩ := HPr.out.1.at hneT
                      obtain ⟨rfl, rfl⟩ : tb2 = tb3 ∧ to2 = to3 := by simpa using h3
                      have := cell_lt (hft3 pi.term.toNat hat2).1
                      omega
                    clear hft et hneT hk2 hokp HCD HCH
                    go_wp2_with fail
                    refine wp_opaque fun Q2 hQ2 => ?_
                    go_still_tail 12, (by kernel_rfl)
                    change wpList _ _ _ _ _ (World.drew _)
                    generalize hw2 : World.drew _ = W7
                    have hb7 : Below wr.heap.size wr W7 := by rw [← hw2]; exact (Below.refl _ _).drew
                    replace bf : ∀ j, W7.frozen? ⟨wo.heap.size + 1, j, none⟩ = false := by intro j; rw [← hw2]; exact bf j
                    replace b0 := keep hb7 b0
                    replace b1 := keep hb7 b1
                    replace b2 := keep hb7 b2
                    replace b3 := keep hb7 b3
                    replace p0 := keep hb7 p0
                    have hbl := cell_lt b0
                    replace HBl := Lib.hid (bThen HBl.out hb7)
                    clear hw2 hb7 t0 htl
                    go_wp2_with fail
                    go_roundw
                    case rel => exact ⟨i, by omega, by go_num, Lib.hid (HBl.out.setCell (p := ⟨wo.heap.size + 1, 2, none⟩) (by simp) _), Lib.hid ⟨(World.cell?_setCell_other _ _ _ _ (by simp)).trans b0, (World.cell?_setCell_other _ _ _ _ (by simp)).trans b1, (World.cell?_setCell_same _ _ _ b2).trans (by rw [HG.out]), (World.cell?_setCell_other _ _ _ _ (by simp)).trans b3, (cell_other (by omega) _).trans p0, fun j => by first | exact bf j | simp [bf]⟩⟩
                    case measure => simp [intOf] <;> omega
                  · have hkk : (pi.kind == 2) = false := by simp [hk2]
                    have HG := Lib.hid (HCD.out hk2)
                    clear hk2 hokp HCD HCH
                    go_wp2_with fail
                    go_roundw
                    case rel => exact ⟨i, by omega, by go_num, HBl, Lib.hid ⟨b0, b1, b2.trans (by rw [HG.out]), b3, p0, bf⟩⟩
                    case measure => simp [intOf] <;> omega
            by_cases hk4 : kind = 4 ∧ sv ≠ 0
            · obtain ⟨rfl, hs0⟩ := hk4
              have hdv : dv ≠ 0 := HDZ.out (by simp)
              obtain ⟨-, -, hsv0, hsv1⟩ := HQL.out hdv
              have hzz : (dv == 0) = false := by simp [hdv]
              have e2 : a.num.tmod dv = sv := HTM.out hdv
              have w2' : IntKind.i64.wrap sv = sv := IntWalk.i64_in _ (by omega)
              have hsp : 0 < sv := by omega
              have hsn : ¬ (sv < 0) := by omega
              have hbR : AskRight S ⟨sv, set, a.gen, a.kas⟩ := HAS.out _ HMEM.out rfl
              have HOKB := Lib.hid (askOk_mk HOK.out hbR (by simp only; omega))
              obtain ⟨BL, hBL⟩ : ∃ BL, BL = itemsF a.num.toNat S ⟨sv, set, a.gen, a.kas⟩ 1 := ⟨_, rfl⟩
              have HFB : Hid (f ⟨4, term, set, below⟩ j = BL) := Lib.hid (by rw [hBL]; exact HF4.out _ j rfl hs0)
              have hallB : BL.all Prod.snd = true := by have := all_mid H3.out HALL.out; rw [HFB.out] at this; exact this
              have HWB : Hid (wordsOf S ⟨sv, set, a.gen, a.kas⟩ = some (BL.map fun x => x.1.txt)) := Lib.hid (by rw [hBL] at hallB ⊢; exact inner_words HR.out hbR (by simp only; omega) 1 hallB)
              have hneB : BL ≠ [] := by rw [hBL]; exact itemsF_ne HR.out _ _ _ hbR (by simp only; omega)
              have HNEB := Lib.hid (show (BL.map fun x => x.1.txt) ≠ [] by intro h; exact hneB (List.map_eq_nil_iff.1 h))
              have HDB : Hid (∀ k (h : k < BL.length), 1 ≤ BL[k].1.depth) := Lib.hid fun k h => by
                have hm : BL[k] ∈ itemsF a.num.toNat S ⟨sv, set, a.gen, a.kas⟩ 1 := by rw [← hBL]; exact List.getElem_mem h
                exact items_depth _ _ _ _ hm (List.all_eq_true.1 hallB _ (List.getElem_mem h))
              have hlB : (saidTo f pcs j).length + BL.length ≤ L.length := by rw [HFB.out] at hlm; exact hlm
              have HMB : Hid (∀ k (hk : k < BL.length), ∃ hm : (saidTo f pcs j).length + k < L.length, L[(saidTo f pcs j).length + k] = BL[k]) := Lib.hid fun k hk => at_mid (by have := H3.out; rw [HFB.out] at this; exact this) k hk
              have hwB : IntKind.i64.wrap (((saidTo f pcs j).length : Int) + (BL.length : Int)) = ((saidTo f pcs j).length : Int) + (BL.length : Int) := IntWalk.i64_in _ (by omega)
              have hgtB : ¬ ((L.length : Int) < ((saidTo f pcs j).length : Int) + (BL.length : Int)) := by omega
              clear hbR hBL hallB hneB
              clear hs0 hk3
              go_wp2_with (go_at_call 20; refine (H20.out ⟨sv, set, a.gen, a.kas⟩ _ (by exact HPr.out.keep (by repeat (first | exact HBx.out | refine Below.drew ?_ | refine Below.setCell ?_ (p := ⟨wo.heap.size + 1, _, none⟩) (by simp) _)))).mono ?_; rintro e w6 ⟨hq, hb6⟩; obtain ⟨ad5, cc5, rfl, HI5⟩ := SpellPost.some hq HOKB.out HWB.out; rw [List.length_map]; have hbx : Below wo.heap.size wo w6 := bThen (by repeat (first | exact HBx.out | refine Below.drew ?_ | refine Below.setCell ?_ (p := ⟨wo.heap.size + 1, _, none⟩) (by simp) _)) hb6; have HT6 := Lib.hid (HTr.out.keep SaidAt.stable hbx); have HBy := Lib.hid hbx; clear hq hb6 hbx)
              obtain ⟨xb5, xo5, rfl, -⟩ := HI5.out.at HNEB.out
              go_loopw [15] (fun v wx => ∃ k : Nat, k ≤ BL.length ∧ v = .int .i64 k ∧ Hid (Below wo.heap.size wo wx) ∧ Hid (SliceV wx (.slice (some ⟨tb, to, none⟩) (L.map Prod.fst).length cc2) 6 SaidAt (L.map Prod.fst)) ∧ Hid (SliceV wx (.slice (some ⟨xb5, xo5, none⟩) (BL.map fun x => x.1.txt).length cc5) 1 StrAt (BL.map fun x => x.1.txt))) (fun v _ => BL.length - (intOf v).toNat)
              case atStart => exact ⟨0, Nat.zero_le _, rfl, HBy, HT6, HI5⟩
              case round =>
                obtain ⟨k, hk, rfl, HBy, HT6, HI5⟩ := hrel
                by_cases hlk : k < BL.length
                · have hc : ∃ tx dd, 1 ≤ dd ∧ wr.cell? ⟨tb, to + ((saidTo f pcs j).length + k) * 6, none⟩ = some (.string tx) ∧ wr.cell? ⟨tb, to + ((saidTo f pcs j).length + k) * 6 + 5, none⟩ = some (.int .i64 dd) ∧ wr.cell? ⟨xb5, xo5 + k, none⟩ = some (.string tx) := by
                    obtain ⟨hm, he⟩ := HMB.out k hlk
                    obtain ⟨c0, -, -, -, -, c5⟩ := said_at HT6.out _ hm
                    obtain ⟨xb', xo', hx', hfx⟩ := HI5.out.at HNEB.out
                    obtain ⟨rfl, rfl⟩ : xb5 = xb' ∧ xo5 = xo' := by simpa using hx'
                    have x0 : _ = _ := hfx k (by rw [List.length_map]; exact hlk)
                    rw [he] at c0 c5
                    simp only [Nat.mul_one, List.getElem_map] at x0
                    exact ⟨_, _, HDB.out k hlk, c0, c5, x0⟩
                  obtain ⟨tx, dd, hdd, c0, c5, x0⟩ := hc
                  obtain ⟨q, hqq⟩ : ∃ q, q = (saidTo f pcs j).length + k := ⟨_, rfl⟩
                  have hw2 : IntKind.i64.wrap (((saidTo f pcs j).length : Int) + (k : Int)) = (q : Int) := by rw [hqq, IntWalk.i64_in _ (by omega)]; omega
                  have hqL : (q : Int) < (L.length : Int) := by omega
                  rw [← hqq] at c0 c5
                  have hcl := cell_lt c0
                  have hxl := cell_lt x0
                  have h1 : (tx.toList == tx.toList) = true := by simp
                  have hd1 : ¬ (dd < 1) := by omega
                  clear hqq
                  go_wp2_with fail
                  refine wp_opaque fun Q2 hQ2 => ?_
                  (refine wp_region_below (by kernel_rfl) (by kernel_rfl) ?_; (repeat (first | go_big_quiet_step (fail) | quiet_step (fail))); (refine wpQuiet_nil ?_; intro _ hw'; obtain ⟨xq, hw''⟩ := hw'; subst hw''))
                  refine hQ2 _ _ _ ?_
                  have hb := xq.2
                  replace HBy := Lib.hid (bThen HBy.out hb)
                  replace HT6 := Lib.hid (HT6.out.keep SaidAt.stable hb)
                  replace HI5 := Lib.hid (HI5.out.keep StrAt.stable hb)
                  clear hb hw2
                  generalize xq.val = W8 at *
                  go_wp2_with fail
                  go_roundw
                  case rel => exact ⟨k + 1, by omega, by go_num, HBy, HT6, HI5⟩
                  case measure => simp [intOf]; omega
                · obtain rfl : k = BL.length := by omega
                  go_wp2_with fail
                  go_roundw
                  case rel => exact ⟨j + 1, by omega, by go_num, by rw [HSS.out, List.length_append, HFB.out]; go_num, Lib.hid (HBr.out.trans (HBy.out.mono HBr.out.size))⟩
                  case measure => simp [intOf]; omega
            · have HOWN : Hid (∀ x ∈ f ⟨kind, term, set, below⟩ j, x.2 = true → x.1.depth = 0 ∧ x.1.piece = j) := Lib.hid fun x hx h2 => HFO.out _ j x hk3 (fun h => Decidable.byContradiction fun hc => hk4 ⟨h, hc⟩) hx h2
              have d3 : (kind == 3) = false := by simp [hk3]
              by_cases h4 : kind = 4
              · have d4 : (kind == 4) = true := by simp [h4]
                have hr0 : sv = 0 := Decidable.byContradiction fun hc => hk4 ⟨h4, hc⟩
                have hdv : dv ≠ 0 := HDZ.out (by simpa using Or.inr h4)
                have hzz : (dv == 0) = false := by simp [hdv]
                have e2 : a.num.tmod dv = 0 := by rw [HTM.out hdv]; exact hr0
                have HR0 := Lib.hid hr0
                clear hk3 hk4 h4 hr0
                go_wp2_with fail
                go_loopw [8] (fun v wx => ∃ m : Nat, v = .int .i64 (m : Int) ∧ (saidTo f pcs j).length ≤ m ∧ m ≤ (saidTo f pcs j).length + (f ⟨kind, term, set, below⟩ j).length ∧ wx = W3) (fun v _ => (saidTo f pcs j).length + (f ⟨kind, term, set, below⟩ j).length - (intOf v).toNat)
                case atStart => exact ⟨_, rfl, Nat.le_refl _, by omega, rfl⟩
                case round =>
                  obtain ⟨m, rfl, hm1, hm2, rfl⟩ := hrel
                  by_cases hm3 : m < (saidTo f pcs j).length + (f ⟨kind, term, set, below⟩ j).length
                  · obtain ⟨hmL, hmem, hx2⟩ := HM3.out m hm1 hm3
                    obtain ⟨-, -, -, -, c4, c5⟩ := said_at HT1.out m hmL
                    obtain ⟨hd, hp⟩ := HOWN.out _ hmem hx2
                    rw [hd] at c5
                    rw [hp] at c4
                    have hcl := cell_lt c4
                    clear hd hp hmem hx2
                    go_wp2_with fail
                    go_roundw
                    case rel => exact ⟨m + 1, by go_num, by omega, by omega, by first | rfl | trivial⟩
                    case measure => simp [intOf]; omega
                  · have HMM : Hid ((m : Int) = ((saidTo f pcs j).length + (f ⟨kind, term, set, below⟩ j).length : Nat)) := Lib.hid (by omega)
                    by_cases hmL : m < L.length
                    · obtain ⟨hmem, hx2⟩ := HML.out m hmL (by omega)
                      obtain ⟨-, -, -, -, c4, c5⟩ := said_at HT1.out m hmL
                      have hno := HLNj.out _ hmem hx2
                      have hcl := cell_lt c4
                      clear hmem hx2
                      generalize L[m].1.depth = dd at *
                      generalize L[m].1.piece = pp at *
                      by_cases hdd : dd = 0
                      · have e1 : (dd == 0) = true := by simp [hdd]
                        have e2 : (pp == (j : Int)) = false := by simp; intro h; exact hno ⟨hdd, h⟩
                        clear hno hdd
                        go_wp2_with fail
                        go_roundw
                        case rel => exact ⟨j + 1, by omega, by go_num, by rw [HSS.out, List.length_append, HMM.out], Lib.hid (HBr.out.trans (HBx.out.mono HBr.out.size))⟩
                        case measure => simp [intOf]; omega
                      · have e1 : (dd == 0) = false := by simp [hdd]
                        clear hno hdd
                        go_wp2_with fail
                        go_roundw
                        case rel => exact ⟨j + 1, by omega, by go_num, by rw [HSS.out, List.length_append, HMM.out], Lib.hid (HBr.out.trans (HBx.out.mono HBr.out.size))⟩
                        case measure => simp [intOf]; omega
                    · clear hm1 hm2
                      go_wp2_with fail
                      go_roundw
                      case rel => exact ⟨j + 1, by omega, by go_num, by rw [HSS.out, List.length_append, HMM.out], Lib.hid (HBr.out.trans (HBx.out.mono HBr.out.size))⟩
                      case measure => simp [intOf]; omega
              · have d4 : (kind == 4) = false := by simp [h4]
                clear hk3 hk4 h4
                go_wp2_with fail
                go_loopw [8] (fun v wx => ∃ m : Nat, v = .int .i64 (m : Int) ∧ (saidTo f pcs j).length ≤ m ∧ m ≤ (saidTo f pcs j).length + (f ⟨kind, term, set, below⟩ j).length ∧ wx = W3) (fun v _ => (saidTo f pcs j).length + (f ⟨kind, term, set, below⟩ j).length - (intOf v).toNat)
                case atStart => exact ⟨_, rfl, Nat.le_refl _, by omega, rfl⟩
                case round =>
                  obtain ⟨m, rfl, hm1, hm2, rfl⟩ := hrel
                  by_cases hm3 : m < (saidTo f pcs j).length + (f ⟨kind, term, set, below⟩ j).length
                  · obtain ⟨hmL, hmem, hx2⟩ := HM3.out m hm1 hm3
                    obtain ⟨-, -, -, -, c4, c5⟩ := said_at HT1.out m hmL
                    obtain ⟨hd, hp⟩ := HOWN.out _ hmem hx2
                    rw [hd] at c5
                    rw [hp] at c4
                    have hcl := cell_lt c4
                    clear hd hp hmem hx2
                    go_wp2_with fail
                    go_roundw
                    case rel => exact ⟨m + 1, by go_num, by omega, by omega, by first | rfl | trivial⟩
                    case measure => simp [intOf]; omega
                  · have HMM : Hid ((m : Int) = ((saidTo f pcs j).length + (f ⟨kind, term, set, below⟩ j).length : Nat)) := Lib.hid (by omega)
                    by_cases hmL : m < L.length
                    · obtain ⟨hmem, hx2⟩ := HML.out m hmL (by omega)
                      obtain ⟨-, -, -, -, c4, c5⟩ := said_at HT1.out m hmL
                      have hno := HLNj.out _ hmem hx2
                      have hcl := cell_lt c4
                      clear hmem hx2
                      generalize L[m].1.depth = dd at *
                      generalize L[m].1.piece = pp at *
                      by_cases hdd : dd = 0
                      · have e1 : (dd == 0) = true := by simp [hdd]
                        have e2 : (pp == (j : Int)) = false := by simp; intro h; exact hno ⟨hdd, h⟩
                        clear hno hdd
                        go_wp2_with fail
                        go_roundw
                        case rel => exact ⟨j + 1, by omega, by go_num, by rw [HSS.out, List.length_append, HMM.out], Lib.hid (HBr.out.trans (HBx.out.mono HBr.out.size))⟩
                        case measure => simp [intOf]; omega
                      · have e1 : (dd == 0) = false := by simp [hdd]
                        clear hno hdd
                        go_wp2_with fail
                        go_roundw
                        case rel => exact ⟨j + 1, by omega, by go_num, by rw [HSS.out, List.length_append, HMM.out], Lib.hid (HBr.out.trans (HBx.out.mono HBr.out.size))⟩
                        case measure => simp [intOf]; omega
                    · clear hm1 hm2
                      go_wp2_with fail
                      go_roundw
                      case rel => exact ⟨j + 1, by omega, by go_num, by rw [HSS.out, List.length_append, HMM.out], Lib.hid (HBr.out.trans (HBx.out.mono HBr.out.size))⟩
                      case measure => simp [intOf]; omega
          · obtain rfl : j = pcs.length := by omega
            have HEQ : Hid ((saidTo f pcs pcs.length).length = L.length) := Lib.hid (by rw [saidTo_all, ← HIT.out])
            have hee : (((saidTo f pcs pcs.length).length : Int) == (L.length : Int)) = true := by rw [HEQ.out]; simp
            go_wp2_with (go_at_call 15; refine (known_any _).mono ?_; rintro e wk ⟨rfl, hb⟩; replace HB := Lib.hid (bThen HB.out hb); clear hb)
            go_ret
            exact ⟨rfl, HB.out⟩
end Go.Proofs.Ytfcopnlpcbbocaa
