/- The maths of changes: two systems that differ in one rule alone, whose Base is the same; a replaced rule in new memory; all numbers of a list are in another one. -/
import Derived.Test.YtfcopnlpcbbocaaR17
import Derived.Test.YtfcopnlpcbbocaaR20
import Derived.Test.YtfcopnlpcbbocaaR25
set_option linter.unusedSimpArgs false
set_option linter.unusedVariables false
namespace Go.Proofs.Ytfcopnlpcbbocaa
open Go.RowKit

theorem idxUp_congr {l l' : List Rul} (h : ∀ i : Nat, (l'[i]?).map Rul.base = (l[i]?).map Rul.base) (n : Int) : ∀ k, idxUp l' n k = idxUp l n k
  | 0 => rfl
  | k + 1 => by
    have hk := h k
    have ih := idxUp_congr h n k
    rw [idxUp, idxUp, ih]
    cases h1 : l[k]? <;> cases h2 : l'[k]? <;> simp_all
theorem piecesFrom_congr {f f' : Pce → Nat → List Item} : ∀ (l : List Pce) (i : Nat), (∀ p ∈ l, ∀ i, f p i = f' p i) → piecesFrom f l i = piecesFrom f' l i
  | [], _, _ => rfl
  | p :: l, i, h => by
    rw [piecesFrom, piecesFrom, h p (List.mem_cons_self ..) i, piecesFrom_congr l (i + 1) fun q hq => h q (List.mem_cons_of_mem _ hq)]

/-- Two systems that differ in one rule at most. -/
structure Swap (S T : Sys) (st rl : Int) : Prop where
  terms : T.terms = S.terms
  plurals : T.plurals = S.plurals
  idx : ∀ a : Ask, 0 ≤ a.set → idxOf T a = idxOf S a
  rule : ∀ a : Ask, 0 ≤ a.set → ¬ (a.set = st ∧ (idxOf S a : Int) = rl) → ruleOf T a = ruleOf S a
theorem Swap.termOf {S T : Sys} {st rl : Int} (h : Swap S T st rl) (i : Int) : Ytfcopnlpcbbocaa.termOf T i = Ytfcopnlpcbbocaa.termOf S i := by simp [Ytfcopnlpcbbocaa.termOf, h.terms]
theorem Swap.counted {S T : Sys} {st rl : Int} (h : Swap S T st rl) (l : List Pce) (g : Int) : countedGen T l g = countedGen S l g := by simp [countedGen, h.termOf]
theorem Swap.quo {S T : Sys} {st rl : Int} (h : Swap S T st rl) {a : Ask} (hr : ruleOf T a = ruleOf S a) (i : Int) : askQuo T a i = askQuo S a i := by simp [askQuo, hr, h.counted]
theorem Swap.rst {S T : Sys} {a : Ask} (hr : ruleOf T a = ruleOf S a) (i : Int) : askRst T a i = askRst S a i := by simp [askRst, hr]
theorem any_congr_mem {α : Type} {f g : α → Bool} : ∀ {l : List α}, (∀ x ∈ l, f x = g x) → l.any f = l.any g
  | [], _ => rfl
  | x :: l, h => by rw [List.any_cons, List.any_cons, h x (List.mem_cons_self ..), any_congr_mem fun y hy => h y (List.mem_cons_of_mem _ hy)]
/-- The rule that is replaced is used for the same numbers. -/
theorem Swap.used {S T : Sys} {st rl : Int} (h : Swap S T st rl) (hS : Right S) : ∀ (k : Nat) (a : Ask), AskRight S a → a.num < k → usedF k T a st rl = usedF k S a st rl
  | 0, a, ha, hk => by have := ha.num; omega
  | k + 1, a, ha, hk => by
    rw [usedF, usedF, h.idx a ha.set.1]
    by_cases hh : a.set = st ∧ (idxOf S a : Int) = rl
    · simp [hh.1, hh.2]
    · rw [or_miss hh, or_miss hh]
      have hr := h.rule a ha.set.1 hh
      rw [hr]
      refine any_congr_mem fun p hp => ?_
      unfold usedP
      split
      · rename_i h3
        have hq := askQuo_right hS ha hp h3
        rw [h.quo hr]
        exact h.used hS k _ hq.1 (by omega)
      split
      · rename_i h4
        have hq := askRst_right hS ha hp h4
        rw [hr, Swap.rst hr]
        have := h.used hS k _ hq.1 (by omega)
        simp only [this]
      · rfl
/-- A number that does not use it keeps its words. -/
theorem Swap.items {S T : Sys} {st rl : Int} (h : Swap S T st rl) (hS : Right S) : ∀ (k k' : Nat) (a : Ask) (d : Int), AskRight S a → a.num < k → a.num < k' → usedF k S a st rl = false → itemsF k' T a d = itemsF k' S a d
  | 0, _, a, _, ha, hk, _, _ => by have := ha.num; omega
  | _ + 1, 0, a, _, ha, _, hk, _ => by have := ha.num; omega
  | k + 1, k' + 1, a, d, ha, hk, hk', hu => by
    rw [usedF] at hu
    by_cases hh : a.set = st ∧ (idxOf S a : Int) = rl
    · simp [hh.1, hh.2] at hu
    rw [or_miss hh] at hu
    have hr := h.rule a ha.set.1 hh
    rw [itemsF_succ, itemsF_succ, hr]
    refine piecesFrom_congr _ _ fun p hp i => ?_
    have hup : usedP (fun b => usedF k S b st rl) S a p = false := by
      have := List.any_eq_false.1 hu p hp
      simpa using this
    unfold usedP at hup
    have hsay : ∀ t g c, sayItem T a i d t g c = sayItem S a i d t g c := fun t g c => by simp [sayItem, h.termOf, h.plurals, h.idx a ha.set.1]
    unfold pieceItems
    simp only [hsay, hr, h.termOf, h.quo hr, Swap.rst hr]
    split
    · rfl
    split
    · rfl
    split
    · rename_i h3
      have hq := askQuo_right hS ha hp h3
      rw [if_pos h3] at hup
      exact h.items hS k k' _ _ hq.1 (by omega) (by omega) hup
    split
    · rename_i h3 h4
      have hq := askRst_right hS ha hp h4
      rw [if_neg h3, if_pos h4] at hup
      split
      · rfl
      · rename_i h0
        simp only [h0, decide_false, Bool.not_false, Bool.true_and] at hup
        exact h.items hS k k' _ _ hq.1 (by omega) (by omega) hup
    · rfl
theorem Swap.words {S T : Sys} {st rl : Int} (h : Swap S T st rl) (hS : Right S) {a : Ask} {k : Nat} (ha : AskRight S a) (hk : a.num < k) (hu : usedF k S a st rl = false) : wordsOf T a = wordsOf S a := by
  have e : Ytfcopnlpcbbocaa.items T a 0 = Ytfcopnlpcbbocaa.items S a 0 := h.items hS k _ a 0 ha hk (by have := ha.num; omega) hu
  unfold wordsOf saidOf
  rw [e]

/-- The system with one rule replaced. -/
def swapR (S : Sys) (st rl : Nat) (r : Rul) : Sys := { S with sets := S.sets.set st ((setOf S st).set rl r) }
theorem swapR_swap (S : Sys) (st rl : Nat) (r : Rul) (hst : st < S.sets.length) (hb : ∀ x, (setOf S st)[rl]? = some x → r.base = x.base) : Swap S (swapR S st rl r) st rl := by
  have hset : ∀ i : Int, setOf (swapR S st rl r) i = if i.toNat = st then (setOf S st).set rl r else setOf S i := by
    intro i
    unfold setOf swapR
    simp only [List.getElem?_set]
    by_cases h : st = i.toNat
    · subst h
      rw [if_pos rfl, if_pos rfl, if_pos hst]
      simp [setOf]
    · rw [if_neg h, if_neg (Ne.symm h)]
  have hbase : ∀ i : Nat, (((setOf S st).set rl r)[i]?).map Rul.base = ((setOf S st)[i]?).map Rul.base := by
    intro i
    rw [List.getElem?_set]
    split
    · subst rl
      split
      · rename_i hlt
        have e := List.getElem?_eq_getElem hlt
        rw [e]
        simp [hb _ e]
      · rename_i hlt
        rw [List.getElem?_eq_none (by omega)]
    · rfl
  have hidx : ∀ a : Ask, 0 ≤ a.set → idxOf (swapR S st rl r) a = idxOf S a := by
    intro a ha
    unfold idxOf ruleIdx
    rw [hset]
    split
    · rename_i h
      rw [List.length_set, idxUp_congr hbase]
      have : setOf S a.set = setOf S st := by unfold setOf; simp [h]
      rw [this]
    · rfl
  refine ⟨rfl, rfl, hidx, fun a ha hn => ?_⟩
  have hi := hidx a ha
  unfold idxOf at hi hn
  unfold ruleOf
  rw [hi, hset]
  split
  · rename_i h
    have e : setOf S a.set = setOf S st := by unfold setOf; simp [h]
    rw [e]
    rw [List.getElem?_set, if_neg ?_]
    intro e2
    rw [e] at hn
    exact hn ⟨by omega, by omega⟩
  · rfl
end Go.Proofs.Ytfcopnlpcbbocaa

namespace Go.Proofs.Ytfcopnlpcbbocaa
open Go.RowKit

def cellsFrom (w : World) (b o n : Nat) : List Value := (List.range n).map fun j => (w.cell? ⟨b, o + j, none⟩).getD (.bool false)
theorem cellsFrom_len (w : World) (b o n : Nat) : (cellsFrom w b o n).length = n := by simp [cellsFrom]
theorem cellsFrom_get {w : World} {b o n j : Nat} {u : Value} (hj : j < n) (h : w.cell? ⟨b, o + j, none⟩ = some u) : (cellsFrom w b o n)[j]? = some u := by simp [cellsFrom, hj, h]
theorem cellsFrom_news {w w' : World} {b o n : Nat} (hB : Below w.heap.size w w') (hall : ∀ j, j < n → ∃ u, w.cell? ⟨b, o + j, none⟩ = some u) : ∀ j u, (cellsFrom w b o n)[j]? = some u → w'.cell? ((⟨b, o, none⟩ : Addr).add j) = some u := by
  intro j u hu
  have hj : j < n := by
    have := (List.getElem?_eq_some_iff.1 hu).1
    rwa [cellsFrom_len] at this
  obtain ⟨u', hu'⟩ := hall j hj
  rw [cellsFrom_get hj hu'] at hu
  injection hu with hu
  subst hu
  have e : (⟨b, o, none⟩ : Addr).add j = ⟨b, o + j, none⟩ := by unfold Addr.add; split <;> simp_all
  rw [e]
  exact keep hB hu'
theorem cellsFrom_one {w : World} {b o n : Nat} (hall : ∀ j, j < n → ∃ u, w.cell? ⟨b, o + j, none⟩ = some u ∧ u.oneCell' = true) : ∀ u ∈ cellsFrom w b o n, u.oneCell' = true := by
  intro u hu
  obtain ⟨j, hj, rfl⟩ := List.mem_map.1 hu
  obtain ⟨u', h1, h2⟩ := hall j (by simpa using hj)
  rw [h1]; exact h2

/-- The cells of a list of lists of rules: one slice each. -/
theorem sets_cells {w : World} {xb xo : Nat} {ss : List (List Rul)} (hf : ∀ i (h : i < ss.length), SetAt w xb (xo + i * 1) ss[i]) : ∀ j, j < ss.length → ∃ u, w.cell? ⟨xb, xo + j, none⟩ = some u ∧ u.oneCell' = true := by
  intro j hj
  obtain ⟨v, hc, a, c, rfl, -⟩ := hf j hj
  rw [Nat.mul_one] at hc
  exact ⟨_, hc, by simp [Value.oneCell']⟩
theorem rules_cells {w : World} {lb lo : Nat} {l : List Rul} (hf : ∀ i (h : i < l.length), RulAt w lb (lo + i * 3) l[i]) : ∀ j, j < l.length * 3 → ∃ u, w.cell? ⟨lb, lo + j, none⟩ = some u ∧ u.oneCell' = true := by
  intro j hj
  obtain ⟨c0, c1, v, c2, a, c, rfl, -⟩ := hf (j / 3) (by omega)
  have hm : j % 3 = 0 ∨ j % 3 = 1 ∨ j % 3 = 2 := by omega
  rcases hm with h | h | h
  · rw [show lo + j / 3 * 3 = lo + j by omega] at c0
    exact ⟨_, c0, by simp [Value.oneCell']⟩
  · rw [show lo + j / 3 * 3 + 1 = lo + j by omega] at c1
    exact ⟨_, c1, by simp [Value.oneCell']⟩
  · rw [show lo + j / 3 * 3 + 2 = lo + j by omega] at c2
    exact ⟨_, c2, by simp [Value.oneCell']⟩

/-- A copy of a list of rules with one rule replaced. -/
theorem copied_rules {w F : World} {lb lo base cap rl : Nat} {g : Nat} {l : List Rul} {r : Rul} {vr : Value} (hB : Below w.heap.size w F) (hf : ∀ i (h : i < l.length), RulAt w lb (lo + i * 3) l[i]) (hl : l.length ≤ most) (hrl : rl < l.length)
    (hrow : F.ownsRow base 54 3 (.slice (some ⟨g, 0, none⟩) l.length cap) l.length ((((cellsFrom w lb lo (l.length * 3)).set (rl * 3) (.int .i64 r.base)).set (rl * 3 + 1) (.int .i64 r.div)).set (rl * 3 + 2) vr)) (hr : SliceV w vr 4 PceAt r.pieces) :
    SliceV F (.slice (some ⟨g, 0, none⟩) (l.set rl r).length cap) 3 RulAt (l.set rl r) := by
  refine ⟨_, cap, rfl, by rw [List.length_set]; exact hl, .inr ⟨g, 0, rfl, fun j hj => ?_⟩⟩
  rw [List.length_set] at hj
  have hc : ∀ i, i < l.length * 3 → F.cell? ⟨g, i, none⟩ = ((((cellsFrom w lb lo (l.length * 3)).set (rl * 3) (.int .i64 r.base)).set (rl * 3 + 1) (.int .i64 r.div)).set (rl * 3 + 2) vr)[i]? := fun i hi => hrow.cellAt i hi
  have h0 := hc (j * 3) (by omega)
  have h1 := hc (j * 3 + 1) (by omega)
  have h2 := hc (j * 3 + 2) (by omega)
  rw [Nat.zero_add]
  by_cases e : rl = j
  · subst e
    rw [List.getElem_set_self]
    refine ⟨?_, ?_, vr, ?_, hr.keep PceAt.stable hB⟩
    · rw [h0, List.getElem?_set_ne (by omega), List.getElem?_set_ne (by omega), List.getElem?_set_self (by rw [cellsFrom_len]; omega)]
    · rw [h1, List.getElem?_set_ne (by omega), List.getElem?_set_self (by simp [cellsFrom_len]; omega)]
    · rw [h2, List.getElem?_set_self (by simp [cellsFrom_len]; omega)]
  · rw [List.getElem_set_ne e]
    obtain ⟨c0, c1, v, c2, hv⟩ := hf j hj
    refine ⟨?_, ?_, v, ?_, hv.keep PceAt.stable hB⟩
    · rw [h0, List.getElem?_set_ne (by omega), List.getElem?_set_ne (by omega), List.getElem?_set_ne (by omega)]
      exact cellsFrom_get (by omega) c0
    · rw [h1, List.getElem?_set_ne (by omega), List.getElem?_set_ne (by omega), List.getElem?_set_ne (by omega)]
      exact cellsFrom_get (by omega) (by rw [← Nat.add_assoc]; exact c1)
    · rw [h2, List.getElem?_set_ne (by omega), List.getElem?_set_ne (by omega), List.getElem?_set_ne (by omega)]
      exact cellsFrom_get (by omega) (by rw [← Nat.add_assoc]; exact c2)
/-- A copy of the lists of rules with one list replaced. -/
theorem copied_sets {w F : World} {xb xo base cap st : Nat} {g : Nat} {ss : List (List Rul)} {l : List Rul} {vl : Value} (hB : Below w.heap.size w F) (hf : ∀ i (h : i < ss.length), SetAt w xb (xo + i * 1) ss[i]) (hl : ss.length ≤ most) (hst : st < ss.length)
    (hrow : F.ownsRow base 55 1 (.slice (some ⟨g, 0, none⟩) ss.length cap) ss.length ((cellsFrom w xb xo ss.length).set st vl)) (hv : SliceV F vl 3 RulAt l) :
    SliceV F (.slice (some ⟨g, 0, none⟩) (ss.set st l).length cap) 1 SetAt (ss.set st l) := by
  refine ⟨_, cap, rfl, by rw [List.length_set]; exact hl, .inr ⟨g, 0, rfl, fun j hj => ?_⟩⟩
  rw [List.length_set] at hj
  have h0 := hrow.cellAt j (by omega)
  rw [Nat.zero_add, Nat.mul_one]
  by_cases e : st = j
  · subst e
    rw [List.getElem_set_self]
    exact ⟨vl, by rw [h0, List.getElem?_set_self (by rw [cellsFrom_len]; omega)], hv⟩
  · rw [List.getElem_set_ne e]
    obtain ⟨v, c0, hv'⟩ := hf j hj
    rw [Nat.mul_one] at c0
    exact ⟨v, by rw [h0, List.getElem?_set_ne e]; exact cellsFrom_get hj c0, hv'.keep RulAt.stable hB⟩
end Go.Proofs.Ytfcopnlpcbbocaa

namespace Go.Proofs.Ytfcopnlpcbbocaa
open Go.RowKit

theorem filter_congr_mem {α : Type} {f g : α → Bool} : ∀ {l : List α}, (∀ x ∈ l, f x = g x) → l.filter f = l.filter g
  | [], _ => rfl
  | x :: l, h => by
    rw [List.filter_cons, List.filter_cons, h x (List.mem_cons_self ..), filter_congr_mem fun y hy => h y (List.mem_cons_of_mem _ hy)]
theorem Swap.usesTo {S T : Sys} {st rl : Int} (h : Swap S T st rl) (hS : Right S) {a : Ask} (ha : AskRight S a) : Ytfcopnlpcbbocaa.usesTo T a a.num.toNat st rl = Ytfcopnlpcbbocaa.usesTo S a a.num.toNat st rl := by
  unfold Ytfcopnlpcbbocaa.usesTo
  refine filter_congr_mem fun n hn => ?_
  have h0 := ha.num
  have hn' : n < a.num.toNat + 1 := by simpa using hn
  exact h.used hS _ _ (numb_right ha (by omega)) (by simp only [numb]; omega)
theorem Swap.within {S T : Sys} {st rl : Int} (h : Swap S T st rl) (hS : Right S) {a : Ask} (ha : AskRight S a) : ∀ x ∈ (diffTo S T a a.num.toNat).map (fun n : Nat => (n : Int)), x ∈ (Ytfcopnlpcbbocaa.usesTo S a a.num.toNat st rl).map (fun n : Nat => (n : Int)) := by
  intro x hx
  obtain ⟨n, hn, rfl⟩ := List.mem_map.1 hx
  refine List.mem_map.2 ⟨n, ?_, rfl⟩
  unfold diffTo at hn
  rw [List.mem_filter] at hn
  obtain ⟨h1, h2⟩ := hn
  have h0 := ha.num
  have hn' : n < a.num.toNat + 1 := by simpa using h1
  unfold Ytfcopnlpcbbocaa.usesTo
  refine List.mem_filter.2 ⟨h1, ?_⟩
  cases hu : usedF (a.num.toNat + 1) S (numb a n) st rl
  · have e := h.words hS (numb_right ha (by omega)) (by simp only [numb]; omega) hu
    rw [e] at h2
    simp at h2
  · rfl
/-- The replaced system, as it lies in memory. -/
theorem swapped_parts {w F : World} {S : Sys} {set rule : Int} {r : Rul} {vt vp vr : Value} {xb xo lb lo base base' g g2 cap cap2 : Nat} {cs lc : Nat} (hs0 : 0 ≤ set) (hs1 : set < S.sets.length) (hr0 : 0 ≤ rule) (hr1 : rule < (setOf S set).length)
    (hB : Below w.heap.size w F) (hp : SysParts w vt vp (.slice (some ⟨xb, xo, none⟩) S.sets.length cs) S) (hf : ∀ i (h : i < S.sets.length), SetAt w xb (xo + i * 1) S.sets[i]) (hlf : ∀ i (h : i < (setOf S set).length), RulAt w lb (lo + i * 3) (setOf S set)[i])
    (hm : S.sets.length ≤ most) (hl : (setOf S set).length ≤ most) (hr : SliceV w vr 4 PceAt r.pieces)
    (h1 : F.ownsRow base 55 1 (.slice (some ⟨g, 0, none⟩) S.sets.length cap) S.sets.length ((cellsFrom w xb xo S.sets.length).set set.toNat (.slice (some ⟨g2, 0, none⟩) (setOf S set).length cap2)))
    (h2 : F.ownsRow base' 54 3 (.slice (some ⟨g2, 0, none⟩) (setOf S set).length cap2) (setOf S set).length ((((cellsFrom w lb lo ((setOf S set).length * 3)).set (rule.toNat * 3) (.int .i64 r.base)).set (rule.toNat * 3 + 1) (.int .i64 r.div)).set (rule.toNat * 3 + 2) vr)) :
    SysParts F vt vp (.slice (some ⟨g, 0, none⟩) S.sets.length cap) (swapR S set.toNat rule.toNat r) := by
  have hq := hp.keep hB
  have e : setOf S (set.toNat : Int) = setOf S set := by rw [Int.toNat_of_nonneg hs0]
  refine ⟨hq.1, hq.2.1, ?_⟩
  have k2 := copied_rules hB hlf hl (by omega) h2 hr
  rw [List.length_set] at k2
  have k1 := copied_sets hB hf hm (by omega) h1 k2
  rw [List.length_set] at k1
  unfold swapR
  rw [e]
  exact k1
end Go.Proofs.Ytfcopnlpcbbocaa

namespace Go.Proofs.Ytfcopnlpcbbocaa
open Go.RowKit

theorem any_eq_succ (M : List Int) (x : Int) (n : Nat) (h : n < M.length) : (M.take (n + 1)).any (fun y => decide (y = x)) = ((M.take n).any (fun y => decide (y = x)) || decide (M[n] = x)) := any_take_succ _ _ _ h

set_option maxRecDepth 100000 in
set_option maxHeartbeats 4000000 in
theorem within_any (L M : List Int) (v u : Value) (w : World) (hv : SliceV w v 1 IntAt L) (hu : SliceV w u 1 IntAt M) (hin : ∀ x ∈ L, x ∈ M) :
    Calls Try.prog 40 #[v, u] w fun e w' => e = .returned (.bool true) ∧ Below w.heap.size w w' := by
  have HL := Lib.hid hv
  have HM := Lib.hid hu
  have HIN := Lib.hid hin
  obtain ⟨la, lc, rfl, hl, -⟩ := hv
  obtain ⟨ma, mc, rfl, hm, -⟩ := hu
  unfold most at hl hm
  clear hin
  go_enter Try.func40, Try.ntmps40
  go_wp2_with fail
  go_loopw [5] (fun i wr => ∃ k : Nat, k ≤ L.length ∧ i = .int .i64 k ∧ Hid (Below w.heap.size w wr)) (fun i _ => L.length - (intOf i).toNat)
  case atStart => exact ⟨0, by omega, rfl, Lib.hid (Below.refl _ _)⟩
  case round =>
    obtain ⟨k, hk, rfl, HB⟩ := hrel
    by_cases hlt : k < L.length
    · have hmem := HIN.out _ (List.getElem_mem hlt)
      have hne : L ≠ [] := by intro h; rw [h] at hlt; simp at hlt
      have hme : M ≠ [] := by intro h; rw [h] at hmem; simp at hmem
      obtain ⟨lb, lo, rfl, hf⟩ := HL.out.at hne
      obtain ⟨mb, mo, rfl, hg⟩ := HM.out.at hme
      have cl := hf k hlt
      simp only [IntAt, Nat.mul_one] at cl
      generalize hx : L[k] = x at *
      have HMEM : Hid (M.any (fun y => decide (y = x)) = true) := Lib.hid (List.any_eq_true.2 ⟨x, hmem, by simp⟩)
      have HG := Lib.hid hg
      have HX := Lib.hid cl
      clear hf hg hmem hne hme hx cl
      obtain ⟨wo, hwo⟩ : ∃ wo, wo = wr := ⟨_, rfl⟩
      subst hwo
      go_wp2_with fail
      go_loopw [6, 7] (fun m j w2 => ∃ n : Nat, n ≤ M.length ∧ j = .int .i64 n ∧ (∃ b : Bool, m = .bool b ∧ Hid ((M.take n).any (fun y => decide (y = x)) = b)) ∧ Hid (Below w.heap.size w w2)) (fun _ j _ => M.length - (intOf j).toNat)
      case atStart => exact ⟨0, by omega, rfl, ⟨_, rfl, Lib.hid (by simp)⟩, HB⟩
      case round =>
        obtain ⟨n, hn, rfl, ⟨b, rfl, HA⟩, HB⟩ := hrel
        by_cases hlt2 : n < M.length
        · have cm := HG.out n hlt2
          simp only [IntAt, Nat.mul_one] at cm
          have HS := Lib.hid (any_eq_succ M x n hlt2)
          generalize M[n] = y at *
          replace cm := keep HB.out cm
          have cl := keep HB.out HX.out
          have hml := cell_lt cm
          have hll := cell_lt cl
          cases b
          · by_cases he : y = x
            · have h1 : ((y : Int) == x) = true := by simp [he]
              have HE := Lib.hid he
              clear he
              go_wp2_with fail
              refine wp_opaque fun Q2 hQ2 => ?_
              (refine wp_region_below (by kernel_rfl) (by kernel_rfl) ?_; (repeat (first | go_big_quiet_step (fail) | quiet_step (fail))); (refine wpQuiet_nil ?_; intro _ hw'; obtain ⟨xq, hw''⟩ := hw'; subst hw''))
              refine hQ2 _ _ _ ?_
              have hb := xq.2
              replace HB := Lib.hid (bThen HB.out hb)
              clear hb
              generalize xq.val = W4 at *
              go_wp2_with fail
              go_roundw
              case rel => exact ⟨n + 1, by omega, by go_num, ⟨_, rfl, Lib.hid (by rw [HS.out, HA.out, HE.out]; simp)⟩, HB⟩
              case measure => simp [intOf]; omega
            · have h1 : ((y : Int) == x) = false := by simp [he]
              have HE := Lib.hid he
              clear he
              go_wp2_with fail
              refine wp_opaque fun Q2 hQ2 => ?_
              (refine wp_region_below (by kernel_rfl) (by kernel_rfl) ?_; (repeat (first | go_big_quiet_step (fail) | quiet_step (fail))); (refine wpQuiet_nil ?_; intro _ hw'; obtain ⟨xq, hw''⟩ := hw'; subst hw''))
              refine hQ2 _ _ _ ?_
              have hb := xq.2
              replace HB := Lib.hid (bThen HB.out hb)
              clear hb
              generalize xq.val = W4 at *
              go_wp2_with fail
              go_roundw
              case rel => exact ⟨n + 1, by omega, by go_num, ⟨_, rfl, Lib.hid (by rw [HS.out, HA.out]; simp [HE.out])⟩, HB⟩
              case measure => simp [intOf]; omega
          · go_wp2_with fail
            refine wp_opaque fun Q2 hQ2 => ?_
            (refine wp_region_below (by kernel_rfl) (by kernel_rfl) ?_; (repeat (first | go_big_quiet_step (fail) | quiet_step (fail))); (refine wpQuiet_nil ?_; intro _ hw'; obtain ⟨xq, hw''⟩ := hw'; subst hw''))
            refine hQ2 _ _ _ ?_
            have hb := xq.2
            replace HB := Lib.hid (bThen HB.out hb)
            clear hb
            generalize xq.val = W4 at *
            go_wp2_with fail
            go_roundw
            case rel => exact ⟨n + 1, by omega, by go_num, ⟨_, rfl, Lib.hid (by rw [HS.out, HA.out]; simp)⟩, HB⟩
            case measure => simp [intOf]; omega
        · obtain rfl : n = M.length := by omega
          have hb1 : b = true := by have h := HA.out; rw [List.take_length] at h; rw [← h]; exact HMEM.out
          subst hb1
          go_wp2_with fail
          go_roundw
          case rel => exact ⟨k + 1, by omega, by go_num, HB⟩
          case measure => simp [intOf]; omega
    · go_wp2_with fail
      go_ret
      exact ⟨rfl, HB.out⟩
end Go.Proofs.Ytfcopnlpcbbocaa
