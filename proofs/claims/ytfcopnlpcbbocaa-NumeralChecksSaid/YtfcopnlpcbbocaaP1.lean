/- How a number is said, as functions: rules, forms, words with their reasons. -/
import Derived.Test.YtfcopnlpcbbocaaMem
namespace Go.Proofs.Ytfcopnlpcbbocaa
open Go.RowKit

def idxUp (l : List Rul) (n : Int) : Nat → Nat
  | 0 => 0
  | k + 1 => match l[k]? with
    | some r => if r.base ≤ n then k else idxUp l n k
    | none => idxUp l n k
/-- The index of the rule for a number. -/
def ruleIdx (l : List Rul) (n : Int) : Nat := idxUp l n l.length
def setOf (S : Sys) (i : Int) : List Rul := (S.sets[i.toNat]?).getD []
def ruleOf (S : Sys) (a : Ask) : Rul := ((setOf S a.set)[ruleIdx (setOf S a.set) a.num]?).getD ⟨0, 0, []⟩
def idxOf (S : Sys) (a : Ask) : Nat := ruleIdx (setOf S a.set) a.num
def quo (r : Rul) (n : Int) : Int := if r.div = 0 then 0 else n / r.div
def rst (r : Rul) (n : Int) : Int := if r.div = 0 then 0 else n % r.div
def agrees (g k c : Int) (f : Form) : Bool := (decide (f.gen = -1) || decide (f.gen = g)) && (decide (f.kas = -1) || decide (f.kas = k)) && (decide (f.cls = -1) || decide (f.cls = c))
def formOf (fs : List Form) (g k c : Int) : Option ByteArray := (fs.find? (agrees g k c)).map Form.txt
def termOf (S : Sys) (i : Int) : Term := (S.terms[i.toNat]?).getD ⟨0, []⟩
def countedGen (S : Sys) (l : List Pce) (g : Int) : Int := match l.find? (fun p => decide (p.kind = 2)) with
  | some p => (termOf S p.term).gen
  | none => g
def noSaid : Said := ⟨ByteArray.empty, 0, 0, 0, 0, 0⟩
abbrev Item := Said × Bool
/-- What a term is said as: a word and its reason; or that there is no form. -/
def sayItem (S : Sys) (a : Ask) (i : Nat) (d : Int) (term gen cnt : Int) : Item :=
  match formOf (termOf S term).forms gen a.kas (classOf cnt S.plurals) with
  | some t => (⟨t, a.num, a.set, idxOf S a, i, d⟩, true)
  | none => (noSaid, false)
def askQuo (S : Sys) (a : Ask) (set : Int) : Ask := ⟨quo (ruleOf S a) a.num, set, countedGen S (ruleOf S a).pieces a.gen, a.kas⟩
def askRst (S : Sys) (a : Ask) (set : Int) : Ask := ⟨rst (ruleOf S a) a.num, set, a.gen, a.kas⟩
def pieceItems (rec_ : Ask → Int → List Item) (S : Sys) (a : Ask) (d : Int) (p : Pce) (i : Nat) : List Item :=
  if p.kind = 1 then [sayItem S a i d p.term a.gen a.num]
  else if p.kind = 2 then [sayItem S a i d p.term (termOf S p.term).gen (quo (ruleOf S a) a.num)]
  else if p.kind = 3 then rec_ (askQuo S a p.set) (d + 1)
  else if p.kind = 4 then (if rst (ruleOf S a) a.num = 0 then [] else rec_ (askRst S a p.set) (d + 1))
  else if p.kind = 5 then (if rst (ruleOf S a) a.num = 0 ∨ (p.below ≠ 0 ∧ p.below ≤ rst (ruleOf S a) a.num) then [] else [sayItem S a i d p.term a.gen (rst (ruleOf S a) a.num)])
  else []
def piecesFrom (f : Pce → Nat → List Item) : List Pce → Nat → List Item
  | [], _ => []
  | p :: l, i => f p i ++ piecesFrom f l (i + 1)
def itemsF : Nat → Sys → Ask → Int → List Item
  | 0, _, _, _ => []
  | k + 1, S, a, d => piecesFrom (pieceItems (itemsF k S) S a d) (ruleOf S a).pieces 0
/-- All that is said for an ask, in order. -/
def items (S : Sys) (a : Ask) (d : Int) : List Item := itemsF (a.num.toNat + 1) S a d

/-! ### Which rule -/
theorem idxUp_ge {l : List Rul} {n : Int} {c : Nat} (hc : 1 ≤ c) (hl : c ≤ l.length) (h1 : ∀ i (h : i < l.length), i < c → l[i].base ≤ n) (h2 : ∀ i (h : i < l.length), c ≤ i → n < l[i].base) :
    ∀ k, c ≤ k → k ≤ l.length → idxUp l n k = c - 1
  | 0, h, _ => by omega
  | k + 1, h, hk => by
    have e : l[k]? = some l[k] := List.getElem?_eq_getElem (by omega)
    rw [idxUp, e]
    dsimp only
    by_cases hck : c ≤ k
    · have := h2 k (by omega) hck
      rw [if_neg (by omega)]
      exact idxUp_ge hc hl h1 h2 k hck (by omega)
    · rw [if_pos (h1 k (by omega) (by omega))]
      omega
theorem ruleIdx_eq {l : List Rul} {n : Int} {c : Nat} (hc : 1 ≤ c) (hl : c ≤ l.length) (h1 : ∀ i (h : i < l.length), i < c → l[i].base ≤ n) (h2 : ∀ i (h : i < l.length), c ≤ i → n < l[i].base) : ruleIdx l n = c - 1 :=
  idxUp_ge hc hl h1 h2 l.length hl (Nat.le_refl _)

/-! ### What a right system gives -/
structure Right (S : Sys) : Prop where
  ok : sysOk S = true
theorem Right.set {S : Sys} (h : Right S) {i : Int} (h0 : 0 ≤ i) (h1 : i < S.sets.length) : ∃ l, S.sets[i.toNat]? = some l ∧ setOf S i = l ∧ setOk S l = true := by
  have hlt : i.toNat < S.sets.length := by omega
  have e : S.sets[i.toNat]? = some S.sets[i.toNat] := List.getElem?_eq_getElem hlt
  refine ⟨_, e, by simp [setOf, e], ?_⟩
  have := h.ok
  simp only [sysOk, Bool.and_eq_true] at this
  exact (List.all_eq_true.1 this.2) _ (List.getElem_mem hlt)
theorem rising_lt : ∀ (l : List Rul), rising l = true → ∀ i j (hi : i < l.length) (hj : j < l.length), i < j → l[i].base < l[j].base
  | [], _, i, j, hi, _, _ => by simp at hi
  | [_], _, i, j, hi, hj, hij => by simp at hi hj; omega
  | a :: b :: l, h, i, j, hi, hj, hij => by
    simp only [rising, Bool.and_eq_true, decide_eq_true_eq] at h
    cases j with
    | zero => omega
    | succ j =>
      cases i with
      | zero =>
        show a.base < ((b :: l)[j]'(by simp only [List.length_cons] at hj ⊢; omega)).base
        cases j with
        | zero => exact h.1
        | succ j => exact Int.lt_trans h.1 (rising_lt (b :: l) h.2 0 (j + 1) (by simp) (by simp only [List.length_cons] at hj ⊢; omega) (by omega))
      | succ i => exact rising_lt (b :: l) h.2 i j (by simp only [List.length_cons] at hi ⊢; omega) (by simp only [List.length_cons] at hj ⊢; omega) (by omega)
theorem rising_le {l : List Rul} (h : rising l = true) : ∀ i j (hi : i < l.length) (hj : j < l.length), i ≤ j → l[i].base ≤ l[j].base := by
  intro i j hi hj hij
  by_cases e : i = j
  · subst e; exact Int.le_refl _
  · exact Int.le_of_lt (rising_lt l h i j hi hj (by omega))
structure SetRight (S : Sys) (l : List Rul) : Prop where
  ne : 1 ≤ l.length
  few : l.length ≤ 200
  first : ∀ h : 0 < l.length, l[0].base = 0
  mono : ∀ i j (hi : i < l.length) (hj : j < l.length), i ≤ j → l[i].base ≤ l[j].base
  rule : ∀ i (hi : i < l.length), rulOk S l[i] = true
theorem setRight_of {S : Sys} {l : List Rul} (h : setOk S l = true) : SetRight S l := by
  simp only [setOk, Bool.and_eq_true, betw, decide_eq_true_eq] at h
  obtain ⟨⟨⟨⟨⟨h1, h2⟩, h3⟩, _⟩, h5⟩, h6⟩ := h
  refine ⟨by omega, by omega, fun hl => ?_, rising_le h5, fun i hi => (List.all_eq_true.1 h6) _ (List.getElem_mem hi)⟩
  cases l with
  | nil => simp at hl
  | cons a l => simpa using h3
theorem ruleIdx_lt {S : Sys} {l : List Rul} (h : SetRight S l) {n : Int} (hn : 0 ≤ n) : ruleIdx l n < l.length ∧ ∀ hl : ruleIdx l n < l.length, l[ruleIdx l n].base ≤ n := by
  have key : ∀ k, 1 ≤ k → k ≤ l.length → idxUp l n k < l.length ∧ ∀ hl : idxUp l n k < l.length, l[idxUp l n k].base ≤ n := by
    intro k
    induction k with
    | zero => intro h; omega
    | succ k ih =>
      intro _ hk
      have e : l[k]? = some l[k] := List.getElem?_eq_getElem (by omega)
      simp only [idxUp, e]
      by_cases hb : l[k].base ≤ n
      · simp only [hb, if_true]; exact ⟨by omega, fun _ => trivial⟩
      · simp only [hb, if_false]
        by_cases h0 : k = 0
        · subst h0; have := h.first (by omega); omega
        · exact ih (by omega) (by omega)
  exact key l.length h.ne (Nat.le_refl _)
structure RuleRight (S : Sys) (r : Rul) (n : Int) : Prop where
  base : r.base ≤ n
  div : r.div = 0 ∨ (2 ≤ r.div ∧ r.div ≤ r.base)
  one : 1 ≤ r.pieces.length
  few : r.pieces.length ≤ 10
  piece : ∀ p ∈ r.pieces, pceOk S r p = true
  quos : kinds 3 r.pieces ≤ 1
  rests : kinds 4 r.pieces ≤ 1
  says : 1 ≤ certain r.pieces
structure AskRight (S : Sys) (a : Ask) : Prop where
  num : 0 ≤ a.num
  top : a.num ≤ 999999999999
  set : 0 ≤ a.set ∧ a.set < S.sets.length
  gen : 0 ≤ a.gen ∧ a.gen < S.genders
  kas : 0 ≤ a.kas ∧ a.kas < S.cases
theorem rule_right {S : Sys} (h : Right S) {a : Ask} (ha : AskRight S a) :
    ∃ l, S.sets[a.set.toNat]? = some l ∧ setOf S a.set = l ∧ SetRight S l ∧ idxOf S a < l.length ∧ (∀ hl : idxOf S a < l.length, l[idxOf S a] = ruleOf S a) ∧ RuleRight S (ruleOf S a) a.num := by
  obtain ⟨l, h1, h2, h3⟩ := h.set ha.set.1 ha.set.2
  have hs := setRight_of h3
  obtain ⟨hi, hb⟩ := ruleIdx_lt hs ha.num
  have e : ruleOf S a = l[ruleIdx l a.num] := by
    simp [ruleOf, h2, List.getElem?_eq_getElem hi]
  have hr := hs.rule _ hi
  refine ⟨l, h1, h2, hs, by simpa [idxOf, h2] using hi, fun hl => ?_, ?_⟩
  · rw [e]; simp [idxOf, h2]
  · rw [e]
    simp only [rulOk, Bool.and_eq_true, Bool.or_eq_true, betw, decide_eq_true_eq] at hr
    obtain ⟨⟨⟨⟨⟨r1, r2⟩, r3⟩, r4⟩, r5⟩, r6⟩ := hr
    exact ⟨hb hi, r1, by omega, by omega, fun p hp => (List.all_eq_true.1 r3) p hp, r4, r5, r6⟩
end Go.Proofs.Ytfcopnlpcbbocaa
