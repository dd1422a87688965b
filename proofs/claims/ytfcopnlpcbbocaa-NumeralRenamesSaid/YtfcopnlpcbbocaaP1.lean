/- How a number is said, as functions: rules, forms, words with their reasons. -/
import Derived.Test.YtfcopnlpcbbocaaMem
set_option linter.unusedSimpArgs false
set_option linter.unusedVariables false
namespace Go.Proofs.Ytfcopnlpcbbocaa
open Go.RowKit

def idxUp (l : List Rul) (n : Int) : Nat → Nat
  | 0 => 0
  | k + 1 => match l[k]? with
    | some r => if r.base ≤ n then k else idxUp l n k
    | none => idxUp l n k
/-- The index of the rule for a number. -/
def ruleIdx (l : List Rul) (n : Int) : Nat := idxUp l n l.length
def setOf (S : Sys) (i : Int) : List Rul := (S.sets[i.toNat]?).getD []
def ruleOf (S : Sys) (a : Ask) : Rul := ((setOf S a.set)[ruleIdx (setOf S a.set) a.num]?).getD ⟨0, 0, []⟩
def idxOf (S : Sys) (a : Ask) : Nat := ruleIdx (setOf S a.set) a.num
def quo (r : Rul) (n : Int) : Int := if r.div = 0 then 0 else n / r.div
def rst (r : Rul) (n : Int) : Int := if r.div = 0 then 0 else n % r.div
def agrees (g k c : Int) (f : Form) : Bool := (decide (f.gen = -1) || decide (f.gen = g)) && (decide (f.kas = -1) || decide (f.kas = k)) && (decide (f.cls = -1) || decide (f.cls = c))
def formOf (fs : List Form) (g k c : Int) : Option ByteArray := (fs.find? (agrees g k c)).map Form.txt
def termOf (S : Sys) (i : Int) : Term := (S.terms[i.toNat]?).getD ⟨0, []⟩
def countedGen (S : Sys) (l : List Pce) (g : Int) : Int := match l.find? (fun p => decide (p.kind = 2)) with
  | some p => (termOf S p.term).gen
  | none => g
def noSaid : Said := ⟨ByteArray.empty, 0, 0, 0, 0, 0⟩
abbrev Item := Said × Bool
/-- What a term is said as: a word and its reason; or that there is no form. -/
def sayItem (S : Sys) (a : Ask) (i : Nat) (d : Int) (term gen cnt : Int) : Item :=
  match formOf (termOf S term).forms gen a.kas (classOf cnt S.plurals) with
  | some t => (⟨t, a.num, a.set, idxOf S a, i, d⟩, true)
  | none => (noSaid, false)
def askQuo (S : Sys) (a : Ask) (set : Int) : Ask := ⟨quo (ruleOf S a) a.num, set, countedGen S (ruleOf S a).pieces a.gen, a.kas⟩
def askRst (S : Sys) (a : Ask) (set : Int) : Ask := ⟨rst (ruleOf S a) a.num, set, a.gen, a.kas⟩
def pieceItems (rec_ : Ask → Int → List Item) (S : Sys) (a : Ask) (d : Int) (p : Pce) (i : Nat) : List Item :=
  if p.kind = 1 then [sayItem S a i d p.term a.gen a.num]
  else if p.kind = 2 then [sayItem S a i d p.term (termOf S p.term).gen (quo (ruleOf S a) a.num)]
  else if p.kind = 3 then rec_ (askQuo S a p.set) (d + 1)
  else if p.kind = 4 then (if rst (ruleOf S a) a.num = 0 then [] else rec_ (askRst S a p.set) (d + 1))
  else if p.kind = 5 then (if rst (ruleOf S a) a.num = 0 ∨ (p.below ≠ 0 ∧ p.below ≤ rst (ruleOf S a) a.num) then [] else [sayItem S a i d p.term a.gen (rst (ruleOf S a) a.num)])
  else []
def piecesFrom (f : Pce → Nat → List Item) : List Pce → Nat → List Item
  | [], _ => []
  | p :: l, i => f p i ++ piecesFrom f l (i + 1)
def itemsF : Nat → Sys → Ask → Int → List Item
  | 0, _, _, _ => []
  | k + 1, S, a, d => piecesFrom (pieceItems (itemsF k S) S a d) (ruleOf S a).pieces 0
/-- All that is said for an ask, in order. -/
def items (S : Sys) (a : Ask) (d : Int) : List Item := itemsF (a.num.toNat + 1) S a d

/-! ### Which rule -/
theorem idxUp_ge {l : List Rul} {n : Int} {c : Nat} (hc : 1 ≤ c) (hl : c ≤ l.length) (h1 : ∀ i (h : i < l.length), i < c → l[i].base ≤ n) (h2 : ∀ i (h : i < l.length), c ≤ i → n < l[i].base) :
    ∀ k, c ≤ k → k ≤ l.length → idxUp l n k = c - 1
  | 0, h, _ => by omega
  | k + 1, h, hk => by
    have e : l[k]? = some l[k] := List.getElem?_eq_getElem (by omega)
    rw [idxUp, e]
    dsimp only
    by_cases hck : c ≤ k
    · have := h2 k (by omega) hck
      rw [if_neg (by omega)]
      exact idxUp_ge hc hl h1 h2 k hck (by omega)
    · rw [if_pos (h1 k (by omega) (by omega))]
      omega
theorem ruleIdx_eq {l : List Rul} {n : Int} {c : Nat} (hc : 1 ≤ c) (hl : c ≤ l.length) (h1 : ∀ i (h : i < l.length), i < c → l[i].base ≤ n) (h2 : ∀ i (h : i < l.length), c ≤ i → n < l[i].base) : ruleIdx l n = c - 1 :=
  idxUp_ge hc hl h1 h2 l.length hl (Nat.le_refl _)

/-! ### What a right system gives -/
structure Right (S : Sys) : Prop where
  ok : sysOk S = true
theorem Right.set {S : Sys} (h : Right S) {i : Int} (h0 : 0 ≤ i) (h1 : i < S.sets.length) : ∃ l, S.sets[i.toNat]? = some l ∧ setOf S i = l ∧ setOk S l = true := by
  have hlt : i.toNat < S.sets.length := by omega
  have e : S.sets[i.toNat]? = some S.sets[i.toNat] := List.getElem?_eq_getElem hlt
  refine ⟨_, e, by simp [setOf, e], ?_⟩
  have := h.ok
  simp only [sysOk, Bool.and_eq_true] at this
  exact (List.all_eq_true.1 this.2) _ (List.getElem_mem hlt)
theorem rising_lt : ∀ (l : List Rul), rising l = true → ∀ i j (hi : i < l.length) (hj : j < l.length), i < j → l[i].base < l[j].base
  | [], _, i, j, hi, _, _ => by simp at hi
  | [_], _, i, j, hi, hj, hij => by simp at hi hj; omega
  | a :: b :: l, h, i, j, hi, hj, hij => by
    simp only [rising, Bool.and_eq_true, decide_eq_true_eq] at h
    cases j with
    | zero => omega
    | succ j =>
      cases i with
      | zero =>
        show a.base < ((b :: l)[j]'(by simp only [List.length_cons] at hj ⊢; omega)).base
        cases j with
        | zero => exact h.1
        | succ j => exact Int.lt_trans h.1 (rising_lt (b :: l) h.2 0 (j + 1) (by simp) (by simp only [List.length_cons] at hj ⊢; omega) (by omega))
      | succ i => exact rising_lt (b :: l) h.2 i j (by simp only [List.length_cons] at hi ⊢; omega) (by simp only [List.length_cons] at hj ⊢; omega) (by omega)
theorem rising_le {l : List Rul} (h : rising l = true) : ∀ i j (hi : i < l.length) (hj : j < l.length), i ≤ j → l[i].base ≤ l[j].base := by
  intro i j hi hj hij
  by_cases e : i = j
  · subst e; exact Int.le_refl _
  · exact Int.le_of_lt (rising_lt l h i j hi hj (by omega))
structure SetRight (S : Sys) (l : List Rul) : Prop where
  ne : 1 ≤ l.length
  few : l.length ≤ 200
  first : ∀ h : 0 < l.length, l[0].base = 0
  mono : ∀ i j (hi : i < l.length) (hj : j < l.length), i ≤ j → l[i].base ≤ l[j].base
  rule : ∀ i (hi : i < l.length), rulOk S l[i] = true
theorem setRight_of {S : Sys} {l : List Rul} (h : setOk S l = true) : SetRight S l := by
  simp only [setOk, Bool.and_eq_true, betw, decide_eq_true_eq] at h
  obtain ⟨⟨⟨⟨⟨h1, h2⟩, h3⟩, _⟩, h5⟩, h6⟩ := h
  refine ⟨by omega, by omega, fun hl => ?_, rising_le h5, fun i hi => (List.all_eq_true.1 h6) _ (List.getElem_mem hi)⟩
  cases l with
  | nil => simp at hl
  | cons a l => simpa using h3
theorem ruleIdx_lt {S : Sys} {l : List Rul} (h : SetRight S l) {n : Int} (hn : 0 ≤ n) : ruleIdx l n < l.length ∧ ∀ hl : ruleIdx l n < l.length, l[ruleIdx l n].base ≤ n := by
  have key : ∀ k, 1 ≤ k → k ≤ l.length → idxUp l n k < l.length ∧ ∀ hl : idxUp l n k < l.length, l[idxUp l n k].base ≤ n := by
    intro k
    induction k with
    | zero => intro h; omega
    | succ k ih =>
      intro _ hk
      have e : l[k]? = some l[k] := List.getElem?_eq_getElem (by omega)
      simp only [idxUp, e]
      by_cases hb : l[k].base ≤ n
      · simp only [hb, if_true]; exact ⟨by omega, fun _ => trivial⟩
      · simp only [hb, if_false]
        by_cases h0 : k = 0
        · subst h0; have := h.first (by omega); omega
        · exact ih (by omega) (by omega)
  exact key l.length h.ne (Nat.le_refl _)
structure RuleRight (S : Sys) (r : Rul) (n : Int) : Prop where
  base : r.base ≤ n
  div : r.div = 0 ∨ (2 ≤ r.div ∧ r.div ≤ r.base)
  one : 1 ≤ r.pieces.length
  few : r.pieces.length ≤ 10
  piece : ∀ p ∈ r.pieces, pceOk S r p = true
  quos : kinds 3 r.pieces ≤ 1
  rests : kinds 4 r.pieces ≤ 1
  says : 1 ≤ certain r.pieces
structure AskRight (S : Sys) (a : Ask) : Prop where
  num : 0 ≤ a.num
  top : a.num ≤ 999999999999
  set : 0 ≤ a.set ∧ a.set < S.sets.length
  gen : 0 ≤ a.gen ∧ a.gen < S.genders
  kas : 0 ≤ a.kas ∧ a.kas < S.cases
theorem rule_right {S : Sys} (h : Right S) {a : Ask} (ha : AskRight S a) :
    ∃ l, S.sets[a.set.toNat]? = some l ∧ setOf S a.set = l ∧ SetRight S l ∧ idxOf S a < l.length ∧ (∀ hl : idxOf S a < l.length, l[idxOf S a] = ruleOf S a) ∧ RuleRight S (ruleOf S a) a.num := by
  obtain ⟨l, h1, h2, h3⟩ := h.set ha.set.1 ha.set.2
  have hs := setRight_of h3
  obtain ⟨hi, hb⟩ := ruleIdx_lt hs ha.num
  have e : ruleOf S a = l[ruleIdx l a.num] := by
    simp [ruleOf, h2, List.getElem?_eq_getElem hi]
  have hr := hs.rule _ hi
  refine ⟨l, h1, h2, hs, by simpa [idxOf, h2] using hi, fun hl => ?_, ?_⟩
  · rw [e]; simp [idxOf, h2]
  · rw [e]
    simp only [rulOk, Bool.and_eq_true, Bool.or_eq_true, betw, decide_eq_true_eq] at hr
    obtain ⟨⟨⟨⟨⟨r1, r2⟩, r3⟩, r4⟩, r5⟩, r6⟩ := hr
    exact ⟨hb hi, r1, by omega, by omega, fun p hp => (List.all_eq_true.1 r3) p hp, r4, r5, r6⟩
end Go.Proofs.Ytfcopnlpcbbocaa
/- The smaller asks of a right ask are right, and smaller. -/
namespace Go.Proofs.Ytfcopnlpcbbocaa

theorem pce_div {S : Sys} {r : Rul} {p : Pce} (h : pceOk S r p = true) (hk : p.kind ≠ 1) : r.div ≠ 0 := by
  intro h0
  simp [pceOk, h0, hk] at h
theorem pce_term {S : Sys} {r : Rul} {p : Pce} (h : pceOk S r p = true) (hk : p.kind = 1 ∨ p.kind = 2 ∨ p.kind = 5) : 0 ≤ p.term ∧ p.term < S.terms.length := by
  unfold pceOk at h
  split at h
  · cases h
  split at h
  · simp only [exst, Bool.and_eq_true, decide_eq_true_eq] at h; exact h.1.1
  split at h
  · omega
  split at h
  · simp only [exst, Bool.and_eq_true, decide_eq_true_eq] at h; exact h.1.1
  · cases h
theorem pce_set {S : Sys} {r : Rul} {p : Pce} (h : pceOk S r p = true) (hk : p.kind = 3 ∨ p.kind = 4) : 0 ≤ p.set ∧ p.set < S.sets.length := by
  unfold pceOk at h
  split at h
  · cases h
  split at h
  · omega
  · simp only [exst, Bool.and_eq_true, decide_eq_true_eq] at h; exact h.1.1
theorem pce_kind {S : Sys} {r : Rul} {p : Pce} (h : pceOk S r p = true) : p.kind = 1 ∨ p.kind = 2 ∨ p.kind = 3 ∨ p.kind = 4 ∨ p.kind = 5 := by
  unfold pceOk at h
  split at h
  · cases h
  split at h
  · omega
  split at h
  · omega
  split at h
  · omega
  · cases h
theorem Right.gen {S : Sys} (h : Right S) {i : Int} (h0 : 0 ≤ i) (h1 : i < S.terms.length) : 0 ≤ (Ytfcopnlpcbbocaa.termOf S i).gen ∧ (Ytfcopnlpcbbocaa.termOf S i).gen < S.genders := by
  have hlt : i.toNat < S.terms.length := by omega
  have e : Ytfcopnlpcbbocaa.termOf S i = S.terms[i.toNat] := by simp [Ytfcopnlpcbbocaa.termOf, List.getElem?_eq_getElem hlt]
  have := h.ok
  simp only [sysOk, Bool.and_eq_true] at this
  have hh := (List.all_eq_true.1 this.1.1.2) _ (List.getElem_mem hlt)
  simp only [termOk, exst, Bool.and_eq_true, decide_eq_true_eq] at hh
  rw [e]; exact hh.1.1
theorem quo_lt {S : Sys} {r : Rul} {n : Int} (hr : RuleRight S r n) (hd : r.div ≠ 0) : 0 ≤ quo r n ∧ quo r n < n ∧ 0 ≤ rst r n ∧ rst r n < n ∧ (quo r n + 1) * (rst r n + 1) ≤ n + 1 := by
  have h2 : 2 ≤ r.div ∧ r.div ≤ r.base := hr.div.resolve_left hd
  have hb := hr.base
  simp only [quo, rst, if_neg hd]
  have e := Int.mul_ediv_add_emod n r.div
  have m0 := Int.emod_nonneg n hd
  have m1 := Int.emod_lt_of_pos n (show 0 < r.div by omega)
  have q1 : 1 ≤ n / r.div := (Int.le_ediv_iff_mul_le (by omega)).2 (by omega)
  generalize n / r.div = q at *
  generalize n % r.div = s at *
  refine ⟨by omega, ?_, m0, by omega, ?_⟩
  · have : 2 * q ≤ r.div * q := Int.mul_le_mul_of_nonneg_right h2.1 (by omega)
    omega
  · have h3 : (s + 1) * q ≤ r.div * q := Int.mul_le_mul_of_nonneg_right (by omega) (by omega)
    have h4 : (q + 1) * (s + 1) = (s + 1) * q + (s + 1) := by rw [Int.mul_comm, Int.mul_add, Int.mul_one]
    omega
theorem askRst_right {S : Sys} (h : Right S) {a : Ask} (ha : AskRight S a) {p : Pce} (hp : p ∈ (ruleOf S a).pieces) (hk : p.kind = 4) : AskRight S (askRst S a p.set) ∧ (askRst S a p.set).num < a.num := by
  obtain ⟨-, -, -, -, -, -, hr⟩ := rule_right h ha
  have hd := pce_div (hr.piece p hp) (by omega)
  have hq := quo_lt hr hd
  have := ha.top
  exact ⟨⟨hq.2.2.1, by simp only [askRst]; omega, pce_set (hr.piece p hp) (.inr hk), ha.gen, ha.kas⟩, hq.2.2.2.1⟩
theorem countedGen_right {S : Sys} (h : Right S) {r : Rul} {g : Int} (hg : 0 ≤ g ∧ g < S.genders) (l : List Pce) (hl : ∀ p ∈ l, pceOk S r p = true) : 0 ≤ countedGen S l g ∧ countedGen S l g < S.genders := by
  unfold countedGen
  split
  · rename_i p hp
    have h2 := List.find?_some hp
    have hm := List.mem_of_find?_eq_some hp
    have ht := pce_term (hl p hm) (by simp at h2; omega)
    exact h.gen ht.1 ht.2
  · exact hg
theorem askQuo_right {S : Sys} (h : Right S) {a : Ask} (ha : AskRight S a) {p : Pce} (hp : p ∈ (ruleOf S a).pieces) (hk : p.kind = 3) : AskRight S (askQuo S a p.set) ∧ (askQuo S a p.set).num < a.num := by
  obtain ⟨-, -, -, -, -, -, hr⟩ := rule_right h ha
  have hd := pce_div (hr.piece p hp) (by omega)
  have hq := quo_lt hr hd
  have := ha.top
  exact ⟨⟨hq.1, by simp only [askQuo]; omega, pce_set (hr.piece p hp) (.inl hk), countedGen_right h ha.gen _ hr.piece, ha.kas⟩, hq.2.1⟩
end Go.Proofs.Ytfcopnlpcbbocaa
/- Words of a number, piece by piece. -/
namespace Go.Proofs.Ytfcopnlpcbbocaa

theorem piecesFrom_append (f : Pce → Nat → List Item) : ∀ (l m : List Pce) (i : Nat), piecesFrom f (l ++ m) i = piecesFrom f l i ++ piecesFrom f m (i + l.length)
  | [], m, i => by simp [piecesFrom]
  | p :: l, m, i => by
    simp only [List.cons_append, piecesFrom, List.length_cons]
    rw [piecesFrom_append f l m (i + 1), List.append_assoc, show i + 1 + l.length = i + (l.length + 1) by omega]
/-- What the first k pieces say. -/
def saidTo (f : Pce → Nat → List Item) (l : List Pce) (k : Nat) : List Item := piecesFrom f (l.take k) 0
theorem saidTo_zero (f : Pce → Nat → List Item) (l : List Pce) : saidTo f l 0 = [] := by simp [saidTo, piecesFrom]
theorem saidTo_succ (f : Pce → Nat → List Item) (l : List Pce) (k : Nat) (h : k < l.length) : saidTo f l (k + 1) = saidTo f l k ++ f l[k] k := by
  unfold saidTo
  rw [take_succ l k h, piecesFrom_append]
  simp [piecesFrom, List.length_take, Nat.min_eq_left (Nat.le_of_lt h)]
theorem saidTo_all (f : Pce → Nat → List Item) (l : List Pce) : saidTo f l l.length = piecesFrom f l 0 := by simp [saidTo]
theorem saidTo_split (f : Pce → Nat → List Item) (l : List Pce) (k : Nat) : piecesFrom f l 0 = saidTo f l k ++ piecesFrom f (l.drop k) (l.take k).length := by
  unfold saidTo
  have := piecesFrom_append f (l.take k) (l.drop k) 0
  rw [List.take_append_drop] at this
  rw [this]; simp
theorem saidTo_len (f : Pce → Nat → List Item) (l : List Pce) (k : Nat) (h : k < l.length) : (saidTo f l k).length + (f l[k] k).length ≤ (piecesFrom f l 0).length := by
  have := congrArg List.length (saidTo_split f l (k + 1))
  rw [saidTo_succ f l k h, List.length_append, List.length_append] at this
  omega
theorem itemsF_succ (k : Nat) (S : Sys) (a : Ask) (d : Int) : itemsF (k + 1) S a d = piecesFrom (pieceItems (itemsF k S) S a d) (ruleOf S a).pieces 0 := rfl
theorem says_find {n : Int} (h : n = 1 ∨ n = 2 ∨ n = 3 ∨ n = 4 ∨ n = 5) : 1 ≤ n ∧ n ≤ 5 := by omega
end Go.Proofs.Ytfcopnlpcbbocaa
/- No number has many words. -/
namespace Go.Proofs.Ytfcopnlpcbbocaa

/-- How many rules are used for a number, at most. -/
def mx (n : Nat) : Nat := Nat.log2 ((n + 1) ^ 2) - 1
theorem sq_ne (n : Nat) : (n + 1) ^ 2 ≠ 0 := by simp [Nat.pow_succ]
theorem mx_spec {n : Nat} (h : 1 ≤ n) : 2 ^ (mx n + 1) ≤ (n + 1) ^ 2 ∧ 1 ≤ mx n := by
  have h4 : 2 ^ 2 ≤ (n + 1) ^ 2 := Nat.pow_le_pow_left (by omega) 2
  have hl : 2 ≤ Nat.log2 ((n + 1) ^ 2) := (Nat.le_log2 (sq_ne n)).2 h4
  refine ⟨?_, by unfold mx; omega⟩
  have e : mx n + 1 = Nat.log2 ((n + 1) ^ 2) := by unfold mx; omega
  rw [e]
  exact Nat.log2_self_le (sq_ne n)
theorem le_mx {n m : Nat} (h : 2 ^ (m + 1) ≤ (n + 1) ^ 2) : m ≤ mx n := by
  have := (Nat.le_log2 (sq_ne n)).2 h
  unfold mx; omega
theorem mx_two {n q r : Nat} (hq : 1 ≤ q) (hr : 1 ≤ r) (h : (q + 1) * (r + 1) ≤ n + 1) : 1 + mx q + mx r ≤ mx n := by
  refine le_mx ?_
  have h1 := (mx_spec hq).1
  have h2 := (mx_spec hr).1
  calc 2 ^ (1 + mx q + mx r + 1) = 2 ^ (mx q + 1) * 2 ^ (mx r + 1) := by rw [← Nat.pow_add]; congr 1; omega
    _ ≤ (q + 1) ^ 2 * (r + 1) ^ 2 := Nat.mul_le_mul h1 h2
    _ = ((q + 1) * (r + 1)) ^ 2 := by rw [Nat.mul_pow]
    _ ≤ (n + 1) ^ 2 := Nat.pow_le_pow_left h 2
theorem mx_one {n q : Nat} (hq : 1 ≤ q) (h : 2 * q ≤ n) : 1 + mx q ≤ mx n := by
  refine le_mx ?_
  have h1 := (mx_spec hq).1
  have h2 : 2 * (q + 1) ^ 2 ≤ (2 * q + 1) ^ 2 := by
    have h4 : q ≤ q * q := by
      have := Nat.mul_le_mul_left q hq
      omega
    have e1 : (q + 1) ^ 2 = q * q + 2 * q + 1 := by rw [Nat.pow_two, Nat.mul_add, Nat.add_mul]; omega
    have e2 : (2 * q + 1) ^ 2 = 4 * (q * q) + 4 * q + 1 := by
      rw [Nat.pow_two, Nat.mul_add, Nat.add_mul]
      have : 2 * q * (2 * q) = 4 * (q * q) := by rw [Nat.mul_assoc, Nat.mul_left_comm q 2 q, ← Nat.mul_assoc]
      omega
    rw [e1, e2]; omega
  calc 2 ^ (1 + mx q + 1) = 2 * 2 ^ (mx q + 1) := by rw [Nat.add_comm 1, Nat.pow_succ 2 (mx q + 1), Nat.mul_comm]
    _ ≤ 2 * (q + 1) ^ 2 := Nat.mul_le_mul_left 2 h1
    _ ≤ (2 * q + 1) ^ 2 := h2
    _ ≤ (n + 1) ^ 2 := Nat.pow_le_pow_left (by omega) 2
theorem mx_top {n : Nat} (h : n ≤ 999999999999) : mx n ≤ 82 := by
  by_cases h0 : 1 ≤ n
  · have h1 := (mx_spec h0).1
    have h2 : (n + 1) ^ 2 ≤ 1000000000000 ^ 2 := Nat.pow_le_pow_left (by omega) 2
    by_cases hc : mx n ≤ 82
    · exact hc
    · have h3 : 2 ^ 84 ≤ 2 ^ (mx n + 1) := Nat.pow_le_pow_right (by omega) (by omega)
      have h4 : (1000000000000 : Nat) ^ 2 < 2 ^ 84 := by decide
      omega
  · have : n = 0 := by omega
    subst this; decide

theorem piecesFrom_len (f : Pce → Nat → List Item) (Lq Lr : Nat) : ∀ (l : List Pce) (i : Nat),
    (∀ p ∈ l, ∀ i, (f p i).length ≤ (if p.kind = 3 then Lq else if p.kind = 4 then Lr else 1)) → (piecesFrom f l i).length ≤ l.length + kinds 3 l * Lq + kinds 4 l * Lr
  | [], i, _ => by simp [piecesFrom]
  | p :: l, i, h => by
    have ih := piecesFrom_len f Lq Lr l (i + 1) (fun p' hp' => h p' (List.mem_cons_of_mem _ hp'))
    have h1 := h p (List.mem_cons_self ..) i
    simp only [piecesFrom, List.length_append, List.length_cons]
    have e3 : kinds 3 (p :: l) = kinds 3 l + if p.kind = 3 then 1 else 0 := by unfold kinds; by_cases hk : p.kind = 3 <;> simp [hk]
    have e4 : kinds 4 (p :: l) = kinds 4 l + if p.kind = 4 then 1 else 0 := by unfold kinds; by_cases hk : p.kind = 4 <;> simp [hk]
    rw [e3, e4, Nat.add_mul, Nat.add_mul]
    by_cases h3 : p.kind = 3
    · rw [if_pos h3] at h1
      rw [if_pos h3, if_neg (by omega)]; omega
    · rw [if_neg h3] at h1
      by_cases h4 : p.kind = 4
      · rw [if_pos h4] at h1
        rw [if_neg h3, if_pos h4]; omega
      · rw [if_neg h4] at h1
        rw [if_neg h3, if_neg h4]; omega

theorem kinds_zero {S : Sys} {r : Rul} (h0 : r.div = 0) (k : Int) (hk : k ≠ 1) : ∀ l : List Pce, (∀ p ∈ l, pceOk S r p = true) → kinds k l = 0
  | [], _ => rfl
  | p :: l, h => by
    have ih := kinds_zero h0 k hk l (fun p' hp' => h p' (List.mem_cons_of_mem _ hp'))
    have h1 := h p (List.mem_cons_self ..)
    have hp : p.kind = 1 := by
      by_cases hp : p.kind = 1
      · exact hp
      · exact absurd h0 (pce_div h1 hp)
    unfold kinds at ih ⊢
    rw [List.filter_cons_of_neg (by simp; omega)]
    exact ih

def LB (n : Int) : Nat := if n = 0 then 10 else 10 * mx n.toNat
theorem items_len {S : Sys} (hS : Right S) : ∀ (k : Nat) (a : Ask) (d : Int), AskRight S a → (itemsF k S a d).length ≤ LB a.num
  | 0, a, d, _ => by simp [itemsF]
  | k + 1, a, d, ha => by
    obtain ⟨-, -, -, -, -, -, hr⟩ := rule_right hS ha
    have hn := ha.num
    rw [itemsF_succ]
    by_cases hd : (ruleOf S a).div = 0
    · have hl := piecesFrom_len (pieceItems (itemsF k S) S a d) 0 0 (ruleOf S a).pieces 0 (fun p hp i => by
        have hk : p.kind = 1 := by
          by_cases hk : p.kind = 1
          · exact hk
          · exact absurd hd (pce_div (hr.piece p hp) hk)
        simp [pieceItems, hk])
      have := hr.few
      unfold LB
      by_cases h0 : a.num = 0
      · rw [if_pos h0]; omega
      · rw [if_neg h0]
        have := (mx_spec (n := a.num.toNat) (by omega)).2
        omega
    · have hq := quo_lt hr hd
      have q1 : 1 ≤ quo (ruleOf S a) a.num := by
        simp only [quo, if_neg hd]
        have h2 := hr.div.resolve_left hd
        have := hr.base
        exact (Int.le_ediv_iff_mul_le (by omega)).2 (by omega)
      have n1 : 1 ≤ a.num := by omega
      obtain ⟨q, eq⟩ := Int.eq_ofNat_of_zero_le hq.1
      obtain ⟨r, er⟩ := Int.eq_ofNat_of_zero_le hq.2.2.1
      obtain ⟨n, en⟩ := Int.eq_ofNat_of_zero_le hn
      have hprod : (q + 1) * (r + 1) ≤ n + 1 := by
        have := hq.2.2.2.2
        rw [eq, er, en] at this
        exact_mod_cast this
      have hLq : ∀ p ∈ (ruleOf S a).pieces, p.kind = 3 → (itemsF k S (askQuo S a p.set) (d + 1)).length ≤ 10 * mx q := fun p hp hk => by
        have := items_len hS k (askQuo S a p.set) (d + 1) (askQuo_right hS ha hp hk).1
        have e : (askQuo S a p.set).num = (q : Int) := eq
        rw [e] at this
        unfold LB at this
        rw [if_neg (by omega)] at this
        simpa using this
      have hLr : ∀ p ∈ (ruleOf S a).pieces, p.kind = 4 → (if rst (ruleOf S a) a.num = 0 then [] else itemsF k S (askRst S a p.set) (d + 1)).length ≤ (if r = 0 then 0 else 10 * mx r) := fun p hp hk => by
        by_cases h0 : r = 0
        · rw [if_pos (by omega)]; simp
        · rw [if_neg (by omega), if_neg h0]
          have := items_len hS k (askRst S a p.set) (d + 1) (askRst_right hS ha hp hk).1
          have e : (askRst S a p.set).num = (r : Int) := er
          rw [e] at this
          unfold LB at this
          rw [if_neg (by omega)] at this
          simpa using this
      have hl := piecesFrom_len (pieceItems (itemsF k S) S a d) (10 * mx q) (if r = 0 then 0 else 10 * mx r) (ruleOf S a).pieces 0 (fun p hp i => by
        by_cases h3 : p.kind = 3
        · rw [if_pos h3]; simp only [pieceItems, if_neg (show ¬ p.kind = 1 by omega), if_neg (show ¬ p.kind = 2 by omega), if_pos h3]; exact hLq p hp h3
        · rw [if_neg h3]
          by_cases h4 : p.kind = 4
          · rw [if_pos h4]; simp only [pieceItems, if_neg (show ¬ p.kind = 1 by omega), if_neg (show ¬ p.kind = 2 by omega), if_neg h3, if_pos h4]; exact hLr p hp h4
          · rw [if_neg h4]
            unfold pieceItems
            split
            · simp
            split
            · simp
            split
            · split <;> simp
            · simp)
      have h3 := hr.quos
      have h4 := hr.rests
      have hf := hr.few
      have hLB : LB a.num = 10 * mx n := by unfold LB; rw [if_neg (by omega), en]; simp
      rw [hLB]
      have b3 : kinds 3 (ruleOf S a).pieces * (10 * mx q) ≤ 10 * mx q := by
        have := Nat.mul_le_mul_right (10 * mx q) h3
        omega
      have b4 : kinds 4 (ruleOf S a).pieces * (if r = 0 then 0 else 10 * mx r) ≤ (if r = 0 then 0 else 10 * mx r) := by
        have := Nat.mul_le_mul_right (if r = 0 then 0 else 10 * mx r) h4
        omega
      by_cases h0 : r = 0
      · rw [if_pos h0] at hl b4
        have h2q : 2 * q ≤ n := by
          have h2 := (hr.div.resolve_left hd).1
          have e := Int.mul_ediv_add_emod a.num (ruleOf S a).div
          have eq' : a.num / (ruleOf S a).div = (q : Int) := by simpa [quo, hd] using eq
          have m0 := Int.emod_nonneg a.num hd
          rw [eq'] at e
          have : 2 * (q : Int) ≤ (ruleOf S a).div * q := Int.mul_le_mul_of_nonneg_right h2 (by omega)
          omega
        have := mx_one (by omega) h2q
        omega
      · rw [if_neg h0] at hl b4
        have := mx_two (by omega) (by omega) hprod
        omega
theorem items_few {S : Sys} (hS : Right S) {a : Ask} (ha : AskRight S a) (d : Int) : (items S a d).length ≤ 1000000 := by
  have h := items_len hS (a.num.toNat + 1) a d ha
  have h1 := ha.num
  have h2 := ha.top
  have h3 := mx_top (n := a.num.toNat) (by omega)
  unfold items
  unfold LB at h
  split at h <;> omega
end Go.Proofs.Ytfcopnlpcbbocaa
