/- The maths of twins as they are found: keys out of words, the first number of each key, the twins in order. -/
import Derived.Test.YtfcopnlpcbbocaaR29
import Derived.Test.YtfcopnlpcbbocaaR14
import Derived.Lib.Join
import Derived.Maps.Views
set_option linter.unusedSimpArgs false
set_option linter.unusedVariables false
namespace Go.Proofs.Ytfcopnlpcbbocaa
open Go.RowKit Go.Maps

/-! ### Words are texts of forms -/
theorem formOf_ok {S : Sys} (hS : Right S) {i g k c : Int} {t : ByteArray} (h : formOf (termOf S i).forms g k c = some t) : textOk t = true := by
  unfold formOf at h
  obtain ⟨f, hf, rfl⟩ := Option.map_eq_some_iff.1 h
  have hm := List.mem_of_find?_eq_some hf
  unfold termOf at hm
  cases he : S.terms[i.toNat]? with
  | none => rw [he] at hm; simp at hm
  | some T =>
    rw [he] at hm
    have h1 := hS.ok
    simp only [sysOk, Bool.and_eq_true] at h1
    have hT := (List.all_eq_true.1 h1.1.1.2) T (List.mem_of_getElem? he)
    simp only [termOk, Bool.and_eq_true] at hT
    have hF := (List.all_eq_true.1 hT.2) f hm
    simp only [formOk, Bool.and_eq_true] at hF
    exact hF.2
theorem sayItem_ok {S : Sys} (hS : Right S) {a : Ask} {i : Nat} {d term gen cnt : Int} (h : (sayItem S a i d term gen cnt).2 = true) : textOk (sayItem S a i d term gen cnt).1.txt = true := by
  unfold sayItem at h ⊢
  split
  · rename_i t ht; exact formOf_ok hS ht
  · rename_i ht; rw [ht] at h; cases h
theorem items_ok {S : Sys} (hS : Right S) : ∀ (k : Nat) (a : Ask) (d : Int) (x : Item), x ∈ itemsF k S a d → x.2 = true → textOk x.1.txt = true
  | 0, _, _, _, h, _ => by simp [itemsF] at h
  | k + 1, a, d, x, h, h2 => by
    rw [itemsF_succ] at h
    obtain ⟨j, hj, hx⟩ := mem_piecesFrom _ _ h
    unfold pieceItems at hx
    split at hx
    · simp only [List.mem_singleton] at hx; subst hx; exact sayItem_ok hS h2
    split at hx
    · simp only [List.mem_singleton] at hx; subst hx; exact sayItem_ok hS h2
    split at hx
    · exact items_ok hS k _ _ x hx h2
    split at hx
    · split at hx
      · simp at hx
      · exact items_ok hS k _ _ x hx h2
    split at hx
    · split at hx
      · simp at hx
      · simp only [List.mem_singleton] at hx; subst hx; exact sayItem_ok hS h2
    · simp at hx
theorem words_ok {S : Sys} (hS : Right S) {a : Ask} {ws : List ByteArray} (h : wordsOf S a = some ws) : ∀ t ∈ ws, textOk t = true := by
  unfold wordsOf saidOf at h
  split at h
  · rename_i hall
    simp only [Option.map_some, Option.some.injEq] at h
    subst h
    intro t ht
    simp only [List.map_map, List.mem_map] at ht
    obtain ⟨x, hx, rfl⟩ := ht
    exact items_ok hS _ _ _ x hx (List.all_eq_true.1 hall x hx)
  · cases h
theorem words_ne {S : Sys} (hS : Right S) {a : Ask} (ha : AskRight S a) {ws : List ByteArray} (h : wordsOf S a = some ws) : ws ≠ [] ∧ ws.length ≤ 1000000 := by
  have hne := itemsF_ne hS (a.num.toNat + 1) a 0 ha (by have := ha.num; omega)
  have hf := items_few hS ha 0
  unfold wordsOf saidOf at h
  split at h
  · simp only [Option.map_some, Option.some.injEq] at h
    subst h
    exact ⟨by simpa [items] using hne, by simpa using hf⟩
  · cases h

/-! ### Keys -/
/-- Words without blanks, joined with blanks. -/
def keyW (ws : List ByteArray) : List UInt8 := Lib.join (ws.map fun t => t.data.toList) [32]
def plain (l : List UInt8) : Prop := ∀ c ∈ l, c ≠ 32
theorem split_eq {x y T U : List UInt8} (hx : plain x) (hy : plain y) (hT : T = [] ∨ ∃ T', T = 32 :: T') (hU : U = [] ∨ ∃ U', U = 32 :: U') (h : x ++ T = y ++ U) : x = y ∧ T = U := by
  induction x generalizing y with
  | nil =>
    cases y with
    | nil => exact ⟨rfl, h⟩
    | cons c y =>
      rcases hT with rfl | ⟨T', rfl⟩
      · simp at h
      · simp only [List.nil_append, List.cons_append, List.cons.injEq] at h
        exact absurd h.1.symm (hy c (List.mem_cons_self ..))
  | cons c x ih =>
    cases y with
    | nil =>
      rcases hU with rfl | ⟨U', rfl⟩
      · simp at h
      · simp only [List.nil_append, List.cons_append, List.cons.injEq] at h
        exact absurd h.1 (hx c (List.mem_cons_self ..))
    | cons d y =>
      simp only [List.cons_append, List.cons.injEq] at h
      obtain ⟨h1, h2⟩ := ih (y := y) (fun e he => hx e (List.mem_cons_of_mem _ he)) (fun e he => hy e (List.mem_cons_of_mem _ he)) h.2
      exact ⟨by rw [h.1, h1], h2⟩
theorem tail_head (r : List (List UInt8)) : Lib.joinTail [32] r = [] ∨ ∃ T', Lib.joinTail [32] r = 32 :: T' := by
  cases r with
  | nil => exact .inl rfl
  | cons y r => exact .inr ⟨_, rfl⟩
theorem tail_inj : ∀ {r q : List (List UInt8)}, (∀ l ∈ r, plain l) → (∀ l ∈ q, plain l) → Lib.joinTail [32] r = Lib.joinTail [32] q → r = q
  | [], [], _, _, _ => rfl
  | [], y :: q, _, _, h => by simp [Lib.joinTail] at h
  | x :: r, [], _, _, h => by simp [Lib.joinTail] at h
  | x :: r, y :: q, hr, hq, h => by
    have h' : x ++ Lib.joinTail [32] r = y ++ Lib.joinTail [32] q := by simpa [Lib.joinTail] using h
    obtain ⟨h1, h2⟩ := split_eq (hr x (List.mem_cons_self ..)) (hq y (List.mem_cons_self ..)) (tail_head r) (tail_head q) h'
    rw [h1, tail_inj (fun l hl => hr l (List.mem_cons_of_mem _ hl)) (fun l hl => hq l (List.mem_cons_of_mem _ hl)) h2]
theorem text_plain {t : ByteArray} (h : textOk t = true) : plain t.data.toList := by
  simp only [textOk, Bool.and_eq_true] at h
  intro c hc e
  have := (List.all_eq_true.1 h.2) c hc
  subst e
  simp [betw] at this
theorem bytes_inj {s t : ByteArray} (h : s.data.toList = t.data.toList) : s = t := by
  cases s; cases t; simp at h; simp [h]
theorem map_bytes_inj : ∀ {ws vs : List ByteArray}, (ws.map fun t => t.data.toList) = (vs.map fun t => t.data.toList) → ws = vs
  | [], [], _ => rfl
  | [], _ :: _, h => by simp at h
  | _ :: _, [], h => by simp at h
  | a :: ws, b :: vs, h => by
    simp only [List.map_cons, List.cons.injEq] at h
    rw [bytes_inj h.1, map_bytes_inj h.2]
theorem keyW_inj {ws vs : List ByteArray} (hw : ∀ t ∈ ws, textOk t = true) (hv : ∀ t ∈ vs, textOk t = true) (nw : ws ≠ []) (nv : vs ≠ []) (h : keyW ws = keyW vs) : ws = vs := by
  obtain ⟨x, r, rfl⟩ := List.exists_cons_of_ne_nil nw
  obtain ⟨y, q, rfl⟩ := List.exists_cons_of_ne_nil nv
  unfold keyW at h
  simp only [List.map_cons, Lib.join_cons] at h
  obtain ⟨h1, h2⟩ := split_eq (text_plain (hw x (List.mem_cons_self ..))) (text_plain (hv y (List.mem_cons_self ..))) (tail_head _) (tail_head _) h
  have h3 := tail_inj (fun l hl => by
    obtain ⟨t, ht, rfl⟩ := List.mem_map.1 hl
    exact text_plain (hw t (List.mem_cons_of_mem _ ht))) (fun l hl => by
    obtain ⟨t, ht, rfl⟩ := List.mem_map.1 hl
    exact text_plain (hv t (List.mem_cons_of_mem _ ht))) h2
  rw [bytes_inj h1, map_bytes_inj h3]
theorem lens_le : ∀ (ws : List ByteArray), (∀ t ∈ ws, textOk t = true) → Lib.lens (ws.map fun t => t.data.toList) ≤ 30 * ws.length
  | [], _ => by simp [Lib.lens]
  | t :: ws, h => by
    have h1 := h t (List.mem_cons_self ..)
    have h2 := lens_le ws fun s hs => h s (List.mem_cons_of_mem _ hs)
    simp only [textOk, betw, Bool.and_eq_true, decide_eq_true_eq] at h1
    have h3 : t.data.toList.length ≤ 30 := by
      have e : t.data.toList.length = t.size := Array.length_toList
      omega
    simp only [Lib.lens, List.map_cons, List.sum_cons, List.length_cons] at h2 ⊢
    omega
theorem keyW_len {ws : List ByteArray} (h : ∀ t ∈ ws, textOk t = true) (hl : ws.length ≤ 1000000) : (keyW ws).length ≤ 40000000 := by
  cases ws with
  | nil => simp [keyW, Lib.join_nil]
  | cons t ws =>
    have h1 := lens_le (t :: ws) h
    unfold keyW
    simp only [List.map_cons] at h1 ⊢
    rw [Lib.join_length]
    simp only [List.length_cons, List.length_nil, List.length_map] at hl ⊢
    simp only [List.length_cons] at h1
    omega

/-! ### What is kept of the numbers gone through -/
abbrev TwSt := List (List ByteArray × Nat) × List (Nat × Nat)
def seen (l : List (List ByteArray × Nat)) (ws : List ByteArray) : Option Nat := (l.find? fun p => decide (p.1 = ws)).map Prod.snd
def twStep (S : Sys) (a : Ask) (st : TwSt) (n : Nat) : TwSt := match wordsOf S (numb a n) with
  | none => st
  | some ws => match seen st.1 ws with
    | some f => (st.1, st.2 ++ [(f, n)])
    | none => (st.1 ++ [(ws, n)], st.2)
def twP {M : Nat} (S : Sys) (a : Ask) (pre : List (UpTo M)) : TwSt := (pre.map Subtype.val).foldl (twStep S a) ([], [])
theorem twP_snoc {M : Nat} (S : Sys) (a : Ask) (pre : List (UpTo M)) (x : UpTo M) : twP S a (pre ++ [x]) = twStep S a (twP S a pre) x.1 := by simp [twP]
theorem seen_snoc (l : List (List ByteArray × Nat)) (ws vs : List ByteArray) (n : Nat) : seen (l ++ [(ws, n)]) vs = (seen l vs).or (if ws = vs then some n else none) := by
  unfold seen
  rw [List.find?_append]
  cases h : l.find? fun p => decide (p.1 = vs) with
  | none => by_cases e : ws = vs <;> simp [e]
  | some p => simp
/-- The least number below k with some words. -/
def least (S : Sys) (a : Ask) (k : Nat) (ws : List ByteArray) : Option Nat := (List.range k).find? fun m : Nat => decide (wordsOf S (numb a m) = some ws)
theorem least_succ (S : Sys) (a : Ask) (k : Nat) (ws : List ByteArray) : least S a (k + 1) ws = (least S a k ws).or (if wordsOf S (numb a k) = some ws then some k else none) := by
  unfold least
  rw [List.range_succ, List.find?_append]
  congr 1
  by_cases h : wordsOf S (numb a k) = some ws <;> simp [h]
theorem least_lt {S : Sys} {a : Ask} {k m : Nat} {ws : List ByteArray} (h : least S a k ws = some m) : m < k := by
  have := List.mem_of_find?_eq_some h
  simpa using this
theorem lst_least {S : Sys} {a : Ask} {k : Nat} {ws : List ByteArray} (h : wordsOf S (numb a k) = some ws) : lst S a k = (least S a k ws).getD k := by
  have h1 := lst_find S a k
  rw [h] at h1
  have h2 : least S a (k + 1) ws = some (lst S a k) := h1
  rw [least_succ, if_pos h] at h2
  cases hl : least S a k ws with
  | none =>
    rw [hl] at h2
    simp only [Option.none_or, Option.some.injEq] at h2
    exact h2.symm
  | some m =>
    rw [hl] at h2
    simp only [Option.some_or, Option.some.injEq] at h2
    exact h2.symm
theorem twF_all (S : Sys) (a : Ask) : ∀ k, (∀ ws, seen ((List.range k).foldl (twStep S a) ([], [])).1 ws = least S a k ws) ∧ ((List.range k).foldl (twStep S a) ([], [])).2 = (List.range k).filterMap (twin S a)
  | 0 => ⟨fun ws => rfl, rfl⟩
  | k + 1 => by
    obtain ⟨h1, h2⟩ := twF_all S a k
    rw [twins_snoc, ← h2]
    simp only [least_succ]
    rw [List.range_succ, List.foldl_append]
    generalize (List.range k).foldl (twStep S a) ([], []) = st at *
    simp only [List.foldl_cons, List.foldl_nil]
    unfold twStep twin
    cases hw : wordsOf S (numb a k) with
    | none => exact ⟨fun ws => by simp [h1 ws], by simp⟩
    | some ws =>
      have hl := lst_least hw
      dsimp only
      cases hs : seen st.1 ws with
      | some f =>
        have hf : least S a k ws = some f := by rw [← h1 ws, hs]
        rw [hf] at hl
        simp only [Option.getD_some] at hl
        have hlt := least_lt hf
        refine ⟨fun vs => ?_, by simp [hl, hlt]⟩
        dsimp only
        rw [h1 vs]
        by_cases e : ws = vs
        · subst e; rw [hf]; rfl
        · have : ¬ (some ws = some vs) := fun h => e (Option.some.inj h)
          rw [if_neg this]; cases least S a k vs <;> rfl
      | none =>
        have hf : least S a k ws = none := by rw [← h1 ws, hs]
        rw [hf] at hl
        simp only [Option.getD_none] at hl
        refine ⟨fun vs => ?_, by simp [hl]⟩
        dsimp only
        rw [seen_snoc, h1 vs]
        by_cases e : ws = vs
        · subst e; simp
        · have : ¬ (some ws = some vs) := fun h => e (Option.some.inj h)
          rw [if_neg this, if_neg e]
theorem twP_all {M : Nat} (S : Sys) (a : Ask) : (twP S a (upL (M + 1))).2 = twinsTo S a M := by
  unfold twP twinsTo
  rw [upL_val]
  exact (twF_all S a (M + 1)).2
theorem twP_len {M : Nat} (S : Sys) (a : Ask) : ∀ (pre : List Nat) (st : TwSt), (pre.foldl (twStep S a) st).1.length ≤ st.1.length + pre.length ∧ (pre.foldl (twStep S a) st).2.length ≤ st.2.length + pre.length
  | [], st => by simp
  | n :: pre, st => by
    have h := twP_len (M := M) S a pre (twStep S a st n)
    have h2 : (twStep S a st n).1.length ≤ st.1.length + 1 ∧ (twStep S a st n).2.length ≤ st.2.length + 1 := by
      unfold twStep
      split
      · omega
      · split <;> simp
    simp only [List.foldl_cons, List.length_cons]
    omega

/-! ### The map -/
def keyL (ws : List ByteArray) : Lit := .string (keyW ws)
/-- A map reads as what was seen. -/
structure MapR {H : Type} (D : DataW H) (l : List (List ByteArray × Nat)) : Prop where
  isMap : IsMap D
  has : ∀ ws, (∀ t ∈ ws, textOk t = true) → ws ≠ [] → Maps.has D (keyL ws) = (seen l ws).isSome
  val : ∀ ws f, (∀ t ∈ ws, textOk t = true) → ws ≠ [] → seen l ws = some f → ∀ z, D.atKey (keyL ws) z = .lit (.int .i64 (f : Int))
theorem MapR.nil {H : Type} : MapR (.map [] : DataW H) [] := ⟨isMap_empty, fun _ _ _ => rfl, fun _ _ _ _ h => by simp [seen] at h⟩
theorem MapR.put {H : Type} {D : DataW H} {l : List (List ByteArray × Nat)} (h : MapR D l) {ws : List ByteArray} (hw : ∀ t ∈ ws, textOk t = true) (nw : ws ≠ []) (hn : seen l ws = none) (n : Nat) : MapR (D.put (keyL ws) (.lit (.int .i64 (n : Int)))) (l ++ [(ws, n)]) := by
  have hk : WideAt.IsKeyLit (keyL ws) := trivial
  refine ⟨h.isMap.put _ _, fun vs hv nv => ?_, fun vs f hv nv hs z => ?_⟩
  · rw [seen_snoc]
    by_cases e : ws = vs
    · subst e; rw [has_put_same h.isMap hk]; cases seen l ws <;> simp
    · have : keyL vs ≠ keyL ws := fun he => e (keyW_inj hw hv nw nv (by injection he with he; exact he.symm))
      rw [has_put_other this, h.has vs hv nv, if_neg e]; cases seen l vs <;> rfl
  · rw [seen_snoc] at hs
    by_cases e : ws = vs
    · subst e
      rw [hn] at hs
      simp at hs
      subst hs
      exact atKey_put_same h.isMap hk _ _
    · have : keyL vs ≠ keyL ws := fun he => e (keyW_inj hw hv nw nv (by injection he with he; exact he.symm))
      rw [if_neg e] at hs
      rw [atKey_put_other this]
      refine h.val vs f hv nv ?_ z
      cases hx : seen l vs <;> rw [hx] at hs <;> simp_all
end Go.Proofs.Ytfcopnlpcbbocaa
