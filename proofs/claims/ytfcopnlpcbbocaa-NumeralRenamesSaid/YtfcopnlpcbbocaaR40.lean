/- The maths of renaming: a system all of whose texts begin with a star, and whose Top may be greater. -/
import Derived.Test.YtfcopnlpcbbocaaR29
set_option linter.unusedSimpArgs false
set_option linter.unusedVariables false
namespace Go.Proofs.Ytfcopnlpcbbocaa
open Go.RowKit

def star (t : ByteArray) : ByteArray := ByteArray.mk #[42] ++ t
def starF (f : Form) : Form := ⟨f.gen, f.kas, f.cls, star f.txt⟩
def starT (t : Term) : Term := ⟨t.gen, t.forms.map starF⟩
def ren (S : Sys) (top : Int) : Sys := ⟨top, S.genders, S.cases, S.classes, S.terms.map starT, S.plurals, S.sets⟩
def starS (x : Said) : Said := ⟨star x.txt, x.num, x.set, x.rule, x.piece, x.depth⟩
def starI (x : Item) : Item := if x.2 = true then (starS x.1, true) else x
theorem star_data (t : ByteArray) : (star t).data = #[42] ++ t.data := by unfold star; rw [ByteArray.data_append]
theorem star_size (t : ByteArray) : (star t).size = t.size + 1 := by
  show (star t).data.size = t.data.size + 1
  rw [star_data, Array.size_append]
  show 1 + _ = _
  omega
theorem star_inj {s t : ByteArray} (h : star s = star t) : s = t := by
  have h1 := congrArg (fun b : ByteArray => b.data.toList) h
  simp only [star_data, Array.toList_append] at h1
  have h2 : s.data.toList = t.data.toList := List.append_cancel_left h1
  cases s; cases t
  congr 1
  exact Array.toList_inj.1 h2
theorem stars_inj {l m : List ByteArray} (h : l.map star = m.map star) : l = m := (List.map_inj_right fun _ _ => star_inj).1 h
theorem ren_termOf (S : Sys) (top : Int) (i : Int) : termOf (ren S top) i = starT (termOf S i) := by
  unfold termOf ren
  simp only [List.getElem?_map]
  cases S.terms[i.toNat]? <;> rfl
theorem star_formOf (fs : List Form) (g k c : Int) : formOf (fs.map starF) g k c = (formOf fs g k c).map star := by
  unfold formOf
  rw [List.find?_map]
  show Option.map Form.txt (Option.map starF (List.find? (agrees g k c) fs)) = _
  cases List.find? (agrees g k c) fs <;> rfl
theorem ren_counted (S : Sys) (top : Int) (l : List Pce) (g : Int) : countedGen (ren S top) l g = countedGen S l g := by
  unfold countedGen
  cases l.find? fun p => decide (p.kind = 2) with
  | none => rfl
  | some p => simp only [ren_termOf]; rfl
theorem ren_say (S : Sys) (top : Int) (a : Ask) (i : Nat) (d t g c : Int) : sayItem (ren S top) a i d t g c = starI (sayItem S a i d t g c) := by
  unfold sayItem
  rw [ren_termOf]
  show (match formOf ((termOf S t).forms.map starF) g a.kas (classOf c S.plurals) with | some t => _ | none => _) = _
  rw [star_formOf]
  cases formOf (termOf S t).forms g a.kas (classOf c S.plurals) with
  | none => rfl
  | some x => rfl
theorem piecesFrom_star {f f' : Pce → Nat → List Item} (h : ∀ p i, f' p i = (f p i).map starI) : ∀ (l : List Pce) (i : Nat), piecesFrom f' l i = (piecesFrom f l i).map starI
  | [], _ => rfl
  | p :: l, i => by rw [piecesFrom, piecesFrom, List.map_append, h p i, piecesFrom_star h l (i + 1)]
theorem ren_items (S : Sys) (top : Int) : ∀ (k : Nat) (a : Ask) (d : Int), itemsF k (ren S top) a d = (itemsF k S a d).map starI
  | 0, _, _ => rfl
  | k + 1, a, d => by
    rw [itemsF_succ, itemsF_succ]
    show piecesFrom _ (ruleOf S a).pieces 0 = _
    refine piecesFrom_star (fun p i => ?_) _ _
    have hr : ruleOf (ren S top) a = ruleOf S a := rfl
    have hq : askQuo (ren S top) a p.set = askQuo S a p.set := by unfold askQuo; rw [ren_counted, hr]
    have ht : askRst (ren S top) a p.set = askRst S a p.set := rfl
    unfold pieceItems
    simp only [ren_say, ren_termOf, hr, hq, ht, ren_items S top k]
    split
    · rfl
    split
    · rfl
    split
    · rfl
    split
    · split <;> rfl
    split
    · split <;> rfl
    · rfl
theorem starI_snd (l : List Item) : (l.map starI).all Prod.snd = l.all Prod.snd := by
  rw [List.all_map]
  congr 1
  funext x
  show (starI x).2 = x.2
  unfold starI
  split
  · rename_i h; exact h.symm
  · rfl
theorem ren_words (S : Sys) (top : Int) (a : Ask) : wordsOf (ren S top) a = (wordsOf S a).map (List.map star) := by
  have e : items (ren S top) a 0 = (items S a 0).map starI := ren_items S top _ a 0
  unfold wordsOf saidOf
  rw [e, starI_snd]
  by_cases h : (items S a 0).all Prod.snd = true
  · rw [if_pos h, if_pos h]
    simp only [Option.map_some, List.map_map]
    congr 1
    refine List.map_congr_left fun x hx => ?_
    have hx2 : x.2 = true := List.all_eq_true.1 h x hx
    simp only [Function.comp]
    unfold starI
    rw [if_pos hx2]
    rfl
  · rw [if_neg h, if_neg h]
    rfl
theorem ren_same (S : Sys) (top : Int) (a b : Ask) : (wordsOf (ren S top) a = wordsOf (ren S top) b) ↔ (wordsOf S a = wordsOf S b) := by
  rw [ren_words, ren_words]
  constructor
  · intro h
    cases h1 : wordsOf S a <;> cases h2 : wordsOf S b <;> rw [h1, h2] at h
    · cases h
    · cases h
    · exact congrArg some (stars_inj (Option.some.inj h))
  · intro h; rw [h]
theorem ren_none (S : Sys) (top : Int) (a : Ask) : (wordsOf (ren S top) a = none) ↔ (wordsOf S a = none) := by
  rw [ren_words]
  cases wordsOf S a <;> simp
theorem ren_lst (S : Sys) (top : Int) (a : Ask) (n : Nat) : lst (ren S top) a n = lst S a n := by
  unfold lst
  simp only [ren_same]
theorem ren_twin (S : Sys) (top : Int) (a : Ask) (n : Nat) : twin (ren S top) a n = twin S a n := by
  unfold twin
  simp only [ren_none, ren_lst]
theorem ren_twins (S : Sys) (top : Int) (a : Ask) (N : Nat) : twinsTo (ren S top) a N = twinsTo S a N := by
  unfold twinsTo
  congr 1
  funext n
  exact ren_twin S top a n
theorem text_star {t : ByteArray} (h : textOk t = true) (hl : t.size ≤ 29) : textOk (star t) = true := by
  unfold textOk betw at h ⊢
  rw [star_size, star_data]
  simp only [Bool.and_eq_true, decide_eq_true_eq, Array.toList_append, List.all_append] at h ⊢
  refine ⟨⟨by omega, by omega⟩, by decide, h.2⟩
theorem ren_ok {S : Sys} {top : Int} (h : sysOk S = true) (h1 : S.top ≤ top) (h2 : top ≤ 999999999999) (hs : ∀ t ∈ S.terms, ∀ f ∈ t.forms, f.txt.size ≤ 29) : sysOk (ren S top) = true := by
  simp only [sysOk, Bool.and_eq_true] at h ⊢
  obtain ⟨⟨⟨ha, hb⟩, hc⟩, hd⟩ := h
  refine ⟨⟨⟨?_, ?_⟩, ?_⟩, ?_⟩
  · simp only [sizesOk, betw, Bool.and_eq_true, decide_eq_true_eq] at ha ⊢
    obtain ⟨⟨⟨⟨⟨⟨ha0, ha1⟩, ha2⟩, ha3⟩, ha4⟩, ha5⟩, ha6⟩ := ha
    refine ⟨⟨⟨⟨⟨⟨⟨?_, h2⟩, ha1⟩, ha2⟩, ha3⟩, ?_⟩, ha5⟩, ha6⟩
    · show 0 ≤ top; omega
    · show (S.terms.map starT).length ≤ 500
      rw [List.length_map]; exact ha4
  · rw [List.all_eq_true] at hb ⊢
    intro t' ht'
    obtain ⟨t, ht, rfl⟩ := List.mem_map.1 (show t' ∈ S.terms.map starT from ht')
    have h0 := hb t ht
    simp only [termOk, Bool.and_eq_true, decide_eq_true_eq, List.all_eq_true] at h0 ⊢
    refine ⟨⟨h0.1.1, ?_⟩, ?_⟩
    · show (t.forms.map starF).length ≤ 60
      rw [List.length_map]; exact h0.1.2
    · intro f' hf'
      obtain ⟨f, hf, rfl⟩ := List.mem_map.1 (show f' ∈ t.forms.map starF from hf')
      have h3 := h0.2 f hf
      simp only [formOk, Bool.and_eq_true] at h3 ⊢
      exact ⟨h3.1, text_star h3.2 (hs t ht f hf)⟩
  · exact hc
  · rw [List.all_eq_true] at hd ⊢
    intro l hl
    have h0 := hd l hl
    simp only [setOk, Bool.and_eq_true, betw, decide_eq_true_eq, List.all_eq_true] at h0 ⊢
    obtain ⟨⟨⟨⟨h3, h4⟩, h5⟩, h6⟩, h7⟩ := h0
    refine ⟨⟨⟨⟨h3, h4⟩, ?_⟩, h6⟩, ?_⟩
    · show lastBase l ≤ top; omega
    · intro r hr
      have h8 := h7 r hr
      have hp : ∀ p, pceOk (ren S top) r p = pceOk S r p := by
        intro p
        have e : (ren S top).terms.length = S.terms.length := List.length_map ..
        have e2 : (ren S top).sets = S.sets := rfl
        unfold pceOk
        rw [e, e2]
      have : rulOk (ren S top) r = rulOk S r := by
        unfold rulOk
        rw [show pceOk (ren S top) r = pceOk S r from funext hp]
      rw [this]; exact h8
theorem ren_ask {S : Sys} {top : Int} {a : Ask} (h : askOk S a = true) (h1 : S.top ≤ top) (h2 : top ≤ 999999999999) (hs : ∀ t ∈ S.terms, ∀ f ∈ t.forms, f.txt.size ≤ 29) : askOk (ren S top) a = true := by
  simp only [askOk, Bool.and_eq_true, betw, decide_eq_true_eq] at h ⊢
  obtain ⟨⟨⟨⟨h3, h4, h5⟩, h6⟩, h7⟩, h8⟩ := h
  refine ⟨⟨⟨⟨ren_ok h3 h1 h2 hs, h4, ?_⟩, h6⟩, h7⟩, h8⟩
  show a.num ≤ top
  omega
end Go.Proofs.Ytfcopnlpcbbocaa
