/- Words of a number, piece by piece: the words inside are spelled as they are spelled alone; each word names its piece. -/
import Derived.Test.YtfcopnlpcbbocaaR5
set_option linter.unusedSimpArgs false
set_option linter.unusedVariables false
namespace Go.Proofs.Ytfcopnlpcbbocaa

/-- What is heard of an item, whatever its reason. -/
def heard (x : Item) : ByteArray × Bool := (x.1.txt, x.2)
theorem piecesFrom_map {β : Type} (g : Item → β) {f f' : Pce → Nat → List Item} : ∀ (l : List Pce) (i : Nat), (∀ p ∈ l, ∀ i, (f p i).map g = (f' p i).map g) → (piecesFrom f l i).map g = (piecesFrom f' l i).map g
  | [], _, _ => rfl
  | p :: l, i, h => by
    simp only [piecesFrom, List.map_append]
    rw [h p (List.mem_cons_self ..) i, piecesFrom_map g l (i + 1) fun q hq => h q (List.mem_cons_of_mem _ hq)]
theorem sayItem_heard (S : Sys) (a : Ask) (i : Nat) (d d' : Int) (term gen cnt : Int) : heard (sayItem S a i d term gen cnt) = heard (sayItem S a i d' term gen cnt) := by
  unfold sayItem
  split <;> rfl
theorem itemsF_same {S : Sys} (hS : Right S) : ∀ (k k' : Nat) (a : Ask) (d d' : Int), AskRight S a → a.num < k → a.num < k' → (itemsF k S a d).map heard = (itemsF k' S a d').map heard
  | 0, _, a, _, _, ha, h, _ => by have := ha.num; omega
  | _ + 1, 0, a, _, _, ha, _, h => by have := ha.num; omega
  | k + 1, k' + 1, a, d, d', ha, h, h' => by
    rw [itemsF_succ, itemsF_succ]
    refine piecesFrom_map heard _ _ fun p hp i => ?_
    unfold pieceItems
    split
    · simp only [List.map_cons, List.map_nil]; rw [sayItem_heard]
    split
    · simp only [List.map_cons, List.map_nil]; rw [sayItem_heard]
    split
    · rename_i hk
      have hq := askQuo_right hS ha hp hk
      exact itemsF_same hS k k' _ _ _ hq.1 (by omega) (by omega)
    split
    · rename_i hk
      have hq := askRst_right hS ha hp hk
      split
      · rfl
      · exact itemsF_same hS k k' _ _ _ hq.1 (by omega) (by omega)
    split
    · split
      · rfl
      · simp only [List.map_cons, List.map_nil]; rw [sayItem_heard]
    · rfl
theorem mem_piecesFrom {f : Pce → Nat → List Item} {x : Item} : ∀ (l : List Pce) (i : Nat), x ∈ piecesFrom f l i → ∃ j, ∃ h : j < l.length, x ∈ f l[j] (i + j)
  | [], _, h => by simp [piecesFrom] at h
  | p :: l, i, h => by
    rw [piecesFrom, List.mem_append] at h
    rcases h with h | h
    · exact ⟨0, by simp, by simpa using h⟩
    · obtain ⟨j, hj, hx⟩ := mem_piecesFrom l (i + 1) h
      exact ⟨j + 1, by simp; omega, by simpa [Nat.add_assoc, Nat.add_comm 1 j] using hx⟩
theorem sayItem_depth {S : Sys} {a : Ask} {i : Nat} {d : Int} {term gen cnt : Int} (h : (sayItem S a i d term gen cnt).2 = true) : (sayItem S a i d term gen cnt).1.depth = d ∧ (sayItem S a i d term gen cnt).1.piece = i := by
  unfold sayItem at h ⊢
  split <;> simp_all
/-- The items of a piece: its own ones, or those of a smaller number. -/
theorem pieceItems_cases {S : Sys} {a : Ask} {k : Nat} {d : Int} {p : Pce} {i : Nat} {x : Item} (hx : x ∈ pieceItems (itemsF k S) S a d p i) (h2 : x.2 = true) : (x.1.depth = d ∧ x.1.piece = i) ∨ ∃ b, x ∈ itemsF k S b (d + 1) := by
  unfold pieceItems at hx
  split at hx
  · simp only [List.mem_singleton] at hx; subst hx; exact .inl (sayItem_depth h2)
  split at hx
  · simp only [List.mem_singleton] at hx; subst hx; exact .inl (sayItem_depth h2)
  split at hx
  · exact .inr ⟨_, hx⟩
  split at hx
  · split at hx
    · simp at hx
    · exact .inr ⟨_, hx⟩
  split at hx
  · split at hx
    · simp at hx
    · simp only [List.mem_singleton] at hx; subst hx; exact .inl (sayItem_depth h2)
  · simp at hx
theorem pieceItems_own {S : Sys} {a : Ask} {k : Nat} {d : Int} {p : Pce} {i : Nat} {x : Item} (h3 : p.kind ≠ 3) (h4 : p.kind = 4 → rst (ruleOf S a) a.num = 0) (hx : x ∈ pieceItems (itemsF k S) S a d p i) (h2 : x.2 = true) : x.1.depth = d ∧ x.1.piece = i := by
  unfold pieceItems at hx
  by_cases h1 : p.kind = 1
  · rw [if_pos h1] at hx; simp only [List.mem_singleton] at hx; subst hx; exact sayItem_depth h2
  rw [if_neg h1] at hx
  by_cases h5 : p.kind = 2
  · rw [if_pos h5] at hx; simp only [List.mem_singleton] at hx; subst hx; exact sayItem_depth h2
  rw [if_neg h5, if_neg h3] at hx
  by_cases h6 : p.kind = 4
  · rw [if_pos h6, if_pos (h4 h6)] at hx; simp at hx
  rw [if_neg h6] at hx
  by_cases h7 : p.kind = 5
  · rw [if_pos h7] at hx
    split at hx
    · simp at hx
    · simp only [List.mem_singleton] at hx; subst hx; exact sayItem_depth h2
  · rw [if_neg h7] at hx; simp at hx
theorem items_depth {S : Sys} : ∀ (k : Nat) (a : Ask) (d : Int) (x : Item), x ∈ itemsF k S a d → x.2 = true → d ≤ x.1.depth
  | 0, _, _, _, h, _ => by simp [itemsF] at h
  | k + 1, a, d, x, h, h2 => by
    rw [itemsF_succ] at h
    obtain ⟨j, hj, hx⟩ := mem_piecesFrom _ _ h
    rcases pieceItems_cases hx h2 with h | ⟨b, h⟩
    · omega
    · have := items_depth k b (d + 1) x h h2
      omega
/-- A later piece has no word that names this one. -/
theorem later_ne {S : Sys} {a : Ask} {k : Nat} {pcs : List Pce} {i : Nat} {x : Item} (hx : x ∈ piecesFrom (pieceItems (itemsF k S) S a 0) (pcs.drop (i + 1)) (i + 1)) (h2 : x.2 = true) : ¬ (x.1.depth = 0 ∧ x.1.piece = i) := by
  obtain ⟨j, hj, hx⟩ := mem_piecesFrom _ _ hx
  rcases pieceItems_cases hx h2 with h | ⟨b, h⟩
  · omega
  · have := items_depth k b _ x h h2
    omega
/-- What a piece inside says, it says alone. -/
theorem inner_words {S : Sys} (hS : Right S) {b : Ask} (hb : AskRight S b) {k : Nat} (hk : b.num < k) (d : Int) (h : (itemsF k S b d).all Prod.snd = true) : wordsOf S b = some ((itemsF k S b d).map fun x => x.1.txt) := by
  have e := itemsF_same hS k (b.num.toNat + 1) b d 0 hb hk (by have := hb.num; omega)
  have e1 : ∀ l : List Item, (l.map heard).map Prod.fst = l.map fun x => x.1.txt := fun l => by simp [heard]
  have e2 : ∀ l : List Item, (l.map heard).all Prod.snd = l.all Prod.snd := fun l => by simp [heard, List.all_map, Function.comp_def]
  have h2 : (items S b 0).all Prod.snd = true := by
    rw [← e2] at h ⊢
    rw [← h, e]; rfl
  unfold wordsOf saidOf
  rw [if_pos h2, Option.map_some, List.map_map]
  have := congrArg (List.map Prod.fst) e
  rw [e1, e1] at this
  rw [this]; rfl
theorem all_append_right {l m : List Item} (h : (l ++ m).all Prod.snd = true) : m.all Prod.snd = true := by rw [List.all_append, Bool.and_eq_true] at h; exact h.2
theorem all_append_left {l m : List Item} (h : (l ++ m).all Prod.snd = true) : l.all Prod.snd = true := by rw [List.all_append, Bool.and_eq_true] at h; exact h.1
theorem get_mid {α : Type} (A B C : List α) (k : Nat) (h : k < B.length) (h' : A.length + k < (A ++ (B ++ C)).length) : (A ++ (B ++ C))[A.length + k] = B[k] := by
  rw [List.getElem_append_right (by omega)]
  simp only [Nat.add_sub_cancel_left]
  rw [List.getElem_append_left h]
theorem get_late {α : Type} (A B C : List α) (m : Nat) (h : A.length + B.length ≤ m) (h' : m < (A ++ (B ++ C)).length) : (A ++ (B ++ C))[m] ∈ C := by
  rw [List.getElem_append_right (by omega), List.getElem_append_right (by omega)]
  exact List.getElem_mem _
theorem said_three (f : Pce → Nat → List Item) (l : List Pce) (i : Nat) (h : i < l.length) : piecesFrom f l 0 = saidTo f l i ++ (f l[i] i ++ piecesFrom f (l.drop (i + 1)) (i + 1)) := by
  have := saidTo_split f l (i + 1)
  rw [saidTo_succ f l i h, List.length_take, Nat.min_eq_left (by omega), List.append_assoc] at this
  exact this
theorem askOk_mk {S : Sys} {a b : Ask} (hok : askOk S a = true) (hb : AskRight S b) (hn : b.num ≤ a.num) : askOk S b = true := by
  simp only [askOk, Bool.and_eq_true, betw, exst, decide_eq_true_eq] at hok ⊢
  exact ⟨⟨⟨⟨hok.1.1.1.1, hb.num, by omega⟩, hb.set⟩, hb.gen⟩, hb.kas⟩
theorem in_mid {A B C L : List Item} (h : L = A ++ (B ++ C)) (hall : L.all Prod.snd = true) (m : Nat) (h1 : A.length ≤ m) (h2 : m < A.length + B.length) : ∃ hm : m < L.length, L[m] ∈ B ∧ L[m].2 = true := by
  subst h
  have hm : m < (A ++ (B ++ C)).length := by simp only [List.length_append]; omega
  refine ⟨hm, ?_, List.all_eq_true.1 hall _ (List.getElem_mem hm)⟩
  obtain ⟨k, rfl⟩ : ∃ k, m = A.length + k := ⟨m - A.length, by omega⟩
  rw [get_mid A B C k (by omega)]
  exact List.getElem_mem _
theorem in_late {A B C L : List Item} (h : L = A ++ (B ++ C)) (hall : L.all Prod.snd = true) (m : Nat) (hm : m < L.length) (h1 : A.length + B.length ≤ m) : L[m] ∈ C ∧ L[m].2 = true := by
  subst h
  exact ⟨get_late A B C m h1 hm, List.all_eq_true.1 hall _ (List.getElem_mem hm)⟩
theorem at_mid {A B C L : List Item} (h : L = A ++ (B ++ C)) (k : Nat) (hk : k < B.length) : ∃ hm : A.length + k < L.length, L[A.length + k] = B[k] := by
  subst h
  exact ⟨by simp only [List.length_append]; omega, get_mid A B C k hk _⟩
theorem all_mid {A B C L : List Item} (h : L = A ++ (B ++ C)) (hall : L.all Prod.snd = true) : B.all Prod.snd = true := by
  subst h; exact all_append_left (all_append_right hall)
theorem len_mid {A B C L : List Item} (h : L = A ++ (B ++ C)) : A.length + B.length ≤ L.length := by
  subst h; simp only [List.length_append]; omega
theorem said_at {W : World} {tb to n c : Nat} {l : List Item} (h : SliceV W (.slice (some ⟨tb, to, none⟩) n c) 6 SaidAt (l.map Prod.fst)) (m : Nat) (hm : m < l.length) : SaidAt W tb (to + m * 6) l[m].1 := by
  obtain ⟨b, o, e, hf⟩ := h.at (by intro h0; rw [List.map_eq_nil_iff.1 h0] at hm; simp at hm)
  obtain ⟨rfl, rfl⟩ : tb = b ∧ to = o := by simpa using e
  have := hf m (by rw [List.length_map]; exact hm)
  rwa [List.getElem_map] at this
end Go.Proofs.Ytfcopnlpcbbocaa
