/- Maths: what a step makes of each wave. -/
import Derived.Test.YtbmbcbknoflpgaaI3
set_option linter.unusedSimpArgs false
set_option linter.unusedVariables false
namespace Go.Proofs.Ytbmbcbknoflpgaa
open Go.RowKit

/-- Where a place writes. -/
def tgts (on : Nat) : Plc → List Nat
  | .fin s d _ => [on + s * 2 + (1 - d)]
  | .jnt l => l.map fun x => on + x.1 * 2 + (1 - x.2)
theorem jPut_other (V : Nat → Int) (l : List (Nat × Nat)) (on q : Nat) (G : Nat → Int) : ∀ k, (∀ i, i < k → q ≠ on + (l.getD i (0, 0)).1 * 2 + (1 - (l.getD i (0, 0)).2)) → jPut V l on k G q = G q := by
  intro k
  induction k with
  | zero => intro _; rfl
  | succ k ih =>
    intro h
    show (if q = _ then V k else jPut V l on k G q) = G q
    rw [if_neg (h k (by omega))]
    exact ih (fun i hi => h i (by omega))
theorem jPut_get (V : Nat → Int) (l : List (Nat × Nat)) (on i : Nat) (G : Nat → Int) : ∀ k, i < k → (∀ i', i < i' → i' < k → on + (l.getD i (0, 0)).1 * 2 + (1 - (l.getD i (0, 0)).2) ≠ on + (l.getD i' (0, 0)).1 * 2 + (1 - (l.getD i' (0, 0)).2)) → jPut V l on k G (on + (l.getD i (0, 0)).1 * 2 + (1 - (l.getD i (0, 0)).2)) = V i := by
  intro k
  induction k with
  | zero => intro h _; omega
  | succ k ih =>
    intro hi h
    show (if _ = _ then V k else jPut V l on k G _) = V i
    by_cases e : i = k
    · subst e; rw [if_pos rfl]
    · rw [if_neg (h k (by omega) (by omega))]
      exact ih (by omega) (fun i' h1 h2 => h i' h1 (by omega))
theorem mem_tgts_jnt {on q : Nat} {l : List (Nat × Nat)} : q ∈ tgts on (.jnt l) ↔ ∃ i, i < l.length ∧ q = on + (l.getD i (0, 0)).1 * 2 + (1 - (l.getD i (0, 0)).2) := by
  unfold tgts
  rw [List.mem_map]
  constructor
  · rintro ⟨x, hx, rfl⟩
    obtain ⟨i, hi, rfl⟩ := List.getElem_of_mem hx
    exact ⟨i, hi, by rw [gP hi]⟩
  · rintro ⟨i, hi, rfl⟩
    exact ⟨l[i], List.getElem_mem hi, by rw [gP hi]⟩
theorem meet_other (A : Nat → Int) (oo on q : Nat) (p : Plc) (G : Nat → Int) (h : q ∉ tgts on p) : meetA A oo on p G q = G q := by
  cases p with
  | fin s d c =>
    show (if q = _ then _ else G q) = G q
    rw [if_neg (by simpa [tgts] using h)]
  | jnt l =>
    exact jPut_other _ l on q G _ (fun i hi e => h (mem_tgts_jnt.2 ⟨i, hi, e⟩))
/-- What is written is read from the old state alone. -/
theorem meet_old (A : Nat → Int) (oo on n q : Nat) (p : Plc) (G H : Nat → Int) (hp : plcOk n p) (hG : ∀ i, i < 2 * n → G (oo + i) = H (oo + i)) (h : q ∈ tgts on p) : meetA A oo on p G q = meetA A oo on p H q := by
  cases p with
  | fin s d c =>
    have h1 : q = on + s * 2 + (1 - d) := by simpa [tgts] using h
    show (if q = _ then _ else G q) = (if q = _ then _ else H q)
    rw [if_pos h1, if_pos h1, Nat.add_assoc oo, hG _ (by have := hp.1; have := hp.2; omega)]
  | jnt l =>
    have e : ∀ i, i < l.length → sct (jA A l) (jF (fun i => G (oo + i)) l) l.length i = sct (jA A l) (jF (fun i => H (oo + i)) l) l.length i := fun i hi => sct_congr (fun _ _ => rfl) (fun j hj => hG _ (by have := hp.2.2 j hj; omega)) hi
    have h2 : ∀ k, k ≤ l.length → (∃ i, i < k ∧ q = on + (l.getD i (0, 0)).1 * 2 + (1 - (l.getD i (0, 0)).2)) → jPut (sct (jA A l) (jF (fun i => G (oo + i)) l) l.length) l on k G q = jPut (sct (jA A l) (jF (fun i => H (oo + i)) l) l.length) l on k H q := by
      intro k
      induction k with
      | zero => rintro _ ⟨i, hi, _⟩; omega
      | succ k ih =>
        rintro hk ⟨i, hi, hq⟩
        show (if q = _ then _ else _) = (if q = _ then _ else _)
        by_cases e2 : q = on + (l.getD k (0, 0)).1 * 2 + (1 - (l.getD k (0, 0)).2)
        · rw [if_pos e2, if_pos e2, e k (by omega)]
        · rw [if_neg e2, if_neg e2]
          exact ih (by omega) ⟨i, by
            by_cases e3 : i = k
            · subst e3; exact absurd hq e2
            · omega, hq⟩
    exact h2 _ (Nat.le_refl _) (mem_tgts_jnt.1 h)
theorem tgts_in {on n q : Nat} {p : Plc} (hp : plcOk n p) (h : q ∈ tgts on p) : on ≤ q ∧ q < on + 2 * n := by
  cases p with
  | fin s d c =>
    have h1 : q = on + s * 2 + (1 - d) := by simpa [tgts] using h
    have := hp.1
    omega
  | jnt l =>
    obtain ⟨i, hi, rfl⟩ := mem_tgts_jnt.1 h
    have := hp.2.2 i hi
    omega
theorem snoc_ind {α : Type} {P : List α → Prop} (h0 : P []) (h1 : ∀ l x, P l → P (l ++ [x])) : ∀ l, P l := by
  intro l
  rw [← List.reverse_reverse l]
  induction l.reverse with
  | nil => exact h0
  | cons x l ih => rw [List.reverse_cons]; exact h1 _ _ ih
theorem meets_old (A : Nat → Int) (oo on n : Nat) (hd : oo + 2 * n ≤ on ∨ on + 2 * n ≤ oo) (G : Nat → Int) (i : Nat) (hi : i < 2 * n) (ps : List Plc) : (∀ p ∈ ps, plcOk n p) → meetsA A oo on ps G (oo + i) = G (oo + i) := by
  refine snoc_ind (P := fun ps => (∀ p ∈ ps, plcOk n p) → meetsA A oo on ps G (oo + i) = G (oo + i)) (fun _ => rfl) (fun l x ih h => ?_) ps
  rw [meetsA_snoc, meet_other]
  · exact ih (fun p hp => h p (List.mem_append_left _ hp))
  · intro hq
    have := tgts_in (h x (List.mem_append_right _ (List.mem_singleton.2 rfl))) hq
    omega
/-- A wave that one place alone writes. -/
theorem meets_get (A : Nat → Int) (oo on n q : Nat) (hd : oo + 2 * n ≤ on ∨ on + 2 * n ≤ oo) (G : Nat → Int) (p : Plc) (hq : q ∈ tgts on p) (ps : List Plc) : (∀ p ∈ ps, plcOk n p) → p ∈ ps → (∀ p' ∈ ps, q ∈ tgts on p' → p' = p) → meetsA A oo on ps G q = meetA A oo on p G q := by
  refine snoc_ind (P := fun ps => (∀ p ∈ ps, plcOk n p) → p ∈ ps → (∀ p' ∈ ps, q ∈ tgts on p' → p' = p) → meetsA A oo on ps G q = meetA A oo on p G q) (fun _ h => by simp at h) (fun l x ih h hm hu => ?_) ps
  have hl : ∀ p ∈ l, plcOk n p := fun p hp => h p (List.mem_append_left _ hp)
  have hx : x ∈ l ++ [x] := List.mem_append_right _ (List.mem_singleton.2 rfl)
  rw [meetsA_snoc]
  by_cases e : q ∈ tgts on x
  · obtain rfl := hu x hx e
    exact meet_old A oo on n q x _ _ (h x hx) (fun i hi => meets_old A oo on n hd G i hi l hl) e
  · rw [meet_other _ _ _ _ _ _ e]
    refine ih hl ?_ (fun p' hp' => hu p' (List.mem_append_left _ hp'))
    rcases List.mem_append.1 hm with h1 | h1
    · exact h1
    · obtain rfl := List.mem_singleton.1 h1
      exact absurd hq e
theorem mem_fin {on q s d : Nat} {c : Int} : q ∈ tgts on (.fin s d c) ↔ q = on + s * 2 + (1 - d) := by simp [tgts]
theorem mem_mid {on q n b j k : Nat} : q ∈ tgts on (plcMid n b j k) ↔ q = on + k * 2 + 1 ∨ q = on + (k + 1) * 2 ∨ (k = j ∧ 0 < b ∧ q = on + n * 2) := by
  unfold plcMid tgts
  by_cases h : k = j ∧ 0 < b
  · rw [if_pos h]; simp; omega
  · rw [if_neg h]; simp; omega
theorem mem_end {on q n i : Nat} : q ∈ tgts on (plcEnd n i) ↔ q = on + (n + i) * 2 + 1 ∨ q = on + (n + i + 1) * 2 := by
  unfold plcEnd tgts
  simp
theorem mem_places {n b j : Nat} {g li no : Int} {p : Plc} : p ∈ placesL n b j g li no ↔ p = .fin 0 1 g ∨ p = .fin (n - 1) 0 (-li) ∨ (∃ k, k < n - 1 ∧ p = plcMid n b j k) ∨ (0 < b ∧ ∃ i, i < b - 1 ∧ p = plcEnd n i) ∨ (0 < b ∧ p = .fin (n - 1 + b) 0 (-no)) := by
  unfold placesL
  by_cases hb : b = 0
  · rw [if_pos hb]
    simp only [List.mem_append, List.mem_cons, List.not_mem_nil, or_false, List.mem_map, List.mem_range]
    constructor
    · rintro ((h | h) | ⟨k, h1, h2⟩)
      · exact .inl h
      · exact .inr (.inl h)
      · exact .inr (.inr (.inl ⟨k, h1, h2.symm⟩))
    · rintro (h | h | ⟨k, h1, h2⟩ | ⟨h, _⟩ | ⟨h, _⟩)
      · exact .inl (.inl h)
      · exact .inl (.inr h)
      · exact .inr ⟨k, h1, h2.symm⟩
      · omega
      · omega
  · rw [if_neg hb]
    simp only [List.mem_append, List.mem_cons, List.not_mem_nil, or_false, List.mem_map, List.mem_range]
    constructor
    · rintro (((h | h) | ⟨k, h1, h2⟩) | (⟨k, h1, h2⟩ | h))
      · exact .inl h
      · exact .inr (.inl h)
      · exact .inr (.inr (.inl ⟨k, h1, h2.symm⟩))
      · exact .inr (.inr (.inr (.inl ⟨by omega, k, h1, h2.symm⟩)))
      · exact .inr (.inr (.inr (.inr ⟨by omega, h⟩)))
    · rintro (h | h | ⟨k, h1, h2⟩ | ⟨_, k, h1, h2⟩ | ⟨_, h⟩)
      · exact .inl (.inl (.inl h))
      · exact .inl (.inl (.inr h))
      · exact .inl (.inr ⟨k, h1, h2.symm⟩)
      · exact .inr (.inl ⟨k, h1, h2.symm⟩)
      · exact .inr (.inr h)
/-- Two places of a tube that write the same wave are the same. -/
theorem place_one {n b j on q : Nat} {g li no : Int} (hn : 1 ≤ n) (hj : 0 < b → j < n - 1) {p p' : Plc} (h : p ∈ placesL n b j g li no) (h' : p' ∈ placesL n b j g li no) (hq : q ∈ tgts on p) (hq' : q ∈ tgts on p') : p' = p := by
  rw [mem_places] at h h'
  rcases h with rfl | rfl | ⟨k, hk, rfl⟩ | ⟨hb, k, hk, rfl⟩ | ⟨hb, rfl⟩ <;> rcases h' with rfl | rfl | ⟨k', hk', rfl⟩ | ⟨hb', k', hk', rfl⟩ | ⟨hb', rfl⟩ <;> simp only [mem_fin, mem_mid, mem_end] at hq hq' <;> first
    | rfl
    | (exfalso; omega)
    | (obtain rfl : k = k' := by omega
       rfl)
/-- The waves that leave a joint of two sections. -/
def sc2 (a c x y : Int) (i : Nat) : Int := sct (fun t => if t = 0 then a else c) (fun t => if t = 0 then x else y) 2 i
def sc3 (a c e x y z : Int) (i : Nat) : Int := sct (fun t => if t = 0 then a else if t = 1 then c else e) (fun t => if t = 0 then x else if t = 1 then y else z) 3 i
/-- The state H after a step from G. -/
structure NextIs (A : Nat → Int) (n b j : Nat) (g li no : Int) (oo on : Nat) (G H : Nat → Int) : Prop where
  glo : H on = thr g (G (oo + 1))
  lip : H (on + (n - 1) * 2 + 1) = thr (-li) (G (oo + (n - 1) * 2))
  mid : ∀ k, k < n - 1 → ¬ (k = j ∧ 0 < b) → H (on + k * 2 + 1) = sc2 (A k) (A (k + 1)) (G (oo + k * 2)) (G (oo + (k + 1) * 2 + 1)) 0 ∧ H (on + (k + 1) * 2) = sc2 (A k) (A (k + 1)) (G (oo + k * 2)) (G (oo + (k + 1) * 2 + 1)) 1
  fork : 0 < b → H (on + j * 2 + 1) = sc3 (A j) (A (j + 1)) (A n) (G (oo + j * 2)) (G (oo + (j + 1) * 2 + 1)) (G (oo + n * 2 + 1)) 0 ∧ H (on + (j + 1) * 2) = sc3 (A j) (A (j + 1)) (A n) (G (oo + j * 2)) (G (oo + (j + 1) * 2 + 1)) (G (oo + n * 2 + 1)) 1 ∧ H (on + n * 2) = sc3 (A j) (A (j + 1)) (A n) (G (oo + j * 2)) (G (oo + (j + 1) * 2 + 1)) (G (oo + n * 2 + 1)) 2
  arm : 0 < b → ∀ i, i < b - 1 → H (on + (n + i) * 2 + 1) = sc2 (A (n + i)) (A (n + i + 1)) (G (oo + (n + i) * 2)) (G (oo + (n + i + 1) * 2 + 1)) 0 ∧ H (on + (n + i + 1) * 2) = sc2 (A (n + i)) (A (n + i + 1)) (G (oo + (n + i) * 2)) (G (oo + (n + i + 1) * 2 + 1)) 1
  nos : 0 < b → H (on + (n - 1 + b) * 2 + 1) = thr (-no) (G (oo + (n - 1 + b) * 2))
  old : ∀ i, i < 2 * (n + b) → H (oo + i) = G (oo + i)
theorem jnt2 (A : Nat → Int) (oo on s t : Nat) (hst : s ≠ t) (G : Nat → Int) :
    meetA A oo on (.jnt [(s, 0), (t, 1)]) G (on + s * 2 + 1) = sc2 (A s) (A t) (G (oo + s * 2)) (G (oo + t * 2 + 1)) 0 ∧ meetA A oo on (.jnt [(s, 0), (t, 1)]) G (on + t * 2) = sc2 (A s) (A t) (G (oo + s * 2)) (G (oo + t * 2 + 1)) 1 := by
  have h := fun i (hi : i < 2) => jPut_get (sct (jA A [(s, 0), (t, 1)]) (jF (fun i => G (oo + i)) [(s, 0), (t, 1)]) 2) [(s, 0), (t, 1)] on i G 2 hi (fun i' h1 h2 => by
    obtain rfl : i = 0 := by omega
    obtain rfl : i' = 1 := by omega
    simp; omega)
  have e : ∀ i, i < 2 → sct (jA A [(s, 0), (t, 1)]) (jF (fun i => G (oo + i)) [(s, 0), (t, 1)]) 2 i = sc2 (A s) (A t) (G (oo + s * 2)) (G (oo + t * 2 + 1)) i := fun i hi => sct_congr (fun k hk => by
    rcases (show k = 0 ∨ k = 1 by omega) with rfl | rfl <;> simp [jA]) (fun k hk => by
    rcases (show k = 0 ∨ k = 1 by omega) with rfl | rfl <;> simp [jF, Nat.add_assoc]) hi
  have h0 := h 0 (by omega)
  have h1 := h 1 (by omega)
  rw [e 0 (by omega)] at h0
  rw [e 1 (by omega)] at h1
  exact ⟨(by simp at h0; exact h0), (by simp at h1; exact h1)⟩
theorem jnt3 (A : Nat → Int) (oo on s t u : Nat) (hst : s ≠ t) (hsu : s ≠ u) (htu : t ≠ u) (G : Nat → Int) :
    meetA A oo on (.jnt [(s, 0), (t, 1), (u, 1)]) G (on + s * 2 + 1) = sc3 (A s) (A t) (A u) (G (oo + s * 2)) (G (oo + t * 2 + 1)) (G (oo + u * 2 + 1)) 0 ∧ meetA A oo on (.jnt [(s, 0), (t, 1), (u, 1)]) G (on + t * 2) = sc3 (A s) (A t) (A u) (G (oo + s * 2)) (G (oo + t * 2 + 1)) (G (oo + u * 2 + 1)) 1 ∧ meetA A oo on (.jnt [(s, 0), (t, 1), (u, 1)]) G (on + u * 2) = sc3 (A s) (A t) (A u) (G (oo + s * 2)) (G (oo + t * 2 + 1)) (G (oo + u * 2 + 1)) 2 := by
  have h := fun i (hi : i < 3) => jPut_get (sct (jA A [(s, 0), (t, 1), (u, 1)]) (jF (fun i => G (oo + i)) [(s, 0), (t, 1), (u, 1)]) 3) [(s, 0), (t, 1), (u, 1)] on i G 3 hi (fun i' h1 h2 => by
    rcases (show (i = 0 ∧ i' = 1) ∨ (i = 0 ∧ i' = 2) ∨ (i = 1 ∧ i' = 2) by omega) with ⟨rfl, rfl⟩ | ⟨rfl, rfl⟩ | ⟨rfl, rfl⟩ <;> simp <;> omega)
  have e : ∀ i, i < 3 → sct (jA A [(s, 0), (t, 1), (u, 1)]) (jF (fun i => G (oo + i)) [(s, 0), (t, 1), (u, 1)]) 3 i = sc3 (A s) (A t) (A u) (G (oo + s * 2)) (G (oo + t * 2 + 1)) (G (oo + u * 2 + 1)) i := fun i hi => sct_congr (fun k hk => by
    rcases (show k = 0 ∨ k = 1 ∨ k = 2 by omega) with rfl | rfl | rfl <;> simp [jA]) (fun k hk => by
    rcases (show k = 0 ∨ k = 1 ∨ k = 2 by omega) with rfl | rfl | rfl <;> simp [jF, Nat.add_assoc]) hi
  have h0 := h 0 (by omega)
  have h1 := h 1 (by omega)
  have h2 := h 2 (by omega)
  rw [e 0 (by omega)] at h0
  rw [e 1 (by omega)] at h1
  rw [e 2 (by omega)] at h2
  exact ⟨(by simp at h0; exact h0), (by simp at h1; exact h1), (by simp at h2; exact h2)⟩
/-- A STEP: what becomes of each wave. -/
theorem step_next (A : Nat → Int) (n b j : Nat) (g li no : Int) (oo on : Nat) (hn : 1 ≤ n) (hj : 0 < b → j < n - 1) (hd : oo + 2 * (n + b) ≤ on ∨ on + 2 * (n + b) ≤ oo) (hok : ∀ p ∈ placesL n b j g li no, plcOk (n + b) p) (G : Nat → Int) :
    NextIs A n b j g li no oo on G (meetsA A oo on (placesL n b j g li no) G) := by
  have get := fun (p : Plc) (q : Nat) (hp : p ∈ placesL n b j g li no) (hq : q ∈ tgts on p) => meets_get A oo on (n + b) q hd G p hq _ hok hp (fun p' hp' hq' => place_one hn hj hp hp' hq hq')
  have fin : ∀ (s d : Nat) (c : Int), meetA A oo on (.fin s d c) G (on + s * 2 + (1 - d)) = thr c (G (oo + s * 2 + d)) := fun s d c => by
    show (if _ = _ then _ else _) = _
    rw [if_pos rfl]
  refine ⟨?_, ?_, fun k hk hkj => ?_, fun hb => ?_, fun hb i hi => ?_, fun hb => ?_, fun i hi => ?_⟩
  · have := get (.fin 0 1 g) on (mem_places.2 (.inl rfl)) (mem_fin.2 (by omega))
    rw [this]
    have := fin 0 1 g
    simpa using this
  · rw [get (.fin (n - 1) 0 (-li)) _ (mem_places.2 (.inr (.inl rfl))) (mem_fin.2 rfl)]
    have := fin (n - 1) 0 (-li)
    simpa using this
  · have hm : plcMid n b j k ∈ placesL n b j g li no := mem_places.2 (.inr (.inr (.inl ⟨k, hk, rfl⟩)))
    rw [get _ _ hm (mem_mid.2 (.inl rfl)), get _ _ hm (mem_mid.2 (.inr (.inl rfl)))]
    unfold plcMid
    rw [if_neg hkj]
    exact jnt2 A oo on k (k + 1) (by omega) G
  · have hjn := hj hb
    have hm : plcMid n b j j ∈ placesL n b j g li no := mem_places.2 (.inr (.inr (.inl ⟨j, hjn, rfl⟩)))
    rw [get _ _ hm (mem_mid.2 (.inl rfl)), get _ _ hm (mem_mid.2 (.inr (.inl rfl))), get _ _ hm (mem_mid.2 (.inr (.inr ⟨rfl, hb, rfl⟩)))]
    unfold plcMid
    rw [if_pos ⟨rfl, hb⟩]
    exact jnt3 A oo on j (j + 1) n (by omega) (by omega) (by omega) G
  · have hm : plcEnd n i ∈ placesL n b j g li no := mem_places.2 (.inr (.inr (.inr (.inl ⟨hb, i, hi, rfl⟩))))
    rw [get _ _ hm (mem_end.2 (.inl rfl)), get _ _ hm (mem_end.2 (.inr rfl))]
    exact jnt2 A oo on (n + i) (n + i + 1) (by omega) G
  · rw [get (.fin (n - 1 + b) 0 (-no)) _ (mem_places.2 (.inr (.inr (.inr (.inr ⟨hb, rfl⟩))))) (mem_fin.2 rfl)]
    have := fin (n - 1 + b) 0 (-no)
    simpa using this
  · exact meets_old A oo on (n + b) hd G i hi _ hok
end Go.Proofs.Ytbmbcbknoflpgaa
