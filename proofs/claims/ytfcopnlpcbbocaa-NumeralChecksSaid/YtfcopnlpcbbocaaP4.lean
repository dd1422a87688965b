/- No number has many words. -/
import Derived.Test.YtfcopnlpcbbocaaP3
namespace Go.Proofs.Ytfcopnlpcbbocaa

/-- How many rules are used for a number, at most. -/
def mx (n : Nat) : Nat := Nat.log2 ((n + 1) ^ 2) - 1
theorem sq_ne (n : Nat) : (n + 1) ^ 2 ≠ 0 := by simp [Nat.pow_succ]
theorem mx_spec {n : Nat} (h : 1 ≤ n) : 2 ^ (mx n + 1) ≤ (n + 1) ^ 2 ∧ 1 ≤ mx n := by
  have h4 : 2 ^ 2 ≤ (n + 1) ^ 2 := Nat.pow_le_pow_left (by omega) 2
  have hl : 2 ≤ Nat.log2 ((n + 1) ^ 2) := (Nat.le_log2 (sq_ne n)).2 h4
  refine ⟨?_, by unfold mx; omega⟩
  have e : mx n + 1 = Nat.log2 ((n + 1) ^ 2) := by unfold mx; omega
  rw [e]
  exact Nat.log2_self_le (sq_ne n)
theorem le_mx {n m : Nat} (h : 2 ^ (m + 1) ≤ (n + 1) ^ 2) : m ≤ mx n := by
  have := (Nat.le_log2 (sq_ne n)).2 h
  unfold mx; omega
theorem mx_two {n q r : Nat} (hq : 1 ≤ q) (hr : 1 ≤ r) (h : (q + 1) * (r + 1) ≤ n + 1) : 1 + mx q + mx r ≤ mx n := by
  refine le_mx ?_
  have h1 := (mx_spec hq).1
  have h2 := (mx_spec hr).1
  calc 2 ^ (1 + mx q + mx r + 1) = 2 ^ (mx q + 1) * 2 ^ (mx r + 1) := by rw [← Nat.pow_add]; congr 1; omega
    _ ≤ (q + 1) ^ 2 * (r + 1) ^ 2 := Nat.mul_le_mul h1 h2
    _ = ((q + 1) * (r + 1)) ^ 2 := by rw [Nat.mul_pow]
    _ ≤ (n + 1) ^ 2 := Nat.pow_le_pow_left h 2
theorem mx_one {n q : Nat} (hq : 1 ≤ q) (h : 2 * q ≤ n) : 1 + mx q ≤ mx n := by
  refine le_mx ?_
  have h1 := (mx_spec hq).1
  have h2 : 2 * (q + 1) ^ 2 ≤ (2 * q + 1) ^ 2 := by
    have h4 : q ≤ q * q := by
      have := Nat.mul_le_mul_left q hq
      omega
    have e1 : (q + 1) ^ 2 = q * q + 2 * q + 1 := by rw [Nat.pow_two, Nat.mul_add, Nat.add_mul]; omega
    have e2 : (2 * q + 1) ^ 2 = 4 * (q * q) + 4 * q + 1 := by
      rw [Nat.pow_two, Nat.mul_add, Nat.add_mul]
      have : 2 * q * (2 * q) = 4 * (q * q) := by rw [Nat.mul_assoc, Nat.mul_left_comm q 2 q, ← Nat.mul_assoc]
      omega
    rw [e1, e2]; omega
  calc 2 ^ (1 + mx q + 1) = 2 * 2 ^ (mx q + 1) := by rw [Nat.add_comm 1, Nat.pow_succ 2 (mx q + 1), Nat.mul_comm]
    _ ≤ 2 * (q + 1) ^ 2 := Nat.mul_le_mul_left 2 h1
    _ ≤ (2 * q + 1) ^ 2 := h2
    _ ≤ (n + 1) ^ 2 := Nat.pow_le_pow_left (by omega) 2
theorem mx_top {n : Nat} (h : n ≤ 999999999999) : mx n ≤ 82 := by
  by_cases h0 : 1 ≤ n
  · have h1 := (mx_spec h0).1
    have h2 : (n + 1) ^ 2 ≤ 1000000000000 ^ 2 := Nat.pow_le_pow_left (by omega) 2
    by_cases hc : mx n ≤ 82
    · exact hc
    · have h3 : 2 ^ 84 ≤ 2 ^ (mx n + 1) := Nat.pow_le_pow_right (by omega) (by omega)
      have h4 : (1000000000000 : Nat) ^ 2 < 2 ^ 84 := by decide
      omega
  · have : n = 0 := by omega
    subst this; decide

theorem piecesFrom_len (f : Pce → Nat → List Item) (Lq Lr : Nat) : ∀ (l : List Pce) (i : Nat),
    (∀ p ∈ l, ∀ i, (f p i).length ≤ (if p.kind = 3 then Lq else if p.kind = 4 then Lr else 1)) → (piecesFrom f l i).length ≤ l.length + kinds 3 l * Lq + kinds 4 l * Lr
  | [], i, _ => by simp [piecesFrom]
  | p :: l, i, h => by
    have ih := piecesFrom_len f Lq Lr l (i + 1) (fun p' hp' => h p' (List.mem_cons_of_mem _ hp'))
    have h1 := h p (List.mem_cons_self ..) i
    simp only [piecesFrom, List.length_append, List.length_cons]
    have e3 : kinds 3 (p :: l) = kinds 3 l + if p.kind = 3 then 1 else 0 := by unfold kinds; by_cases hk : p.kind = 3 <;> simp [hk]
    have e4 : kinds 4 (p :: l) = kinds 4 l + if p.kind = 4 then 1 else 0 := by unfold kinds; by_cases hk : p.kind = 4 <;> simp [hk]
    rw [e3, e4, Nat.add_mul, Nat.add_mul]
    by_cases h3 : p.kind = 3
    · rw [if_pos h3] at h1
      rw [if_pos h3, if_neg (by omega)]; omega
    · rw [if_neg h3] at h1
      by_cases h4 : p.kind = 4
      · rw [if_pos h4] at h1
        rw [if_neg h3, if_pos h4]; omega
      · rw [if_neg h4] at h1
        rw [if_neg h3, if_neg h4]; omega

theorem kinds_zero {S : Sys} {r : Rul} (h0 : r.div = 0) (k : Int) (hk : k ≠ 1) : ∀ l : List Pce, (∀ p ∈ l, pceOk S r p = true) → kinds k l = 0
  | [], _ => rfl
  | p :: l, h => by
    have ih := kinds_zero h0 k hk l (fun p' hp' => h p' (List.mem_cons_of_mem _ hp'))
    have h1 := h p (List.mem_cons_self ..)
    have hp : p.kind = 1 := by
      by_cases hp : p.kind = 1
      · exact hp
      · exact absurd h0 (pce_div h1 hp)
    unfold kinds at ih ⊢
    rw [List.filter_cons_of_neg (by simp; omega)]
    exact ih

def LB (n : Int) : Nat := if n = 0 then 10 else 10 * mx n.toNat
theorem items_len {S : Sys} (hS : Right S) : ∀ (k : Nat) (a : Ask) (d : Int), AskRight S a → (itemsF k S a d).length ≤ LB a.num
  | 0, a, d, _ => by simp [itemsF]
  | k + 1, a, d, ha => by
    obtain ⟨-, -, -, -, -, -, hr⟩ := rule_right hS ha
    have hn := ha.num
    rw [itemsF_succ]
    by_cases hd : (ruleOf S a).div = 0
    · have hl := piecesFrom_len (pieceItems (itemsF k S) S a d) 0 0 (ruleOf S a).pieces 0 (fun p hp i => by
        have hk : p.kind = 1 := by
          by_cases hk : p.kind = 1
          · exact hk
          · exact absurd hd (pce_div (hr.piece p hp) hk)
        simp [pieceItems, hk])
      have := hr.few
      unfold LB
      by_cases h0 : a.num = 0
      · rw [if_pos h0]; omega
      · rw [if_neg h0]
        have := (mx_spec (n := a.num.toNat) (by omega)).2
        omega
    · have hq := quo_lt hr hd
      have q1 : 1 ≤ quo (ruleOf S a) a.num := by
        simp only [quo, if_neg hd]
        have h2 := hr.div.resolve_left hd
        have := hr.base
        exact (Int.le_ediv_iff_mul_le (by omega)).2 (by omega)
      have n1 : 1 ≤ a.num := by omega
      obtain ⟨q, eq⟩ := Int.eq_ofNat_of_zero_le hq.1
      obtain ⟨r, er⟩ := Int.eq_ofNat_of_zero_le hq.2.2.1
      obtain ⟨n, en⟩ := Int.eq_ofNat_of_zero_le hn
      have hprod : (q + 1) * (r + 1) ≤ n + 1 := by
        have := hq.2.2.2.2
        rw [eq, er, en] at this
        exact_mod_cast this
      have hLq : ∀ p ∈ (ruleOf S a).pieces, p.kind = 3 → (itemsF k S (askQuo S a p.set) (d + 1)).length ≤ 10 * mx q := fun p hp hk => by
        have := items_len hS k (askQuo S a p.set) (d + 1) (askQuo_right hS ha hp hk).1
        have e : (askQuo S a p.set).num = (q : Int) := eq
        rw [e] at this
        unfold LB at this
        rw [if_neg (by omega)] at this
        simpa using this
      have hLr : ∀ p ∈ (ruleOf S a).pieces, p.kind = 4 → (if rst (ruleOf S a) a.num = 0 then [] else itemsF k S (askRst S a p.set) (d + 1)).length ≤ (if r = 0 then 0 else 10 * mx r) := fun p hp hk => by
        by_cases h0 : r = 0
        · rw [if_pos (by omega)]; simp
        · rw [if_neg (by omega), if_neg h0]
          have := items_len hS k (askRst S a p.set) (d + 1) (askRst_right hS ha hp hk).1
          have e : (askRst S a p.set).num = (r : Int) := er
          rw [e] at this
          unfold LB at this
          rw [if_neg (by omega)] at this
          simpa using this
      have hl := piecesFrom_len (pieceItems (itemsF k S) S a d) (10 * mx q) (if r = 0 then 0 else 10 * mx r) (ruleOf S a).pieces 0 (fun p hp i => by
        by_cases h3 : p.kind = 3
        · rw [if_pos h3]; simp only [pieceItems, if_neg (show ¬ p.kind = 1 by omega), if_neg (show ¬ p.kind = 2 by omega), if_pos h3]; exact hLq p hp h3
        · rw [if_neg h3]
          by_cases h4 : p.kind = 4
          · rw [if_pos h4]; simp only [pieceItems, if_neg (show ¬ p.kind = 1 by omega), if_neg (show ¬ p.kind = 2 by omega), if_neg h3, if_pos h4]; exact hLr p hp h4
          · rw [if_neg h4]
            unfold pieceItems
            split
            · simp
            split
            · simp
            split
            · split <;> simp
            · simp)
      have h3 := hr.quos
      have h4 := hr.rests
      have hf := hr.few
      have hLB : LB a.num = 10 * mx n := by unfold LB; rw [if_neg (by omega), en]; simp
      rw [hLB]
      have b3 : kinds 3 (ruleOf S a).pieces * (10 * mx q) ≤ 10 * mx q := by
        have := Nat.mul_le_mul_right (10 * mx q) h3
        omega
      have b4 : kinds 4 (ruleOf S a).pieces * (if r = 0 then 0 else 10 * mx r) ≤ (if r = 0 then 0 else 10 * mx r) := by
        have := Nat.mul_le_mul_right (if r = 0 then 0 else 10 * mx r) h4
        omega
      by_cases h0 : r = 0
      · rw [if_pos h0] at hl b4
        have h2q : 2 * q ≤ n := by
          have h2 := (hr.div.resolve_left hd).1
          have e := Int.mul_ediv_add_emod a.num (ruleOf S a).div
          have eq' : a.num / (ruleOf S a).div = (q : Int) := by simpa [quo, hd] using eq
          have m0 := Int.emod_nonneg a.num hd
          rw [eq'] at e
          have : 2 * (q : Int) ≤ (ruleOf S a).div * q := Int.mul_le_mul_of_nonneg_right h2 (by omega)
          omega
        have := mx_one (by omega) h2q
        omega
      · rw [if_neg h0] at hl b4
        have := mx_two (by omega) (by omega) hprod
        omega
theorem items_few {S : Sys} (hS : Right S) {a : Ask} (ha : AskRight S a) (d : Int) : (items S a d).length ≤ 1000000 := by
  have h := items_len hS (a.num.toNat + 1) a d ha
  have h1 := ha.num
  have h2 := ha.top
  have h3 := mx_top (n := a.num.toNat) (by omega)
  unfold items
  unfold LB at h
  split at h <;> omega
end Go.Proofs.Ytfcopnlpcbbocaa
