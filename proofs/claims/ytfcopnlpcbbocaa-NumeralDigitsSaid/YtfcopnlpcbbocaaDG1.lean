/- The maths of positional systems: the digits of a number to a base are what its system says. -/
import Derived.Test.YtfcopnlpcbbocaaP1
set_option linter.unusedSimpArgs false
set_option linter.unusedVariables false
namespace Go.Proofs.Ytfcopnlpcbbocaa
open Go.RowKit

def dch (i : Nat) : ByteArray := ⟨#[UInt8.ofNat (97 + i)]⟩
def digT (i : Nat) : Term := ⟨0, [⟨-1, -1, -1, dch i⟩]⟩
def digR0 (i : Nat) : Rul := ⟨i, 0, [⟨1, i, 0, 0⟩]⟩
def digR1 (B i : Nat) : Rul := ⟨(B * i : Nat), B, [⟨3, 0, 0, 0⟩, ⟨5, 0, 0, 0⟩, ⟨4, 0, 0, 0⟩]⟩
def digL (B J : Nat) : List Rul := (List.range B).map digR0 ++ (List.range J).map fun j => digR1 B (j + 1)
def digS (B : Nat) : Sys := ⟨2000, 1, 1, 1, (List.range B).map digT, [], [digL B 14]⟩
def digA (n : Int) : Ask := ⟨n, 0, 0, 0⟩
/-- A number by its first digit and, after a mark, each further one that is not 0. -/
def dig (B n : Nat) : List ByteArray :=
  if h : n < B ∨ B < 2 then [dch n] else dig B (n / B) ++ (if n % B = 0 then [] else [dch 0, dch (n % B)])
termination_by n
decreasing_by exact Nat.div_lt_self (by omega) (by omega)
theorem dig_small {B n : Nat} (h : n < B) : dig B n = [dch n] := by rw [dig, dif_pos (.inl h)]
theorem dig_great {B n : Nat} (h : B ≤ n) (hB : 2 ≤ B) : dig B n = dig B (n / B) ++ (if n % B = 0 then [] else [dch 0, dch (n % B)]) := by rw [dig, dif_neg (by omega)]
theorem dig_pos {B n : Nat} (hB : 2 ≤ B) : 1 ≤ (dig B n).length := by
  induction n using Nat.strongRecOn with
  | ind n ih =>
    by_cases h : n < B
    · rw [dig_small h]; simp
    · rw [dig_great (by omega) hB, List.length_append]
      have := ih (n / B) (Nat.div_lt_self (by omega) (by omega)); omega

theorem digL_len (B J : Nat) : (digL B J).length = B + J := by simp [digL]
theorem digL_low {B J i : Nat} (h : i < B) : (digL B J)[i]? = some (digR0 i) := by
  unfold digL
  rw [List.getElem?_append_left (by simpa using h), List.getElem?_map, List.getElem?_range h]; rfl
theorem digL_high {B J j : Nat} (h : j < J) : (digL B J)[B + j]? = some (digR1 B (j + 1)) := by
  unfold digL
  rw [List.getElem?_append_right (by simp), List.length_map, List.length_range, Nat.add_sub_cancel_left, List.getElem?_map, List.getElem?_range h]; rfl
theorem digL_base {B i : Nat} (h : i < (digL B 14).length) : ((digL B 14)[i]).base = if i < B then (i : Int) else ((B * (i - B + 1) : Nat) : Int) := by
  rw [digL_len] at h
  by_cases c : i < B
  · have e := digL_low (J := 14) c
    rw [List.getElem?_eq_getElem (by rw [digL_len]; omega)] at e
    rw [Option.some.inj e, if_pos c]; rfl
  · obtain ⟨j, rfl⟩ : ∃ j, i = B + j := ⟨i - B, by omega⟩
    have e := digL_high (B := B) (J := 14) (j := j) (by omega)
    rw [List.getElem?_eq_getElem (by rw [digL_len]; omega)] at e
    rw [Option.some.inj e, if_neg c, Nat.add_sub_cancel_left]; rfl
theorem setOf_dig (B : Nat) : setOf (digS B) 0 = digL B 14 := rfl
theorem ruleOf_dig_small {B n : Nat} (hB : 2 ≤ B) (h : n < B) : ruleOf (digS B) (digA n) = digR0 n := by
  have e : ruleIdx (digL B 14) (n : Int) = n := by
    have := ruleIdx_eq (l := digL B 14) (n := (n : Int)) (c := n + 1) (by omega) (by rw [digL_len]; omega) (fun i hi hc => by rw [digL_base hi, if_pos (by omega)]; omega) (fun i hi hc => by
      rw [digL_base hi]
      split
      · omega
      · have : B * 1 ≤ B * (i - B + 1) := Nat.mul_le_mul_left B (by omega)
        omega)
    omega
  unfold ruleOf digA
  simp only
  rw [setOf_dig, e, digL_low h]; rfl
theorem ruleOf_dig_great {B n : Nat} (hB : 2 ≤ B) (h : B ≤ n) : ∃ i, 1 ≤ i ∧ ruleOf (digS B) (digA n) = digR1 B i := by
  have hq : 1 ≤ n / B := (Nat.one_le_div_iff (by omega)).2 h
  obtain ⟨c, hc⟩ : ∃ c, c = min (n / B) 14 := ⟨_, rfl⟩
  have hqm := Nat.div_add_mod n B
  have hm := Nat.mod_lt n (show 0 < B by omega)
  refine ⟨c, by omega, ?_⟩
  have e : ruleIdx (digL B 14) (n : Int) = B + (c - 1) := by
    have := ruleIdx_eq (l := digL B 14) (n := (n : Int)) (c := B + c) (by omega) (by rw [digL_len]; omega) (fun i hi hcc => by
      rw [digL_base hi]
      split
      · omega
      · have : B * (i - B + 1) ≤ B * (n / B) := Nat.mul_le_mul_left B (by omega)
        omega) (fun i hi hcc => by
      rw [digL_len] at hi
      rw [digL_base (by rw [digL_len]; exact hi), if_neg (by omega)]
      have h1 : B * (n / B + 1) ≤ B * (i - B + 1) := Nat.mul_le_mul_left B (by omega)
      have h2 : B * (n / B + 1) = B * (n / B) + B := Nat.mul_succ B (n / B)
      omega)
    omega
  unfold ruleOf digA
  simp only
  rw [setOf_dig, e, digL_high (by omega), show c - 1 + 1 = c by omega]; rfl
theorem say_dig {B n i : Nat} (j : Nat) (d cnt : Int) (h : i < B) : ∃ s : Said, sayItem (digS B) (digA n) j d i 0 cnt = (s, true) ∧ s.txt = dch i := by
  have e : termOf (digS B) (i : Int) = digT i := by
    unfold termOf digS
    simp only [Int.toNat_natCast]
    rw [List.getElem?_map, List.getElem?_range h]; rfl
  unfold sayItem
  rw [e]
  have f : formOf (digT i).forms 0 (digA n).kas (classOf cnt (digS B).plurals) = some (dch i) := by
    unfold formOf digT
    simp [agrees]
  rw [f]
  exact ⟨_, rfl, rfl⟩
/-- What the system says of a number are its digits. -/
theorem items_dig {B : Nat} (hB : 2 ≤ B) : ∀ (n k : Nat) (d : Int), n + 1 ≤ k → (itemsF k (digS B) (digA n) d).all Prod.snd = true ∧ (itemsF k (digS B) (digA n) d).map (fun x => x.1.txt) = dig B n := by
  intro n
  induction n using Nat.strongRecOn with
  | ind n ih =>
    intro k d hk
    obtain ⟨k, rfl⟩ : ∃ j, k = j + 1 := ⟨k - 1, by omega⟩
    show (piecesFrom (pieceItems (itemsF k (digS B)) (digS B) (digA n) d) (ruleOf (digS B) (digA n)).pieces 0).all Prod.snd = true ∧ _
    have hunf : itemsF (k + 1) (digS B) (digA n) d = piecesFrom (pieceItems (itemsF k (digS B)) (digS B) (digA n) d) (ruleOf (digS B) (digA n)).pieces 0 := rfl
    rw [hunf]
    by_cases h : n < B
    · have hr := ruleOf_dig_small hB h
      obtain ⟨s, e1, e2⟩ := say_dig (B := B) (n := n) 0 d (n : Int) h
      have hp : (ruleOf (digS B) (digA n)).pieces = [⟨1, n, 0, 0⟩] := by rw [hr]; rfl
      rw [hp]
      have e3 : pieceItems (itemsF k (digS B)) (digS B) (digA n) d ⟨1, n, 0, 0⟩ 0 = [(s, true)] := by
        unfold pieceItems
        rw [if_pos rfl]
        exact congrArg (fun x => [x]) e1
      simp only [piecesFrom, e3, List.append_nil, dig_small h]
      exact ⟨rfl, by simp [e2]⟩
    · obtain ⟨i, hi, hr⟩ := ruleOf_dig_great hB (show B ≤ n by omega)
      have hp : (ruleOf (digS B) (digA n)).pieces = [⟨3, 0, 0, 0⟩, ⟨5, 0, 0, 0⟩, ⟨4, 0, 0, 0⟩] := by rw [hr]; rfl
      have hdv : (ruleOf (digS B) (digA n)).div = (B : Int) := by rw [hr]; rfl
      have hq : quo (ruleOf (digS B) (digA n)) (digA n).num = ((n / B : Nat) : Int) := by
        unfold quo; rw [hdv, if_neg (by omega)]; rfl
      have hs : rst (ruleOf (digS B) (digA n)) (digA n).num = ((n % B : Nat) : Int) := by
        unfold rst; rw [hdv, if_neg (by omega)]; rfl
      have hlt := Nat.div_lt_self (show 0 < n by omega) (show 1 < B by omega)
      have hml := Nat.mod_lt n (show 0 < B by omega)
      have eq : askQuo (digS B) (digA n) 0 = digA ((n / B : Nat) : Int) := by
        unfold askQuo
        rw [hq, hp]; rfl
      have er : askRst (digS B) (digA n) 0 = digA ((n % B : Nat) : Int) := by
        unfold askRst
        rw [hs]; rfl
      obtain ⟨q1, q2⟩ := ih (n / B) hlt k (d + 1) (by omega)
      obtain ⟨r1, r2⟩ := ih (n % B) (by omega) k (d + 1) (by omega)
      have p3 : pieceItems (itemsF k (digS B)) (digS B) (digA n) d ⟨3, 0, 0, 0⟩ 0 = itemsF k (digS B) (digA ((n / B : Nat) : Int)) (d + 1) := by
        unfold pieceItems
        rw [if_neg (by decide), if_neg (by decide), if_pos rfl, eq]
      have p5 : pieceItems (itemsF k (digS B)) (digS B) (digA n) d ⟨5, 0, 0, 0⟩ 1 = if n % B = 0 then [] else [sayItem (digS B) (digA n) 1 d 0 0 ((n % B : Nat) : Int)] := by
        unfold pieceItems
        rw [if_neg (by decide), if_neg (by decide), if_neg (by decide), if_neg (by decide), if_pos rfl, hs]
        by_cases c : n % B = 0
        · rw [if_pos (.inl (by omega)), if_pos c]
        · rw [if_neg (by simp; omega), if_neg c]; rfl
      have p4 : pieceItems (itemsF k (digS B)) (digS B) (digA n) d ⟨4, 0, 0, 0⟩ 2 = if n % B = 0 then [] else itemsF k (digS B) (digA ((n % B : Nat) : Int)) (d + 1) := by
        unfold pieceItems
        rw [if_neg (by decide), if_neg (by decide), if_neg (by decide), if_pos rfl, hs, er]
        by_cases c : n % B = 0
        · rw [if_pos (by omega), if_pos c]
        · rw [if_neg (by omega), if_neg c]
      rw [hp]
      simp only [piecesFrom, List.append_nil]
      rw [p3, p5, p4, dig_great (by omega) hB]
      by_cases c : n % B = 0
      · rw [if_pos c, if_pos c, if_pos c]
        simp only [List.append_nil]
        exact ⟨q1, q2⟩
      · rw [if_neg c, if_neg c, if_neg c]
        obtain ⟨s, e1, e2⟩ := say_dig (B := B) (n := n) (i := 0) 1 d ((n % B : Nat) : Int) (by omega)
        have e1' : sayItem (digS B) (digA n) 1 d 0 0 ((n % B : Nat) : Int) = (s, true) := e1
        rw [e1']
        rw [dig_small hml] at r2
        constructor
        · simp only [List.all_append, q1, r1, Bool.true_and, List.all_cons, List.all_nil]
        · rw [List.map_append, List.map_append, q2, r2]
          simp [e2]
end Go.Proofs.Ytfcopnlpcbbocaa
