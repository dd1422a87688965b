/- Contracts: the places of a tube. -/
import Derived.Test.YtbmbcbknoflpgaaH3
import Derived.Test.YtbmbcbknoflpgaaC1
import Derived.Test.YtbmbcbknoflpgaaB4
import Derived.Deep.AppendLies
set_option linter.unusedSimpArgs false
set_option linter.unusedVariables false
namespace Go.Proofs.Ytbmbcbknoflpgaa
open Go.RowKit

/-- A place where waves meet: an end (section, direction, percent), or a joint with its sides. -/
inductive Plc
  | fin (s d : Nat) (p : Int)
  | jnt (l : List (Nat × Nat))
def sideV : List (Nat × Nat) → List Value
  | [] => []
  | s :: l => .int .i64 (s.1 : Int) :: .int .i64 (s.2 : Int) :: sideV l
theorem sideV_len (l : List (Nat × Nat)) : (sideV l).length = l.length * 2 := by
  induction l with
  | nil => rfl
  | cons x l ih => simp only [sideV, List.length_cons, ih]; omega
theorem sideV_append (l m : List (Nat × Nat)) : sideV (l ++ m) = sideV l ++ sideV m := by
  induction l with
  | nil => rfl
  | cons x l ih => simp [sideV, ih]
def PlcV (base : Nat) (w : World) (v : Value) : Plc → Prop
  | .fin s d p => v = .iface 162 (.agg #[.int .i64 (s : Int), .int .i64 (d : Int), .int .i64 p])
  | .jnt l => ∃ u, v = .iface 164 u ∧ w.ownsRow base 160 2 u l.length (sideV l)
def PlcsV (base : Nat) (w : World) (xs : List Value) (ps : List Plc) : Prop := xs.length = ps.length ∧ ∀ (i : Nat) (x : Value) (p : Plc), xs[i]? = some x → ps[i]? = some p → PlcV base w x p
def plcMid (n b j k : Nat) : Plc := .jnt (if k = j ∧ 0 < b then [(k, 0), (k + 1, 1), (n, 1)] else [(k, 0), (k + 1, 1)])
def plcEnd (n i : Nat) : Plc := .jnt [(n + i, 0), (n + i + 1, 1)]
/-- The places of a tube. -/
def placesL (n b j : Nat) (g li no : Int) : List Plc :=
  [.fin 0 1 g, .fin (n - 1) 0 (-li)] ++ (List.range (n - 1)).map (plcMid n b j) ++ (if b = 0 then [] else (List.range (b - 1)).map (plcEnd n) ++ [.fin (n - 1 + b) 0 (-no)])
/-- Worlds in which all that has another type than places, and was there, is as it was. -/
theorem row_ne {W : World} {a b ba bb ka kb na nb : Nat} {t u : TypeId} {xs ys : List Value} {v x : Value} (hv : W.ownsRow ba t ka v na xs) (hx : W.ownsRow bb u kb x nb ys) (hne : t ≠ u) (h : v.ownBlock = some a) (h2 : x.ownBlock = some b) : a ≠ b := by
  rcases hv.2 with ⟨rfl, _⟩ | ⟨g, cap, cur, rfl, _, hb, _⟩
  · simp [Value.ownBlock] at h
  · rcases hx.2 with ⟨rfl, _⟩ | ⟨g2, cap2, cur2, rfl, _, hb2, _⟩
    · simp [Value.ownBlock] at h2
    · obtain rfl : g = a := by simpa [Value.ownBlock] using h
      obtain rfl : g2 = b := by simpa [Value.ownBlock] using h2
      intro e
      subst e
      rw [hb] at hb2
      simp only [Option.some.injEq, Obj.cells.injEq] at hb2
      exact hne hb2.2.1
theorem PlcV.grown {base ba ka n : Nat} {t : TypeId} {w w' : World} {x v : Value} {xs : List Value} {p : Plc} (h : PlcV base w x p) (ho : w.ownsRow ba t ka v n xs) (hne : t ≠ 160) (hg : w.grownBy w' v.ownBlock) : PlcV base w' x p := by
  cases p with
  | fin s d q => exact h
  | jnt l =>
    obtain ⟨u, hu, hr⟩ := h
    refine ⟨u, hu, hr.kept hg ?_⟩
    cases hu2 : u.ownBlock with
    | none => exact .inl rfl
    | some b =>
      refine .inr ?_
      intro e
      exact row_ne ho hr hne e.symm hu2 rfl
theorem PlcV.below {base : Nat} {w w' : World} {x : Value} {p : Plc} (h : PlcV base w x p) (hB : Below w.heap.size w w') : PlcV base w' x p := by
  cases p with
  | fin s d q => exact h
  | jnt l => obtain ⟨u, hu, hr⟩ := h; exact ⟨u, hu, ownsRow_below hr hB⟩
theorem PlcsV.snoc {base : Nat} {w : World} {xs : List Value} {ps : List Plc} {x : Value} {p : Plc} (h : PlcsV base w xs ps) (hx : PlcV base w x p) : PlcsV base w (xs ++ [x]) (ps ++ [p]) := by
  refine ⟨by simp [h.1], fun i y q hy hq => ?_⟩
  by_cases hi : i < xs.length
  · rw [List.getElem?_append_left hi] at hy
    rw [List.getElem?_append_left (by rw [← h.1]; exact hi)] at hq
    exact h.2 i y q hy hq
  · rw [List.getElem?_append_right (by omega)] at hy
    rw [List.getElem?_append_right (by rw [← h.1]; omega), ← h.1] at hq
    have : i - xs.length = 0 := by
      by_cases h0 : i - xs.length = 0
      · exact h0
      · rw [List.getElem?_eq_none (by simp; omega)] at hy; cases hy
    rw [this] at hy hq
    simp at hy hq
    subst hy hq
    exact hx
theorem PlcsV.map {base : Nat} {w w' : World} {xs : List Value} {ps : List Plc} (h : PlcsV base w xs ps) (k : ∀ x p, PlcV base w x p → PlcV base w' x p) : PlcsV base w' xs ps :=
  ⟨h.1, fun i x p hx hp => k x p (h.2 i x p hx hp)⟩
theorem infoPl : (Try.prog.info? 143).map (fun i => (i.zero.map (fun z => z.cells.size), i.size, i.bytes)) = some (some 1, 1, 16) := by kernel_rfl
theorem infoSi : (Try.prog.info? 160).map (fun i => (i.zero.map (fun z => z.cells.size), i.size, i.bytes)) = some (some 2, 2, 16) := by kernel_rfl
theorem info_z {t : TypeId} {k s b : Nat} (h : (Try.prog.info? t).map (fun i => (i.zero.map (fun z => z.cells.size), i.size, i.bytes)) = some (some k, s, b)) : ∃ i z, Try.prog.info? t = some i ∧ i.zero = some z ∧ z.cells.size = k ∧ i.size = s ∧ i.bytes = b := by
  cases hi : Try.prog.info? t with
  | none => rw [hi] at h; cases h
  | some i =>
    rw [hi] at h
    simp only [Option.map_some, Option.some.injEq, Prod.mk.injEq] at h
    obtain ⟨h1, h2, h3⟩ := h
    cases hz : i.zero with
    | none => rw [hz] at h1; cases h1
    | some z => rw [hz] at h1; simp at h1; exact ⟨i, z, rfl, hz, h1, h2, h3⟩
/-- A place is appended. -/
theorem wpList_append_plc {w : World} {ops : Array Oper} {rest : List Oper} {o : Oper} {a : Act} {Q : Exit → Act → World → Prop} (hgd : o.guard = none) (s x : Operand)
    (ho : o.op = .call { callee := .builtin .append, args := #[s, x], argTypes := #[92, 92] })
    (base : Nat) (v : Value) (n : Nat) (xs : List Value) (hs : a.eval s = v) (hown : w.ownsRow base 143 1 v n xs)
    (b : Nat) (y : Value) (hx : a.eval x = .slice (some ⟨b, 0, none⟩) 1 1) (hy : w.cell? ⟨b, 0, none⟩ = some y) (h1 : y.oneCell' = true) (h63 : n ≤ 10000000) (hbase : base ≤ w.heap.size)
    (h : ∀ v' w', w'.ownsRow base 143 1 v' (n + 1) (xs ++ [y]) → w.grownBy w' v.ownBlock → Below base w w' → wpList Try.prog ops Q rest (a.put o.dst v') w') : wpList Try.prog ops Q (o :: rest) a w := by
  obtain ⟨i, z, hi, hz, hzs, hz1, hz2⟩ := info_z infoPl
  refine wpList_append_lies w hgd s x 92 ho base 143 i z 1 16 Try.underlying92 hi hz hz1 hz2 hzs (by decide) v n xs hs hown ⟨b, 0, none⟩ 1 1 [y] hx rfl (fun j u hu => ?_) (by simpa using h1) (by omega) (by unfold maxLen; omega) (by omega) hbase w.heap.size rfl ?_
  · cases j with
    | zero => simp at hu; subst hu; simpa [Addr.add] using hy
    | succ j => simp at hu
  · intro g cap w' h1 h2 _ _
    exact h _ w' h1 h2 (below_grown h2 hown hbase)
/-- A side is appended. -/
theorem wpList_append_side {w : World} {ops : Array Oper} {rest : List Oper} {o : Oper} {a : Act} {Q : Exit → Act → World → Prop} (hgd : o.guard = none) (s x : Operand)
    (ho : o.op = .call { callee := .builtin .append, args := #[s, x], argTypes := #[164, 164] })
    (base : Nat) (v : Value) (l : List (Nat × Nat)) (hs : a.eval s = v) (hown : w.ownsRow base 160 2 v l.length (sideV l))
    (b p q : Nat) (hx : a.eval x = .slice (some ⟨b, 0, none⟩) 1 1) (hy : w.cell? ⟨b, 0, none⟩ = some (.int .i64 (p : Int))) (hz : w.cell? ⟨b, 1, none⟩ = some (.int .i64 (q : Int))) (h63 : l.length ≤ 10000000) (hbase : base ≤ w.heap.size)
    (h : ∀ v' w', w'.ownsRow base 160 2 v' (l ++ [(p, q)]).length (sideV (l ++ [(p, q)])) → w.grownBy w' v.ownBlock → Below base w w' → wpList Try.prog ops Q rest (a.put o.dst v') w') : wpList Try.prog ops Q (o :: rest) a w := by
  obtain ⟨i, z, hi, hz0, hzs, hz1, hz2⟩ := info_z infoSi
  refine wpList_append_lies w hgd s x 164 ho base 160 i z 2 16 Try.underlying164 hi hz0 hz1 hz2 hzs (by decide) v l.length (sideV l) hs hown ⟨b, 0, none⟩ 1 1 [.int .i64 (p : Int), .int .i64 (q : Int)] hx rfl (fun j u hu => ?_) (by intro u hu; simp at hu; rcases hu with rfl | rfl <;> rfl) (by omega) (by unfold maxLen; omega) (by omega) hbase w.heap.size rfl ?_
  · cases j with
    | zero => simp at hu; subst hu; simpa [Addr.add] using hy
    | succ j =>
      cases j with
      | zero => simp at hu; subst hu; simpa [Addr.add] using hz
      | succ j => simp at hu
  · intro g cap w' h1 h2 _ _
    exact h _ w' (by rw [sideV_append]; simpa [sideV] using h1) h2 (below_grown h2 hown hbase)
end Go.Proofs.Ytbmbcbknoflpgaa
