/- Contracts: the words of a number, as an iterator. -/
import Derived.Test.YtfcopnlpcbbocaaE6
import Derived.Test.YtfcopnlpcbbocaaF0
import Derived.Test.YtfcopnlpcbbocaaC0
import Derived.OwnWalkIn
import Derived.OrdersIn
import Derived.RangeFuncBox
set_option linter.unusedSimpArgs false
set_option linter.unusedVariables false
namespace Go.Proofs.Ytfcopnlpcbbocaa
open Go.RowKit

theorem grown_of_below {A B : World} (h : Below A.heap.size A B) : A.grownBy B none :=
  ⟨h.os, h.tape, h.output, h.size, fun k hk _ => h.block k hk⟩

abbrev encItem (x : Item) : Array Value := #[x.1.val, .bool x.2]

set_option maxRecDepth 100000 in
set_option maxHeartbeats 4000000 in
theorem words1_says (m : Nat) (own : Nat → Bool) (S : Sys) (a : Ask) (sb bs ba : Nat) (w0 w : World) (hw : Below w0.heap.size w0 w) (hS : Right S) (ha : AskRight S a) (hs0 : SplAt w0 sb S)
    (hcs : w0.cell? ⟨bs, 0, none⟩ = some (.pointer (some ⟨sb, 0, none⟩))) (hca : AskAt w0 ba 0 a) (hown : own 152 = false) :
    SaysK m Try.prog 95 #[.pointer (some ⟨bs, 0, none⟩), .pointer (some ⟨ba, 0, none⟩)] encItem (Kp w0.heap.size own) (items S a 0) w := by
  intro l J Jx W hW hJ hY h0
  have hwW : Below w0.heap.size w0 W := hw.trans (hW.mono hw.size)
  have hH : Hear w0 own l (items S a 0).length (fun pre V => J pre V ∧ (Below w0.heap.size w0 V ∧ W.heap.size ≤ V.heap.size)) Jx := {
    yields := fun pre x V hV hlen => YieldAt.mono (hY pre x V hV.1 hlen) fun e V' h => by
      rcases h with ⟨rfl, h1, h2⟩ | ⟨rfl, h1, h2⟩
      · exact .inl ⟨rfl, ⟨h1, hV.2.1.trans h2.low, Nat.le_trans hV.2.2 h2.low.size⟩, h2⟩
      · exact .inr ⟨rfl, h1, h2⟩
    later := fun pre V V' hV hB => ⟨hJ pre V V' none hV.1 (grown_of_below hB) (fun r e => by cases e), hV.2.1.trans (hB.mono hV.2.1.size), Nat.le_trans hV.2.2 hB.size⟩
    low := fun pre V hV => hV.2.1
    part := hown }
  have hsay := say_any hH S sb hS hs0 (a.num.toNat + 1) a 0 [] W ha (by have := ha.num; omega) (Int.le_refl _) (by have := ha.num; have := ha.top; omega) ⟨h0, hwW, Nat.le_refl _⟩ (by simp [items])
  have HS := Lib.hid hsay
  clear hsay
  have c := keep hwW hcs
  obtain ⟨q0, q1, q2, q3⟩ := hca
  have q0 := keep hwW q0
  have q1 := keep hwW q1
  have q2 := keep hwW q2
  have q3 := keep hwW q3
  simp only [Nat.zero_add] at q1 q2 q3
  clear h0 hY
  refine callsIn_wide.2 ?_
  show Calls Try.prog 95 #[.func (.yield l) #[] #[], .pointer (some ⟨bs, 0, none⟩), .pointer (some ⟨ba, 0, none⟩)] W _
  go_enter Try.func95, Try.ntmps95
  go_wp2_with (go_at_call 94; refine HS.out.mono ?_; rintro e W2 ⟨⟨t, rfl⟩, hp⟩)
  go_end0
  refine ⟨⟨_, rfl⟩, ?_⟩
  rcases hp with ⟨-, h, -⟩ | ⟨-, -, q, hq, h⟩
  · exact .inl (by simpa [items] using h.1)
  · exact .inr ⟨q, hq, by simpa using h⟩

set_option maxHeartbeats 1000000 in
theorem words_any (a : Ask) (sb : Nat) (w : World) :
    Calls Try.prog 80 #[.pointer (some ⟨sb, 0, none⟩), a.val] w fun e w' => ∃ bs ba, (e = .returned (.func (.func 95) #[] #[.pointer (some ⟨bs, 0, none⟩), .pointer (some ⟨ba, 0, none⟩)]) ∧ w'.cell? ⟨bs, 0, none⟩ = some (.pointer (some ⟨sb, 0, none⟩)) ∧ AskAt w' ba 0 a) ∧ Below w.heap.size w w' := by
  unfold Ask.val
  go_enter Try.func80, Try.ntmps80
  go_wp2_with fail
  go_ret
  exact ⟨_, _, ⟨rfl, by simp, by simp, by simp, by simp, by simp⟩, bAlloc (bAlloc (Below.refl _ _) _) _⟩

set_option maxHeartbeats 1000000 in
theorem text_any (x : Said) (w : World) :
    Calls Try.prog 81 #[x.val] w fun e w' => e = .returned (.string x.txt) ∧ Below w.heap.size w w' := by
  unfold Said.val
  go_enter Try.func81, Try.ntmps81
  go_wp2_with fail
  go_ret
  exact ⟨rfl, bAlloc (Below.refl _ _) _⟩

set_option maxHeartbeats 1000000 in
theorem whole_any (x : Said) (w : World) :
    Calls Try.prog 83 #[x.val] w fun e w' => e = .returned x.val ∧ Below w.heap.size w w' := by
  unfold Said.val
  go_enter Try.func83, Try.ntmps83
  go_wp2_with fail
  refine bodyPost_ret (by simp [results, Try.results83, go_sem]) rfl ⟨rfl, ?_⟩
  exact bAlloc (bAlloc (Below.refl _ _) _) _
end Go.Proofs.Ytfcopnlpcbbocaa
/- An append at a step of a region that draws its order, inside a fence. -/
namespace Go.Proofs.Ytfcopnlpcbbocaa
open Go.RowKit

theorem step_append_in {F : Fence} {n : Nat} {P : Program} {w : World} {o : Oper} {a : Act} {K : Act → World → Prop} {Q : Exit → Act → World → Prop} {R : Prop} {ys : Nat → Option Bool}
    (hg : o.guard = none) (s x : Operand) (t : TypeId) (hop : o.op = Op.call { callee := Callee.builtin Builtin.append, args := #[s, x], argTypes := #[t, t] })
    (base : Nat) (e : TypeId) (i : TypeInfo) (z : Value) (size bytes : Nat) (h1 : P.underlying t = some (.slice e)) (h2 : P.info? e = some i) (h3 : i.zero = some z) (h4 : i.size = size) (h5 : i.bytes = bytes) (h6 : z.cells.size = size) (h7 : 0 < size)
    (v : Value) (k : Nat) (xs : List Value) (hs : a.eval s = v) (hown : w.ownsRow base e size v k xs) (ad : Addr) (m c : Nat) (news : List Value) (hx : a.eval x = .slice (some ad) m c) (hn : news.length = m * size)
    (hc : ∀ j u, news[j]? = some u → w.cell? (ad.add j) = some u) (h1c : ∀ u ∈ news, u.oneCell' = true) (b1 : k + m ≤ maxLen) (b2 : (k + m) * bytes ≤ 140737488355328) (b3 : base ≤ w.heap.size)
    (hK : ∀ v' w', w'.ownsRow base e size v' (k + m) (xs ++ news) → w.grownBy w' v.ownBlock → K (a.put o.dst v') w') :
    if Region.wanted o ys = true then o.wpIn F n P a w K Q else R := by
  rw [if_pos (by simp [Region.wanted, hg])]
  obtain ⟨v', w', hrun, r1, r2, r3⟩ := run_append_own (P := P) w base t o.type e i z size bytes h1 h2 h3 h4 h5 h6 h7 v k xs hown ad m c news hn hc h1c b1 b2 b3
  unfold Oper.wpIn
  refine ⟨?_, ?_⟩
  · simp [Oper.about, hop, resolve, Target.leads, Sem.run_pure]
  · rw [Oper.semAt_plain F _ _ (by rw [hop]; intro c hc'; cases hc')]
    simp [execOp, hop, resolve, invoke, builtin, hs, hx, hrun, Result.andThen]
    exact hK _ _ r1 r2
end Go.Proofs.Ytfcopnlpcbbocaa
