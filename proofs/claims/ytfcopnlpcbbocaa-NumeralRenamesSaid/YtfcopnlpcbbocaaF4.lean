/- Contracts: Spell and Trace of a speller. -/
import Derived.Test.YtfcopnlpcbbocaaF3
import Derived.Test.YtfcopnlpcbbocaaP1
import Derived.Test.YtfcopnlpcbbocaaC8
set_option linter.unusedSimpArgs false
set_option linter.unusedVariables false
namespace Go.Proofs.Ytfcopnlpcbbocaa
open Go.RowKit

def StrAt (w : World) (b o : Nat) (t : ByteArray) : Prop := w.cell? ⟨b, o, none⟩ = some (.string t)
def SaidAt (w : World) (b o : Nat) (x : Said) : Prop :=
  w.cell? ⟨b, o, none⟩ = some (.string x.txt) ∧ w.cell? ⟨b, o + 1, none⟩ = some (.int .i64 x.num) ∧ w.cell? ⟨b, o + 2, none⟩ = some (.int .i64 x.set) ∧ w.cell? ⟨b, o + 3, none⟩ = some (.int .i64 x.rule) ∧ w.cell? ⟨b, o + 4, none⟩ = some (.int .i64 x.piece) ∧ w.cell? ⟨b, o + 5, none⟩ = some (.int .i64 x.depth)
theorem StrAt.stable : Stable StrAt := fun _ _ _ _ _ hB h => keep hB h
theorem SaidAt.stable : Stable SaidAt := fun _ _ _ _ _ hB ⟨h0, h1, h2, h3, h4, h5⟩ => ⟨keep hB h0, keep hB h1, keep hB h2, keep hB h3, keep hB h4, keep hB h5⟩

theorem row_cell {W : World} {base e size k : Nat} {v : Value} {xs : List Value} (h : W.ownsRow base e size v k xs) (hk : 0 < k) : ∃ g cap, v = .slice (some ⟨g, 0, none⟩) k cap ∧ ∀ j u, xs[j]? = some u → W.cell? ⟨g, j, none⟩ = some u := by
  obtain ⟨hl, ⟨-, h0⟩ | ⟨g, cap, cur, rfl, -, hb, hkc, -, hcs, ht⟩⟩ := h
  · omega
  · refine ⟨g, cap, rfl, fun j u hj => ?_⟩
    rw [← ht] at hj
    have hj2 : cur.toList[j]? = some u := by
      rw [List.getElem?_take] at hj
      split at hj
      · exact hj
      · cases hj
    simp only [World.cell?, hb]
    simpa using hj2
/-- All the words of an ask; or none, where a form lacks. -/
def saidOf (S : Sys) (a : Ask) : Option (List Said) := if (items S a 0).all Prod.snd = true then some ((items S a 0).map Prod.fst) else none
def wordsOf (S : Sys) (a : Ask) : Option (List ByteArray) := (saidOf S a).map fun l => l.map Said.txt

theorem texts_slice {W : World} {base : Nat} {v : Value} {l : List Item} (h : W.ownsRow base 9 1 v l.length (texts l)) (hl : l.length ≤ 1000000) : SliceV W v 1 StrAt (l.map fun x => x.1.txt) := by
  by_cases h0 : 0 < l.length
  · obtain ⟨g, cap, rfl, hc⟩ := row_cell h h0
    refine ⟨_, cap, by rw [List.length_map], by rw [List.length_map]; unfold most; omega, .inr ⟨g, 0, rfl, fun i hi => ?_⟩⟩
    refine hc (0 + i * 1) _ ?_
    rw [List.length_map] at hi
    simp [texts, hi]
  · have : l = [] := by cases l; rfl; simp at h0
    subst this
    obtain ⟨ad, cap, rfl⟩ := ownsRow_slice h
    exact ⟨_, cap, rfl, by simp, .inl rfl⟩
theorem saids_get (l : List Item) : ∀ (i : Nat) (hi : i < l.length) (j : Nat), j < 6 → (saids l)[i * 6 + j]? = (cellsOf (l[i]'hi).1)[j]? := by
  induction l with
  | nil => intro i hi; simp at hi
  | cons x l ih =>
    intro i hi j hj
    have e : saids (x :: l) = cellsOf x.1 ++ saids l := by simp [saids]
    rw [e]
    cases i with
    | zero =>
      rw [List.getElem?_append_left (by simp [cellsOf]; omega)]
      simp
    | succ i =>
      rw [List.getElem?_append_right (by simp [cellsOf]; omega)]
      have := ih i (by simpa using hi) j hj
      simp only [List.getElem_cons_succ]
      rw [← this]
      congr 1
      simp [cellsOf]; omega
theorem saids_slice {W : World} {base : Nat} {v : Value} {l : List Item} (h : W.ownsRow base 50 6 v l.length (saids l)) (hl : l.length ≤ 1000000) : SliceV W v 6 SaidAt (l.map Prod.fst) := by
  by_cases h0 : 0 < l.length
  · obtain ⟨g, cap, rfl, hc⟩ := row_cell h h0
    refine ⟨_, cap, by rw [List.length_map], by rw [List.length_map]; unfold most; omega, .inr ⟨g, 0, rfl, fun i hi => ?_⟩⟩
    rw [List.length_map] at hi
    have hg := saids_get l i hi
    simp only [List.getElem_map, Nat.zero_add]
    exact ⟨hc _ _ ((hg 0 (by omega)).trans rfl), hc _ _ ((hg 1 (by omega)).trans rfl), hc _ _ ((hg 2 (by omega)).trans rfl), hc _ _ ((hg 3 (by omega)).trans rfl), hc _ _ ((hg 4 (by omega)).trans rfl), hc _ _ ((hg 5 (by omega)).trans rfl)⟩
  · have : l = [] := by cases l; rfl; simp at h0
    subst this
    obtain ⟨ad, cap, rfl⟩ := ownsRow_slice h
    exact ⟨_, cap, rfl, by simp, .inl rfl⟩

/-- What a speller hands back. -/
def Spelled (S : Sys) (a : Ask) (e : Ending) (w' : World) : Prop :=
  (∃ ws v, wordsOf S a = some ws ∧ e = .returned (.tuple #[v, .bool true]) ∧ SliceV w' v 1 StrAt ws) ∨ (wordsOf S a = none ∧ e = .returned (.tuple #[.slice none 0 0, .bool false]))
def Traced (S : Sys) (a : Ask) (e : Ending) (w' : World) : Prop :=
  (∃ ws v, saidOf S a = some ws ∧ e = .returned (.tuple #[v, .bool true]) ∧ SliceV w' v 6 SaidAt ws) ∨ (saidOf S a = none ∧ e = .returned (.tuple #[.slice none 0 0, .bool false]))

set_option maxHeartbeats 1000000 in
theorem spell_any (S : Sys) (a : Ask) (sb : Nat) (w : World) (hS : Right S) (ha : AskRight S a) (hs0 : SplAt w sb S) :
    Calls Try.prog 48 #[.pointer (some ⟨sb, 0, none⟩), a.val] w fun e w' => Spelled S a e w' ∧ Below w.heap.size w w' := by
  have HA := Lib.hid ha
  have HS := Lib.hid hS
  have HSP := Lib.hid hs0
  unfold Ask.val
  clear ha hS hs0
  go_enter Try.func48, Try.ntmps48
  go_wp2_with (first
    | (go_at_call 80; refine (words_any a sb _).mono ?_; rintro e w1 ⟨bs, ba, ⟨rfl, hcs, hca⟩, hb1⟩; have HB1 := bThen (bAlloc (Below.refl _ _) _) hb1; have HCS := Lib.hid hcs; have HCA := Lib.hid hca; clear hcs hca)
    | (go_at_call 79; refine (collectText_any S a sb bs ba _ HS.out HA.out (HSP.out.keep HB1) HCS.out HCA.out (items_few HS.out HA.out 0)).mono ?_; rintro e w2 ⟨⟨hall, v, rfl, hrow⟩ | ⟨hall, rfl⟩, hb2⟩))
  · go_ret2
    refine ⟨.inl ⟨_, v, by simp [wordsOf, saidOf, hall]; rfl, rfl, ?_⟩, bThen HB1 hb2⟩
    simpa [Function.comp_def] using texts_slice hrow (items_few HS.out HA.out 0)
  · go_ret2
    exact ⟨.inr ⟨by simp [wordsOf, saidOf, hall], rfl⟩, bThen HB1 hb2⟩
set_option maxHeartbeats 1000000 in
theorem trace_any (S : Sys) (a : Ask) (sb : Nat) (w : World) (hS : Right S) (ha : AskRight S a) (hs0 : SplAt w sb S) :
    Calls Try.prog 49 #[.pointer (some ⟨sb, 0, none⟩), a.val] w fun e w' => Traced S a e w' ∧ Below w.heap.size w w' := by
  have HA := Lib.hid ha
  have HS := Lib.hid hS
  have HSP := Lib.hid hs0
  unfold Ask.val
  clear ha hS hs0
  go_enter Try.func49, Try.ntmps49
  go_wp2_with (first
    | (go_at_call 80; refine (words_any a sb _).mono ?_; rintro e w1 ⟨bs, ba, ⟨rfl, hcs, hca⟩, hb1⟩; have HB1 := bThen (bAlloc (Below.refl _ _) _) hb1; have HCS := Lib.hid hcs; have HCA := Lib.hid hca; clear hcs hca)
    | (go_at_call 82; refine (collectSaid_any S a sb bs ba _ HS.out HA.out (HSP.out.keep HB1) HCS.out HCA.out (items_few HS.out HA.out 0)).mono ?_; rintro e w2 ⟨⟨hall, v, rfl, hrow⟩ | ⟨hall, rfl⟩, hb2⟩))
  · go_ret2
    exact ⟨.inl ⟨_, v, by simp [saidOf, hall], rfl, saids_slice hrow (items_few HS.out HA.out 0)⟩, bThen HB1 hb2⟩
  · go_ret2
    exact ⟨.inr ⟨by simp [saidOf, hall], rfl⟩, bThen HB1 hb2⟩
end Go.Proofs.Ytfcopnlpcbbocaa
