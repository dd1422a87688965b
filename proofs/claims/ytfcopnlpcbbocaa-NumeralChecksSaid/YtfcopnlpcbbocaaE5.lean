/- Contracts: what a piece says, by its kind. -/
import Derived.Test.YtfcopnlpcbbocaaE4
import Derived.Test.YtfcopnlpcbbocaaP2
namespace Go.Proofs.Ytfcopnlpcbbocaa
open Go.RowKit

theorem Right.mods {S : Sys} (h : Right S) : ∀ i (hi : i < S.plurals.length), 1 ≤ S.plurals[i].mod := fun i hi => by
  have := h.ok
  simp only [sysOk, Bool.and_eq_true] at this
  have hh := (List.all_eq_true.1 this.1.2) _ (List.getElem_mem hi)
  simp only [pluOk, betw, Bool.and_eq_true, decide_eq_true_eq] at hh
  omega

theorem piece_any {w0 : World} {own : Nat → Bool} {l N : Nat} {J Jx : List Item → World → Prop} (hH : Hear w0 own l N J Jx) (k : Nat) (S : Sys) (a : Ask) (d : Int) (b sb i : Nat) (pc : Pce) (pre : List Item) (W : World)
    (hJ : J pre W) (hlen : pre.length + (pieceItems (itemsF k S) S a d pc i).length ≤ N) (hS : Right S) (ha : AskRight S a) (hp : PartIn w0 W b sb S a d) (hs0 : SplAt w0 sb S)
    (hi : i < (ruleOf S a).pieces.length) (hpc : (ruleOf S a).pieces[i] = pc) (hd : IntKind.i64.wrap (d + 1) = d + 1)
    (hrec : ∀ (a' : Ask) pre' W', AskRight S a' → a'.num < a.num → J pre' W' → pre'.length + (itemsF k S a' (d + 1)).length ≤ N →
      Calls Try.prog 94 #[.pointer (some ⟨sb, 0, none⟩), a'.val, .int .i64 (d + 1), .func (.yield l) #[] #[]] W' (AndBool (Push J Jx (Kp w0.heap.size own) pre' (itemsF k S a' (d + 1)) W'))) :
    Calls Try.prog (69 + pc.kind.toNat) #[.pointer (some ⟨b, 0, none⟩), .int .i64 i, .func (.yield l) #[] #[]] W (AndBool (Push J Jx (Kp w0.heap.size own) pre (pieceItems (itemsF k S) S a d pc i) W)) := by
  have hB0 := hH.low _ _ hJ
  have hn : w0.heap.size ≤ W.heap.size := hB0.size
  have hs : SplAt W sb S := hs0.keep hB0
  have hm := hS.mods
  obtain ⟨-, -, -, -, -, -, hr⟩ := rule_right hS ha
  have hmem : pc ∈ (ruleOf S a).pieces := hpc ▸ List.getElem_mem hi
  have hok := hr.piece pc hmem
  have hJB : ∀ W', Below W.heap.size W W' → J pre W' := fun W' hB => hH.later _ _ _ hJ hB
  rcases pce_kind hok with hk | hk | hk | hk | hk
  · obtain ⟨t0, t1⟩ := pce_term hok (by omega)
    have e : pieceItems (itemsF k S) S a d pc i = [sayItem S a i d pc.term a.gen a.num] := by simp [pieceItems, hk]
    rw [e] at hlen ⊢
    rw [show 69 + pc.kind.toNat = 70 by simp [hk]]
    exact sayTerm_any S a d b sb l i pc W _ hp.1 hs hm hi hpc t0 t1 ha.num (hH.one hJ (by simp only [List.length_cons, List.length_nil] at hlen; omega))
  · obtain ⟨t0, t1⟩ := pce_term hok (by omega)
    have e : pieceItems (itemsF k S) S a d pc i = [sayItem S a i d pc.term (Ytfcopnlpcbbocaa.termOf S pc.term).gen (quo (ruleOf S a) a.num)] := by simp [pieceItems, hk]
    rw [e] at hlen ⊢
    rw [show 69 + pc.kind.toNat = 71 by simp [hk]]
    have hq := quo_lt hr (pce_div hok (by omega))
    exact sayCounted_any S a d b sb l i pc W _ hp.1 hs hm hi hpc t0 t1 hq.1 (hH.one hJ (by simp only [List.length_cons, List.length_nil] at hlen; omega))
  · have e : pieceItems (itemsF k S) S a d pc i = itemsF k S (askQuo S a pc.set) (d + 1) := by simp [pieceItems, hk]
    rw [e] at hlen ⊢
    rw [show 69 + pc.kind.toNat = 72 by simp [hk]]
    have hq := askQuo_right hS ha hmem hk
    exact sayQuotient_any S a d b sb l i pc w0 W _ hp hB0 hs hi hpc hd (fun j hj hj2 => pce_term (hr.piece _ (List.getElem_mem hj)) (by omega)) (hp.held hB0 hH.part)
      fun W' hB => (hrec _ pre W' hq.1 hq.2 (hJB W' hB) hlen).mono fun _ _ h => ⟨h.1, h.2.from hB hn⟩
  · rw [show 69 + pc.kind.toNat = 73 by simp [hk]]
    refine sayRest_any S a d b sb l i pc w0 W _ hp hB0 hi hpc hd (fun h0 W' hB => ?_) (hp.held hB0 hH.part) (fun h0 W' hB => ?_)
    · have e : pieceItems (itemsF k S) S a d pc i = [] := by simp [pieceItems, hk, h0]
      rw [e]
      exact Push.none hB hn (hJB W' hB)
    · have e : pieceItems (itemsF k S) S a d pc i = itemsF k S (askRst S a pc.set) (d + 1) := by simp [pieceItems, hk, h0]
      rw [e] at hlen ⊢
      have hq := askRst_right hS ha hmem hk
      exact (hrec _ pre W' hq.1 hq.2 (hJB W' hB) hlen).mono fun _ _ h => ⟨h.1, h.2.from hB hn⟩
  · obtain ⟨t0, t1⟩ := pce_term hok (by omega)
    rw [show 69 + pc.kind.toNat = 74 by simp [hk]]
    have hq := quo_lt hr (pce_div hok (by omega))
    refine sayLink_any S a d b sb l i pc W _ hp.1 hs hm hi hpc t0 t1 hq.2.2.1 (fun h0 => ?_) (fun h0 => ?_)
    · have e : pieceItems (itemsF k S) S a d pc i = [] := by simp [pieceItems, hk, h0]
      rw [e]
      exact Push.none (Below.refl _ _) hn hJ
    · have e : pieceItems (itemsF k S) S a d pc i = [sayItem S a i d pc.term a.gen (rst (ruleOf S a) a.num)] := by
        unfold pieceItems
        rw [if_neg (by omega), if_neg (by omega), if_neg (by omega), if_neg (by omega), if_pos hk, if_neg h0]
      rw [e] at hlen ⊢
      exact hH.one hJ (by simp only [List.length_cons, List.length_nil] at hlen; omega)
end Go.Proofs.Ytfcopnlpcbbocaa
