/- Contracts: what a piece says, where it is a term. -/
import Derived.Test.YtfcopnlpcbbocaaE1
namespace Go.Proofs.Ytfcopnlpcbbocaa
open Go.RowKit
attribute [local go_sem] Oper.semAt_some

/-- A bool is handed back, and R holds. -/
def AndBool (R : Ending → World → Prop) (e : Ending) (w : World) : Prop := (∃ t, e = .returned (.bool t)) ∧ R e w

set_option maxRecDepth 100000 in
set_option maxHeartbeats 4000000 in
theorem sayTerm_any (S : Sys) (a : Ask) (d : Int) (b sb l i : Nat) (pc : Pce) (W : World) (R : Ending → World → Prop) (hp : PartAt W b sb S a d) (hs : SplAt W sb S)
    (hmod : ∀ i (h : i < S.plurals.length), 1 ≤ S.plurals[i].mod) (hi : i < (ruleOf S a).pieces.length) (hpc : (ruleOf S a).pieces[i] = pc) (ht0 : 0 ≤ pc.term) (ht1 : pc.term < S.terms.length) (hcnt : 0 ≤ a.num)
    (hY : ∀ W', Below W.heap.size W W' → YieldAt Fence.wide 0 Try.prog l #[(sayItem S a i d pc.term a.gen a.num).1.val, .bool (sayItem S a i d pc.term a.gen a.num).2] W' (AndBool R)) :
    Calls Try.prog 70 #[.pointer (some ⟨b, 0, none⟩), .int .i64 i, .func (.yield l) #[] #[]] W (AndBool R) := by
  have HP := Lib.hid hp
  have HS := Lib.hid hs
  have HY := Lib.hid hY
  have HM := Lib.hid hmod
  have HPC := Lib.hid hpc
  obtain ⟨q0, q1, q2, q3, q4, q5, q6, q7, -, q9, q10, q11⟩ := hp
  have hb := cell_lt q0
  clear hY hmod hpc hs
  go_enter Try.func70, Try.ntmps70
  go_wp2_with fail
  refine wp_opaque fun Q2 hQ2 => ?_
  go_still_tail 13, (by kernel_rfl)
  change wpList _ _ _ _ _ (World.drew _)
  have hB : Below W.heap.size W W.drew := (Below.refl _ _).drew
  generalize W.drew = W1 at *
  have hcall := sayForm_any S a d b sb l i pc a.gen a.num W1 (AndBool R) (HP.out.keep hB) (HS.out.keep hB) HM.out hi HPC.out ht0 ht1 hcnt (fun W' hB' => YieldAt.mono (HY.out W' (bThen hB hB')) fun e w h => ⟨h.1, h⟩)
  go_wp2_with (go_at_call 93; refine hcall.mono ?_; clear hcall; rintro e w1 ⟨⟨t, rfl⟩, hr⟩)
  go_ret
  exact ⟨⟨t, rfl⟩, hr⟩

set_option maxRecDepth 100000 in
set_option maxHeartbeats 4000000 in
theorem sayCounted_any (S : Sys) (a : Ask) (d : Int) (b sb l i : Nat) (pc : Pce) (W : World) (R : Ending → World → Prop) (hp : PartAt W b sb S a d) (hs : SplAt W sb S)
    (hmod : ∀ i (h : i < S.plurals.length), 1 ≤ S.plurals[i].mod) (hi : i < (ruleOf S a).pieces.length) (hpc : (ruleOf S a).pieces[i] = pc) (ht0 : 0 ≤ pc.term) (ht1 : pc.term < S.terms.length) (hcnt : 0 ≤ quo (ruleOf S a) a.num)
    (hY : ∀ W', Below W.heap.size W W' → YieldAt Fence.wide 0 Try.prog l #[(sayItem S a i d pc.term (termOf S pc.term).gen (quo (ruleOf S a) a.num)).1.val, .bool (sayItem S a i d pc.term (termOf S pc.term).gen (quo (ruleOf S a) a.num)).2] W' (AndBool R)) :
    Calls Try.prog 71 #[.pointer (some ⟨b, 0, none⟩), .int .i64 i, .func (.yield l) #[] #[]] W (AndBool R) := by
  have HP := Lib.hid hp
  have HS := Lib.hid hs
  have HY := Lib.hid hY
  have HM := Lib.hid hmod
  have HPC := Lib.hid hpc
  obtain ⟨q0, q1, q2, q3, q4, q5, q6, q7, ⟨v, q8, hv⟩, q9, q10, q11⟩ := hp
  obtain ⟨⟨vt, _, _, s0, -, -, -, s4, -, -, hts, -⟩, -⟩ := hs
  simp only [Nat.zero_add] at s4
  obtain ⟨ta, tc, rfl, htl, hx⟩ := hts
  obtain ⟨pa, pcap, rfl, hpl, hy⟩ := hv
  unfold most at htl hpl
  have hat : pc.term.toNat < S.terms.length := by omega
  rcases hx with hnil | ⟨tb, to, rfl, hf⟩
  · simp [hnil] at hat
  rcases hy with hnil | ⟨pb, po, rfl, hpp⟩
  · simp [hnil] at hi
  obtain ⟨t0, -⟩ := hf pc.term.toNat hat
  have e1 : S.terms[pc.term.toNat] = termOf S pc.term := by simp [termOf, List.getElem?_eq_getElem hat]
  rw [e1] at t0
  obtain ⟨p0, p1, -, -⟩ := hpp i hi
  rw [HPC.out] at p0 p1
  have hb := cell_lt q0
  have hsb := cell_lt s4
  have htb := cell_lt t0
  have hpb := cell_lt p0
  have hi0 : (0 : Int) ≤ (i : Int) := by omega
  have hi1 : (i : Int) < ((ruleOf S a).pieces.length : Int) := by omega
  have hi2 : ((i : Int)).toNat = i := by omega
  clear hY hmod hpc e1 hf hpp
  go_enter Try.func71, Try.ntmps71
  go_wp2_with fail
  refine wp_opaque fun Q2 hQ2 => ?_
  go_still_tail 27, (by kernel_rfl)
  change wpList _ _ _ _ _ (World.drew _)
  have hB : Below W.heap.size W W.drew := (Below.refl _ _).drew
  generalize W.drew = W1 at *
  have hcall := sayForm_any S a d b sb l i pc (termOf S pc.term).gen (quo (ruleOf S a) a.num) W1 (AndBool R) (HP.out.keep hB) (HS.out.keep hB) HM.out hi HPC.out ht0 ht1 hcnt (fun W' hB' => YieldAt.mono (HY.out W' (bThen hB hB')) fun e w h => ⟨h.1, h⟩)
  go_wp2_with (go_at_call 93; refine hcall.mono ?_; clear hcall; rintro e w1 ⟨⟨t, rfl⟩, hr⟩)
  go_ret
  exact ⟨⟨t, rfl⟩, hr⟩

set_option maxRecDepth 100000 in
set_option maxHeartbeats 4000000 in
/-- A link: nothing is said where there is no rest, or it is too great. -/
theorem sayLink_any (S : Sys) (a : Ask) (d : Int) (b sb l i : Nat) (pc : Pce) (W : World) (R : Ending → World → Prop) (hp : PartAt W b sb S a d) (hs : SplAt W sb S)
    (hmod : ∀ i (h : i < S.plurals.length), 1 ≤ S.plurals[i].mod) (hi : i < (ruleOf S a).pieces.length) (hpc : (ruleOf S a).pieces[i] = pc) (ht0 : 0 ≤ pc.term) (ht1 : pc.term < S.terms.length) (hcnt : 0 ≤ rst (ruleOf S a) a.num)
    (hno : (rst (ruleOf S a) a.num = 0 ∨ (pc.below ≠ 0 ∧ pc.below ≤ rst (ruleOf S a) a.num)) → R (.returned (.bool true)) W)
    (hY : ¬ (rst (ruleOf S a) a.num = 0 ∨ (pc.below ≠ 0 ∧ pc.below ≤ rst (ruleOf S a) a.num)) → ∀ W', Below W.heap.size W W' → YieldAt Fence.wide 0 Try.prog l #[(sayItem S a i d pc.term a.gen (rst (ruleOf S a) a.num)).1.val, .bool (sayItem S a i d pc.term a.gen (rst (ruleOf S a) a.num)).2] W' (AndBool R)) :
    Calls Try.prog 74 #[.pointer (some ⟨b, 0, none⟩), .int .i64 i, .func (.yield l) #[] #[]] W (AndBool R) := by
  have HP := Lib.hid hp
  have HS := Lib.hid hs
  have HY := Lib.hid hY
  have HN := Lib.hid hno
  have HM := Lib.hid hmod
  have HPC := Lib.hid hpc
  obtain ⟨q0, q1, q2, q3, q4, q5, q6, q7, ⟨v, q8, hv⟩, q9, q10, q11⟩ := hp
  obtain ⟨pa, pcap, rfl, hpl, hy⟩ := hv
  unfold most at hpl
  rcases hy with hnil | ⟨pb, po, rfl, hpp⟩
  · simp [hnil] at hi
  obtain ⟨p0, p1, p2, p3⟩ := hpp i hi
  rw [HPC.out] at p0 p1 p2 p3
  have hb := cell_lt q0
  have hpb := cell_lt p0
  have hi0 : (0 : Int) ≤ (i : Int) := by omega
  have hi1 : (i : Int) < ((ruleOf S a).pieces.length : Int) := by omega
  have hi2 : ((i : Int)).toNat = i := by omega
  clear hY hmod hpc hno hs hpp
  by_cases h0 : rst (ruleOf S a) a.num = 0
  · have h0' : (rst (ruleOf S a) a.num == 0) = true := by simp [h0]
    have H0 := Lib.hid h0
    clear h0
    go_enter Try.func74, Try.ntmps74
    go_wp2_with fail
    go_ret
    exact ⟨⟨_, rfl⟩, HN.out (.inl H0.out)⟩
  have h0' : (rst (ruleOf S a) a.num == 0) = false := by simp [h0]
  by_cases h1 : pc.below ≠ 0 ∧ pc.below ≤ rst (ruleOf S a) a.num
  · have h1' : (pc.below != 0) = true := by simp [h1.1]
    have h2 := h1.2
    have H1 := Lib.hid h1
    clear h1 h0
    go_enter Try.func74, Try.ntmps74
    go_wp2_with fail
    go_ret
    exact ⟨⟨_, rfl⟩, HN.out (.inr H1.out)⟩
  have hgo : ¬ (rst (ruleOf S a) a.num = 0 ∨ (pc.below ≠ 0 ∧ pc.below ≤ rst (ruleOf S a) a.num)) := fun h => h.elim h0 h1
  have HYY := Lib.hid (HY.out hgo)
  clear hgo
  by_cases h2 : pc.below = 0
  · have h1' : (pc.below != 0) = false := by simp [h2]
    clear h1 h0 h2
    go_enter Try.func74, Try.ntmps74
    go_wp2_with fail
    refine wp_opaque fun Q2 hQ2 => ?_
    go_still_tail 12, (by kernel_rfl)
    change wpList _ _ _ _ _ (World.drew _)
    have hB : Below W.heap.size W W.drew := (Below.refl _ _).drew
    generalize W.drew = W1 at *
    have hcall := sayForm_any S a d b sb l i pc a.gen (rst (ruleOf S a) a.num) W1 (AndBool R) (HP.out.keep hB) (HS.out.keep hB) HM.out hi HPC.out ht0 ht1 hcnt (fun W' hB' => YieldAt.mono (HYY.out W' (bThen hB hB')) fun e w h => ⟨h.1, h⟩)
    go_wp2_with (go_at_call 93; refine hcall.mono ?_; clear hcall; rintro e w1 ⟨⟨t, rfl⟩, hr⟩)
    go_ret
    exact ⟨⟨t, rfl⟩, hr⟩
  · have h1' : (pc.below != 0) = true := by simp [h2]
    have h3 : ¬ pc.below ≤ rst (ruleOf S a) a.num := fun h => h1 ⟨h2, h⟩
    clear h1 h0 h2
    go_enter Try.func74, Try.ntmps74
    go_wp2_with fail
    refine wp_opaque fun Q2 hQ2 => ?_
    go_still_tail 12, (by kernel_rfl)
    change wpList _ _ _ _ _ (World.drew _)
    have hB : Below W.heap.size W W.drew := (Below.refl _ _).drew
    generalize W.drew = W1 at *
    have hcall := sayForm_any S a d b sb l i pc a.gen (rst (ruleOf S a) a.num) W1 (AndBool R) (HP.out.keep hB) (HS.out.keep hB) HM.out hi HPC.out ht0 ht1 hcnt (fun W' hB' => YieldAt.mono (HYY.out W' (bThen hB hB')) fun e w h => ⟨h.1, h⟩)
    go_wp2_with (go_at_call 93; refine hcall.mono ?_; clear hcall; rintro e w1 ⟨⟨t, rfl⟩, hr⟩)
    go_ret
    exact ⟨⟨t, rfl⟩, hr⟩
end Go.Proofs.Ytfcopnlpcbbocaa
