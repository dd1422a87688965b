/- Contracts: the energy of a tube by the specification. -/
import Derived.Test.YtbmbcbknoflpgaaE5
set_option linter.unusedSimpArgs false
set_option linter.unusedVariables false
namespace Go.Proofs.Ytbmbcbknoflpgaa
open Go.RowKit

/-- A chain in memory: three lists of one length. -/
structure ChAt (w : World) (tb o : Nat) (al fl bl : List Int) (va vf vb : Value) : Prop where
  c0 : w.cell? ⟨tb, o, none⟩ = some va
  c1 : w.cell? ⟨tb, o + 1, none⟩ = some vf
  c2 : w.cell? ⟨tb, o + 2, none⟩ = some vb
  areas : SliceV w va 1 IntAt al
  fwd : SliceV w vf 1 IntAt fl
  back : SliceV w vb 1 IntAt bl
  flen : fl.length = al.length
  blen : bl.length = al.length
theorem ChAt.keep {w w' : World} {tb o : Nat} {al fl bl : List Int} {va vf vb : Value} (h : ChAt w tb o al fl bl va vf vb) (hB : Below w.heap.size w w') : ChAt w' tb o al fl bl va vf vb :=
  ⟨Go.Proofs.Ytbmbcbknoflpgaa.keep hB h.c0, Go.Proofs.Ytbmbcbknoflpgaa.keep hB h.c1, Go.Proofs.Ytbmbcbknoflpgaa.keep hB h.c2, h.areas.keep IntAt.stable hB, h.fwd.keep IntAt.stable hB, h.back.keep IntAt.stable hB, h.flen, h.blen⟩
def enL (al fl bl : List Int) : Int := enX (fun i => al.getD i 0) (fun i => fl.getD i 0) (fun i => bl.getD i 0) al.length
set_option maxRecDepth 10000 in
set_option maxHeartbeats 2000000 in
theorem refTubeEnergy_any {w : World} {tb : Nat} {al fl bl al2 fl2 bl2 : List Int} {va vf vb va2 vf2 vb2 : Value} (h : ChAt w tb 0 al fl bl va vf vb) (k : ChAt w tb 3 al2 fl2 bl2 va2 vf2 vb2) (hn : al.length ≤ 100) (hm : al2.length ≤ 100) :
    Calls Try.prog 66 #[.pointer (some ⟨tb, 0, none⟩)] w fun e w' => e = .returned (.int .i64 (wrap64 (enL al fl bl + enL al2 fl2 bl2))) ∧ Below w.heap.size w w' := by
  have H1 := Lib.hid (fun x : BW w => refenergy_any al fl bl va vf vb x.val (h.keep x.2).areas (h.keep x.2).fwd (h.keep x.2).back h.flen h.blen hn)
  have H2 := Lib.hid (fun x : BW w => refenergy_any al2 fl2 bl2 va2 vf2 vb2 x.val (k.keep x.2).areas (k.keep x.2).fwd (k.keep x.2).back k.flen k.blen hm)
  obtain ⟨E1, hE1⟩ : ∃ t, wrap64 (enL al fl bl) = t := ⟨_, rfl⟩
  obtain ⟨E2, hE2⟩ : ∃ t, wrap64 (enL al2 fl2 bl2) = t := ⟨_, rfl⟩
  have hsum : wrap64 (enL al fl bl + enL al2 fl2 bl2) = wrap64 (E1 + E2) := by rw [← hE1, ← hE2, w64_add_l, w64_add_r]
  rw [hsum]
  unfold enL at hE1 hE2
  rw [hE1] at H1
  rw [hE2] at H2
  obtain ⟨r, hr⟩ : ∃ t, wrap64 (E1 + E2) = t := ⟨_, rfl⟩
  rw [hr]
  have u1 : IntKind.i64.wrap (E1 + E2) = r := by rw [IntWalk.i64_left]; exact hr
  have c0 := h.c0
  have c1 := h.c1
  have c2 := h.c2
  have d0 := k.c0
  have d1 := k.c1
  have d2 := k.c2
  simp only [Nat.zero_add, Nat.reduceAdd] at c1 c2 d1 d2
  have hl := cell_lt c0
  obtain ⟨a1, n1, rfl, -⟩ := id h.areas
  obtain ⟨a2, n2, rfl, -⟩ := id h.fwd
  obtain ⟨a3, n3, rfl, -⟩ := id h.back
  obtain ⟨a4, n4, rfl, -⟩ := id k.areas
  obtain ⟨a5, n5, rfl, -⟩ := id k.fwd
  obtain ⟨a6, n6, rfl, -⟩ := id k.back
  clear hE1 hE2 hsum hr h k
  go_enter Try.func66, Try.ntmps66
  go_wp2_with fail
  refine wp_opaque fun Q2 hQ2 => ?_
  (refine wp_region_below (by kernel_rfl) (by kernel_rfl) ?_; (repeat (first | go_big_quiet_step ((first | (with_reducible exact toB H1.out _) | (with_reducible exact toB H2.out _))) | quiet_step ((first | (with_reducible exact toB H1.out _) | (with_reducible exact toB H2.out _))))); (refine wpQuiet_nil ?_; intro _ hw'; obtain ⟨xq, hw''⟩ := hw'; subst hw''))
  refine hQ2 _ _ _ ?_
  have HBX := Lib.hid xq.2
  go_wp2_with fail
  go_ret
  exact ⟨rfl, HBX.out⟩
end Go.Proofs.Ytbmbcbknoflpgaa
