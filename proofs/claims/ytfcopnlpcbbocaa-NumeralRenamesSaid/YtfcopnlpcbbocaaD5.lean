/- Contracts: what is asked of a rest and of a quotient. -/
import Derived.Test.YtfcopnlpcbbocaaC7
import Derived.Test.YtfcopnlpcbbocaaP1
import Derived.StillTailTactics
import Derived.Deep.Cut
import Derived.Deep.RegionHeld3
set_option linter.unusedSimpArgs false
set_option linter.unusedVariables false
namespace Go.Proofs.Ytfcopnlpcbbocaa
open Go.RowKit

set_option maxRecDepth 100000 in
set_option maxHeartbeats 1000000 in
theorem askRest_any (gen kas rest set : Int) (b : Nat) (w : World) (h10 : w.cell? ⟨b, 10, none⟩ = some (.int .i64 rest)) (h3 : w.cell? ⟨b, 3, none⟩ = some (.int .i64 gen)) (h4 : w.cell? ⟨b, 4, none⟩ = some (.int .i64 kas)) :
    Calls Try.prog 90 #[.pointer (some ⟨b, 0, none⟩), .int .i64 set] w fun e w' => e = .returned (Ask.val ⟨rest, set, gen, kas⟩) ∧ Below w.heap.size w w' := by
  have hb := cell_lt h10
  go_enter Try.func90, Try.ntmps90
  go_wp2_with fail
  generalize hW : World.alloc w _ = W0
  have HB0 : Below w.heap.size w W0 := by rw [← hW]; exact bAlloc (Below.refl _ _) _
  have g0 : W0.cell? ⟨w.heap.size, 0, none⟩ = some (.int .i64 0) := by rw [← hW]; simp
  have g1 : W0.cell? ⟨w.heap.size, 1, none⟩ = some (.int .i64 0) := by rw [← hW]; simp
  have g2 : W0.cell? ⟨w.heap.size, 2, none⟩ = some (.int .i64 0) := by rw [← hW]; simp
  have g3 : W0.cell? ⟨w.heap.size, 3, none⟩ = some (.int .i64 0) := by rw [← hW]; simp
  have e0 : ∀ j, W0.frozen? ⟨w.heap.size, j, none⟩ = false := by intro j; rw [← hW]; simp
  clear hW
  have h10 := keep HB0 h10
  have h3 := keep HB0 h3
  have h4 := keep HB0 h4
  have hb := cell_lt h10
  have hg := cell_lt g0
  refine wp_opaque fun Q2 hQ2 => ?_
  go_still_tail 16, (by kernel_rfl)
  change wpList _ _ _ _ _ (World.drew _)
  generalize hw2 : World.drew _ = W1
  have HB1 : Below W0.heap.size W0 W1 := by rw [← hw2]; exact (Below.refl _ _).drew
  have e0 : ∀ j, W1.frozen? ⟨w.heap.size, j, none⟩ = false := by intro j; rw [← hw2]; exact e0 j
  clear hw2
  have g0 := keep HB1 g0
  have g1 := keep HB1 g1
  have g2 := keep HB1 g2
  have g3 := keep HB1 g3
  have hg := cell_lt g0
  go_wp2_with fail
  refine bodyPost_ret ?_ rfl ⟨rfl, ?_⟩
  · simp [results, Try.results90, go_sem, g0, g1, g2, g3, Ask.val]
  · exact ((((bThen HB0 HB1).setCell (p := ⟨w.heap.size, 0, none⟩) (Nat.le_refl _) _).setCell (p := ⟨w.heap.size, 1, none⟩) (Nat.le_refl _) _).setCell (p := ⟨w.heap.size, 2, none⟩) (Nat.le_refl _) _).setCell (p := ⟨w.heap.size, 3, none⟩) (Nat.le_refl _) _
end Go.Proofs.Ytfcopnlpcbbocaa
/- Contracts: what is asked of a quotient. -/
namespace Go.Proofs.Ytfcopnlpcbbocaa
open Go.RowKit

theorem countedGen_drop (S : Sys) (l : List Pce) (g : Int) (n : Nat) (h : n < l.length) (hk : l[n].kind ≠ 2) : countedGen S (l.drop n) g = countedGen S (l.drop (n + 1)) g := by
  rw [countedGen, countedGen, List.drop_eq_getElem_cons h, List.find?_cons]
  simp [hk]
theorem countedGen_hit (S : Sys) (l : List Pce) (g : Int) (n : Nat) (h : n < l.length) (hk : l[n].kind = 2) : countedGen S (l.drop n) g = (termOf S l[n].term).gen := by
  rw [countedGen, List.drop_eq_getElem_cons h, List.find?_cons]
  simp [hk]

set_option maxRecDepth 100000 in
set_option maxHeartbeats 2000000 in
theorem askQuotient_any (S : Sys) (gen kas q set : Int) (pcs : List Pce) (v : Value) (b sb : Nat) (w : World) (hs : SysAt w sb 0 S) (h0 : w.cell? ⟨b, 0, none⟩ = some (.pointer (some ⟨sb, 0, none⟩))) (h9 : w.cell? ⟨b, 9, none⟩ = some (.int .i64 q)) (h3 : w.cell? ⟨b, 3, none⟩ = some (.int .i64 gen)) (h4 : w.cell? ⟨b, 4, none⟩ = some (.int .i64 kas))
    (h8 : w.cell? ⟨b, 8, none⟩ = some v) (hv : SliceV w v 4 PceAt pcs) (hterm : ∀ i (h : i < pcs.length), pcs[i].kind = 2 → 0 ≤ pcs[i].term ∧ pcs[i].term < S.terms.length) :
    Calls Try.prog 89 #[.pointer (some ⟨b, 0, none⟩), .int .i64 set] w fun e w' => e = .returned (Ask.val ⟨q, set, countedGen S pcs gen, kas⟩) ∧ Below w.heap.size w w' := by
  obtain ⟨pa, pc, rfl, hpl, hx⟩ := hv
  unfold most at hpl
  obtain ⟨vt, _, _, k0, -, -, -, k4, -, -, ht, -⟩ := hs
  simp only [Nat.zero_add] at k4
  obtain ⟨ta, tc, rfl, htl, hy⟩ := ht
  unfold most at htl
  have hb := cell_lt h9
  go_enter Try.func89, Try.ntmps89
  go_wp2_with fail
  generalize hW : World.alloc w _ = W0
  have HB0 : Below w.heap.size w W0 := by rw [← hW]; exact bAlloc (Below.refl _ _) _
  have r0 : W0.cell? ⟨w.heap.size, 0, none⟩ = some (.int .i64 0) := by rw [← hW]; simp
  have r1 : W0.cell? ⟨w.heap.size, 1, none⟩ = some (.int .i64 0) := by rw [← hW]; simp
  have r2 : W0.cell? ⟨w.heap.size, 2, none⟩ = some (.int .i64 0) := by rw [← hW]; simp
  have r3 : W0.cell? ⟨w.heap.size, 3, none⟩ = some (.int .i64 0) := by rw [← hW]; simp
  have e0 : ∀ j, W0.frozen? ⟨w.heap.size, j, none⟩ = false := by intro j; rw [← hW]; simp
  clear hW
  have h9 := keep HB0 h9
  have h3 := keep HB0 h3
  have h4 := keep HB0 h4
  have h8 := keep HB0 h8
  have h0 := keep HB0 h0
  have hb := cell_lt h9
  have hg := cell_lt r0
  refine wp_opaque fun Q2 hQ2 => ?_
  go_region_held3 (fun w' => w'.cell? ⟨b, 9, none⟩ = some (.int .i64 q) ∧ w'.cell? ⟨b, 3, none⟩ = some (.int .i64 gen) ∧ w'.cell? ⟨b, 4, none⟩ = some (.int .i64 kas)) (go_keep) (first | fail)
  refine hQ2 _ _ _ ?_
  clear hQ2 Q2
  generalize hW : World.drew _ = W2
  have HBB : Below W0.heap.size W0 W2 := by rw [← hW]; exact (bAlloc (Below.refl _ _) _).drew
  have i0 : W2.cell? ⟨W0.heap.size, 0, none⟩ = some (.int .i64 q) := by rw [← hW]; simp
  have i1 : W2.cell? ⟨W0.heap.size, 1, none⟩ = some (.int .i64 set) := by rw [← hW]; simp
  have i2 : W2.cell? ⟨W0.heap.size, 2, none⟩ = some (.int .i64 gen) := by rw [← hW]; simp
  have i3 : W2.cell? ⟨W0.heap.size, 3, none⟩ = some (.int .i64 kas) := by rw [← hW]; simp
  have j0 : ∀ j, W2.frozen? ⟨W0.heap.size, j, none⟩ = false := by intro j; rw [← hW]; simp
  clear hW
  have e0 : ∀ j, W2.frozen? ⟨w.heap.size, j, none⟩ = false := fun j => (HBB.frozen (p := ⟨w.heap.size, j, none⟩) (by simp; omega)).trans (e0 j)
  have h8 := keep HBB h8
  have h0 := keep HBB h0
  have r0 := keep HBB r0
  have r1 := keep HBB r1
  have r2 := keep HBB r2
  have r3 := keep HBB r3
  have HBa := bThen HB0 HBB
  have hb := cell_lt h8
  have fin := Lib.hid (show countedGen S pcs gen = countedGen S (pcs.drop 0) gen from rfl)
  go_wp2_with fail
  have hil := cell_lt i0
  have hel := cell_lt r0
  go_loopw [30] (fun i wr => ∃ n : Nat, n ≤ pcs.length ∧ i = .int .i64 n ∧ Hid (countedGen S pcs gen = countedGen S (pcs.drop n) gen) ∧ Below W2.heap.size W2 wr) (fun i _ => pcs.length - (intOf i).toNat)
  case atStart => exact ⟨0, Nat.zero_le _, rfl, fin, Below.refl _ _⟩
  case round =>
    obtain ⟨n, hn, rfl, HF, hB⟩ := hrel
    have i0 := keep hB i0
    have i1 := keep hB i1
    have i2 := keep hB i2
    have i3 := keep hB i3
    have j0 : ∀ j, wr.frozen? ⟨W0.heap.size, j, none⟩ = false := fun j => (hB.frozen (p := ⟨W0.heap.size, j, none⟩) (by simp; exact hil)).trans (j0 j)
    have e0 : ∀ j, wr.frozen? ⟨w.heap.size, j, none⟩ = false := fun j => (hB.frozen (p := ⟨w.heap.size, j, none⟩) (by simp; exact hel)).trans (e0 j)
    have r0 := keep hB r0
    have r1 := keep hB r1
    have r2 := keep hB r2
    have r3 := keep hB r3
    have h0 := keep hB h0
    have hi := cell_lt i0
    have hr := cell_lt r0
    have hhb := cell_lt h0
    have HBw := bThen HBa hB
    by_cases hlt : n < pcs.length
    · rcases hx with hnil | ⟨pb, po, rfl, hp⟩
      · simp [hnil] at hlt
      obtain ⟨p0, p1, p2, p3⟩ := PceAt.stable _ _ _ _ _ HBw (hp n hlt)
      have hpb := cell_lt p0
      have ht := hterm n hlt
      have HN := Lib.hid (countedGen_drop S pcs gen n hlt)
      have HH := Lib.hid (countedGen_hit S pcs gen n hlt)
      clear hp hterm
      generalize pcs[n] = p at *
      by_cases hk : p.kind = 2
      · have htt := ht hk
        have hk2 : (p.kind == 2) = true := by simp [hk]
        have HK := Lib.hid hk
        clear hk ht
        have hat : p.term.toNat < S.terms.length := by omega
        rcases hy with hnil | ⟨tb, to, rfl, hf⟩
        · simp [hnil] at hat
        obtain ⟨t0, -⟩ := TermAt.stable _ _ _ _ _ HBw (hf p.term.toNat hat)
        have e1 : S.terms[p.term.toNat] = termOf S p.term := by simp [termOf, List.getElem?_eq_getElem hat]
        rw [e1] at t0
        have k4 := keep HBw k4
        have htb := cell_lt t0
        have hsb := cell_lt k4
        obtain ⟨ht0, ht1⟩ := htt
        clear hf e1
        go_wp2_with fail
        generalize hW : World.alloc wr _ = W3
        have HB3 : Below wr.heap.size wr W3 := by rw [← hW]; exact bAlloc (Below.refl _ _) _
        have p1 : W3.cell? ⟨wr.heap.size, 1, none⟩ = some (.int .i64 p.term) := by rw [← hW]; simp
        clear hW p0 p2 p3
        have i0 := keep HB3 i0
        have i1 := keep HB3 i1
        have i2 := keep HB3 i2
        have i3 := keep HB3 i3
        have j0 : ∀ j, W3.frozen? ⟨W0.heap.size, j, none⟩ = false := fun j => (HB3.frozen (p := ⟨W0.heap.size, j, none⟩) (by simp; exact hi)).trans (j0 j)
        have e0 : ∀ j, W3.frozen? ⟨w.heap.size, j, none⟩ = false := fun j => (HB3.frozen (p := ⟨w.heap.size, j, none⟩) (by simp; exact hr)).trans (e0 j)
        have r0 := keep HB3 r0
        have r1 := keep HB3 r1
        have r2 := keep HB3 r2
        have r3 := keep HB3 r3
        have h0 := keep HB3 h0
        have t0 := keep HB3 t0
        have k4 := keep HB3 k4
        have hne : w.heap.size ≠ W0.heap.size := by omega
        have hi := cell_lt i0
        have hr := cell_lt r0
        have hhb := cell_lt h0
        have htb := cell_lt t0
        have hsb := cell_lt k4
        have hpl := cell_lt p1
        refine wp_opaque fun Q2 hQ2 => ?_
        go_still_tail 14, (by kernel_rfl)
        change wpList _ _ _ _ _ (World.drew _)
        generalize hw2 : World.drew _ = W4
        have HB4 : Below W3.heap.size W3 W4 := by rw [← hw2]; exact (Below.refl _ _).drew
        have j0 : ∀ j, W4.frozen? ⟨W0.heap.size, j, none⟩ = false := by intro j; rw [← hw2]; exact j0 j
        have e0 : ∀ j, W4.frozen? ⟨w.heap.size, j, none⟩ = false := by intro j; rw [← hw2]; exact e0 j
        clear hw2
        have i0 := keep HB4 i0
        have i1 := keep HB4 i1
        have i2 := keep HB4 i2
        have i3 := keep HB4 i3
        have r0 := keep HB4 r0
        have r1 := keep HB4 r1
        have r2 := keep HB4 r2
        have r3 := keep HB4 r3
        have hi := cell_lt i0
        have hr := cell_lt r0
        have HBz := bThen (bThen HBw HB3) HB4
        go_wp2_with fail
        refine bodyPost_ret ?_ rfl ⟨rfl, ?_⟩
        · have := HF.out
          rw [this, HH.out HK.out]
          simp [results, Try.results89, go_sem, r0, r1, r2, r3, Ask.val]
        · exact ((((HBz.setCell (p := ⟨W0.heap.size, 2, none⟩) (by simp; omega) _).setCell (p := ⟨w.heap.size, 0, none⟩) (Nat.le_refl _) _).setCell (p := ⟨w.heap.size, 1, none⟩) (Nat.le_refl _) _).setCell (p := ⟨w.heap.size, 2, none⟩) (Nat.le_refl _) _).setCell (p := ⟨w.heap.size, 3, none⟩) (Nat.le_refl _) _
      · have hk2 : (p.kind == 2) = false := by simp [hk]
        have HK := Lib.hid hk
        clear hk ht
        go_wp2_with fail
        go_roundw
        case rel => exact ⟨n + 1, by omega, by go_num, Lib.hid (HF.out.trans (HN.out HK.out)), bAlloc hB _⟩
        case measure => simp [intOf]; omega
    · obtain rfl : n = pcs.length := by omega
      go_wp2_with fail
      refine bodyPost_ret ?_ rfl ⟨rfl, ?_⟩
      · have := HF.out
        rw [this]
        simp [results, Try.results89, go_sem, r0, r1, r2, r3, Ask.val, countedGen]
      · exact ((((HBw.setCell (p := ⟨w.heap.size, 0, none⟩) (Nat.le_refl _) _).setCell (p := ⟨w.heap.size, 1, none⟩) (Nat.le_refl _) _).setCell (p := ⟨w.heap.size, 2, none⟩) (Nat.le_refl _) _).setCell (p := ⟨w.heap.size, 3, none⟩) (Nat.le_refl _) _)
end Go.Proofs.Ytfcopnlpcbbocaa
