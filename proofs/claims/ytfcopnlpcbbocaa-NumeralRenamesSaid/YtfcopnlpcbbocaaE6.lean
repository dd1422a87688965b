/- Contracts: a number is said. -/
import Derived.Test.YtfcopnlpcbbocaaE3
import Derived.Test.YtfcopnlpcbbocaaP1
import Derived.Shelf.Abstract
set_option linter.unusedSimpArgs false
set_option linter.unusedVariables false
namespace Go.Proofs.Ytfcopnlpcbbocaa
open Go.RowKit
attribute [local go_sem] Oper.semAt_some

set_option maxRecDepth 100000 in
set_option maxHeartbeats 4000000 in
theorem say_any {w0 : World} {own : Nat → Bool} {l N : Nat} {J Jx : List Item → World → Prop} (hH : Hear w0 own l N J Jx) (S : Sys) (sb : Nat) (hS : Right S) (hs0 : SplAt w0 sb S) :
    ∀ (k : Nat) (a : Ask) (d : Int) (pre : List Item) (W : World), AskRight S a → a.num < k → 0 ≤ d → d + k ≤ 2000000000000 → J pre W → pre.length + (itemsF k S a d).length ≤ N →
      Calls Try.prog 94 #[.pointer (some ⟨sb, 0, none⟩), a.val, .int .i64 d, .func (.yield l) #[] #[]] W (AndBool (Push J Jx (Kp w0.heap.size own) pre (itemsF k S a d) W)) := by
  intro k
  induction k with
  | zero => intro a d pre W ha h; have := ha.num; omega
  | succ k ih =>
    intro a d pre W ha hk hd0 hdk hJ hlen
    have hB0 := hH.low _ _ hJ
    have hn : w0.heap.size ≤ W.heap.size := hB0.size
    have hta : ∀ W', Below W.heap.size W W' → _ := fun W' hB => takeApart_any S a d sb w0 W' (hB0.trans (hB.mono hn)) hs0 hS ha
    have HTA := Lib.hid hta
    clear hta
    have HIH := Lib.hid ih
    clear ih
    unfold Ask.val
    go_enter Try.func94, Try.ntmps94
    go_wp2_with fail
    generalize hW : World.alloc W _ = W1
    have HB1 : Below W.heap.size W W1 := by rw [← hW]; exact bAlloc (Below.refl _ _) _
    have q0 : W1.cell? ⟨W.heap.size, 0, none⟩ = some (.int .i64 a.num) := by rw [← hW]; simp
    have q1 : W1.cell? ⟨W.heap.size, 1, none⟩ = some (.int .i64 a.set) := by rw [← hW]; simp
    have q2 : W1.cell? ⟨W.heap.size, 2, none⟩ = some (.int .i64 a.gen) := by rw [← hW]; simp
    have q3 : W1.cell? ⟨W.heap.size, 3, none⟩ = some (.int .i64 a.kas) := by rw [← hW]; simp
    clear hW
    have hq := cell_lt q0
    refine (HTA.out W1 HB1).mono ?_
    rintro e w2 ⟨⟨b, rfl, hpart, hty, hsl⟩, hB2⟩
    have HBw2 := bThen HB1 hB2
    have HPI : Hid (PartIn w0 w2 b sb S a d) := Lib.hid ⟨hpart, hty, hsl⟩
    obtain ⟨v, t8, hv⟩ := hsl
    have HSV := Lib.hid hv
    obtain ⟨pa, pcap, rfl, hpl, -⟩ := hv
    unfold most at hpl
    clear HTA hB2 hpart q0 q1 q2 q3 hq
    clear HB1
    have hb := cell_lt t8
    go_wp2_with fail
    have HRR := Lib.hid (rule_right hS ha)
    have hkk : (Kp w0.heap.size own) W w2 := Kp.of_below HBw2 hn
    have HK0 := Lib.hid hkk
    have HJ0 := Lib.hid (hH.later _ _ _ hJ HBw2)
    have HIT := Lib.hid (itemsF_succ k S a d)
    clear hkk hJ
    generalize hf : pieceItems (itemsF k S) S a d = f at *
    have HF := Lib.hid hf
    clear hf
    go_loopw [10, 11, 22] (fun _ _ i wr => ∃ j : Nat, j ≤ (ruleOf S a).pieces.length ∧ i = .int .i64 j ∧ J (pre ++ saidTo f (ruleOf S a).pieces j) wr ∧ Kp w0.heap.size own W wr ∧ Kp w0.heap.size own w2 wr) (fun _ _ i _ => (ruleOf S a).pieces.length - (intOf i).toNat)
    case atStart => exact ⟨0, Nat.zero_le _, rfl, by rw [saidTo_zero, List.append_nil]; exact HJ0.out, HK0.out, Kp.refl _ _ _⟩
    case round =>
      obtain ⟨j, hj, rfl, hJr, hKW, hK2⟩ := hrel
      by_cases hlt : j < (ruleOf S a).pieces.length
      · have hBr : Below w0.heap.size w0 wr := hB0.trans hKW.low
        obtain ⟨-, -, -, -, -, -, hRR⟩ := HRR.out
        have hok := hRR.piece _ (List.getElem_mem hlt)
        have hkind := pce_kind hok
        obtain ⟨pa', pc', he, -, hy⟩ := HSV.out
        have HPJ : Hid (PartIn w0 wr b sb S a d) := Lib.hid (HPI.out.kp hK2 (hB0.trans HK0.out.low) hH.part)
        rcases hy with hnil | ⟨pb, po, rfl, hpp⟩
        · simp [hnil] at hlt
        obtain ⟨rfl, -⟩ : pa = some ⟨pb, po, none⟩ ∧ pcap = pc' := by simpa using he
        clear he
        obtain ⟨z0, z1, z2, z3⟩ := hpp j hlt
        have z0 := keep hBr z0
        have z1 := keep hBr z1
        have z2 := keep hBr z2
        have z3 := keep hBr z3
        have hpb := cell_lt z0
        obtain ⟨-, r, s7, hmap⟩ := hs0.keep hBr
        have hsb := cell_lt s7
        have HPC : ∃ pc, Hid ((ruleOf S a).pieces[j] = pc) := ⟨_, Lib.hid rfl⟩
        obtain ⟨pc, HPC⟩ := HPC
        rw [HPC.out] at z0 z1 z2 z3 hok hkind
        have HSL := Lib.hid (saidTo_len f (ruleOf S a).pieces j hlt)
        have HSS := Lib.hid (saidTo_succ f (ruleOf S a).pieces j hlt)
        have HJR := Lib.hid hJr
        have HKW := Lib.hid hKW
        have HK2 := Lib.hid hK2
        clear hpp hJr hKW hK2
        go_wp2_with fail
        generalize hW3 : World.alloc wr _ = W3
        have HB3 : Below wr.heap.size wr W3 := by rw [← hW3]; exact bAlloc (Below.refl _ _) _
        have x0 : W3.cell? ⟨wr.heap.size, 0, none⟩ = some (.int .i64 pc.kind) := by rw [← hW3]; simp
        clear hW3 z0 z1 z2 z3
        have s7 := keep HB3 s7
        have hmap := heap_keep HB3 hmap
        have hxl := cell_lt x0
        have hsb := cell_lt s7
        have hlk : ∀ w' : World, w'.heap[r]? = some (.map saysMap 5) → (Instr.lookup 127 (.map (some r)) (.int .i64 pc.kind) false).run Try.prog w' = .ok (.func (.func (69 + pc.kind.toNat)) #[] #[]) w' := fun w' hw' =>
          run_lookup_hit 127 57 124 _ _ _ (pc.kind.toNat - 1) _ _ _ Try.underlying127 Try.underlying57 (by simp [MapKept.IsKey]) hw' (by rcases hkind with h | h | h | h | h <;> rw [h] <;> rfl)
        have hl1 := hlk W3.drew hmap
        clear hlk
        refine wp_opaque fun Q2 hQ2 => ?_
        go_still_tail 10, (by kernel_rfl)
        change wpList _ _ _ _ _ (World.drew _)
        have HB4 : Below wr.heap.size wr W3.drew := HB3.drew
        generalize W3.drew = W4 at *
        have hnr : w0.heap.size ≤ wr.heap.size := hBr.size
        have HK4 : Hid (Kp w0.heap.size own wr W4) := Lib.hid (Kp.of_below HB4 hnr)
        have hJ4 : J (pre ++ saidTo f (ruleOf S a).pieces j) W4 := hH.later _ _ _ HJR.out HB4
        have hP4 : PartIn w0 W4 b sb S a d := HPJ.out.kp HK4.out hBr hH.part
        have hfl : (f pc j).length = (f (ruleOf S a).pieces[j] j).length := by rw [HPC.out]
        have hcall := piece_any hH k S a d b sb j pc (pre ++ saidTo f (ruleOf S a).pieces j) W4 hJ4
          (by rw [HF.out, List.length_append]; have h1 := HSL.out; have h2 := hlen; rw [HIT.out] at h2; omega) hS ha hP4 hs0 hlt HPC.out (IntWalk.i64_in _ (by omega))
          (fun a' pre' W' hr' hlt' hJ' hl' => HIH.out a' (d + 1) pre' W' hr' (by omega) (by omega) (by omega) hJ' hl')
        rw [HF.out] at hcall
        have HC := Lib.hid hcall
        clear hcall hJ4 hP4 hfl hl1 hmap s7 x0
        have hent : ∀ args w, (callFunc (69 + pc.kind.toNat) args).run Try.prog w = .ok (.enter (69 + pc.kind.toNat) args) w := by
          rcases hkind with h | h | h | h | h <;> rw [h]
          · exact Go.Proofs.enters_of Try.func70 (by kernel_rfl) rfl
          · exact Go.Proofs.enters_of Try.func71 (by kernel_rfl) rfl
          · exact Go.Proofs.enters_of Try.func72 (by kernel_rfl) rfl
          · exact Go.Proofs.enters_of Try.func73 (by kernel_rfl) rfl
          · exact Go.Proofs.enters_of Try.func74 (by kernel_rfl) rfl
        go_wp2_with (refine HC.out.mono ?_; rintro e W5 ⟨⟨t, rfl⟩, hpush⟩)
        · obtain rfl : t = false := by have : (!t) = true := by assumption
                                       simpa using this
          go_ret
          refine ⟨⟨_, rfl⟩, ?_⟩
          have h1 := Push.stop (ys := piecesFrom f ((ruleOf S a).pieces.drop (j + 1)) ((ruleOf S a).pieces.take (j + 1)).length) (Push.after (HKW.out.trans HK4.out) hpush)
          rw [HIT.out, saidTo_split f (ruleOf S a).pieces (j + 1), HSS.out, HPC.out]
          exact h1
        · obtain rfl : t = true := by have : (!t) = false := by assumption
                                      simpa using this
          obtain ⟨-, hJ5, hK5⟩ := hpush.resolve_right (fun h => by cases h.1)
          refine ⟨⟨j + 1, by omega, by go_num, by rw [HSS.out, HPC.out, ← List.append_assoc]; exact hJ5, (HKW.out.trans HK4.out).trans hK5, (HK2.out.trans HK4.out).trans hK5⟩, ?_⟩
          simp [intOf]; omega
      · obtain rfl : j = (ruleOf S a).pieces.length := by omega
        go_wp2_with fail
        go_ret
        refine ⟨⟨_, rfl⟩, .inl ⟨rfl, ?_, hKW⟩⟩
        rw [HIT.out, ← saidTo_all]
        exact hJr

end Go.Proofs.Ytfcopnlpcbbocaa
