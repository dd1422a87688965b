/- Contracts: a period is written, cut or with its last sample held. -/
import Derived.Test.YtbeeddenidfenaaG3
import Derived.Test.YtbeeddenidfenaaB9
import Derived.Laws.Tables
set_option linter.unusedSimpArgs false
set_option linter.unusedVariables false
namespace Go.Proofs.Ytbeeddenidfenaa
open Go.RowKit

theorem gb_trans {A B C : World} {r : Option Nat} (h : A.grownBy B r) (k : B.grownBy C r) : A.grownBy C r :=
  ⟨k.os.trans h.os, k.tape.trans h.tape, k.output.trans h.output, Nat.le_trans h.size k.size, fun i hi hr => (k.block i (Nat.lt_of_lt_of_le hi h.size) hr).trans (h.block i hi hr)⟩
theorem gb_refl (A : World) (r : Option Nat) : A.grownBy A r := ⟨rfl, rfl, rfl, Nat.le_refl _, fun _ _ _ => rfl⟩
theorem gb_below {A B : World} (h : Below A.heap.size A B) (r : Option Nat) : A.grownBy B r := ⟨h.os, h.tape, h.output, h.size, fun k hk _ => h.block k hk⟩
theorem gb_set (A : World) (g o : Nat) (v : Value) : A.grownBy (A.setCell ⟨g, o, none⟩ v) (some g) :=
  ⟨rfl, rfl, rfl, by simp [World.setCell], fun k _ hk => Below.heap_setCell _ _ _ k (fun e => hk (by rw [e]))⟩
theorem gb_low {A B : World} {g n : Nat} (h : A.grownBy B (some g)) (hn : n ≤ A.heap.size) (hg : n ≤ g) : Below n A B :=
  ⟨h.os, h.tape, h.output, h.size, fun k hk => h.block k (by omega) (fun e => by cases e; omega)⟩
theorem gb_heap {A B : World} {g k : Nat} {o : Obj} (h : A.grownBy B (some g)) (hk : A.heap[k]? = some o) (hne : k ≠ g) : B.heap[k]? = some o :=
  (h.block k (Array.getElem?_eq_some_iff.1 hk).1 (fun e => hne (by cases e; rfl))).trans hk
theorem wpList_copy_grown {P : Program} {w : World} {ops : Array Oper} {rest : List Oper} {o : Oper} {a : Act} {Q : Exit → Act → World → Prop} (hgd : o.guard = none) (d s : Operand) (dT sT : TypeId)
    (ho : o.op = .call { callee := .builtin .copy, args := #[d, s], argTypes := #[dT, sT] }) (elem : TypeId) (hu : P.underlying dT = some (.slice elem)) (hsz : (P.info? elem).map (·.size) = some 1)
    (dp sp : Option Addr) (dLen dCap sLen sCap : Nat) (hd : a.eval d = .slice dp dLen dCap) (hs : a.eval s = .slice sp sLen sCap)
    (g off : Nat) (cur : List Value) (t : TypeId) (hg : w.heap[g]? = some (.cells cur.toArray t (0, 0))) (cs : List Value) (hn : cs.length = Nat.min sLen dLen)
    (hpos : 0 < cs.length → dp = some ⟨g, off, none⟩ ∧ ∃ ad, sp = some ad ∧ ∀ j v, cs[j]? = some v → w.cell? (ad.add j) = some v)
    (hfit : off + cs.length ≤ cur.length) (h1 : ∀ v ∈ cs, v.oneCell' = true)
    (h : ∀ w', Hid (w'.heap[g]? = some (.cells (splice cur off cs).toArray t (0, 0))) → w.grownBy w' (some g) → wpList P ops Q rest (a.put o.dst (goInt cs.length)) w') :
    wpList P ops Q (o :: rest) a w := by
  by_cases h0 : cs.length = 0
  · obtain rfl : cs = [] := List.eq_nil_of_length_eq_zero h0
    refine wpList_copy_nothing hgd d s dT sT ho elem hu hsz dp sp dLen dCap sLen sCap hd hs (by simpa using hn.symm) ?_
    exact h w (show _ = _ by simpa [splice] using hg) (gb_refl _ _)
  · obtain ⟨rfl, ad, rfl, hsrc⟩ := hpos (by omega)
    refine wpList_copy_own hgd d s dT sT ho elem hu hsz g off dLen dCap ad sLen sCap hd hs cur.toArray t hg cs hn hsrc (by simpa using hfit) h1 ?_
    exact h _ (show _ = _ by simpa [splice] using setRow_heap w g _ _ t _ hg) ⟨rfl, rfl, rfl, by simp [World.setRow], fun k _ hk => setRow_other w g k _ (fun e => hk (by rw [e]))⟩
/-- The sample j of a period that is said with whatever length. -/
def hold (p : List Int) (j : Nat) : Int := p.getD (min j (p.length - 1)) 0
def perL (p : List Int) (L : Nat) : List Int := (List.range L).map (hold p)
theorem perL_len (p : List Int) (L : Nat) : (perL p L).length = L := by simp [perL]
theorem perL_get (p : List Int) (L : Nat) {j : Nat} (h : j < L) : (perL p L).getD j 0 = hold p j := by
  rw [gI (by rw [perL_len]; exact h)]; simp [perL]

set_option maxRecDepth 10000 in
set_option maxHeartbeats 4000000 in
theorem write_any (p : List Int) (i g o N L pb po pc : Nat) (Li T : Int) (f : Nat → Value) (w : World) (hp : 1 ≤ p.length) (hpn : p.length ≤ 100000) (hL : 1 ≤ L) (hL2 : L ≤ 2000000) (hN : o + L ≤ N) (hr : w.rowIs g 3 N f) (hpb : pb ≠ g)
    (hpv : SliceV w (.slice (some ⟨pb, po, none⟩) p.length pc) 1 IntAt p) :
    Calls Try.prog 90 #[.agg #[.int .i64 (i : Int), .slice (some ⟨pb, po, none⟩) p.length pc, .int .i64 Li, .int .i64 T], .slice (some ⟨g, o, none⟩) L L] w fun e w' => (∃ r, e = .returned r) ∧ w'.rowIs g 3 N (fun j => if o ≤ j ∧ j < o + L then .int .i64 (hold p (j - o)) else f j) ∧ w.grownBy w' (some g) := by
  have HR0 := Lib.hid hr
  have HPV := Lib.hid hpv
  have hgl := hr.lt
  have HPC : Hid (p.length ≤ pc) := Lib.hid (by
    obtain ⟨a, c', hv, hl, -⟩ := id hpv
    obtain ⟨-, -, rfl⟩ := Value.slice.inj hv
    exact hl.2)
  obtain ⟨b', o', he, hf⟩ := hpv.at (by intro h; rw [h] at hp; simp at hp)
  obtain ⟨rfl, rfl⟩ : pb = b' ∧ po = o' := by simpa using he
  have HF := Lib.hid hf
  have hl0 := hf (p.length - 1) (by omega)
  unfold IntAt at hl0
  rw [Nat.mul_one] at hl0
  have HLS : Hid (p[p.length - 1]'(by omega) = p.getD (p.length - 1) 0) := Lib.hid (gI (by omega)).symm
  obtain ⟨la, hla⟩ : ∃ la, la = p[p.length - 1]'(by omega) := ⟨_, rfl⟩
  rw [← hla] at hl0 HLS
  have hpbl := cell_lt hl0
  clear hla hr hpv hf he
  have hB0 : w.grownBy (w.alloc (.cells #[.int .i64 (i : Int), .slice (some ⟨pb, po, none⟩) p.length pc, .int .i64 Li, .int .i64 T] 99)) (some g) := gb_below (bAlloc (Below.refl _ _) _) _
  have HB0 := Lib.hid hB0
  obtain ⟨P, hP⟩ : ∃ P, P = p.length := ⟨_, rfl⟩
  have HPE := Lib.hid hP
  rw [← hP] at hp hpn HPC hl0 HLS HB0 ⊢
  have q1 : IntKind.i64.wrap ((P : Int) - 1) = ((P - 1 : Nat) : Int) := by rw [show (P : Int) - 1 = ((P - 1 : Nat) : Int) by omega]; exact IntWalk.i64_in _ (by omega)
  have q2 : P - 1 < P := by omega
  clear hP hB0
  obtain ⟨cur, hg1, hcl, hcg⟩ := row_cells (HR0.out.of_block (w' := w.alloc (.cells #[.int .i64 (i : Int), .slice (some ⟨pb, po, none⟩) P pc, .int .i64 Li, .int .i64 T] 99)) (Below.heap_alloc _ _ _ hgl))
  have HG1 := Lib.hid hg1
  have HCL := Lib.hid hcl
  have HCG := Lib.hid hcg
  have HFT : Hid (o + (intV (p.take (min L P))).length ≤ cur.length) := Lib.hid (by rw [HCL.out, intV_len, List.length_take]; omega)
  have HXS : Hid ((intV (p.take (min L P))).length = Nat.min P L) := Lib.hid (by rw [intV_len, List.length_take, ← HPE.out]; show min (min L P) P = min P L; omega)
  have HXN : Hid (∀ (j : Nat) (v : Value), (intV (p.take (min L P)))[j]? = some v → (w.alloc (.cells #[.int .i64 (i : Int), .slice (some ⟨pb, po, none⟩) P pc, .int .i64 Li, .int .i64 T] 99)).cell? ((⟨pb, po, none⟩ : Addr).add j) = some v) := Lib.hid (by
    refine ints_news (l := p.take (min L P)) ?_
    intro j hj
    rw [List.length_take] at hj
    rw [List.getElem_take]
    exact keep (bAlloc (Below.refl _ _) _) (HF.out j (by omega)))
  clear hg1 hcl hcg
  go_enter Try.func90, Try.ntmps90
  go_wp2_with (with_reducible refine wpList_copy_grown (o := ⟨some 17, _, _, _, _, _⟩) rfl (.tmp 14) (.tmp 16) 22 22 rfl 3 Try.underlying22 (by kernel_rfl) _ _ _ _ _ _ rfl rfl g o cur 3 HG1.out (intV (p.take (min L P))) HXS.out (fun _ => ⟨rfl, _, rfl, HXN.out⟩) HFT.out (ints_one _) ?_; intro w4 hg4 hb4)
  have HB4 := Lib.hid (gb_trans HB0.out hb4)
  have HR4 : Hid (w4.rowIs g 3 N (fun j => if o ≤ j ∧ j < o + min P L then .int .i64 (hold p (j - o)) else f j)) := Lib.hid ((spl_row (h := fun j => .int .i64 ((p.take (min L P)).getD j 0)) hg4.out HCL.out HCG.out (fun j hj => intV_get hj) (by have := HFT.out; rw [HCL.out] at this; exact this)).congr fun j _ => by
    have hl : (intV (p.take (min L P))).length = min P L := HXS.out
    rw [hl]
    by_cases hj : o ≤ j ∧ j < o + min P L
    · rw [if_pos hj, if_pos hj]
      unfold hold
      rw [List.getD_eq_getElem?_getD, List.getElem?_take_of_lt (by omega), List.getD_eq_getElem?_getD, ← HPE.out, show min (j - o) (P - 1) = j - o by omega]
    · rw [if_neg hj, if_neg hj])
  clear hg4 hb4
  have hxl : (intV (p.take (min L P))).length = min P L := HXS.out
  rw [hxl]
  clear hxl HXS HXN HFT HG1 HCL HCG
  go_wp2_with fail
  go_loopw [5] (fun x wr => ∃ k : Nat, min P L ≤ k ∧ k ≤ L ∧ x = .int .i64 k ∧ Hid (wr.rowIs g 3 N (fun j => if o ≤ j ∧ j < o + k then .int .i64 (hold p (j - o)) else f j)) ∧ Hid (w.grownBy wr (some g))) (fun x _ => L - (intOf x).toNat)
  case atStart => exact ⟨min P L, Nat.le_refl _, Nat.min_le_right _ _, rfl, HR4, HB4⟩
  case round =>
    obtain ⟨k, hk0, hk, rfl, HR, HB⟩ := hrel
    by_cases hlt : k < L
    · have hok : o + k < N := by omega
      have hPk : P ≤ k := by omega
      have z0 := HR.out.frozen (o + k)
      have c0 := HR.out.cell (i := o + k) hok
      have hgl2 := HR.out.lt
      have HR2 : Hid ((wr.setCell ⟨g, o + k, none⟩ (.int .i64 la)).rowIs g 3 N (fun j => if o ≤ j ∧ j < o + (k + 1) then .int .i64 (hold p (j - o)) else f j)) := Lib.hid ((HR.out.set (o + k) (.int .i64 la)).congr fun j _ => by
        by_cases hj : j = o + k
        · subst hj
          rw [if_pos rfl, if_pos (by omega), show o + k - o = k by omega, HLS.out]
          unfold hold
          rw [← HPE.out, show min k (P - 1) = P - 1 by omega]
        · rw [if_neg hj]
          by_cases hj2 : o ≤ j ∧ j < o + k
          · rw [if_pos hj2, if_pos (by omega)]
          · rw [if_neg hj2, if_neg (by omega)])
      have HB2 : Hid (w.grownBy (wr.setCell ⟨g, o + k, none⟩ (.int .i64 la)) (some g)) := Lib.hid (gb_trans HB.out (gb_set _ _ _ _))
      have HK0 := Lib.hid hk0
      clear hPk hk0
      go_wp2_with fail
      go_roundw
      case rel =>
        first
          | exact ⟨k + 1, (by have := HK0.out; omega), by omega, by go_num, HR2, HB2⟩
          | ((repeat apply Exists.intro); refine ⟨?_, rfl⟩; exact ⟨k + 1, (by have := HK0.out; omega), by omega, by go_num, HR2, HB2⟩)
      case measure => simp [intOf]; omega
    · obtain rfl : k = L := by omega
      go_wp2_with fail
      go_end0
      exact ⟨⟨_, rfl⟩, HR.out, HB.out⟩
end Go.Proofs.Ytbeeddenidfenaa
