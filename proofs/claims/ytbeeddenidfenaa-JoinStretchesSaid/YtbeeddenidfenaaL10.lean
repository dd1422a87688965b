/- The law of stretching, given the examples. -/
import Derived.Test.YtbeeddenidfenaaP6
import Derived.Test.YtbeeddenidfenaaG71
import Derived.Test.YtbeeddenidfenaaE9
import Derived.Test.YtbeeddenidfenaaF1
set_option linter.unusedSimpArgs false
set_option linter.unusedVariables false
namespace Go.Proofs.Ytbeeddenidfenaa
open Go.RowKit

theorem mkE_any {m : Mk} (h : mkErr true m ≠ 0) (b : Bool) : mkErr b m = mkErr true m := by
  unfold mkErr at h ⊢
  rw [Bool.true_and] at h ⊢
  rw [chk_one] at h ⊢
  rw [chk_one]
  by_cases h1 : 100000 < (m.sam.length : Int)
  · rw [if_pos h1, if_pos h1]
  · rw [if_neg h1] at h ⊢
    rw [if_neg h1]
    by_cases h2 : marksOk m.marks m.sam.length = true ∧ waveOk m.sam = true
    · rw [if_pos h2] at h; exact absurd rfl h
    · rw [if_neg h2, if_neg (fun e => h2 ⟨by have := e.1; rw [Bool.and_eq_true] at this; exact this.2, e.2⟩)]
theorem mkE_true {m : Mk} (h : mkErr true m = 0) (b : Bool) : mkErr b m = if b = true then 0 else 2 := by
  cases b
  · unfold mkErr at h ⊢
    rw [chk_one] at h ⊢
    by_cases h1 : 100000 < (m.sam.length : Int)
    · rw [if_pos h1] at h; cases h
    · rw [if_neg h1]; simp
  · simpa using h
/-- A transformation's result, its slices written out. -/
theorem tf_out {er : Int} {r : Mk} {e : Ending} {w' : World} (h : TfPost er r e w') : ∃ ra rc qa qc, e = .returned (.tuple #[.agg #[.slice ra r.sam.length rc, .slice qa r.marks.length qc], .int .i64 er]) ∧ MkV w' (.slice ra r.sam.length rc) (.slice qa r.marks.length qc) r := by
  obtain ⟨rs, rm, rfl, h3, h4⟩ := h
  obtain ⟨ra, rc, rfl, h5⟩ := id h3
  obtain ⟨qa, qc, rfl, h6⟩ := id h4
  exact ⟨ra, rc, qa, qc, rfl, h3, h4⟩
/-- Two boxes, each with a marked wave. -/
structure TwoBox (V : World) (b1 b2 : Nat) (u v r q : Value) (X Y : Mk) : Prop where
  one : V.heap[b1]? = some (.cells #[u, v] 24 (0, 0))
  two : V.heap[b2]? = some (.cells #[r, q] 24 (0, 0))
  mk1 : MkV V u v X
  mk2 : MkV V r q Y
theorem mk_set {W : World} {v u : Value} {m : Mk} {r n1 c1 n2 c2 : Nat} {a1 a2 : Option Addr} {x y : Value} (h : MkV W v u m) (hR : W.heap[r]? = some (.cells #[.slice a1 n1 c1, .slice a2 n2 c2] 24 (0, 0))) : MkV ((W.setCell ⟨r, 0, none⟩ x).setCell ⟨r, 1, none⟩ y) v u m := ⟨ints_setB h.1 hR, ints_setB h.2 hR⟩
theorem mk_new {W : World} {v u : Value} {m : Mk} (h : MkV W v u m) (o : Obj) : MkV (W.alloc o) v u m := h.keep (bAlloc (Below.refl _ _) o)
theorem heap_set2 {W : World} {b k : Nat} {x y : Value} {o : Obj} (h : W.heap[k]? = some o) (hne : k ≠ b) : ((W.setCell ⟨b, 0, none⟩ x).setCell ⟨b, 1, none⟩ y).heap[k]? = some o :=
  ((Below.heap_setCell _ ⟨b, 1, none⟩ _ k hne).trans (Below.heap_setCell _ ⟨b, 0, none⟩ _ k hne)).trans h
theorem below_set2 {n : Nat} {W0 W : World} {b : Nat} {x y : Value} (h : Below n W0 W) (hb : n ≤ b) : Below n W0 ((W.setCell ⟨b, 0, none⟩ x).setCell ⟨b, 1, none⟩ y) := (h.setCell (p := ⟨b, 0, none⟩) hb _).setCell (p := ⟨b, 1, none⟩) hb _
section
variable {W0 V : World} {n b1 b2 n1 m1 n2 m2 : Nat} {u0 u1 r0 r1 : Option Addr} {c0 c1 d0 d1 : Nat} {X Y : Mk}
theorem two_ss (hb : Below n W0 V) (hx : MkV V (.slice u0 n1 c0) (.slice u1 m1 c1) X) (hy : MkV V (.slice r0 n2 d0) (.slice r1 m2 d1) Y)
    (h1 : V.heap[b1]? = some (.cells #[.slice none 0 0, .slice none 0 0] 24 (0, 0))) (h2 : V.heap[b2]? = some (.cells #[.slice none 0 0, .slice none 0 0] 24 (0, 0))) (hne : b1 ≠ b2) (k1 : n ≤ b1) (k2 : n ≤ b2) :
    TwoBox ((((V.setCell ⟨b1, 0, none⟩ (.slice u0 n1 c0)).setCell ⟨b1, 1, none⟩ (.slice u1 m1 c1)).setCell ⟨b2, 0, none⟩ (.slice r0 n2 d0)).setCell ⟨b2, 1, none⟩ (.slice r1 m2 d1)) b1 b2 (.slice u0 n1 c0) (.slice u1 m1 c1) (.slice r0 n2 d0) (.slice r1 m2 d1) X Y ∧ Below n W0 ((((V.setCell ⟨b1, 0, none⟩ (.slice u0 n1 c0)).setCell ⟨b1, 1, none⟩ (.slice u1 m1 c1)).setCell ⟨b2, 0, none⟩ (.slice r0 n2 d0)).setCell ⟨b2, 1, none⟩ (.slice r1 m2 d1)) :=
  ⟨⟨heap_set2 (set2_1 (set2_0 h1 _) _) hne, set2_1 (set2_0 (heap_set2 h2 hne.symm) _) _, mk_set (mk_set hx h1) (heap_set2 h2 hne.symm), mk_set (mk_set hy h1) (heap_set2 h2 hne.symm)⟩, below_set2 (below_set2 hb k1) k2⟩
theorem two_sa (hb : Below n W0 V) (hx : MkV V (.slice u0 n1 c0) (.slice u1 m1 c1) X) (hy : MkV V (.slice r0 n2 d0) (.slice r1 m2 d1) Y)
    (h1 : V.heap[b1]? = some (.cells #[.slice none 0 0, .slice none 0 0] 24 (0, 0))) (hbs : V.heap.size = b2) (k1 : n ≤ b1) (k2 : n ≤ b2) :
    TwoBox (((V.setCell ⟨b1, 0, none⟩ (.slice u0 n1 c0)).setCell ⟨b1, 1, none⟩ (.slice u1 m1 c1)).alloc (.cells #[.slice r0 n2 d0, .slice r1 m2 d1] 24)) b1 b2 (.slice u0 n1 c0) (.slice u1 m1 c1) (.slice r0 n2 d0) (.slice r1 m2 d1) X Y ∧ Below n W0 (((V.setCell ⟨b1, 0, none⟩ (.slice u0 n1 c0)).setCell ⟨b1, 1, none⟩ (.slice u1 m1 c1)).alloc (.cells #[.slice r0 n2 d0, .slice r1 m2 d1] 24)) := by
  have hlt := (Array.getElem?_eq_some_iff.1 h1).1
  have e : ((V.setCell ⟨b1, 0, none⟩ (.slice u0 n1 c0)).setCell ⟨b1, 1, none⟩ (.slice u1 m1 c1)).heap.size = V.heap.size := by
    have e1 : ∀ (W : World) (b o : Nat) (x : Value), (W.setCell ⟨b, o, none⟩ x).heap.size = W.heap.size := fun W b o x => by
      show (W.heap.modify b _).size = _
      rw [Array.size_modify]
    rw [e1, e1]
  exact ⟨⟨heap_past (by rw [e]; exact hlt) (set2_1 (set2_0 h1 _) _), heap_at (by rw [e]; exact hbs), mk_new (mk_set hx h1) _, mk_new (mk_set hy h1) _⟩, (below_set2 hb k1).alloc (by rw [e, hbs]; exact k2) _⟩
theorem two_as (hb : Below n W0 V) (hx : MkV V (.slice u0 n1 c0) (.slice u1 m1 c1) X) (hy : MkV V (.slice r0 n2 d0) (.slice r1 m2 d1) Y)
    (h2 : V.heap[b2]? = some (.cells #[.slice none 0 0, .slice none 0 0] 24 (0, 0))) (hbs : V.heap.size = b1) (k1 : n ≤ b1) (k2 : n ≤ b2) :
    TwoBox (((V.setCell ⟨b2, 0, none⟩ (.slice r0 n2 d0)).setCell ⟨b2, 1, none⟩ (.slice r1 m2 d1)).alloc (.cells #[.slice u0 n1 c0, .slice u1 m1 c1] 24)) b1 b2 (.slice u0 n1 c0) (.slice u1 m1 c1) (.slice r0 n2 d0) (.slice r1 m2 d1) X Y ∧ Below n W0 (((V.setCell ⟨b2, 0, none⟩ (.slice r0 n2 d0)).setCell ⟨b2, 1, none⟩ (.slice r1 m2 d1)).alloc (.cells #[.slice u0 n1 c0, .slice u1 m1 c1] 24)) := by
  obtain ⟨⟨h1, h2, h3, h4⟩, h5⟩ := two_sa hb hy hx h2 hbs k2 k1
  exact ⟨⟨h2, h1, h4, h3⟩, h5⟩
theorem two_aa (hb : Below n W0 V) (hx : MkV V (.slice u0 n1 c0) (.slice u1 m1 c1) X) (hy : MkV V (.slice r0 n2 d0) (.slice r1 m2 d1) Y)
    (e1 : V.heap.size = b1) (e2 : b2 = b1 + 1) (k1 : n ≤ b1) :
    TwoBox ((V.alloc (.cells #[.slice u0 n1 c0, .slice u1 m1 c1] 24)).alloc (.cells #[.slice r0 n2 d0, .slice r1 m2 d1] 24)) b1 b2 (.slice u0 n1 c0) (.slice u1 m1 c1) (.slice r0 n2 d0) (.slice r1 m2 d1) X Y ∧ Below n W0 ((V.alloc (.cells #[.slice u0 n1 c0, .slice u1 m1 c1] 24)).alloc (.cells #[.slice r0 n2 d0, .slice r1 m2 d1] 24)) := by
  subst e1 e2
  exact ⟨⟨heap_past (by simp) (heap_at rfl), heap_at (by simp), mk_new (mk_new hx _) _, mk_new (mk_new hy _) _⟩, (hb.alloc k1 _).alloc (by simp; omega) _⟩
theorem two_ab (hb : Below n W0 V) (hx : MkV V (.slice u0 n1 c0) (.slice u1 m1 c1) X) (hy : MkV V (.slice r0 n2 d0) (.slice r1 m2 d1) Y)
    (e1 : V.heap.size = b2) (e2 : b1 = b2 + 1) (k1 : n ≤ b2) :
    TwoBox ((V.alloc (.cells #[.slice r0 n2 d0, .slice r1 m2 d1] 24)).alloc (.cells #[.slice u0 n1 c0, .slice u1 m1 c1] 24)) b1 b2 (.slice u0 n1 c0) (.slice u1 m1 c1) (.slice r0 n2 d0) (.slice r1 m2 d1) X Y ∧ Below n W0 ((V.alloc (.cells #[.slice r0 n2 d0, .slice r1 m2 d1] 24)).alloc (.cells #[.slice u0 n1 c0, .slice u1 m1 c1] 24)) := by
  obtain ⟨⟨h1, h2, h3, h4⟩, h5⟩ := two_aa hb hy hx e1 e2 k1
  exact ⟨⟨h2, h1, h4, h3⟩, h5⟩
end
set_option maxRecDepth 10000 in
set_option maxHeartbeats 8000000 in
theorem law10_any (m : Mk) (num den : Int) (vs vm : Value) (w : World) (hK : Known) (hv : MkV w vs vm m) (hx : -9223372036854775808 ≤ num ∧ num ≤ 9223372036854775807) (hy : -9223372036854775808 ≤ den ∧ den ≤ 9223372036854775807) :
    Calls Try.prog 10 #[.agg #[vs, vm], .int .i64 num, .int .i64 den] w fun e w' => e = .returned (.bool true) ∧ Below w.heap.size w w' := by
  have HK : Hid (∀ W, Calls Try.prog 18 #[] W fun e w' => e = .returned (.bool true) ∧ Below W.heap.size W w') := Lib.hid hK
  have HV := Lib.hid (fun W (hB : Below w.heap.size w W) => hv.keep hB)
  have HMG := Lib.hid (fun W (hB : Below w.heap.size w W) => marked_any m vs vm W (HV.out W hB))
  obtain ⟨⟨a, c, rfl, hl, -⟩, ⟨am, cm, rfl, hlm, -⟩⟩ := id hv
  have HB := Lib.hid (bAlloc (Below.refl w.heap.size w) (.cells #[.slice a m.sam.length c, .slice am m.marks.length cm] 24))
  have c0 : (w.alloc (.cells #[.slice a m.sam.length c, .slice am m.marks.length cm] 24)).cell? ⟨w.heap.size, 0, none⟩ = some (.slice a m.sam.length c) := cell_new rfl
  have c1 : (w.alloc (.cells #[.slice a m.sam.length c, .slice am m.marks.length cm] 24)).cell? ⟨w.heap.size, 1, none⟩ = some (.slice am m.marks.length cm) := cell_new rfl
  have cl := cell_lt c0
  clear hv hK
  cases h1 : mkShort m
  · rw [h1] at HMG
    clear HV h1
    go_enter Try.func10, Try.ntmps10
    go_wp2_with (first
      | (go_at_call 40; with_reducible refine Calls.mono (HMG.out _ HB.out) ?_; rintro e w1 ⟨rfl, hb⟩; have HB2 := Lib.hid (bThen HB.out hb); clear hb)
      | (go_at_call 18; with_reducible refine Calls.mono (HK.out _) ?_; rintro e wk ⟨rfl, hb⟩; have HBK := Lib.hid (bThen HB2.out hb); clear hb))
    go_ret
    exact ⟨rfl, HBK.out⟩
  · have hn : m.sam.length ≤ 1000000 := by simp [mkShort, shrt] at h1; omega
    have h1' := h1
    rw [h1] at HMG
    obtain ⟨ev, hev⟩ : ∃ ev, ev = mkErr true m := ⟨_, rfl⟩
    have HMA : Hid (∀ W, Below w.heap.size w W → Calls Try.prog 20 #[.agg #[.slice a m.sam.length c, .slice am m.marks.length cm]] W fun e w' => e = .returned (.int .i64 ev) ∧ Below W.heap.size W w') := Lib.hid fun W hB => by
      have h := Marked_any m _ _ W (HV.out W hB) hn
      rwa [← hev] at h
    have HRA : Hid (∀ W, Calls Try.prog 44 #[.int .i64 num, .int .i64 den] W fun e w' => e = .returned (.bool (ratOk num den)) ∧ W = w') := Lib.hid (Ratio_any num den)
    have hso := fun W (hB : Below w.heap.size w W) => (Stretch_any m num den _ _ W (HV.out W hB) hn).mono fun e w' (h : _ ∧ _) => (⟨tf_out h.1, h.2⟩ : _ ∧ _)
    have hto := fun W (hB : Below w.heap.size w W) => (Transpose_any m num den _ _ W (HV.out W hB) hn).mono fun e w' (h : _ ∧ _) => (⟨tf_out h.1, h.2⟩ : _ ∧ _)
    have hio := fun W (hB : Below w.heap.size w W) => (Sing_any m num den _ _ W (HV.out W hB) hn).mono fun e w' (h : _ ∧ _) => (⟨tf_out h.1, h.2⟩ : _ ∧ _)
    by_cases hE : mkErr (ratOk num den) m = 0
    · obtain ⟨hrk, hmr, hsm⟩ := mkErr_ok hE
      have hri := ratOk_in hrk
      obtain ⟨nn, rfl⟩ : ∃ nn : Nat, num = (nn : Int) := ⟨num.toNat, by omega⟩
      obtain ⟨dd, rfl⟩ : ∃ dd : Nat, den = (dd : Int) := ⟨den.toNat, by omega⟩
      have hev0 : ev = 0 := by rw [hev]; exact Classical.byContradiction fun h => h (by rw [← mkE_any h (ratOk (nn : Int) dd)]; exact hE)
      have h400 : m.sam.length ≤ 400 := by have := hmr.len; simp [mkShort, shrt] at h1; omega
      have b1 := reb_short hmr h400 (gs := gsStr m nn dd) (fun i hi => str_count hmr hrk hi)
      have b2 := reb_short hmr h400 (gs := gsTra nn dd) (fun i hi => tra_count hmr hrk hi)
      have b3 := reb_short hmr h400 (gs := gsSing m nn dd) (fun i hi => sing_count hmr hrk hi)
      have te : ∀ gs, rebLen m gs ≤ 7000 → tfErr m nn dd gs = 0 := fun gs h => by unfold tfErr; rw [if_pos hE, if_neg (by omega)]
      have tv : ∀ gs, rebLen m gs ≤ 7000 → tfV m nn dd gs = bldM m (said m gs) := fun gs h => by unfold tfV; rw [if_pos (te gs h)]
      have sp : ∀ gs, (said m gs).flatten.length = sumL m gs (pN m) := fun gs => saidTo_flat m gs (pN m)
      have hp := hmr.pN_in
      have hA := strA_in hmr hrk
      have n1 : 1 ≤ (said m (gsStr m nn dd)).length := by rw [said_str hmr hrk, strL_len]; exact hA.2.1
      have n2 : 1 ≤ (said m (gsTra nn dd)).length := by rw [said_tra, traL_len]; exact hp.1
      have v2 := said_right hmr hsm (fin_tra hmr hrk) n2 (by omega)
      have hpY : pN (bldM m (said m (gsTra nn dd))) = pN m := by rw [bldM_pN, said_tra, traL_len]
      have hAY : strA (bldM m (said m (gsTra nn dd))) nn dd = strA m nn dd := by unfold strA; rw [hpY]
      have n3 : 1 ≤ (said m (gsSing m nn dd)).length := by rw [said_sing hmr hrk, strL_len, ← said_tra, hAY]; exact hA.2.1
      have v1 := said_right hmr hsm (fin_str hmr hrk) n1 (by omega)
      have v3 := said_right hmr hsm (fin_sing hmr hrk) n3 (by omega)
      have len1 := bld_len hmr (gsStr m nn dd)
      have len2 := bld_len hmr (gsTra nn dd)
      have len3 := bld_len hmr (gsSing m nn dd)
      have hm400 : m.sam.length ≤ 400 := h400
      have hmk : pN m ≤ 400 := by
        have h2 := hmr.le (i := pN m) (by omega)
        have key : ∀ i, i ≤ pN m → i ≤ mkI m i := by
          intro i
          induction i with
          | zero => intro _; omega
          | succ i ih => intro hi; have := hmr.lt (i := i) (by omega); have := ih (by omega); omega
        have := key (pN m) (Nat.le_refl _)
        omega
      obtain ⟨X, hX⟩ : ∃ X : Mk, X = tfV m nn dd (gsStr m nn dd) := ⟨_, rfl⟩
      obtain ⟨Y, hY⟩ : ∃ Y : Mk, Y = tfV m nn dd (gsTra nn dd) := ⟨_, rfl⟩
      obtain ⟨Z, hZ⟩ : ∃ Z : Mk, Z = tfV m nn dd (gsSing m nn dd) := ⟨_, rfl⟩
      rw [te _ b1.1, ← hX] at hso
      rw [te _ b2.1, ← hY] at hto
      rw [te _ b3.1, ← hZ] at hio
      rw [tv _ b1.1] at hX
      rw [tv _ b2.1] at hY
      rw [tv _ b3.1] at hZ
      have HRS : Hid (∀ W, Below w.heap.size w W → Calls Try.prog 46 #[.agg #[.slice a m.sam.length c, .slice am m.marks.length cm], .int .i64 (nn : Int), .int .i64 (dd : Int)] W fun e w' => (∃ ra rc qa qc, e = .returned (.agg #[.slice ra X.sam.length rc, .slice qa X.marks.length qc]) ∧ MkV w' (.slice ra X.sam.length rc) (.slice qa X.marks.length qc) X) ∧ Below W.heap.size W w') := Lib.hid fun W hB => by
        have h := refStretch_any m nn dd _ _ W (HV.out W hB) hmr hrk (by rw [← said_str hmr hrk, sp]; omega) (by omega)
        rw [← said_str hmr hrk, ← hX] at h
        exact h
      have HRT : Hid (∀ W, Below w.heap.size w W → Calls Try.prog 47 #[.agg #[.slice a m.sam.length c, .slice am m.marks.length cm], .int .i64 (nn : Int), .int .i64 (dd : Int)] W fun e w' => (∃ ra rc qa qc, e = .returned (.agg #[.slice ra Y.sam.length rc, .slice qa Y.marks.length qc]) ∧ MkV w' (.slice ra Y.sam.length rc) (.slice qa Y.marks.length qc) Y) ∧ Below W.heap.size W w') := Lib.hid fun W hB => by
        have h := refTranspose_any m nn dd _ _ W (HV.out W hB) hmr hrk (by rw [← said_tra, sp]; omega)
        rw [← said_tra, ← hY] at h
        exact h
      have HRZ : Hid (∀ W ys ym, MkV W ys ym Y → Calls Try.prog 46 #[.agg #[ys, ym], .int .i64 (nn : Int), .int .i64 (dd : Int)] W fun e w' => (∃ ra rc qa qc, e = .returned (.agg #[.slice ra Z.sam.length rc, .slice qa Z.marks.length qc]) ∧ MkV w' (.slice ra Z.sam.length rc) (.slice qa Z.marks.length qc) Z) ∧ Below W.heap.size W w') := Lib.hid fun W ys ym hv => by
        have e1 : strL Y (strA Y nn dd) = said m (gsSing m nn dd) := by rw [hY, said_tra, said_sing hmr hrk]
        have h := refStretch_any Y nn dd ys ym W hv (by rw [hY]; exact v2.1) hrk (by rw [e1, sp]; omega) (by rw [hY, hAY]; omega)
        rw [e1] at h
        have e2 : bldM Y (said m (gsSing m nn dd)) = Z := by rw [hY, bldM_bldM hmr, hZ]
        rw [e2] at h
        exact h
      have hval : ∀ M : Mk, MkR M → Sm M.sam → M.sam.length ≤ 1000000 → ∀ W ra rc qa qc, MkV W (.slice ra M.sam.length rc) (.slice qa M.marks.length qc) M → Calls Try.prog 19 #[.agg #[.slice ra M.sam.length rc, .slice qa M.marks.length qc]] W fun e w' => e = .returned (.bool true) ∧ Below W.heap.size W w' := fun M h1 h2 h3 W ra rc qa qc h => by
        have h0 := Valid_any M _ _ W h h3
        rwa [mk_fine h1 h2, decide_eq_true rfl] at h0
      have hsam : ∀ M : Mk, ∀ W ra rc qa qc sa sc ta tc, MkV W (.slice ra M.sam.length rc) (.slice qa M.marks.length qc) M → MkV W (.slice sa M.sam.length sc) (.slice ta M.marks.length tc) M → Calls Try.prog 48 #[.agg #[.slice ra M.sam.length rc, .slice qa M.marks.length qc], .agg #[.slice sa M.sam.length sc, .slice ta M.marks.length tc]] W fun e w' => e = .returned (.bool true) ∧ Below W.heap.size W w' := fun M W ra rc qa qc sa sc ta tc h1 h2 => by
        have h0 := SameMarked_any M M _ _ _ _ W h1 h2
        rwa [decide_eq_true rfl] at h0
      have HVX := Lib.hid (hval X (by rw [hX]; exact v1.1) (by rw [hX]; exact v1.2) (by rw [hX, len1]; omega))
      have HVY := Lib.hid (hval Y (by rw [hY]; exact v2.1) (by rw [hY]; exact v2.2) (by rw [hY, len2]; omega))
      have HVZ := Lib.hid (hval Z (by rw [hZ]; exact v3.1) (by rw [hZ]; exact v3.2) (by rw [hZ, len3]; omega))
      have HSX := Lib.hid (hsam X)
      have HSY := Lib.hid (hsam Y)
      have HSZ := Lib.hid (hsam Z)
      subst hev0
      rw [hrk] at HRA
      have HSO := Lib.hid hso
      have HTO := Lib.hid hto
      have HIO := Lib.hid hio
      clear hE hev h1 h1' HV hso hto hio te tv sp hval hsam hX hY hZ v1 v2 v3 n1 n2 n3 b1 b2 b3 len1 len2 len3 hmk hm400 hpY hAY hA hp h400 hri hrk hmr hsm
      go_enter Try.func10, Try.ntmps10
      go_upto_region 6 with (first
        | (go_at_call 40; with_reducible refine Calls.mono (HMG.out _ HB.out) ?_; rintro e w1 ⟨rfl, hb⟩; replace HB := Lib.hid (bThen HB.out hb); replace c0 := keep hb c0; replace c1 := keep hb c1; replace cl := cell_lt c0; clear hb)
        | (go_at_call 41; with_reducible refine Calls.mono (HSO.out _ HB.out) ?_; rintro e w2 ⟨⟨xa, xc, ya, yc, rfl, hmv⟩, hb⟩; have HMX := Lib.hid (hmv.keep (bAlloc (Below.refl _ _) (.cells #[.slice xa X.sam.length xc, .slice ya X.marks.length yc] 24))); have x0 := (cell_new (V := w2) (cs := #[.slice xa X.sam.length xc, .slice ya X.marks.length yc]) (t := 24) (j := 0) (v := .slice xa X.sam.length xc) rfl); have x1 := (cell_new (V := w2) (cs := #[.slice xa X.sam.length xc, .slice ya X.marks.length yc]) (t := 24) (j := 1) (v := .slice ya X.marks.length yc) rfl); have xl := cell_lt x0; replace HB := Lib.hid (bAlloc (bThen HB.out hb) (.cells #[.slice xa X.sam.length xc, .slice ya X.marks.length yc] 24)); replace c0 := keep (bAlloc (Below.refl _ _) (.cells #[.slice xa X.sam.length xc, .slice ya X.marks.length yc] 24)) (keep hb c0); replace c1 := keep (bAlloc (Below.refl _ _) (.cells #[.slice xa X.sam.length xc, .slice ya X.marks.length yc] 24)) (keep hb c1); replace cl := cell_lt c0; clear hb hmv)
        | (go_at_call 42; with_reducible refine Calls.mono (HTO.out _ HB.out) ?_; rintro e w3 ⟨⟨sa, sc, ta, tc, rfl, hmv⟩, hb⟩; replace HMX := Lib.hid ((HMX.out.keep hb).keep (bAlloc (Below.refl _ _) (.cells #[.slice sa Y.sam.length sc, .slice ta Y.marks.length tc] 24))); replace x0 := keep (bAlloc (Below.refl _ _) (.cells #[.slice sa Y.sam.length sc, .slice ta Y.marks.length tc] 24)) (keep hb x0); replace x1 := keep (bAlloc (Below.refl _ _) (.cells #[.slice sa Y.sam.length sc, .slice ta Y.marks.length tc] 24)) (keep hb x1); replace xl := cell_lt x0; have HMY := Lib.hid (hmv.keep (bAlloc (Below.refl _ _) (.cells #[.slice sa Y.sam.length sc, .slice ta Y.marks.length tc] 24))); have y0 := (cell_new (V := w3) (cs := #[.slice sa Y.sam.length sc, .slice ta Y.marks.length tc]) (t := 24) (j := 0) (v := .slice sa Y.sam.length sc) rfl); have y1 := (cell_new (V := w3) (cs := #[.slice sa Y.sam.length sc, .slice ta Y.marks.length tc]) (t := 24) (j := 1) (v := .slice ta Y.marks.length tc) rfl); have yl := cell_lt y0; replace HB := Lib.hid (bAlloc (bThen HB.out hb) (.cells #[.slice sa Y.sam.length sc, .slice ta Y.marks.length tc] 24)); replace c0 := keep (bAlloc (Below.refl _ _) (.cells #[.slice sa Y.sam.length sc, .slice ta Y.marks.length tc] 24)) (keep hb c0); replace c1 := keep (bAlloc (Below.refl _ _) (.cells #[.slice sa Y.sam.length sc, .slice ta Y.marks.length tc] 24)) (keep hb c1); replace cl := cell_lt c0; clear hb hmv)
        | (go_at_call 43; with_reducible refine Calls.mono (HIO.out _ HB.out) ?_; rintro e w4 ⟨⟨oa, oc, na, nc, rfl, hmv⟩, hb⟩; replace HMX := Lib.hid ((HMX.out.keep hb).keep (bAlloc (Below.refl _ _) (.cells #[.slice oa Z.sam.length oc, .slice na Z.marks.length nc] 24))); replace x0 := keep (bAlloc (Below.refl _ _) (.cells #[.slice oa Z.sam.length oc, .slice na Z.marks.length nc] 24)) (keep hb x0); replace x1 := keep (bAlloc (Below.refl _ _) (.cells #[.slice oa Z.sam.length oc, .slice na Z.marks.length nc] 24)) (keep hb x1); replace xl := cell_lt x0; replace HMY := Lib.hid ((HMY.out.keep hb).keep (bAlloc (Below.refl _ _) (.cells #[.slice oa Z.sam.length oc, .slice na Z.marks.length nc] 24))); replace y0 := keep (bAlloc (Below.refl _ _) (.cells #[.slice oa Z.sam.length oc, .slice na Z.marks.length nc] 24)) (keep hb y0); replace y1 := keep (bAlloc (Below.refl _ _) (.cells #[.slice oa Z.sam.length oc, .slice na Z.marks.length nc] 24)) (keep hb y1); replace yl := cell_lt y0; have HMZ := Lib.hid (hmv.keep (bAlloc (Below.refl _ _) (.cells #[.slice oa Z.sam.length oc, .slice na Z.marks.length nc] 24))); have z0 := (cell_new (V := w4) (cs := #[.slice oa Z.sam.length oc, .slice na Z.marks.length nc]) (t := 24) (j := 0) (v := .slice oa Z.sam.length oc) rfl); have z1 := (cell_new (V := w4) (cs := #[.slice oa Z.sam.length oc, .slice na Z.marks.length nc]) (t := 24) (j := 1) (v := .slice na Z.marks.length nc) rfl); have zl := cell_lt z0; replace HB := Lib.hid (bAlloc (bThen HB.out hb) (.cells #[.slice oa Z.sam.length oc, .slice na Z.marks.length nc] 24)); replace c0 := keep (bAlloc (Below.refl _ _) (.cells #[.slice oa Z.sam.length oc, .slice na Z.marks.length nc] 24)) (keep hb c0); replace c1 := keep (bAlloc (Below.refl _ _) (.cells #[.slice oa Z.sam.length oc, .slice na Z.marks.length nc] 24)) (keep hb c1); replace cl := cell_lt c0; clear hb hmv))
      generalize World.alloc w4 _ = W5 at *
      go_upto_region 11 with (first
        | (go_at_call 20; with_reducible refine Calls.mono (HMA.out _ HB.out) ?_; rintro e w6 ⟨rfl, hb⟩; replace HB := Lib.hid (bThen HB.out hb); replace c0 := keep hb c0; replace c1 := keep hb c1; replace cl := cell_lt c0; replace HMX := Lib.hid (HMX.out.keep hb); replace x0 := keep hb x0; replace x1 := keep hb x1; replace xl := cell_lt x0; replace HMY := Lib.hid (HMY.out.keep hb); replace y0 := keep hb y0; replace y1 := keep hb y1; replace yl := cell_lt y0; replace HMZ := Lib.hid (HMZ.out.keep hb); replace z0 := keep hb z0; replace z1 := keep hb z1; replace zl := cell_lt z0; clear hb)
        | (go_at_call 44; with_reducible refine Calls.mono (HRA.out _) ?_; rintro e w7 ⟨rfl, rfl⟩))
      have HKC : Hid (∀ W, Below w6.heap.size w6 W → (W.cell? ⟨w.heap.size, 0, none⟩ = some (.slice a m.sam.length c) ∧ W.cell? ⟨w.heap.size, 1, none⟩ = some (.slice am m.marks.length cm))) := Lib.hid fun W hB => ⟨keep hB c0, keep hB c1⟩
      go_cut [14, 15] from 17 (fun p q wc => ∃ (b14 b15 : Nat) (ua va ra qa : Option Addr) (uc vc rc qc : Nat), p = .pointer (some ⟨b14, 0, none⟩) ∧ q = .pointer (some ⟨b15, 0, none⟩) ∧ Hid (TwoBox wc b14 b15 (.slice ua X.sam.length uc) (.slice va X.marks.length vc) (.slice ra Y.sam.length rc) (.slice qa Y.marks.length qc) X Y ∧ Below w6.heap.size w6 wc))
      case first =>
        go_region_held3 (fun W => (W.cell? ⟨w.heap.size, 0, none⟩ = some (.slice a m.sam.length c) ∧ W.cell? ⟨w.heap.size, 1, none⟩ = some (.slice am m.marks.length cm))) (((try dsimp only); exact HKC.out _ (by (repeat (first | exact Below.refl _ _ | exact hbA | exact hbB | refine Below.drew ?_ | refine bAlloc ?_ _ | (refine Below.setCell (p := ⟨_, _, none⟩) ?_ (by first | exact Nat.le_refl _ | exact hbA.size | exact hbB.size | exact Nat.le_succ _ | exact Nat.le_succ_of_le hbA.size | exact Nat.le_succ_of_le hbB.size) _)))))) (first
          | (go_at_call 46; (with_reducible refine Calls.mono (HRS.out _ (bThen HB.out (by (repeat (first | exact Below.refl _ _ | exact hbB | refine Below.drew ?_ | refine bAlloc ?_ _))))) ?_); rintro e w8 ⟨⟨ua, uc, va, vc, rfl, hmu⟩, hbx⟩; have hbA : Below w6.heap.size w6 w8 := bThen (by (repeat (first | exact Below.refl _ _ | exact hbB | refine Below.drew ?_ | refine bAlloc ?_ _))) hbx; have hsA := hbA.size; have HMA2 := Lib.hid hmu; clear hmu; have hzA := hbx.size; (try simp at hzA); obtain ⟨hcA, hfA⟩ := bcell hbx; (try simp at hcA hfA); (try (have y1 : w6.heap.size < w8.heap.size := by omega)); (try (have y2 : w6.heap.size + 1 < w8.heap.size := by omega)); (try (have y3 : w9.heap.size < w8.heap.size := by omega)))
          | (go_at_call 47; (with_reducible refine Calls.mono (HRT.out _ (bThen HB.out (by (repeat (first | exact Below.refl _ _ | exact hbA | refine Below.drew ?_ | refine bAlloc ?_ _))))) ?_); rintro e w9 ⟨⟨ra, rc, qa, qc, rfl, hmw⟩, hby⟩; have hbB : Below w6.heap.size w6 w9 := bThen (by (repeat (first | exact Below.refl _ _ | exact hbA | refine Below.drew ?_ | refine bAlloc ?_ _))) hby; have hsB := hbB.size; have HMB2 := Lib.hid hmw; clear hmw; have hzB := hby.size; (try simp at hzB); obtain ⟨hcB, hfB⟩ := bcell hby; (try simp at hcB hfB); (try (have x1 : w6.heap.size < w9.heap.size := by omega)); (try (have x2 : w8.heap.size < w9.heap.size := by omega)); (try (have x3 : w6.heap.size + 1 < w9.heap.size := by omega)); (try (have x4 : w8.heap.size + 1 < w9.heap.size := by omega))))
        all_goals
          go_wp2_with fail
          go_meet
          case rel =>
            refine ⟨_, _, ua, va, ra, qa, uc, vc, rc, qc, rfl, rfl, Lib.hid ?_⟩
            have hmx : MkV w9 (.slice ua X.sam.length uc) (.slice va X.marks.length vc) X := HMA2.out.keep (by first | exact hby | exact bThen (bAlloc (Below.refl _ _) _) hby | exact bThen (bAlloc (bAlloc (Below.refl _ _) _) _) hby)
            first
              | refine two_ss hbB hmx HMB2.out ?_ ?_ ?_ ?_ ?_
              | refine two_aa hbB hmx HMB2.out ?_ ?_ ?_
              | refine two_ab hbB hmx HMB2.out ?_ ?_ ?_
              | refine two_sa hbB hmx HMB2.out ?_ ?_ ?_ ?_
              | refine two_as hbB hmx HMB2.out ?_ ?_ ?_ ?_
            all_goals first
              | rfl
              | omega
              | ((repeat (first | exact heap_at rfl | exact heap_at (World.size_alloc _ _) | exact heap_past (Nat.lt_of_lt_of_eq (Nat.lt_succ_self _) (World.size_alloc _ _).symm) (heap_at rfl) | refine heap_keep hby ?_ | refine heap_keep hbx ?_ | refine heap_past (show w6.heap.size < w8.heap.size from y1) ?_)); done)
      case rest =>
        obtain ⟨b14, b15, ua, va, ra, qa, uc, vc, rc, qc, rfl, rfl, HT⟩ := hcut
        have p0 := (mcell HT.out.1.one).1
        have p1 := (mcell HT.out.1.one).2
        have pl := cell_lt p0
        have r0 := (mcell HT.out.1.two).1
        have r1 := (mcell HT.out.1.two).2
        have rl := cell_lt r0
        have HWC := Lib.hid (bThen HB.out HT.out.2)
        go_upto_region 13 with (go_at_call 46; (with_reducible refine Calls.mono (HRZ.out _ _ _ HT.out.1.mk2) ?_); rintro e wz ⟨⟨ga, gc, ha, hc, rfl, hmz⟩, hb⟩; have HMG2 := Lib.hid hmz; have HBZ := Lib.hid hb; clear hb hmz)
        have HN7 : Hid (Below wc.heap.size wc (wz.alloc (.cells #[.slice ga Z.sam.length gc, .slice ha Z.marks.length hc] 24))) := Lib.hid (bAlloc HBZ.out _)
        have HG7 : Hid ((wz.alloc (.cells #[.slice ga Z.sam.length gc, .slice ha Z.marks.length hc] 24)).heap[wz.heap.size]? = some (.cells #[.slice ga Z.sam.length gc, .slice ha Z.marks.length hc] 24 (0, 0))) := Lib.hid (heap_at rfl)
        have HMG3 := Lib.hid (HMG2.out.keep (bAlloc (Below.refl _ _) (.cells #[.slice ga Z.sam.length gc, .slice ha Z.marks.length hc] 24)))
        obtain ⟨gb, hgb⟩ : ∃ gb, gb = wz.heap.size := ⟨_, rfl⟩
        rw [← hgb] at HG7 ⊢
        generalize World.alloc wz _ = W7 at *
        clear hgb HMG2 HBZ
        have HW7 := Lib.hid (bThen HT.out.2 HN7.out)
        have HALL : Hid (∀ W, Below W7.heap.size W7 W → (((W.cell? ⟨w4.heap.size, 0, none⟩ = some (.slice oa Z.sam.length oc) ∧ W.cell? ⟨w4.heap.size, 1, none⟩ = some (.slice na Z.marks.length nc)) ∧ (W.cell? ⟨w3.heap.size, 0, none⟩ = some (.slice sa Y.sam.length sc) ∧ W.cell? ⟨w3.heap.size, 1, none⟩ = some (.slice ta Y.marks.length tc)) ∧ (W.cell? ⟨w2.heap.size, 0, none⟩ = some (.slice xa X.sam.length xc) ∧ W.cell? ⟨w2.heap.size, 1, none⟩ = some (.slice ya X.marks.length yc))) ∧ ((W.cell? ⟨b14, 0, none⟩ = some (.slice ua X.sam.length uc) ∧ W.cell? ⟨b14, 1, none⟩ = some (.slice va X.marks.length vc)) ∧ (W.cell? ⟨b15, 0, none⟩ = some (.slice ra Y.sam.length rc) ∧ W.cell? ⟨b15, 1, none⟩ = some (.slice qa Y.marks.length qc)) ∧ (W.cell? ⟨gb, 0, none⟩ = some (.slice ga Z.sam.length gc) ∧ W.cell? ⟨gb, 1, none⟩ = some (.slice ha Z.marks.length hc))) ∧ (MkV W (.slice xa X.sam.length xc) (.slice ya X.marks.length yc) X ∧ MkV W (.slice sa Y.sam.length sc) (.slice ta Y.marks.length tc) Y ∧ MkV W (.slice oa Z.sam.length oc) (.slice na Z.marks.length nc) Z) ∧ (MkV W (.slice ua X.sam.length uc) (.slice va X.marks.length vc) X ∧ MkV W (.slice ra Y.sam.length rc) (.slice qa Y.marks.length qc) Y ∧ MkV W (.slice ga Z.sam.length gc) (.slice ha Z.marks.length hc) Z) ∧ Below w.heap.size w W)) := Lib.hid fun W hB => by
          have h6 := bThen HW7.out hB
          have h7 := bThen HN7.out hB
          exact ⟨⟨⟨keep h6 z0, keep h6 z1⟩, ⟨keep h6 y0, keep h6 y1⟩, keep h6 x0, keep h6 x1⟩, ⟨⟨keep h7 p0, keep h7 p1⟩, ⟨keep h7 r0, keep h7 r1⟩, keep hB (mcell HG7.out).1, keep hB (mcell HG7.out).2⟩, ⟨HMX.out.keep h6, HMY.out.keep h6, HMZ.out.keep h6⟩, ⟨HT.out.1.mk1.keep h7, HT.out.1.mk2.keep h7, HMG3.out.keep hB⟩, bThen HB.out h6⟩
        clear HMX HMY HMZ HMG3 HT HWC x0 x1 xl y0 y1 yl z0 z1 zl p0 p1 pl r0 r1 rl c0 c1 cl HKC HRS HRT HRZ HMG HSO HTO HIO HMA HRA HW7 HN7 HG7 HB
        have hb7 := Below.refl W7.heap.size W7
        have z0 := (HALL.out W7 hb7).1.1.1
        have z1 := (HALL.out W7 hb7).1.1.2
        have zl := cell_lt z0
        have y0 := (HALL.out W7 hb7).1.2.1.1
        have y1 := (HALL.out W7 hb7).1.2.1.2
        have yl := cell_lt y0
        have x0 := (HALL.out W7 hb7).1.2.2.1
        have x1 := (HALL.out W7 hb7).1.2.2.2
        have xl := cell_lt x0
        have p0 := (HALL.out W7 hb7).2.1.1.1
        have p1 := (HALL.out W7 hb7).2.1.1.2
        have pl := cell_lt p0
        have r0 := (HALL.out W7 hb7).2.1.2.1.1
        have r1 := (HALL.out W7 hb7).2.1.2.1.2
        have rl := cell_lt r0
        have g0 := (HALL.out W7 hb7).2.1.2.2.1
        have g1 := (HALL.out W7 hb7).2.1.2.2.2
        have gl := cell_lt g0
        have HB7 := Lib.hid hb7
        clear hb7
        go_wp2_with (first
          | (go_at_call 48; with_reducible refine Calls.mono (HSX.out _ _ _ _ _ _ _ _ _ (HALL.out _ HB7.out).2.2.1.1 (HALL.out _ HB7.out).2.2.2.1.1) ?_; rintro e w8 ⟨rfl, hb⟩; replace HB7 := Lib.hid (bThen HB7.out hb); replace x0 := keep hb x0; replace x1 := keep hb x1; replace xl := cell_lt x0; replace y0 := keep hb y0; replace y1 := keep hb y1; replace yl := cell_lt y0; replace z0 := keep hb z0; replace z1 := keep hb z1; replace zl := cell_lt z0; replace p0 := keep hb p0; replace p1 := keep hb p1; replace pl := cell_lt p0; replace r0 := keep hb r0; replace r1 := keep hb r1; replace rl := cell_lt r0; replace g0 := keep hb g0; replace g1 := keep hb g1; replace gl := cell_lt g0; clear hb)
          | (go_at_call 48; with_reducible refine Calls.mono (HSY.out _ _ _ _ _ _ _ _ _ (HALL.out _ HB7.out).2.2.1.2.1 (HALL.out _ HB7.out).2.2.2.1.2.1) ?_; rintro e w8 ⟨rfl, hb⟩; replace HB7 := Lib.hid (bThen HB7.out hb); replace x0 := keep hb x0; replace x1 := keep hb x1; replace xl := cell_lt x0; replace y0 := keep hb y0; replace y1 := keep hb y1; replace yl := cell_lt y0; replace z0 := keep hb z0; replace z1 := keep hb z1; replace zl := cell_lt z0; replace p0 := keep hb p0; replace p1 := keep hb p1; replace pl := cell_lt p0; replace r0 := keep hb r0; replace r1 := keep hb r1; replace rl := cell_lt r0; replace g0 := keep hb g0; replace g1 := keep hb g1; replace gl := cell_lt g0; clear hb)
          | (go_at_call 48; with_reducible refine Calls.mono (HSZ.out _ _ _ _ _ _ _ _ _ (HALL.out _ HB7.out).2.2.1.2.2 (HALL.out _ HB7.out).2.2.2.1.2.2) ?_; rintro e w8 ⟨rfl, hb⟩; replace HB7 := Lib.hid (bThen HB7.out hb); replace x0 := keep hb x0; replace x1 := keep hb x1; replace xl := cell_lt x0; replace y0 := keep hb y0; replace y1 := keep hb y1; replace yl := cell_lt y0; replace z0 := keep hb z0; replace z1 := keep hb z1; replace zl := cell_lt z0; replace p0 := keep hb p0; replace p1 := keep hb p1; replace pl := cell_lt p0; replace r0 := keep hb r0; replace r1 := keep hb r1; replace rl := cell_lt r0; replace g0 := keep hb g0; replace g1 := keep hb g1; replace gl := cell_lt g0; clear hb)
          | (go_at_call 19; with_reducible refine Calls.mono (HVX.out _ _ _ _ _ (HALL.out _ HB7.out).2.2.1.1) ?_; rintro e w8 ⟨rfl, hb⟩; replace HB7 := Lib.hid (bThen HB7.out hb); replace x0 := keep hb x0; replace x1 := keep hb x1; replace xl := cell_lt x0; replace y0 := keep hb y0; replace y1 := keep hb y1; replace yl := cell_lt y0; replace z0 := keep hb z0; replace z1 := keep hb z1; replace zl := cell_lt z0; replace p0 := keep hb p0; replace p1 := keep hb p1; replace pl := cell_lt p0; replace r0 := keep hb r0; replace r1 := keep hb r1; replace rl := cell_lt r0; replace g0 := keep hb g0; replace g1 := keep hb g1; replace gl := cell_lt g0; clear hb)
          | (go_at_call 19; with_reducible refine Calls.mono (HVY.out _ _ _ _ _ (HALL.out _ HB7.out).2.2.1.2.1) ?_; rintro e w8 ⟨rfl, hb⟩; replace HB7 := Lib.hid (bThen HB7.out hb); replace x0 := keep hb x0; replace x1 := keep hb x1; replace xl := cell_lt x0; replace y0 := keep hb y0; replace y1 := keep hb y1; replace yl := cell_lt y0; replace z0 := keep hb z0; replace z1 := keep hb z1; replace zl := cell_lt z0; replace p0 := keep hb p0; replace p1 := keep hb p1; replace pl := cell_lt p0; replace r0 := keep hb r0; replace r1 := keep hb r1; replace rl := cell_lt r0; replace g0 := keep hb g0; replace g1 := keep hb g1; replace gl := cell_lt g0; clear hb)
          | (go_at_call 19; with_reducible refine Calls.mono (HVZ.out _ _ _ _ _ (HALL.out _ HB7.out).2.2.1.2.2) ?_; rintro e w8 ⟨rfl, hb⟩; replace HB7 := Lib.hid (bThen HB7.out hb); replace x0 := keep hb x0; replace x1 := keep hb x1; replace xl := cell_lt x0; replace y0 := keep hb y0; replace y1 := keep hb y1; replace yl := cell_lt y0; replace z0 := keep hb z0; replace z1 := keep hb z1; replace zl := cell_lt z0; replace p0 := keep hb p0; replace p1 := keep hb p1; replace pl := cell_lt p0; replace r0 := keep hb r0; replace r1 := keep hb r1; replace rl := cell_lt r0; replace g0 := keep hb g0; replace g1 := keep hb g1; replace gl := cell_lt g0; clear hb)
          | (go_at_call 18; with_reducible refine Calls.mono (HK.out _) ?_; rintro e wk ⟨rfl, hb⟩; have HBK := Lib.hid (bThen (HALL.out _ HB7.out).2.2.2.2 hb); clear hb))
        all_goals first
          | (exfalso; omega)
          | (go_ret; exact ⟨rfl, HBK.out⟩)
    · have te : ∀ gs, tfErr m num den gs = mkErr (ratOk num den) m := fun gs => by unfold tfErr; rw [if_neg hE]
      have tv : ∀ gs, tfV m num den gs = ⟨[], []⟩ := fun gs => by unfold tfV; rw [te, if_neg hE]
      obtain ⟨X, hX⟩ : ∃ X : Mk, X = tfV m num den (gsStr m num den) := ⟨_, rfl⟩
      obtain ⟨Y, hY⟩ : ∃ Y : Mk, Y = tfV m num den (gsTra num den) := ⟨_, rfl⟩
      obtain ⟨Z, hZ⟩ : ∃ Z : Mk, Z = tfV m num den (gsSing m num den) := ⟨_, rfl⟩
      rw [te, ← hX] at hso
      rw [te, ← hY] at hto
      rw [te, ← hZ] at hio
      rw [tv] at hX hY hZ
      have hno : ∀ M : Mk, M = ⟨[], []⟩ → ∀ W ra rc qa qc, MkV W (.slice ra M.sam.length rc) (.slice qa M.marks.length qc) M → Calls Try.prog 45 #[.agg #[.slice ra M.sam.length rc, .slice qa M.marks.length qc]] W fun e w' => e = .returned (.bool true) ∧ Below W.heap.size W w' := fun M hM W ra rc qa qc h => by
        subst hM
        exact none_any ⟨[], []⟩ _ _ W h (by show 0 ≤ 1000000; omega) (by show 0 ≤ 1000000; omega)
      have HNX := Lib.hid (hno X hX)
      have HNY := Lib.hid (hno Y hY)
      have HNZ := Lib.hid (hno Z hZ)
      have he : (ev ≠ 0 ∧ mkErr (ratOk num den) m = ev) ∨ (ev = 0 ∧ mkErr (ratOk num den) m = 2 ∧ ratOk num den = false) := by
        by_cases h0 : ev = 0
        · refine .inr ⟨h0, ?_⟩
          rw [mkE_true (by rw [← hev]; exact h0)] at hE ⊢
          cases hb : ratOk num den
          · exact ⟨by simp, rfl⟩
          · rw [hb] at hE; exact absurd rfl hE
        · exact .inl ⟨h0, by rw [mkE_any (by rw [← hev]; exact h0), hev]⟩
      obtain ⟨er, her⟩ : ∃ er, er = mkErr (ratOk num den) m := ⟨_, rfl⟩
      rw [← her] at he hso hto hio
      have HSO := Lib.hid hso
      have HTO := Lib.hid hto
      have HIO := Lib.hid hio
      clear hE hev h1 h1' HV hso hto hio te tv hno hX hY hZ her
      rcases he with ⟨h0, rfl⟩ | ⟨rfl, rfl, hrf⟩
      · have hb0 : (er == 0) = false := beq_eq_false_iff_ne.2 h0
        go_enter Try.func10, Try.ntmps10
        go_upto_region 6 with (first
          | (go_at_call 40; with_reducible refine Calls.mono (HMG.out _ HB.out) ?_; rintro e w1 ⟨rfl, hb⟩; replace HB := Lib.hid (bThen HB.out hb); replace c0 := keep hb c0; replace c1 := keep hb c1; replace cl := cell_lt c0; clear hb)
          | (go_at_call 41; with_reducible refine Calls.mono (HSO.out _ HB.out) ?_; rintro e w2 ⟨⟨xa, xc, ya, yc, rfl, hmv⟩, hb⟩; have HMX := Lib.hid (hmv.keep (bAlloc (Below.refl _ _) (.cells #[.slice xa X.sam.length xc, .slice ya X.marks.length yc] 24))); have x0 := (cell_new (V := w2) (cs := #[.slice xa X.sam.length xc, .slice ya X.marks.length yc]) (t := 24) (j := 0) (v := .slice xa X.sam.length xc) rfl); have x1 := (cell_new (V := w2) (cs := #[.slice xa X.sam.length xc, .slice ya X.marks.length yc]) (t := 24) (j := 1) (v := .slice ya X.marks.length yc) rfl); have xl := cell_lt x0; replace HB := Lib.hid (bAlloc (bThen HB.out hb) (.cells #[.slice xa X.sam.length xc, .slice ya X.marks.length yc] 24)); replace c0 := keep (bAlloc (Below.refl _ _) (.cells #[.slice xa X.sam.length xc, .slice ya X.marks.length yc] 24)) (keep hb c0); replace c1 := keep (bAlloc (Below.refl _ _) (.cells #[.slice xa X.sam.length xc, .slice ya X.marks.length yc] 24)) (keep hb c1); replace cl := cell_lt c0; clear hb hmv)
          | (go_at_call 42; with_reducible refine Calls.mono (HTO.out _ HB.out) ?_; rintro e w3 ⟨⟨sa, sc, ta, tc, rfl, hmv⟩, hb⟩; replace HMX := Lib.hid ((HMX.out.keep hb).keep (bAlloc (Below.refl _ _) (.cells #[.slice sa Y.sam.length sc, .slice ta Y.marks.length tc] 24))); replace x0 := keep (bAlloc (Below.refl _ _) (.cells #[.slice sa Y.sam.length sc, .slice ta Y.marks.length tc] 24)) (keep hb x0); replace x1 := keep (bAlloc (Below.refl _ _) (.cells #[.slice sa Y.sam.length sc, .slice ta Y.marks.length tc] 24)) (keep hb x1); replace xl := cell_lt x0; have HMY := Lib.hid (hmv.keep (bAlloc (Below.refl _ _) (.cells #[.slice sa Y.sam.length sc, .slice ta Y.marks.length tc] 24))); have y0 := (cell_new (V := w3) (cs := #[.slice sa Y.sam.length sc, .slice ta Y.marks.length tc]) (t := 24) (j := 0) (v := .slice sa Y.sam.length sc) rfl); have y1 := (cell_new (V := w3) (cs := #[.slice sa Y.sam.length sc, .slice ta Y.marks.length tc]) (t := 24) (j := 1) (v := .slice ta Y.marks.length tc) rfl); have yl := cell_lt y0; replace HB := Lib.hid (bAlloc (bThen HB.out hb) (.cells #[.slice sa Y.sam.length sc, .slice ta Y.marks.length tc] 24)); replace c0 := keep (bAlloc (Below.refl _ _) (.cells #[.slice sa Y.sam.length sc, .slice ta Y.marks.length tc] 24)) (keep hb c0); replace c1 := keep (bAlloc (Below.refl _ _) (.cells #[.slice sa Y.sam.length sc, .slice ta Y.marks.length tc] 24)) (keep hb c1); replace cl := cell_lt c0; clear hb hmv)
          | (go_at_call 43; with_reducible refine Calls.mono (HIO.out _ HB.out) ?_; rintro e w4 ⟨⟨oa, oc, na, nc, rfl, hmv⟩, hb⟩; replace HMX := Lib.hid ((HMX.out.keep hb).keep (bAlloc (Below.refl _ _) (.cells #[.slice oa Z.sam.length oc, .slice na Z.marks.length nc] 24))); replace x0 := keep (bAlloc (Below.refl _ _) (.cells #[.slice oa Z.sam.length oc, .slice na Z.marks.length nc] 24)) (keep hb x0); replace x1 := keep (bAlloc (Below.refl _ _) (.cells #[.slice oa Z.sam.length oc, .slice na Z.marks.length nc] 24)) (keep hb x1); replace xl := cell_lt x0; replace HMY := Lib.hid ((HMY.out.keep hb).keep (bAlloc (Below.refl _ _) (.cells #[.slice oa Z.sam.length oc, .slice na Z.marks.length nc] 24))); replace y0 := keep (bAlloc (Below.refl _ _) (.cells #[.slice oa Z.sam.length oc, .slice na Z.marks.length nc] 24)) (keep hb y0); replace y1 := keep (bAlloc (Below.refl _ _) (.cells #[.slice oa Z.sam.length oc, .slice na Z.marks.length nc] 24)) (keep hb y1); replace yl := cell_lt y0; have HMZ := Lib.hid (hmv.keep (bAlloc (Below.refl _ _) (.cells #[.slice oa Z.sam.length oc, .slice na Z.marks.length nc] 24))); have z0 := (cell_new (V := w4) (cs := #[.slice oa Z.sam.length oc, .slice na Z.marks.length nc]) (t := 24) (j := 0) (v := .slice oa Z.sam.length oc) rfl); have z1 := (cell_new (V := w4) (cs := #[.slice oa Z.sam.length oc, .slice na Z.marks.length nc]) (t := 24) (j := 1) (v := .slice na Z.marks.length nc) rfl); have zl := cell_lt z0; replace HB := Lib.hid (bAlloc (bThen HB.out hb) (.cells #[.slice oa Z.sam.length oc, .slice na Z.marks.length nc] 24)); replace c0 := keep (bAlloc (Below.refl _ _) (.cells #[.slice oa Z.sam.length oc, .slice na Z.marks.length nc] 24)) (keep hb c0); replace c1 := keep (bAlloc (Below.refl _ _) (.cells #[.slice oa Z.sam.length oc, .slice na Z.marks.length nc] 24)) (keep hb c1); replace cl := cell_lt c0; clear hb hmv))
        generalize World.alloc w4 _ = W5 at *
        go_wp2_with (first
          | (go_at_call 20; with_reducible refine Calls.mono (HMA.out _ HB.out) ?_; rintro e w6 ⟨rfl, hb⟩; replace HB := Lib.hid (bThen HB.out hb); replace HMX := Lib.hid (HMX.out.keep hb); replace x0 := keep hb x0; replace x1 := keep hb x1; replace xl := cell_lt x0; replace HMY := Lib.hid (HMY.out.keep hb); replace y0 := keep hb y0; replace y1 := keep hb y1; replace yl := cell_lt y0; replace HMZ := Lib.hid (HMZ.out.keep hb); replace z0 := keep hb z0; replace z1 := keep hb z1; replace zl := cell_lt z0; clear hb)
          | (go_at_call 44; with_reducible refine Calls.mono (HRA.out _) ?_; rintro e w7 ⟨rfl, rfl⟩)
          | (go_at_call 45; with_reducible refine Calls.mono (HNX.out _ _ _ _ _ HMX.out) ?_; rintro e w8 ⟨rfl, hb⟩; replace HB := Lib.hid (bThen HB.out hb); replace HMY := Lib.hid (HMY.out.keep hb); replace y0 := keep hb y0; replace y1 := keep hb y1; replace yl := cell_lt y0; replace HMZ := Lib.hid (HMZ.out.keep hb); replace z0 := keep hb z0; replace z1 := keep hb z1; replace zl := cell_lt z0; clear hb HMX x0 x1 xl)
          | (go_at_call 45; with_reducible refine Calls.mono (HNY.out _ _ _ _ _ HMY.out) ?_; rintro e w8 ⟨rfl, hb⟩; replace HB := Lib.hid (bThen HB.out hb); replace HMZ := Lib.hid (HMZ.out.keep hb); replace z0 := keep hb z0; replace z1 := keep hb z1; replace zl := cell_lt z0; clear hb HMY y0 y1 yl)
          | (go_at_call 45; with_reducible refine Calls.mono (HNZ.out _ _ _ _ _ HMZ.out) ?_; rintro e w8 ⟨rfl, hb⟩; replace HB := Lib.hid (bThen HB.out hb); clear hb HMZ z0 z1 zl)
          | (go_at_call 18; with_reducible refine Calls.mono (HK.out _) ?_; rintro e wk ⟨rfl, hb⟩; have HBK := Lib.hid (bThen HB.out hb); clear hb))
        all_goals first
          | (exfalso; omega)
          | (go_ret; exact ⟨rfl, HBK.out⟩)
      · rw [hrf] at HRA
        clear hrf
        go_enter Try.func10, Try.ntmps10
        go_upto_region 6 with (first
          | (go_at_call 40; with_reducible refine Calls.mono (HMG.out _ HB.out) ?_; rintro e w1 ⟨rfl, hb⟩; replace HB := Lib.hid (bThen HB.out hb); replace c0 := keep hb c0; replace c1 := keep hb c1; replace cl := cell_lt c0; clear hb)
          | (go_at_call 41; with_reducible refine Calls.mono (HSO.out _ HB.out) ?_; rintro e w2 ⟨⟨xa, xc, ya, yc, rfl, hmv⟩, hb⟩; have HMX := Lib.hid (hmv.keep (bAlloc (Below.refl _ _) (.cells #[.slice xa X.sam.length xc, .slice ya X.marks.length yc] 24))); have x0 := (cell_new (V := w2) (cs := #[.slice xa X.sam.length xc, .slice ya X.marks.length yc]) (t := 24) (j := 0) (v := .slice xa X.sam.length xc) rfl); have x1 := (cell_new (V := w2) (cs := #[.slice xa X.sam.length xc, .slice ya X.marks.length yc]) (t := 24) (j := 1) (v := .slice ya X.marks.length yc) rfl); have xl := cell_lt x0; replace HB := Lib.hid (bAlloc (bThen HB.out hb) (.cells #[.slice xa X.sam.length xc, .slice ya X.marks.length yc] 24)); replace c0 := keep (bAlloc (Below.refl _ _) (.cells #[.slice xa X.sam.length xc, .slice ya X.marks.length yc] 24)) (keep hb c0); replace c1 := keep (bAlloc (Below.refl _ _) (.cells #[.slice xa X.sam.length xc, .slice ya X.marks.length yc] 24)) (keep hb c1); replace cl := cell_lt c0; clear hb hmv)
          | (go_at_call 42; with_reducible refine Calls.mono (HTO.out _ HB.out) ?_; rintro e w3 ⟨⟨sa, sc, ta, tc, rfl, hmv⟩, hb⟩; replace HMX := Lib.hid ((HMX.out.keep hb).keep (bAlloc (Below.refl _ _) (.cells #[.slice sa Y.sam.length sc, .slice ta Y.marks.length tc] 24))); replace x0 := keep (bAlloc (Below.refl _ _) (.cells #[.slice sa Y.sam.length sc, .slice ta Y.marks.length tc] 24)) (keep hb x0); replace x1 := keep (bAlloc (Below.refl _ _) (.cells #[.slice sa Y.sam.length sc, .slice ta Y.marks.length tc] 24)) (keep hb x1); replace xl := cell_lt x0; have HMY := Lib.hid (hmv.keep (bAlloc (Below.refl _ _) (.cells #[.slice sa Y.sam.length sc, .slice ta Y.marks.length tc] 24))); have y0 := (cell_new (V := w3) (cs := #[.slice sa Y.sam.length sc, .slice ta Y.marks.length tc]) (t := 24) (j := 0) (v := .slice sa Y.sam.length sc) rfl); have y1 := (cell_new (V := w3) (cs := #[.slice sa Y.sam.length sc, .slice ta Y.marks.length tc]) (t := 24) (j := 1) (v := .slice ta Y.marks.length tc) rfl); have yl := cell_lt y0; replace HB := Lib.hid (bAlloc (bThen HB.out hb) (.cells #[.slice sa Y.sam.length sc, .slice ta Y.marks.length tc] 24)); replace c0 := keep (bAlloc (Below.refl _ _) (.cells #[.slice sa Y.sam.length sc, .slice ta Y.marks.length tc] 24)) (keep hb c0); replace c1 := keep (bAlloc (Below.refl _ _) (.cells #[.slice sa Y.sam.length sc, .slice ta Y.marks.length tc] 24)) (keep hb c1); replace cl := cell_lt c0; clear hb hmv)
          | (go_at_call 43; with_reducible refine Calls.mono (HIO.out _ HB.out) ?_; rintro e w4 ⟨⟨oa, oc, na, nc, rfl, hmv⟩, hb⟩; replace HMX := Lib.hid ((HMX.out.keep hb).keep (bAlloc (Below.refl _ _) (.cells #[.slice oa Z.sam.length oc, .slice na Z.marks.length nc] 24))); replace x0 := keep (bAlloc (Below.refl _ _) (.cells #[.slice oa Z.sam.length oc, .slice na Z.marks.length nc] 24)) (keep hb x0); replace x1 := keep (bAlloc (Below.refl _ _) (.cells #[.slice oa Z.sam.length oc, .slice na Z.marks.length nc] 24)) (keep hb x1); replace xl := cell_lt x0; replace HMY := Lib.hid ((HMY.out.keep hb).keep (bAlloc (Below.refl _ _) (.cells #[.slice oa Z.sam.length oc, .slice na Z.marks.length nc] 24))); replace y0 := keep (bAlloc (Below.refl _ _) (.cells #[.slice oa Z.sam.length oc, .slice na Z.marks.length nc] 24)) (keep hb y0); replace y1 := keep (bAlloc (Below.refl _ _) (.cells #[.slice oa Z.sam.length oc, .slice na Z.marks.length nc] 24)) (keep hb y1); replace yl := cell_lt y0; have HMZ := Lib.hid (hmv.keep (bAlloc (Below.refl _ _) (.cells #[.slice oa Z.sam.length oc, .slice na Z.marks.length nc] 24))); have z0 := (cell_new (V := w4) (cs := #[.slice oa Z.sam.length oc, .slice na Z.marks.length nc]) (t := 24) (j := 0) (v := .slice oa Z.sam.length oc) rfl); have z1 := (cell_new (V := w4) (cs := #[.slice oa Z.sam.length oc, .slice na Z.marks.length nc]) (t := 24) (j := 1) (v := .slice na Z.marks.length nc) rfl); have zl := cell_lt z0; replace HB := Lib.hid (bAlloc (bThen HB.out hb) (.cells #[.slice oa Z.sam.length oc, .slice na Z.marks.length nc] 24)); replace c0 := keep (bAlloc (Below.refl _ _) (.cells #[.slice oa Z.sam.length oc, .slice na Z.marks.length nc] 24)) (keep hb c0); replace c1 := keep (bAlloc (Below.refl _ _) (.cells #[.slice oa Z.sam.length oc, .slice na Z.marks.length nc] 24)) (keep hb c1); replace cl := cell_lt c0; clear hb hmv))
        generalize World.alloc w4 _ = W5 at *
        go_wp2_with (first
          | (go_at_call 20; with_reducible refine Calls.mono (HMA.out _ HB.out) ?_; rintro e w6 ⟨rfl, hb⟩; replace HB := Lib.hid (bThen HB.out hb); replace HMX := Lib.hid (HMX.out.keep hb); replace x0 := keep hb x0; replace x1 := keep hb x1; replace xl := cell_lt x0; replace HMY := Lib.hid (HMY.out.keep hb); replace y0 := keep hb y0; replace y1 := keep hb y1; replace yl := cell_lt y0; replace HMZ := Lib.hid (HMZ.out.keep hb); replace z0 := keep hb z0; replace z1 := keep hb z1; replace zl := cell_lt z0; clear hb)
          | (go_at_call 44; with_reducible refine Calls.mono (HRA.out _) ?_; rintro e w7 ⟨rfl, rfl⟩)
          | (go_at_call 45; with_reducible refine Calls.mono (HNX.out _ _ _ _ _ HMX.out) ?_; rintro e w8 ⟨rfl, hb⟩; replace HB := Lib.hid (bThen HB.out hb); replace HMY := Lib.hid (HMY.out.keep hb); replace y0 := keep hb y0; replace y1 := keep hb y1; replace yl := cell_lt y0; replace HMZ := Lib.hid (HMZ.out.keep hb); replace z0 := keep hb z0; replace z1 := keep hb z1; replace zl := cell_lt z0; clear hb HMX x0 x1 xl)
          | (go_at_call 45; with_reducible refine Calls.mono (HNY.out _ _ _ _ _ HMY.out) ?_; rintro e w8 ⟨rfl, hb⟩; replace HB := Lib.hid (bThen HB.out hb); replace HMZ := Lib.hid (HMZ.out.keep hb); replace z0 := keep hb z0; replace z1 := keep hb z1; replace zl := cell_lt z0; clear hb HMY y0 y1 yl)
          | (go_at_call 45; with_reducible refine Calls.mono (HNZ.out _ _ _ _ _ HMZ.out) ?_; rintro e w8 ⟨rfl, hb⟩; replace HB := Lib.hid (bThen HB.out hb); clear hb HMZ z0 z1 zl)
          | (go_at_call 18; with_reducible refine Calls.mono (HK.out _) ?_; rintro e wk ⟨rfl, hb⟩; have HBK := Lib.hid (bThen HB.out hb); clear hb))
        all_goals first
          | (exfalso; omega)
          | (go_ret; exact ⟨rfl, HBK.out⟩)
end Go.Proofs.Ytbeeddenidfenaa
