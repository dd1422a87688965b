/- Contracts: what the changes do with a period. -/
import Derived.Test.YtbeeddenidfenaaG0
set_option linter.unusedSimpArgs false
set_option linter.unusedVariables false
namespace Go.Proofs.Ytbeeddenidfenaa
open Go.RowKit

/-- The box of a period. -/
def PerAt (W : World) (b : Nat) (i : Nat) (sl : Value) (L T : Int) : Prop := W.heap[b]? = some (.cells #[.int .i64 (i : Int), sl, .int .i64 L, .int .i64 T] 99 (0, 0))
theorem PerAt.lt {W : World} {b i : Nat} {sl : Value} {L T : Int} (h : PerAt W b i sl L T) : b < W.heap.size := (Array.getElem?_eq_some_iff.1 h).1
theorem PerAt.c0 {W : World} {b i : Nat} {sl : Value} {L T : Int} (h : PerAt W b i sl L T) : W.cell? ⟨b, 0, none⟩ = some (.int .i64 (i : Int)) := by simp [World.cell?, show W.heap[b]? = _ from h]
theorem PerAt.c1 {W : World} {b i : Nat} {sl : Value} {L T : Int} (h : PerAt W b i sl L T) : W.cell? ⟨b, 1, none⟩ = some sl := by simp [World.cell?, show W.heap[b]? = _ from h]
theorem PerAt.c2 {W : World} {b i : Nat} {sl : Value} {L T : Int} (h : PerAt W b i sl L T) : W.cell? ⟨b, 2, none⟩ = some (.int .i64 L) := by simp [World.cell?, show W.heap[b]? = _ from h]
theorem PerAt.c3 {W : World} {b i : Nat} {sl : Value} {L T : Int} (h : PerAt W b i sl L T) : W.cell? ⟨b, 3, none⟩ = some (.int .i64 T) := by simp [World.cell?, show W.heap[b]? = _ from h]
theorem PerAt.fr {W : World} {b i : Nat} {sl : Value} {L T : Int} (h : PerAt W b i sl L T) (o : Nat) : W.frozen? ⟨b, o, none⟩ = false := by simp [World.frozen?, show W.heap[b]? = _ from h]
theorem PerAt.keep {W W' : World} {b i : Nat} {sl : Value} {L T : Int} (h : PerAt W b i sl L T) (hB : Below W.heap.size W W') : PerAt W' b i sl L T := heap_keep hB h
theorem PerAt.set2 {W : World} {b i : Nat} {sl : Value} {L T : Int} (h : PerAt W b i sl L T) (L' : Int) : PerAt (W.setCell ⟨b, 2, none⟩ (.int .i64 L')) b i sl L' T := by
  have hlt := h.lt
  unfold PerAt at h ⊢
  obtain ⟨_, hk⟩ := Array.getElem?_eq_some_iff.1 h
  show (W.heap.modify b _)[b]? = _
  rw [Array.getElem?_eq_getElem (by rw [Array.size_modify]; exact hlt), Array.getElem_modify_self, hk]
  rfl
theorem PerAt.set3 {W : World} {b i : Nat} {sl : Value} {L T : Int} (h : PerAt W b i sl L T) (T' : Int) : PerAt (W.setCell ⟨b, 3, none⟩ (.int .i64 T')) b i sl L T' := by
  have hlt := h.lt
  unfold PerAt at h ⊢
  obtain ⟨_, hk⟩ := Array.getElem?_eq_some_iff.1 h
  show (W.heap.modify b _)[b]? = _
  rw [Array.getElem?_eq_getElem (by rw [Array.size_modify]; exact hlt), Array.getElem_modify_self, hk]
  rfl
abbrev Eff := Nat → Int → Int → Int × Int
/-- A change, as a value: what it does with the box of a period. N: how many periods there are. -/
def Chg (n N : Nat) (w0 : World) (v : Value) (g : Eff) : Prop :=
  ∃ k fvs, v = .func (.func k) #[] fvs ∧ (∀ args w, (callFunc k args).run Try.prog w = .ok (.enter k args) w) ∧
    ∀ W b i sl L T, i < N → 1 ≤ L → L ≤ 2000000 → 0 ≤ T → T ≤ 1000000 → Below n w0 W → n ≤ b → PerAt W b i sl L T →
      Calls Try.prog k (#[.pointer (some ⟨b, 0, none⟩)] ++ fvs) W fun e w' => (∃ r, e = .returned r) ∧ Below b W w' ∧ PerAt w' b i sl (g i L T).1 (g i L T).2

/-- The first period of the result with the number k or a later one. -/
def fst' (A B : Nat) (k : Nat) : Nat := (k * A + B - 1) / B
def gStr (A B : Nat) : Eff := fun i L _ => (L, (fst' A B (i + 1) : Int) - fst' A B i)
def gTra (num den : Int) : Eff := fun _ L T => (nr (L * den) num, T)

set_option maxHeartbeats 1000000 in
theorem first_any (A B k ba bb : Nat) (w : World) (hA : A ≤ 2000000) (hB : 1 ≤ B) (hB2 : B ≤ 2000000) (hk : k ≤ 2000000) (c1 : w.cell? ⟨ba, 0, none⟩ = some (.int .i64 (A : Int))) (c2 : w.cell? ⟨bb, 0, none⟩ = some (.int .i64 (B : Int))) :
    Calls Try.prog 91 #[.int .i64 (k : Int), .pointer (some ⟨ba, 0, none⟩), .pointer (some ⟨bb, 0, none⟩)] w fun e w' => e = .returned (.int .i64 (fst' A B k : Nat)) ∧ w = w' := by
  have h1 := cell_lt c1
  have h2 := cell_lt c2
  have hm : k * A ≤ 2000000 * 2000000 := Nat.mul_le_mul hk hA
  have hf : ((fst' A B k : Nat) : Int) = ((k : Int) * A + B - 1) / B := by
    unfold fst'
    rw [Int.natCast_ediv]
    have h := Int.natCast_mul k A
    rw [show ((k * A + B - 1 : Nat) : Int) = (k : Int) * A + B - 1 by omega]
  rw [hf]
  have HM := Lib.hid hm
  obtain ⟨p, hp⟩ : ∃ p : Int, p = (k : Int) * A := ⟨_, rfl⟩
  have hp0 : 0 ≤ p ∧ p ≤ 4000000000000 := by
    rw [hp]
    have : ((k * A : Nat) : Int) = (k : Int) * A := Int.natCast_mul k A
    omega
  rw [← hp]
  have q1 : IntKind.i64.wrap ((k : Int) * A) = p := by rw [← hp]; exact IntWalk.i64_in _ (by omega)
  have q2 : IntKind.i64.wrap (p + (B : Int)) = p + B := IntWalk.i64_in _ (by omega)
  have q3 : IntKind.i64.wrap (p + (B : Int) - 1) = p + B - 1 := IntWalk.i64_in _ (by omega)
  have h5 : ¬ (B : Int) = 0 := by omega
  have h6 : ((B : Int) == 0) = false := by simp; omega
  have h8 := Int.ediv_le_self (B : Int) (show 0 ≤ p + B - 1 by omega)
  have h9 := Int.ediv_nonneg (show 0 ≤ p + B - 1 by omega) (show (0 : Int) ≤ B by omega)
  have q4 : (p + (B : Int) - 1).tdiv B = (p + B - 1) / B := Int.tdiv_eq_ediv_of_nonneg (by omega)
  have q5 : IntKind.i64.wrap ((p + (B : Int) - 1) / B) = (p + B - 1) / B := IntWalk.i64_in _ (by omega)
  clear hp hm
  go_enter Try.func91, Try.ntmps91
  go_wp2_with fail
  go_ret
  exact ⟨rfl, rfl⟩

theorem toX {P : Program} {f : FuncId} {args : Array Value} {W : World} {v : Value} (h : ∀ x : BW W, Calls P f args x.val fun e w' => e = .returned v ∧ x.val = w') (x : BW W) :
    Calls P f args x.val fun e w'' => e = .returned v ∧ ∃ y : BW W, w'' = y.val :=
  (h x).mono fun _ _ ⟨a, b⟩ => ⟨a, x, b.symm⟩
set_option maxRecDepth 10000 in
set_option maxHeartbeats 2000000 in
theorem str2_any (A B fb ba bb b i : Nat) (sl : Value) (L T : Int) (W : World) (hA : A ≤ 2000000) (hB : 1 ≤ B) (hB2 : B ≤ 1000000) (hi : i < B)
    (cf : W.cell? ⟨fb, 0, none⟩ = some (.func (.func 91) #[] #[.pointer (some ⟨ba, 0, none⟩), .pointer (some ⟨bb, 0, none⟩)]))
    (ca : W.cell? ⟨ba, 0, none⟩ = some (.int .i64 (A : Int))) (cb : W.cell? ⟨bb, 0, none⟩ = some (.int .i64 (B : Int))) (hp : PerAt W b i sl L T) (hf : fst' A B (i + 1) ≤ 100000000) (hfi : fst' A B i ≤ 100000000) :
    Calls Try.prog 92 #[.pointer (some ⟨b, 0, none⟩), .pointer (some ⟨fb, 0, none⟩)] W fun e w' => (∃ r, e = .returned r) ∧ Below b W w' ∧ PerAt w' b i sl L ((fst' A B (i + 1) : Nat) - (fst' A B i : Nat)) := by
  have HP := Lib.hid hp
  have c0 := hp.c0
  have c3 := hp.c3
  have hlf := cell_lt cf
  have hlb := hp.lt
  have h1 := fun x : BW W => first_any A B (i + 1) ba bb x.val hA hB (by omega) (by omega) (keep x.2 ca) (keep x.2 cb)
  have h2 := fun x : BW W => first_any A B i ba bb x.val hA hB (by omega) (by omega) (keep x.2 ca) (keep x.2 cb)
  obtain ⟨u, hu⟩ : ∃ u, u = fst' A B (i + 1) := ⟨_, rfl⟩
  obtain ⟨v, hv⟩ : ∃ v, v = fst' A B i := ⟨_, rfl⟩
  rw [← hu] at h1 hf
  rw [← hv] at h2 hfi
  rw [← hu, ← hv]
  rw [show ((i + 1 : Nat) : Int) = (i : Int) + 1 by omega] at h1
  have H1 := Lib.hid h1
  have H2 := Lib.hid h2
  have q1 : IntKind.i64.wrap ((i : Int) + 1) = (i : Int) + 1 := IntWalk.i64_in _ (by omega)
  have q2 : IntKind.i64.wrap ((u : Int) - v) = (u : Int) - v := IntWalk.i64_in _ (by omega)
  clear hu hv h1 h2 ca cb hp
  go_enter Try.func92, Try.ntmps92
  (refine region_below_tail 17 (by kernel_rfl) (by kernel_rfl) ?_; (simp only [List.take_succ_cons, List.take_zero, List.drop_succ_cons, List.drop_zero]); (repeat (first | go_big_quiet_step ((first | (with_reducible exact toX H1.out _) | (with_reducible exact toX H2.out _))) | quiet_step ((first | (with_reducible exact toX H1.out _) | (with_reducible exact toX H2.out _))))); (refine wpQuiet_nil ?_; intro _ hw'; obtain ⟨xq, hw''⟩ := hw'; subst hw''))
  have HX := Lib.hid (HP.out.keep xq.2)
  have d3 := HX.out.c3
  have d4 := HX.out.fr 3
  go_wp2_with fail
  go_end0
  exact ⟨⟨_, rfl⟩, ((show Below b W xq.val from xq.2.mono (Nat.le_of_lt hlb)).setCell (p := ⟨b, 3, none⟩) (Nat.le_refl _) _), HX.out.set3 _⟩
set_option maxRecDepth 10000 in
set_option maxHeartbeats 2000000 in
theorem tra1_any (num den nb db b i : Nat) (sl : Value) (L T : Int) (W : World) (hn : 1 ≤ num) (hn2 : num ≤ 1000) (hd : den ≤ 1000) (hL0 : 0 ≤ L) (hL : L ≤ 2000000)
    (ca : W.cell? ⟨nb, 0, none⟩ = some (.int .i64 (num : Int))) (cb : W.cell? ⟨db, 0, none⟩ = some (.int .i64 (den : Int))) (hp : PerAt W b i sl L T) :
    Calls Try.prog 93 #[.pointer (some ⟨b, 0, none⟩), .pointer (some ⟨db, 0, none⟩), .pointer (some ⟨nb, 0, none⟩)] W fun e w' => (∃ r, e = .returned r) ∧ Below b W w' ∧ PerAt w' b i sl (nr (L * den) num) T := by
  have HP := Lib.hid hp
  have c2 := hp.c2
  have hlf := cell_lt ca
  have hlg := cell_lt cb
  have hlb := hp.lt
  have m1 := mul_in (A := 2000000) (B := 1000) (show -2000000 ≤ L by omega) (by omega) (show -1000 ≤ (den : Int) by omega) (by omega)
  have m0 : 0 ≤ L * (den : Int) := Int.mul_nonneg hL0 (by omega)
  obtain ⟨p, hpe⟩ : ∃ p, p = L * (den : Int) := ⟨_, rfl⟩
  have q1 : IntKind.i64.wrap (L * (den : Int)) = p := by rw [hpe]; exact IntWalk.i64_in _ (by omega)
  rw [← hpe] at m1 m0 ⊢
  have h1 := fun x : BW W => rounded_pos p num x.val m0 (by omega) (by omega) (by omega)
  have hnr : nr p num = max 1 (rnd p num) := rfl
  rw [hnr]
  have hri := rnd_in (a := p) (b := num) m0 (by omega)
  obtain ⟨r, hr⟩ : ∃ r, r = rnd p num := ⟨_, rfl⟩
  rw [← hr] at h1 hri ⊢
  have HR := Lib.hid h1
  clear hr hpe hnr h1 hp
  by_cases h : 1 < r
  · rw [show max 1 r = r by omega]
    go_enter Try.func93, Try.ntmps93
    (refine region_below_tail 12 (by kernel_rfl) (by kernel_rfl) ?_; (simp only [List.take_succ_cons, List.take_zero, List.drop_succ_cons, List.drop_zero]); (repeat (first | go_big_quiet_step ((with_reducible exact toX HR.out _)) | quiet_step ((with_reducible exact toX HR.out _)))); (refine wpQuiet_nil ?_; intro _ hw'; obtain ⟨xq, hw''⟩ := hw'; subst hw''))
    have HX := Lib.hid (HP.out.keep xq.2)
    have d3 := HX.out.c2
    have d4 := HX.out.fr 2
    go_wp2_with fail
    go_end0
    refine ⟨⟨_, rfl⟩, ((show Below b W xq.val from xq.2.mono (Nat.le_of_lt hlb)).setCell (p := ⟨b, 2, none⟩) (Nat.le_refl _) _), ?_⟩
    exact HX.out.set2 _
  · rw [show max 1 r = 1 by omega]
    by_cases h2 : r = 1
    · subst h2
      go_enter Try.func93, Try.ntmps93
      (refine region_below_tail 12 (by kernel_rfl) (by kernel_rfl) ?_; (simp only [List.take_succ_cons, List.take_zero, List.drop_succ_cons, List.drop_zero]); (repeat (first | go_big_quiet_step ((with_reducible exact toX HR.out _)) | quiet_step ((with_reducible exact toX HR.out _)))); (refine wpQuiet_nil ?_; intro _ hw'; obtain ⟨xq, hw''⟩ := hw'; subst hw''))
      have HX := Lib.hid (HP.out.keep xq.2)
      have d3 := HX.out.c2
      have d4 := HX.out.fr 2
      go_wp2_with fail
      go_end0
      refine ⟨⟨_, rfl⟩, ((show Below b W xq.val from xq.2.mono (Nat.le_of_lt hlb)).setCell (p := ⟨b, 2, none⟩) (Nat.le_refl _) _), ?_⟩
      exact HX.out.set2 _
    · have h3 : r < 1 := by omega
      go_enter Try.func93, Try.ntmps93
      (refine region_below_tail 12 (by kernel_rfl) (by kernel_rfl) ?_; (simp only [List.take_succ_cons, List.take_zero, List.drop_succ_cons, List.drop_zero]); (repeat (first | go_big_quiet_step ((with_reducible exact toX HR.out _)) | quiet_step ((with_reducible exact toX HR.out _)))); (refine wpQuiet_nil ?_; intro _ hw'; obtain ⟨xq, hw''⟩ := hw'; subst hw''))
      have HX := Lib.hid (HP.out.keep xq.2)
      have d3 := HX.out.c2
      have d4 := HX.out.fr 2
      go_wp2_with fail
      go_end0
      refine ⟨⟨_, rfl⟩, ((show Below b W xq.val from xq.2.mono (Nat.le_of_lt hlb)).setCell (p := ⟨b, 2, none⟩) (Nat.le_refl _) _), ?_⟩
      exact HX.out.set2 _
end Go.Proofs.Ytbeeddenidfenaa
