/- Contracts: a wave is rebuilt. -/
import Derived.Test.YtbeeddenidfenaaG4
import Derived.Test.YtbeeddenidfenaaG01
import Derived.Sort.CutIn
set_option linter.unusedSimpArgs false
set_option linter.unusedVariables false
namespace Go.Proofs.Ytbeeddenidfenaa
open Go.RowKit Go.Shelf
attribute [local go_sem] Oper.semAt_some

set_option maxHeartbeats 1000000 in
theorem periods_any (vs vm cv : Value) (a1 a2 a3 : Option Addr) (n1 n2 n3 c1 c2 c3 : Nat) (h1 : vs = .slice a1 n1 c1) (h2 : vm = .slice a2 n2 c2) (h3 : cv = .slice a3 n3 c3) (w : World) :
    Calls Try.prog 89 #[.agg #[vs, vm], cv] w fun e w' => e = .returned (.func (.func 106) #[] #[.pointer (some ⟨w.heap.size, 0, none⟩), .pointer (some ⟨w.heap.size + 1, 0, none⟩)]) ∧ w' = (w.alloc (.cells #[vs, vm] 24)).alloc (.cells #[cv] 88) := by
  subst h1 h2 h3
  go_enter Try.func89, Try.ntmps89
  go_wp2_with fail
  go_ret
  exact ⟨rfl, rfl⟩

/-- What is said of a period: how long, how often. -/
def fL (m : Mk) (gs : List Eff) (i : Nat) : Nat := (fin m gs i).1.toNat
def fT (m : Mk) (gs : List Eff) (i : Nat) : Nat := (fin m gs i).2.toNat
def sumL (m : Mk) (gs : List Eff) : Nat → Nat
  | 0 => 0
  | k + 1 => sumL m gs k + fL m gs k * fT m gs k
def sumT (m : Mk) (gs : List Eff) : Nat → Nat
  | 0 => 0
  | k + 1 => sumT m gs k + fT m gs k
theorem FinOk.at {m : Mk} {gs : List Eff} (h : FinOk m gs) {i : Nat} (hi : i < pN m) : (fin m gs i).1 = (fL m gs i : Int) ∧ (fin m gs i).2 = (fT m gs i : Int) ∧ 1 ≤ fL m gs i ∧ fL m gs i ≤ 2000000 ∧ fT m gs i ≤ 1000000 := by
  have := h i hi gs.length (Nat.le_refl _)
  rw [List.take_length] at this
  unfold fL fT
  omega
theorem sumL_le {m : Mk} {gs : List Eff} (h : FinOk m gs) : ∀ k, k ≤ pN m → sumL m gs k ≤ 2000000000000 * k ∧ sumT m gs k ≤ sumL m gs k ∧ sumT m gs k ≤ 1000000 * k := by
  intro k
  induction k with
  | zero => intro _; simp [sumL, sumT]
  | succ k ih =>
    intro hk
    have h1 := ih (by omega)
    have h2 := h.at (i := k) (by omega)
    have h3 : fL m gs k * fT m gs k ≤ 2000000 * 1000000 := Nat.mul_le_mul h2.2.2.2.1 h2.2.2.2.2
    have h4 : 1 * fT m gs k ≤ fL m gs k * fT m gs k := Nat.mul_le_mul_right _ h2.2.2.1
    simp only [sumL, sumT]
    omega
def per (m : Mk) (i : Nat) : List Int := (m.sam.drop (mkI m i)).take (pL m i)
/-- All that is said, period by period. -/
def saidTo (m : Mk) (gs : List Eff) (k : Nat) : List (List Int) := (List.range k).flatMap fun i => List.replicate (fT m gs i) (perL (per m i) (fL m gs i))
def said (m : Mk) (gs : List Eff) : List (List Int) := saidTo m gs (pN m)
/-- Where each of some lists begins, one after the other. -/
def sts : Nat → List (List Int) → List Int
  | _, [] => []
  | a, p :: ps => (a : Int) :: sts (a + p.length) ps
def headL (m : Mk) : List Int := m.sam.take (mkI m 0)
def tailL (m : Mk) : List Int := m.sam.drop (mkI m (pN m))

/-- The wave between head and tail, anew. -/
def bldM (m : Mk) (ps : List (List Int)) : Mk := ⟨headL m ++ ps.flatten ++ tailL m, sts (headL m).length ps ++ [(((headL m).length + ps.flatten.length : Nat) : Int)]⟩
def rebLen (m : Mk) (gs : List Eff) : Nat := mkI m 0 + (m.sam.length - mkI m (pN m)) + sumL m gs (pN m)
/-- What is handed back. -/
def RebPost (m : Mk) (gs : List Eff) (e : Ending) (w' : World) : Prop :=
  (100000 < rebLen m gs ∧ e = .returned (.tuple #[.agg #[.slice none 0 0, .slice none 0 0], .int .i64 4])) ∨
    (rebLen m gs ≤ 100000 ∧ ∃ vs vm, e = .returned (.tuple #[.agg #[vs, vm], .int .i64 0]) ∧ MkV w' vs vm (bldM m (said m gs)))
theorem results_row_tmp {P : Program} {fn : Func} {p u : Tmp} {ty : TypeId} (h : fn.results = #[.cell p ty, .tmp u]) (tmps : Array Value) (w : World) (g : Nat) (t : TypeId) (cs : Array Value) (fr : Nat × Nat) (d : TypeDesc)
    (hp : tmps.getD p undef = .pointer (some ⟨g, 0, none⟩)) (hg : w.heap[g]? = some (.cells cs t fr))
    (hu : P.underlying ty = some d) (hd : (match d with | .struct _ | .array _ _ => true | _ => false) = true) (hi : (P.info? ty).map (·.size) = some cs.size) :
    (results fn tmps).run P w = .ok (.tuple #[.agg cs, tmps.getD u undef]) w := by
  rw [results_cell_tmp h, hp]
  simp [asAddr, run_loadVar_row w g t ty cs fr d hg hu hd hi, Result.andThen]
theorem set2_0 {W : World} {b : Nat} {x y : Value} {t : TypeId} (h : W.heap[b]? = some (.cells #[x, y] t (0, 0))) (v : Value) : (W.setCell ⟨b, 0, none⟩ v).heap[b]? = some (.cells #[v, y] t (0, 0)) := by
  obtain ⟨hlt, hk⟩ := Array.getElem?_eq_some_iff.1 h
  show (W.heap.modify b _)[b]? = _
  rw [Array.getElem?_eq_getElem (by rw [Array.size_modify]; exact hlt), Array.getElem_modify_self, hk]
  rfl
theorem set2_1 {W : World} {b : Nat} {x y : Value} {t : TypeId} (h : W.heap[b]? = some (.cells #[x, y] t (0, 0))) (v : Value) : (W.setCell ⟨b, 1, none⟩ v).heap[b]? = some (.cells #[x, v] t (0, 0)) := by
  obtain ⟨hlt, hk⟩ := Array.getElem?_eq_some_iff.1 h
  show (W.heap.modify b _)[b]? = _
  rw [Array.getElem?_eq_getElem (by rw [Array.size_modify]; exact hlt), Array.getElem_modify_self, hk]
  rfl
theorem makeI0 (n : Nat) (hn : n ≤ 1000000) (W : World) : (Instr.makeSlice 22 (.int .i64 0) (.int .i64 (n : Int))).run Try.prog W = .ok (.slice (some ⟨W.heap.size, 0, none⟩) 0 n) (W.alloc (.cells (madeCells #[Value.int .i64 0] n) 3)) := by
  obtain ⟨i3, hi3, hz3, hs3, hb3⟩ := info_parts infoI
  have h := run_makeSlice (P := Try.prog) (w := W) 22 3 i3 _ Try.underlying22 hi3 hz3 .i64 .i64 0 (n : Int) (by omega) (by omega) (by rw [hs3]; omega) (by rw [hb3]; omega) (by omega)
  rw [hs3] at h
  simpa [Value.cells] using h
theorem endR {V W : World} {n wz rb g q T C : Nat} (hz : wz = W.heap.size) (hb : Below wz W V) (hrb : V.heap[rb]? = some (.cells #[.slice (some ⟨g, 0, none⟩) T T, .slice (some ⟨q, 0, none⟩) 0 C] 24 (0, 0)))
    (hg : V.heap[g]? = some (.cells (madeCells #[.int .i64 0] T) 3 (0, 0))) (hq : V.heap[q]? = some (.cells (madeCells #[.int .i64 0] C) 3 (0, 0))) (hn : n ≤ q) (hC : C ≤ maxLen) (h : wz ≤ rb ∧ wz ≤ g ∧ wz ≤ q ∧ g ≠ q ∧ rb ≠ g ∧ rb ≠ q) :
    Hid (V.heap[rb]? = some (.cells #[.slice (some ⟨g, 0, none⟩) T T, .slice (some ⟨q, 0, none⟩) 0 C] 24 (0, 0))) ∧ Hid (V.rowIs g 3 T (fun _ => .int .i64 0)) ∧ Hid (V.ownsRow n 3 1 (.slice (some ⟨q, 0, none⟩) 0 C) 0 []) ∧ Hid (Below wz W V) ∧ Hid (wz ≤ rb ∧ wz ≤ g ∧ wz ≤ q ∧ g ≠ q ∧ rb ≠ g ∧ rb ≠ q) :=
  ⟨hrb, ⟨_, hg, size_madeCells _ _, fun i hi => by simp [madeCells, hi, Nat.mod_one]⟩, ⟨rfl, .inr ⟨q, C, _, rfl, hn, hq, Nat.zero_le _, hC, by rw [size_madeCells]; omega, by simp⟩⟩, hb, h⟩
theorem endRd {V W : World} {n wz rb g q T C : Nat} (hz : wz = W.heap.size) (hb : Below wz W V) (hrb : V.heap[rb]? = some (.cells #[.slice (some ⟨g, 0, none⟩) T T, .slice (some ⟨q, 0, none⟩) 0 C] 24 (0, 0)))
    (hg : V.heap[g]? = some (.cells (madeCells #[.int .i64 0] T) 3 (0, 0))) (hq : V.heap[q]? = some (.cells (madeCells #[.int .i64 0] C) 3 (0, 0))) (hn : n ≤ q) (hC : C ≤ maxLen) (h : wz ≤ rb ∧ wz ≤ g ∧ wz ≤ q ∧ g ≠ q ∧ rb ≠ g ∧ rb ≠ q) :
    Hid (V.drew.heap[rb]? = some (.cells #[.slice (some ⟨g, 0, none⟩) T T, .slice (some ⟨q, 0, none⟩) 0 C] 24 (0, 0))) ∧ Hid (V.drew.rowIs g 3 T (fun _ => .int .i64 0)) ∧ Hid (V.drew.ownsRow n 3 1 (.slice (some ⟨q, 0, none⟩) 0 C) 0 []) ∧ Hid (Below wz W V.drew) ∧ Hid (wz ≤ rb ∧ wz ≤ g ∧ wz ≤ q ∧ g ≠ q ∧ rb ≠ g ∧ rb ≠ q) :=
  endR (V := V.drew) hz (Below.drew hb) hrb hg hq hn hC h
theorem sumL_mono (m : Mk) (gs : List Eff) {i j : Nat} (h : i ≤ j) : sumL m gs i ≤ sumL m gs j := by
  induction j with
  | zero => obtain rfl : i = 0 := by omega
            exact Nat.le_refl _
  | succ j ih =>
    by_cases hj : i = j + 1
    · subst hj; exact Nat.le_refl _
    · have := ih (by omega)
      simp only [sumL]; omega
theorem sumT_mono (m : Mk) (gs : List Eff) {i j : Nat} (h : i ≤ j) : sumT m gs i ≤ sumT m gs j := by
  induction j with
  | zero => obtain rfl : i = 0 := by omega
            exact Nat.le_refl _
  | succ j ih =>
    by_cases hj : i = j + 1
    · subst hj; exact Nat.le_refl _
    · have := ih (by omega)
      simp only [sumT]; omega
theorem saidTo_succ (m : Mk) (gs : List Eff) (k : Nat) : saidTo m gs (k + 1) = saidTo m gs k ++ List.replicate (fT m gs k) (perL (per m k) (fL m gs k)) := by
  unfold saidTo
  rw [List.range_succ, List.flatMap_append]; simp
theorem flat_rep (j : Nat) (p : List Int) : (List.replicate j p).flatten.length = j * p.length := by
  induction j with
  | zero => simp
  | succ j ih => rw [List.replicate_succ, List.flatten_cons, List.length_append, ih, Nat.succ_mul]; omega
theorem saidTo_flat (m : Mk) (gs : List Eff) (k : Nat) : (saidTo m gs k).flatten.length = sumL m gs k := by
  induction k with
  | zero => rfl
  | succ k ih =>
    rw [saidTo_succ, List.flatten_append, List.length_append, ih, flat_rep, perL_len]
    simp only [sumL]
    rw [Nat.mul_comm]
theorem per_len {m : Mk} (h : MkR m) {i : Nat} (hi : i < pN m) : (per m i).length = pL m i := by
  have h1 := h.le (i := i + 1) (by unfold pN at hi; omega)
  have h2 := h.lt hi
  unfold per pL
  rw [List.length_take, List.length_drop]; omega
theorem saidTo_len (m : Mk) (gs : List Eff) (k : Nat) : (saidTo m gs k).length = sumT m gs k := by
  induction k with
  | zero => rfl
  | succ k ih => rw [saidTo_succ, List.length_append, ih, List.length_replicate]; rfl
theorem sts_append (a : Nat) (ps qs : List (List Int)) : sts a (ps ++ qs) = sts a ps ++ sts (a + ps.flatten.length) qs := by
  induction ps generalizing a with
  | nil => simp [sts]
  | cons p ps ih => simp only [List.cons_append, sts, ih, List.flatten_cons, List.length_append, Nat.add_assoc]
theorem sts_len (a : Nat) (ps : List (List Int)) : (sts a ps).length = ps.length := by
  induction ps generalizing a with
  | nil => rfl
  | cons p ps ih => simp [sts, ih]
theorem rep_succ (j : Nat) (p : List Int) : List.replicate (j + 1) p = List.replicate j p ++ [p] := List.replicate_succ'
theorem getD_app (l p : List Int) (i : Nat) : (l ++ p).getD i 0 = if l.length ≤ i ∧ i < l.length + p.length then p.getD (i - l.length) 0 else l.getD i 0 := by
  rw [List.getD_eq_getElem?_getD, List.getD_eq_getElem?_getD, List.getD_eq_getElem?_getD]
  by_cases h : i < l.length
  · rw [if_neg (by omega), List.getElem?_append_left h]
  · rw [List.getElem?_append_right (by omega)]
    by_cases h2 : i < l.length + p.length
    · rw [if_pos (by omega)]
    · rw [if_neg (by omega), List.getElem?_eq_none (by omega), List.getElem?_eq_none (by omega)]
theorem frz {W : World} {b : Nat} {cs : Array Value} {t : TypeId} (h : W.heap[b]? = some (.cells cs t (0, 0))) (o : Nat) : W.frozen? ⟨b, o, none⟩ = false := by simp [World.frozen?, h]
theorem own_ne {W : World} {base e size k j : Nat} {v : Value} {xs : List Value} {o : Obj} (h : W.ownsRow base e size v k xs) (hj : W.heap[j]? = some o) (hne : ∀ cs, o ≠ .cells cs e (0, 0)) : v.ownBlock ≠ some j := by
  rcases h.2 with ⟨rfl, _⟩ | ⟨g, cap, cur, rfl, _, hb, _⟩
  · simp [Value.ownBlock]
  · intro e
    obtain rfl : g = j := by simpa [Value.ownBlock] using e
    rw [hb] at hj
    cases hj
    exact hne _ rfl
theorem past_gen {W w1 : World} {v v' : Value} {tmp : Obj} {B i j : Nat} {o : Obj} (hgrow : (W.alloc tmp).grownBy w1 v.ownBlock) (h : W.heap[j]? = some o) (hne : v.ownBlock ≠ some j) (hB : j ≠ B) : (w1.setCell ⟨B, i, none⟩ v').heap[j]? = some o :=
  (Below.heap_setCell _ _ _ j hB).trans ((hgrow.block j (by have := (Array.getElem?_eq_some_iff.1 h).1; simp; omega) (fun e => hne e.symm)).trans (heap_past (Array.getElem?_eq_some_iff.1 h).1 h))
theorem appended2 {W w1 : World} {n₀ B : Nat} {t e : TypeId} {size : Nat} {c0 v v' : Value} {k m : Nat} {xs ys : List Value} {tmp : Obj} (hv : W.heap[B]? = some (.cells #[c0, v] t (0, 0))) (hte : t ≠ e) (hrow : W.ownsRow n₀ e size v k xs)
    (hn₀ : n₀ ≤ W.heap.size) (hB : n₀ ≤ B) (hown' : w1.ownsRow n₀ e size v' m ys) (hgrow : (W.alloc tmp).grownBy w1 v.ownBlock) :
    w1.heap[B]? = some (.cells #[c0, v] t (0, 0)) ∧ (w1.setCell ⟨B, 1, none⟩ v').heap[B]? = some (.cells #[c0, v'] t (0, 0)) ∧ (w1.setCell ⟨B, 1, none⟩ v').ownsRow n₀ e size v' m ys ∧ KeepsOthers W (w1.setCell ⟨B, 1, none⟩ v') ∧ Below n₀ W (w1.setCell ⟨B, 1, none⟩ v') := by
  have hlt : B < W.heap.size := (Array.getElem?_eq_some_iff.1 hv).1
  have hv1 : w1.heap[B]? = some (.cells #[c0, v] t (0, 0)) := (hgrow.block B (by simp; omega) (fun e' => own_ne hrow hv (fun cs h => by cases h; exact hte rfl) e'.symm)).trans (heap_past hlt hv)
  refine ⟨hv1, set2_1 hv1 v', hown'.kept (gb_set w1 B 1 v') (.inr (own_ne hown' hv1 (fun cs h => by cases h; exact hte rfl))), ?_, ?_⟩
  · refine ((KeepsOthers.alloc W tmp).trans (KeepsOthers.of_grownBy hgrow fun j o ej hj => ?_)).trans (KeepsOthers.setCell _ _ _)
    rcases (hrow.alloc tmp).2 with ⟨rfl, _⟩ | ⟨g, cap, cur, rfl, _, hgb, _⟩
    · simp [Value.ownBlock] at ej
    · obtain rfl : g = j := by simpa [Value.ownBlock] using ej
      rw [hgb] at hj; cases hj; rfl
  · refine (((Below.refl n₀ W).alloc hn₀ tmp).grown hgrow (by simp; omega) fun j ej => ?_).setCell (p := ⟨B, 1, none⟩) hB v'
    rcases hrow.2 with ⟨rfl, _⟩ | ⟨g, cap, cur, rfl, hb, _, _⟩
    · simp [Value.ownBlock] at ej
    · obtain rfl : g = j := by simpa [Value.ownBlock] using ej
      exact hb
theorem own_heap {β : Type} (k : Nat) (cs : Array Value) (t : TypeId) : Own (fun (_ : β) W => W.heap[k]? = some (.cells cs t (0, 0))) := fun _ X Y row hs hg hr => by
  have hlt : k < X.heap.size := (Array.getElem?_eq_some_iff.1 hs).1
  refine (hg.block k hlt (fun e => ?_)).trans hs
  obtain ⟨o, ho, hc⟩ := hr k e.symm
  rw [hs] at ho; cases ho; cases hc
theorem own_row {β : Type} (g : Nat) (t : TypeId) (T : Nat) (f : β → Nat → Value) : Own (fun s W => W.rowIs g t T (f s)) := fun s X Y row hs hg hr => by
  obtain ⟨c, hb, h⟩ := hs
  exact ⟨c, own_heap (β := Unit) g c t () X Y row hb hg hr, h⟩
theorem own2 {β : Type} (n₀ B : Nat) (t e : TypeId) (size : Nat) (c0 : Value) (k : β → Nat) (f : β → List Value) (G : β → Value → Prop) : Own (fun s W => ∃ mv, W.heap[B]? = some (.cells #[c0, mv] t (0, 0)) ∧ W.ownsRow n₀ e size mv (k s) (f s) ∧ G s mv) := by
  rintro s X Y row ⟨v, hv, hr, hG⟩ hg hrow
  refine ⟨v, own_heap (β := Unit) B _ t () X Y row hv hg hrow, hr.kept hg ?_, hG⟩
  rcases hr.2 with ⟨rfl, _⟩ | ⟨g, cap, cur, rfl, _, hgb, _⟩
  · exact .inl rfl
  · refine .inr fun e' => ?_
    obtain ⟨o, ho, hc⟩ := hrow g (by simpa [Value.ownBlock] using e'.symm)
    rw [hgb] at ho; cases ho; cases hc
theorem own_low {β : Type} {D B : Nat} {o : Obj} (h : D < B) : OwnFrom B (fun (_ : β) W => W.heap[D]? = some o) := fun _ X Y row hs hg hr =>
  (hg.block D (Array.getElem?_eq_some_iff.1 hs).1 (fun e => by have := (hr D e.symm).1; omega)).trans hs
set_option maxRecDepth 100000 in
set_option maxHeartbeats 4000000 in
theorem rebuilt_any (m : Mk) (gs : List Eff) (sb so sc cm : Nat) (am : Option Addr) (cv : Value) (w : World) (hm : MkR m) (hs : SliceV w (.slice (some ⟨sb, so, none⟩) m.sam.length sc) 1 IntAt m.sam)
    (hmk : SliceV w (.slice am m.marks.length cm) 1 IntAt m.marks) (hc : SliceV w cv 1 (ChgAt w.heap.size (pN m) w) gs) (hgs : gs.length ≤ 10) (hf : FinOk m gs) :
    Calls Try.prog 70 #[.agg #[.slice (some ⟨sb, so, none⟩) m.sam.length sc, .slice am m.marks.length cm], cv] w fun e w' => RebPost m gs e w' ∧ Below w.heap.size w w' := by
  have HM := Lib.hid hm
  have HF := Lib.hid hf
  have HMK := Lib.hid hmk
  have HC := Lib.hid hc
  have HS := Lib.hid hs
  have h2 := hm.two
  have h3 := hm.many
  have h4 := hm.len
  obtain ⟨mb, mo, rfl, hmf⟩ := hmk.at (by intro h; rw [h] at h2; simp at h2)
  have hcm : m.marks.length ≤ cm := by
    obtain ⟨a', c', hv, hl, -⟩ := id hmk
    obtain ⟨-, -, rfl⟩ := Value.slice.inj hv
    exact hl.2
  have hcs : m.sam.length ≤ sc := by
    obtain ⟨a', c', hv, hl, -⟩ := id hs
    obtain ⟨-, -, rfl⟩ := Value.slice.inj hv
    exact hl.2
  obtain ⟨ca, cc, rfl, hcl, -⟩ := id hc
  have k0 := hmf 0 (by omega)
  have k1 := hmf (pN m) (by unfold pN; omega)
  rw [HM.out.get] at k0 k1
  unfold IntAt at k0 k1
  have hbN := HM.out.le (i := pN m) (by unfold pN; omega)
  have hb0 := HM.out.le (i := 0) (by omega)
  obtain ⟨a, ha⟩ : ∃ a, a = mkI m 0 := ⟨_, rfl⟩
  obtain ⟨b, hbe⟩ : ∃ b, b = mkI m (pN m) := ⟨_, rfl⟩
  rw [← ha] at k0 hb0
  rw [← hbe] at k1 hbN
  rw [Nat.mul_one] at k0 k1
  rw [Nat.add_zero] at k0
  obtain ⟨N, hN⟩ : ∃ N, N = pN m := ⟨_, rfl⟩
  have hN1 : m.marks.length = N + 1 := by unfold pN at hN; omega
  rw [← hN] at k1
  obtain ⟨S, hS⟩ : ∃ S, S = m.sam.length := ⟨_, rfl⟩
  have HA := Lib.hid ha
  have HBE := Lib.hid hbe
  have HNE := Lib.hid hN
  have HN1 := Lib.hid hN1
  have HSE := Lib.hid hS
  rw [hN1] at h2 h3 hcm HMK ⊢
  rw [← hS] at h4 hcs hb0 hbN HS ⊢
  clear hm hs hmk hc hf hmf ha hbe hN hN1 hS
  have lm := cell_lt k0
  have q1 : IntKind.i64.wrap ((N : Int) + 1 - 1) = (N : Int) := by rw [show (N : Int) + 1 - 1 = (N : Int) by omega]; exact IntWalk.i64_in _ (by omega)
  have s0 : (a : Int) ≤ sc := by omega
  have s1 : (b : Int) ≤ (S : Int) := by omega
  have s2 : (S : Int) ≤ sc := by omega
  refine (callsIn_wide (n := 6)).1 ?_
  refine callsIn_of_wp_marks Try.func70 rfl trivial ?_ rfl
  simp only [Try.ntmps70, List.size_toArray, List.length_cons, List.length_nil, Nat.reduceAdd, Nat.reduceSub, Array.replicate_succ, Array.replicate_zero, List.push_toArray, List.append_toArray, List.nil_append, List.cons_append]
  have hzero : (Try.prog.info? 24).bind (fun i => i.zero) = some (.agg #[.slice none 0 0, .slice none 0 0]) := by kernel_rfl
  clear hzero
  obtain ⟨n, hn⟩ : ∃ n, n = w.heap.size := ⟨_, rfl⟩
  have HNW := Lib.hid hn.symm
  have HTL : Hid (SliceV w (.slice (if sc = b then some ⟨sb, so, none⟩ else some ⟨sb, so + b, none⟩) (S - b) (sc - b)) 1 IntAt (tailL m)) := Lib.hid (by unfold tailL; rw [← HBE.out]; exact HS.out.from b (by omega))
  gi_wp2
  rw [← hn]
  clear hn
  gi_cut [6, 7] from 15 (fun s6 s7 wc => s6 = .slice (some ⟨sb, so, none⟩) a sc ∧ (∃ ta, s7 = .slice ta (S - b) (sc - b) ∧ Hid (SliceV w (.slice ta (S - b) (sc - b)) 1 IntAt (tailL m))) ∧ Hid (wc.heap.size = n + 1 + 1) ∧ Hid (wc.heap[n]? = some (.cells #[.slice (some ⟨sb, so, none⟩) S sc, .slice (some ⟨mb, mo, none⟩) (N + 1) cm] 24 (0, 0))) ∧ Hid (wc.heap[n + 1]? = some (.cells #[.slice none 0 0, .slice none 0 0] 24 (0, 0))) ∧ Hid (Below n w wc))
  case first =>
    rename_i J K' hJ hK'
    have hw2 : Hid (∀ k, (((w.alloc (.cells #[.slice (some ⟨sb, so, none⟩) S sc, .slice (some ⟨mb, mo, none⟩) (N + 1) cm] 24)).alloc (.cells #[.slice none 0 0, .slice none 0 0] 24)).drewN k).heap.size = n + 1 + 1 ∧ (((w.alloc (.cells #[.slice (some ⟨sb, so, none⟩) S sc, .slice (some ⟨mb, mo, none⟩) (N + 1) cm] 24)).alloc (.cells #[.slice none 0 0, .slice none 0 0] 24)).drewN k).heap[n]? = some (.cells #[.slice (some ⟨sb, so, none⟩) S sc, .slice (some ⟨mb, mo, none⟩) (N + 1) cm] 24 (0, 0)) ∧ (((w.alloc (.cells #[.slice (some ⟨sb, so, none⟩) S sc, .slice (some ⟨mb, mo, none⟩) (N + 1) cm] 24)).alloc (.cells #[.slice none 0 0, .slice none 0 0] 24)).drewN k).heap[n + 1]? = some (.cells #[.slice none 0 0, .slice none 0 0] 24 (0, 0)) ∧ Below n w (((w.alloc (.cells #[.slice (some ⟨sb, so, none⟩) S sc, .slice (some ⟨mb, mo, none⟩) (N + 1) cm] 24)).alloc (.cells #[.slice none 0 0, .slice none 0 0] 24)).drewN k)) := Lib.hid (fun k => by
      have hn := HNW.out.symm
      refine ⟨by show (World.alloc _ _).heap.size = _; simp [hn], ?_, ?_, bDrew (by rw [hn]; exact bAlloc (bAlloc (Below.refl _ _) _) _) k⟩
      · show (World.alloc _ _).heap[n]? = _
        exact heap_past (by simp [hn]) (heap_at hn.symm)
      · show (World.alloc _ _).heap[n + 1]? = _
        exact heap_at (by simp [hn]))
    have hn2 := HNW.out
    subst hn2
    by_cases hsb : sc = b
    · rw [if_pos hsb] at HTL
      subst hsb
      refine (wpIn_wide (n := 6)).2 ?_
      (refine wp_region_quiet_lit (by kernel_rfl) (by kernel_rfl) ?_; (repeat (first | go_big_quiet_step (fail) | quiet_step (fail))); (refine wpQuiet_nil ?_; intro _ hw'; obtain ⟨nq, hw''⟩ := hw'; subst hw''))
      refine hK' _ _ (Met.intro (hJ _ _ ?_))
      (repeat apply Exists.intro)
      refine ⟨?rel, rfl⟩
      case rel =>
        have h := hw2.out nq
        exact ⟨rfl, ⟨some ⟨sb, so, none⟩, by first | (simp; done) | (simp; omega), HTL⟩, h.1, h.2.1, h.2.2.1, h.2.2.2⟩
    · rw [if_neg hsb] at HTL
      refine (wpIn_wide (n := 6)).2 ?_
      (refine wp_region_quiet_lit (by kernel_rfl) (by kernel_rfl) ?_; (repeat (first | go_big_quiet_step (fail) | quiet_step (fail))); (refine wpQuiet_nil ?_; intro _ hw'; obtain ⟨nq, hw''⟩ := hw'; subst hw''))
      refine hK' _ _ (Met.intro (hJ _ _ ?_))
      (repeat apply Exists.intro)
      refine ⟨?rel, rfl⟩
      case rel =>
        have h := hw2.out nq
        exact ⟨rfl, ⟨_, rfl, HTL⟩, h.1, h.2.1, h.2.2.1, h.2.2.2⟩
  case rest =>
    clear HTL
    obtain ⟨rfl, ⟨ta, rfl, HTL⟩, HZ, HP0, HR0, HB0⟩ := hcut
    obtain ⟨H0, hH0⟩ : ∃ H0, H0 = a + (S - b) := ⟨_, rfl⟩
    have q2 : IntKind.i64.wrap ((a : Int) + ((S - b : Nat) : Int)) = (H0 : Int) := by rw [show (a : Int) + ((S - b : Nat) : Int) = (H0 : Int) by omega]; exact IntWalk.i64_in _ (by omega)
    have HH0 := Lib.hid hH0
    have hHb : H0 ≤ 200000 := by omega
    clear hH0
    have e0 := (mcell HP0.out).1
    have e1 := (mcell HP0.out).2
    have l0 := cell_lt e0
    have hPE := fun W => periods_any (.slice (some ⟨sb, so, none⟩) S sc) (.slice (some ⟨mb, mo, none⟩) (N + 1) cm) (.slice ca gs.length cc) _ _ _ _ _ _ _ _ _ rfl rfl rfl W
    have HPE := Lib.hid hPE
    have hz := HZ.out
    clear hPE
    gi_wp2_with (refine ⟨trivial, ?_⟩; gi_at_call 89; refine (callsIn_wide.2 (HPE.out _)).mono ?_; rintro e w1 ⟨rfl, rfl⟩)
    generalize hW6 : World.alloc (World.alloc (World.alloc (World.alloc wc _) _) _) _ = W6
    have z1 : (wc.alloc (.cells #[.int .i64 (H0 : Int)] 3)).heap.size = n + 1 + 1 + 1 := by simp [hz]
    have z2 : ((wc.alloc (.cells #[.int .i64 (H0 : Int)] 3)).alloc (.cells #[.int .i64 1] 3)).heap.size = n + 1 + 1 + 1 + 1 := by simp [hz]
    have z3 : (((wc.alloc (.cells #[.int .i64 (H0 : Int)] 3)).alloc (.cells #[.int .i64 1] 3)).alloc (.cells #[.slice (some ⟨sb, so, none⟩) S sc, .slice (some ⟨mb, mo, none⟩) (N + 1) cm] 24)).heap.size = n + 1 + 1 + 1 + 1 + 1 := by simp [hz]
    have g0 : W6.heap[n]? = some (.cells #[.slice (some ⟨sb, so, none⟩) S sc, .slice (some ⟨mb, mo, none⟩) (N + 1) cm] 24 (0, 0)) := by rw [← hW6]; exact heap_past (by omega) (heap_past (by omega) (heap_past (by omega) (heap_past (by omega) HP0.out)))
    have g1 : W6.heap[n + 1]? = some (.cells #[.slice none 0 0, .slice none 0 0] 24 (0, 0)) := by rw [← hW6]; exact heap_past (by omega) (heap_past (by omega) (heap_past (by omega) (heap_past (by omega) HR0.out)))
    have g2 : Boxed W6 (n + 1 + 1) 3 (.int .i64 (H0 : Int)) := by rw [← hW6]; exact heap_past (by omega) (heap_past (by omega) (heap_past (by omega) (heap_at hz)))
    have g3 : Boxed W6 (n + 1 + 1 + 1) 3 (.int .i64 1) := by rw [← hW6]; exact heap_past (by omega) (heap_past (by omega) (heap_at z1))
    have g4 : W6.heap[n + 1 + 1 + 1 + 1]? = some (.cells #[.slice (some ⟨sb, so, none⟩) S sc, .slice (some ⟨mb, mo, none⟩) (N + 1) cm] 24 (0, 0)) := by rw [← hW6]; exact heap_past (by omega) (heap_at z2)
    have g5 : Boxed W6 (n + 1 + 1 + 1 + 1 + 1) 88 (.slice ca gs.length cc) := by rw [← hW6]; exact heap_at z3
    have g6 : W6.heap.size = n + 6 := by rw [← hW6]; simp [hz]
    have g7 : Below n w W6 := by rw [← hW6]; exact HB0.out.trans (((((Below.refl n wc).alloc (by omega) _).alloc (by omega) _).alloc (by omega) _).alloc (by omega) _)
    clear hW6 z1 z2 z3 e0 e1 l0 hz
    have G4 := Lib.hid g4
    have G5 := Lib.hid g5
    have hsays : SaysK 5 Try.prog 106 #[.pointer (some ⟨n + 1 + 1 + 1 + 1, 0, none⟩), .pointer (some ⟨n + 1 + 1 + 1 + 1 + 1, 0, none⟩)] (encP m gs sb so sc) (KpP n (n + 1 + 1 + 1 + 1) (n + 1 + 1 + 1 + 1 + 1)) (upL (pN m)) W6 := by
      refine periods_says 5 m gs n (n + 1 + 1 + 1 + 1) (n + 1 + 1 + 1 + 1 + 1) sb so sc cm (some ⟨mb, mo, none⟩) (.slice ca gs.length cc) w W6 HNW.out HM.out (by rw [← HSE.out]; exact hcs) (by rw [HN1.out]; exact HMK.out) (by have := HC.out; rwa [HNW.out] at this) hgs (by rw [HN1.out, ← HSE.out]; exact G4.out) G5.out g7 HF.out
    refine wpIn_range_kept (P := Try.prog) (n := 6) (by omega) (gf := 106) (lb := #[.pointer (some ⟨n + 1 + 1 + 1 + 1, 0, none⟩), .pointer (some ⟨n + 1 + 1 + 1 + 1 + 1, 0, none⟩)]) rfl (enters_of Try.func106 (by kernel_rfl) rfl)
      hsays (fun h k => h.trans k) (fun W lo o o' hlo ho hc _ => KpP.putObj W lo o o' (by omega) ho hc) (Below.refl _ _) (fun _ => rfl)
      (fun pre W => Boxed W (n + 1 + 1) 3 (.int .i64 ((H0 + sumL m gs pre.length : Nat) : Int)) ∧ Boxed W (n + 1 + 1 + 1) 3 (.int .i64 ((1 + sumT m gs pre.length : Nat) : Int)) ∧ W.heap[n]? = some (.cells #[.slice (some ⟨sb, so, none⟩) S sc, .slice (some ⟨mb, mo, none⟩) (N + 1) cm] 24 (0, 0)) ∧ W.heap[n + 1]? = some (.cells #[.slice none 0 0, .slice none 0 0] 24 (0, 0)) ∧ Below n w W)
      (fun _ _ => False)
      ?hI ?hIx ?h0
      (fun x a' W => ∃ bp, a' = { tmps := #[.agg #[.slice (some ⟨sb, so, none⟩) S sc, .slice (some ⟨mb, mo, none⟩) (N + 1) cm], .slice ca gs.length cc, .pointer (some ⟨n, 0, none⟩), undef, .pointer (some ⟨n + 1, 0, none⟩), .int .i64 0, .slice (some ⟨sb, so, none⟩) a sc, .slice ta (S - b) (sc - b), .pointer (some ⟨n + 1 + 1, 0, none⟩), .pointer (some ⟨n + 1 + 1 + 1, 0, none⟩), .pointer (some ⟨bp, 0, none⟩), undef, undef, undef, undef, u15, u16, u17, u18, u19, u20, u21, u22, u23, u24, u25, u26, u27, u28, u29, u30, u31, u32, .slice (some ⟨sb, so, none⟩) a sc, .int .i64 (a : Int), .slice ta (S - b) (sc - b), .int .i64 ((S - b : Nat) : Int), .int .i64 (H0 : Int), .agg #[.slice (some ⟨sb, so, none⟩) S sc, .slice (some ⟨mb, mo, none⟩) (N + 1) cm], .slice ca gs.length cc, .func (.func 106) #[] #[.pointer (some ⟨n + 1 + 1 + 1 + 1, 0, none⟩), .pointer (some ⟨n + 1 + 1 + 1 + 1 + 1, 0, none⟩)], .agg #[.int .i64 ((x.1 : Nat) : Int), perV m sb so sc x.1, .int .i64 (fin m gs x.1).1, .int .i64 (fin m gs x.1).2], u42, u43, u44, u45, u46, u47, u48, u49, u50, u51, u52, u53, u54, u55, u56, u57, u58, u59, u60, u61, u62, u63, u64, u65, u66, u67, u68, u69, u70, u71, u72, u73, u74, u75, u76, u77, u78, u79, u80, u81, u82, u83, u84, u85, u86, u87, u88, u89, u90, u91, u92, u93, u94, u95, u96, u97, u98, u99, u100, u101, u102, u103, u104, u105], defers := [] } ∧ n + 4 ≤ bp ∧ PerAt W bp x.1 (perV m sb so sc x.1) (fin m gs x.1).1 (fin m gs x.1).2)
      ?hAx ?assign ?body ?done ?stop
    case hI =>
      refine OwnFrom.and (Own.from (boxed_own _ _ (fun pre : List (UpTo (pN m)) => Value.int .i64 ((H0 + sumL m gs pre.length : Nat) : Int))) _) (OwnFrom.and (Own.from (boxed_own _ _ (fun pre : List (UpTo (pN m)) => Value.int .i64 ((1 + sumT m gs pre.length : Nat) : Int))) _) (OwnFrom.and (Own.from (own_heap _ _ _) _) (OwnFrom.and (Own.from (own_heap _ _ _) _) (ownFrom_below (by rw [HNW.out]; exact Nat.le_refl _) (by omega)))))
    case hIx => exact fun _ _ _ _ hs _ _ => hs
    case h0 => exact ⟨g2, g3, g0, g1, g7⟩
    case hAx =>
      rintro x a' _ X Y row ⟨bp, he, hle, hp⟩ hg hr
      exact ⟨bp, he, hle, (own_heap (β := Unit) bp _ _) () X Y row hp hg (fun r e => (hr r e).2)⟩
    case assign =>
      rintro lo pre x W K ⟨i1, i2, i3, i4, i5⟩ hK
      have hsz := i2.lt
      have HK := Lib.hid hK
      clear hK
      simp only [encP, perV]
      gi_wp2
      refine HK.out _ _ ((KeepsOthers.alloc W _).from _) ⟨fun cs h => heap_keep (bAlloc (Below.refl _ _) _) h, fun v h => heap_keep (bAlloc (Below.refl _ _) _) h, (Below.refl n W).alloc (by omega) _⟩ ⟨i1.alloc _, i2.alloc _, heap_keep (bAlloc (Below.refl _ _) _) i3, heap_keep (bAlloc (Below.refl _ _) _) i4, i5.alloc (by omega) _⟩ ⟨W.heap.size, rfl, ?_, World.alloc_heap_new W _⟩
      omega
    case body =>
      rintro lo pre x a' W ⟨i1, i2, i3, i4, i5⟩ ⟨bp, rfl, hle, hp⟩ hpre
      obtain ⟨hx, hxN⟩ := pre_at hpre
      obtain ⟨x, hxl⟩ := x
      simp only at hx hp ⊢
      subst hx
      have hfa := HF.out.at hxN
      rw [hfa.1, hfa.2.1] at hp
      have hsl := sumL_le HF.out pre.length (by omega)
      have hSL := Lib.hid (show sumL m gs (pre.length + 1) = sumL m gs pre.length + fL m gs pre.length * fT m gs pre.length from rfl)
      have hST := Lib.hid (show sumT m gs (pre.length + 1) = sumT m gs pre.length + fT m gs pre.length from rfl)
      have hlt : fL m gs pre.length * fT m gs pre.length ≤ 2000000 * 1000000 := Nat.mul_le_mul hfa.2.2.2.1 hfa.2.2.2.2
      have hNb : pN m ≤ 100000 := by have := HM.out.many; unfold pN; omega
      obtain ⟨L, hL⟩ : ∃ L, L = fL m gs pre.length := ⟨_, rfl⟩
      obtain ⟨T, hT⟩ : ∃ T, T = fT m gs pre.length := ⟨_, rfl⟩
      obtain ⟨sl, hsl'⟩ : ∃ sl, sl = sumL m gs pre.length := ⟨_, rfl⟩
      obtain ⟨st, hst'⟩ : ∃ st, st = sumT m gs pre.length := ⟨_, rfl⟩
      rw [← hL, ← hT] at hSL hlt hp
      rw [← hT] at hST
      rw [← hsl'] at hSL hsl i1
      rw [← hst'] at hST hsl i2
      obtain ⟨p, hpe⟩ : ∃ p, p = L * T := ⟨_, rfl⟩
      rw [← hpe] at hSL hlt
      have hsl2 : sl ≤ 2000000000000 * 100000 := by omega
      have hst2 : st ≤ 1000000 * 100000 := by omega
      have hTb : T ≤ 1000000 := by rw [hT]; exact hfa.2.2.2.2
      have q3 : IntKind.i64.wrap ((L : Int) * (T : Int)) = (p : Int) := by rw [← Int.natCast_mul, ← hpe]; exact IntWalk.i64_in _ (by omega)
      have q4 : IntKind.i64.wrap (((H0 + sl : Nat) : Int) + (p : Int)) = ((H0 + (sl + p) : Nat) : Int) := by rw [show ((H0 + sl : Nat) : Int) + (p : Int) = ((H0 + (sl + p) : Nat) : Int) by omega]; exact IntWalk.i64_in _ (by omega)
      have q5 : IntKind.i64.wrap (((1 + st : Nat) : Int) + (T : Int)) = ((1 + (st + T) : Nat) : Int) := by rw [show ((1 + st : Nat) : Int) + (T : Int) = ((1 + (st + T) : Nat) : Int) by omega]; exact IntWalk.i64_in _ (by omega)
      obtain ⟨v1, hv1⟩ : ∃ v1, v1 = H0 + sl := ⟨_, rfl⟩
      obtain ⟨v2, hv2⟩ : ∃ v2, v2 = 1 + st := ⟨_, rfl⟩
      obtain ⟨y1, hy1⟩ : ∃ y1, y1 = H0 + (sl + p) := ⟨_, rfl⟩
      obtain ⟨y2, hy2⟩ : ∃ y2, y2 = 1 + (st + T) := ⟨_, rfl⟩
      rw [← hv1] at q4 i1
      rw [← hv2] at q5 i2
      rw [← hy1] at q4
      rw [← hy2] at q5
      have HY1 := Lib.hid hy1
      have HY2 := Lib.hid hy2
      clear hv1 hv2 hy1 hy2 hpe hL hT hsl' hst' hlt hsl hfa
      have c1 := i1.cell
      have c2 := i2.cell
      have f1 := i1.frozen
      have f2 := i2.frozen
      have l1 := i1.lt
      have l2 := i2.lt
      have p2 := hp.c2
      have p3 := hp.c3
      have lp := hp.lt
      have n1 : ¬ bp = n + 1 + 1 := by omega
      have n2 : ¬ bp = n + 1 + 1 + 1 := by omega
      have I1 := Lib.hid i1
      have I2 := Lib.hid i2
      have I3 := Lib.hid i3
      have I4 := Lib.hid i4
      have I5 := Lib.hid i5
      clear i1 i2 i3 i4 i5 hp
      gi_wp2
      have hs2 : ∀ k, k ≠ n + 1 + 1 → k ≠ n + 1 + 1 + 1 → ((W.setCell ⟨n + 1 + 1, 0, none⟩ (.int .i64 (y1 : Int))).setCell ⟨n + 1 + 1 + 1, 0, none⟩ (.int .i64 (y2 : Int))).heap[k]? = W.heap[k]? := fun k h h' => (Below.heap_setCell _ _ _ k h').trans (Below.heap_setCell _ _ _ k h)
      refine ⟨((KeepsOthers.setCell _ _ _).trans (KeepsOthers.setCell _ _ _)).from _, ⟨fun cs h => (hs2 _ (by omega) (by omega)).trans h, fun v h => (hs2 _ (by omega) (by omega)).trans h, ((Below.refl n W).setCell (p := ⟨n + 1 + 1, 0, none⟩) (show n ≤ n + 1 + 1 by omega) _).setCell (p := ⟨n + 1 + 1 + 1, 0, none⟩) (show n ≤ n + 1 + 1 + 1 by omega) _⟩, ?_, ?_, (hs2 _ (by omega) (by omega)).trans I3.out, (hs2 _ (by omega) (by omega)).trans I4.out, (I5.out.setCell (p := ⟨n + 1 + 1, 0, none⟩) (show n ≤ n + 1 + 1 by omega) _).setCell (p := ⟨n + 1 + 1 + 1, 0, none⟩) (show n ≤ n + 1 + 1 + 1 by omega) _⟩
      · rw [List.length_append, List.length_singleton, hSL.out, ← HY1.out]
        exact (I1.out.set _).other (by omega) _
      · rw [List.length_append, List.length_singleton, hST.out, ← HY2.out]
        exact (I2.out.other (by omega) _).set _
    case done =>
      rintro D W hD ⟨i1, i2, i3, i4, i5⟩ hK
      rw [upL_length] at i1 i2
      have hsl := sumL_le HF.out (pN m) (Nat.le_refl _)
      have hNb : pN m ≤ 100000 := by have := HM.out.many; unfold pN; omega
      obtain ⟨sl, hsl'⟩ : ∃ sl, sl = sumL m gs (pN m) := ⟨_, rfl⟩
      obtain ⟨st, hst'⟩ : ∃ st, st = sumT m gs (pN m) := ⟨_, rfl⟩
      rw [← hsl'] at hsl i1
      rw [← hst'] at hsl i2
      have HSL := Lib.hid hsl'
      have HST := Lib.hid hst'
      obtain ⟨T, hT⟩ : ∃ T, T = H0 + sl := ⟨_, rfl⟩
      obtain ⟨C, hC⟩ : ∃ C, C = 1 + st := ⟨_, rfl⟩
      have hCT : C ≤ T + 1 := by omega
      have hTb : T ≤ 3000000000000000000 := by omega
      rw [← hT] at i1
      rw [← hC] at i2
      have HT := Lib.hid hT
      have HCE := Lib.hid hC
      have HK := Lib.hid hK
      have I1 := Lib.hid i1
      have I2 := Lib.hid i2
      have I3 := Lib.hid i3
      have I4 := Lib.hid i4
      have I5 := Lib.hid i5
      have c1 := i1.cell
      have l1 := i1.lt
      clear hsl hsl' hst' hT hC hK i1 i2 i3 i4 i5
      by_cases hlong : (100000 : Int) < (T : Int)
      · have r0 : W.cell? ⟨n + 1, 0, none⟩ = some (.slice none 0 0) := by simp [World.cell?, I4.out]
        have r1 : W.cell? ⟨n + 1, 1, none⟩ = some (.slice none 0 0) := by simp [World.cell?, I4.out]
        have rf : ∀ o, W.frozen? ⟨n + 1, o, none⟩ = false := fun o => by simp [World.frozen?, I4.out]
        have rf0 := rf 0
        have rf1 := rf 1
        clear rf
        gi_wp2
        have hKD : ((W.setCell ⟨n + 1, 0, none⟩ (.slice none 0 0)).setCell ⟨n + 1, 1, none⟩ (.slice none 0 0)).heap[D]? = some (.deferred (some [])) := (Below.heap_setCell _ _ _ D (show D ≠ n + 1 by omega)).trans ((Below.heap_setCell _ _ _ D (show D ≠ n + 1 by omega)).trans HK.out)
        refine ⟨by simp, .inl ⟨_, _, rfl, run_takeDeferred hKD, ?_⟩⟩
        have hr1 : ((W.setCell ⟨n + 1, 0, none⟩ (.slice none 0 0)).setCell ⟨n + 1, 1, none⟩ (.slice none 0 0)).heap[n + 1]? = some (.cells #[.slice none 0 0, .slice none 0 0] 24 (0, 0)) := set2_1 (set2_0 I4.out _) _
        have hB : Below n w (((W.setCell ⟨n + 1, 0, none⟩ (.slice none 0 0)).setCell ⟨n + 1, 1, none⟩ (.slice none 0 0)).putObj D (.deferred none)) := ((I5.out.setCell (p := ⟨n + 1, 0, none⟩) (show n ≤ n + 1 by omega) _).setCell (p := ⟨n + 1, 1, none⟩) (show n ≤ n + 1 by omega) _).trans (KpP.putObj (n := n) (pm := 0) (pc := 0) _ D _ _ (by omega) hKD rfl).low
        refine ⟨_, results_row_tmp (P := Try.prog) rfl _ _ (n + 1) 24 _ (0, 0) _ rfl ((World.putObj_heap_other (show n + 1 ≠ D by omega)).trans hr1) Try.underlying24 rfl (by kernel_rfl), .inl ⟨?_, rfl⟩, by rw [HNW.out]; exact hB⟩
        unfold rebLen
        rw [← HA.out, ← HBE.out, ← HSE.out, ← HSL.out, ← HH0.out, ← HT.out]
        omega
      · have hmk := makeI T (by omega)
        have hmk0 := makeI0 C (by omega)
        have c2 := I2.out.cell
        have l2 := I2.out.lt
        obtain ⟨wz, hwz⟩ : ∃ wz, wz = W.heap.size := ⟨_, rfl⟩
        have HWZ := Lib.hid hwz
        clear hwz
        have l1' : n + 1 + 1 < W.heap.size + 1 := by omega
        have l2' : n + 1 + 1 + 1 < W.heap.size + 1 := by omega
        gi_wp2
        gi_cut [11] from 15 (fun s11 wc => ∃ rb g q, s11 = .pointer (some ⟨rb, 0, none⟩) ∧ Hid (wc.heap[rb]? = some (.cells #[.slice (some ⟨g, 0, none⟩) T T, .slice (some ⟨q, 0, none⟩) 0 C] 24 (0, 0))) ∧ Hid (wc.rowIs g 3 T (fun _ => .int .i64 0)) ∧ Hid (wc.ownsRow n 3 1 (.slice (some ⟨q, 0, none⟩) 0 C) 0 []) ∧ Hid (Below wz W wc) ∧ Hid (wz ≤ rb ∧ wz ≤ g ∧ wz ≤ q ∧ g ≠ q ∧ rb ≠ g ∧ rb ≠ q))
        case first =>
          rename_i J K' hJ hK'
          refine (wpIn_wide (n := 6)).2 ?_
          go_region
          all_goals
            refine hK' _ _ (Met.intro (hJ _ _ ?_))
            (repeat apply Exists.intro)
            refine ⟨?rel, rfl⟩
            case rel =>
              have hwz := HWZ.out
              have hn := I5.out.size
              have hnw := HNW.out
              first
                | (refine ⟨W.heap.size, W.heap.size + 1, W.heap.size + 1 + 1, rfl, endRd hwz ?_ ?_ ?_ ?_ ?_ ?_ ?_⟩ <;> first | omega | (rw [hwz]; exact bAlloc (bAlloc (bAlloc (Below.refl _ _) _) _) _) | ((repeat (first | exact heap_at (by simp) | refine heap_past (by first | (simp; done) | (simp; omega)) ?_)); done) | (unfold maxLen; omega))
                | (refine ⟨W.heap.size, W.heap.size + 1 + 1, W.heap.size + 1, rfl, endRd hwz ?_ ?_ ?_ ?_ ?_ ?_ ?_⟩ <;> first | omega | (rw [hwz]; exact bAlloc (bAlloc (bAlloc (Below.refl _ _) _) _) _) | ((repeat (first | exact heap_at (by simp) | refine heap_past (by first | (simp; done) | (simp; omega)) ?_)); done) | (unfold maxLen; omega))
                | (refine ⟨W.heap.size + 1, W.heap.size, W.heap.size + 1 + 1, rfl, endRd hwz ?_ ?_ ?_ ?_ ?_ ?_ ?_⟩ <;> first | omega | (rw [hwz]; exact bAlloc (bAlloc (bAlloc (Below.refl _ _) _) _) _) | ((repeat (first | exact heap_at (by simp) | refine heap_past (by first | (simp; done) | (simp; omega)) ?_)); done) | (unfold maxLen; omega))
                | (refine ⟨W.heap.size + 1, W.heap.size + 1 + 1, W.heap.size, rfl, endRd hwz ?_ ?_ ?_ ?_ ?_ ?_ ?_⟩ <;> first | omega | (rw [hwz]; exact bAlloc (bAlloc (bAlloc (Below.refl _ _) _) _) _) | ((repeat (first | exact heap_at (by simp) | refine heap_past (by first | (simp; done) | (simp; omega)) ?_)); done) | (unfold maxLen; omega))
                | (refine ⟨W.heap.size + 1 + 1, W.heap.size, W.heap.size + 1, rfl, endRd hwz ?_ ?_ ?_ ?_ ?_ ?_ ?_⟩ <;> first | omega | (rw [hwz]; exact bAlloc (bAlloc (bAlloc (Below.refl _ _) _) _) _) | ((repeat (first | exact heap_at (by simp) | refine heap_past (by first | (simp; done) | (simp; omega)) ?_)); done) | (unfold maxLen; omega))
                | (refine ⟨W.heap.size + 1 + 1, W.heap.size + 1, W.heap.size, rfl, endRd hwz ?_ ?_ ?_ ?_ ?_ ?_ ?_⟩ <;> first | omega | (rw [hwz]; exact bAlloc (bAlloc (bAlloc (Below.refl _ _) _) _) _) | ((repeat (first | exact heap_at (by simp) | refine heap_past (by first | (simp; done) | (simp; omega)) ?_)); done) | (unfold maxLen; omega))
                | fail
        case rest =>
          obtain ⟨rb, g, q, rfl, HRB, HG, HQ, HBW, HD⟩ := hcut
          have hd := HD.out
          have hwz := HWZ.out
          have hwn : n + 1 + 1 + 1 < wz := by rw [hwz]; exact l2
          have hDz : D < wz := by rw [hwz]; exact (Array.getElem?_eq_some_iff.1 HK.out).1
          have HRC := Lib.hid ((HBW.out.block (n + 1) (by omega)).trans I4.out)
          have HMC := Lib.hid ((HBW.out.block n (by omega)).trans I3.out)
          have HKC := Lib.hid ((HBW.out.block D hDz).trans HK.out)
          have HBC := Lib.hid (I5.out.trans (HBW.out.mono (by omega)))
          have hWc := HBW.out.size
          have hgl := HG.out.lt
          clear c1 c2 l1 l2 l1' l2' hmk hmk0
          have e0 := (mcell HRB.out).1
          have lr := cell_lt e0
          have ec0 := (mcell HMC.out).1
          have ec1 := (mcell HMC.out).2
          have lc := cell_lt ec0
          have hTN : T ≤ 100000 := by omega
          have haT : a ≤ T := by have := HT.out; have := HH0.out; omega
          have hhl : (headL m).length = a := by unfold headL; rw [← HA.out, List.length_take, ← HSE.out]; omega
          have HHL := Lib.hid hhl
          obtain ⟨cur, hg1, hcl, hcg⟩ := row_cells HG.out
          have HG1 := Lib.hid hg1
          have HCL := Lib.hid hcl
          have HCG := Lib.hid hcg
          have HXS : Hid ((intV (headL m)).length = Nat.min a T) := Lib.hid (by rw [intV_len, hhl]; show a = min a T; omega)
          have HXN : Hid (0 < (intV (headL m)).length → some (⟨g, 0, none⟩ : Addr) = some ⟨g, 0, none⟩ ∧ ∃ ad : Addr, some (⟨sb, so, none⟩ : Addr) = some ad ∧ ∀ (j : Nat) (v : Value), (intV (headL m))[j]? = some v → wc.cell? (ad.add j) = some v) := Lib.hid (fun h => by
            refine ⟨rfl, _, rfl, ?_⟩
            rw [intV_len, hhl] at h
            have hp := (HS.out.keep IntAt.stable (by rw [HNW.out]; exact HBC.out)).part 0 a sc (by rw [← HSE.out]; omega) (by omega)
            rw [List.drop_zero, Nat.add_zero] at hp
            obtain ⟨b', o', he, hf⟩ := hp.at (by intro e; have := congrArg List.length e; rw [List.length_take, ← HSE.out] at this; simp at this; omega)
            obtain ⟨rfl, rfl⟩ : sb = b' ∧ so = o' := by simpa using he
            unfold headL
            rw [← HA.out]
            exact ints_news hf)
          have HFT : Hid (0 + (intV (headL m)).length ≤ cur.length) := Lib.hid (by rw [hcl, intV_len, hhl]; omega)
          clear hg1 hcl hcg hhl
          gi_upto_region 10 with (fail)
          refine (wpIn_wide (n := 6)).2 ?_
          go_wp2_with (with_reducible refine wpList_copy_grown (o := ⟨some 64, _, _, _, _, _⟩) rfl (.tmp 62) (.tmp 63) 22 22 rfl 3 Try.underlying22 (by kernel_rfl) _ _ _ _ _ _ rfl rfl g 0 cur 3 HG1.out (intV (headL m)) HXS.out HXN.out HFT.out (ints_one _) ?_; intro w4 hg4 hb4)
          have hxl : (intV (headL m)).length = a := by rw [intV_len]; exact HHL.out
          rw [hxl]
          have HR4 := Lib.hid ((spl_row (h := fun j => .int .i64 ((headL m).getD j 0)) hg4.out HCL.out HCG.out (fun j hj => intV_get hj) (by have := HFT.out; rwa [HCL.out] at this)).congr (g := fun j => .int .i64 ((headL m).getD j 0)) fun j _ => by
            rw [hxl]
            by_cases hj : 0 ≤ j ∧ j < 0 + a
            · rw [if_pos hj, Nat.sub_zero]
            · rw [if_neg hj, List.getD_eq_getElem?_getD, List.getElem?_eq_none (by rw [HHL.out]; omega)]; rfl)
          have hrg : rb ≠ g := hd.2.2.2.2.1
          have h41 := gb_heap hb4 HRB.out hrg
          have h42 := gb_heap hb4 HRC.out (by omega)
          have h43 := gb_heap hb4 HKC.out (by omega)
          have h44 := gb_heap hb4 HMC.out (by omega)
          have h45 := HBC.out.trans (gb_low hb4 (by omega) (by omega))
          have h46 := HQ.out.kept hb4 (.inr (by simp [Value.ownBlock]; omega))
          have h47 := hb4.size
          obtain ⟨atb, hatb⟩ : ∃ atb, atb = w4.heap.size := ⟨_, rfl⟩
          rw [← hatb]
          have k0 : (w4.alloc (.cells #[.int .i64 (a : Int)] 3)).heap.size = atb + 1 := by rw [hatb]; simp
          have b0 : Boxed (w4.alloc (.cells #[.int .i64 (a : Int)] 3)) atb 3 (.int .i64 (a : Int)) := by rw [hatb]; exact Boxed.new _ _ _
          have b1 := heap_past (o := .cells #[.int .i64 (a : Int)] 3) (Array.getElem?_eq_some_iff.1 h41).1 h41
          have b2 := heap_past (o := .cells #[.int .i64 (a : Int)] 3) (Array.getElem?_eq_some_iff.1 h42).1 h42
          have b3 := heap_past (o := .cells #[.int .i64 (a : Int)] 3) (Array.getElem?_eq_some_iff.1 h43).1 h43
          have b4 := heap_past (o := .cells #[.int .i64 (a : Int)] 3) (Array.getElem?_eq_some_iff.1 h44).1 h44
          have b5 : Below n w (w4.alloc (.cells #[.int .i64 (a : Int)] 3)) := h45.alloc (by omega) _
          have b6 := h46.alloc (.cells #[.int .i64 (a : Int)] 3)
          have b7 := HR4.out.alloc (.cells #[.int .i64 (a : Int)] 3)
          have hlt : rb < atb ∧ g < atb ∧ q < atb ∧ D < atb ∧ n + 1 < atb := by
            have l1 := (Array.getElem?_eq_some_iff.1 h41).1
            have l3 := (Array.getElem?_eq_some_iff.1 h43).1
            have l4 := HR4.out.lt
            have l5 : q < w4.heap.size := by
              rcases h46.2 with ⟨e, _⟩ | ⟨g', c', cur', e, _, hb, _⟩
              · cases e
              · cases e; exact (Array.getElem?_eq_some_iff.1 hb).1
            omega
          generalize hW5 : w4.alloc (.cells #[.int .i64 (a : Int)] 3) = W5 at *
          clear hW5 h41 h42 h43 h44 h45 h46 h47 hb4 hg4 HR4 hatb HG1 HCL HCG HXS HXN HFT hxl e0 lr ec0 ec1 lc
          clear w4
          have e0 := (mcell b4).1
          have e1 := (mcell b4).2
          have l0 := cell_lt e0
          gi_wp2_with (refine ⟨trivial, ?_⟩; gi_at_call 89; refine (callsIn_wide.2 (HPE.out _)).mono ?_; rintro e w1 ⟨rfl, rfl⟩)
          generalize hW7 : World.alloc (World.alloc W5 _) _ = W7
          have v1 : W7.heap.size = atb + 1 + 1 + 1 := by rw [← hW7]; simp [k0]
          have v2 : W7.heap[atb + 1]? = some (.cells #[.slice (some ⟨sb, so, none⟩) S sc, .slice (some ⟨mb, mo, none⟩) (N + 1) cm] 24 (0, 0)) := by rw [← hW7]; exact heap_past (by simp [k0]) (heap_at k0)
          have v3 : Boxed W7 (atb + 1 + 1) 88 (.slice ca gs.length cc) := by rw [← hW7]; exact heap_at (by simp [k0])
          have p1 : ∀ (j : Nat) (o : Obj), W5.heap[j]? = some o → W7.heap[j]? = some o := fun j o h => by rw [← hW7]; exact heap_past (by have := (Array.getElem?_eq_some_iff.1 h).1; simp; omega) (heap_past (Array.getElem?_eq_some_iff.1 h).1 h)
          have v4 : Below n w W7 := by rw [← hW7]; exact (b5.alloc (by omega) _).alloc (by simp; omega) _
          have v5 : W7.ownsRow n 3 1 (.slice (some ⟨q, 0, none⟩) 0 C) 0 [] := by rw [← hW7]; exact (b6.alloc _).alloc _
          have v6 : W7.rowIs g 3 T (fun j => .int .i64 ((headL m).getD j 0)) := by rw [← hW7]; exact (b7.alloc _).alloc _
          have w0 := p1 _ _ b0
          have w1 := p1 _ _ b1
          have w2 := p1 _ _ b2
          have w3 := p1 _ _ b3
          clear hW7 p1 b0 b1 b2 b3 b4 b5 b6 b7 e0 e1 l0 k0
          clear W5
          have V2 := Lib.hid v2
          have V3 := Lib.hid v3
          have hsays2 : SaysK 5 Try.prog 106 #[.pointer (some ⟨atb + 1, 0, none⟩), .pointer (some ⟨atb + 1 + 1, 0, none⟩)] (encP m gs sb so sc) (KpP n (atb + 1) (atb + 1 + 1)) (upL (pN m)) W7 := by
            refine periods_says 5 m gs n (atb + 1) (atb + 1 + 1) sb so sc cm (some ⟨mb, mo, none⟩) (.slice ca gs.length cc) w W7 HNW.out HM.out (by rw [← HSE.out]; exact hcs) (by rw [HN1.out]; exact HMK.out) (by have := HC.out; rwa [HNW.out] at this) hgs (by rw [HN1.out, ← HSE.out]; exact V2.out) V3.out v4 HF.out
          refine wpIn_range_kept (P := Try.prog) (n := 6) (by omega) (gf := 106) (lb := #[.pointer (some ⟨atb + 1, 0, none⟩), .pointer (some ⟨atb + 1 + 1, 0, none⟩)]) rfl (enters_of Try.func106 (by kernel_rfl) rfl)
            hsays2 (fun h k => h.trans k) (fun W lo o o' hlo ho hc _ => KpP.putObj W lo o o' (by omega) ho hc) (Below.refl _ _) (fun _ => rfl)
            (fun pre W => (∃ mv, W.heap[rb]? = some (.cells #[.slice (some ⟨g, 0, none⟩) T T, mv] 24 (0, 0)) ∧ W.ownsRow n 3 1 mv (sumT m gs pre.length) (intV (sts a (saidTo m gs pre.length))) ∧ (mv.ownBlock ≠ some g ∧ mv.ownBlock ≠ some atb)) ∧ Boxed W atb 3 (.int .i64 ((a + sumL m gs pre.length : Nat) : Int)) ∧ W.rowIs g 3 T (fun j => .int .i64 ((headL m ++ (saidTo m gs pre.length).flatten).getD j 0)) ∧ W.heap[n + 1]? = some (.cells #[.slice none 0 0, .slice none 0 0] 24 (0, 0)) ∧ W.heap[D]? = some (.deferred (some [])) ∧ Below n w W)
            (fun _ _ => False)
            ?hI2 ?hIx2 ?h02
            (fun x a' W => ∃ bp, a' = { tmps := #[.agg #[.slice (some ⟨sb, so, none⟩) S sc, .slice (some ⟨mb, mo, none⟩) (N + 1) cm], .slice ca gs.length cc, .pointer (some ⟨n, 0, none⟩), undef, .pointer (some ⟨n + 1, 0, none⟩), .int .i64 0, .slice (some ⟨sb, so, none⟩) a sc, .slice ta (S - b) (sc - b), .pointer (some ⟨n + 1 + 1, 0, none⟩), .pointer (some ⟨n + 1 + 1 + 1, 0, none⟩), undef, .pointer (some ⟨rb, 0, none⟩), .pointer (some ⟨atb, 0, none⟩), .pointer (some ⟨bp, 0, none⟩), undef, u15, u16, u17, u18, u19, u20, u21, u22, u23, u24, u25, u26, u27, u28, u29, u30, u31, u32, u33, u34, u35, u36, u37, u38, u39, u40, u41, u42, u43, u44, u45, u46, u47, u48, u49, u50, u51, u52, u53, u54, u55, u56, u57, u58, u59, u60, .pointer (some ⟨rb, 0, none⟩), .slice (some ⟨g, 0, none⟩) T T, .slice (some ⟨sb, so, none⟩) a sc, .int .i64 (a : Int), .agg #[.slice (some ⟨sb, so, none⟩) S sc, .slice (some ⟨mb, mo, none⟩) (N + 1) cm], .slice ca gs.length cc, .func (.func 106) #[] #[.pointer (some ⟨atb + 1, 0, none⟩), .pointer (some ⟨atb + 1 + 1, 0, none⟩)], .agg #[.int .i64 ((x.1 : Nat) : Int), perV m sb so sc x.1, .int .i64 (fin m gs x.1).1, .int .i64 (fin m gs x.1).2], u69, u70, u71, u72, u73, u74, u75, u76, u77, u78, u79, u80, u81, u82, u83, u84, u85, u86, u87, u88, u89, u90, u91, u92, u93, u94, u95, u96, u97, u98, u99, u100, u101, u102, u103, u104, u105], defers := [] } ∧ atb + 1 ≤ bp ∧ PerAt W bp x.1 (perV m sb so sc x.1) (fin m gs x.1).1 (fin m gs x.1).2)
            ?hAx2 ?assign2 ?body2 ?done2 ?stop2
          case hI2 =>
            refine OwnFrom.and (Own.from (own2 _ _ _ _ _ _ (fun pre : List (UpTo (pN m)) => sumT m gs pre.length) (fun pre => intV (sts a (saidTo m gs pre.length))) (fun _ mv => mv.ownBlock ≠ some g ∧ mv.ownBlock ≠ some atb)) _) (OwnFrom.and (Own.from (boxed_own _ _ (fun pre : List (UpTo (pN m)) => Value.int .i64 ((a + sumL m gs pre.length : Nat) : Int))) _) (OwnFrom.and (Own.from (own_row _ _ _ (fun (pre : List (UpTo (pN m))) j => Value.int .i64 ((headL m ++ (saidTo m gs pre.length).flatten).getD j 0))) _) (OwnFrom.and (Own.from (own_heap _ _ _) _) (OwnFrom.and (own_low (by omega)) (ownFrom_below (by rw [HNW.out]; exact Nat.le_refl _) (by omega))))))
          case hIx2 => exact fun _ _ _ _ hs _ _ => hs
          case h02 =>
            refine ⟨⟨_, w1, v5, by simp [Value.ownBlock]; omega⟩, w0, v6.congr fun j _ => ?_, w2, w3, v4⟩
            simp [saidTo]
          case hAx2 =>
            rintro x a' _ X Y row ⟨bp, he, hle, hp⟩ hg hr
            exact ⟨bp, he, hle, (own_heap (β := Unit) bp _ _) () X Y row hp hg (fun r e => (hr r e).2)⟩
          case assign2 =>
            rintro lo pre x W' K i1 hK
            have HK' := Lib.hid hK
            clear hK
            have hsz : atb < W'.heap.size := i1.2.1.lt
            have I1 := Lib.hid i1
            clear i1
            simp only [encP, perV]
            gi_wp2
            obtain ⟨⟨mv, j1, j2, j3⟩, j4, j5, j6, j7, j8⟩ := I1.out
            refine HK'.out _ _ ((KeepsOthers.alloc W' _).from _) ⟨fun cs h => heap_keep (bAlloc (Below.refl _ _) _) h, fun v h => heap_keep (bAlloc (Below.refl _ _) _) h, (Below.refl n W').alloc (by omega) _⟩ ⟨⟨mv, heap_keep (bAlloc (Below.refl _ _) _) j1, j2.alloc _, j3⟩, j4.alloc _, j5.alloc _, heap_keep (bAlloc (Below.refl _ _) _) j6, heap_keep (bAlloc (Below.refl _ _) _) j7, j8.alloc (by omega) _⟩ ⟨W'.heap.size, rfl, ?_, World.alloc_heap_new W' _⟩
            omega
          case body2 =>
            rintro lo pre x a' W' ⟨⟨mv0, i1, i2, i3⟩, i4, i5, i6, i7, i8⟩ ⟨bp, rfl, hle, hp⟩ hpre
            obtain ⟨hx, hxN⟩ := pre_at hpre
            obtain ⟨x, hxl⟩ := x
            simp only at hx hp ⊢
            subst hx
            have hfa := HF.out.at hxN
            rw [hfa.1, hfa.2.1] at hp
            have hmono := sumL_mono m gs (show pre.length + 1 ≤ pN m by omega)
            have hmonoT := sumT_mono m gs (show pre.length + 1 ≤ pN m by omega)
            rw [← HSL.out] at hmono
            rw [← HST.out] at hmonoT
            have hss : sumL m gs (pre.length + 1) = sumL m gs pre.length + fL m gs pre.length * fT m gs pre.length := rfl
            have hst' : sumT m gs (pre.length + 1) = sumT m gs pre.length + fT m gs pre.length := rfl
            rw [hss] at hmono
            rw [hst'] at hmonoT
            have hfs := saidTo_succ m gs pre.length
            have hfl := saidTo_flat m gs pre.length
            have hper : (per m pre.length).length = pL m pre.length := per_len HM.out hxN
            have hpl1 : 1 ≤ pL m pre.length := by have := HM.out.lt hxN; unfold pL; omega
            have hpl2 : pL m pre.length ≤ 100000 := by rw [← hper]; have := HM.out.len; unfold per; rw [List.length_take, List.length_drop]; omega
            obtain ⟨L, hL⟩ : ∃ L, L = fL m gs pre.length := ⟨_, rfl⟩
            obtain ⟨Tk, hTk⟩ : ∃ Tk, Tk = fT m gs pre.length := ⟨_, rfl⟩
            obtain ⟨sl, hsl'⟩ : ∃ sl, sl = sumL m gs pre.length := ⟨_, rfl⟩
            obtain ⟨st, hst2⟩ : ∃ st, st = sumT m gs pre.length := ⟨_, rfl⟩
            obtain ⟨ps, hps⟩ : ∃ ps, ps = saidTo m gs pre.length := ⟨_, rfl⟩
            obtain ⟨pp, hpp⟩ : ∃ pp, pp = perL (per m pre.length) L := ⟨_, rfl⟩
            have hppl : pp.length = L := by rw [hpp, perL_len]
            rw [← hL, ← hTk] at hmono hp hss
            rw [← hTk] at hmonoT hst'
            rw [← hL, ← hTk, ← hps, ← hpp] at hfs
            rw [← hps, ← hsl'] at hfl
            rw [← hsl'] at hmono i4 hss
            rw [← hst2] at hmonoT i2 hst'
            rw [← hps] at i2 i5
            have hLb : 1 ≤ L ∧ L ≤ 2000000 := by rw [hL]; exact ⟨hfa.2.2.1, hfa.2.2.2.1⟩
            have HSS := Lib.hid hss
            have HST2 := Lib.hid hst'
            have HFS := Lib.hid hfs
            have HFL := Lib.hid hfl
            have HPPL := Lib.hid hppl
            have HPP := Lib.hid hpp
            have HMO := Lib.hid (show a + (sl + L * Tk) ≤ T by have := HT.out; have := HH0.out; omega)
            have HMOT := Lib.hid (show st + Tk ≤ 100000 by have := HCE.out; omega)
            clear hss hst' hfs hfl hppl hpp hL hTk hsl' hst2 hps hmono hmonoT hfa
            have p3 := hp.c3
            have lp := hp.lt
            have HP := Lib.hid hp
            have I1 := Lib.hid i1
            have I2 := Lib.hid i2
            have I3 := Lib.hid i3
            have I4 := Lib.hid i4
            have I5 := Lib.hid i5
            have I6 := Lib.hid i6
            have I7 := Lib.hid i7
            have I8 := Lib.hid i8
            clear i1 i2 i3 i4 i5 i6 i7 i8 hp
            gi_wp2
            obtain ⟨wo, hwo⟩ : ∃ wo, wo = W' := ⟨_, rfl⟩
            gi_loopw [71] (fun jv wr => ∃ (j : Nat) (mv : Value), j ≤ Tk ∧ jv = .int .i64 j ∧ Hid (wr.heap[rb]? = some (.cells #[.slice (some ⟨g, 0, none⟩) T T, mv] 24 (0, 0))) ∧ Hid (wr.ownsRow n 3 1 mv (st + j) (intV (sts a (ps ++ List.replicate j pp)))) ∧ Hid (mv.ownBlock ≠ some g ∧ mv.ownBlock ≠ some atb) ∧ Hid (Boxed wr atb 3 (.int .i64 ((a + (sl + j * L) : Nat) : Int))) ∧ Hid (wr.rowIs g 3 T (fun i => .int .i64 ((headL m ++ (ps ++ List.replicate j pp).flatten).getD i 0))) ∧ Hid (wr.heap[n + 1]? = some (.cells #[.slice none 0 0, .slice none 0 0] 24 (0, 0))) ∧ Hid (wr.heap[D]? = some (.deferred (some []))) ∧ Hid (PerAt wr bp pre.length (perV m sb so sc pre.length) L Tk) ∧ Hid (KeepsOthers W' wr) ∧ Hid (KpP n (atb + 1) (atb + 1 + 1) W' wr) ∧ Hid (Below n w wr)) (fun jv _ => Tk - (intOf jv).toNat)
            case atStart => exact ⟨0, mv0, Nat.zero_le _, rfl, I1, by simpa using I2, I3, by simpa using I4, by simpa using I5, I6, I7, HP, Lib.hid (KeepsOthers.refl _), Lib.hid (KpP.refl _ _ _ _), I8⟩
            case round =>
              obtain ⟨j, mv, hj, rfl, J1, J2, J3, J4, J5, J6, J7, J8, J9, J10, J11⟩ := hrel
              by_cases hjl : j < Tk
              · have hjL : j * L + L ≤ Tk * L := by
                  have := Nat.mul_le_mul_right L (show j + 1 ≤ Tk by omega)
                  rwa [Nat.succ_mul] at this
                have hmo := HMO.out
                rw [Nat.mul_comm L Tk] at hmo
                obtain ⟨o, ho⟩ : ∃ o, o = a + (sl + j * L) := ⟨_, rfl⟩
                rw [← ho] at J4
                have hoL : o + L ≤ T := by omega
                have hmot := HMOT.out
                have HO := Lib.hid ho
                clear ho hmo hjL
                have c0 := (mcell J1.out).1
                have c1 := (mcell J1.out).2
                have lr := cell_lt c1
                have e4 := J4.out.cell
                have l4 := J4.out.lt
                obtain ⟨i0, hi, hz0, hz1, hz2⟩ := info_parts infoI
                have HI := Lib.hid hi
                have HN8 : Hid (n ≤ wr.heap.size) := Lib.hid (by have := J11.out.size; have := HNW.out; omega)
                clear hi
                gi_upto_region 16 with (gi_at_builtin; go_loud (refine wpListIn_append_own_at _ rfl _ _ 22 rfl n 3 i0 (.int .i64 0) 1 8 Try.underlying22 HI.out hz0 hz1 hz2 rfl (by decide) mv (st + j) _ rfl (J2.out.alloc _) ⟨wr.heap.size, 0, none⟩ 1 1 [.int .i64 (o : Int)] rfl (by rfl) (one_new _ _ _) (by simp [Value.oneCell']) (by unfold maxLen; omega) (by omega) (by have := HN8.out; simp; omega) ?_); intro v' w2 hown' hgrow _ hblk; obtain ⟨g', cap', rfl⟩ := ownsRow_succ hown'; obtain ⟨hv1, hv2, hr2, hk2, hb2⟩ := appended2 J1.out (by decide) J2.out HN8.out (by omega) hown' hgrow; have hc1 := (mcell hv1).2; have hf1 := frz hv1 1; have HU := Lib.hid (And.intro (And.intro hown' (And.intro hgrow hblk)) (And.intro hv2 (And.intro hr2 (And.intro hk2 hb2)))); clear hown' hgrow hblk hv1 hv2 hr2 hk2 hb2)
                obtain ⟨⟨hown', hgrow, hblk⟩, hv2, hr2, hk2, hb2⟩ := HU.out
                have hrn : rb ≠ atb := by omega
                have A3 : Hid ((Value.slice (some ⟨g', 0, none⟩) (st + j + 1) cap').ownBlock ≠ some g ∧ (Value.slice (some ⟨g', 0, none⟩) (st + j + 1) cap').ownBlock ≠ some atb) := Lib.hid (by
                  rcases hblk with h | h
                  · rw [h]; exact J3.out
                  · have h5 := J5.out.lt
                    have h4 := J4.out.lt
                    rw [h]
                    simp
                    omega)
                have A4 : Boxed (w2.setCell ⟨rb, 1, none⟩ (.slice (some ⟨g', 0, none⟩) (st + j + 1) cap')) atb 3 (.int .i64 (o : Int)) := past_gen hgrow J4.out J3.out.2 (by omega)
                have A5 : (w2.setCell ⟨rb, 1, none⟩ (.slice (some ⟨g', 0, none⟩) (st + j + 1) cap')).rowIs g 3 T (fun i => .int .i64 ((headL m ++ (ps ++ List.replicate j pp).flatten).getD i 0)) := by
                  obtain ⟨cur, h1, h2, h3⟩ := J5.out
                  exact ⟨cur, past_gen hgrow h1 J3.out.1 (by omega), h2, h3⟩
                have A6 := past_gen (v' := .slice (some ⟨g', 0, none⟩) (st + j + 1) cap') (B := rb) (i := 1) hgrow J6.out (own_ne J2.out J6.out (fun cs h => by cases h)) (by omega)
                have A7 := past_gen (v' := .slice (some ⟨g', 0, none⟩) (st + j + 1) cap') (B := rb) (i := 1) hgrow J7.out (own_ne J2.out J7.out (fun cs h => by cases h)) (by omega)
                have A8 : PerAt (w2.setCell ⟨rb, 1, none⟩ (.slice (some ⟨g', 0, none⟩) (st + j + 1) cap')) bp pre.length (perV m sb so sc pre.length) L Tk := past_gen (v' := .slice (some ⟨g', 0, none⟩) (st + j + 1) cap') (B := rb) (i := 1) hgrow J8.out (own_ne J2.out J8.out (fun cs h => by cases h)) (by omega)
                have A9 := J9.out.trans hk2
                have A10 : KpP n (atb + 1) (atb + 1 + 1) W' (w2.setCell ⟨rb, 1, none⟩ (.slice (some ⟨g', 0, none⟩) (st + j + 1) cap')) := J10.out.trans ⟨fun cs h => past_gen hgrow h (own_ne J2.out h (fun cs h => by cases h)) (by omega), fun v h => past_gen hgrow h (own_ne J2.out h (fun cs h => by cases h)) (by omega), hb2⟩
                have A11 := J11.out.trans hb2
                clear hown' hgrow hblk hk2 hb2 HU J1 J2 J3 J4 J5 J6 J7 J8 J9 J10 J11 hc1 hf1 c0 c1 lr e4 l4 HN8
                generalize hW3 : World.setCell w2 _ _ = W3 at *
                clear hW3
                clear w2
                have hj1 := hj
                clear hj
                have c0 := (mcell hv2).1
                have lr := cell_lt c0
                have e4 := A4.cell
                have l4 := A4.lt
                have f4 := A4.frozen
                have d0 := A8.c0
                have d1 := A8.c1
                have d2 := A8.c2
                have d3 := A8.c3
                have ld := A8.lt
                have hpv : perV m sb so sc pre.length = .slice (some ⟨sb, so + mkI m pre.length, none⟩) (pL m pre.length) (sc - mkI m pre.length) := rfl
                rw [hpv] at d1
                clear hpv
                have HPS : Hid (SliceV w (.slice (some ⟨sb, so + mkI m pre.length, none⟩) (pL m pre.length) (sc - mkI m pre.length)) 1 IntAt (per m pre.length)) := Lib.hid (by
                  have h1 := HM.out.le (i := pre.length + 1) (by have h := hxN; have h2 := HN1.out; have h3 := HNE.out; omega)
                  have h2 := HM.out.lt hxN
                  have h3 := HS.out.part (mkI m pre.length) (pL m pre.length) (sc - mkI m pre.length) (by unfold pL; omega) (by unfold pL; have := HSE.out; omega)
                  exact h3)
                have hsbn : sb < n := by
                  obtain ⟨b', o', he, hf⟩ := HPS.out.at (by intro e; rw [e] at hper; simp at hper; omega)
                  have h0 := cell_lt (hf 0 (by rw [hper]; omega))
                  obtain ⟨rfl, -⟩ : sb = b' ∧ so + mkI m pre.length = o' := by simpa using he
                  rw [HNW.out] at h0
                  exact h0
                have HWR : Hid (∀ V, V.rowIs g 3 T (fun i => .int .i64 ((headL m ++ (ps ++ List.replicate j pp).flatten).getD i 0)) → Below n w V → Calls Try.prog 90 #[.agg #[.int .i64 (pre.length : Int), .slice (some ⟨sb, so + mkI m pre.length, none⟩) (pL m pre.length) (sc - mkI m pre.length), .int .i64 (L : Int), .int .i64 (Tk : Int)], .slice (some ⟨g, o, none⟩) L L] V fun e w' => (∃ r, e = .returned r) ∧ w'.rowIs g 3 T (fun i => .int .i64 ((headL m ++ (ps ++ List.replicate (j + 1) pp).flatten).getD i 0)) ∧ V.grownBy w' (some g)) := Lib.hid (fun V hr hB => by
                  have h := write_any (per m pre.length) pre.length g o T L sb (so + mkI m pre.length) (sc - mkI m pre.length) L Tk _ V (by omega) (by omega) hLb.1 hLb.2 hoL hr (by omega) (by rw [hper]; exact HPS.out.keep IntAt.stable (by rw [HNW.out]; exact hB))
                  rw [hper] at h
                  refine h.mono fun e w' ⟨h1, h2, h3⟩ => ⟨h1, h2.congr fun i _ => ?_, h3⟩
                  have hln : (headL m ++ (ps ++ List.replicate j pp).flatten).length = o := by
                    rw [List.length_append, List.flatten_append, List.length_append, flat_rep, HHL.out, HFL.out, HPPL.out, HO.out]
                  rw [show headL m ++ (ps ++ List.replicate (j + 1) pp).flatten = (headL m ++ (ps ++ List.replicate j pp).flatten) ++ pp by rw [rep_succ]; simp [List.flatten_append], getD_app (headL m ++ (ps ++ List.replicate j pp).flatten) pp i, hln, HPPL.out]
                  by_cases hi2 : o ≤ i ∧ i < o + L
                  · rw [if_pos hi2, if_pos hi2, HPP.out, perL_get _ _ (by omega)]
                  · rw [if_neg hi2, if_neg hi2])
                have HA5 := Lib.hid A5
                have HB11 := Lib.hid A11
                have q7 : IntKind.i64.wrap ((o : Int) + (L : Int)) = (o : Int) + (L : Int) := IntWalk.i64_in _ (by omega)
                have q8 : (o : Int) ≤ (o : Int) + (L : Int) := by omega
                have q9 : (o : Int) + (L : Int) ≤ (T : Int) := by omega
                have q10 : ((o : Int) + (L : Int)).toNat = o + L := by omega
                have q11 : ¬ T = o := by omega
                clear A5 A11
                gi_upto_region 17 with (fail)
                have HCW : Hid (CallsIn (Fence.wide.inRound lo) 3 Try.prog 90 #[.agg #[.int .i64 (pre.length : Int), .slice (some ⟨sb, so + mkI m pre.length, none⟩) (pL m pre.length) (sc - mkI m pre.length), .int .i64 (L : Int), .int .i64 (Tk : Int)], .slice (some ⟨g, o, none⟩) L L] W3.drew _) := Lib.hid (CallsIn.inRound lo (callsIn_wide.2 (HWR.out W3.drew HA5.out.drew HB11.out.drew)))
                clear HWR
                refine region_tail_round 7 (by kernel_rfl) (by kernel_rfl) (by kernel_rfl) ?_
                simp only [List.take_succ_cons, List.take_zero, List.drop_succ_cons, List.drop_zero]
                repeat still_step
                try refine wpStill_nil ?_
                change wpListIn _ _ _ _ _ _ _ (World.drew _)
                gi_upto_region 18 with (refine ⟨trivial, ?_⟩; gi_at_call 90; with_reducible refine CallsIn.mono HCW.out ?_; rintro e w5 ⟨⟨r, rfl⟩, hr5, hg5⟩; have HR5 := Lib.hid hr5; have HG5 := Lib.hid hg5; clear hr5 hg5)
                have hg5 := HG5.out
                have hWs : W3.drew.heap.size = W3.heap.size := rfl
                have hgl : g < W3.heap.size := HA5.out.lt
                have B1 := gb_heap (k := rb) hg5 hv2 (by omega)
                have B2 := (show W3.drew.ownsRow n 3 1 _ _ _ from hr2).kept hg5 (.inr A3.out.1)
                have B4 : Boxed w5 atb 3 (.int .i64 (o : Int)) := gb_heap hg5 (show W3.drew.heap[atb]? = _ from A4) (by omega)
                have B6 := gb_heap hg5 (show W3.drew.heap[n + 1]? = _ from A6) (by omega)
                have B7 := gb_heap hg5 (show W3.drew.heap[D]? = _ from A7) (by omega)
                have B8 : PerAt w5 bp pre.length (perV m sb so sc pre.length) L Tk := gb_heap hg5 (show W3.drew.heap[bp]? = _ from A8) (by omega)
                have hko : KeepsOthers W3.drew w5 := KeepsOthers.of_grownBy hg5 (fun jj oo ej hj' => by
                  cases ej
                  obtain ⟨cur, h1, _, _⟩ := HA5.out
                  rw [show W3.drew.heap[g]? = _ from h1] at hj'
                  cases hj'; rfl)
                have hn3 : n ≤ W3.drew.heap.size := by rw [hWs]; have := HB11.out.size; have := HNW.out; omega
                have B9 := A9.trans ((KeepsOthers.drew W3).trans hko)
                have B10 : KpP n (atb + 1) (atb + 1 + 1) W' w5 := A10.trans ⟨fun cs h => gb_heap hg5 (show W3.drew.heap[_]? = _ from h) (by omega), fun v h => gb_heap hg5 (show W3.drew.heap[_]? = _ from h) (by omega), (Below.drew (Below.refl n W3)).trans (gb_low hg5 hn3 (by omega))⟩
                have B11 := HB11.out.drew.trans (gb_low hg5 hn3 (by omega))
                have e5 := B4.cell
                have l5 := B4.lt
                have f5 := B4.frozen
                clear hg5 HG5 hv2 hr2 A4 A6 A7 A8 A9 A10 HA5 HB11 hko hn3 hWs c0 lr e4 l4 f4 d0 d1 d2 d3 ld HCW
                have HS5 : ∀ k, k ≠ atb → (w5.setCell ⟨atb, 0, none⟩ (.int .i64 ((o : Int) + (L : Int)))).heap[k]? = w5.heap[k]? := fun k hk => Below.heap_setCell _ _ _ k hk
                have HS6 := Lib.hid HS5
                clear HS5
                gi_wp2
                go_roundw
                case rel =>
                  refine ⟨j + 1, Value.slice (some ⟨g', 0, none⟩) (st + j + 1) cap', by omega, by go_num, (HS6.out rb (by omega)).trans B1, ?_, A3, ?_, ?_, (HS6.out _ (by omega)).trans B6, (HS6.out _ (by omega)).trans B7, (HS6.out bp (by omega)).trans B8, B9.trans (KeepsOthers.setCell _ _ _), B10.trans ⟨fun cs h => (HS6.out _ (by omega)).trans h, fun v h => (HS6.out _ (by omega)).trans h, (Below.refl n w5).setCell (p := ⟨atb, 0, none⟩) (show n ≤ atb by omega) _⟩, B11.setCell (p := ⟨atb, 0, none⟩) (show n ≤ atb by omega) _⟩
                  · have h := B2.kept (gb_set w5 atb 0 (.int .i64 ((o : Int) + (L : Int)))) (.inr A3.out.2)
                    have e : intV (sts a (ps ++ List.replicate (j + 1) pp)) = intV (sts a (ps ++ List.replicate j pp)) ++ [.int .i64 (o : Int)] := by
                      have hf : a + (ps ++ List.replicate j pp).flatten.length = o := by rw [List.flatten_append, List.length_append, flat_rep, HFL.out, HPPL.out, HO.out]
                      rw [rep_succ, ← List.append_assoc, sts_append, hf, intV_append]; rfl
                    rw [e, ← Nat.add_assoc]
                    exact h
                  · have h := B4.set (.int .i64 ((o : Int) + (L : Int)))
                    have e : ((a + (sl + (j + 1) * L) : Nat) : Int) = (o : Int) + (L : Int) := by
                      have := HO.out
                      rw [Nat.succ_mul]; omega
                    rw [e]
                    exact h
                  · exact HR5.out.setOther (show g ≠ atb by omega) _
                case measure => simp [intOf]; omega
              · obtain rfl : j = Tk := by omega
                gi_wp2
                refine ⟨J9.out.from _, J10.out, ⟨mv, J1.out, ?_, J3.out⟩, ?_, ?_, J6.out, J7.out, J11.out⟩
                · rw [List.length_append, List.length_singleton, HST2.out, HFS.out]; exact J2.out
                · rw [List.length_append, List.length_singleton, HSS.out, Nat.mul_comm L]; exact J4.out
                · rw [List.length_append, List.length_singleton, HFS.out]; exact J5.out
          case done2 =>
            rintro D2 W2 hD2 ⟨⟨mv, i1, i2, i3⟩, i4, i5, i6, i7, i8⟩ hK2
            rw [upL_length] at i2 i4 i5
            rw [← HSL.out] at i4
            rw [← HST.out] at i2
            obtain ⟨o, ho⟩ : ∃ o, o = a + sl := ⟨_, rfl⟩
            rw [← ho] at i4
            have hoT : T = o + (S - b) := by have := HT.out; have := HH0.out; omega
            have HOT := Lib.hid hoT
            have hoT2 : o ≤ T := by omega
            have HO := Lib.hid ho
            have hstT : st ≤ 100000 := by have := HCE.out; omega
            have hDW : D2 < W2.heap.size := (Array.getElem?_eq_some_iff.1 hK2).1
            clear hoT ho
            have c0 := (mcell i1).1
            have c1 := (mcell i1).2
            have lr := cell_lt c1
            have e4 := i4.cell
            have l4 := i4.lt
            have J1 := Lib.hid i1
            have J2 := Lib.hid i2
            have J3 := Lib.hid i3
            have J4 := Lib.hid i4
            have J5 := Lib.hid i5
            have J6 := Lib.hid i6
            have J7 := Lib.hid i7
            have J8 := Lib.hid i8
            have JK := Lib.hid hK2
            obtain ⟨i0, hi, hz0, hz1, hz2⟩ := info_parts infoI
            have HI := Lib.hid hi
            have HN8 : Hid (n ≤ W2.heap.size) := Lib.hid (by have := J8.out.size; have := HNW.out; omega)
            clear hi i1 i2 i3 i4 i5 i6 i7 i8 hK2
            gi_upto_region 21 with (gi_at_builtin; go_loud (refine wpListIn_append_own_at _ rfl _ _ 22 rfl n 3 i0 (.int .i64 0) 1 8 Try.underlying22 HI.out hz0 hz1 hz2 rfl (by decide) mv st _ rfl (J2.out.alloc _) ⟨W2.heap.size, 0, none⟩ 1 1 [.int .i64 (o : Int)] rfl (by rfl) (one_new _ _ _) (by simp [Value.oneCell']) (by unfold maxLen; omega) (by omega) (by have := HN8.out; simp; omega) ?_); intro v' w2 hown' hgrow _ hblk; obtain ⟨g', cap', rfl⟩ := ownsRow_succ hown'; obtain ⟨hv1, hv2, hr2, hk2, hb2⟩ := appended2 J1.out (by decide) J2.out HN8.out (by omega) hown' hgrow; have hc1 := (mcell hv1).2; have hf1 := frz hv1 1; have HU := Lib.hid (And.intro (And.intro hown' (And.intro hgrow hblk)) (And.intro hv2 (And.intro hr2 (And.intro hk2 hb2)))); clear hown' hgrow hblk hv1 hv2 hr2 hk2 hb2)
            obtain ⟨⟨hown', hgrow, hblk⟩, hv2, hr2, hk2, hb2⟩ := HU.out
            have A3 : Hid ((Value.slice (some ⟨g', 0, none⟩) (st + 1) cap').ownBlock ≠ some g) := Lib.hid (by
              rcases hblk with h | h
              · rw [h]; exact J3.out.1
              · have h5 := J5.out.lt
                rw [h]
                simp
                omega)
            have A4 : Boxed (w2.setCell ⟨rb, 1, none⟩ (.slice (some ⟨g', 0, none⟩) (st + 1) cap')) atb 3 (.int .i64 (o : Int)) := past_gen hgrow J4.out J3.out.2 (by omega)
            have A5 : (w2.setCell ⟨rb, 1, none⟩ (.slice (some ⟨g', 0, none⟩) (st + 1) cap')).rowIs g 3 T (fun i => .int .i64 ((headL m ++ (saidTo m gs (pN m)).flatten).getD i 0)) := by
              obtain ⟨cur, h1, h2, h3⟩ := J5.out
              exact ⟨cur, past_gen hgrow h1 J3.out.1 (by omega), h2, h3⟩
            have A6 := past_gen (v' := (.slice (some ⟨g', 0, none⟩) (st + 1) cap')) (B := rb) (i := 1) hgrow J6.out (own_ne J2.out J6.out (fun cs h => by cases h)) (by omega)
            have A7 := past_gen (v' := (.slice (some ⟨g', 0, none⟩) (st + 1) cap')) (B := rb) (i := 1) hgrow J7.out (own_ne J2.out J7.out (fun cs h => by cases h)) (by omega)
            have A8 := past_gen (v' := (.slice (some ⟨g', 0, none⟩) (st + 1) cap')) (B := rb) (i := 1) hgrow JK.out (own_ne J2.out JK.out (fun cs h => by cases h)) (by omega)
            have A11 := J8.out.trans hb2
            clear hown' hgrow hblk hk2 hb2 HU J1 J2 J3 J4 J5 J6 J7 J8 JK hc1 hf1 c0 c1 lr e4 l4 HN8
            generalize hW3 : World.setCell w2 _ _ = W3 at *
            clear hW3
            clear w2
            have htl : (tailL m).length = S - b := by unfold tailL; rw [← HBE.out, List.length_drop, ← HSE.out]
            have HTLL := Lib.hid htl
            have hsaid : (headL m ++ (saidTo m gs (pN m)).flatten).length = o := by rw [List.length_append, saidTo_flat, ← HSL.out, HHL.out, HO.out]
            have HSAID := Lib.hid hsaid
            have HV2 := Lib.hid hv2
            have HR2 := Lib.hid hr2
            have HA4 := Lib.hid A4
            have HA5 := Lib.hid A5
            have HA6 := Lib.hid A6
            have HA7 := Lib.hid A7
            have HA8 := Lib.hid A8
            have HA11 := Lib.hid A11
            have c0 := (mcell hv2).1
            have lr := cell_lt c0
            have e4 := A4.cell
            have l4 := A4.lt
            clear htl hsaid hv2 hr2 A4 A5 A6 A7 A8 A11
            gi_cut [] from 15 (fun wc => Hid (wc.heap[rb]? = some (.cells #[.slice (some ⟨g, 0, none⟩) T T, (.slice (some ⟨g', 0, none⟩) (st + 1) cap')] 24 (0, 0))) ∧ Hid (wc.ownsRow n 3 1 (.slice (some ⟨g', 0, none⟩) (st + 1) cap') (st + 1) (intV (sts a (saidTo m gs (pN m))) ++ [.int .i64 (o : Int)])) ∧ Hid (wc.rowIs g 3 T (fun i => .int .i64 ((headL m ++ (saidTo m gs (pN m)).flatten ++ tailL m).getD i 0))) ∧ Hid (wc.heap[n + 1]? = some (.cells #[.slice none 0 0, .slice none 0 0] 24 (0, 0))) ∧ Hid (wc.heap[D]? = some (.deferred (some []))) ∧ Hid (wc.heap[D2]? = some (.deferred (some []))) ∧ Hid (Below n w wc))
            case first =>
              rename_i J K' hJ hK'
              obtain ⟨cur, hg1, hcl, hcg⟩ := row_cells HA5.out
              have HG1 := Lib.hid hg1
              have HCL := Lib.hid hcl
              have HCG := Lib.hid hcg
              have HXS : Hid ((intV (tailL m)).length = Nat.min (S - b) (T - o)) := Lib.hid (by rw [intV_len, HTLL.out]; have := HOT.out; show S - b = min (S - b) (T - o); omega)
              have hft : o + (intV (tailL m)).length ≤ cur.length := by rw [intV_len, HTLL.out, hcl]; have := HOT.out; omega
              have HFT := Lib.hid hft
              have hxl : (intV (tailL m)).length = S - b := by rw [intV_len]; exact HTLL.out
              have HXN : Hid (0 < S - b → ∃ ad : Addr, ta = some ad ∧ ∀ (j : Nat) (v : Value), (intV (tailL m))[j]? = some v → W3.cell? (ad.add j) = some v) := Lib.hid (fun h => by
                have h0 := HTL.out.keep IntAt.stable (by rw [HNW.out]; exact HA11.out)
                obtain ⟨b', o', he, hf⟩ := h0.at (by intro e; have := HTLL.out; rw [e] at this; simp at this; omega)
                exact ⟨_, he, ints_news hf⟩)
              have HEND : Hid (∀ w4, Hid (w4.heap[g]? = some (.cells (splice cur o (intV (tailL m))).toArray 3 (0, 0))) → W3.grownBy w4 (some g) → (Hid (w4.heap[rb]? = some (.cells #[.slice (some ⟨g, 0, none⟩) T T, (.slice (some ⟨g', 0, none⟩) (st + 1) cap')] 24 (0, 0))) ∧ Hid (w4.ownsRow n 3 1 (.slice (some ⟨g', 0, none⟩) (st + 1) cap') (st + 1) (intV (sts a (saidTo m gs (pN m))) ++ [.int .i64 (o : Int)])) ∧ Hid (w4.rowIs g 3 T (fun i => .int .i64 ((headL m ++ (saidTo m gs (pN m)).flatten ++ tailL m).getD i 0))) ∧ Hid (w4.heap[n + 1]? = some (.cells #[.slice none 0 0, .slice none 0 0] 24 (0, 0))) ∧ Hid (w4.heap[D]? = some (.deferred (some []))) ∧ Hid (w4.heap[D2]? = some (.deferred (some []))) ∧ Hid (Below n w w4))) := Lib.hid (fun w4 hg4 hb4 => by
                refine ⟨gb_heap hb4 HV2.out (by omega), HR2.out.kept hb4 (.inr A3.out), ?_, gb_heap hb4 HA6.out (by omega), gb_heap hb4 HA7.out (by omega), gb_heap hb4 HA8.out (by have := HA5.out.lt; omega), HA11.out.trans (gb_low hb4 (by have := HA11.out.size; have := HNW.out; omega) (by omega))⟩
                refine (spl_row (h := fun j => .int .i64 ((tailL m).getD j 0)) hg4.out HCL.out HCG.out (fun j hj => intV_get hj) (by have := HFT.out; rwa [HCL.out] at this)).congr fun j _ => ?_
                rw [getD_app (headL m ++ (saidTo m gs (pN m)).flatten) (tailL m) j, HSAID.out, HTLL.out, hxl]
                by_cases hj : o ≤ j ∧ j < o + (S - b)
                · rw [if_pos hj, if_pos hj]
                · rw [if_neg hj, if_neg hj])
              clear hg1 hcl hcg hft hxl
              by_cases hTo : T = o
              · have HXP : Hid (0 < (intV (tailL m)).length → some (⟨g, 0, none⟩ : Addr) = some ⟨g, o, none⟩ ∧ ∃ ad : Addr, ta = some ad ∧ ∀ (j : Nat) (v : Value), (intV (tailL m))[j]? = some v → W3.cell? (ad.add j) = some v) := Lib.hid (fun h => by rw [intV_len, HTLL.out] at h; have := HOT.out; omega)
                have HXZ : Hid ((intV (tailL m)).length = Nat.min (S - b) 0) := Lib.hid (by rw [intV_len, HTLL.out]; have := HOT.out; show S - b = min (S - b) 0; omega)
                refine (wpIn_wide (n := 6)).2 ?_
                go_wp2_with (with_reducible refine wpList_copy_grown (o := ⟨some 104, _, _, _, _, _⟩) rfl (.tmp 102) (.tmp 103) 22 22 rfl 3 Try.underlying22 (by kernel_rfl) _ _ _ _ _ _ rfl rfl g o cur 3 HG1.out (intV (tailL m)) HXZ.out HXP.out HFT.out (ints_one _) ?_; intro w4 hg4 hb4)
                gi_meet
                case rel => exact HEND.out w4 hg4 hb4
              · have HXP : Hid (0 < (intV (tailL m)).length → some (⟨g, o, none⟩ : Addr) = some ⟨g, o, none⟩ ∧ ∃ ad : Addr, ta = some ad ∧ ∀ (j : Nat) (v : Value), (intV (tailL m))[j]? = some v → W3.cell? (ad.add j) = some v) := Lib.hid (fun h => ⟨rfl, HXN.out (by rwa [intV_len, HTLL.out] at h)⟩)
                refine (wpIn_wide (n := 6)).2 ?_
                go_wp2_with (with_reducible refine wpList_copy_grown (o := ⟨some 104, _, _, _, _, _⟩) rfl (.tmp 102) (.tmp 103) 22 22 rfl 3 Try.underlying22 (by kernel_rfl) _ _ _ _ _ _ rfl rfl g o cur 3 HG1.out (intV (tailL m)) HXS.out HXP.out HFT.out (ints_one _) ?_; intro w4 hg4 hb4)
                gi_meet
                case rel => exact HEND.out w4 hg4 hb4
            case rest =>
              obtain ⟨K1, K2, K3, K4, K5, K6, K7⟩ := hcut
              have c0 := (mcell K1.out).1
              have c1 := (mcell K1.out).2
              have lr := cell_lt c0
              have r0 : wc.cell? ⟨n + 1, 0, none⟩ = some (.slice none 0 0) := by simp [World.cell?, K4.out]
              have r1 : wc.cell? ⟨n + 1, 1, none⟩ = some (.slice none 0 0) := by simp [World.cell?, K4.out]
              have rf0 := frz K4.out 0
              have rf1 := frz K4.out 1
              gi_wp2
              have hz : ∀ k, k ≠ n + 1 → ((wc.setCell ⟨n + 1, 0, none⟩ (.slice (some ⟨g, 0, none⟩) T T)).setCell ⟨n + 1, 1, none⟩ (.slice (some ⟨g', 0, none⟩) (st + 1) cap')).heap[k]? = wc.heap[k]? := fun k h => (Below.heap_setCell _ _ _ k h).trans (Below.heap_setCell _ _ _ k h)
              have hKD2 := (hz D2 (by omega)).trans K6.out
              refine ⟨by simp, .inl ⟨_, _, rfl, run_takeDeferred hKD2, ?_⟩⟩
              have hKD : (((wc.setCell ⟨n + 1, 0, none⟩ (.slice (some ⟨g, 0, none⟩) T T)).setCell ⟨n + 1, 1, none⟩ (.slice (some ⟨g', 0, none⟩) (st + 1) cap')).putObj D2 (.deferred none)).heap[D]? = some (.deferred (some [])) := (World.putObj_heap_other (by omega)).trans ((hz D (by omega)).trans K5.out)
              refine ⟨by simp, .inl ⟨_, _, rfl, run_takeDeferred hKD, ?_⟩⟩
              have hDD : D ≠ D2 := by omega
              have hfin : ∀ k, k ≠ n + 1 → k ≠ D → k ≠ D2 → ((((wc.setCell ⟨n + 1, 0, none⟩ (.slice (some ⟨g, 0, none⟩) T T)).setCell ⟨n + 1, 1, none⟩ (.slice (some ⟨g', 0, none⟩) (st + 1) cap')).putObj D2 (.deferred none)).putObj D (.deferred none)).heap[k]? = wc.heap[k]? := fun k h1 h2 h3 => (World.putObj_heap_other h2).trans ((World.putObj_heap_other h3).trans (hz k h1))
              have hr : ((((wc.setCell ⟨n + 1, 0, none⟩ (.slice (some ⟨g, 0, none⟩) T T)).setCell ⟨n + 1, 1, none⟩ (.slice (some ⟨g', 0, none⟩) (st + 1) cap')).putObj D2 (.deferred none)).putObj D (.deferred none)).heap[n + 1]? = some (.cells #[.slice (some ⟨g, 0, none⟩) T T, .slice (some ⟨g', 0, none⟩) (st + 1) cap'] 24 (0, 0)) := (World.putObj_heap_other (by omega)).trans ((World.putObj_heap_other (by omega)).trans (set2_1 (set2_0 K4.out _) _))
              have hbf : Below n w ((((wc.setCell ⟨n + 1, 0, none⟩ (.slice (some ⟨g, 0, none⟩) T T)).setCell ⟨n + 1, 1, none⟩ (.slice (some ⟨g', 0, none⟩) (st + 1) cap')).putObj D2 (.deferred none)).putObj D (.deferred none)) :=
                (((K7.out.setCell (p := ⟨n + 1, 0, none⟩) (show n ≤ n + 1 by omega) _).setCell (p := ⟨n + 1, 1, none⟩) (show n ≤ n + 1 by omega) _).trans (KpP.putObj (n := n) (pm := 0) (pc := 0) _ D2 _ _ (by omega) hKD2 rfl).low).trans (KpP.putObj (n := n) (pm := 0) (pc := 0) _ D _ _ (by omega) hKD rfl).low
              have hgD : g ≠ D ∧ g ≠ D2 := by
                obtain ⟨cur, h1, _, _⟩ := K3.out
                refine ⟨fun e => ?_, fun e => ?_⟩
                · have := K5.out; rw [← e, h1] at this; cases this
                · have := K6.out; rw [← e, h1] at this; cases this
              have hrow : ((((wc.setCell ⟨n + 1, 0, none⟩ (.slice (some ⟨g, 0, none⟩) T T)).setCell ⟨n + 1, 1, none⟩ (.slice (some ⟨g', 0, none⟩) (st + 1) cap')).putObj D2 (.deferred none)).putObj D (.deferred none)).rowIs g 3 T (fun i => .int .i64 ((headL m ++ (saidTo m gs (pN m)).flatten ++ tailL m).getD i 0)) := K3.out.of_block (hfin g (by omega) hgD.1 hgD.2)
              have hown : ((((wc.setCell ⟨n + 1, 0, none⟩ (.slice (some ⟨g, 0, none⟩) T T)).setCell ⟨n + 1, 1, none⟩ (.slice (some ⟨g', 0, none⟩) (st + 1) cap')).putObj D2 (.deferred none)).putObj D (.deferred none)).ownsRow n 3 1 (Value.slice (some ⟨g', 0, none⟩) (st + 1) cap') (st + 1) (intV (sts a (saidTo m gs (pN m))) ++ [.int .i64 (o : Int)]) := by
                rcases K2.out with ⟨hlen, h | ⟨gg, cc', cur', he, hb, hgb, hx⟩⟩
                · exact absurd h.1 (by simp)
                · refine ⟨hlen, .inr ⟨gg, cc', cur', he, hb, (hfin gg (fun e => ?_) (fun e => ?_) (fun e => ?_)).trans hgb, hx⟩⟩
                  · rw [e] at hgb; have := hgb.symm.trans K4.out; simp at this
                  · rw [e] at hgb; have := hgb.symm.trans K5.out; cases this
                  · rw [e] at hgb; have := hgb.symm.trans K6.out; cases this
              have hstl : (saidTo m gs (pN m)).length = st := by rw [saidTo_len, ← HST.out]
              have hTl : (headL m ++ (saidTo m gs (pN m)).flatten ++ tailL m).length = T := by rw [List.length_append, HSAID.out, HTLL.out]; have := HOT.out; omega
              refine ⟨_, results_row_tmp (P := Try.prog) rfl _ _ (n + 1) 24 _ (0, 0) _ rfl hr Try.underlying24 rfl (by kernel_rfl), .inr ⟨?_, _, _, rfl, ?_, ?_⟩, by rw [HNW.out]; exact hbf⟩
              · unfold rebLen
                rw [← HA.out, ← HBE.out, ← HSE.out, ← HSL.out, ← HH0.out, ← HT.out]
                omega
              · exact row_slice (xs := headL m ++ (saidTo m gs (pN m)).flatten ++ tailL m) hrow hTl (fun i hi => by rw [gI hi]) (by unfold most; omega)
              · have hl : (sts a (saidTo m gs (pN m)) ++ [(o : Int)]).length = st + 1 := by rw [List.length_append, sts_len, hstl]; rfl
                have e : (bldM m (said m gs)).marks = sts a (saidTo m gs (pN m)) ++ [(o : Int)] := by
                  show sts (headL m).length (saidTo m gs (pN m)) ++ [(((headL m).length + (saidTo m gs (pN m)).flatten.length : Nat) : Int)] = _
                  rw [HHL.out, saidTo_flat, ← HSL.out, ← HO.out]
                rw [e]
                have h := own_slice (l := sts a (saidTo m gs (pN m)) ++ [(o : Int)]) (by rw [hl, intV_append]; exact hown) (by rw [hl]; omega)
                exact h
          case stop2 => rintro D' pre W' _ _ h _; exact h.elim
    case stop => rintro D pre W _ _ h _; exact h.elim
end Go.Proofs.Ytbeeddenidfenaa
