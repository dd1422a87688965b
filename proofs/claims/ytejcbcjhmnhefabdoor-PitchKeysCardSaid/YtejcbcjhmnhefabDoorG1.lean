/- Contracts: a queue of candidates. -/
import Derived.Test.YtejcbcjhmnhefabDoorA6
import Derived.Test.YtejcbcjhmnhefabDoorD0
import Derived.ArgAppend
import Derived.Deep.RegionHeld3
import Derived.Deep.RegionLaw
import Derived.Deep.RegionLawGrows
import Derived.Laws.CopyOwn
import Derived.Deep.OwnRows
set_option linter.unusedSimpArgs false
set_option linter.unusedVariables false
namespace Go.Proofs.YtejcbcjhmnhefabDoor
open Go.RowKit

def qV (l : List (Int × Int)) : List Value := l.flatMap fun x => [.int .i64 x.1, .int .i64 x.2]
theorem qV_len (l : List (Int × Int)) : (qV l).length = l.length * 2 := by induction l with | nil => rfl | cons x l ih => simp [qV] at ih ⊢; omega
theorem qV_append (l m : List (Int × Int)) : qV (l ++ m) = qV l ++ qV m := by simp [qV]
theorem qV_get (l : List (Int × Int)) : ∀ (i : Nat) (hi : i < l.length), (qV l)[i * 2]? = some (.int .i64 (l[i]).1) ∧ (qV l)[i * 2 + 1]? = some (.int .i64 (l[i]).2) := by
  induction l with
  | nil => intro i hi; simp at hi
  | cons x l ih =>
    intro i hi
    cases i with
    | zero => simp [qV]
    | succ i =>
      have h := ih i (by simpa using hi)
      have e : qV (x :: l) = .int .i64 x.1 :: .int .i64 x.2 :: qV l := by simp [qV]
      rw [e, show (i + 1) * 2 = i * 2 + 1 + 1 by omega]
      simpa using h
/-- The memory of a queue: its items' slice, and where they lie: in blocks from B on. -/
def QSlice (W : World) (B : Nat) (v : Value) (l : List (Int × Int)) : Prop :=
  (l = [] ∧ v = .slice none 0 0) ∨ ∃ g o cap N f, v = .slice (some ⟨g, o, none⟩) l.length cap ∧ B ≤ g ∧ W.rowIs g 104 N f ∧ l.length ≤ cap ∧ o + cap * 2 ≤ N ∧ ∀ j u, (qV l)[j]? = some u → f (o + j) = u
def QueueAt (W : World) (B qb : Nat) (l : List (Int × Int)) : Prop := ∃ v, Boxed W qb 101 v ∧ QSlice W B v l
theorem QSlice.keep {W W' : World} {B : Nat} {v : Value} {l : List (Int × Int)} (h : QSlice W B v l) (hB : ∀ b, b < W.heap.size → B ≤ b → W'.heap[b]? = W.heap[b]?) : QSlice W' B v l := by
  rcases h with h | ⟨g, o, cap, N, f, h1, h2, h3, h4⟩
  · exact .inl h
  · exact .inr ⟨g, o, cap, N, f, h1, h2, h3.of_block (hB g h3.lt h2), h4⟩
theorem QueueAt.keep {W W' : World} {B qb : Nat} {l : List (Int × Int)} (h : QueueAt W B qb l) (hq : B ≤ qb) (hB : ∀ b, b < W.heap.size → B ≤ b → W'.heap[b]? = W.heap[b]?) : QueueAt W' B qb l := by
  obtain ⟨v, h1, h2⟩ := h
  exact ⟨v, (hB qb h1.lt hq).trans h1, h2.keep hB⟩
theorem QSlice.shape {W : World} {B : Nat} {v : Value} {l : List (Int × Int)} (h : QSlice W B v l) : ∃ ad cap, v = .slice ad l.length cap := by
  rcases h with ⟨rfl, rfl⟩ | ⟨g, o, cap, N, f, rfl, _⟩
  · exact ⟨none, 0, rfl⟩
  · exact ⟨_, _, rfl⟩
theorem QSlice.cells {W : World} {B : Nat} {ad : Option Addr} {n cap : Nat} {l : List (Int × Int)} (h : QSlice W B (.slice ad n cap) l) {i : Nat} (hi : i < l.length) :
    ∃ g o, ad = some ⟨g, o, none⟩ ∧ W.cell? ⟨g, o + i * 2, none⟩ = some (.int .i64 l[i].1) ∧ W.cell? ⟨g, o + i * 2 + 1, none⟩ = some (.int .i64 l[i].2) := by
  rcases h with ⟨rfl, _⟩ | ⟨g, o, cap', N, f, h1, _, h3, h4, h5, h6⟩
  · simp at hi
  · obtain ⟨rfl, _, rfl⟩ := Value.slice.inj h1
    obtain ⟨q0, q1⟩ := qV_get l i hi
    refine ⟨g, o, rfl, ?_, ?_⟩
    · rw [h3.cell (by omega), h6 _ _ q0]
    · rw [show o + i * 2 + 1 = o + (i * 2 + 1) by omega, h3.cell (by omega), h6 _ _ q1]
theorem QSlice.not_box {W : World} {B qb g o n cap N : Nat} {f : Nat → Value} {v : Value} (h1 : Boxed W qb 101 v) (hr : W.rowIs g 104 N f) : g ≠ qb := by
  obtain ⟨c, hc, _⟩ := hr
  intro e; rw [e, show W.heap[qb]? = _ from h1] at hc; injection hc with hc; injection hc with _ hc; cases hc

set_option maxHeartbeats 1000000 in
theorem qsize_any (l : List (Int × Int)) (B qb : Nat) (w : World) (h : QueueAt w B qb l) :
    Calls Tryd.prog 53 #[.pointer (some ⟨qb, 0, none⟩)] w fun e w' => e = .returned (.int .i64 l.length) ∧ w = w' := by
  obtain ⟨v, h1, h2⟩ := h
  obtain ⟨ad, cap, rfl⟩ := h2.shape
  have c0 := h1.cell
  have hl := h1.lt
  go_enter Tryd.func53, Tryd.ntmps53
  go_wp2
  go_ret
  exact ⟨rfl, rfl⟩
set_option maxHeartbeats 1000000 in
theorem qat_any (l : List (Int × Int)) (B qb i : Nat) (w : World) (h : QueueAt w B qb l) (hi : i < l.length) (hs : l.length ≤ 1000000) :
    Calls Tryd.prog 52 #[.pointer (some ⟨qb, 0, none⟩), .int .i64 i] w fun e w' => e = .returned (.agg #[.int .i64 l[i].1, .int .i64 l[i].2]) ∧ Below w.heap.size w w' := by
  obtain ⟨v, h1, h2⟩ := h
  obtain ⟨ad, cap, rfl⟩ := h2.shape
  obtain ⟨g, o, rfl, k0, k1⟩ := h2.cells hi
  have c0 := h1.cell
  have hl := h1.lt
  have hg := cell_lt k0
  clear h2
  generalize l[i] = x at *
  go_enter Tryd.func52, Tryd.ntmps52
  go_wp2
  refine bodyPost_ret (by simp [results, Tryd.results52, go_sem]) rfl ⟨rfl, bAlloc (Below.refl _ _) _⟩
set_option maxHeartbeats 1000000 in
theorem costFrom_any (a c v s : Int) (w : World) (ha : 0 ≤ a ∧ a ≤ 1000) (hv : 0 ≤ v ∧ v ≤ 1000) (hs : 0 ≤ s ∧ s ≤ 1000) (hc : 0 ≤ c ∧ c ≤ 1000000000000000000) :
    Calls Tryd.prog 54 #[.agg #[.int .i64 a, .int .i64 c], .int .i64 v, .int .i64 s] w fun e w' => e = .returned (.int .i64 (c + s * (a - v) * (a - v))) ∧ Below w.heap.size w w' := by
  have m1 := mul_in (A := 1000) (B := 1000) (show -1000 ≤ s by omega) (by omega) (show -1000 ≤ a - v by omega) (by omega)
  have m2 := mul_in (A := 1000000) (B := 1000) (show -1000000 ≤ s * (a - v) by omega) (by omega) (show -1000 ≤ a - v by omega) (by omega)
  have q1 : IntKind.i64.wrap (s * (a - v)) = s * (a - v) := IntWalk.i64_in _ (by omega)
  have q2 : IntKind.i64.wrap (s * (a - v) * (a - v)) = s * (a - v) * (a - v) := IntWalk.i64_in _ (by omega)
  go_enter Tryd.func54, Tryd.ntmps54
  go_wp2
  go_ret
  exact ⟨rfl, bAlloc (Below.refl _ _) _⟩
set_option maxHeartbeats 1000000 in
theorem qdrop_any (x : Int × Int) (l : List (Int × Int)) (B qb : Nat) (w : World) (h : QueueAt w B qb (x :: l)) (hq : B ≤ qb) :
    Calls Tryd.prog 55 #[.pointer (some ⟨qb, 0, none⟩)] w fun e w' => (∃ v, e = .returned v) ∧ QueueAt w' B qb l ∧ Below B w w' := by
  obtain ⟨v, h1, h2⟩ := h
  obtain ⟨ad, cap, rfl⟩ := h2.shape
  have c0 := h1.cell
  have hf := h1.frozen
  have hl := h1.lt
  have H1 := Lib.hid h1
  have H2 := Lib.hid h2
  rcases h2 with ⟨h, _⟩ | ⟨g, o, cap', N, f, he, hg, hc, hn, hsz, hx⟩
  · cases h
  obtain ⟨rfl, _, rfl⟩ := Value.slice.inj he
  simp only [List.length_cons] at hn
  have hcp : (1 : Int) ≤ (cap : Int) := by omega
  have HX := Lib.hid hx
  have hset := fun v => h1.set v
  have hgq : g ≠ qb := QSlice.not_box (B := 0) (o := 0) (n := 0) (cap := 0) h1 hc
  have hoth : ∀ u, (w.setCell ⟨qb, 0, none⟩ u).rowIs g 104 N f := fun u => hc.setOther hgq u
  have hbel : ∀ u, Below B w (w.setCell ⟨qb, 0, none⟩ u) := fun u => (Below.refl _ _).setCell hq u
  clear hx hc h1 he
  go_enter Tryd.func55, Tryd.ntmps55
  go_wp2
  · go_end0
    refine ⟨⟨_, rfl⟩, ⟨_, hset _, .inr ⟨g, o, 0, N, f, rfl, hg, hoth _, by omega, by omega, fun j u h => ?_⟩⟩, hbel _⟩
    have : l = [] := List.eq_nil_of_length_eq_zero (by omega)
    subst this; simp [qV] at h
  · go_end0
    refine ⟨⟨_, rfl⟩, ⟨_, hset _, .inr ⟨g, o + 2, cap - 1, N, f, rfl, hg, hoth _, by omega, by omega, fun j u h => ?_⟩⟩, hbel _⟩
    have h2 := HX.out (j + 2) u (by simpa [qV] using h)
    rw [show o + 2 + j = o + (j + 2) by omega]; exact h2

theorem two_new (W : World) (o : Obj) (x y : Value) (t : TypeId) : ∀ j u, [x, y][j]? = some u → ((W.alloc o).alloc (.cells #[x, y] t)).drew.cell? (Addr.add ⟨W.heap.size + 1, 0, none⟩ j) = some u := by
  intro j u h
  have hn : ((W.alloc o).alloc (.cells #[x, y] t)).heap[W.heap.size + 1]? = some (.cells #[x, y] t (0, 0)) := by
    have := World.alloc_heap_new (W.alloc o) (.cells #[x, y] t)
    rwa [World.size_alloc] at this
  have hd : ∀ a, ((W.alloc o).alloc (.cells #[x, y] t)).drew.cell? a = ((W.alloc o).alloc (.cells #[x, y] t)).cell? a := fun _ => rfl
  rw [hd, Addr.add_lit]
  simp only [World.cell?, hn, Nat.zero_add]
  simpa using h
theorem box_other {W : World} {qb t g k : Nat} {v : Value} (h : Boxed W qb t v) (hne : g ≠ qb) (x : Value) : Boxed (W.setCell ⟨g, k, none⟩ x) qb t v :=
  (heap_setCell_other W ⟨g, k, none⟩ qb x (fun e => hne e.symm)).trans h
theorem room_facts {w W : World} {B qb g k N : Nat} {f : Nat → Value} {v x y : Value} (hW : Below w.heap.size w W) (hBw : B ≤ w.heap.size) (h1 : Boxed w qb 101 v) (hr : w.rowIs g 104 N f) (hg : B ≤ g) :
    Boxed (W.setCells g k [x, y]) qb 101 v ∧ (W.setCells g k [x, y]).rowIs g 104 N (fun j => if j = k + 1 then y else if j = k then x else f j) ∧ Below B w (W.setCells g k [x, y]) := by
  have hgq : g ≠ qb := QSlice.not_box (B := 0) (o := 0) (n := 0) (cap := 0) h1 hr
  have h2 : Boxed W qb 101 v := heap_keep hW h1
  have h3 := hr.of_block (hW.block g hr.lt)
  have e : W.setCells g k [x, y] = (W.setCell ⟨g, k, none⟩ x).setCell ⟨g, k + 1, none⟩ y := rfl
  rw [e]
  refine ⟨box_other (box_other h2 hgq x) hgq y, ((h3.set k x).set (k + 1) y), ((hW.mono hBw).setCell hg x).setCell hg y⟩
theorem q_snoc {l : List (Int × Int)} {x : Int × Int} {f : Nat → Value} {o : Nat} (hf : ∀ j u, (qV l)[j]? = some u → f (o + j) = u) (j : Nat) (u : Value) (h : (qV (l ++ [x]))[j]? = some u) :
    (if o + j = o + l.length * 2 + 1 then Value.int .i64 x.2 else if o + j = o + l.length * 2 then .int .i64 x.1 else f (o + j)) = u := by
  rw [qV_append] at h
  have hl := qV_len l
  by_cases h1 : j < l.length * 2
  · rw [List.getElem?_append_left (by omega)] at h
    rw [if_neg (by omega), if_neg (by omega)]
    exact hf j u h
  · rw [List.getElem?_append_right (by omega), hl] at h
    by_cases h2 : j = l.length * 2
    · subst h2
      rw [if_neg (by omega), if_pos rfl]
      simpa [qV] using h
    · by_cases h3 : j = l.length * 2 + 1
      · subst h3
        rw [if_pos (by omega)]
        rw [show l.length * 2 + 1 - l.length * 2 = 1 by omega] at h
        simpa [qV] using h
      · rw [List.getElem?_eq_none (by simp [qV]; omega)] at h; cases h
theorem info125 : (Tryd.prog.info? 104).map (fun i => (i.zero, i.size, i.bytes)) = some (some (.agg #[.int .i64 0, .int .i64 0]), 2, 16) := by kernel_rfl
theorem owned_q {W : World} {B base : Nat} {v : Value} {l : List (Int × Int)} (h : W.ownsRow base 104 2 v l.length (qV l)) (hb : B ≤ base) : QSlice W B v l := by
  obtain ⟨_, ⟨rfl, h0⟩ | ⟨g, cap, cur, rfl, hge, hgb, hn, _, hcs, ht⟩⟩ := h
  · exact .inl ⟨List.eq_nil_of_length_eq_zero h0, rfl⟩
  · refine .inr ⟨g, 0, cap, cur.size, fun i => (cur[i]?).getD undef, rfl, Nat.le_trans hb hge, ⟨cur, hgb, rfl, fun i hi => by simp [hi]⟩, hn, by omega, fun j u hj => ?_⟩
    have hj2 : cur.toList[j]? = some u := by
      have h3 := hj
      rw [← ht, List.getElem?_take] at h3
      split at h3
      · exact h3
      · cases h3
    have : cur[j]? = some u := by simpa using hj2
    simp [this]
theorem QSlice.setBox {W : World} {B qb : Nat} {u v : Value} {l : List (Int × Int)} (h : QSlice W B v l) (hb : Boxed W qb 101 u) (x : Value) : QSlice (W.setCell ⟨qb, 0, none⟩ x) B v l := by
  rcases h with h | ⟨g, o, cap, N, f, h1, h2, h3, h4⟩
  · exact .inl h
  · exact .inr ⟨g, o, cap, N, f, h1, h2, h3.setOther (a := ⟨qb, 0, none⟩) (QSlice.not_box (B := 0) (o := 0) (n := 0) (cap := 0) hb h3) x, h4⟩
set_option maxRecDepth 20000 in
set_option maxHeartbeats 4000000 in
theorem qpush_any (x : Int × Int) (l : List (Int × Int)) (B qb : Nat) (w : World) (h : QueueAt w B qb l) (hq : B ≤ qb) (hl : l.length ≤ 1000000) :
    Calls Tryd.prog 51 #[.pointer (some ⟨qb, 0, none⟩), .agg #[.int .i64 x.1, .int .i64 x.2]] w fun e w' => (∃ v, e = .returned v) ∧ QueueAt w' B qb (l ++ [x]) ∧ Below B w w' := by
  obtain ⟨v, h1, h2⟩ := h
  obtain ⟨ad, cap, rfl⟩ := h2.shape
  obtain ⟨i125, hi, hz0, hz1, hz2⟩ := info_parts info125
  have HI := Lib.hid hi
  have c0 := h1.cell
  have hf := h1.frozen
  have hlt := h1.lt
  have hBw : B ≤ w.heap.size := by omega
  have H1 := Lib.hid h1
  have H2 := Lib.hid h2
  have hW0 : Below w.heap.size w ((w.alloc (.cells #[.int .i64 x.1, .int .i64 x.2] 104)).alloc (.cells #[.int .i64 x.1, .int .i64 x.2] 104)).drew := (bAlloc (bAlloc (Below.refl _ _) _) _).drew
  have HW0 := Lib.hid hW0
  clear hW0
  by_cases hroom : l.length + 1 ≤ cap
  · rcases h2 with ⟨rfl, he⟩ | ⟨g, o, cap', N, f, he, hg, hc, hn, hsz, hx⟩
    · obtain ⟨_, _, rfl⟩ := Value.slice.inj he
      simp at hroom
    obtain ⟨rfl, _, rfl⟩ := Value.slice.inj he
    have hk := room_facts (k := o + l.length * 2) (x := .int .i64 x.1) (y := .int .i64 x.2) HW0.out hBw h1 hc hg
    have HK := Lib.hid hk
    have hrow0 := hc.of_block (HW0.out.block g hc.lt)
    have hsp : ∀ j, j < 2 → (((w.alloc (.cells #[.int .i64 x.1, .int .i64 x.2] 104)).alloc (.cells #[.int .i64 x.1, .int .i64 x.2] 104)).drew.cell? ⟨g, o + l.length * 2 + j, none⟩).isSome = true ∧ ((w.alloc (.cells #[.int .i64 x.1, .int .i64 x.2] 104)).alloc (.cells #[.int .i64 x.1, .int .i64 x.2] 104)).drew.frozen? ⟨g, o + l.length * 2 + j, none⟩ = false := fun j hj => by
      rw [hrow0.cell (by omega)]
      exact ⟨rfl, hrow0.frozen _⟩
    have HSP := Lib.hid hsp
    have HX := Lib.hid hx
    clear h1 he hc hx hi hk hrow0 hsp
    go_enter Tryd.func51, Tryd.ntmps51
    go_wp2_with fail
    go_region_law (refine step_append_room (o := ⟨some 11, _, _, _, _, _⟩) rfl (.tmp 8) (.tmp 10) 99 rfl 104 i125 2 Tryd.underlying99 HI.out hz1 g o l.length cap rfl _ 1 1 [.int .i64 x.1, .int .i64 x.2] rfl rfl (two_new _ _ _ _ _) (by simp [Value.oneCell']) hroom HSP.out ?_; obtain ⟨hk1, hk2, hk3⟩ := HK.out; have hc5 := hk1.cell; have hf5 := hk1.frozen; have hl5 := hk1.lt; have HR5 := Lib.hid hk2; have HB5 := Lib.hid hk3; have H15 := Lib.hid hk1; clear hk1 hk2 hk3; generalize World.setCells _ _ _ _ = w5 at *)
    all_goals
      go_end0
      refine ⟨⟨_, rfl⟩, ⟨_, H15.out.set _, .inr ⟨g, o, cap, N, _, by rw [List.length_append]; rfl, hg, HR5.out.setOther (a := ⟨qb, 0, none⟩) (QSlice.not_box (B := 0) (o := 0) (n := 0) (cap := 0) H15.out HR5.out) _, by rw [List.length_append]; exact hroom, hsz, q_snoc HX.out⟩⟩, HB5.out.setCell hq _⟩
  · have hfull : cap < l.length + 1 := by omega
    have hnone : ad = none → l.length = 0 ∧ cap = 0 := by
      rintro rfl
      rcases h2 with ⟨rfl, he⟩ | ⟨g, o, cap', N, f, he, _⟩
      · exact ⟨rfl, (Value.slice.inj he).2.2⟩
      · cases (Value.slice.inj he).1
    have holds : ∀ b, ad = some b → ∀ j u, (qV l)[j]? = some u → ((w.alloc (.cells #[.int .i64 x.1, .int .i64 x.2] 104)).alloc (.cells #[.int .i64 x.1, .int .i64 x.2] 104)).drew.cell? (b.add j) = some u := by
      rintro b rfl j u h
      rcases h2 with ⟨rfl, he⟩ | ⟨g, o, cap', N, f, he, hg, hc, hn, hsz, hx⟩
      · simp [qV] at h
      · obtain ⟨he1, _, rfl⟩ := Value.slice.inj he
        obtain rfl := Option.some.inj he1
        have hj : j < l.length * 2 := by
          have := qV_len l
          obtain ⟨h3, _⟩ := List.getElem?_eq_some_iff.1 h
          omega
        rw [Addr.add_lit, (hc.of_block (HW0.out.block g hc.lt)).cell (by omega), hx j u h]
    have HNO := Lib.hid hnone
    have HOL := Lib.hid holds
    clear h1 h2 hi hnone holds
    go_enter Tryd.func51, Tryd.ntmps51
    go_wp2_with fail
    go_region_law (refine step_append_grows (o := ⟨some 11, _, _, _, _, _⟩) rfl (.tmp 8) (.tmp 10) 99 rfl 104 i125 _ 2 16 Tryd.underlying99 HI.out hz0 hz1 hz2 rfl (by decide) ad l.length cap (qV l) rfl HNO.out (qV_len l) HOL.out _ 1 1 [.int .i64 x.1, .int .i64 x.2] rfl rfl (two_new _ _ _ _ _) (by simp [Value.oneCell']) hfull (by unfold maxLen; omega) (by omega) ?_; intro v' w5 hown hgrow; have hk1 : Boxed w5 qb 101 _ := Boxed.kept (heap_keep HW0.out H1.out) hgrow (by simp); have hk2 : QSlice w5 B v' (l ++ [x]) := owned_q (by rw [List.length_append, qV_append]; exact hown) (Nat.le_trans hBw HW0.out.size); have hk3 : Below B w w5 := (HW0.out.mono hBw).trans ((show Below _ _ w5 from ⟨hgrow.os, hgrow.tape, hgrow.output, hgrow.size, fun k hk => hgrow.block k hk (by simp)⟩ : Below ((w.alloc (.cells #[.int .i64 x.1, .int .i64 x.2] 104)).alloc (.cells #[.int .i64 x.1, .int .i64 x.2] 104)).drew.heap.size _ w5).mono (Nat.le_trans hBw HW0.out.size)); obtain ⟨ad5, cap5, rfl⟩ := hk2.shape; have hc5 := hk1.cell; have hf5 := hk1.frozen; have hl5 := hk1.lt; have HQ5 := Lib.hid hk2; have HB5 := Lib.hid hk3; have H15 := Lib.hid hk1; clear hk1 hk2 hk3 hown hgrow)
    all_goals
      go_end0
      refine ⟨⟨_, rfl⟩, ⟨_, H15.out.set _, by have h := HQ5.out.setBox H15.out (.slice ad5 (l.length + 1) cap5); rw [List.length_append] at h; exact h⟩, HB5.out.setCell hq _⟩
end Go.Proofs.YtejcbcjhmnhefabDoor
