/- Contracts: gestures from the last one on, as an iterator. Contracts: the goal of a section. Contracts: what moves the walls. Loops over an iterator that has a state of its own: walls. Contracts: the areas at all times, as an iterator. Contracts: the areas at all times, as an iterator. Contracts: Areas, its parts. Contracts: Areas. -/
import Derived.Test.YtbmbcbknoflpgaaJ01
import Derived.Test.YtbmbcbknoflpgaaKM
set_option linter.unusedSimpArgs false
set_option linter.unusedVariables false
namespace Go.Proofs.Ytbmbcbknoflpgaa
open Go.RowKit Go.Shelf
attribute [local go_sem] Oper.semAt_some

abbrev UpTo (N : Nat) := { n : Nat // n < N }
def upL (N : Nat) : List (UpTo N) := (List.range N).pmap (fun n h => ⟨n, h⟩) (fun _ h => List.mem_range.1 h)
theorem upL_length (N : Nat) : (upL N).length = N := by simp [upL]
theorem upL_get (N k : Nat) (h : k < (upL N).length) : (upL N)[k] = ⟨k, by rw [upL_length] at h; exact h⟩ := by
  simp only [upL, List.getElem_pmap, List.getElem_range]
theorem upL_val (N : Nat) : (upL N).map Subtype.val = List.range N := by
  unfold upL
  rw [List.map_pmap]
  simp
def dnL (N : Nat) : List (UpTo N) := (upL N).reverse
theorem dnL_length (N : Nat) : (dnL N).length = N := by simp [dnL, upL_length]
theorem dnL_get (N k : Nat) (h : k < (dnL N).length) : (dnL N)[k] = ⟨N - 1 - k, by rw [dnL_length] at h; omega⟩ := by
  simp only [dnL, List.getElem_reverse, upL_length]
  exact upL_get N _ _
theorem dnL_take (N k : Nat) (h : k < N) : (dnL N).take (k + 1) = (dnL N).take k ++ [⟨N - 1 - k, by omega⟩] := by
  have h1 : k < (dnL N).length := by rw [dnL_length]; exact h
  rw [take_succ _ k h1, dnL_get]
def Ges.agg (g : Ges) : Value := .agg #[.int .i64 g.fst, .int .i64 g.lst, .int .i64 g.beg, .int .i64 g.fin, .int .i64 g.area, .int .i64 g.speed]
abbrev encG (l : List Ges) (x : UpTo l.length) : Array Value := #[.int .i64 (x.1 : Int), (l[x.1]'x.2).agg]
/-- What a round keeps: the box of the list, and what lies below. -/
structure KpG (n sb : Nat) (A B : World) : Prop where
  list : ∀ x, Boxed A sb 70 x → Boxed B sb 70 x
  low : Below n A B
theorem KpG.trans {n sb : Nat} {A B C : World} (h : KpG n sb A B) (k : KpG n sb B C) : KpG n sb A C := ⟨fun x hx => k.list x (h.list x hx), h.low.trans k.low⟩
set_option maxRecDepth 100000 in
set_option maxHeartbeats 4000000 in
theorem back_says (m : Nat) (l : List Ges) (sb n : Nat) (v : Value) (w0 w : World) (hl : l.length ≤ 1000) (hn : w0.heap.size = n) (hv : SliceV w0 v 6 GesAt l) (hs : Boxed w sb 70 v) (hb : Below n w0 w) (hnw : n ≤ w.heap.size) :
    SaysK m Try.prog 112 #[.pointer (some ⟨sb, 0, none⟩)] (encG l) (KpG n sb) (dnL l.length) w := by
  intro ly J Jx W hW hJ hY h0
  have c0 := (show Boxed W sb 70 v from heap_keep hW hs)
  have hB : Below n w0 W := hb.trans (hW.mono hnw)
  have HV := Lib.hid hv
  obtain ⟨va, vc, rfl, -, -⟩ := hv
  have HY := Lib.hid hY
  have HN := Lib.hid hn
  have C0 := Lib.hid c0
  have e0 := c0.cell
  have l0 := c0.lt
  have u0 : IntKind.i64.wrap ((l.length : Int) - 1) = (l.length : Int) - 1 := IntWalk.i64_in _ (by omega)
  clear hY hW hs hb hn c0 hnw
  show CallsIn Fence.wide m Try.prog 112 #[.func (.yield ly) #[] #[], .pointer (some ⟨sb, 0, none⟩)] W _
  refine callsIn_of_wp Try.func112 rfl trivial ?_ rfl
  simp only [Try.ntmps112, List.size_toArray, List.length_cons, List.length_nil, Nat.reduceAdd, Nat.reduceSub, Array.replicate_succ, Array.replicate_zero, List.push_toArray, List.append_toArray, List.nil_append, List.cons_append]
  gi_wp2
  gi_loopw [3] (fun i wr => ∃ k : Nat, k ≤ l.length ∧ i = .int .i64 ((l.length : Int) - 1 - (k : Int)) ∧ Hid (J ((dnL l.length).take k) wr) ∧ Hid (Boxed wr sb 70 (.slice va l.length vc)) ∧ Hid (Below n w0 wr)) (fun i _ => (intOf i + 1).toNat)
  case atStart => exact ⟨0, Nat.zero_le _, by simp, Lib.hid (by simpa using h0), C0, Lib.hid hB⟩
  case round =>
    obtain ⟨k, hk, rfl, HJ, HS, HB⟩ := hrel
    have e0 := HS.out.cell
    have l0 := HS.out.lt
    clear h0
    by_cases hlt : k < l.length
    · obtain ⟨t, ht⟩ : ∃ t : Nat, (l.length : Int) - 1 - (k : Int) = (t : Int) := ⟨l.length - 1 - k, by omega⟩
      have htl : t < l.length := by omega
      have ht2 : l.length - 1 - k = t := by omega
      obtain ⟨b, o, rfl, hf⟩ := HV.out.at (by intro h; simp [h] at hlt)
      obtain ⟨k0, k1, k2, k3, k4, k5⟩ := hf t htl
      unfold IntAt at k0 k1 k2 k3 k4 k5
      have hbn : b < n := by rw [← HN.out]; exact cell_lt k0
      have kp : ∀ {p : Nat} {v : Value}, w0.cell? ⟨b, p, none⟩ = some v → wr.cell? ⟨b, p, none⟩ = some v := fun h => (HB.out.cell (p := ⟨b, _, none⟩) hbn).trans h
      replace k0 := kp k0
      replace k1 := kp k1
      replace k2 := kp k2
      replace k3 := kp k3
      replace k4 := kp k4
      replace k5 := kp k5
      have hkb := cell_lt k0
      have HP : Hid ((dnL l.length).take (k + 1) = (dnL l.length).take k ++ [⟨t, htl⟩]) := Lib.hid (by rw [dnL_take _ k hlt]; simp only [ht2])
      have HPR : Hid ((dnL l.length).take (k + 1) <+: dnL l.length) := Lib.hid (List.take_prefix _ _)
      have HKT : Hid ((l.length : Int) - 1 - ((k + 1 : Nat) : Int) = (t : Int) - 1) := Lib.hid (by omega)
      obtain ⟨fn, tmps, assign, body, hy, hR⟩ := yield_any (m - 1) (HY.out _ ⟨t, htl⟩ wr HJ.out (by rw [List.length_take, dnL_length]; omega))
      dsimp only [encG, Ges.agg] at hy
      rw [ht]
      have htt : (t : Int) < (l.length : Int) := by omega
      have u1 : IntKind.i64.wrap ((t : Int) - 1) = (t : Int) - 1 := IntWalk.i64_in _ (by omega)
      have HLT := Lib.hid hlt
      clear hf kp ht ht2 hlt hk
      generalize l[t] = x at *
      gi_wp2
      refine ⟨fun h => (by cases h), hR.mono ?_⟩
      rintro e W3 (⟨rfl, hJ3, hK3⟩ | ⟨rfl, -, hJx⟩)
      · have HJ3 : Hid (J ((dnL l.length).take (k + 1)) W3) := Lib.hid (by rw [HP.out]; exact hJ3)
        have HS3 := Lib.hid (hK3.list _ HS.out)
        have HB3 := Lib.hid (HB.out.trans hK3.low)
        clear hJ3 hy hR hK3
        have e0 := HS3.out.cell
        have l0 := HS3.out.lt
        gi_wp2
        go_roundw
        case rel => exact ⟨k + 1, by have := HLT.out; omega, by rw [HKT.out], HJ3, HS3, HB3⟩
        case measure => first | (simp [intOf]; done) | (simp [intOf]; omega)
      · have HJX := Lib.hid hJx
        clear hJx hy hR
        gi_wp2
        refine bodyPost_ret (results_none rfl _ _ _) rfl ?_
        exact ⟨⟨_, rfl⟩, .inr ⟨_, by rw [← HP.out]; exact HPR.out, HJX.out⟩⟩
    · obtain rfl : k = l.length := by omega
      have hng : ¬ ((l.length : Int) - 1 - (l.length : Int) ≥ 0) := by omega
      rw [show (l.length : Int) - 1 - (l.length : Int) = -1 by omega]
      gi_wp2
      go_end0
      refine ⟨⟨_, rfl⟩, .inl ?_⟩
      have := HJ.out
      rwa [List.take_of_length_le (by rw [dnL_length]; exact Nat.le_refl _)] at this
end Go.Proofs.Ytbmbcbknoflpgaa
namespace Go.Proofs.Ytbmbcbknoflpgaa
open Go.RowKit Go.Shelf
attribute [local go_sem] Oper.semAt_some

/-- Does a gesture move a section at a time? The goal of the section, and its speed. -/
def hitG (s t : Int) (g : Ges) : Bool := betw s g.fst g.lst && betw t g.beg (g.fin - 1)
def golG (rest : List Int) (l : List Ges) (s : Nat) (t : Int) : Int × Int :=
  match l.reverse.find? (hitG s t) with
  | some g => (g.area, g.speed)
  | none => (rest.getD s 0, 100)
theorem backward_any (a : Option Addr) (n c : Nat) (w : World) : Calls Try.prog 109 #[.slice a n c] w fun e w' => e = .returned (.func (.func 112) #[] #[.pointer (some ⟨w.heap.size, 0, none⟩)]) ∧ w' = w.alloc (.cells #[.slice a n c] 70) := by
  go_enter Try.func109, Try.ntmps109
  go_wp2_with fail
  go_ret
  exact ⟨rfl, rfl⟩
/-- The boxes of a search for a goal. -/
structure GB (n : Nat) (W : World) (va vb : Value) (s t a b : Int) : Prop where
  sc : W.heap[n]? = some (.cells #[va, vb] 120 (0, 0))
  se : Boxed W (n + 1) 3 (.int .i64 s)
  ti : Boxed W (n + 2) 3 (.int .i64 t)
  ga : Boxed W (n + 3) 3 (.int .i64 a)
  gs : Boxed W (n + 4) 3 (.int .i64 b)
  li : Boxed W (n + 5) 70 vb
theorem entry_kept {W W' : World} {row : Option Nat} {k : Nat} {o : Obj} (h : W.heap[k]? = some o) (ho : o.isCells = true) (hg : W.grownBy W' row) (hr : ∀ r, row = some r → ∃ o : Obj, W.heap[r]? = some o ∧ o.isCells = false) : W'.heap[k]? = some o := by
  refine (hg.block k (Array.getElem?_eq_some_iff.1 h).1 (fun e => ?_)).trans h
  obtain ⟨o2, h2, h3⟩ := hr k e.symm
  rw [h] at h2
  cases h2
  rw [ho] at h3
  cases h3
theorem GB.own {n : Nat} {W W' : World} {va vb : Value} {s t a b : Int} {row : Option Nat} (h : GB n W va vb s t a b) (hg : W.grownBy W' row) (hr : ∀ r, row = some r → ∃ o : Obj, W.heap[r]? = some o ∧ o.isCells = false) : GB n W' va vb s t a b :=
  ⟨entry_kept h.1 rfl hg hr, entry_kept h.2 rfl hg hr, entry_kept h.3 rfl hg hr, entry_kept h.4 rfl hg hr, entry_kept h.5 rfl hg hr, entry_kept h.6 rfl hg hr⟩
theorem GB.below {n : Nat} {W W' : World} {va vb : Value} {s t a b : Int} (h : GB n W va vb s t a b) (hB : Below W.heap.size W W') : GB n W' va vb s t a b :=
  ⟨heap_keep hB h.1, heap_keep hB h.2, heap_keep hB h.3, heap_keep hB h.4, heap_keep hB h.5, heap_keep hB h.6⟩
theorem KpG.putObj {n sb : Nat} (W : World) (l : Nat) (o o' : Obj) (hn : n ≤ l) (h : W.heap[l]? = some o) (ho : o.isCells = false) : KpG n sb W (W.putObj l o') := by
  refine ⟨fun x hx => ?_, ⟨rfl, rfl, rfl, by simp, fun k hk => World.putObj_heap_other (fun e => by omega)⟩⟩
  refine (World.putObj_heap_other (fun e => ?_)).trans hx
  subst e
  rw [show W.heap[_]? = _ from hx] at h
  injection h with h
  rw [← h] at ho; cases ho
theorem GB.found {n : Nat} {W : World} {va vb : Value} {s t a b : Int} (h : GB n W va vb s t a b) (x y : Int) : GB n ((W.setCell ⟨n + 1 + 1 + 1, 0, none⟩ (.int .i64 x)).setCell ⟨n + 1 + 1 + 1 + 1, 0, none⟩ (.int .i64 y)).drew va vb s t x y := by
  have k : ∀ {j : Nat} {o : Obj}, W.heap[j]? = some o → j ≠ n + 3 → j ≠ n + 4 → ((W.setCell ⟨n + 1 + 1 + 1, 0, none⟩ (.int .i64 x)).setCell ⟨n + 1 + 1 + 1 + 1, 0, none⟩ (.int .i64 y)).drew.heap[j]? = some o := fun h e1 e2 => ((Below.heap_setCell _ _ _ _ (by simp; omega)).trans (Below.heap_setCell _ _ _ _ (by simp; omega))).trans h
  refine ⟨k h.1 (by omega) (by omega), k h.2 (by omega) (by omega), k h.3 (by omega) (by omega), ?_, ?_, k h.6 (by omega) (by omega)⟩
  · have := heap_setCell_same W (n + 3) 0 _ _ (.int .i64 x) h.4
    exact (Below.heap_setCell _ _ _ _ (by simp)).trans (by simpa using this)
  · have e : (W.setCell ⟨n + 1 + 1 + 1, 0, none⟩ (.int .i64 x)).heap[n + 4]? = some (.cells #[.int .i64 b] 3 (0, 0)) := (Below.heap_setCell _ _ _ _ (by simp)).trans h.5
    have := heap_setCell_same _ (n + 4) 0 _ _ (.int .i64 y) e
    simp at this
    exact this
theorem keeps_set {B : Nat} {W : World} {p : Nat} {cs : Array Value} {t : TypeId} {u : Nat × Nat} (h : W.heap[p]? = some (.cells cs t u)) (o : Nat) (v : Value) : KeepsFrom B W (W.setCell ⟨p, o, none⟩ v) := by
  refine ⟨by simp [World.setCell], fun k ob _ hk ho => (Below.heap_setCell _ _ _ _ (fun e => ?_)).trans hk⟩
  simp only at e
  subst e
  rw [h] at hk
  cases hk
  cases ho
theorem up_back (l : List Ges) : (dnL l.length).map (fun y => l[y.1]'y.2) = l.reverse := by
  unfold dnL
  rw [List.map_reverse]
  congr 1
  apply List.ext_getElem
  · simp [upL_length]
  · intro i h1 h2
    rw [List.getElem_map, upL_get]
theorem find_none {l : List Ges} {s t : Int} (h : ∀ y ∈ dnL l.length, hitG s t (l[y.1]'y.2) = false) : l.reverse.find? (hitG s t) = none := by
  rw [← up_back, List.find?_eq_none]
  intro x hx
  obtain ⟨y, hy, rfl⟩ := List.mem_map.1 hx
  simp [h y hy]
theorem find_some {l : List Ges} {s t : Int} {pre : List (UpTo l.length)} {y : UpTo l.length} (hp : pre ++ [y] <+: dnL l.length) (h : ∀ z ∈ pre, hitG s t (l[z.1]'z.2) = false) (hy : hitG s t (l[y.1]'y.2) = true) : l.reverse.find? (hitG s t) = some (l[y.1]'y.2) := by
  obtain ⟨rest, hr⟩ := hp
  rw [← up_back, ← hr]
  simp only [List.map_append, List.find?_append, List.map_cons, List.map_nil]
  have : (pre.map (fun y => l[y.1]'y.2)).find? (hitG s t) = none := by
    rw [List.find?_eq_none]
    intro x hx
    obtain ⟨z, hz, rfl⟩ := List.mem_map.1 hx
    simp [h z hz]
  rw [this]
  simp [List.find?_cons, hy]
theorem ret_goal {tmps : Array Value} {w : World} {p q : Nat} {x y : Int} (h6 : tmps.getD 6 undef = .pointer (some ⟨p, 0, none⟩)) (h7 : tmps.getD 7 undef = .pointer (some ⟨q, 0, none⟩)) (hx : w.cell? ⟨p, 0, none⟩ = some (.int .i64 x)) (hy : w.cell? ⟨q, 0, none⟩ = some (.int .i64 y)) : (results Try.f100 tmps).run Try.prog w = .ok (.tuple #[.int .i64 x, .int .i64 y]) w := by
  have e6 : tmps[6]?.getD undef = .pointer (some ⟨p, 0, none⟩) := by simpa using h6
  have e7 : tmps[7]?.getD undef = .pointer (some ⟨q, 0, none⟩) := by simpa using h7
  have hr : Try.f100.results = #[.cell 6 3, .cell 7 3] := rfl
  simp [results, hr, go_sem, e6, e7, hx, hy, asAddr, Result.andThen]
theorem bx_new {W : World} {t b : Nat} {v : Value} (h : W.heap.size = b) : Boxed (W.alloc (.cells #[v] t)) b t v := by subst h; exact Boxed.new _ _ _
set_option maxRecDepth 100000 in
set_option maxHeartbeats 4000000 in
theorem goal_any (rest : List Int) (l : List Ges) (s t : Nat) (va vb : Value) (w : World) (ha : SliceV w va 1 IntAt rest) (hb : SliceV w vb 6 GesAt l) (hs : s < rest.length) (hr : rest.length ≤ 24) (hl : l.length ≤ 100) (hok : l.all (gesOk rest.length) = true) :
    Calls Try.prog 100 #[.agg #[va, vb], .int .i64 s, .int .i64 t] w fun e w' => e = .returned (.tuple #[.int .i64 (golG rest l s t).1, .int .i64 (golG rest l s t).2]) ∧ Below w.heap.size w w' := by
  have HA := Lib.hid ha
  have HBV := Lib.hid hb
  have HOK := Lib.hid hok
  obtain ⟨a, c, rfl, -, -⟩ := ha
  obtain ⟨b, d, rfl, -, -⟩ := hb
  refine (callsIn_wide (n := 6)).1 ?_
  refine callsIn_of_wp_marks Try.func100 rfl trivial ?_ rfl
  simp only [Try.ntmps100, List.size_toArray, List.length_cons, List.length_nil, Nat.reduceAdd, Nat.reduceSub, Array.replicate_succ, Array.replicate_zero, List.push_toArray, List.append_toArray, List.nil_append, List.cons_append]
  gi_wp2_with (first
    | (refine ⟨trivial, ?_⟩; gi_at_call 109; refine (callsIn_wide.2 (backward_any _ _ _ _)).mono ?_; rintro e w2 ⟨rfl, rfl⟩))
  obtain ⟨n, hn⟩ : ∃ n, n = w.heap.size := ⟨_, rfl⟩
  rw [← hn]
  generalize hW4 : World.alloc (World.alloc (World.alloc (World.alloc (World.alloc (World.alloc w _) _) _) _) _) _ = W4
  have hGB : GB n W4 (.slice a rest.length c) (.slice b l.length d) s t 0 0 := by
    rw [← hW4, hn]
    refine ⟨?_, ?_, ?_, ?_, ?_, ?_⟩
    · exact heap_keep (bAlloc (bAlloc (bAlloc (bAlloc (bAlloc (Below.refl _ _) _) _) _) _) _) (World.alloc_heap_new w _)
    · exact heap_keep (bAlloc (bAlloc (bAlloc (bAlloc (Below.refl _ _) _) _) _) _) (bx_new (by rw [World.size_alloc]))
    · exact heap_keep (bAlloc (bAlloc (bAlloc (Below.refl _ _) _) _) _) (bx_new (by rw [World.size_alloc, World.size_alloc]))
    · exact heap_keep (bAlloc (bAlloc (Below.refl _ _) _) _) (bx_new (by rw [World.size_alloc, World.size_alloc, World.size_alloc]))
    · exact heap_keep (bAlloc (Below.refl _ _) _) (bx_new (by rw [World.size_alloc, World.size_alloc, World.size_alloc, World.size_alloc]))
    · exact bx_new (by rw [World.size_alloc, World.size_alloc, World.size_alloc, World.size_alloc, World.size_alloc])
  have hB4 : Below n w W4 := by rw [← hW4, hn]; exact bAlloc (bAlloc (bAlloc (bAlloc (bAlloc (bAlloc (Below.refl _ _) _) _) _) _) _) _
  have hsz : n + 6 = W4.heap.size := by rw [← hW4, hn]; simp
  clear hW4
  have HN := Lib.hid hn.symm
  clear hn
  refine wpIn_range_kept (P := Try.prog) (n := 6) (by omega) (gf := 112) (lb := #[.pointer (some ⟨n + 5, 0, none⟩)]) rfl (enters_of Try.func112 (by kernel_rfl) rfl)
    (back_says 5 l (n + 5) n _ w W4 (by omega) HN.out HBV.out hGB.li hB4 (by omega)) (fun h k => h.trans k) (fun W lo o o' hlo ho hc _ => KpG.putObj W lo o o' (by omega) ho hc) (Below.refl _ _) (fun _ => rfl)
    (fun pre W => GB n W (.slice a rest.length c) (.slice b l.length d) s t 0 0 ∧ (∀ y ∈ pre, hitG s t (l[y.1]'y.2) = false) ∧ Below n w W)
    (fun pre W => (∃ pre' y, pre = pre' ++ [y] ∧ (∀ z ∈ pre', hitG s t (l[z.1]'z.2) = false) ∧ hitG s t (l[y.1]'y.2) = true ∧ GB n W (.slice a rest.length c) (.slice b l.length d) s t (l[y.1]'y.2).area (l[y.1]'y.2).speed) ∧ Below n w W)
    ?hI ?hIx ?h0
    (fun x a' W => ∃ gb : Nat, n + 6 ≤ gb ∧ W.heap[gb]? = some (.cells #[.int .i64 (l[x.1]'x.2).fst, .int .i64 (l[x.1]'x.2).lst, .int .i64 (l[x.1]'x.2).beg, .int .i64 (l[x.1]'x.2).fin, .int .i64 (l[x.1]'x.2).area, .int .i64 (l[x.1]'x.2).speed] 76 (0, 0)) ∧ a' = { tmps := #[.agg #[.slice a rest.length c, .slice b l.length d], .int .i64 s, .int .i64 t, .pointer (some ⟨n, 0, none⟩), .pointer (some ⟨n + 1, 0, none⟩), .pointer (some ⟨n + 1 + 1, 0, none⟩), .pointer (some ⟨n + 1 + 1 + 1, 0, none⟩), .pointer (some ⟨n + 1 + 1 + 1 + 1, 0, none⟩), undef, .pointer (some ⟨gb, 0, none⟩), .pointer (some ⟨n, 1, none⟩), .slice b l.length d, .func (.func 112) #[] #[.pointer (some ⟨n + 1 + 1 + 1 + 1 + 1, 0, none⟩)], .int .i64 (x.1 : Int), (l[x.1]'x.2).agg, undef, undef, undef, undef, undef, undef, undef, undef, undef, undef, undef, undef, undef, undef, undef, undef, undef, undef, undef, undef, undef, undef, undef, undef], defers := [] })
    ?hAx ?assign ?body ?done ?stop
  case hI => exact fun pre W W' row h hg hr => ⟨h.1.own hg (fun r e => (hr r e).2), h.2.1, (ownFrom_below (B := W4.heap.size) (by rw [HN.out]; exact Nat.le_refl _) (by omega) : OwnFrom W4.heap.size (fun (_ : Unit) W => Below n w W)) () W W' row h.2.2 hg hr⟩
  case hIx =>
    rintro pre W W' row ⟨⟨pre', y, e1, e2, e3, e4⟩, h2⟩ hg hr
    exact ⟨⟨pre', y, e1, e2, e3, e4.own hg (fun r e => (hr r e).2)⟩, (ownFrom_below (B := W4.heap.size) (by rw [HN.out]; exact Nat.le_refl _) (by omega) : OwnFrom W4.heap.size (fun (_ : Unit) W => Below n w W)) () W W' row h2 hg hr⟩
  case h0 => exact ⟨hGB, by simp, hB4⟩
  case hAx =>
    rintro x a' _ W W' row ⟨gb, e1, e2, e3⟩ hg hr
    exact ⟨gb, e1, entry_kept e2 rfl hg (fun r e => (hr r e).2), e3⟩
  case assign =>
    rintro lo pre x W K ⟨hi, hp, hB⟩ hK
    have hz : n + 6 ≤ W.heap.size := by have := hi.li.lt; omega
    have HX := Lib.hid (World.alloc_heap_new W (.cells #[.int .i64 (l[x.1]'x.2).fst, .int .i64 (l[x.1]'x.2).lst, .int .i64 (l[x.1]'x.2).beg, .int .i64 (l[x.1]'x.2).fin, .int .i64 (l[x.1]'x.2).area, .int .i64 (l[x.1]'x.2).speed] 76))
    have HI := Lib.hid hi
    have HP := Lib.hid hp
    have HBX := Lib.hid hB
    clear hi hp hB
    dsimp only [encG, Ges.agg]
    gi_wp2
    exact hK _ _ ((others_below (bAlloc (Below.refl _ _) _)).from _) ⟨fun _ h => h.alloc _, bAlloc' (Below.refl _ _) (by omega) _⟩ ⟨HI.out.below (bAlloc (Below.refl _ _) _), HP.out, bAlloc' HBX.out (by omega) _⟩ ⟨_, hz, HX.out, rfl⟩
  case body =>
    rintro lo pre x a' W ⟨hi, hp, hB⟩ ⟨gb, hgb, hgx, rfl⟩ hlen
    obtain ⟨x, hx⟩ := x
    simp only at hgx ⊢
    have hg := List.all_eq_true.1 HOK.out _ (List.getElem_mem hx)
    have HIF : Hid (hitG s t l[x] = hitG s t l[x]) := Lib.hid rfl
    have hgo : 0 ≤ l[x].fin ∧ l[x].fin ≤ 100000 := by
      simp only [gesOk, Bool.and_eq_true, betw_iff] at hg
      exact hg.1.1.1.2
    clear hg
    have HX0 := Lib.hid (fun (h : hitG s t l[x] = false) => show ∀ y ∈ pre ++ [(⟨x, hx⟩ : UpTo l.length)], hitG s t (l[y.1]'y.2) = false from fun y hy => by
      rcases List.mem_append.1 hy with h1 | h1
      · exact hp y h1
      · simp at h1; subst h1; exact h)
    have HX1 := Lib.hid (fun (h : hitG s t l[x] = true) (W2 : World) (h2 : GB n W2 (.slice a rest.length c) (.slice b l.length d) s t l[x].area l[x].speed) => show ∃ pre' y, pre ++ [(⟨x, hx⟩ : UpTo l.length)] = pre' ++ [y] ∧ (∀ z ∈ pre', hitG s t (l[z.1]'z.2) = false) ∧ hitG s t (l[y.1]'y.2) = true ∧ GB n W2 (.slice a rest.length c) (.slice b l.length d) s t (l[y.1]'y.2).area (l[y.1]'y.2).speed from ⟨pre, ⟨x, hx⟩, rfl, hp, h, h2⟩)
    clear HIF hp
    generalize l[x] = g at *
    obtain ⟨g0, g1, g2, g3, g4, g5⟩ := g
    simp only at hgx hgo HX1
    have q0 := cell_of_heap (j := 0) hgx (show 0 < 6 by omega)
    have q1 := cell_of_heap (j := 1) hgx (show 1 < 6 by omega)
    have q2 := cell_of_heap (j := 2) hgx (show 2 < 6 by omega)
    have q3 := cell_of_heap (j := 3) hgx (show 3 < 6 by omega)
    have q4 := cell_of_heap (j := 4) hgx (show 4 < 6 by omega)
    have q5 := cell_of_heap (j := 5) hgx (show 5 < 6 by omega)
    simp at q0 q1 q2 q3 q4 q5
    have lq := cell_lt q0
    have s1 : W.cell? ⟨n + 1, 0, none⟩ = some (.int .i64 (s : Int)) := hi.se.cell
    have s2 : W.cell? ⟨n + 1 + 1, 0, none⟩ = some (.int .i64 (t : Int)) := hi.ti.cell
    have s3 : W.cell? ⟨n + 1 + 1 + 1, 0, none⟩ = some (.int .i64 0) := hi.ga.cell
    have s4 : W.cell? ⟨n + 1 + 1 + 1 + 1, 0, none⟩ = some (.int .i64 0) := hi.gs.cell
    have f3 : W.frozen? ⟨n + 1 + 1 + 1, 0, none⟩ = false := hi.ga.frozen
    have f4 : W.frozen? ⟨n + 1 + 1 + 1 + 1, 0, none⟩ = false := hi.gs.frozen
    have l4 : n + 1 + 1 + 1 + 1 < W.heap.size := hi.gs.lt
    obtain ⟨gf, hgf⟩ : ∃ gf, g3 - 1 = gf := ⟨_, rfl⟩
    have u1 : IntKind.i64.wrap (g3 - 1) = gf := by rw [IntWalk.i64_in _ (by omega)]; exact hgf
    have HH : Hid (hitG s t ⟨g0, g1, g2, g3, g4, g5⟩ = (betw s g0 g1 && betw t g2 gf)) := Lib.hid (by unfold hitG; rw [hgf])
    have HI := Lib.hid hi
    have HBX := Lib.hid hB
    have HGX := Lib.hid hgx
    have H1 := Lib.hid (fun (m : Nat) W => CallsIn.inRound (n := m) lo (callsIn_wide.2 (between_any s g0 g1 W)))
    have H2 := Lib.hid (fun (m : Nat) W => CallsIn.inRound (n := m) lo (callsIn_wide.2 (between_any t g2 gf W)))
    clear hi hB hgx hgf hgo hlen
    cases h1 : betw s g0 g1
    · rw [h1] at H1 HH
      clear h1
      gi_wp2_with (refine ⟨trivial, ?_⟩; gi_at_call 71; with_reducible refine (H1.out _ _).mono ?_; rintro e w1 ⟨rfl, rfl⟩)
      refine ⟨trivial, ?_⟩
      gi_wp2
      exact ⟨KeepsFrom.refl _ _, ⟨fun _ h => h, Below.refl _ _⟩, HI.out, HX0.out (by rw [HH.out]; rfl), HBX.out⟩
    · rw [h1] at H1 HH
      clear h1
      cases h2 : betw t g2 gf
      · rw [h2] at H2 HH
        clear h2
        gi_wp2_with (first
          | (refine ⟨trivial, ?_⟩; gi_at_call 71; with_reducible refine (H1.out _ _).mono ?_; rintro e w1 ⟨rfl, rfl⟩)
          | (refine ⟨trivial, ?_⟩; gi_at_call 71; with_reducible refine (H2.out _ _).mono ?_; rintro e w1 ⟨rfl, rfl⟩))
        exact ⟨KeepsFrom.refl _ _, ⟨fun _ h => h, Below.refl _ _⟩, HI.out, HX0.out (by rw [HH.out]; rfl), HBX.out⟩
      · rw [h2] at H2 HH
        clear h2
        gi_wp2_with (first
          | (refine ⟨trivial, ?_⟩; gi_at_call 71; with_reducible refine (H1.out _ _).mono ?_; rintro e w1 ⟨rfl, rfl⟩)
          | (refine ⟨trivial, ?_⟩; gi_at_call 71; with_reducible refine (H2.out _ _).mono ?_; rintro e w1 ⟨rfl, rfl⟩))
        have HG2 := Lib.hid (HI.out.found g4 g5)
        have HK2 : Hid (KeepsFrom W4.heap.size W ((W.setCell ⟨n + 1 + 1 + 1, 0, none⟩ (.int .i64 g4)).setCell ⟨n + 1 + 1 + 1 + 1, 0, none⟩ (.int .i64 g5)).drew) := Lib.hid (by
          have h1 := keeps_set (B := W4.heap.size) HI.out.ga 0 (.int .i64 g4)
          have e : (W.setCell ⟨n + 1 + 1 + 1, 0, none⟩ (.int .i64 g4)).heap[n + 4]? = some (.cells #[.int .i64 0] 3 (0, 0)) := (Below.heap_setCell _ _ _ _ (by simp)).trans HI.out.gs
          have h2 := keeps_set (B := W4.heap.size) e 0 (.int .i64 g5)
          exact (h1.trans h2).trans ((KeepsOthers.drew _).from _))
        have HP2 : Hid (KpG n (n + 5) W ((W.setCell ⟨n + 1 + 1 + 1, 0, none⟩ (.int .i64 g4)).setCell ⟨n + 1 + 1 + 1 + 1, 0, none⟩ (.int .i64 g5)).drew) := Lib.hid ⟨fun v hv => ((Below.heap_setCell _ _ _ _ (by simp)).trans (Below.heap_setCell _ _ _ _ (by simp))).trans hv, (((Below.refl n W).setCell (p := ⟨n + 1 + 1 + 1, 0, none⟩) (by simp; omega) _).setCell (p := ⟨n + 1 + 1 + 1 + 1, 0, none⟩) (by simp; omega) _).drew⟩
        have HB2 : Hid (Below n w ((W.setCell ⟨n + 1 + 1 + 1, 0, none⟩ (.int .i64 g4)).setCell ⟨n + 1 + 1 + 1 + 1, 0, none⟩ (.int .i64 g5)).drew) := Lib.hid (HBX.out.trans HP2.out.low)
        gi_region
        all_goals
          gi_wp2
          exact ⟨HK2.out, HP2.out, HX1.out (by rw [HH.out]; rfl) _ HG2.out, HB2.out⟩
  case done =>
    rintro D W hD ⟨hi, hp, hB⟩ hK
    have hB2 : Below w.heap.size w W := by rw [HN.out]; exact hB
    have hal := HA.out.keep IntAt.stable hB2
    obtain ⟨b0, o0, rfl, hf⟩ := hal.at (by intro h; simp [h] at hs)
    have r0 := hf s hs
    unfold IntAt at r0
    rw [Nat.mul_one] at r0
    obtain ⟨rv, hrv⟩ : ∃ rv, rest[s] = rv := ⟨_, rfl⟩
    rw [hrv] at r0
    have HGO : Hid (golG rest l s t = (rv, 100)) := Lib.hid (by
      unfold golG
      rw [find_none hp, gI hs, hrv])
    have e0 : W.cell? ⟨n, 0, none⟩ = some (.slice (some ⟨b0, o0, none⟩) rest.length c) := by have := cell_of_heap hi.sc (show 0 < 2 by omega); simpa using this
    have s1 : W.cell? ⟨n + 1, 0, none⟩ = some (.int .i64 (s : Int)) := hi.se.cell
    have s3 : W.cell? ⟨n + 1 + 1 + 1, 0, none⟩ = some (.int .i64 0) := hi.ga.cell
    have s4 : W.cell? ⟨n + 1 + 1 + 1 + 1, 0, none⟩ = some (.int .i64 0) := hi.gs.cell
    have f3 : W.frozen? ⟨n + 1 + 1 + 1, 0, none⟩ = false := hi.ga.frozen
    have f4 : W.frozen? ⟨n + 1 + 1 + 1 + 1, 0, none⟩ = false := hi.gs.frozen
    have l4 : n + 1 + 1 + 1 + 1 < W.heap.size := hi.gs.lt
    have lr := cell_lt r0
    have hss : (s : Int) < (rest.length : Int) := by omega
    have HI := Lib.hid hi
    have HBX := Lib.hid hB
    have HKD := Lib.hid hK
    have HNW := Lib.hid hsz
    have HG2 := Lib.hid (hi.found rv 100)
    have HND : Hid (D ≠ n + 3 ∧ D ≠ n + 4) := Lib.hid (by omega)
    clear hp hB hB2 hK hal hf hi hrv hsz
    gi_wp2
    have hKU : ((W.setCell ⟨n + 1 + 1 + 1, 0, none⟩ (.int .i64 rv)).setCell ⟨n + 1 + 1 + 1 + 1, 0, none⟩ (.int .i64 100)).heap[D]? = some (.deferred (some [])) := ((Below.heap_setCell _ _ _ _ HND.out.2).trans (Below.heap_setCell _ _ _ _ HND.out.1)).trans HKD.out
    refine ⟨by simp, .inl ⟨_, _, rfl, run_takeDeferred hKU, ?_⟩⟩
    have hg := GB.own (W' := ((W.setCell ⟨n + 1 + 1 + 1, 0, none⟩ (.int .i64 rv)).setCell ⟨n + 1 + 1 + 1 + 1, 0, none⟩ (.int .i64 100)).putObj D (.deferred none)) (W := (W.setCell ⟨n + 1 + 1 + 1, 0, none⟩ (.int .i64 rv)).setCell ⟨n + 1 + 1 + 1 + 1, 0, none⟩ (.int .i64 100)) ⟨HG2.out.1, HG2.out.2, HG2.out.3, HG2.out.4, HG2.out.5, HG2.out.6⟩ (grownBy_putObj' _ D _) (fun r e => by cases e; exact ⟨_, hKU, rfl⟩)
    have hBU : Below n w ((W.setCell ⟨n + 1 + 1 + 1, 0, none⟩ (.int .i64 rv)).setCell ⟨n + 1 + 1 + 1 + 1, 0, none⟩ (.int .i64 100)) := (HBX.out.setCell (p := ⟨n + 1 + 1 + 1, 0, none⟩) (by simp; omega) _).setCell (p := ⟨n + 1 + 1 + 1 + 1, 0, none⟩) (by simp; omega) _
    have hB' : Below n w (((W.setCell ⟨n + 1 + 1 + 1, 0, none⟩ (.int .i64 rv)).setCell ⟨n + 1 + 1 + 1 + 1, 0, none⟩ (.int .i64 100)).putObj D (.deferred none)) := hBU.trans (belowK_b (w := w) (by rw [HN.out]; exact Nat.le_refl _) _ D _ _ (by have := HN.out; have := HNW.out; omega) hKU rfl rfl)
    refine ⟨_, ret_goal (p := n + 3) (q := n + 4) rfl rfl hg.ga.cell hg.gs.cell, ?_, by rw [HN.out]; exact hB'⟩
    rw [HGO.out]
  case stop =>
    rintro D pre W hD hpre ⟨⟨pre', y, e1, e2, e3, e4⟩, hB⟩ hK
    have HGO := find_some (by rw [← e1]; exact hpre) e2 e3
    have HGO2 : Hid (golG rest l s t = ((l[y.1]'y.2).area, (l[y.1]'y.2).speed)) := Lib.hid (by unfold golG; rw [HGO])
    have HE4 := Lib.hid e4
    have HBX := Lib.hid hB
    have HKD := Lib.hid hK
    have HNW := Lib.hid hsz
    clear HGO e1 e2 e3 e4 hB hK hpre
    gi_wp2
    refine ⟨by simp, .inl ⟨_, _, rfl, run_takeDeferred HKD.out, ?_⟩⟩
    have hg := GB.own (W' := W.putObj D (.deferred none)) HE4.out (grownBy_putObj' _ D _) (fun r e => by cases e; exact ⟨_, HKD.out, rfl⟩)
    have hB' : Below n w (W.putObj D (.deferred none)) := HBX.out.trans (belowK_b (w := w) (by rw [HN.out]; exact Nat.le_refl _) _ D _ _ (by have := HN.out; have := HNW.out; omega) HKD.out rfl rfl)
    refine ⟨_, ret_goal (p := n + 3) (q := n + 4) rfl rfl hg.ga.cell hg.gs.cell, ?_, by rw [HN.out]; exact hB'⟩
    rw [HGO2.out]
end Go.Proofs.Ytbmbcbknoflpgaa
namespace Go.Proofs.Ytbmbcbknoflpgaa
open Go.RowKit

@[go_sem] theorem run_store_func {P : Program} {w : World} {a : Addr} {m : Mode} (f : Fn) (x y : Array Value) : (store a (.func f x y) m).run P w = stored P w a (.func f x y) m := run_store P w a _ m rfl
theorem infoFn : (Try.prog.info? 106).map (fun i => (i.zero, i.size, i.bytes)) = some (some .nilFunc, 1, 8) := by kernel_rfl
theorem makeF (n : Nat) (hn : n ≤ 1000) (W : World) : (Instr.makeSlice 149 (.int .i64 (n : Int)) (.int .i64 (n : Int))).run Try.prog W = .ok (.slice (some ⟨W.heap.size, 0, none⟩) n n) (W.alloc (.cells (madeCells #[Value.nilFunc] n) 106)) := by
  obtain ⟨i3, hi3, hz3, hs3, hb3⟩ := info_parts infoFn
  have h := run_makeSlice (P := Try.prog) (w := W) 149 106 i3 _ Try.underlying149 hi3 hz3 .i64 .i64 (n : Int) (n : Int) (by omega) (by omega) (by rw [hs3]; omega) (by rw [hb3]; omega) (by omega)
  rw [hs3] at h
  simpa [Value.cells] using h
/-- The walls of sections: what moves each of them, and where it and its follower are. -/
structure Walls (w : World) (g n : Nat) (X Y : Nat → Int) : Prop where
  row : w.rowIs g 106 n (fun k => .func (.func 108) #[.pointer (some ⟨g + 1 + k, 0, none⟩)] #[])
  wall : ∀ k, k < n → w.heap[g + 1 + k]? = some (.cells #[.int .i64 (X k), .int .i64 (Y k)] 169 (0, 0))
set_option maxRecDepth 10000 in
set_option maxHeartbeats 4000000 in
theorem moves_any (rest : List Int) (va vb : Value) (w : World) (ha : SliceV w va 1 IntAt rest) (hr : rest.length ≤ 24) :
    Calls Try.prog 99 #[.agg #[va, vb]] w fun e w' => (∃ g, e = .returned (.slice (some ⟨g, 0, none⟩) rest.length rest.length) ∧ w.heap.size ≤ g ∧ Walls w' g rest.length (fun k => rest.getD k 0) (fun k => rest.getD k 0)) ∧ Below w.heap.size w w' := by
  have HA := Lib.hid ha
  obtain ⟨a, c, rfl, -⟩ := ha
  have hmk := makeF rest.length (by omega)
  have HB1 := Lib.hid (bAlloc (Below.refl w.heap.size w) (.cells #[.slice a rest.length c, vb] 120))
  have C0 : Hid ((w.alloc (.cells #[.slice a rest.length c, vb] 120)).cell? ⟨w.heap.size, 0, none⟩ = some (.slice a rest.length c)) := Lib.hid (cell_new rfl)
  have HB2 := Lib.hid (bAlloc HB1.out (.cells (madeCells #[Value.nilFunc] rest.length) 106))
  have HR0 := Lib.hid (World.rowIs_made (w.alloc (.cells #[.slice a rest.length c, vb] 120)) .nilFunc rest.length 106)
  have HC0 : Hid (((w.alloc (.cells #[.slice a rest.length c, vb] 120)).alloc (.cells (madeCells #[Value.nilFunc] rest.length) 106)).cell? ⟨w.heap.size, 0, none⟩ = some (.slice a rest.length c)) := Lib.hid (keep (bAlloc (Below.refl _ _) _) C0.out)
  have HG : Hid ((w.alloc (.cells #[.slice a rest.length c, vb] 120)).heap.size = w.heap.size + 1) := Lib.hid (by rw [World.size_alloc])
  have HG2 : Hid (((w.alloc (.cells #[.slice a rest.length c, vb] 120)).alloc (.cells (madeCells #[Value.nilFunc] rest.length) 106)).heap.size = w.heap.size + 1 + 1) := Lib.hid (by rw [World.size_alloc, World.size_alloc])
  rw [HG.out] at HR0
  clear HG
  go_enter Try.func99, Try.ntmps99
  go_wp2_with fail
  generalize World.alloc (World.alloc w _) _ = W2 at *
  obtain ⟨g, hg⟩ : ∃ g, w.heap.size + 1 = g := ⟨_, rfl⟩
  rw [hg] at HR0 HG2 ⊢
  have HGW := Lib.hid hg
  clear hg C0 HB1
  have HR1 : Hid (W2.rowIs g 106 rest.length (fun j => if j < 0 then .func (.func 108) #[.pointer (some ⟨g + 1 + j, 0, none⟩)] #[] else .nilFunc)) := Lib.hid (HR0.out.congr fun j _ => by simp)
  go_loopw [14] (fun i wr => ∃ k : Nat, k ≤ rest.length ∧ i = .int .i64 k ∧ Hid (wr.heap.size = g + 1 + k) ∧ Hid (wr.rowIs g 106 rest.length (fun j => if j < k then .func (.func 108) #[.pointer (some ⟨g + 1 + j, 0, none⟩)] #[] else .nilFunc)) ∧ Hid (∀ j, j < k → wr.heap[g + 1 + j]? = some (.cells #[.int .i64 (rest.getD j 0), .int .i64 (rest.getD j 0)] 169 (0, 0))) ∧ Hid (Below w.heap.size w wr)) (fun i _ => rest.length - (intOf i).toNat)
  case atStart => exact ⟨0, Nat.zero_le _, rfl, HG2, HR1, Lib.hid (by intro j hj; omega), HB2⟩
  case round =>
    clear HR1 HR0 HG2 HB2 HC0
    obtain ⟨k, hk, rfl, HZ, HR, HWL, HB⟩ := hrel
    by_cases hlt : k < rest.length
    · obtain ⟨b, o, rfl, hf⟩ := (HA.out.keep IntAt.stable HB.out).at (by intro h; simp [h] at hlt)
      have k0 := hf k hlt
      unfold IntAt at k0
      rw [Nat.mul_one, ← gI hlt] at k0
      have hkb := cell_lt k0
      have hkk : (k : Int) < (rest.length : Int) := by omega
      have c0 := HR.out.cell (i := k) hlt
      rw [if_neg (Nat.lt_irrefl k)] at c0
      have z0 := HR.out.frozen k
      have hgl := HR.out.lt
      obtain ⟨x, hx⟩ : ∃ x, rest.getD k 0 = x := ⟨_, rfl⟩
      rw [hx] at k0
      have HX := Lib.hid hx
      have HR2 : Hid (((wr.setCell ⟨g, k, none⟩ (.func (.func 108) #[.pointer (some ⟨wr.heap.size, 0, none⟩)] #[])).alloc (.cells #[.int .i64 x, .int .i64 x] 169)).rowIs g 106 rest.length (fun j => if j < k + 1 then .func (.func 108) #[.pointer (some ⟨g + 1 + j, 0, none⟩)] #[] else .nilFunc)) := Lib.hid (((HR.out.set k (.func (.func 108) #[.pointer (some ⟨wr.heap.size, 0, none⟩)] #[])).congr fun j _ => by
        by_cases hj : j = k
        · subst hj
          rw [if_pos rfl, if_pos (by omega), HZ.out]
        · rw [if_neg hj]
          by_cases hj2 : j < k
          · rw [if_pos hj2, if_pos (by omega)]
          · rw [if_neg hj2, if_neg (by omega)]).alloc _)
      have HZ2 : Hid (((wr.setCell ⟨g, k, none⟩ (.func (.func 108) #[.pointer (some ⟨wr.heap.size, 0, none⟩)] #[])).alloc (.cells #[.int .i64 x, .int .i64 x] 169)).heap.size = g + 1 + (k + 1)) := Lib.hid (by rw [World.size_alloc]; simp [World.setCell, HZ.out]; omega)
      have HW2 : Hid (∀ j, j < k + 1 → ((wr.setCell ⟨g, k, none⟩ (.func (.func 108) #[.pointer (some ⟨wr.heap.size, 0, none⟩)] #[])).alloc (.cells #[.int .i64 x, .int .i64 x] 169)).heap[g + 1 + j]? = some (.cells #[.int .i64 (rest.getD j 0), .int .i64 (rest.getD j 0)] 169 (0, 0))) := Lib.hid (fun j hj => by
        by_cases hj2 : j < k
        · refine heap_keep (bAlloc (Below.refl _ _) _) ((Below.heap_setCell _ _ _ _ (by simp; omega)).trans (HWL.out j hj2))
        · obtain rfl : j = k := by omega
          have := World.alloc_heap_new (wr.setCell ⟨g, j, none⟩ (.func (.func 108) #[.pointer (some ⟨wr.heap.size, 0, none⟩)] #[])) (.cells #[.int .i64 x, .int .i64 x] 169)
          have e : (wr.setCell ⟨g, j, none⟩ (.func (.func 108) #[.pointer (some ⟨wr.heap.size, 0, none⟩)] #[])).heap.size = g + 1 + j := by simp [World.setCell, HZ.out]
          rw [e] at this
          rw [this, HX.out])
      have HB3 : Hid (Below w.heap.size w ((wr.setCell ⟨g, k, none⟩ (.func (.func 108) #[.pointer (some ⟨wr.heap.size, 0, none⟩)] #[])).alloc (.cells #[.int .i64 x, .int .i64 x] 169))) := Lib.hid (bAlloc' (HB.out.setCell (p := ⟨g, k, none⟩) (by have := HGW.out; simp; omega) _) (by have := HB.out.size; simp [World.setCell]; omega) _)
      clear hx hf
      go_wp2_with fail
      go_roundw
      case rel => exact ⟨k + 1, by omega, by go_num, HZ2, HR2, HW2, HB3⟩
      case measure => simp [intOf]; omega
    · obtain rfl : k = rest.length := by omega
      go_wp2_with fail
      go_ret
      exact ⟨⟨g, rfl, by have := HGW.out; omega, HR.out.congr fun j hj => by rw [if_pos hj], HWL.out⟩, HB.out⟩
end Go.Proofs.Ytbmbcbknoflpgaa
namespace Go.Proofs.Ytbmbcbknoflpgaa
open Go.RowKit

/-- What an iterator with walls does between its rounds: nothing but walls turns, and those above B alone. -/
structure Stp (B : Nat) (W W' : World) : Prop where
  os : W'.os = W.os
  tape : W'.tape = W.tape
  output : W'.output = W.output
  size : W.heap.size ≤ W'.heap.size
  low : ∀ k, k < B → k < W.heap.size → W'.heap[k]? = W.heap[k]?
  same : ∀ (k : Nat) (o : Obj), W.heap[k]? = some o → (∀ (cs : Array Value) (u : Nat × Nat), o ≠ Obj.cells cs 169 u) → W'.heap[k]? = some o
theorem Stp.mono {B B2 : Nat} {W W' : World} (h : Stp B W W') (hb : B2 ≤ B) : Stp B2 W W' := ⟨h.1, h.2, h.3, h.4, fun k hk => h.5 k (by omega), h.6⟩
theorem Stp.refl (B : Nat) (W : World) : Stp B W W := ⟨rfl, rfl, rfl, Nat.le_refl _, fun _ _ _ => rfl, fun _ _ h _ => h⟩
theorem Stp.trans {B : Nat} {X Y Z : World} (h : Stp B X Y) (k : Stp B Y Z) : Stp B X Z :=
  ⟨k.1.trans h.1, k.2.trans h.2, k.3.trans h.3, Nat.le_trans h.4 k.4, fun i hi hx => (k.5 i hi (Nat.lt_of_lt_of_le hx h.4)).trans (h.5 i hi hx), fun i o hi ho => k.6 i o (h.6 i o hi ho) ho⟩
theorem Stp.of_below {B : Nat} {W W' : World} (h : Below W.heap.size W W') : Stp B W W' :=
  ⟨h.os, h.tape, h.output, h.size, fun k _ hk => h.block k hk, fun k o hk _ => heap_keep h hk⟩
theorem Stp.of_wall {B b : Nat} {W W' : World} {cs : Array Value} (h : W.grownBy W' (some b)) (hb : B ≤ b) (hc : W.heap[b]? = some (.cells cs 169 (0, 0))) : Stp B W W' :=
  ⟨h.os, h.tape, h.output, h.size, fun k hk hx => h.block k hx (fun e => by cases e; omega), fun k o hk ho => (h.block k (Array.getElem?_eq_some_iff.1 hk).1 (fun e => by cases e; rw [hc] at hk; cases hk; exact ho _ _ rfl)).trans hk⟩
theorem Stp.below {B n : Nat} {w W W' : World} (h : Stp B W W') (hb : Below n w W) (hn : n ≤ B) (hs : n ≤ W.heap.size) : Below n w W' :=
  ⟨h.os.trans hb.os, h.tape.trans hb.tape, h.output.trans hb.output, Nat.le_trans hb.size h.size, fun k hk => (h.low k (by omega) (by omega)).trans (hb.block k hk)⟩
/-- THE ITERATOR: so many rounds, each with its number and a value. -/
def SaysM (m : Nat) (P : Program) (g : Nat) (lb : Array Value) (T : Nat) (V : Nat → Value → World → Prop) (Kp : World → World → Prop) (w : World) : Prop :=
  ∀ (l : Nat) (J : Nat → World → Prop) (W : World), Below w.heap.size w W → (∀ t X Y, J t X → Stp W.heap.size X Y → J t Y) →
    (∀ t v W1, t < T → J t W1 → V t v W1 → YieldAt Fence.wide 0 P l #[.int .i64 (t : Int), v] W1 fun e W' => e = .returned (.bool true) ∧ J (t + 1) W' ∧ Kp W1 W') →
    J 0 W →
    CallsIn Fence.wide m P g (#[.func (.yield l) #[] #[]] ++ lb) W fun e W' => (∃ v, e = .returned v) ∧ J T W'
def leavesM (B : Nat) (Kp : World → World → Prop) (I : World → Prop) (W : World) : Exit → Act → World → Prop
  | .normal, _, W' => KeepsFrom B W W' ∧ Kp W W' ∧ I W'
  | _, _, _ => False
theorem wpIn_range_m {P : Program} {n : Nat} {g : Operand} {ps : Array Tmp} {assign body : Code} {Q : Exit → Act → World → Prop} {a : Act} {w : World}
    (h1 : 1 ≤ n) {gf : Nat} {lb : Array Value} (hg : a.eval g = .func (.func gf) #[] lb) (eg : ∀ args w, (callFunc gf args).run P w = .ok (.enter gf args) w)
    {T : Nat} {V : Nat → Value → World → Prop} {Kp : World → World → Prop} {w0 : World} (hseq : SaysM (n - 1) P gf lb T V Kp w0)
    (hKt : ∀ {A B C : World}, Kp A B → Kp B C → Kp A C) (hKb : ∀ (W : World) (l : Nat) (o o' : Obj), w.heap.size ≤ l → W.heap[l]? = some o → o.isCells = false → o.isWalk = false → Kp W (W.putObj l o'))
    (hb0 : Below w0.heap.size w0 w) (hps : ps.size = 2)
    (I : Nat → World → Prop) (hI : OwnFrom w.heap.size I) (hIm : ∀ t A B, I t A → Stp w.heap.size A B → I t B) (h0 : I 0 w) (Ax : Nat × Value → Act → World → Prop) (hAx : ∀ x a', OwnFrom w.heap.size (fun (_ : Unit) W => Ax x a' W))
    (hassign : ∀ (l : Nat) (t : Nat) (v : Value) (W : World) (K : Act → World → Prop), t < T → I t W → V t v W → (∀ a' W', KeepsFrom w.heap.size W W' → Kp W W' → I t W' → Ax (t, v) a' W' → K a' W') →
      assign.wpIn (Fence.wide.inRound l) (n - 1 - 1) P (Exit.then K (fun _ _ _ => False)) { tmps := (ps.zip #[Value.int .i64 (t : Int), v]).foldl (fun t (p, v) => t.setIfInBounds p v) a.tmps, defers := [] } W)
    (hbody : ∀ (l : Nat) (t : Nat) (v : Value) (a' : Act) (W : World), I t W → Ax (t, v) a' W → t < T → body.wpIn (Fence.wide.inRound l) (n - 1 - 1) P (leavesM w.heap.size Kp (I (t + 1)) W) a' W)
    (hdone : ∀ (D : Nat) (W : World), w.heap.size ≤ D → I T W → W.heap[D]? = some (.deferred (some [])) → Q .normal { a with defers := { target := .collected D, args := #[] } :: a.defers } W) :
    (Code.rangeFunc g ps assign body).wpIn Fence.wide n P Q a w := by
  refine wpIn_rangeFunc ?_
  intro fn hfn
  obtain ⟨rec, hrec⟩ : ∃ rec : LoopState → Option Code → Loop, rec = fun st pe => { state := st, pending := pe, fn, tmps := a.tmps, params := ps, assign, body, defers := w.heap.size } := ⟨_, rfl⟩
  obtain ⟨A, hA⟩ : ∃ A, (w.alloc (.deferred (some []))).alloc (.loop (rec .ready none)) = A := ⟨_, rfl⟩
  have sz : w.heap.size ≤ A.heap.size := by rw [← hA]; simp; omega
  have hL : A.heap[w.heap.size + 1]? = some (.loop (rec .ready none)) := by
    have := World.alloc_heap_new (w.alloc (.deferred (some []))) (.loop (rec .ready none))
    rw [World.size_alloc] at this; rw [← hA]; exact this
  have hD : A.heap[w.heap.size]? = some (.deferred (some [])) := by
    rw [← hA]; exact (Below.heap_alloc _ _ _ (by simp)).trans (World.alloc_heap_new w _)
  have hIA : I 0 A := by rw [← hA]; exact hI.alloc _ (hI.alloc _ h0)
  have hbA : Below w0.heap.size w0 A := by rw [← hA]; exact bAlloc (bAlloc hb0 _) _
  -- what of the loop's own two blocks is so between two rounds
  let own2 : LoopState → Option Code → World → Prop := fun s c W => W.heap[w.heap.size + 1]? = some (.loop (rec s c)) ∧ W.heap[w.heap.size]? = some (.deferred (some []))
  have hgrow : ∀ s c (X Y : World) (row : Option Nat), own2 s c X → X.grownBy Y row → (∀ r, row = some r → ∃ o : Obj, X.heap[r]? = some o ∧ o.isWalk = true) → own2 s c Y :=
    fun s c X Y row h hgr hr => ⟨(grownBy_keeps hgr hr h.1 rfl).trans h.1, (grownBy_keeps hgr hr h.2 rfl).trans h.2⟩
  refine ⟨w.heap.size + 1, [{ target := .collected w.heap.size, args := #[] }], A, { target := .fn (.func gf) lb, args := #[.func (.yield (w.heap.size + 1)) #[] #[]] }, A, gf,
    #[.func (.yield (w.heap.size + 1)) #[] #[]] ++ lb, A, ?_, ?_, ?_, ?_, fun _ => h1, ?_⟩
  · rw [← hA, hrec]; exact run_enterLoop_outer _ _ _ _ _
  · simp only [resolve, hg]
    simp [go_sem]
  · intro f' hf'; trivial
  · simp [invoke, go_sem, eg]
  refine (hseq (w.heap.size + 1) (fun t W => I t W ∧ own2 .ready none W) A hbA ?_ ?_ ⟨hIA, hL, hD⟩).mono ?_
  · intro t X Y hs hst
    exact ⟨hIm t X Y hs.1 (hst.mono sz), hst.same _ _ hs.2.1 (fun _ _ e => by cases e), hst.same _ _ hs.2.2 (fun _ _ e => by cases e)⟩
  · rintro t v W hlen ⟨hi, hl, hk⟩ hv
    have hlt : w.heap.size + 1 < W.heap.size := (Array.getElem?_eq_some_iff.1 hl).1
    have hy := run_yield (P := P) (args := #[Value.int .i64 (t : Int), v]) hl (by rw [hrec]; exact hps.symm)
    rw [hrec] at hy
    refine yield_any 0 (m := n - 1 - 1) ⟨fn, _, assign, body, hy, roundIn_of_wpIn hfn (hassign _ t v W _ hlen hi hv ?_)⟩
    clear hy
    intro a' V hkf hkp hiV haV
    have hlV := hkf.same _ _ (by omega) hl rfl
    have hkV := hkf.same _ _ (Nat.le_refl _) hk rfl
    have hltV : w.heap.size + 1 < V.heap.size := (Array.getElem?_eq_some_iff.1 hlV).1
    refine ⟨_, run_beginRound hlV (by rw [hrec]), ?_⟩
    have hl2 : (V.putObj (w.heap.size + 1) (.loop { rec .ready none with state := .busy })).heap[w.heap.size + 1]? = some (.loop { rec .ready none with state := .busy }) := World.putObj_heap_same hltV
    have hk2 : (V.putObj (w.heap.size + 1) (.loop { rec .ready none with state := .busy })).heap[w.heap.size]? = some (.deferred (some [])) := (World.putObj_heap_other (by omega)).trans hkV
    have hw2 : Kp V (V.putObj (w.heap.size + 1) (.loop { rec .ready none with state := .busy })) := hKb _ _ _ _ (by omega) hlV rfl rfl
    have fin : ∀ (jump : Option Code) (U : World), KeepsFrom w.heap.size (V.putObj (w.heap.size + 1) (.loop { rec .ready none with state := .busy })) U →
        (Instr.endRound (w.heap.size + 1) jump).run P U = .ok (.bool jump.isNone) (U.putObj (w.heap.size + 1) (.loop (rec (if jump.isNone then .ready else .done) jump))) ∧
        U.heap[w.heap.size + 1]? = some (.loop { rec .ready none with state := .busy }) ∧
        own2 (if jump.isNone then .ready else .done) jump (U.putObj (w.heap.size + 1) (.loop (rec (if jump.isNone then .ready else .done) jump))) := fun jump U hU => by
      have hlU := hU.same _ _ (by omega) hl2 rfl
      refine ⟨?_, hlU, World.putObj_heap_same (Array.getElem?_eq_some_iff.1 hlU).1, (World.putObj_heap_other (by omega)).trans (hU.same _ _ (Nat.le_refl _) hk2 rfl)⟩
      have hr := run_endRound (P := P) jump hlU
      rw [hrec] at hr ⊢
      exact hr
    refine wpIn_mono (hbody _ t v a' _ (hI.putObj _ hiV (by omega) hlV rfl) ((hAx (t, v) a').putObj (s := ()) _ haV (by omega) hlV rfl) hlen) ?_
    rintro e a3 U hp
    cases e with
    | normal =>
      obtain ⟨hkU, hpU, hiU⟩ := hp
      obtain ⟨hr, hlU, hown⟩ := fin none U hkU
      exact ⟨_, _, hr, rfl, ⟨hI.putObj _ hiU (by omega) hlU rfl, hown⟩, hKt hkp (hKt (hKt hw2 hpU) (hKb _ _ _ _ (by omega) hlU rfl rfl))⟩
    | ret => exact hp.elim
    | exit id => exact hp.elim
    | goto t => exact hp.elim
    | panic ch => exact hp.elim
    | outgrown => exact hp.elim
  · rintro e V ⟨⟨v, rfl⟩, hi, hl, hk⟩
    exact ⟨none, _, by have := run_endLoop (P := P) hl (by rw [hrec]; simp); rw [hrec] at this; exact this, hdone _ _ (Nat.le_refl _) (hI.putObj _ hi (by omega) hl rfl) ((World.putObj_heap_other (by omega)).trans hk)⟩

end Go.Proofs.Ytbmbcbknoflpgaa
namespace Go.Proofs.Ytbmbcbknoflpgaa
open Go.RowKit Go.Shelf
attribute [local go_sem] Oper.semAt_some

/-- Where a wall's follower and the wall are, after so many times. -/
def wlk (rest : List Int) (l : List Ges) : Nat → Nat → Int × Int
  | 0, k => (rest.getD k 0, rest.getD k 0)
  | t + 1, k => (flw (wlk rest l t k).1 (golG rest l k t).1 (golG rest l k t).2, flw (wlk rest l t k).2 (flw (wlk rest l t k).1 (golG rest l k t).1 (golG rest l k t).2) (golG rest l k t).2)
/-- The areas at a time. -/
def arL (rest : List Int) (l : List Ges) (t : Nat) : List Int := (List.range rest.length).map fun k => (wlk rest l (t + 1) k).2
theorem sco_parts {rest : List Int} {l : List Ges} (h : scoOk rest l = true) : 1 ≤ rest.length ∧ rest.length ≤ 24 ∧ (∀ j, j < rest.length → 1 ≤ rest.getD j 0 ∧ rest.getD j 0 ≤ 1000) ∧ l.length ≤ 100 ∧ l.all (gesOk rest.length) = true := by
  simp only [scoOk, Bool.and_eq_true, decide_eq_true_eq] at h
  obtain ⟨⟨⟨h1, h2⟩, h3⟩, h4⟩ := h
  exact ⟨h1, (ars_parts h2).1, (ars_parts h2).2, h3, h4⟩
theorem gol_range {rest : List Int} {l : List Ges} (h : scoOk rest l = true) (k : Nat) (t : Int) (hk : k < rest.length) : (1 ≤ (golG rest l k t).1 ∧ (golG rest l k t).1 ≤ 1000) ∧ (1 ≤ (golG rest l k t).2 ∧ (golG rest l k t).2 ≤ 1000) := by
  obtain ⟨h1, h2, h3, h4, h5⟩ := sco_parts h
  unfold golG
  cases hf : l.reverse.find? (hitG k t) with
  | none => exact ⟨h3 k hk, by simp, by simp⟩
  | some g =>
    have hm : g ∈ l := by have := List.mem_of_find?_eq_some hf; simpa using this
    have hg := List.all_eq_true.1 h5 g hm
    simp only [gesOk, arOk, Bool.and_eq_true, betw_iff] at hg
    exact ⟨hg.1.2, hg.2⟩
theorem wlk_range {rest : List Int} {l : List Ges} (h : scoOk rest l = true) (k : Nat) (hk : k < rest.length) : ∀ t, (1 ≤ (wlk rest l t k).1 ∧ (wlk rest l t k).1 ≤ 1000) ∧ (1 ≤ (wlk rest l t k).2 ∧ (wlk rest l t k).2 ≤ 1000) := by
  intro t
  induction t with
  | zero => have := (sco_parts h).2.2.1 k hk; exact ⟨this, this⟩
  | succ t ih =>
    have hg := gol_range h k t hk
    have h1 := flw_range _ _ _ ih.1 hg.1 hg.2
    exact ⟨h1, flw_range _ _ _ ih.2 h1 hg.2⟩
/-- What a round keeps. -/
structure KpM (n : Nat) (A B : World) : Prop where
  low : Below n A B
  same : ∀ (k : Nat) (cs : Array Value) (t : TypeId) (u : Nat × Nat), A.heap[k]? = some (.cells cs t u) → (t = 169 ∨ t = 106 ∨ t = 120 ∨ t = 3) → B.heap[k]? = some (.cells cs t u)
theorem KpM.trans {n : Nat} {A B C : World} (h : KpM n A B) (k : KpM n B C) : KpM n A C := ⟨h.1.trans k.1, fun i cs t u hi ht => k.2 i cs t u (h.2 i cs t u hi ht) ht⟩
/-- All that the iterator wants between two rounds. -/
structure MS (n0 B0 : Nat) (w0 W : World) (s1 s2 T g n : Nat) (va vb : Value) (X Y : Nat → Int) : Prop where
  sc : W.heap[s1]? = some (.cells #[va, vb] 120 (0, 0))
  ti : Boxed W s2 3 (.int .i64 (T : Int))
  walls : Walls W g n X Y
  base : B0 ≤ g
  low : Below n0 w0 W
theorem MS.kept {n0 B0 s1 s2 T g n : Nat} {w0 W W' : World} {va vb : Value} {X Y : Nat → Int} (h : MS n0 B0 w0 W s1 s2 T g n va vb X Y) (k : KpM n0 W W') : MS n0 B0 w0 W' s1 s2 T g n va vb X Y := by
  obtain ⟨cur, hb, hsz, hc⟩ := h.walls.row
  exact ⟨k.same _ _ _ _ h.sc (.inr (.inr (.inl rfl))), k.same _ _ _ _ h.ti (.inr (.inr (.inr rfl))), ⟨⟨cur, k.same _ _ _ _ hb (.inr (.inl rfl)), hsz, hc⟩, fun j hj => k.same _ _ _ _ (h.walls.wall j hj) (.inl rfl)⟩, h.base, h.low.trans k.low⟩
theorem MS.below {n0 B0 s1 s2 T g n : Nat} {w0 W W' : World} {va vb : Value} {X Y : Nat → Int} (h : MS n0 B0 w0 W s1 s2 T g n va vb X Y) (hB : Below W.heap.size W W') (hn : n0 ≤ W.heap.size) : MS n0 B0 w0 W' s1 s2 T g n va vb X Y :=
  ⟨heap_keep hB h.sc, heap_keep hB h.ti, ⟨rowB h.walls.row hB, fun j hj => heap_keep hB (h.walls.wall j hj)⟩, h.base, h.low.trans (hB.mono hn)⟩
/-- A cell of a row of ints is laid: nothing of the iterator's turns. -/
theorem MS.set {n0 B0 s1 s2 T g n ab : Nat} {w0 W : World} {va vb : Value} {X Y : Nat → Int} (h : MS n0 B0 w0 W s1 s2 T g n va vb X Y) (e1 : s1 ≠ ab) (e2 : s2 ≠ ab) (e3 : g ≠ ab) (e4 : ∀ j, j < n → g + 1 + j ≠ ab) (hn : n0 ≤ ab) (o : Nat) (v : Value) : MS n0 B0 w0 (W.setCell ⟨ab, o, none⟩ v) s1 s2 T g n va vb X Y :=
  ⟨(Below.heap_setCell _ _ _ _ e1).trans h.sc, (Below.heap_setCell _ _ _ _ e2).trans h.ti, ⟨h.walls.row.of_block (Below.heap_setCell _ _ _ _ e3), fun j hj => (Below.heap_setCell _ _ _ _ (e4 j hj)).trans (h.walls.wall j hj)⟩, h.base, h.low.setCell (p := ⟨ab, o, none⟩) hn _⟩
/-- A wall is moved. -/
theorem MS.moved {n0 B0 s1 s2 T g n k : Nat} {w0 W W' : World} {va vb : Value} {X Y : Nat → Int} (h : MS n0 B0 w0 W s1 s2 T g n va vb X Y) (hk : k < n) (x y : Int) (hg : W.grownBy W' (some (g + 1 + k))) (hc : W'.heap[g + 1 + k]? = some (.cells #[.int .i64 x, .int .i64 y] 169 (0, 0))) (hn : n0 ≤ B0) :
    MS n0 B0 w0 W' s1 s2 T g n va vb (upd X k x) (upd Y k y) := by
  have hw := h.walls.wall k hk
  have ne : ∀ {j : Nat} {cs : Array Value} {t : TypeId}, W.heap[j]? = some (.cells cs t (0, 0)) → t ≠ 169 → j ≠ g + 1 + k := by
    intro j cs t hj ht e
    subst e
    rw [hw] at hj
    simp only [Option.some.injEq, Obj.cells.injEq] at hj
    exact ht hj.2.1.symm
  refine ⟨gb_heap hg h.sc (ne h.sc (by decide)), gb_heap hg h.ti (ne h.ti (by decide)), ⟨h.walls.row.of_block (hg.block _ h.walls.row.lt (fun e => by simp at e; omega)), fun j hj => ?_⟩, h.base, ?_⟩
  · by_cases e : j = k
    · subst e
      simp only [upd, if_pos]
      exact hc
    · simp only [upd, if_neg e]
      exact gb_heap hg (h.walls.wall j hj) (by omega)
  · exact ⟨hg.os.trans h.low.os, hg.tape.trans h.low.tape, hg.output.trans h.low.output, Nat.le_trans h.low.size hg.size, fun i hi => (hg.block i (Nat.lt_of_lt_of_le (by have := (Array.getElem?_eq_some_iff.1 hw).1; have := h.base; omega) (Nat.le_refl _)) (fun e => by simp at e; have := h.base; omega)).trans (h.low.block i hi)⟩
end Go.Proofs.Ytbmbcbknoflpgaa
namespace Go.Proofs.Ytbmbcbknoflpgaa
open Go.RowKit Go.Shelf
attribute [local go_sem] Oper.semAt_some

/-- A slice of the areas at a time, in a row of its own. -/
def ArV (rest : List Int) (l : List Ges) (t : Nat) (v : Value) (W : World) : Prop := ∃ ab, v = .slice (some ⟨ab, 0, none⟩) rest.length rest.length ∧ W.rowIs ab 3 rest.length (fun j => .int .i64 ((arL rest l t).getD j 0))
theorem ms_congr {n0 B0 s1 s2 T g n : Nat} {w0 W : World} {va vb : Value} {X Y X2 Y2 : Nat → Int} (h : MS n0 B0 w0 W s1 s2 T g n va vb X Y) (e1 : ∀ j, j < n → X j = X2 j) (e2 : ∀ j, j < n → Y j = Y2 j) : MS n0 B0 w0 W s1 s2 T g n va vb X2 Y2 :=
  ⟨h.1, h.2, ⟨h.3.1, fun j hj => by rw [← e1 j hj, ← e2 j hj]; exact h.3.2 j hj⟩, h.4, h.5⟩
theorem stp_new {B ab : Nat} {A W : World} (h : Stp B A W) (hab : A.heap.size ≤ ab) (o : Nat) (v : Value) : Stp B A (W.setCell ⟨ab, o, none⟩ v) :=
  ⟨h.1, h.2, h.3, by simpa [World.setCell] using h.4, fun k hk hx => (Below.heap_setCell _ _ _ _ (by simp; omega)).trans (h.5 k hk hx), fun k ob hk ho => (Below.heap_setCell _ _ _ _ (by have := (Array.getElem?_eq_some_iff.1 hk).1; simp; omega)).trans (h.6 k ob hk ho)⟩
set_option maxRecDepth 100000 in
set_option maxHeartbeats 4000000 in
theorem moments_says (m : Nat) (rest : List Int) (l : List Ges) (T s1 s2 n0 : Nat) (va vb : Value) (w0 w : World) (hok : scoOk rest l = true) (hT : T ≤ 1000000) (ha : SliceV w0 va 1 IntAt rest) (hb : SliceV w0 vb 6 GesAt l) (hn : w0.heap.size = n0)
    (hs : w.heap[s1]? = some (.cells #[va, vb] 120 (0, 0))) (ht : Boxed w s2 3 (.int .i64 (T : Int))) (hlow : Below n0 w0 w) (hnw : n0 ≤ w.heap.size) :
    SaysM m Try.prog 98 #[.pointer (some ⟨s1, 0, none⟩), .pointer (some ⟨s2, 0, none⟩)] T (ArV rest l) (KpM n0) w := by
  intro ly J W hW hJ hY h0
  have HA := Lib.hid ha
  have HBV := Lib.hid hb
  obtain ⟨a, c, rfl, -⟩ := ha
  obtain ⟨b, d, rfl, -⟩ := hb
  have hsW := heap_keep hW hs
  have htW := heap_keep hW ht
  have HLW := Lib.hid (hlow.trans (hW.mono hnw))
  have HB0 : Hid (n0 ≤ W.heap.size) := Lib.hid (Nat.le_trans hnw hW.size)
  have HY := Lib.hid hY
  have HJ := Lib.hid hJ
  have HOK := Lib.hid hok
  obtain ⟨p1, p2, p3, p4, p5⟩ := sco_parts hok
  have HN := Lib.hid hn
  have up : ∀ {W' : World}, Below n0 w0 W' → Below w0.heap.size w0 W' := fun h => by rw [hn]; exact h
  have HMV := Lib.hid (moves_any rest (.slice a rest.length c) (.slice b l.length d) W (HA.out.keep IntAt.stable (up HLW.out)) p2)
  have HGL := Lib.hid (fun (s t : Nat) (W' : World) (hs : s < rest.length) (h : Below n0 w0 W') => goal_any rest l s t (.slice a rest.length c) (.slice b l.length d) W' (HA.out.keep IntAt.stable (up h)) (HBV.out.keep GesAt.stable (up h)) hs p2 p4 p5)
  have e0 := cell_of_heap (j := 0) hsW (show 0 < 2 by omega)
  have e1 := cell_of_heap (j := 1) hsW (show 1 < 2 by omega)
  simp at e0 e1
  have e2 := (show Boxed W s2 _ _ from htW).cell
  have l0 := cell_lt e0
  have l2 := cell_lt e2
  have HSW := Lib.hid hsW
  have HTW := Lib.hid htW
  have hmk := makeI rest.length (by omega)
  have H0 := Lib.hid h0
  clear hY hW hs ht hlow hnw hn hJ up hok p3 p4 p5 hsW htW h0
  show CallsIn Fence.wide m Try.prog 98 #[.func (.yield ly) #[] #[], .pointer (some ⟨s1, 0, none⟩), .pointer (some ⟨s2, 0, none⟩)] W _
  refine callsIn_of_wp Try.func98 rfl trivial ?_ rfl
  simp only [Try.ntmps98, List.size_toArray, List.length_cons, List.length_nil, Nat.reduceAdd, Nat.reduceSub, Array.replicate_succ, Array.replicate_zero, List.push_toArray, List.append_toArray, List.nil_append, List.cons_append]
  gi_wp2_with (refine ⟨trivial, fun h => (by cases h), ?_⟩; gi_at_call 99; with_reducible refine (callsIn_wide.2 HMV.out).mono ?_; rintro e w1 ⟨⟨g, rfl, hg, hwl⟩, hb1⟩; have HWL := Lib.hid hwl; have HG := Lib.hid hg; have HB1 := Lib.hid hb1; have f2 := keep hb1 e2; have l3 := cell_lt f2; clear hwl hg hb1)
  have HMS1 : Hid (MS n0 W.heap.size w0 w1 s1 s2 T g rest.length (.slice a rest.length c) (.slice b l.length d) (fun k => (wlk rest l 0 k).1) (fun k => (wlk rest l 0 k).2)) := Lib.hid ⟨heap_keep HB1.out HSW.out, heap_keep HB1.out HTW.out, HWL.out, HG.out, HLW.out.trans (HB1.out.mono HB0.out)⟩
  have HJ1 : Hid (J 0 w1) := Lib.hid (HJ.out 0 W w1 H0.out (Stp.of_below HB1.out))
  have HZ1 : Hid (W.heap.size ≤ w1.heap.size) := Lib.hid HB1.out.size
  obtain ⟨B0, hB0⟩ : ∃ B0, W.heap.size = B0 := ⟨_, rfl⟩
  rw [hB0] at HMS1 HZ1 HB0 HJ HG
  clear e0 e1 e2 l0 l2 f2 l3 H0 HWL HMV HSW HTW
  gi_loopw [12] (fun i wr => ∃ t : Nat, t ≤ T ∧ i = .int .i64 t ∧ Hid (J t wr) ∧ Hid (MS n0 B0 w0 wr s1 s2 T g rest.length (.slice a rest.length c) (.slice b l.length d) (fun k => (wlk rest l t k).1) (fun k => (wlk rest l t k).2)) ∧ Hid (B0 ≤ wr.heap.size)) (fun i _ => T - (intOf i).toNat)
  case atStart => exact ⟨0, Nat.zero_le _, rfl, HJ1, HMS1, HZ1⟩
  case round =>
    clear HMS1 HJ1 HZ1 HB1
    obtain ⟨t, htT, rfl, HJT, HMS, HZ⟩ := hrel
    by_cases hlt : t < T
    · have e0 := cell_of_heap (j := 0) HMS.out.sc (show 0 < 2 by omega)
      simp at e0
      have l0 := cell_lt e0
      have htt : (t : Int) < (T : Int) := by omega
      have HBA := Lib.hid (bAlloc (Below.refl wr.heap.size wr) (.cells (madeCells #[Value.int .i64 0] rest.length) 3))
      have HMS2 := Lib.hid (HMS.out.below HBA.out (by have := HB0.out; have := HZ.out; omega))
      have HR2 : Hid ((wr.alloc (.cells (madeCells #[Value.int .i64 0] rest.length) 3)).rowIs wr.heap.size 3 rest.length (fun j => .int .i64 (if j < 0 then (wlk rest l (t + 1) j).2 else 0))) := Lib.hid ((World.rowIs_made wr (.int .i64 0) rest.length 3).congr fun j _ => by simp)
      have HST2 : Hid (Stp B0 wr (wr.alloc (.cells (madeCells #[Value.int .i64 0] rest.length) 3))) := Lib.hid (Stp.of_below HBA.out)
      have HSA := Lib.hid (Array.getElem?_eq_some_iff.1 HMS.out.sc).1
      have HSB := Lib.hid (Array.getElem?_eq_some_iff.1 HMS.out.ti).1
      have HSG := Lib.hid HMS.out.walls.row.lt
      have HSWL := Lib.hid (fun j (hj : j < rest.length) => (Array.getElem?_eq_some_iff.1 (HMS.out.walls.wall j hj)).1)
      have HZ2 := Lib.hid HBA.out.size
      clear HBA
      gi_wp2
      generalize World.alloc wr _ = W2 at *
      obtain ⟨wt, hwt⟩ : ∃ wt, wr = wt := ⟨_, rfl⟩
      rw [hwt] at HST2 HJT
      obtain ⟨ab, hab⟩ : ∃ ab, wr.heap.size = ab := ⟨_, rfl⟩
      rw [hab] at HR2 HSA HSB HSG HSWL HZ HZ2 ⊢
      have HZT : Hid (wt.heap.size = ab) := Lib.hid (by rw [← hwt]; exact hab)
      clear hab hwt HMS e0 l0
      have HMS3 : Hid (MS n0 B0 w0 W2 s1 s2 T g rest.length (.slice a rest.length c) (.slice b l.length d) (fun j => if j < 0 then (wlk rest l (t + 1) j).1 else (wlk rest l t j).1) (fun j => if j < 0 then (wlk rest l (t + 1) j).2 else (wlk rest l t j).2)) := Lib.hid (by simpa using HMS2.out)
      gi_loopw [21] (fun i wr => ∃ k : Nat, k ≤ rest.length ∧ i = .int .i64 k ∧ Hid (MS n0 B0 w0 wr s1 s2 T g rest.length (.slice a rest.length c) (.slice b l.length d) (fun j => if j < k then (wlk rest l (t + 1) j).1 else (wlk rest l t j).1) (fun j => if j < k then (wlk rest l (t + 1) j).2 else (wlk rest l t j).2)) ∧ Hid (wr.rowIs ab 3 rest.length (fun j => .int .i64 (if j < k then (wlk rest l (t + 1) j).2 else 0))) ∧ Hid (Stp B0 wt wr) ∧ Hid (ab ≤ wr.heap.size)) (fun i _ => rest.length - (intOf i).toNat)
      case atStart => exact ⟨0, Nat.zero_le _, rfl, HMS3, HR2, HST2, HZ2⟩
      case round =>
        clear HMS3 HMS2 HR2 HST2 HZ2
        obtain ⟨k, hk, rfl, HM, HR, HST, HZK⟩ := hrel
        by_cases hkl : k < rest.length
        · have hkk : (k : Int) < (rest.length : Int) := by omega
          have q0 := cell_of_heap (j := 0) HM.out.sc (show 0 < 2 by omega)
          have q1 := cell_of_heap (j := 1) HM.out.sc (show 1 < 2 by omega)
          simp at q0 q1
          have lq := cell_lt q0
          have r0 := HM.out.walls.row.cell (i := k) hkl
          have lr := HM.out.walls.row.lt
          have HW0 := HM.out.walls.wall k hkl
          rw [if_neg (Nat.lt_irrefl k), if_neg (Nat.lt_irrefl k)] at HW0
          have hgr := gol_range HOK.out k t hkl
          have hwr := wlk_range HOK.out k hkl t
          have HX : Hid (wlk rest l (t + 1) k = (flw (wlk rest l t k).1 (golG rest l k t).1 (golG rest l k t).2, flw (wlk rest l t k).2 (flw (wlk rest l t k).1 (golG rest l k t).1 (golG rest l k t).2) (golG rest l k t).2)) := Lib.hid rfl
          obtain ⟨⟨gg, sp⟩, hgs⟩ : ∃ p, golG rest l k t = p := ⟨_, rfl⟩
          obtain ⟨⟨x, y⟩, hxy⟩ : ∃ p, wlk rest l t k = p := ⟨_, rfl⟩
          have HGC := Lib.hid (HGL.out k t wr hkl HM.out.low)
          rw [hgs] at HX hgr HGC
          rw [hxy] at HX hwr HW0
          simp only at HX hgr hwr HW0 HGC
          have HW1 := Lib.hid HW0
          have HMO := Lib.hid (fun (W' : World) (h : W'.heap[g + 1 + k]? = some (.cells #[.int .i64 x, .int .i64 y] 169 (0, 0))) => move_any (g + 1 + k) x y gg sp 169 W' h hwr.1 hwr.2 hgr.1 hgr.2)
          obtain ⟨xn, hxn⟩ : ∃ xn, flw x gg sp = xn := ⟨_, rfl⟩
          rw [hxn] at HMO HX
          obtain ⟨yn, hyn⟩ : ∃ yn, flw y xn sp = yn := ⟨_, rfl⟩
          rw [hyn] at HMO HX
          have HNE : Hid (ab ≠ g + 1 + k) := Lib.hid (by have := HSWL.out k hkl; omega)
          clear hgs hxy hxn hyn HW0 hgr hwr
          gi_wp2_with (first
            | (refine ⟨trivial, fun h => (by cases h), ?_⟩; gi_at_call 100; with_reducible refine (callsIn_wide.2 HGC.out).mono ?_; rintro e w2 ⟨rfl, hb2⟩; have HB2 := Lib.hid hb2; have HW2 := Lib.hid (heap_keep hb2 HW1.out); clear hb2))
          refine ⟨trivial, fun h => (by cases h), ?_⟩
          gi_at_call 108
          with_reducible refine (callsIn_wide.2 (HMO.out _ HW2.out)).mono ?_
          rintro e w3 ⟨rfl, hg3, hc3⟩
          have HG3 := Lib.hid hg3
          have HC3 := Lib.hid hc3
          have hrb := rowB HR.out HB2.out
          have hr3 := hrb.of_block (hg3.block _ hrb.lt (fun e => by simp at e; exact HNE.out (by omega)))
          have c3 := hr3.cell (i := k) hkl
          have z3 := hr3.frozen k
          have l3 := hr3.lt
          have HR3 := Lib.hid hr3
          have HNM : Hid (s1 ≠ ab ∧ s2 ≠ ab ∧ g ≠ ab ∧ (∀ j, j < rest.length → g + 1 + j ≠ ab) ∧ n0 ≤ ab) := Lib.hid ⟨by have := HSA.out; omega, by have := HSB.out; omega, by have := HSG.out; omega, fun j hj => by have := HSWL.out j hj; omega, by have := HB0.out; have := HZ.out; omega⟩
          have HM2 := Lib.hid (HM.out.below HB2.out (by have := HZK.out; have := HNM.out.2.2.2.2; omega))
          have HM3 := Lib.hid (((HM2.out.moved hkl xn yn HG3.out HC3.out HB0.out).set HNM.out.1 HNM.out.2.1 HNM.out.2.2.1 HNM.out.2.2.2.1 HNM.out.2.2.2.2) k (.int .i64 yn))
          have HM4 : Hid (MS n0 B0 w0 (w3.setCell ⟨ab, k, none⟩ (.int .i64 yn)) s1 s2 T g rest.length (.slice a rest.length c) (.slice b l.length d) (fun j => if j < k + 1 then (wlk rest l (t + 1) j).1 else (wlk rest l t j).1) (fun j => if j < k + 1 then (wlk rest l (t + 1) j).2 else (wlk rest l t j).2)) := Lib.hid (by
            have h := HM3.out
            have e1 : upd (fun j => if j < k then (wlk rest l (t + 1) j).1 else (wlk rest l t j).1) k xn = fun j => if j < k + 1 then (wlk rest l (t + 1) j).1 else (wlk rest l t j).1 := by
              funext j
              simp only [upd]
              by_cases hj : j = k
              · subst hj; rw [if_pos rfl, if_pos (by omega), HX.out]
              · rw [if_neg hj]
                by_cases hj2 : j < k
                · rw [if_pos hj2, if_pos (by omega)]
                · rw [if_neg hj2, if_neg (by omega)]
            have e2 : upd (fun j => if j < k then (wlk rest l (t + 1) j).2 else (wlk rest l t j).2) k yn = fun j => if j < k + 1 then (wlk rest l (t + 1) j).2 else (wlk rest l t j).2 := by
              funext j
              simp only [upd]
              by_cases hj : j = k
              · subst hj; rw [if_pos rfl, if_pos (by omega), HX.out]
              · rw [if_neg hj]
                by_cases hj2 : j < k
                · rw [if_pos hj2, if_pos (by omega)]
                · rw [if_neg hj2, if_neg (by omega)]
            rwa [e1, e2] at h)
          have HR4 : Hid ((w3.setCell ⟨ab, k, none⟩ (.int .i64 yn)).rowIs ab 3 rest.length (fun j => .int .i64 (if j < k + 1 then (wlk rest l (t + 1) j).2 else 0))) := Lib.hid ((HR3.out.set k (.int .i64 yn)).congr fun j _ => by
            by_cases hj : j = k
            · subst hj; rw [if_pos rfl, if_pos (by omega), HX.out]
            · rw [if_neg hj]
              by_cases hj2 : j < k
              · rw [if_pos hj2, if_pos (by omega)]
              · rw [if_neg hj2, if_neg (by omega)])
          have HST4 : Hid (Stp B0 wt (w3.setCell ⟨ab, k, none⟩ (.int .i64 yn))) := Lib.hid (stp_new (HST.out.trans ((Stp.of_below HB2.out).trans (Stp.of_wall HG3.out (by have := HG.out; omega) HW2.out))) (by have := HZT.out; omega) k _)
          have HZ4 : Hid (ab ≤ (w3.setCell ⟨ab, k, none⟩ (.int .i64 yn)).heap.size) := Lib.hid (by have h1 := HZK.out; have h2 := HB2.out.size; have h3 := HG3.out.size; simp [World.setCell]; omega)
          clear hg3 hc3 hr3 hrb
          gi_wp2
          go_roundw
          case rel => exact ⟨k + 1, by omega, by go_num, HM4, HR4, HST4, HZ4⟩
          case measure => simp [intOf]; omega
        · obtain rfl : k = rest.length := by omega
          have HSL : Hid (ArV rest l t (.slice (some ⟨ab, 0, none⟩) rest.length rest.length) wr) := Lib.hid ⟨ab, rfl, HR.out.congr fun i hi => by
            rw [if_pos hi, gI (by simp [arL]; exact hi)]
            simp [arL]⟩
          have HJ2 : Hid (J t wr) := Lib.hid (HJ.out t wt wr HJT.out HST.out)
          have HMF : Hid (MS n0 B0 w0 wr s1 s2 T g rest.length (.slice a rest.length c) (.slice b l.length d) (fun j => (wlk rest l (t + 1) j).1) (fun j => (wlk rest l (t + 1) j).2)) := Lib.hid (ms_congr HM.out (fun j hj => by simp only [if_pos hj]) (fun j hj => by simp only [if_pos hj]))
          have HZ3 : Hid (B0 ≤ wr.heap.size) := Lib.hid (by have := HZ.out; have := HZK.out; omega)
          obtain ⟨fn, tmps, assign, body, hy, hR⟩ := yield_any (m - 1) (HY.out t _ wr hlt HJ2.out HSL.out)
          clear HM HR HSL HJ2 HST HZK
          gi_wp2
          refine ⟨fun h => (by cases h), hR.mono ?_⟩
          rintro e W3 ⟨rfl, hJ3, hK3⟩
          have HJ3 := Lib.hid hJ3
          have HMS4 := Lib.hid (HMF.out.kept hK3)
          have HZ4 : Hid (B0 ≤ W3.heap.size) := Lib.hid (by have := hK3.low.size; have := HZ3.out; omega)
          clear hJ3 hy hR hK3
          gi_wp2
          go_roundw
          case rel => exact ⟨t + 1, by omega, by go_num, HJ3, HMS4, HZ4⟩
          case measure => simp [intOf]; omega
    · obtain rfl : t = T := by omega
      gi_wp2
      go_end0
      exact ⟨⟨_, rfl⟩, HJT.out⟩
end Go.Proofs.Ytbmbcbknoflpgaa
namespace Go.Proofs.Ytbmbcbknoflpgaa
open Go.RowKit Go.Shelf

theorem moments_any (va vb : Value) (T : Int) (w : World) : Calls Try.prog 76 #[.agg #[va, vb], .int .i64 T] w fun e w' => e = .returned (.func (.func 98) #[] #[.pointer (some ⟨w.heap.size, 0, none⟩), .pointer (some ⟨w.heap.size + 1, 0, none⟩)]) ∧ w' = (w.alloc (.cells #[va, vb] 120)).alloc (.cells #[.int .i64 T] 3) := by
  go_enter Try.func76, Try.ntmps76
  go_wp2_with fail
  go_ret
  exact ⟨rfl, rfl⟩
set_option maxHeartbeats 1000000 in
theorem scoreLong_any (va : Option Addr) (n c : Nat) (vb : Value) (T : Int) (hT : 0 ≤ T) (hn : n ≤ 24) (w : World) : Calls Try.prog 75 #[.agg #[.slice va n c, vb], .int .i64 T] w fun e w' => e = .returned (.bool (decide (100000 < T) || decide (200000 < T * n))) ∧ Below w.heap.size w w' := by
  by_cases h : 100000 < T
  · rw [decide_eq_true h, Bool.true_or]
    have h1 : T > 100000 := h
    go_enter Try.func75, Try.ntmps75
    go_wp2_with fail
    go_ret
    exact ⟨ret_bool (by first | rfl | (simp; done)), bAlloc (Below.refl _ _) _⟩
  · rw [decide_eq_false h, Bool.false_or]
    have h1 : ¬ (T > 100000) := h
    have hp : 0 ≤ T * n ∧ T * n ≤ 100000 * 24 := ⟨Int.mul_nonneg hT (by omega), Int.mul_le_mul (by omega) (by omega) (by omega) (by omega)⟩
    obtain ⟨p, hpp⟩ : ∃ p, T * n = p := ⟨_, rfl⟩
    rw [hpp] at hp ⊢
    have u1 : IntKind.i64.wrap (T * n) = p := by rw [hpp]; exact IntWalk.i64_in _ (by omega)
    clear hpp
    go_enter Try.func75, Try.ntmps75
    go_wp2_with fail
    go_ret
    exact ⟨ret_bool (by first | rfl | (simp; done)), bAlloc (Below.refl _ _) _⟩
theorem infoIs : (Try.prog.info? 22).map (fun i => (i.zero.map (fun z => z.cells.size), i.size, i.bytes)) = some (some 1, 1, 24) := by kernel_rfl
theorem infoIz : (Try.prog.info? 22).map (fun i => (i.zero, i.size, i.bytes)) = some (some (.slice none 0 0), 1, 24) := by kernel_rfl
theorem makeS0 (n : Nat) (hn : n ≤ 1000000) (W : World) : (Instr.makeSlice 37 (.int .i64 0) (.int .i64 (n : Int))).run Try.prog W = .ok (.slice (some ⟨W.heap.size, 0, none⟩) 0 n) (W.alloc (.cells (madeCells #[Value.slice none 0 0] n) 22)) := by
  obtain ⟨i3, hi3, hz3, hs3, hb3⟩ := info_parts infoIz
  have h := run_makeSlice (P := Try.prog) (w := W) 37 22 i3 _ Try.underlying37 hi3 hz3 .i64 .i64 (0 : Int) (n : Int) (by omega) (by omega) (by rw [hs3]; omega) (by rw [hb3]; omega) (by omega)
  rw [hs3] at h
  simpa [Value.cells] using h
theorem own_madeS (W : World) (n : Nat) (hn : n ≤ 1000000) : (W.alloc (.cells (madeCells #[Value.slice none 0 0] n) 22)).ownsRow W.heap.size 22 1 (.slice (some ⟨W.heap.size, 0, none⟩) 0 n) 0 [] := by
  obtain ⟨cur, hb, hc, hx⟩ := World.rowIs_made W (.slice none 0 0) n 22
  exact ⟨by simp, .inr ⟨W.heap.size, n, cur, rfl, Nat.le_refl _, hb, Nat.zero_le _, by unfold maxLen; omega, by omega, by simp⟩⟩
/-- What Areas keeps between two rounds. -/
structure AS (n : Nat) (w W : World) (n9 : Nat) (rest : List Int) (l : List Ges) (t : Nat) (v : Value) (xs : List Value) : Prop where
  box : Boxed W n9 37 v
  row : W.ownsRow n 22 1 v t xs
  vals : ∀ (j : Nat) (x : Value), xs[j]? = some x → ArV rest l j x W
  low : Below n w W
theorem ArV.keep {rest : List Int} {l : List Ges} {t : Nat} {x : Value} {W W' : World} (h : ArV rest l t x W) (k : ∀ (i : Nat) (cs : Array Value), W.heap[i]? = some (.cells cs 3 (0, 0)) → W'.heap[i]? = some (.cells cs 3 (0, 0))) : ArV rest l t x W' := by
  obtain ⟨ab, e, cur, hb, hr⟩ := h
  exact ⟨ab, e, cur, k _ _ hb, hr⟩
theorem own_keep {W W' : World} {base e size k : Nat} {v : Value} {xs : List Value} (h : W.ownsRow base e size v k xs) (kp : ∀ (i : Nat) (cs : Array Value), W.heap[i]? = some (.cells cs e (0, 0)) → W'.heap[i]? = some (.cells cs e (0, 0))) : W'.ownsRow base e size v k xs := by
  refine ⟨h.1, ?_⟩
  rcases h.2 with hn | ⟨g, cap, cur, hv, hb, hg, rest⟩
  · exact .inl hn
  · exact .inr ⟨g, cap, cur, hv, hb, kp _ _ hg, rest⟩
theorem AS.keep {n n9 t : Nat} {w W W' : World} {rest : List Int} {l : List Ges} {v : Value} {xs : List Value} (h : AS n w W n9 rest l t v xs) (k : ∀ (i : Nat) (cs : Array Value) (ty : TypeId), W.heap[i]? = some (.cells cs ty (0, 0)) → (ty = 3 ∨ ty = 22 ∨ ty = 37) → W'.heap[i]? = some (.cells cs ty (0, 0))) (hB : Below n w W') : AS n w W' n9 rest l t v xs :=
  ⟨k _ _ _ h.1 (.inr (.inr rfl)), own_keep h.2 (fun i cs hi => k i cs _ hi (.inr (.inl rfl))), fun j x hx => (h.3 j x hx).keep (fun i cs hi => k i cs _ hi (.inl rfl)), hB⟩
end Go.Proofs.Ytbmbcbknoflpgaa
namespace Go.Proofs.Ytbmbcbknoflpgaa
open Go.RowKit Go.Shelf
attribute [local go_sem] Oper.semAt_some

theorem KpM.putObj {n : Nat} (W : World) (l : Nat) (o o' : Obj) (hn : n ≤ l) (h : W.heap[l]? = some o) (ho : o.isCells = false) : KpM n W (W.putObj l o') := by
  refine ⟨⟨rfl, rfl, rfl, by simp, fun k hk => World.putObj_heap_other (fun e => by omega)⟩, fun k cs t u hk _ => (World.putObj_heap_other (fun e => ?_)).trans hk⟩
  subst e
  rw [h] at hk
  injection hk with hk
  rw [hk] at ho; cases ho
theorem all_areas (rest : List Int) (l : List Ges) (T : Nat) : ∀ j, j < T → ((List.range T).map (arL rest l)).getD j [] = arL rest l j := by
  intro j hj
  rw [List.getD_eq_getElem?_getD, List.getElem?_eq_getElem (by simp; exact hj)]
  simp
theorem as_slice {n n9 T : Nat} {w W : World} {rest : List Int} {l : List Ges} {v : Value} {xs : List Value} (h : AS n w W n9 rest l T v xs) (hT : T ≤ 1000000) (hr : rest.length ≤ 1000) : SliceV W v 1 WaveAt ((List.range T).map (arL rest l)) := by
  have hlen : xs.length = T := by have := h.row.1; omega
  rcases h.row.2 with ⟨rfl, h0⟩ | ⟨g, cap, cur, rfl, _, hb, hc, _, _, hx⟩
  · subst h0
    exact ⟨none, 0, by simp, by simp, .inl rfl⟩
  · refine ⟨_, cap, by simp, ⟨by simp [most]; omega, by simpa using hc⟩, .inr ⟨g, 0, rfl, fun i hi => ?_⟩⟩
    simp only [List.length_map, List.length_range] at hi
    have hxi : xs[i]? = some (xs[i]'(by omega)) := List.getElem?_eq_getElem (by omega)
    obtain ⟨ab, e, hrow⟩ := h.vals i _ hxi
    have hcell : W.cell? ⟨g, 0 + i * 1, none⟩ = some (.slice (some ⟨ab, 0, none⟩) rest.length rest.length) := by
      rw [e] at hxi
      rw [← hx, Nat.mul_one, List.getElem?_take, if_pos hi] at hxi
      simp only [World.cell?, hb]
      simpa using hxi
    simp only [List.getElem_map, List.getElem_range]
    exact ⟨_, hcell, row_slice hrow (by simp [arL]) (fun j hj => by rw [gI hj]) (by unfold most; omega)⟩
/-- What Areas hands back. -/
def AreasPost (rest : List Int) (l : List Ges) (T : Int) (e : Ending) (w' : World) : Prop :=
  ((scoOk rest l = false ∨ T < 0) ∧ e = .returned (.tuple #[.slice none 0 0, .int .i64 2])) ∨
  (scoOk rest l = true ∧ 0 ≤ T ∧ (100000 < T ∨ 200000 < T * rest.length) ∧ e = .returned (.tuple #[.slice none 0 0, .int .i64 4])) ∨
  (scoOk rest l = true ∧ 0 ≤ T ∧ ¬ (100000 < T ∨ 200000 < T * rest.length) ∧ ∃ v, e = .returned (.tuple #[v, .int .i64 0]) ∧ SliceV w' v 1 WaveAt ((List.range T.toNat).map (arL rest l)))
set_option maxRecDepth 100000 in
set_option maxHeartbeats 4000000 in
theorem Areas_any (rest : List Int) (l : List Ges) (T : Int) (va vb : Value) (w : World) (ha : SliceV w va 1 IntAt rest) (hb : SliceV w vb 6 GesAt l) :
    Calls Try.prog 40 #[va, vb, .int .i64 T] w fun e w' => AreasPost rest l T e w' ∧ Below w.heap.size w w' := by
  have HA := Lib.hid ha
  have HBV := Lib.hid hb
  have HR := Lib.hid (fun W (hB : Below w.heap.size w W) => scoreRight_any rest l va vb W (ha.keep IntAt.stable hB) (hb.keep GesAt.stable hB))
  obtain ⟨a, c, rfl, -⟩ := ha
  obtain ⟨b, d, rfl, -⟩ := hb
  have HB1 := Lib.hid (bAlloc (Below.refl w.heap.size w) (.cells #[.slice a rest.length c, .slice b l.length d] 120))
  have C0 : Hid ((w.alloc (.cells #[.slice a rest.length c, .slice b l.length d] 120)).cell? ⟨w.heap.size, 0, none⟩ = some (.slice a rest.length c)) := Lib.hid (cell_new rfl)
  have C1 : Hid ((w.alloc (.cells #[.slice a rest.length c, .slice b l.length d] 120)).cell? ⟨w.heap.size, 1, none⟩ = some (.slice b l.length d)) := Lib.hid (cell_new rfl)
  cases hok : scoOk rest l
  · rw [hok] at HR
    go_enter Try.func40, Try.ntmps40
    go_wp2_with (go_at_call 74; with_reducible refine Calls.mono (HR.out _ HB1.out) ?_; rintro e w1 ⟨rfl, hb⟩; have HB2 := Lib.hid (bThen HB1.out hb); clear hb)
    go_ret2
    exact ⟨.inl ⟨.inl hok, rfl⟩, HB2.out⟩
  · rw [hok] at HR
    by_cases hT : T < 0
    · go_enter Try.func40, Try.ntmps40
      go_wp2_with (go_at_call 74; with_reducible refine Calls.mono (HR.out _ HB1.out) ?_; rintro e w1 ⟨rfl, hb⟩; have HB2 := Lib.hid (bThen HB1.out hb); clear hb)
      go_ret2
      exact ⟨.inl ⟨.inr hT, rfl⟩, HB2.out⟩
    · have p2 := (sco_parts hok).2.1
      have HSL := Lib.hid (fun W => scoreLong_any a rest.length c (.slice b l.length d) T (by omega) p2 W)
      by_cases hL : 100000 < T ∨ 200000 < T * rest.length
      · have hd : (decide (100000 < T) || decide (200000 < T * (rest.length : Int))) = true := by simpa using hL
        rw [hd] at HSL
        clear hd
        go_enter Try.func40, Try.ntmps40
        go_wp2_with (first
          | (go_at_call 74; with_reducible refine Calls.mono (HR.out _ HB1.out) ?_; rintro e w1 ⟨rfl, hb⟩; have HB2 := Lib.hid (bThen HB1.out hb); have d0 := keep hb C0.out; have d1 := keep hb C1.out; have ld := cell_lt d0; clear hb)
          | (go_at_call 75; with_reducible refine Calls.mono (HSL.out _) ?_; rintro e w2 ⟨rfl, hb⟩; have HB3 := Lib.hid (bThen HB2.out hb); clear hb))
        go_ret2
        exact ⟨.inr (.inl ⟨hok, by omega, hL, rfl⟩), HB3.out⟩
      · have hd : (decide (100000 < T) || decide (200000 < T * (rest.length : Int))) = false := by simpa using hL
        rw [hd] at HSL
        clear hd
        obtain ⟨N, rfl⟩ : ∃ N : Nat, T = (N : Int) := ⟨T.toNat, by omega⟩
        have hN : N ≤ 100000 := by omega
        have hmk := makeS0 N (by omega)
        refine (callsIn_wide (n := 6)).1 ?_
        refine callsIn_of_wp_marks Try.func40 rfl trivial ?_ rfl
        simp only [Try.ntmps40, List.size_toArray, List.length_cons, List.length_nil, Nat.reduceAdd, Nat.reduceSub, Array.replicate_succ, Array.replicate_zero, List.push_toArray, List.append_toArray, List.nil_append, List.cons_append]
        gi_wp2_with (first
          | (refine ⟨trivial, ?_⟩; gi_at_call 74; with_reducible refine (callsIn_wide.2 (HR.out _ HB1.out)).mono ?_; rintro e w1 ⟨rfl, hb⟩; have HB2 := Lib.hid (bThen HB1.out hb); have d0 := keep hb C0.out; have d1 := keep hb C1.out; have ld := cell_lt d0; clear hb)
          | (refine ⟨trivial, ?_⟩; gi_at_call 75; with_reducible refine (callsIn_wide.2 (HSL.out _)).mono ?_; rintro e w2 ⟨rfl, hb⟩; have HB3 := Lib.hid (bThen HB2.out hb); have d0 := keep hb d0; have d1 := keep hb d1; have ld := cell_lt d0; clear hb)
          | (refine ⟨trivial, ?_⟩; gi_at_call 76; with_reducible refine (callsIn_wide.2 (moments_any _ _ _ _)).mono ?_; rintro e w3 ⟨rfl, rfl⟩))
        obtain ⟨mm, hmm⟩ : ∃ mm, w2.heap.size = mm := ⟨_, rfl⟩
        obtain ⟨n, hn⟩ : ∃ n, w.heap.size = n := ⟨_, rfl⟩
        have hnm : n ≤ mm := by have := HB3.out.size; omega
        have hown := own_madeS w2 N (by omega)
        rw [hmm] at hown ⊢
        rw [hn]
        generalize hW4 : World.alloc (World.alloc (World.alloc (World.alloc w2 _) _) _) _ = W4
        have hb9 : Boxed W4 (mm + 1) 37 (.slice (some ⟨mm, 0, none⟩) 0 N) := by
          rw [← hW4]
          exact heap_keep (bAlloc (bAlloc (Below.refl _ _) _) _) (bx_new (by rw [World.size_alloc, hmm]))
        have hbs : W4.heap[mm + 2]? = some (.cells #[.slice a rest.length c, .slice b l.length d] 120 (0, 0)) := by
          rw [← hW4]
          have h := World.alloc_heap_new ((w2.alloc (.cells (madeCells #[Value.slice none 0 0] N) 22)).alloc (.cells #[.slice (some ⟨mm, 0, none⟩) 0 N] 37)) (.cells #[.slice a rest.length c, .slice b l.length d] 120)
          rw [World.size_alloc, World.size_alloc, hmm] at h
          exact heap_keep (bAlloc (Below.refl _ _) _) h
        have hbt : Boxed W4 (mm + 3) 3 (.int .i64 (N : Int)) := by
          rw [← hW4]
          exact bx_new (by rw [World.size_alloc, World.size_alloc, World.size_alloc, hmm])
        have hown4 : W4.ownsRow mm 22 1 (.slice (some ⟨mm, 0, none⟩) 0 N) 0 [] := by
          rw [← hW4]
          exact ((hown.alloc _).alloc _).alloc _
        have hlow : Below n w W4 := by
          rw [← hW4, ← hn]
          exact bAlloc' (bAlloc' (bAlloc' (bAlloc' HB3.out (by omega) _) (by simp; omega) _) (by simp; omega) _) (by simp; omega) _
        have hsz : W4.heap.size = mm + 4 := by rw [← hW4]; simp; omega
        clear hW4 hown hmk
        refine wpIn_range_m (P := Try.prog) (n := 6) (by omega) (gf := 98) (lb := #[.pointer (some ⟨mm + 2, 0, none⟩), .pointer (some ⟨mm + 3, 0, none⟩)]) rfl (enters_of Try.func98 (by kernel_rfl) rfl)
          (moments_says 5 rest l N (mm + 2) (mm + 3) n _ _ w W4 hok (by omega) HA.out HBV.out hn hbs hbt hlow (by omega)) (fun h k => h.trans k) (fun W lo o o' hlo ho hc _ => KpM.putObj W lo o o' (by omega) ho hc) (Below.refl _ _) rfl
          (fun t W => ∃ v xs, AS n w W (mm + 1) rest l t v xs ∧ mm ≤ W.heap.size)
          ?hI ?hIm ?h0
          (fun x a' W => ArV rest l x.1 x.2 W ∧ a' = { tmps := #[.slice a rest.length c, .slice b l.length d, .int .i64 (N : Int), undef, undef, undef, .slice none 0 0, .int .i64 0, .pointer (some ⟨n, 0, none⟩), .pointer (some ⟨mm + 1, 0, none⟩), undef, x.2, .slice a rest.length c, .slice b l.length d, .agg #[.slice a rest.length c, .slice b l.length d], .bool (decide ((N : Int) < 0)), .agg #[.slice a rest.length c, .slice b l.length d], .bool true, .bool false, .bool false, .int .i64 (N : Int), .bool (decide ((N : Int) < 0)), .bool (decide ((N : Int) < 0)), .bool false, .agg #[.slice a rest.length c, .slice b l.length d], .int .i64 (N : Int), .bool false, .int .i64 (N : Int), .slice (some ⟨mm, 0, none⟩) 0 N, .agg #[.slice a rest.length c, .slice b l.length d], .int .i64 (N : Int), .func (.func 98) #[] #[.pointer (some ⟨mm + 1 + 1, 0, none⟩), .pointer (some ⟨mm + 1 + 1 + 1, 0, none⟩)], .int .i64 (x.1 : Int), x.2, undef, undef, undef, undef, undef], defers := [] })
          ?hAx ?assign ?body ?done
        case hI =>
          rintro t W W' row ⟨v, xs, h, hz⟩ hg hr
          have kp : ∀ (i : Nat) (cs : Array Value) (ty : TypeId), W.heap[i]? = some (.cells cs ty (0, 0)) → W'.heap[i]? = some (.cells cs ty (0, 0)) := fun i cs ty hi => entry_kept hi rfl hg (fun r e => (hr r e).2)
          exact ⟨v, xs, h.keep (fun i cs ty hi _ => kp i cs ty hi) ((ownFrom_below (B := W4.heap.size) (by omega) (by omega) : OwnFrom W4.heap.size (fun (_ : Unit) W => Below n w W)) () W W' row h.low hg hr), Nat.le_trans hz hg.size⟩
        case hIm =>
          rintro t A B ⟨v, xs, h, hz⟩ hst
          exact ⟨v, xs, h.keep (fun i cs ty hi ht => hst.same _ _ hi (fun cs2 u e => by cases e; rcases ht with h | h | h <;> cases h)) (hst.below h.low (by omega) (by omega)), Nat.le_trans hz hst.size⟩
        case h0 => exact ⟨_, _, ⟨hb9, hown4.mono hnm, fun j x hx => by simp at hx, hlow⟩, by omega⟩
        case hAx =>
          rintro ⟨t, v⟩ a' _ W W' row ⟨h1, h2⟩ hg hr
          exact ⟨h1.keep (fun i cs hi => entry_kept hi rfl hg (fun r e => (hr r e).2)), h2⟩
        case assign =>
          rintro lo t v W K htN hi hv hK
          gi_wp2
          exact hK _ _ (KeepsFrom.refl _ _) ⟨Below.refl _ _, fun _ _ _ _ h _ => h⟩ hi ⟨hv, rfl⟩
        case body =>
          rintro lo t v a' W ⟨u, xs, h, hz⟩ ⟨hv, rfl⟩ htN
          simp only at hv ⊢
          obtain ⟨ab, rfl, hrow⟩ := id hv
          obtain ⟨ad, cap, rfl⟩ := ownsRow_slice h.row
          obtain ⟨i0, z0, hi0, hz0, hzs, hz1, hz2⟩ := info_z infoIs
          have c9 := h.box.cell
          have f9 := h.box.frozen
          have l9 := h.box.lt
          have HH := Lib.hid h
          have HVV := Lib.hid hv
          have HI := Lib.hid hi0
          clear h hv hrow hi0
          gi_wp2_with (gi_at_builtin; refine wpListIn_append_own_at _ rfl _ _ 37 rfl n 22 i0 z0 1 24 Try.underlying37 HI.out hz0 hz1 hz2 hzs (by decide) (.slice ad t cap) t xs rfl (HH.out.row.alloc _) ⟨W.heap.size, 0, none⟩ 1 1 [.slice (some ⟨ab, 0, none⟩) rest.length rest.length] rfl (by rfl) (cell_one_new _ _ _) (by simp [Value.oneCell']) (by unfold maxLen; omega) (by omega) (by simp; omega) ?_; intro v' w2 hown' hgrow _ hblk; obtain ⟨g', cap', rfl⟩ := ownsRow_succ hown'; obtain ⟨hv1, hv2, hr2, hk2, hb2⟩ := Boxed.appended HH.out.box (by decide) HH.out.row (by omega) (by omega) hown' hgrow; have hc1 := hv1.cell; have hf1 := hv1.frozen; have hl1 := hv1.lt; have HU := Lib.hid (And.intro hgrow (And.intro hv2 (And.intro hr2 (And.intro hk2 (And.intro hb2 hv1))))); clear hown' hgrow hblk hv1 hv2 hr2 hk2 hb2)
          obtain ⟨hgrow, hv2, hr2, hk2, hb2, hv1⟩ := HU.out
          have kp : ∀ (i : Nat) (cs : Array Value) (ty : TypeId) (uu : Nat × Nat), W.heap[i]? = some (.cells cs ty uu) → ty ≠ 22 → ty ≠ 37 → (w2.setCell ⟨mm + 1, 0, none⟩ (.slice (some ⟨g', 0, none⟩) (t + 1) cap')).heap[i]? = some (.cells cs ty uu) := by
            intro i cs ty uu hi h1 h2
            have hil := (Array.getElem?_eq_some_iff.1 hi).1
            have e1 : (W.alloc (.cells #[.slice (some ⟨ab, 0, none⟩) rest.length rest.length] 22)).heap[i]? = some (.cells cs ty uu) := heap_keep (bAlloc (Below.refl _ _) _) hi
            have e2 : w2.heap[i]? = some (.cells cs ty uu) := (hgrow.block i (by simp; omega) (fun e => own_ne (HH.out.row.alloc _) e1 (fun cs2 e => by cases e; exact h1 rfl) e.symm)).trans e1
            refine (Below.heap_setCell _ _ _ _ (fun e => ?_)).trans e2
            simp only at e
            subst e
            rw [show w2.heap[mm + 1]? = _ from hv1] at e2
            cases e2
            exact h2 rfl
          refine ⟨hk2.from _, ⟨hb2, fun i cs ty uu hi ht => kp i cs ty uu hi (by rcases ht with h | h | h | h <;> rw [h] <;> decide) (by rcases ht with h | h | h | h <;> rw [h] <;> decide)⟩, ⟨_, _, ⟨hv2, hr2, fun j x hx => ?_, HH.out.low.trans hb2⟩, Nat.le_trans hz hb2.size⟩⟩
          have hlen : xs.length = t := by have := HH.out.row.1; omega
          by_cases hj : j < xs.length
          · rw [List.getElem?_append_left hj] at hx
            exact (HH.out.vals j x hx).keep (fun i cs hi => kp i cs _ _ hi (by decide) (by decide))
          · rw [List.getElem?_append_right (by omega)] at hx
            have hj0 : j - xs.length = 0 := by
              by_cases h0 : j - xs.length = 0
              · exact h0
              · rw [List.getElem?_eq_none (by simp; omega)] at hx; cases hx
            rw [hj0] at hx
            simp at hx
            subst hx
            obtain rfl : j = t := by omega
            exact HVV.out.keep (fun i cs hi => kp i cs _ _ hi (by decide) (by decide))
        case done =>
          rintro D W hD ⟨v, xs, h, hz⟩ hK
          obtain ⟨ad, cap, rfl⟩ := ownsRow_slice h.row
          have c9 := h.box.cell
          have HH := Lib.hid h
          have HKD := Lib.hid hK
          clear h hK
          gi_wp2
          refine ⟨by simp, .inl ⟨_, _, rfl, run_takeDeferred HKD.out, ?_⟩⟩
          have kp : ∀ (i : Nat) (cs : Array Value) (ty : TypeId), W.heap[i]? = some (.cells cs ty (0, 0)) → (W.putObj D (.deferred none)).heap[i]? = some (.cells cs ty (0, 0)) := fun i cs ty hi => entry_kept hi rfl (grownBy_putObj' W D _) (fun r e => by cases e; exact ⟨_, HKD.out, rfl⟩)
          have hB' : Below n w (W.putObj D (.deferred none)) := HH.out.low.trans (belowK_b (w := w) (by omega) W D _ _ (by omega) HKD.out rfl rfl)
          have h2 := as_slice (HH.out.keep (fun i cs ty hi _ => kp i cs ty hi) hB') (by omega) (by omega)
          refine ⟨_, results_tmp2 rfl _ _ _, .inr (.inr ⟨hok, hT, hL, _, rfl, by simpa using h2⟩), by rw [hn]; exact hB'⟩
end Go.Proofs.Ytbmbcbknoflpgaa
