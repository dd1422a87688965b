/- Contracts: the goal of a section. -/
import Derived.Test.YtbmbcbknoflpgaaJ2
set_option linter.unusedSimpArgs false
set_option linter.unusedVariables false
namespace Go.Proofs.Ytbmbcbknoflpgaa
open Go.RowKit Go.Shelf
attribute [local go_sem] Oper.semAt_some

/-- Does a gesture move a section at a time? The goal of the section, and its speed. -/
def hitG (s t : Int) (g : Ges) : Bool := betw s g.fst g.lst && betw t g.beg (g.fin - 1)
def golG (rest : List Int) (l : List Ges) (s : Nat) (t : Int) : Int × Int :=
  match l.reverse.find? (hitG s t) with
  | some g => (g.area, g.speed)
  | none => (rest.getD s 0, 100)
theorem backward_any (a : Option Addr) (n c : Nat) (w : World) : Calls Try.prog 109 #[.slice a n c] w fun e w' => e = .returned (.func (.func 112) #[] #[.pointer (some ⟨w.heap.size, 0, none⟩)]) ∧ w' = w.alloc (.cells #[.slice a n c] 70) := by
  go_enter Try.func109, Try.ntmps109
  go_wp2_with fail
  go_ret
  exact ⟨rfl, rfl⟩
/-- The boxes of a search for a goal. -/
structure GB (n : Nat) (W : World) (va vb : Value) (s t a b : Int) : Prop where
  sc : W.heap[n]? = some (.cells #[va, vb] 120 (0, 0))
  se : Boxed W (n + 1) 3 (.int .i64 s)
  ti : Boxed W (n + 2) 3 (.int .i64 t)
  ga : Boxed W (n + 3) 3 (.int .i64 a)
  gs : Boxed W (n + 4) 3 (.int .i64 b)
  li : Boxed W (n + 5) 70 vb
theorem entry_kept {W W' : World} {row : Option Nat} {k : Nat} {o : Obj} (h : W.heap[k]? = some o) (ho : o.isCells = true) (hg : W.grownBy W' row) (hr : ∀ r, row = some r → ∃ o : Obj, W.heap[r]? = some o ∧ o.isCells = false) : W'.heap[k]? = some o := by
  refine (hg.block k (Array.getElem?_eq_some_iff.1 h).1 (fun e => ?_)).trans h
  obtain ⟨o2, h2, h3⟩ := hr k e.symm
  rw [h] at h2
  cases h2
  rw [ho] at h3
  cases h3
theorem GB.own {n : Nat} {W W' : World} {va vb : Value} {s t a b : Int} {row : Option Nat} (h : GB n W va vb s t a b) (hg : W.grownBy W' row) (hr : ∀ r, row = some r → ∃ o : Obj, W.heap[r]? = some o ∧ o.isCells = false) : GB n W' va vb s t a b :=
  ⟨entry_kept h.1 rfl hg hr, entry_kept h.2 rfl hg hr, entry_kept h.3 rfl hg hr, entry_kept h.4 rfl hg hr, entry_kept h.5 rfl hg hr, entry_kept h.6 rfl hg hr⟩
theorem GB.below {n : Nat} {W W' : World} {va vb : Value} {s t a b : Int} (h : GB n W va vb s t a b) (hB : Below W.heap.size W W') : GB n W' va vb s t a b :=
  ⟨heap_keep hB h.1, heap_keep hB h.2, heap_keep hB h.3, heap_keep hB h.4, heap_keep hB h.5, heap_keep hB h.6⟩
theorem KpG.putObj {n sb : Nat} (W : World) (l : Nat) (o o' : Obj) (hn : n ≤ l) (h : W.heap[l]? = some o) (ho : o.isCells = false) : KpG n sb W (W.putObj l o') := by
  refine ⟨fun x hx => ?_, ⟨rfl, rfl, rfl, by simp, fun k hk => World.putObj_heap_other (fun e => by omega)⟩⟩
  refine (World.putObj_heap_other (fun e => ?_)).trans hx
  subst e
  rw [show W.heap[_]? = _ from hx] at h
  injection h with h
  rw [← h] at ho; cases ho
theorem GB.found {n : Nat} {W : World} {va vb : Value} {s t a b : Int} (h : GB n W va vb s t a b) (x y : Int) : GB n ((W.setCell ⟨n + 1 + 1 + 1, 0, none⟩ (.int .i64 x)).setCell ⟨n + 1 + 1 + 1 + 1, 0, none⟩ (.int .i64 y)).drew va vb s t x y := by
  have k : ∀ {j : Nat} {o : Obj}, W.heap[j]? = some o → j ≠ n + 3 → j ≠ n + 4 → ((W.setCell ⟨n + 1 + 1 + 1, 0, none⟩ (.int .i64 x)).setCell ⟨n + 1 + 1 + 1 + 1, 0, none⟩ (.int .i64 y)).drew.heap[j]? = some o := fun h e1 e2 => ((Below.heap_setCell _ _ _ _ (by simp; omega)).trans (Below.heap_setCell _ _ _ _ (by simp; omega))).trans h
  refine ⟨k h.1 (by omega) (by omega), k h.2 (by omega) (by omega), k h.3 (by omega) (by omega), ?_, ?_, k h.6 (by omega) (by omega)⟩
  · have := heap_setCell_same W (n + 3) 0 _ _ (.int .i64 x) h.4
    exact (Below.heap_setCell _ _ _ _ (by simp)).trans (by simpa using this)
  · have e : (W.setCell ⟨n + 1 + 1 + 1, 0, none⟩ (.int .i64 x)).heap[n + 4]? = some (.cells #[.int .i64 b] 3 (0, 0)) := (Below.heap_setCell _ _ _ _ (by simp)).trans h.5
    have := heap_setCell_same _ (n + 4) 0 _ _ (.int .i64 y) e
    simp at this
    exact this
theorem keeps_set {B : Nat} {W : World} {p : Nat} {cs : Array Value} {t : TypeId} {u : Nat × Nat} (h : W.heap[p]? = some (.cells cs t u)) (o : Nat) (v : Value) : KeepsFrom B W (W.setCell ⟨p, o, none⟩ v) := by
  refine ⟨by simp [World.setCell], fun k ob _ hk ho => (Below.heap_setCell _ _ _ _ (fun e => ?_)).trans hk⟩
  simp only at e
  subst e
  rw [h] at hk
  cases hk
  cases ho
theorem up_back (l : List Ges) : (dnL l.length).map (fun y => l[y.1]'y.2) = l.reverse := by
  unfold dnL
  rw [List.map_reverse]
  congr 1
  apply List.ext_getElem
  · simp [upL_length]
  · intro i h1 h2
    rw [List.getElem_map, upL_get]
theorem find_none {l : List Ges} {s t : Int} (h : ∀ y ∈ dnL l.length, hitG s t (l[y.1]'y.2) = false) : l.reverse.find? (hitG s t) = none := by
  rw [← up_back, List.find?_eq_none]
  intro x hx
  obtain ⟨y, hy, rfl⟩ := List.mem_map.1 hx
  simp [h y hy]
theorem find_some {l : List Ges} {s t : Int} {pre : List (UpTo l.length)} {y : UpTo l.length} (hp : pre ++ [y] <+: dnL l.length) (h : ∀ z ∈ pre, hitG s t (l[z.1]'z.2) = false) (hy : hitG s t (l[y.1]'y.2) = true) : l.reverse.find? (hitG s t) = some (l[y.1]'y.2) := by
  obtain ⟨rest, hr⟩ := hp
  rw [← up_back, ← hr]
  simp only [List.map_append, List.find?_append, List.map_cons, List.map_nil]
  have : (pre.map (fun y => l[y.1]'y.2)).find? (hitG s t) = none := by
    rw [List.find?_eq_none]
    intro x hx
    obtain ⟨z, hz, rfl⟩ := List.mem_map.1 hx
    simp [h z hz]
  rw [this]
  simp [List.find?_cons, hy]
theorem ret_goal {tmps : Array Value} {w : World} {p q : Nat} {x y : Int} (h6 : tmps.getD 6 undef = .pointer (some ⟨p, 0, none⟩)) (h7 : tmps.getD 7 undef = .pointer (some ⟨q, 0, none⟩)) (hx : w.cell? ⟨p, 0, none⟩ = some (.int .i64 x)) (hy : w.cell? ⟨q, 0, none⟩ = some (.int .i64 y)) : (results Try.f100 tmps).run Try.prog w = .ok (.tuple #[.int .i64 x, .int .i64 y]) w := by
  have e6 : tmps[6]?.getD undef = .pointer (some ⟨p, 0, none⟩) := by simpa using h6
  have e7 : tmps[7]?.getD undef = .pointer (some ⟨q, 0, none⟩) := by simpa using h7
  have hr : Try.f100.results = #[.cell 6 3, .cell 7 3] := rfl
  simp [results, hr, go_sem, e6, e7, hx, hy, asAddr, Result.andThen]
theorem bx_new {W : World} {t b : Nat} {v : Value} (h : W.heap.size = b) : Boxed (W.alloc (.cells #[v] t)) b t v := by subst h; exact Boxed.new _ _ _
set_option maxRecDepth 100000 in
set_option maxHeartbeats 4000000 in
theorem goal_any (rest : List Int) (l : List Ges) (s t : Nat) (va vb : Value) (w : World) (ha : SliceV w va 1 IntAt rest) (hb : SliceV w vb 6 GesAt l) (hs : s < rest.length) (hr : rest.length ≤ 24) (hl : l.length ≤ 100) (hok : l.all (gesOk rest.length) = true) :
    Calls Try.prog 100 #[.agg #[va, vb], .int .i64 s, .int .i64 t] w fun e w' => e = .returned (.tuple #[.int .i64 (golG rest l s t).1, .int .i64 (golG rest l s t).2]) ∧ Below w.heap.size w w' := by
  have HA := Lib.hid ha
  have HBV := Lib.hid hb
  have HOK := Lib.hid hok
  obtain ⟨a, c, rfl, -, -⟩ := ha
  obtain ⟨b, d, rfl, -, -⟩ := hb
  refine (callsIn_wide (n := 6)).1 ?_
  refine callsIn_of_wp_marks Try.func100 rfl trivial ?_ rfl
  simp only [Try.ntmps100, List.size_toArray, List.length_cons, List.length_nil, Nat.reduceAdd, Nat.reduceSub, Array.replicate_succ, Array.replicate_zero, List.push_toArray, List.append_toArray, List.nil_append, List.cons_append]
  gi_wp2_with (first
    | (refine ⟨trivial, ?_⟩; gi_at_call 109; refine (callsIn_wide.2 (backward_any _ _ _ _)).mono ?_; rintro e w2 ⟨rfl, rfl⟩))
  obtain ⟨n, hn⟩ : ∃ n, n = w.heap.size := ⟨_, rfl⟩
  rw [← hn]
  generalize hW4 : World.alloc (World.alloc (World.alloc (World.alloc (World.alloc (World.alloc w _) _) _) _) _) _ = W4
  have hGB : GB n W4 (.slice a rest.length c) (.slice b l.length d) s t 0 0 := by
    rw [← hW4, hn]
    refine ⟨?_, ?_, ?_, ?_, ?_, ?_⟩
    · exact heap_keep (bAlloc (bAlloc (bAlloc (bAlloc (bAlloc (Below.refl _ _) _) _) _) _) _) (World.alloc_heap_new w _)
    · exact heap_keep (bAlloc (bAlloc (bAlloc (bAlloc (Below.refl _ _) _) _) _) _) (bx_new (by rw [World.size_alloc]))
    · exact heap_keep (bAlloc (bAlloc (bAlloc (Below.refl _ _) _) _) _) (bx_new (by rw [World.size_alloc, World.size_alloc]))
    · exact heap_keep (bAlloc (bAlloc (Below.refl _ _) _) _) (bx_new (by rw [World.size_alloc, World.size_alloc, World.size_alloc]))
    · exact heap_keep (bAlloc (Below.refl _ _) _) (bx_new (by rw [World.size_alloc, World.size_alloc, World.size_alloc, World.size_alloc]))
    · exact bx_new (by rw [World.size_alloc, World.size_alloc, World.size_alloc, World.size_alloc, World.size_alloc])
  have hB4 : Below n w W4 := by rw [← hW4, hn]; exact bAlloc (bAlloc (bAlloc (bAlloc (bAlloc (bAlloc (Below.refl _ _) _) _) _) _) _) _
  have hsz : n + 6 = W4.heap.size := by rw [← hW4, hn]; simp
  clear hW4
  have HN := Lib.hid hn.symm
  clear hn
  refine wpIn_range_kept (P := Try.prog) (n := 6) (by omega) (gf := 112) (lb := #[.pointer (some ⟨n + 5, 0, none⟩)]) rfl (enters_of Try.func112 (by kernel_rfl) rfl)
    (back_says 5 l (n + 5) n _ w W4 (by omega) HN.out HBV.out hGB.li hB4 (by omega)) (fun h k => h.trans k) (fun W lo o o' hlo ho hc _ => KpG.putObj W lo o o' (by omega) ho hc) (Below.refl _ _) (fun _ => rfl)
    (fun pre W => GB n W (.slice a rest.length c) (.slice b l.length d) s t 0 0 ∧ (∀ y ∈ pre, hitG s t (l[y.1]'y.2) = false) ∧ Below n w W)
    (fun pre W => (∃ pre' y, pre = pre' ++ [y] ∧ (∀ z ∈ pre', hitG s t (l[z.1]'z.2) = false) ∧ hitG s t (l[y.1]'y.2) = true ∧ GB n W (.slice a rest.length c) (.slice b l.length d) s t (l[y.1]'y.2).area (l[y.1]'y.2).speed) ∧ Below n w W)
    ?hI ?hIx ?h0
    (fun x a' W => ∃ gb : Nat, n + 6 ≤ gb ∧ W.heap[gb]? = some (.cells #[.int .i64 (l[x.1]'x.2).fst, .int .i64 (l[x.1]'x.2).lst, .int .i64 (l[x.1]'x.2).beg, .int .i64 (l[x.1]'x.2).fin, .int .i64 (l[x.1]'x.2).area, .int .i64 (l[x.1]'x.2).speed] 76 (0, 0)) ∧ a' = { tmps := #[.agg #[.slice a rest.length c, .slice b l.length d], .int .i64 s, .int .i64 t, .pointer (some ⟨n, 0, none⟩), .pointer (some ⟨n + 1, 0, none⟩), .pointer (some ⟨n + 1 + 1, 0, none⟩), .pointer (some ⟨n + 1 + 1 + 1, 0, none⟩), .pointer (some ⟨n + 1 + 1 + 1 + 1, 0, none⟩), undef, .pointer (some ⟨gb, 0, none⟩), .pointer (some ⟨n, 1, none⟩), .slice b l.length d, .func (.func 112) #[] #[.pointer (some ⟨n + 1 + 1 + 1 + 1 + 1, 0, none⟩)], .int .i64 (x.1 : Int), (l[x.1]'x.2).agg, undef, undef, undef, undef, undef, undef, undef, undef, undef, undef, undef, undef, undef, undef, undef, undef, undef, undef, undef, undef, undef, undef, undef, undef], defers := [] })
    ?hAx ?assign ?body ?done ?stop
  case hI => exact fun pre W W' row h hg hr => ⟨h.1.own hg (fun r e => (hr r e).2), h.2.1, (ownFrom_below (B := W4.heap.size) (by rw [HN.out]; exact Nat.le_refl _) (by omega) : OwnFrom W4.heap.size (fun (_ : Unit) W => Below n w W)) () W W' row h.2.2 hg hr⟩
  case hIx =>
    rintro pre W W' row ⟨⟨pre', y, e1, e2, e3, e4⟩, h2⟩ hg hr
    exact ⟨⟨pre', y, e1, e2, e3, e4.own hg (fun r e => (hr r e).2)⟩, (ownFrom_below (B := W4.heap.size) (by rw [HN.out]; exact Nat.le_refl _) (by omega) : OwnFrom W4.heap.size (fun (_ : Unit) W => Below n w W)) () W W' row h2 hg hr⟩
  case h0 => exact ⟨hGB, by simp, hB4⟩
  case hAx =>
    rintro x a' _ W W' row ⟨gb, e1, e2, e3⟩ hg hr
    exact ⟨gb, e1, entry_kept e2 rfl hg (fun r e => (hr r e).2), e3⟩
  case assign =>
    rintro lo pre x W K ⟨hi, hp, hB⟩ hK
    have hz : n + 6 ≤ W.heap.size := by have := hi.li.lt; omega
    have HX := Lib.hid (World.alloc_heap_new W (.cells #[.int .i64 (l[x.1]'x.2).fst, .int .i64 (l[x.1]'x.2).lst, .int .i64 (l[x.1]'x.2).beg, .int .i64 (l[x.1]'x.2).fin, .int .i64 (l[x.1]'x.2).area, .int .i64 (l[x.1]'x.2).speed] 76))
    have HI := Lib.hid hi
    have HP := Lib.hid hp
    have HBX := Lib.hid hB
    clear hi hp hB
    dsimp only [encG, Ges.agg]
    gi_wp2
    exact hK _ _ ((others_below (bAlloc (Below.refl _ _) _)).from _) ⟨fun _ h => h.alloc _, bAlloc' (Below.refl _ _) (by omega) _⟩ ⟨HI.out.below (bAlloc (Below.refl _ _) _), HP.out, bAlloc' HBX.out (by omega) _⟩ ⟨_, hz, HX.out, rfl⟩
  case body =>
    rintro lo pre x a' W ⟨hi, hp, hB⟩ ⟨gb, hgb, hgx, rfl⟩ hlen
    obtain ⟨x, hx⟩ := x
    simp only at hgx ⊢
    have hg := List.all_eq_true.1 HOK.out _ (List.getElem_mem hx)
    have HIF : Hid (hitG s t l[x] = hitG s t l[x]) := Lib.hid rfl
    have hgo : 0 ≤ l[x].fin ∧ l[x].fin ≤ 100000 := by
      simp only [gesOk, Bool.and_eq_true, betw_iff] at hg
      exact hg.1.1.1.2
    clear hg
    have HX0 := Lib.hid (fun (h : hitG s t l[x] = false) => show ∀ y ∈ pre ++ [(⟨x, hx⟩ : UpTo l.length)], hitG s t (l[y.1]'y.2) = false from fun y hy => by
      rcases List.mem_append.1 hy with h1 | h1
      · exact hp y h1
      · simp at h1; subst h1; exact h)
    have HX1 := Lib.hid (fun (h : hitG s t l[x] = true) (W2 : World) (h2 : GB n W2 (.slice a rest.length c) (.slice b l.length d) s t l[x].area l[x].speed) => show ∃ pre' y, pre ++ [(⟨x, hx⟩ : UpTo l.length)] = pre' ++ [y] ∧ (∀ z ∈ pre', hitG s t (l[z.1]'z.2) = false) ∧ hitG s t (l[y.1]'y.2) = true ∧ GB n W2 (.slice a rest.length c) (.slice b l.length d) s t (l[y.1]'y.2).area (l[y.1]'y.2).speed from ⟨pre, ⟨x, hx⟩, rfl, hp, h, h2⟩)
    clear HIF hp
    generalize l[x] = g at *
    obtain ⟨g0, g1, g2, g3, g4, g5⟩ := g
    simp only at hgx hgo HX1
    have q0 := cell_of_heap (j := 0) hgx (show 0 < 6 by omega)
    have q1 := cell_of_heap (j := 1) hgx (show 1 < 6 by omega)
    have q2 := cell_of_heap (j := 2) hgx (show 2 < 6 by omega)
    have q3 := cell_of_heap (j := 3) hgx (show 3 < 6 by omega)
    have q4 := cell_of_heap (j := 4) hgx (show 4 < 6 by omega)
    have q5 := cell_of_heap (j := 5) hgx (show 5 < 6 by omega)
    simp at q0 q1 q2 q3 q4 q5
    have lq := cell_lt q0
    have s1 : W.cell? ⟨n + 1, 0, none⟩ = some (.int .i64 (s : Int)) := hi.se.cell
    have s2 : W.cell? ⟨n + 1 + 1, 0, none⟩ = some (.int .i64 (t : Int)) := hi.ti.cell
    have s3 : W.cell? ⟨n + 1 + 1 + 1, 0, none⟩ = some (.int .i64 0) := hi.ga.cell
    have s4 : W.cell? ⟨n + 1 + 1 + 1 + 1, 0, none⟩ = some (.int .i64 0) := hi.gs.cell
    have f3 : W.frozen? ⟨n + 1 + 1 + 1, 0, none⟩ = false := hi.ga.frozen
    have f4 : W.frozen? ⟨n + 1 + 1 + 1 + 1, 0, none⟩ = false := hi.gs.frozen
    have l4 : n + 1 + 1 + 1 + 1 < W.heap.size := hi.gs.lt
    obtain ⟨gf, hgf⟩ : ∃ gf, g3 - 1 = gf := ⟨_, rfl⟩
    have u1 : IntKind.i64.wrap (g3 - 1) = gf := by rw [IntWalk.i64_in _ (by omega)]; exact hgf
    have HH : Hid (hitG s t ⟨g0, g1, g2, g3, g4, g5⟩ = (betw s g0 g1 && betw t g2 gf)) := Lib.hid (by unfold hitG; rw [hgf])
    have HI := Lib.hid hi
    have HBX := Lib.hid hB
    have HGX := Lib.hid hgx
    have H1 := Lib.hid (fun (m : Nat) W => CallsIn.inRound (n := m) lo (callsIn_wide.2 (between_any s g0 g1 W)))
    have H2 := Lib.hid (fun (m : Nat) W => CallsIn.inRound (n := m) lo (callsIn_wide.2 (between_any t g2 gf W)))
    clear hi hB hgx hgf hgo hlen
    cases h1 : betw s g0 g1
    · rw [h1] at H1 HH
      clear h1
      gi_wp2_with (refine ⟨trivial, ?_⟩; gi_at_call 71; with_reducible refine (H1.out _ _).mono ?_; rintro e w1 ⟨rfl, rfl⟩)
      refine ⟨trivial, ?_⟩
      gi_wp2
      exact ⟨KeepsFrom.refl _ _, ⟨fun _ h => h, Below.refl _ _⟩, HI.out, HX0.out (by rw [HH.out]; rfl), HBX.out⟩
    · rw [h1] at H1 HH
      clear h1
      cases h2 : betw t g2 gf
      · rw [h2] at H2 HH
        clear h2
        gi_wp2_with (first
          | (refine ⟨trivial, ?_⟩; gi_at_call 71; with_reducible refine (H1.out _ _).mono ?_; rintro e w1 ⟨rfl, rfl⟩)
          | (refine ⟨trivial, ?_⟩; gi_at_call 71; with_reducible refine (H2.out _ _).mono ?_; rintro e w1 ⟨rfl, rfl⟩))
        exact ⟨KeepsFrom.refl _ _, ⟨fun _ h => h, Below.refl _ _⟩, HI.out, HX0.out (by rw [HH.out]; rfl), HBX.out⟩
      · rw [h2] at H2 HH
        clear h2
        gi_wp2_with (first
          | (refine ⟨trivial, ?_⟩; gi_at_call 71; with_reducible refine (H1.out _ _).mono ?_; rintro e w1 ⟨rfl, rfl⟩)
          | (refine ⟨trivial, ?_⟩; gi_at_call 71; with_reducible refine (H2.out _ _).mono ?_; rintro e w1 ⟨rfl, rfl⟩))
        have HG2 := Lib.hid (HI.out.found g4 g5)
        have HK2 : Hid (KeepsFrom W4.heap.size W ((W.setCell ⟨n + 1 + 1 + 1, 0, none⟩ (.int .i64 g4)).setCell ⟨n + 1 + 1 + 1 + 1, 0, none⟩ (.int .i64 g5)).drew) := Lib.hid (by
          have h1 := keeps_set (B := W4.heap.size) HI.out.ga 0 (.int .i64 g4)
          have e : (W.setCell ⟨n + 1 + 1 + 1, 0, none⟩ (.int .i64 g4)).heap[n + 4]? = some (.cells #[.int .i64 0] 3 (0, 0)) := (Below.heap_setCell _ _ _ _ (by simp)).trans HI.out.gs
          have h2 := keeps_set (B := W4.heap.size) e 0 (.int .i64 g5)
          exact (h1.trans h2).trans ((KeepsOthers.drew _).from _))
        have HP2 : Hid (KpG n (n + 5) W ((W.setCell ⟨n + 1 + 1 + 1, 0, none⟩ (.int .i64 g4)).setCell ⟨n + 1 + 1 + 1 + 1, 0, none⟩ (.int .i64 g5)).drew) := Lib.hid ⟨fun v hv => ((Below.heap_setCell _ _ _ _ (by simp)).trans (Below.heap_setCell _ _ _ _ (by simp))).trans hv, (((Below.refl n W).setCell (p := ⟨n + 1 + 1 + 1, 0, none⟩) (by simp; omega) _).setCell (p := ⟨n + 1 + 1 + 1 + 1, 0, none⟩) (by simp; omega) _).drew⟩
        have HB2 : Hid (Below n w ((W.setCell ⟨n + 1 + 1 + 1, 0, none⟩ (.int .i64 g4)).setCell ⟨n + 1 + 1 + 1 + 1, 0, none⟩ (.int .i64 g5)).drew) := Lib.hid (HBX.out.trans HP2.out.low)
        gi_region
        all_goals
          gi_wp2
          exact ⟨HK2.out, HP2.out, HX1.out (by rw [HH.out]; rfl) _ HG2.out, HB2.out⟩
  case done =>
    rintro D W hD ⟨hi, hp, hB⟩ hK
    have hB2 : Below w.heap.size w W := by rw [HN.out]; exact hB
    have hal := HA.out.keep IntAt.stable hB2
    obtain ⟨b0, o0, rfl, hf⟩ := hal.at (by intro h; simp [h] at hs)
    have r0 := hf s hs
    unfold IntAt at r0
    rw [Nat.mul_one] at r0
    obtain ⟨rv, hrv⟩ : ∃ rv, rest[s] = rv := ⟨_, rfl⟩
    rw [hrv] at r0
    have HGO : Hid (golG rest l s t = (rv, 100)) := Lib.hid (by
      unfold golG
      rw [find_none hp, gI hs, hrv])
    have e0 : W.cell? ⟨n, 0, none⟩ = some (.slice (some ⟨b0, o0, none⟩) rest.length c) := by have := cell_of_heap hi.sc (show 0 < 2 by omega); simpa using this
    have s1 : W.cell? ⟨n + 1, 0, none⟩ = some (.int .i64 (s : Int)) := hi.se.cell
    have s3 : W.cell? ⟨n + 1 + 1 + 1, 0, none⟩ = some (.int .i64 0) := hi.ga.cell
    have s4 : W.cell? ⟨n + 1 + 1 + 1 + 1, 0, none⟩ = some (.int .i64 0) := hi.gs.cell
    have f3 : W.frozen? ⟨n + 1 + 1 + 1, 0, none⟩ = false := hi.ga.frozen
    have f4 : W.frozen? ⟨n + 1 + 1 + 1 + 1, 0, none⟩ = false := hi.gs.frozen
    have l4 : n + 1 + 1 + 1 + 1 < W.heap.size := hi.gs.lt
    have lr := cell_lt r0
    have hss : (s : Int) < (rest.length : Int) := by omega
    have HI := Lib.hid hi
    have HBX := Lib.hid hB
    have HKD := Lib.hid hK
    have HNW := Lib.hid hsz
    have HG2 := Lib.hid (hi.found rv 100)
    have HND : Hid (D ≠ n + 3 ∧ D ≠ n + 4) := Lib.hid (by omega)
    clear hp hB hB2 hK hal hf hi hrv hsz
    gi_wp2
    have hKU : ((W.setCell ⟨n + 1 + 1 + 1, 0, none⟩ (.int .i64 rv)).setCell ⟨n + 1 + 1 + 1 + 1, 0, none⟩ (.int .i64 100)).heap[D]? = some (.deferred (some [])) := ((Below.heap_setCell _ _ _ _ HND.out.2).trans (Below.heap_setCell _ _ _ _ HND.out.1)).trans HKD.out
    refine ⟨by simp, .inl ⟨_, _, rfl, run_takeDeferred hKU, ?_⟩⟩
    have hg := GB.own (W' := ((W.setCell ⟨n + 1 + 1 + 1, 0, none⟩ (.int .i64 rv)).setCell ⟨n + 1 + 1 + 1 + 1, 0, none⟩ (.int .i64 100)).putObj D (.deferred none)) (W := (W.setCell ⟨n + 1 + 1 + 1, 0, none⟩ (.int .i64 rv)).setCell ⟨n + 1 + 1 + 1 + 1, 0, none⟩ (.int .i64 100)) ⟨HG2.out.1, HG2.out.2, HG2.out.3, HG2.out.4, HG2.out.5, HG2.out.6⟩ (grownBy_putObj' _ D _) (fun r e => by cases e; exact ⟨_, hKU, rfl⟩)
    have hBU : Below n w ((W.setCell ⟨n + 1 + 1 + 1, 0, none⟩ (.int .i64 rv)).setCell ⟨n + 1 + 1 + 1 + 1, 0, none⟩ (.int .i64 100)) := (HBX.out.setCell (p := ⟨n + 1 + 1 + 1, 0, none⟩) (by simp; omega) _).setCell (p := ⟨n + 1 + 1 + 1 + 1, 0, none⟩) (by simp; omega) _
    have hB' : Below n w (((W.setCell ⟨n + 1 + 1 + 1, 0, none⟩ (.int .i64 rv)).setCell ⟨n + 1 + 1 + 1 + 1, 0, none⟩ (.int .i64 100)).putObj D (.deferred none)) := hBU.trans (belowK_b (w := w) (by rw [HN.out]; exact Nat.le_refl _) _ D _ _ (by have := HN.out; have := HNW.out; omega) hKU rfl rfl)
    refine ⟨_, ret_goal (p := n + 3) (q := n + 4) rfl rfl hg.ga.cell hg.gs.cell, ?_, by rw [HN.out]; exact hB'⟩
    rw [HGO.out]
  case stop =>
    rintro D pre W hD hpre ⟨⟨pre', y, e1, e2, e3, e4⟩, hB⟩ hK
    have HGO := find_some (by rw [← e1]; exact hpre) e2 e3
    have HGO2 : Hid (golG rest l s t = ((l[y.1]'y.2).area, (l[y.1]'y.2).speed)) := Lib.hid (by unfold golG; rw [HGO])
    have HE4 := Lib.hid e4
    have HBX := Lib.hid hB
    have HKD := Lib.hid hK
    have HNW := Lib.hid hsz
    clear HGO e1 e2 e3 e4 hB hK hpre
    gi_wp2
    refine ⟨by simp, .inl ⟨_, _, rfl, run_takeDeferred HKD.out, ?_⟩⟩
    have hg := GB.own (W' := W.putObj D (.deferred none)) HE4.out (grownBy_putObj' _ D _) (fun r e => by cases e; exact ⟨_, HKD.out, rfl⟩)
    have hB' : Below n w (W.putObj D (.deferred none)) := HBX.out.trans (belowK_b (w := w) (by rw [HN.out]; exact Nat.le_refl _) _ D _ _ (by have := HN.out; have := HNW.out; omega) HKD.out rfl rfl)
    refine ⟨_, ret_goal (p := n + 3) (q := n + 4) rfl rfl hg.ga.cell hg.gs.cell, ?_, by rw [HN.out]; exact hB'⟩
    rw [HGO2.out]
end Go.Proofs.Ytbmbcbknoflpgaa
