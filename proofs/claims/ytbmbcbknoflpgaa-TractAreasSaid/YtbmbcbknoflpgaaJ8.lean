/- Contracts: Areas, its parts. -/
import Derived.Test.YtbmbcbknoflpgaaJ7
set_option linter.unusedSimpArgs false
set_option linter.unusedVariables false
namespace Go.Proofs.Ytbmbcbknoflpgaa
open Go.RowKit Go.Shelf

theorem moments_any (va vb : Value) (T : Int) (w : World) : Calls Try.prog 76 #[.agg #[va, vb], .int .i64 T] w fun e w' => e = .returned (.func (.func 98) #[] #[.pointer (some ⟨w.heap.size, 0, none⟩), .pointer (some ⟨w.heap.size + 1, 0, none⟩)]) ∧ w' = (w.alloc (.cells #[va, vb] 120)).alloc (.cells #[.int .i64 T] 3) := by
  go_enter Try.func76, Try.ntmps76
  go_wp2_with fail
  go_ret
  exact ⟨rfl, rfl⟩
set_option maxHeartbeats 1000000 in
theorem scoreLong_any (va : Option Addr) (n c : Nat) (vb : Value) (T : Int) (hT : 0 ≤ T) (hn : n ≤ 24) (w : World) : Calls Try.prog 75 #[.agg #[.slice va n c, vb], .int .i64 T] w fun e w' => e = .returned (.bool (decide (100000 < T) || decide (200000 < T * n))) ∧ Below w.heap.size w w' := by
  by_cases h : 100000 < T
  · rw [decide_eq_true h, Bool.true_or]
    have h1 : T > 100000 := h
    go_enter Try.func75, Try.ntmps75
    go_wp2_with fail
    go_ret
    exact ⟨ret_bool (by first | rfl | (simp; done)), bAlloc (Below.refl _ _) _⟩
  · rw [decide_eq_false h, Bool.false_or]
    have h1 : ¬ (T > 100000) := h
    have hp : 0 ≤ T * n ∧ T * n ≤ 100000 * 24 := ⟨Int.mul_nonneg hT (by omega), Int.mul_le_mul (by omega) (by omega) (by omega) (by omega)⟩
    obtain ⟨p, hpp⟩ : ∃ p, T * n = p := ⟨_, rfl⟩
    rw [hpp] at hp ⊢
    have u1 : IntKind.i64.wrap (T * n) = p := by rw [hpp]; exact IntWalk.i64_in _ (by omega)
    clear hpp
    go_enter Try.func75, Try.ntmps75
    go_wp2_with fail
    go_ret
    exact ⟨ret_bool (by first | rfl | (simp; done)), bAlloc (Below.refl _ _) _⟩
theorem infoIs : (Try.prog.info? 22).map (fun i => (i.zero.map (fun z => z.cells.size), i.size, i.bytes)) = some (some 1, 1, 24) := by kernel_rfl
theorem infoIz : (Try.prog.info? 22).map (fun i => (i.zero, i.size, i.bytes)) = some (some (.slice none 0 0), 1, 24) := by kernel_rfl
theorem makeS0 (n : Nat) (hn : n ≤ 1000000) (W : World) : (Instr.makeSlice 37 (.int .i64 0) (.int .i64 (n : Int))).run Try.prog W = .ok (.slice (some ⟨W.heap.size, 0, none⟩) 0 n) (W.alloc (.cells (madeCells #[Value.slice none 0 0] n) 22)) := by
  obtain ⟨i3, hi3, hz3, hs3, hb3⟩ := info_parts infoIz
  have h := run_makeSlice (P := Try.prog) (w := W) 37 22 i3 _ Try.underlying37 hi3 hz3 .i64 .i64 (0 : Int) (n : Int) (by omega) (by omega) (by rw [hs3]; omega) (by rw [hb3]; omega) (by omega)
  rw [hs3] at h
  simpa [Value.cells] using h
theorem own_madeS (W : World) (n : Nat) (hn : n ≤ 1000000) : (W.alloc (.cells (madeCells #[Value.slice none 0 0] n) 22)).ownsRow W.heap.size 22 1 (.slice (some ⟨W.heap.size, 0, none⟩) 0 n) 0 [] := by
  obtain ⟨cur, hb, hc, hx⟩ := World.rowIs_made W (.slice none 0 0) n 22
  exact ⟨by simp, .inr ⟨W.heap.size, n, cur, rfl, Nat.le_refl _, hb, Nat.zero_le _, by unfold maxLen; omega, by omega, by simp⟩⟩
/-- What Areas keeps between two rounds. -/
structure AS (n : Nat) (w W : World) (n9 : Nat) (rest : List Int) (l : List Ges) (t : Nat) (v : Value) (xs : List Value) : Prop where
  box : Boxed W n9 37 v
  row : W.ownsRow n 22 1 v t xs
  vals : ∀ (j : Nat) (x : Value), xs[j]? = some x → ArV rest l j x W
  low : Below n w W
theorem ArV.keep {rest : List Int} {l : List Ges} {t : Nat} {x : Value} {W W' : World} (h : ArV rest l t x W) (k : ∀ (i : Nat) (cs : Array Value), W.heap[i]? = some (.cells cs 3 (0, 0)) → W'.heap[i]? = some (.cells cs 3 (0, 0))) : ArV rest l t x W' := by
  obtain ⟨ab, e, cur, hb, hr⟩ := h
  exact ⟨ab, e, cur, k _ _ hb, hr⟩
theorem own_keep {W W' : World} {base e size k : Nat} {v : Value} {xs : List Value} (h : W.ownsRow base e size v k xs) (kp : ∀ (i : Nat) (cs : Array Value), W.heap[i]? = some (.cells cs e (0, 0)) → W'.heap[i]? = some (.cells cs e (0, 0))) : W'.ownsRow base e size v k xs := by
  refine ⟨h.1, ?_⟩
  rcases h.2 with hn | ⟨g, cap, cur, hv, hb, hg, rest⟩
  · exact .inl hn
  · exact .inr ⟨g, cap, cur, hv, hb, kp _ _ hg, rest⟩
theorem AS.keep {n n9 t : Nat} {w W W' : World} {rest : List Int} {l : List Ges} {v : Value} {xs : List Value} (h : AS n w W n9 rest l t v xs) (k : ∀ (i : Nat) (cs : Array Value) (ty : TypeId), W.heap[i]? = some (.cells cs ty (0, 0)) → (ty = 3 ∨ ty = 22 ∨ ty = 37) → W'.heap[i]? = some (.cells cs ty (0, 0))) (hB : Below n w W') : AS n w W' n9 rest l t v xs :=
  ⟨k _ _ _ h.1 (.inr (.inr rfl)), own_keep h.2 (fun i cs hi => k i cs _ hi (.inr (.inl rfl))), fun j x hx => (h.3 j x hx).keep (fun i cs hi => k i cs _ hi (.inl rfl)), hB⟩
end Go.Proofs.Ytbmbcbknoflpgaa
