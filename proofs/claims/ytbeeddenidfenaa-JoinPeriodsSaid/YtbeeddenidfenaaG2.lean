/- Contracts: the changes that stretch and transpose. -/
import Derived.Test.YtbeeddenidfenaaG1
import Derived.Laws.Rows
import Derived.Laws.ResultCell
set_option linter.unusedSimpArgs false
set_option linter.unusedVariables false
namespace Go.Proofs.Ytbeeddenidfenaa
open Go.RowKit
theorem run_store_fn {P : Program} {w : World} {a : Addr} {m : Mode} (fn : Fn) (first captured : Array Value) : (store a (.func fn first captured) m).run P w = stored P w a (.func fn first captured) m := run_store P w a _ m rfl
attribute [local go_sem] run_store_fn

theorem cell_at {V : World} {cs : Array Value} {t j n : Nat} {v : Value} (hn : V.heap.size = n) (h : cs[j]? = some v) : (V.alloc (.cells cs t)).cell? ⟨n, j, none⟩ = some v := by rw [← hn]; exact cell_new h
theorem cell_past {V : World} {o : Obj} {b j : Nat} {v : Value} (hb : b < V.heap.size) (h : V.cell? ⟨b, j, none⟩ = some v) : (V.alloc o).cell? ⟨b, j, none⟩ = some v := keep (bAlloc (Below.refl _ _) o) h
theorem heap_at {V : World} {o : Obj} {n : Nat} (hn : V.heap.size = n) : (V.alloc o).heap[n]? = some o := by rw [← hn]; exact World.alloc_heap_new V o
theorem heap_past {V : World} {o o' : Obj} {n : Nat} (hn : n < V.heap.size) (h : V.heap[n]? = some o') : (V.alloc o).heap[n]? = some o' := heap_keep (bAlloc (Below.refl _ _) o) h
theorem nr_nat {a b : Int} (h : 0 ≤ a) (hb : 0 < b) : ∃ A : Nat, nr a b = (A : Int) ∧ 1 ≤ A := by
  have h1 : 1 ≤ nr a b := by unfold nr; omega
  exact ⟨(nr a b).toNat, by omega, by omega⟩
theorem rnd_le1 {a b : Int} (h : 0 ≤ a) (hb : 0 < b) : rnd a b ≤ a + 1 := by
  rw [rnd_pos h]
  have h2 : (2 * a + b) / (2 * b) ≤ a + 1 - 0 := by
    rw [Int.sub_zero]
    refine Int.ediv_le_of_le_mul (by omega) ?_
    have : a * 1 ≤ a * b := Int.mul_le_mul_of_nonneg_left (by omega) h
    have h3 : (a + 1) * (2 * b) = 2 * (a * b) + 2 * b := by rw [Int.add_mul, ← Int.mul_assoc, Int.mul_comm a 2, Int.mul_assoc]; omega
    rw [h3]; omega
  omega
theorem nr_le {a b : Int} (h : 0 ≤ a) (hb : 0 < b) : nr a b ≤ a + 1 := by
  have := rnd_le1 h hb
  unfold nr; omega

theorem fst_le (A B k : Nat) (hB : 1 ≤ B) (hk : k ≤ B) : fst' A B k ≤ A := by
  unfold fst'
  have h1 : k * A ≤ B * A := Nat.mul_le_mul_right A hk
  refine Nat.le_of_lt_succ (Nat.div_lt_of_lt_mul ?_)
  rw [Nat.mul_succ]; omega
theorem chg_str {A B n fb ba bb : Nat} {w0 : World} (hn : n ≤ w0.heap.size) (hA : A ≤ 2000000) (hB : 1 ≤ B) (hB2 : B ≤ 1000000) (h1 : fb < n) (h2 : ba < n) (h3 : bb < n)
    (cf : w0.cell? ⟨fb, 0, none⟩ = some (.func (.func 91) #[] #[.pointer (some ⟨ba, 0, none⟩), .pointer (some ⟨bb, 0, none⟩)]))
    (ca : w0.cell? ⟨ba, 0, none⟩ = some (.int .i64 (A : Int))) (cb : w0.cell? ⟨bb, 0, none⟩ = some (.int .i64 (B : Int))) :
    Chg n B w0 (.func (.func 92) #[] #[.pointer (some ⟨fb, 0, none⟩)]) (gStr A B) := by
  refine ⟨_, _, rfl, enters_of Try.func92 (by kernel_rfl) rfl, ?_⟩
  intro W b i sl L T hi _ _ _ _ hbW hnb hp
  have f1 := fst_le A B (i + 1) hB (by omega)
  have f2 := fst_le A B i hB (by omega)
  exact str2_any A B fb ba bb b i sl L T W hA hB hB2 hi ((hbW.cell (p := ⟨fb, 0, none⟩) h1).trans cf) ((hbW.cell (p := ⟨ba, 0, none⟩) h2).trans ca) ((hbW.cell (p := ⟨bb, 0, none⟩) h3).trans cb) hp (by omega) (by omega)
theorem chg_tra {num den n N nb db : Nat} {w0 : World} (hn : n ≤ w0.heap.size) (h0 : 1 ≤ num) (h1 : num ≤ 1000) (h2 : den ≤ 1000) (h3 : nb < n) (h4 : db < n)
    (ca : w0.cell? ⟨nb, 0, none⟩ = some (.int .i64 (num : Int))) (cb : w0.cell? ⟨db, 0, none⟩ = some (.int .i64 (den : Int))) :
    Chg n N w0 (.func (.func 93) #[] #[.pointer (some ⟨db, 0, none⟩), .pointer (some ⟨nb, 0, none⟩)]) (gTra num den) := by
  refine ⟨_, _, rfl, enters_of Try.func93 (by kernel_rfl) rfl, ?_⟩
  intro W b i sl L T hi hL0 hL _ _ hbW hnb hp
  exact tra1_any num den nb db b i sl L T W h0 h1 h2 (by omega) hL ((hbW.cell (p := ⟨nb, 0, none⟩) h3).trans ca) ((hbW.cell (p := ⟨db, 0, none⟩) h4).trans cb) hp

set_option maxRecDepth 10000 in
set_option maxHeartbeats 2000000 in
theorem transposing_any (num den : Nat) (w : World) :
    Calls Try.prog 72 #[.int .i64 (num : Int), .int .i64 (den : Int)] w fun e w' => (∃ nb db, e = .returned (.agg #[.func (.func 93) #[] #[.pointer (some ⟨db, 0, none⟩), .pointer (some ⟨nb, 0, none⟩)]]) ∧
      w'.cell? ⟨nb, 0, none⟩ = some (.int .i64 (num : Int)) ∧ w'.cell? ⟨db, 0, none⟩ = some (.int .i64 (den : Int))) ∧ Below w.heap.size w w' := by
  go_enter Try.func72, Try.ntmps72
  go_wp2_with fail
  (try simp only [Exit.inBlock, Exit.then])
  refine bodyPost_ret (results_cell_row rfl _ _ (w.heap.size + 1 + 1) 86 _ (0, 0) _ rfl (by have := World.alloc_heap_new ((w.alloc (.cells #[.int .i64 (num : Int)] 3)).alloc (.cells #[.int .i64 (den : Int)] 3)) (.cells #[.func (.func 93) #[] #[.pointer (some ⟨w.heap.size + 1, 0, none⟩), .pointer (some ⟨w.heap.size, 0, none⟩)]] 86); rwa [World.size_alloc, World.size_alloc] at this) Try.underlying86 rfl (by kernel_rfl)) rfl ?_
  refine ⟨⟨w.heap.size, w.heap.size + 1, rfl, (by repeat (first | exact cell_at (by simp) rfl | refine cell_past (by first | (simp; done) | (simp; omega)) ?_)), (by repeat (first | exact cell_at (by simp) rfl | refine cell_past (by first | (simp; done) | (simp; omega)) ?_))⟩, bAlloc (bAlloc (bAlloc (Below.refl _ _) _) _) _⟩

set_option maxRecDepth 10000 in
set_option maxHeartbeats 2000000 in
theorem stretching_any (m : Mk) (num den : Nat) (vs vm : Value) (w : World) (hv : MkV w vs vm m) (h2 : 2 ≤ m.marks.length) (h3 : m.marks.length ≤ 1000000) (hn : num ≤ 1000) (hd : 1 ≤ den) (hd2 : den ≤ 1000) (hA : nr (((m.marks.length : Int) - 1) * num) den ≤ 2000000) :
    Calls Try.prog 71 #[.agg #[vs, vm], .int .i64 (num : Int), .int .i64 (den : Int)] w fun e w' => (∃ fb ba bb, e = .returned (.agg #[.func (.func 92) #[] #[.pointer (some ⟨fb, 0, none⟩)]]) ∧
      w'.cell? ⟨fb, 0, none⟩ = some (.func (.func 91) #[] #[.pointer (some ⟨ba, 0, none⟩), .pointer (some ⟨bb, 0, none⟩)]) ∧
      w'.cell? ⟨ba, 0, none⟩ = some (.int .i64 (nr (((m.marks.length : Int) - 1) * num) den)) ∧ w'.cell? ⟨bb, 0, none⟩ = some (.int .i64 ((m.marks.length : Int) - 1))) ∧ Below w.heap.size w w' := by
  obtain ⟨⟨a, c, rfl, hl, -⟩, ⟨am, cm, rfl, hlm, -⟩⟩ := hv
  unfold most at hl hlm
  obtain ⟨p, hp⟩ : ∃ p, p = ((m.marks.length : Int) - 1) * num := ⟨_, rfl⟩
  have m1 := mul_in (A := 1000000) (B := 1000) (show -1000000 ≤ (m.marks.length : Int) - 1 by omega) (by omega) (show -1000 ≤ (num : Int) by omega) (by omega)
  have m0 : 0 ≤ ((m.marks.length : Int) - 1) * num := Int.mul_nonneg (by omega) (by omega)
  have q1 : IntKind.i64.wrap (((m.marks.length : Int) - 1) * num) = p := by rw [hp]; exact IntWalk.i64_in _ (by omega)
  have q2 : IntKind.i64.wrap ((m.marks.length : Int) - 1) = (m.marks.length : Int) - 1 := IntWalk.i64_in _ (by omega)
  rw [← hp] at m0 m1 hA ⊢
  have h1 := fun W => rounded_pos p den W m0 (by omega) (by omega) (by omega)
  have hnr : nr p den = max 1 (rnd p den) := rfl
  rw [hnr] at hA ⊢
  have hri := rnd_in (a := p) (b := den) m0 (by omega)
  obtain ⟨r, hr⟩ : ∃ r, r = rnd p den := ⟨_, rfl⟩
  rw [← hr] at h1 hri hA ⊢
  have HR := Lib.hid h1
  obtain ⟨n, hn'⟩ : ∃ n, m.marks.length = n := ⟨_, rfl⟩
  rw [hn'] at h2 h3 hlm q1 q2 ⊢
  clear hr hp hnr h1 hn'
  by_cases h : 1 < r
  · rw [show max 1 r = r by omega]
    go_enter Try.func71, Try.ntmps71
    go_wp2_with (go_at_call 88; with_reducible refine Calls.mono (HR.out _) ?_; rintro e w1 ⟨rfl, rfl⟩)
    (try simp only [Exit.inBlock, Exit.then])
    refine bodyPost_ret (results_cell_row rfl _ _ (w.heap.size + 1) 86 #[.func (.func 92) #[] #[.pointer (some ⟨w.heap.size + 1 + 1 + 1 + 1, 0, none⟩)]] (0, 0) _ rfl (by repeat (first | exact heap_at (by simp) | refine heap_past (by first | (simp; done) | (simp; omega)) ?_)) Try.underlying86 rfl (by kernel_rfl)) rfl ?_
    refine ⟨⟨w.heap.size + 1 + 1 + 1 + 1, w.heap.size + 1 + 1 + 1, w.heap.size + 1 + 1, rfl, (by repeat (first | exact cell_at (by simp) rfl | refine cell_past (by first | (simp; done) | (simp; omega)) ?_)), (by repeat (first | exact cell_at (by simp) rfl | refine cell_past (by first | (simp; done) | (simp; omega)) ?_)), (by repeat (first | exact cell_at (by simp) rfl | refine cell_past (by first | (simp; done) | (simp; omega)) ?_))⟩, bAlloc (bAlloc (bAlloc (bAlloc (bAlloc (Below.refl _ _) _) _) _) _) _⟩
  · rw [show max 1 r = 1 by omega]
    by_cases h2 : r = 1
    · subst h2
      go_enter Try.func71, Try.ntmps71
      go_wp2_with (go_at_call 88; with_reducible refine Calls.mono (HR.out _) ?_; rintro e w1 ⟨rfl, rfl⟩)
      (try simp only [Exit.inBlock, Exit.then])
      refine bodyPost_ret (results_cell_row rfl _ _ (w.heap.size + 1) 86 #[.func (.func 92) #[] #[.pointer (some ⟨w.heap.size + 1 + 1 + 1 + 1, 0, none⟩)]] (0, 0) _ rfl (by repeat (first | exact heap_at (by simp) | refine heap_past (by first | (simp; done) | (simp; omega)) ?_)) Try.underlying86 rfl (by kernel_rfl)) rfl ?_
      refine ⟨⟨w.heap.size + 1 + 1 + 1 + 1, w.heap.size + 1 + 1 + 1, w.heap.size + 1 + 1, rfl, (by repeat (first | exact cell_at (by simp) rfl | refine cell_past (by first | (simp; done) | (simp; omega)) ?_)), (by repeat (first | exact cell_at (by simp) rfl | refine cell_past (by first | (simp; done) | (simp; omega)) ?_)), (by repeat (first | exact cell_at (by simp) rfl | refine cell_past (by first | (simp; done) | (simp; omega)) ?_))⟩, bAlloc (bAlloc (bAlloc (bAlloc (bAlloc (Below.refl _ _) _) _) _) _) _⟩
    · have h3 : r < 1 := by omega
      go_enter Try.func71, Try.ntmps71
      go_wp2_with (go_at_call 88; with_reducible refine Calls.mono (HR.out _) ?_; rintro e w1 ⟨rfl, rfl⟩)
      (try simp only [Exit.inBlock, Exit.then])
      refine bodyPost_ret (results_cell_row rfl _ _ (w.heap.size + 1) 86 #[.func (.func 92) #[] #[.pointer (some ⟨w.heap.size + 1 + 1 + 1 + 1, 0, none⟩)]] (0, 0) _ rfl (by repeat (first | exact heap_at (by simp) | refine heap_past (by first | (simp; done) | (simp; omega)) ?_)) Try.underlying86 rfl (by kernel_rfl)) rfl ?_
      refine ⟨⟨w.heap.size + 1 + 1 + 1 + 1, w.heap.size + 1 + 1 + 1, w.heap.size + 1 + 1, rfl, (by repeat (first | exact cell_at (by simp) rfl | refine cell_past (by first | (simp; done) | (simp; omega)) ?_)), (by repeat (first | exact cell_at (by simp) rfl | refine cell_past (by first | (simp; done) | (simp; omega)) ?_)), (by repeat (first | exact cell_at (by simp) rfl | refine cell_past (by first | (simp; done) | (simp; omega)) ?_))⟩, bAlloc (bAlloc (bAlloc (bAlloc (bAlloc (Below.refl _ _) _) _) _) _) _⟩
end Go.Proofs.Ytbeeddenidfenaa
