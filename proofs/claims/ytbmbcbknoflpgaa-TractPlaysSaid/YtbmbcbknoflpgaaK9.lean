/- Contracts: the examples of the chapter that each statement ends with. -/
import Derived.Test.YtbmbcbknoflpgaaJM
import Derived.Test.YtbmbcbknoflpgaaI3
import Derived.Test.YtbmbcbknoflpgaaB5
import Derived.Test.YtbmbcbknoflpgaaA89
import Derived.Test.YtbmbcbknoflpgaaE4
set_option linter.unusedSimpArgs false
set_option linter.unusedVariables false
namespace Go.Proofs.Ytbmbcbknoflpgaa
open Go.RowKit

def kS : Shp := ⟨[1, 1, 1], [], 0, 0, 50, 0⟩
def kP : List Plc := shpPlaces kS
def kF1 : Nat → Int := nxtF [1, 1, 1] kP 0 [⟨0, 100⟩] (fun _ => 0)
def kF2 : Nat → Int := nxtF [1, 1, 1] kP 1 [] kF1
def kF3 : Nat → Int := nxtF [1, 1, 1] kP 2 [] kF2
def kF4 : Nat → Int := nxtF [1, 1, 1] kP 3 [] kF3
theorem kOk : TubeOk [1, 1, 1] 3 kP := by
  refine ⟨by omega, by simp, by omega, by simp, ?_, by decide +kernel, ?_⟩
  · intro p hp
    have e : kP = [.fin 0 1 0, .fin 2 0 (-50), .jnt [(0, 0), (1, 1)], .jnt [(1, 0), (2, 1)]] := by rfl
    rw [e] at hp
    simp only [List.mem_cons, List.not_mem_nil, or_false] at hp
    rcases hp with rfl | rfl | rfl | rfl
    · exact ⟨by simp, by omega⟩
    · exact ⟨by simp, by omega⟩
    · refine ⟨by simp, by simp, fun i hi => ?_⟩
      rcases (show i = 0 ∨ i = 1 by simp at hi; omega) with rfl | rfl <;> simp
    · refine ⟨by simp, by simp, fun i hi => ?_⟩
      rcases (show i = 0 ∨ i = 1 by simp at hi; omega) with rfl | rfl <;> simp
  · intro j hj
    rcases (show j = 0 ∨ j = 1 ∨ j = 2 by simp at hj; omega) with rfl | rfl | rfl <;> simp
theorem TubeIs.top {base tb main steps wb : Nat} {w : World} {al : List Int} {ps : List Plc} {f : Nat → Int} (h : TubeIs base w tb al main ps steps wb f) : base ≤ w.heap.size := by
  have := h.3.lt
  have := h.1
  omega
/-- A step without feeds. -/
theorem step_quiet {base tb main k wb : Nat} {W : World} {al : List Int} {ps : List Plc} {f : Nat → Int} (h : TubeIs base W tb al main ps k wb f) (ok : TubeOk al main ps) (hk : k < 100000) :
    Calls Try.prog 31 #[.pointer (some ⟨tb, 0, none⟩), .slice none 0 0] W fun e w' => e = .returned (.tuple #[.agg #[.int .i64 (lipF al main ps k f), .int .i64 (nosF al main ps k f)], .int .i64 0]) ∧ TubeIs base w' tb al main ps (k + 1) wb (nxtF al ps k [] f) ∧ Below base W w' :=
  (Step_ok h ok hk [] none 0 ⟨none, 0, rfl, ⟨Nat.zero_le _, Nat.zero_le _⟩, .inl rfl⟩ (fun _ p hp => by cases hp) (by simp [fdOk, fdGood, fdSum]) (by simp)).mono fun _ _ ⟨a, b, c⟩ => ⟨a, b, c.below h.top h.1.2 h.1.1⟩
/-- A step with one feed. -/
theorem step_one {base tb main k wb p : Nat} {W : World} {al : List Int} {ps : List Plc} {f : Nat → Int} (h : TubeIs base W tb al main ps k wb f) (ok : TubeOk al main ps) (hk : k < 100000) (s : Nat) (x : Int) (hs : s < main) (hx : -500 ≤ x ∧ x ≤ 500) (hp : W.heap[p]? = some (.cells #[.int .i64 (s : Int), .int .i64 x] 59 (0, 0))) :
    Calls Try.prog 31 #[.pointer (some ⟨tb, 0, none⟩), .slice (some ⟨p, 0, none⟩) 1 1] W fun e w' => e = .returned (.tuple #[.agg #[.int .i64 (lipF al main ps k f), .int .i64 (nosF al main ps k f)], .int .i64 0]) ∧ TubeIs base w' tb al main ps (k + 1) wb (nxtF al ps k [⟨s, x⟩] f) ∧ Below base W w' := by
  refine (Step_ok h ok hk [⟨s, x⟩] (some ⟨p, 0, none⟩) 1 ⟨_, 1, rfl, ⟨by simp [most], by simp⟩, .inr ⟨p, 0, rfl, fun i hi => ?_⟩⟩ (fun _ q hq => ?_) ?_ (by simp)).mono fun _ _ ⟨a, b, c⟩ => ⟨a, b, c.below h.top h.1.2 h.1.1⟩
  · obtain rfl : i = 0 := by simp at hi; omega
    have c0 := cell_of_heap (j := 0) hp (show 0 < 2 by omega)
    have c1 := cell_of_heap (j := 1) hp (show 1 < 2 by omega)
    simp at c0 c1
    exact ⟨c0, c1⟩
  · cases hq
    exact box_ne hp h.3 (by decide)
  · have h1 : fdGood (main : Int) [⟨(s : Int), x⟩] := ⟨by intro g hg; simp at hg; subst hg; simp only; omega, by simp⟩
    simp only [fdOk, Bool.and_eq_true, decide_eq_true_eq]
    exact ⟨h1, by simp only [fdSum, List.map_cons, List.map_nil, List.sum_cons, List.sum_nil]; omega⟩
/-- The energy of a tube. -/
theorem tube_energy {base tb main k wb : Nat} {W : World} {al : List Int} {ps : List Plc} {f : Nat → Int} (h : TubeIs base W tb al main ps k wb f) (ok : TubeOk al main ps) (hk : k ≤ 1000000) :
    Calls Try.prog 34 #[.pointer (some ⟨tb, 0, none⟩)] W fun e w' => e = .returned (.int .i64 (wrap64 (enX (fun i => al.getD i 0) (fun i => f (offO al.length k + i * 2)) (fun i => f (offO al.length k + i * 2 + 1)) al.length))) ∧ Below W.heap.size W w' := by
  have hn := ok.n48
  have hm := ok.m1
  have hmn := ok.mn
  obtain ⟨av, ac, pa, pc, xs, ht, ha, -, -⟩ := h.cells (by omega)
  have ho : offO al.length k + 2 * al.length ≤ 4 * al.length := by
    unfold offO
    rcases (show k % 2 = 0 ∨ k % 2 = 1 by omega) with e | e <;> rw [e] <;> omega
  exact Energy_any al (fun i => f (offO al.length k + i * 2)) (fun i => f (offO al.length k + i * 2 + 1)) ht hm (by omega) (by omega) (k % 2) rfl hk ha rfl (fun i hi => ⟨h.3.cell (i := offO al.length k + i * 2) (by omega), h.3.cell (i := offO al.length k + i * 2 + 1) (by omega)⟩)
theorem lit1 (w : World) (a : Int) : SliceV (w.alloc (.cells #[.int .i64 a] 3)) (.slice (some ⟨w.heap.size, 0, none⟩) 1 1) 1 IntAt [a] := own_slice (own_lit 3 1 1 _ (Nat.le_refl _) (by omega) rfl) (by simp)
theorem lit2 (w : World) (a b : Int) : SliceV (w.alloc (.cells #[.int .i64 a, .int .i64 b] 3)) (.slice (some ⟨w.heap.size, 0, none⟩) 2 2) 1 IntAt [a, b] := own_slice (own_lit 3 1 2 _ (Nat.le_refl _) (by omega) rfl) (by simp)
theorem lit3 (w : World) (a b c : Int) : SliceV (w.alloc (.cells #[.int .i64 a, .int .i64 b, .int .i64 c] 3)) (.slice (some ⟨w.heap.size, 0, none⟩) 3 3) 1 IntAt [a, b, c] := own_slice (own_lit 3 1 3 _ (Nat.le_refl _) (by omega) rfl) (by simp)
theorem lit4 (w : World) (a b c d : Int) : SliceV (w.alloc (.cells #[.int .i64 a, .int .i64 b, .int .i64 c, .int .i64 d] 3)) (.slice (some ⟨w.heap.size, 0, none⟩) 4 4) 1 IntAt [a, b, c, d] := own_slice (own_lit 3 1 4 _ (Nat.le_refl _) (by omega) rfl) (by simp)
end Go.Proofs.Ytbmbcbknoflpgaa
