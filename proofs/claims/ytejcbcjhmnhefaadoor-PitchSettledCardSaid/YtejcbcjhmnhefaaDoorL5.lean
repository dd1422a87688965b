/- The maths of superposition; commands in a row of the call's own. -/
import Derived.Test.YtejcbcjhmnhefaaDoorL4
import Derived.Test.YtejcbcjhmnhefaaDoorE21
import Derived.Test.YtejcbcjhmnhefaaDoorG2
import Derived.Test.YtejcbcjhmnhefaaDoorH2
set_option linter.unusedSimpArgs false
set_option linter.unusedVariables false
namespace Go.Proofs.YtejcbcjhmnhefaaDoor
open Go.RowKit

def shiftC (k : Int) (c : Cmd) : Cmd := ⟨c.at_ + k, c.height, c.shape⟩
theorem cmdVal_shift (k : Int) (c : Cmd) (t : Int) : cmdVal (shiftC k c) (t + k) = cmdVal c t := by
  unfold cmdVal shiftC
  simp only
  rw [show t + k - (c.at_ + k) = t - c.at_ by omega]
theorem curveAt_shift (k : Nat) (base : Int) (l : List Cmd) (i t : Nat) : curveAt base (l.map (shiftC k)) i (t + k) = curveAt base l i t := by
  unfold curveAt
  rw [← List.map_take, List.map_map]
  congr 2
  refine List.map_congr_left fun c _ => ?_
  have h := cmdVal_shift k c t
  simpa using h
theorem curveAt_base (base : Int) (l : List Cmd) (i t : Nat) : curveAt base l i t = base + curveAt 0 l i t := by unfold curveAt; omega
theorem curveAt_one (y : Cmd) (t : Nat) : curveAt 0 [y] [y].length t = cmdVal y t := by simp [curveAt]
theorem cmdOk_shift {k : Int} {c : Cmd} (h : cmdOk c = true) (h0 : 0 ≤ k) (h1 : c.at_ + k ≤ 4000) : cmdOk (shiftC k c) = true := by
  obtain ⟨h2, h3, h4, h5⟩ := cmdOk_in h
  have e1 : betw (c.at_ + k) (-4000) 4000 = true := by simp [betw]; omega
  have e2 : betw c.height (-100000) 100000 = true := by simp [betw]; omega
  have e3 : betw c.shape.length 1 20 = true := by simp [betw]; omega
  unfold cmdOk shapeOk shiftC
  simp only
  rw [e1, e2, e3, h5]; rfl
theorem curveOk_mk {n base : Int} {l : List Cmd} (hn : 0 ≤ n ∧ n ≤ 4000) (hb : -100000 ≤ base ∧ base ≤ 100000) (hl : l.length ≤ 200) (h : ∀ c ∈ l, cmdOk c = true) : curveOk n base l = true := by
  unfold curveOk
  rw [cmdsOk_of (by omega), List.all_eq_true.2 h]
  simp [betw]; omega

def cmdV (L : List (Cmd × Value)) : List Value := L.flatMap fun p => [.int .i64 p.1.at_, .int .i64 p.1.height, p.2]
theorem cmdV_append (L M : List (Cmd × Value)) : cmdV (L ++ M) = cmdV L ++ cmdV M := by simp [cmdV]
theorem cmdV_get (L : List (Cmd × Value)) : ∀ (i : Nat) (hi : i < L.length), (cmdV L)[i * 3]? = some (.int .i64 L[i].1.at_) ∧ (cmdV L)[i * 3 + 1]? = some (.int .i64 L[i].1.height) ∧ (cmdV L)[i * 3 + 2]? = some L[i].2 := by
  induction L with
  | nil => intro i hi; simp at hi
  | cons x L ih =>
    intro i hi
    cases i with
    | zero => simp [cmdV]
    | succ i =>
      have h := ih i (by simpa using hi)
      have e : cmdV (x :: L) = .int .i64 x.1.at_ :: .int .i64 x.1.height :: x.2 :: cmdV L := by simp [cmdV]
      rw [e, show (i + 1) * 3 = i * 3 + 1 + 1 + 1 by omega]
      simpa using h
theorem cmds_slice {W : World} {base k : Nat} {v : Value} {L : List (Cmd × Value)} (h : W.ownsRow base 24 3 v k (cmdV L)) (hk : k = L.length) (hl : L.length ≤ 1000000) (hs : ∀ p ∈ L, SliceV W p.2 2 KnotAt p.1.shape) : SliceV W v 3 CmdAt (L.map Prod.fst) := by
  subst hk
  by_cases h0 : 0 < L.length
  · obtain ⟨g, cap, rfl, hc⟩ := row_cell h h0
    refine ⟨_, cap, by rw [List.length_map], by rw [List.length_map]; unfold most; omega, .inr ⟨g, 0, rfl, fun i hi => ?_⟩⟩
    have hi' : i < L.length := by simpa using hi
    obtain ⟨q0, q1, q2⟩ := cmdV_get L i hi'
    rw [Nat.zero_add, List.getElem_map]
    exact ⟨hc _ _ q0, hc _ _ q1, _, hc _ _ q2, hs _ (List.getElem_mem hi')⟩
  · have : L = [] := by cases L; rfl; simp at h0
    subst this
    obtain ⟨ad, cap, rfl⟩ := ownsRow_slice h
    exact ⟨_, cap, rfl, by simp, .inl rfl⟩
theorem own_nilC {W : World} {base : Nat} : W.ownsRow base 24 3 (.slice none 0 0) 0 (cmdV []) := ⟨by simp [cmdV], .inl ⟨rfl, rfl⟩⟩
theorem own_far {W W' : World} {base e size k : Nat} {v : Value} {xs : List Value} (h : W.ownsRow base e size v k xs) (hb : ∀ b, base ≤ b → b < W.heap.size → W'.heap[b]? = W.heap[b]?) : W'.ownsRow base e size v k xs := by
  refine ⟨h.1, ?_⟩
  rcases h.2 with h2 | ⟨g, cap, cur, h3, h4, h5, h6⟩
  · exact .inl h2
  · exact .inr ⟨g, cap, cur, h3, h4, (hb g h4 (Array.getElem?_eq_some_iff.1 h5).1).trans h5, h6⟩
theorem info24 : (Tryd.prog.info? 24).map (fun i => (i.zero, i.size, i.bytes)) = some (some (.agg #[.int .i64 0, .int .i64 0, .slice none 0 0]), 3, 40) := by kernel_rfl
theorem three_new (W : World) (x y z : Value) (t : TypeId) : ∀ j u, [x, y, z][j]? = some u → (W.alloc (.cells #[x, y, z] t)).cell? (Addr.add ⟨W.heap.size, 0, none⟩ j) = some u := by
  intro j u h
  rw [Addr.add_lit, Nat.zero_add]
  exact cell_new (by simpa using h)
theorem own_stepC {W w5 : World} {base n : Nat} {L : List Value} {u : Value} {cs : Array Value} {t : TypeId} (hB : base ≤ W.heap.size) (ho : W.ownsRow base 24 3 u n L) (hg : (W.alloc (.cells cs t)).grownBy w5 u.ownBlock) : Below base W w5 :=
  ((bAlloc (Below.refl W.heap.size W) _).mono hB).trans (grown_below hg (ho.alloc _) (by simp; omega))
/-- A curve, some of whose first values are cut away. -/
theorem tail_slice {W : World} {g n k : Nat} {f : Nat → Int} (h : W.rowIs g 3 (n + k) (fun t => .int .i64 (f t))) (hn : n + k ≤ 1000000) (cap : Nat) : SliceV W (.slice (some ⟨g, k, none⟩) n cap) 1 IntAt ((List.range n).map fun t => f (t + k)) := by
  refine ⟨_, cap, by simp, by simp [most]; omega, .inr ⟨g, k, rfl, fun i hi => ?_⟩⟩
  have hi' : i < n := by simpa using hi
  have h1 := h.cell (i := k + i) (by omega)
  unfold IntAt
  rw [Nat.mul_one, h1]
  simp [Nat.add_comm]
theorem tail_slice0 {W : World} {g cap : Nat} {o : Nat} : SliceV W (.slice (some ⟨g, o, none⟩) 0 cap) 1 IntAt ([] : List Int) := ⟨_, cap, rfl, by simp, .inl rfl⟩
end Go.Proofs.YtejcbcjhmnhefaaDoor
