/- Contracts: curves. -/
import Derived.Test.YtejcbcjhmnhefabDoorA6
import Derived.Test.YtejcbcjhmnhefabDoorB1
import Derived.Deep.RegionHeld3
set_option linter.unusedSimpArgs false
set_option linter.unusedVariables false
namespace Go.Proofs.YtejcbcjhmnhefabDoor
open Go.RowKit

theorem rnd_in {a b A : Int} (h0 : -A ≤ a) (h1 : a ≤ A) (hb : 0 < b) : -(2 * A + b) ≤ rnd a b ∧ rnd a b ≤ 2 * A + b := by
  unfold rnd
  split
  · have h2 := Int.ediv_nonneg (show 0 ≤ 2 * -a + b by omega) (show 0 ≤ 2 * b by omega)
    have h3 := Int.ediv_le_self (2 * b) (show 0 ≤ 2 * -a + b by omega)
    omega
  · have h2 := Int.ediv_nonneg (show 0 ≤ 2 * a + b by omega) (show 0 ≤ 2 * b by omega)
    have h3 := Int.ediv_le_self (2 * b) (show 0 ≤ 2 * a + b by omega)
    omega
theorem cmdVal_in {c : Cmd} (h : cmdOk c = true) {t : Int} (ht0 : -1000000 ≤ t) (ht1 : t ≤ 1000000) : -2000000000000000 ≤ cmdVal c t ∧ cmdVal c t ≤ 2000000000000000 := by
  unfold cmdOk shapeOk at h
  simp only [Bool.and_eq_true] at h
  obtain ⟨⟨h1, h2⟩, h3, h4⟩ := h
  simp only [betw, Bool.and_eq_true, decide_eq_true_eq] at h1 h2 h3
  have HR := knotsOk_range _ _ (by omega) h4
  have HM := knotsOk_sorted _ _ h4
  unfold cmdVal
  split
  · omega
  · rename_i k hk
    have hkm := HR k (List.mem_of_getElem? hk)
    split
    · have hm := mul_in h2.1 h2.2 hkm.2.2.1 hkm.2.2.2
      have := rnd_in (a := c.height * k.value) (b := 1000) (A := 100000000) (by omega) (by omega) (by omega)
      omega
    · split
      · omega
      · rename_i i hi
        split
        · omega
        · rename_i a ha
          have ham := HR a (List.mem_of_getElem? ha)
          obtain ⟨hi1, rfl⟩ := List.getElem?_eq_some_iff.1 ha
          rw [hi] at hk
          obtain ⟨hi2, rfl⟩ := List.getElem?_eq_some_iff.1 hk
          have hmo := HM i (i + 1) hi1 hi2 (by omega)
          generalize c.shape[i + 1] = k at *
          generalize c.shape[i] = j at *
          have m1 := mul_in (A := 1000) (B := 4000) ham.2.2.1 ham.2.2.2 (show -4000 ≤ k.time - j.time by omega) (by omega)
          have m2 := mul_in (A := 2000) (B := 2000000) (show -2000 ≤ k.value - j.value by omega) (by omega) (show -2000000 ≤ t - c.at_ - j.time by omega) (by omega)
          have m3 := mul_in (A := 100000) (B := 5000000000) h2.1 h2.2 (show -5000000000 ≤ j.value * (k.time - j.time) + (k.value - j.value) * (t - c.at_ - j.time) by omega) (by omega)
          have := rnd_in (a := c.height * (j.value * (k.time - j.time) + (k.value - j.value) * (t - c.at_ - j.time))) (b := 1000 * (k.time - j.time)) (A := 500000000000000) (by omega) (by omega) (by omega)
          omega

def cmdsOk (l : List Cmd) : Bool := decide ((l.length : Int) ≤ 200) && !l.any (fun x => !cmdOk x)
set_option maxHeartbeats 1000000 in
theorem commandsRight_any (l : List Cmd) (v : Value) (w : World) (hv : SliceV w v 3 CmdAt l) :
    Calls Tryd.prog 19 #[v] w fun e w' => e = .returned (.bool (cmdsOk l)) ∧ Below w.heap.size w w' := by
  have HC := Lib.hid (containsC_any l v w hv)
  obtain ⟨a, c, rfl, hl, -⟩ := hv
  unfold most at hl
  by_cases h2 : (l.length : Int) ≤ 200
  · go_enter Tryd.func19, Tryd.ntmps19
    go_wp2_with (go_at_call 35; refine HC.out.mono ?_; rintro e w1 ⟨rfl, hb⟩)
    go_ret
    exact ⟨ret_bool (by simp [cmdsOk, h2]), hb⟩
  · go_enter Tryd.func19, Tryd.ntmps19
    go_wp2_with fail
    go_ret
    exact ⟨ret_bool (by simp [cmdsOk]; omega), Below.refl _ _⟩

/-- The curve at a time, behind so many commands. -/
def curveAt (base : Int) (l : List Cmd) (i : Nat) (t : Nat) : Int := base + ((l.take i).map fun c => cmdVal c t).sum
theorem curveAt_succ (base : Int) (l : List Cmd) (i t : Nat) (h : i < l.length) : curveAt base l (i + 1) t = curveAt base l i t + cmdVal l[i] t := by
  unfold curveAt
  rw [take_succ l i h, List.map_append, List.sum_append]
  simp only [List.map_cons, List.map_nil, List.sum_cons, List.sum_nil]
  omega
theorem curveAt_in (base : Int) (l : List Cmd) (hb : -100000 ≤ base ∧ base ≤ 100000) (hok : ∀ c ∈ l, cmdOk c = true) (t : Nat) (ht : t ≤ 4000) : ∀ i, i ≤ l.length → -(100000 + 2000000000000000 * (i : Int)) ≤ curveAt base l i t ∧ curveAt base l i t ≤ 100000 + 2000000000000000 * (i : Int) := by
  intro i
  induction i with
  | zero => intro _; simp [curveAt]; omega
  | succ i ih =>
    intro hi
    have h1 := ih (by omega)
    rw [curveAt_succ base l i t (by omega)]
    have h2 := cmdVal_in (hok _ (List.getElem_mem (show i < l.length by omega))) (t := (t : Int)) (by omega) (by omega)
    rw [Int.natCast_add]; omega
end Go.Proofs.YtejcbcjhmnhefabDoor
