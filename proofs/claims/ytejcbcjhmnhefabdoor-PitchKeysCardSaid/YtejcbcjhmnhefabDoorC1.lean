/- Contracts: frequencies. -/
import Derived.Test.YtejcbcjhmnhefabDoorA5
set_option linter.unusedSimpArgs false
set_option linter.unusedVariables false
namespace Go.Proofs.YtejcbcjhmnhefabDoor
open Go.RowKit

def semit : List Int := [1048576, 1110928, 1176987, 1246974, 1321123, 1399681, 1482910, 1571089, 1664511, 1763488, 1868350, 1979448, 2097152]
def semi (i : Nat) : Int := semit.getD i 0
/-- The table of semitones, as the program's text lays it. -/
def Semi (w : World) : Prop := ∀ i, i < 13 → w.cell? ⟨0, i, none⟩ = some (.int .i64 (semi i))
theorem Semi.keep {w w' : World} (h : Semi w) (hB : Below w.heap.size w w') : Semi w' := fun i hi => YtejcbcjhmnhefabDoor.keep hB (h i hi)
theorem semi_in : ∀ i, i < 13 → 0 ≤ semi i ∧ semi i ≤ 2097152 := by decide
def freqNum (c : Nat) : Int := semi (c % 1200 / 100) * (100 - ((c % 100 : Nat) : Int)) + semi (c % 1200 / 100 + 1) * ((c % 100 : Nat) : Int)
/-- The frequency of cents. -/
def freq (c : Nat) : Int := rnd (27500 * freqNum c * 2 ^ (c / 1200)) 104857600

theorem pow_in : ∀ k, k ≤ 10 → (0 : Int) ≤ 2 ^ k ∧ (2 : Int) ^ k ≤ 1024 := by decide
set_option maxRecDepth 20000 in
set_option maxHeartbeats 4000000 in
theorem frequency_any (c : Nat) (w : World) (hc : c ≤ 12000) (hS : Semi w) :
    Calls Tryd.prog 24 #[.int .i64 c] w fun e w' => e = .returned (.int .i64 (freq c)) ∧ Below w.heap.size w w' := by
  have hi : c % 1200 / 100 < 12 := by omega
  have c0 := hS (c % 1200 / 100) (by omega)
  have c1 := hS (c % 1200 / 100 + 1) (by omega)
  have b0 := semi_in (c % 1200 / 100) (by omega)
  have b1 := semi_in (c % 1200 / 100 + 1) (by omega)
  have hb := cell_lt c0
  obtain ⟨r, hr⟩ : ∃ r, r = freq c := ⟨_, rfl⟩
  rw [← hr]
  unfold freq freqNum at hr
  have hk : c / 1200 ≤ 10 := by omega
  have hf : c % 100 ≤ 99 := by omega
  go_enter Tryd.func24, Tryd.ntmps24
  go_wp2_with fail
  rw [show (c : Int) / 1200 = ((c / 1200 : Nat) : Int) by omega, show (c : Int) % 1200 / 100 = ((c % 1200 / 100 : Nat) : Int) by omega, show (c : Int) % 100 = ((c % 100 : Nat) : Int) by omega]
  generalize c / 1200 = k at *
  generalize c % 1200 / 100 = s at *
  generalize c % 100 = f at *
  generalize semi s = x at *
  generalize semi (s + 1) = y at *
  have m0 := mul_in (A := 2097152) (B := 100) (show -2097152 ≤ x by omega) (by omega) (show -100 ≤ 100 - (f : Int) by omega) (by omega)
  have m1 := mul_in (A := 2097152) (B := 100) (show -2097152 ≤ y by omega) (by omega) (show -100 ≤ (f : Int) by omega) (by omega)
  have q1 : IntKind.i64.wrap (x * (100 - (f : Int))) = x * (100 - (f : Int)) := IntWalk.i64_in _ (by omega)
  have q2 : IntKind.i64.wrap (y * (f : Int)) = y * (f : Int) := IntWalk.i64_in _ (by omega)
  have q3 : IntKind.i64.wrap (x * (100 - (f : Int)) + y * (f : Int)) = x * (100 - (f : Int)) + y * (f : Int) := IntWalk.i64_in _ (by omega)
  have q4 : IntKind.i64.wrap (100 - (f : Int)) = 100 - (f : Int) := IntWalk.i64_in _ (by omega)
  have q5 : IntKind.i64.wrap ((s : Int) + 1) = (s : Int) + 1 := IntWalk.i64_in _ (by omega)
  (refine wp_region_below (by kernel_rfl) (by kernel_rfl) ?_; (repeat (first | go_big_quiet_step (fail) | quiet_step (fail))); (refine wpQuiet_nil ?_; intro _ hw'; obtain ⟨xq, hw''⟩ := hw'; subst hw''))
  have hb := xq.2
  generalize xq.val = w1 at *
  have hz : -500000000 ≤ x * (100 - (f : Int)) + y * (f : Int) ∧ x * (100 - (f : Int)) + y * (f : Int) ≤ 500000000 := by omega
  generalize x * (100 - (f : Int)) + y * (f : Int) = z at *
  have hp := pow_in k hk
  have m2 := mul_in (A := 13750000000000) (B := 1024) (show -13750000000000 ≤ 27500 * z by omega) (by omega) (show -1024 ≤ (2 : Int) ^ k by omega) hp.2
  have q6 : wrap64 (27500 * z * 2 ^ k) = 27500 * z * 2 ^ k := by
    generalize 27500 * z * 2 ^ k = p at *
    unfold wrap64; omega
  have q7 : IntKind.i64.wrap (27500 * z * 2 ^ k) = 27500 * z * 2 ^ k := IntWalk.i64_in _ (by omega)
  have hround := fun W => rounded_any (27500 * z * 2 ^ k) 104857600 W (by omega) (by omega) (by omega) (by omega)
  rw [← hr] at hround
  clear m2 hp q7
  go_wp2_with (go_at_call 34; rw [q6]; refine (hround _).mono ?_; rintro e w2 ⟨rfl, rfl⟩)
  go_ret
  exact ⟨by rw [hr]; rfl, hb⟩

/-- What Frequency hands back. -/
def frequencyRes (c : Int) : Value := if betw c 0 12000 = true then .tuple #[.int .i64 (freq c.toNat), .int .i64 0] else .tuple #[.int .i64 0, .int .i64 2]
set_option maxHeartbeats 1000000 in
theorem Frequency_any (c : Int) (w : World) (hS : Semi w) : Calls Tryd.prog 11 #[.int .i64 c] w fun e w' => e = .returned (frequencyRes c) ∧ Below w.heap.size w w' := by
  cases h : betw c 0 12000
  · have hr : frequencyRes c = .tuple #[.int .i64 0, .int .i64 2] := by simp [frequencyRes, h]
    rw [hr]
    go_enter Tryd.func11, Tryd.ntmps11
    go_wp2_with (go_at_call 17; refine (between_any _ _ _ _).mono ?_; rintro e w' ⟨rfl, rfl⟩; rw [h])
    go_ret2
    exact ⟨rfl, Below.refl _ _⟩
  · have hr : frequencyRes c = .tuple #[.int .i64 (freq c.toNat), .int .i64 0] := by simp [frequencyRes, h]
    rw [hr]
    have h' := h
    simp only [betw, Bool.and_eq_true, decide_eq_true_eq] at h'
    obtain ⟨m, rfl⟩ : ∃ m : Nat, c = (m : Int) := ⟨c.toNat, by omega⟩
    rw [Int.toNat_natCast]
    have hf := fun W hB => frequency_any m W (by omega) (hS.keep hB)
    go_enter Tryd.func11, Tryd.ntmps11
    go_wp2_with (first | (go_at_call 17; refine (between_any _ _ _ _).mono ?_; rintro e w' ⟨rfl, rfl⟩; rw [h]) | (go_at_call 24; refine (hf _ (Below.refl _ _)).mono ?_; rintro e w1 ⟨rfl, hb⟩))
    go_ret2
    exact ⟨rfl, hb⟩
end Go.Proofs.YtejcbcjhmnhefabDoor
