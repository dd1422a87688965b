/- The law of sources: its parts. -/
import Derived.Test.YtbmbcbknoflpgaaB6
import Derived.Test.YtbmbcbknoflpgaaB5
import Derived.Test.YtbmbcbknoflpgaaA9
import Derived.Test.YtbmbcbknoflpgaaD1
set_option linter.unusedSimpArgs false
set_option linter.unusedVariables false
namespace Go.Proofs.Ytbmbcbknoflpgaa
open Go.RowKit

theorem sq_nonneg8 (x : Int) : 0 ≤ x * x := by
  rcases Int.le_total 0 x with h | h
  · exact Int.mul_nonneg h h
  · exact Int.mul_nonneg_of_nonpos_of_nonpos h h
theorem pls_low {g : Glo} (h : gloOk g = true) {j : Int} (hj : 0 ≤ j) : amOk (pls g j) = true := by
  obtain ⟨_, _, _, _, h5, h6, h7, h8⟩ := glo_in h
  unfold pls amOk
  rw [betw_iff]
  split
  · omega
  · rename_i hlt
    have hlt : j < g.opn := by omega
    obtain ⟨_, _, p3, _, p5, _⟩ := pls_num h hj hlt
    have hpos : 1 ≤ g.opn * g.opn := by
      have : 1 ≤ g.opn := by omega
      exact Int.le_trans this (by have := Int.mul_le_mul_of_nonneg_left this (show 0 ≤ g.opn by omega); omega)
    rw [Int.tdiv_eq_ediv_of_nonneg p3]
    have key : 4 * g.hgt * j * (g.opn - j) ≤ 500 * (g.opn * g.opn) := by
      have e1 : 4 * (j * (g.opn - j)) ≤ g.opn * g.opn := by
        have := sq_nonneg8 (g.opn - 2 * j)
        have e : (g.opn - 2 * j) * (g.opn - 2 * j) = g.opn * g.opn - 4 * (j * (g.opn - j)) := by grind
        omega
      have e2 : 4 * g.hgt * j * (g.opn - j) = g.hgt * (4 * (j * (g.opn - j))) := by grind
      rw [e2]
      have e3 := Int.mul_le_mul_of_nonneg_left e1 h7
      have e4 := Int.mul_le_mul_of_nonneg_right h8 (show 0 ≤ g.opn * g.opn by omega)
      omega
    have d1 := Int.ediv_nonneg p3 (show 0 ≤ g.opn * g.opn by omega)
    have d2 : 4 * g.hgt * j * (g.opn - j) / (g.opn * g.opn) ≤ 500 := by
      have := Int.ediv_le_ediv (show 0 < g.opn * g.opn by omega) key
      rwa [Int.mul_ediv_cancel _ (by omega)] at this
    omega
theorem pulL_low {l : List Glo} (h : l.all gloOk = true) : (pulL l).all amOk = true := by
  induction l with
  | nil => rfl
  | cons g l ih =>
    simp only [List.all_cons, Bool.and_eq_true] at h
    simp only [pulL, List.all_append, Bool.and_eq_true]
    refine ⟨?_, ih h.2⟩
    rw [List.all_eq_true]
    intro x hx
    simp only [pulP, List.mem_map, List.mem_range] at hx
    obtain ⟨i, _, rfl⟩ := hx
    exact pls_low h.1 (Int.emod_nonneg _ (by have := (glo_in h.1).2.2.1; omega))
theorem noiL_low {s h : Int} (hs : 0 ≤ s ∧ s ≤ 4294967295) (hh : 0 ≤ h ∧ h ≤ 500) (n : Nat) : (noiL s h n).all amOk = true := by
  rw [List.all_eq_true]
  intro x hx
  simp only [noiL, List.mem_map, List.mem_range] at hx
  obtain ⟨i, _, rfl⟩ := hx
  have := rsd_in hs (i + 1)
  generalize rsd s (i + 1) = r at *
  unfold amOk nsv
  rw [betw_iff]
  have h1 : 0 ≤ (r / 65536) % (2 * h + 1) := Int.emod_nonneg _ (by omega)
  have h2 : (r / 65536) % (2 * h + 1) < 2 * h + 1 := Int.emod_lt_of_pos _ (by omega)
  omega
set_option maxHeartbeats 1000000 in
theorem low_any (l : List Int) (v : Value) (w : World) (hv : SliceV w v 1 IntAt l) (hl : l.length ≤ 1000000) :
    Calls Try.prog 47 #[v] w fun e w' => e = .returned (.bool (l.all amOk)) ∧ Below w.heap.size w w' := by
  have HV := Lib.hid hv
  obtain ⟨a, c, rfl, -⟩ := hv
  go_enter Try.func47, Try.ntmps47
  go_wp2_with fail
  go_loopw [3] (fun i wr => ∃ k : Nat, k ≤ l.length ∧ i = .int .i64 k ∧ Hid ((l.take k).all amOk = true) ∧ w = wr) (fun i _ => l.length - (intOf i).toNat)
  case atStart => exact ⟨0, Nat.zero_le _, rfl, Lib.hid (by simp), rfl⟩
  case round =>
    obtain ⟨k, hk, rfl, HK, rfl⟩ := hrel
    by_cases hlt : k < l.length
    · obtain ⟨b, o, rfl, hf⟩ := HV.out.at (by intro h; simp [h] at hlt)
      have k0 := hf k hlt
      unfold IntAt at k0
      rw [Nat.mul_one] at k0
      have HIN : Hid (l[k] ∈ l) := Lib.hid (List.getElem_mem hlt)
      have HT : Hid ((l.take (k + 1)).all amOk = ((l.take k).all amOk && amOk l[k])) := Lib.hid (by rw [take_succ l k hlt, List.all_append]; simp)
      clear hf
      generalize l[k] = x at *
      have hkb := cell_lt k0
      have hkk : (k : Int) < (l.length : Int) := by omega
      by_cases h1 : x < -500
      · have HF : Hid (l.all amOk = false) := Lib.hid (by rw [← Bool.not_eq_true, List.all_eq_true]; intro h; have := h x HIN.out; simp only [amOk, betw_iff] at this; omega)
        go_wp2_with fail
        all_goals first
          | (exfalso; omega)
          | (go_ret; exact ⟨ret_bool (by rw [HF.out]), Below.refl _ _⟩)
      · by_cases h2 : x > 500
        · have HF : Hid (l.all amOk = false) := Lib.hid (by rw [← Bool.not_eq_true, List.all_eq_true]; intro h; have := h x HIN.out; simp only [amOk, betw_iff] at this; omega)
          go_wp2_with fail
          all_goals first
            | (exfalso; omega)
            | (go_ret; exact ⟨ret_bool (by rw [HF.out]), Below.refl _ _⟩)
        · have HX : Hid (amOk x = true) := Lib.hid (by simp only [amOk, betw_iff]; omega)
          go_wp2_with fail
          all_goals first
            | (exfalso; omega)
            | skip
          go_roundw
          case rel => exact ⟨k + 1, by omega, by go_num, Lib.hid (by rw [HT.out, HK.out, HX.out]; rfl), by first | rfl | trivial⟩
          case measure => simp [intOf]; omega
    · obtain rfl : k = l.length := by omega
      have h := HK.out
      rw [List.take_length] at h
      have HF := Lib.hid h
      clear h
      go_wp2_with fail
      go_ret
      exact ⟨ret_bool (by rw [HF.out]), Below.refl _ _⟩
end Go.Proofs.Ytbmbcbknoflpgaa
