/- Contracts: the search for a knot, a command's value. -/
import Derived.Test.YtejcbcjhmnhefabDoorA2
set_option linter.unusedSimpArgs false
set_option linter.unusedVariables false
namespace Go.Proofs.YtejcbcjhmnhefabDoor
open Go.RowKit

theorem knotsOk_sorted : ∀ (l : List Knot) (e : Int), knotsOk l e = true → ∀ i j (hi : i < l.length) (hj : j < l.length), i < j → l[i].time < l[j].time := by
  have low : ∀ (l : List Knot) (e : Int), knotsOk l e = true → ∀ i (hi : i < l.length), e ≤ l[i].time := by
    intro l
    induction l with
    | nil => intro _ _ i hi; simp at hi
    | cons k l ih =>
      intro e h i hi
      simp only [knotsOk, Bool.and_eq_true, betw, decide_eq_true_eq] at h
      cases i with
      | zero => exact h.1.1.1
      | succ i => have := ih _ h.2 i (by simpa using hi); simp; omega
  intro l
  induction l with
  | nil => intro _ _ i _ hi; simp at hi
  | cons k l ih =>
    intro e h i j hi hj hij
    simp only [knotsOk, Bool.and_eq_true, betw, decide_eq_true_eq] at h
    cases j with
    | zero => omega
    | succ j =>
      cases i with
      | zero => have := low _ _ h.2 j (by simpa using hj); simp; omega
      | succ i => exact ih _ h.2 i j (by simpa using hi) (by simpa using hj) (by omega)
theorem knotsOk_range : ∀ (l : List Knot) (e : Int), 0 ≤ e → knotsOk l e = true → ∀ k ∈ l, 0 ≤ k.time ∧ k.time ≤ 4000 ∧ -1000 ≤ k.value ∧ k.value ≤ 1000 := by
  intro l
  induction l with
  | nil => intro _ _ _ k hk; cases hk
  | cons k l ih =>
    intro e he h x hx
    simp only [knotsOk, Bool.and_eq_true, betw, decide_eq_true_eq] at h
    rcases List.mem_cons.1 hx with rfl | hx
    · omega
    · exact ih _ (by omega) h.2 x hx

set_option maxHeartbeats 1000000 in
theorem search_any (l : List Knot) (t : Int) (v : Value) (w : World) (hv : SliceV w v 2 KnotAt l) (hl : l.length ≤ 1000000)
    (hmono : ∀ i j (hi : i < l.length) (hj : j < l.length), i < j → l[i].time < l[j].time) :
    Calls Tryd.prog 31 #[v, .int .i64 t, .func (.func 32) #[] #[]] w fun e w' => (∃ (i : Nat) (f : Bool), e = .returned (.tuple #[.int .i64 i, .bool f]) ∧ i ≤ l.length ∧ (∀ m (h : m < l.length), m < i → l[m].time < t) ∧ (∀ m (h : m < l.length), i ≤ m → t ≤ l[m].time) ∧
      (f = true ↔ ∃ h : i < l.length, l[i].time = t)) ∧ Below w.heap.size w w' := by
  have HV := Lib.hid hv
  obtain ⟨a, c, rfl, -, -⟩ := hv
  have HM := Lib.hid hmono
  clear hmono
  go_enter Tryd.func31, Tryd.ntmps31
  go_wp2_with fail
  go_loopw [9, 10] (fun x y wr => ∃ i j : Nat, i ≤ j ∧ j ≤ l.length ∧ x = .int .i64 i ∧ y = .int .i64 j ∧ Hid (∀ m (h : m < l.length), m < i → l[m].time < t) ∧ Hid (∀ m (h : m < l.length), j ≤ m → t ≤ l[m].time) ∧ Below w.heap.size w wr) (fun x y _ => (intOf y).toNat - (intOf x).toNat)
  case atStart => exact ⟨0, l.length, Nat.zero_le _, Nat.le_refl _, rfl, rfl, Lib.hid fun _ _ h => by omega, Lib.hid fun _ _ h => by omega, Below.refl _ _⟩
  case round =>
    obtain ⟨i, j, hij, hj, rfl, rfl, HLO, HHI, hB⟩ := hrel
    by_cases hlt : i < j
    · have h1 : i ≤ (i + j) / 2 := by omega
      have h2 : (i + j) / 2 < j := by omega
      have h3 : (i + j) / 2 < l.length := by omega
      obtain ⟨b, o, rfl, hf⟩ := HV.out.at (by intro h'; simp [h'] at h3)
      obtain ⟨k0, k1⟩ := KnotAt.stable _ _ _ _ _ hB (hf _ h3)
      have hkb := cell_lt k0
      clear hf
      obtain ⟨x, hx⟩ : ∃ x, x = l[(i + j) / 2] := ⟨_, rfl⟩
      rw [← hx] at k0 k1
      have HX := Lib.hid hx
      clear hx
      by_cases hlt : x.time < t
      · have hc : cmpI x.time t = -1 := if_pos hlt
        go_wp2_with (go_at_call 32; refine (knotCmp_any x _ _).mono ?_; rintro e w1 ⟨rfl, hb1⟩; rw [hc]; have HB1 := bThen hB hb1)
        go_roundw
        case rel =>
          refine ⟨(i + j) / 2 + 1, j, by omega, hj, by go_num, rfl, Lib.hid fun m hm h' => ?_, HHI, HB1⟩
          rcases Nat.lt_or_eq_of_le (show m ≤ (i + j) / 2 by omega) with h4 | rfl
          · have := HM.out m _ hm h3 h4
            rw [← HX.out] at this; omega
          · rw [← HX.out]; exact hlt
        case measure => simp [intOf]; omega
      · have hc : ¬ cmpI x.time t < 0 := by unfold cmpI; rw [if_neg hlt]; split <;> omega
        go_wp2_with (go_at_call 32; refine (knotCmp_any x _ _).mono ?_; rintro e w1 ⟨rfl, hb1⟩; have HB1 := bThen hB hb1)
        go_roundw
        case rel =>
          refine ⟨i, (i + j) / 2, by omega, by omega, rfl, by go_num, HLO, Lib.hid fun m hm h' => ?_, HB1⟩
          rcases Nat.lt_or_eq_of_le h' with h4 | rfl
          · have := HM.out _ m h3 hm h4
            rw [← HX.out] at this; omega
          · rw [← HX.out]; omega
        case measure => simp [intOf]; omega
    · obtain rfl : i = j := by omega
      by_cases hi : i < l.length
      · obtain ⟨b, o, rfl, hf⟩ := HV.out.at (by intro h'; simp [h'] at hi)
        obtain ⟨k0, k1⟩ := KnotAt.stable _ _ _ _ _ hB (hf _ hi)
        have hkb := cell_lt k0
        clear hf
        obtain ⟨x, hx⟩ : ∃ x, x = l[i] := ⟨_, rfl⟩
        rw [← hx] at k0 k1
        have HX := Lib.hid hx
        clear hx
        go_wp2_with (go_at_call 32; refine (knotCmp_any x _ _).mono ?_; rintro e w1 ⟨rfl, hb1⟩; have HB1 := bThen hB hb1)
        go_ret2
        refine ⟨⟨i, _, rfl, hj, HLO.out, HHI.out, ?_⟩, HB1⟩
        have hle := HHI.out i hi (Nat.le_refl _)
        rw [← HX.out] at hle
        simp only [beq_iff_eq, ← HX.out]
        unfold cmpI
        rw [if_neg (by omega)]
        constructor
        · intro h; refine ⟨hi, ?_⟩; split at h <;> omega
        · rintro ⟨_, h⟩; rw [if_neg (by omega)]
      · go_wp2_with fail
        go_ret2
        exact ⟨⟨i, _, rfl, hj, HLO.out, HHI.out, by simp; omega⟩, hB⟩
end Go.Proofs.YtejcbcjhmnhefabDoor
