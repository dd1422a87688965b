/- Contracts of the functions that check rules, sets, terms and systems. -/
import Derived.Test.YtfcopnlpcbbocaaC2
set_option linter.unusedSimpArgs false
set_option linter.unusedVariables false
namespace Go.Proofs.Ytfcopnlpcbbocaa
open Go.RowKit

theorem and_true_iff' {a b : Bool} : (a && b) = true ↔ a = true ∧ b = true := by simp
theorem kinds_cast (k : Int) (l : List Pce) (n : Nat) (h : n < l.length) : (kinds k (l.take (n + 1)) : Int) = (kinds k (l.take n) : Int) + if l[n].kind = k then 1 else 0 := by
  rw [take_succ _ _ h, kinds_snoc]; split <;> simp
theorem certain_cast (l : List Pce) (n : Nat) (h : n < l.length) : (certain (l.take (n + 1)) : Int) = (certain (l.take n) : Int) + if l[n].kind = 1 ∨ l[n].kind = 2 ∨ l[n].kind = 3 then 1 else 0 := by
  rw [take_succ _ _ h, certain_snoc]; split <;> simp
theorem all_take_succ {α : Type} (f : α → Bool) (l : List α) (n : Nat) (h : n < l.length) : (l.take (n + 1)).all f = ((l.take n).all f && f l[n]) := by
  rw [take_succ _ _ h, List.all_append]; simp
theorem all_false {α : Type} (f : α → Bool) (l : List α) (n : Nat) (h : n < l.length) (hf : f l[n] = false) : l.all f = false := by
  rw [List.all_eq_false]; exact ⟨l[n], List.getElem_mem h, by simp [hf]⟩

set_option maxHeartbeats 4000000 in
theorem ruleRight_any (b o : Nat) (S : Sys) (r : Rul) (vp : Value) (w : World) (hS : SysAt w b o S) (hv : SliceV w vp 4 PceAt r.pieces) :
    Calls Try.prog 92 #[.pointer (some ⟨b, o, none⟩), .agg #[.int .i64 r.base, .int .i64 r.div, vp]] w fun e w' => e = .returned (.bool (rulOk S r)) ∧ Below w.heap.size w w' := by
  have HS := Lib.hid hS
  obtain ⟨_, _, _, hS0, -⟩ := hS
  have hb := cell_lt hS0
  clear hS0
  obtain ⟨base, div, pcs⟩ := r
  dsimp only at hv ⊢
  obtain ⟨a, c, rfl, hl, hx⟩ := hv
  unfold most at hl
  have HX := Lib.hid hx
  clear hx
  obtain ⟨W0, hW0⟩ : ∃ W0, W0 = w.alloc (.cells #[.int .i64 base, .int .i64 div, .slice a pcs.length c] 54) := ⟨_, rfl⟩
  have HB0 : Below w.heap.size w W0 := by rw [hW0]; exact bAlloc (Below.refl _ _) _
  have c0 : W0.cell? ⟨w.heap.size, 0, none⟩ = some (.int .i64 base) := by rw [hW0]; simp
  have c1 : W0.cell? ⟨w.heap.size, 1, none⟩ = some (.int .i64 div) := by rw [hW0]; simp
  have c2 : W0.cell? ⟨w.heap.size, 2, none⟩ = some (.slice a pcs.length c) := by rw [hW0]; simp
  have hs0 := cell_lt c0
  have HW0 := Lib.hid hW0
  clear hW0
  cases hlen : betw pcs.length 1 10
  · by_cases hd : div = 0
    all_goals
      go_enter Try.func92, Try.ntmps92
      go_wp2_with (go_at_call 75; refine (between_any _ _ _ _).mono ?_; rintro e w' ⟨rfl, rfl⟩)
      all_goals
        go_ret
        exact ⟨ret_bool (by simp [rulOk, *]), bAlloc (Below.refl _ _) _⟩
  have hl10 : pcs.length ≤ 10 := by simp [betw] at hlen; omega
  by_cases hd : div = 0
  · subst hd
    go_enter Try.func92, Try.ntmps92
    go_wp2_with (go_at_call 75; refine (between_any _ _ _ _).mono ?_; rintro e w' ⟨rfl, rfl⟩)
    rw [← HW0.out]
    go_loopw [5, 6, 7, 31] (fun q t u i wr => ∃ k : Nat, k ≤ pcs.length ∧ i = .int .i64 k ∧ q = .int .i64 (kinds 3 (pcs.take k)) ∧ t = .int .i64 (kinds 4 (pcs.take k)) ∧ u = .int .i64 (certain (pcs.take k)) ∧ (pcs.take k).all (pceOk S ⟨base, 0, pcs⟩) = true ∧ Below W0.heap.size W0 wr) (fun _ _ _ i _ => pcs.length - (intOf i).toNat)
    case atStart => exact ⟨0, Nat.zero_le _, rfl, rfl, rfl, rfl, rfl, Below.refl _ _⟩
    case round =>
      obtain ⟨k, hk, rfl, rfl, rfl, rfl, hall, hB⟩ := hrel
      have HA := Lib.hid hall
      clear hall
      have b3 := kinds_le 3 (pcs.take k)
      have b4 := kinds_le 4 (pcs.take k)
      have b5 := certain_le (pcs.take k)
      rw [List.length_take_of_le hk] at b3 b4 b5
      have d0 := keep hB c0
      have d1 := keep hB c1
      have d2 := keep hB c2
      have hsz := cell_lt d0
      by_cases hlt : k < pcs.length
      · rcases HX.out with hnil | ⟨pb, po, rfl, hpc⟩
        · simp [hnil] at hlt
        obtain ⟨p0, p1, p2, p3⟩ := PceAt.stable _ _ _ _ _ (bThen HB0 hB) (hpc k hlt)
        have hpb := cell_lt p0
        have k3 := Lib.hid (kinds_cast 3 pcs k hlt)
        have k4 := Lib.hid (kinds_cast 4 pcs k hlt)
        have k5 := Lib.hid (certain_cast pcs k hlt)
        have HT := Lib.hid (all_take_succ (pceOk S ⟨base, 0, pcs⟩) pcs k hlt)
        have HF := Lib.hid (all_false (pceOk S ⟨base, 0, pcs⟩) pcs k hlt)
        generalize pcs[k] = p at *
        go_wp2_with (go_at_call 102; refine (pieceRight_any _ _ S ⟨base, 0, pcs⟩ p _ _ (by exact SysAt.stable _ _ _ _ _ (bAlloc (bThen HB0 hB) _) HS.out)).mono ?_; rintro e w1 ⟨rfl, hb1⟩; have HB1 := bThen (bAlloc (bThen HB0 hB) _) hb1; have hB2 := bThen (bAlloc hB _) hb1; obtain ⟨hc, hf⟩ := bcell hb1)
        · go_ret
          have hp : pceOk S ⟨base, 0, pcs⟩ p = false := by simpa using ‹(!pceOk S ⟨base, 0, pcs⟩ p) = true›
          exact ⟨ret_bool (by simp [rulOk, HF.out hp]), HB1⟩
        all_goals
          have hp : pceOk S ⟨base, 0, pcs⟩ p = true := by simpa using ‹(!pceOk S ⟨base, 0, pcs⟩ p) = false›
          go_roundw
          case rel =>
            refine ⟨k + 1, by omega, by go_num, ?_, ?_, ?_, ?_, hB2⟩
            · rw [k3.out]; (try simp only [beq_iff_eq, beq_eq_false_iff_ne, ne_eq] at *); congr 1; split <;> omega
            · rw [k4.out]; (try simp only [beq_iff_eq, beq_eq_false_iff_ne, ne_eq] at *); congr 1; split <;> omega
            · rw [k5.out]; (try simp only [beq_iff_eq, beq_eq_false_iff_ne, ne_eq] at *); congr 1; split <;> omega
            · rw [HT.out, HA.out, hp]; rfl
          case measure => simp [intOf]; omega
      · obtain rfl : k = pcs.length := by omega
        rw [List.take_length] at *
        go_wp2
        all_goals
          go_ret
          refine ⟨ret_bool ?_, bThen HB0 hB⟩; have HA2 := HA.out; (try simp only [List.take_length] at HA2); simp [rulOk, *]; first | omega | (rw [Bool.eq_iff_iff]; simp; omega)
  cases hbd : betw div 2 base
  · go_enter Try.func92, Try.ntmps92
    go_wp2_with (go_at_call 75; refine (between_any _ _ _ _).mono ?_; rintro e w' ⟨rfl, rfl⟩)
    go_ret
    exact ⟨ret_bool (by simp [rulOk, *]), bAlloc (Below.refl _ _) _⟩
  · go_enter Try.func92, Try.ntmps92
    go_wp2_with (go_at_call 75; refine (between_any _ _ _ _).mono ?_; rintro e w' ⟨rfl, rfl⟩)
    rw [← HW0.out]
    go_loopw [5, 6, 7, 31] (fun q t u i wr => ∃ k : Nat, k ≤ pcs.length ∧ i = .int .i64 k ∧ q = .int .i64 (kinds 3 (pcs.take k)) ∧ t = .int .i64 (kinds 4 (pcs.take k)) ∧ u = .int .i64 (certain (pcs.take k)) ∧ (pcs.take k).all (pceOk S ⟨base, div, pcs⟩) = true ∧ Below W0.heap.size W0 wr) (fun _ _ _ i _ => pcs.length - (intOf i).toNat)
    case atStart => exact ⟨0, Nat.zero_le _, rfl, rfl, rfl, rfl, rfl, Below.refl _ _⟩
    case round =>
      obtain ⟨k, hk, rfl, rfl, rfl, rfl, hall, hB⟩ := hrel
      have HA := Lib.hid hall
      clear hall
      have b3 := kinds_le 3 (pcs.take k)
      have b4 := kinds_le 4 (pcs.take k)
      have b5 := certain_le (pcs.take k)
      rw [List.length_take_of_le hk] at b3 b4 b5
      have d0 := keep hB c0
      have d1 := keep hB c1
      have d2 := keep hB c2
      have hsz := cell_lt d0
      by_cases hlt : k < pcs.length
      · rcases HX.out with hnil | ⟨pb, po, rfl, hpc⟩
        · simp [hnil] at hlt
        obtain ⟨p0, p1, p2, p3⟩ := PceAt.stable _ _ _ _ _ (bThen HB0 hB) (hpc k hlt)
        have hpb := cell_lt p0
        have k3 := Lib.hid (kinds_cast 3 pcs k hlt)
        have k4 := Lib.hid (kinds_cast 4 pcs k hlt)
        have k5 := Lib.hid (certain_cast pcs k hlt)
        have HT := Lib.hid (all_take_succ (pceOk S ⟨base, div, pcs⟩) pcs k hlt)
        have HF := Lib.hid (all_false (pceOk S ⟨base, div, pcs⟩) pcs k hlt)
        generalize pcs[k] = p at *
        go_wp2_with (go_at_call 102; refine (pieceRight_any _ _ S ⟨base, div, pcs⟩ p _ _ (by exact SysAt.stable _ _ _ _ _ (bAlloc (bThen HB0 hB) _) HS.out)).mono ?_; rintro e w1 ⟨rfl, hb1⟩; have HB1 := bThen (bAlloc (bThen HB0 hB) _) hb1; have hB2 := bThen (bAlloc hB _) hb1; obtain ⟨hc, hf⟩ := bcell hb1)
        · go_ret
          have hp : pceOk S ⟨base, div, pcs⟩ p = false := by simpa using ‹(!pceOk S ⟨base, div, pcs⟩ p) = true›
          exact ⟨ret_bool (by simp [rulOk, HF.out hp]), HB1⟩
        all_goals
          have hp : pceOk S ⟨base, div, pcs⟩ p = true := by simpa using ‹(!pceOk S ⟨base, div, pcs⟩ p) = false›
          go_roundw
          case rel =>
            refine ⟨k + 1, by omega, by go_num, ?_, ?_, ?_, ?_, hB2⟩
            · rw [k3.out]; (try simp only [beq_iff_eq, beq_eq_false_iff_ne, ne_eq] at *); congr 1; split <;> omega
            · rw [k4.out]; (try simp only [beq_iff_eq, beq_eq_false_iff_ne, ne_eq] at *); congr 1; split <;> omega
            · rw [k5.out]; (try simp only [beq_iff_eq, beq_eq_false_iff_ne, ne_eq] at *); congr 1; split <;> omega
            · rw [HT.out, HA.out, hp]; rfl
          case measure => simp [intOf]; omega
      · obtain rfl : k = pcs.length := by omega
        rw [List.take_length] at *
        go_wp2
        all_goals
          go_ret
          refine ⟨ret_bool ?_, bThen HB0 hB⟩; have HA2 := HA.out; (try simp only [List.take_length] at HA2); simp [rulOk, *]; first | omega | (rw [Bool.eq_iff_iff]; simp; omega)

end Go.Proofs.Ytfcopnlpcbbocaa
