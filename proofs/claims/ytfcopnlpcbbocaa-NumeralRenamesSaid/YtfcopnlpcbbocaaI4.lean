/- Contracts of the specification's checks: rules. -/
import Derived.Test.YtfcopnlpcbbocaaI1
set_option linter.unusedSimpArgs false
set_option linter.unusedVariables false
namespace Go.Proofs.Ytfcopnlpcbbocaa
open Go.RowKit

set_option maxRecDepth 100000 in
set_option maxHeartbeats 8000000 in
theorem rule_ok_any (S : Sys) (r : Rul) (vt vp vs pv : Value) (w : World) (hp : SysParts w vt vp vs S) (hv : SliceV w pv 4 PceAt r.pieces) (hbase : 0 ≤ r.base) :
    Calls Try.prog 46 #[sysVal S vt vp vs, .agg #[.int .i64 r.base, .int .i64 r.div, pv]] w fun e w' => e = .returned (.bool (rulOk S r)) ∧ Below w.heap.size w w' := by
  have HPS := Lib.hid hp
  obtain ⟨⟨at_, ct, rfl, -⟩, ⟨ap, cp, rfl, -⟩, ⟨as_, cs, rfl, -⟩⟩ := hp
  obtain ⟨pa, pc, rfl, hpl, hx⟩ := hv
  unfold most at hpl
  unfold sysVal
  have hbad : ∀ h : (r.div < 0 ∨ r.div = 1 ∨ r.base < r.div ∨ r.pieces.length < 1 ∨ 10 < r.pieces.length), rulOk S r = false := fun h => by
    cases hz : rulOk S r
    · rfl
    · simp only [rulOk, Bool.and_eq_true, Bool.or_eq_true, betw, decide_eq_true_eq] at hz
      omega
  by_cases g1 : r.div < 0
  · have HR := Lib.hid (hbad (by omega))
    clear hbad
    go_enter Try.func46, Try.ntmps46
    go_wp2_with fail
    go_ret
    exact ⟨ret_bool HR.out.symm, bAlloc (bAlloc (Below.refl _ _) _) _⟩
  by_cases g2 : r.div = 1
  · have HR := Lib.hid (hbad (by omega))
    have g2' : (r.div == 1) = true := by simp [g2]
    clear hbad g2
    go_enter Try.func46, Try.ntmps46
    go_wp2_with fail
    go_ret
    exact ⟨ret_bool HR.out.symm, bAlloc (bAlloc (Below.refl _ _) _) _⟩
  have g2' : (r.div == 1) = false := by simp [g2]
  by_cases g3 : r.base < r.div
  · have HR := Lib.hid (hbad (by omega))
    clear hbad
    go_enter Try.func46, Try.ntmps46
    go_wp2_with fail
    go_ret
    exact ⟨ret_bool HR.out.symm, bAlloc (bAlloc (Below.refl _ _) _) _⟩
  by_cases g4 : (r.pieces.length : Int) < 1
  · have HR := Lib.hid (hbad (by omega))
    clear hbad
    go_enter Try.func46, Try.ntmps46
    go_wp2_with fail
    go_ret
    exact ⟨ret_bool HR.out.symm, bAlloc (bAlloc (Below.refl _ _) _) _⟩
  by_cases g5 : 10 < (r.pieces.length : Int)
  · have HR := Lib.hid (hbad (by omega))
    clear hbad
    go_enter Try.func46, Try.ntmps46
    go_wp2_with fail
    go_ret
    exact ⟨ret_bool HR.out.symm, bAlloc (bAlloc (Below.refl _ _) _) _⟩
  clear hbad
  have HE : Hid (∀ b : Bool, (r.pieces.all (pceOk S r) && decide (kinds 3 r.pieces ≤ 1) && decide (kinds 4 r.pieces ≤ 1) && decide (1 ≤ certain r.pieces)) = b → rulOk S r = b) := Lib.hid fun b h => by
    have h1 : (decide (r.div = 0) || betw r.div 2 r.base) = true := by
      simp [betw]; omega
    have h2 : betw r.pieces.length 1 10 = true := by simp [betw]; omega
    unfold rulOk
    rw [h1, h2]
    simpa using h
  have hl10 : (r.pieces.length : Int) ≤ 10 := by omega
  have hl1 : 1 ≤ (r.pieces.length : Int) := by omega
  go_enter Try.func46, Try.ntmps46
  go_wp2_with fail
  generalize hW : World.alloc (World.alloc w _) _ = W1
  have hB1 : Below w.heap.size w W1 := by rw [← hW]; exact bAlloc (bAlloc (Below.refl _ _) _) _
  have s0 : W1.cell? ⟨w.heap.size, 0, none⟩ = some (.int .i64 S.top) := by rw [← hW]; exact keep (bAlloc (Below.refl _ _) _) (cell_new rfl)
  have s1 : W1.cell? ⟨w.heap.size, 1, none⟩ = some (.int .i64 S.genders) := by rw [← hW]; exact keep (bAlloc (Below.refl _ _) _) (cell_new rfl)
  have s2 : W1.cell? ⟨w.heap.size, 2, none⟩ = some (.int .i64 S.cases) := by rw [← hW]; exact keep (bAlloc (Below.refl _ _) _) (cell_new rfl)
  have s3 : W1.cell? ⟨w.heap.size, 3, none⟩ = some (.int .i64 S.classes) := by rw [← hW]; exact keep (bAlloc (Below.refl _ _) _) (cell_new rfl)
  have s4 : W1.cell? ⟨w.heap.size, 4, none⟩ = some (.slice at_ S.terms.length ct) := by rw [← hW]; exact keep (bAlloc (Below.refl _ _) _) (cell_new rfl)
  have s5 : W1.cell? ⟨w.heap.size, 5, none⟩ = some (.slice ap S.plurals.length cp) := by rw [← hW]; exact keep (bAlloc (Below.refl _ _) _) (cell_new rfl)
  have s6 : W1.cell? ⟨w.heap.size, 6, none⟩ = some (.slice as_ S.sets.length cs) := by rw [← hW]; exact keep (bAlloc (Below.refl _ _) _) (cell_new rfl)
  have t1 : W1.cell? ⟨w.heap.size + 1, 1, none⟩ = some (.int .i64 r.div) := by rw [← hW]; simp
  have t2 : W1.cell? ⟨w.heap.size + 1, 2, none⟩ = some (.slice pa r.pieces.length pc) := by rw [← hW]; simp
  clear hW
  go_loopw [5, 6, 7, 8] (fun b5 q7 r7 i wr => ∃ (k : Nat) (sb : Bool) (q rr : Nat), k ≤ r.pieces.length ∧ i = .int .i64 k ∧ b5 = .bool sb ∧ q7 = .int .i64 q ∧ r7 = .int .i64 rr ∧ Hid ((r.pieces.take k).all (pceOk S r) = true ∧ sb = decide (1 ≤ certain (r.pieces.take k)) ∧ q = kinds 3 (r.pieces.take k) ∧ rr = kinds 4 (r.pieces.take k)) ∧ Below W1.heap.size W1 wr) (fun _ _ _ i _ => r.pieces.length - (intOf i).toNat)
  case atStart => exact ⟨0, false, 0, 0, Nat.zero_le _, rfl, rfl, rfl, rfl, Lib.hid ⟨by simp, by simp [certain], by simp [kinds], by simp [kinds]⟩, Below.refl _ _⟩
  case round =>
    obtain ⟨k, sb, q, rr, hk, rfl, rfl, rfl, rfl, HA, hB⟩ := hrel
    have t2 := keep hB t2
    have htl := cell_lt t2
    by_cases hlt : k < r.pieces.length
    · rcases hx with hnil | ⟨fb, fo, rfl, hf⟩
      · simp [hnil] at hlt
      have hq : (q : Int) ≤ 10 ∧ (rr : Int) ≤ 10 := by
        have h3 := kinds_le 3 (r.pieces.take k)
        have h4 := kinds_le 4 (r.pieces.take k)
        rw [List.length_take] at h3 h4
        have := HA.out
        omega
      obtain ⟨hq1, hq2⟩ := hq
      have HT := Lib.hid (all_take_succ' (pceOk S r) r.pieces k hlt)
      have HN := Lib.hid (all_false' (pceOk S r) r.pieces k hlt)
      have HS := Lib.hid (take_succ r.pieces k hlt)
      obtain ⟨f0, f1, f2, f3⟩ := PceAt.stable _ _ _ _ _ (bThen hB1 hB) (hf k hlt)
      have hfb := cell_lt f0
      have s0 := keep hB s0
      have s1 := keep hB s1
      have s2 := keep hB s2
      have s3 := keep hB s3
      have s4 := keep hB s4
      have s5 := keep hB s5
      have s6 := keep hB s6
      have t1 := keep hB t1
      have hsl := cell_lt s0
      clear hf
      generalize r.pieces[k] = p at *
      obtain ⟨kind, term, set, below⟩ := p
      have hcall : ∀ W', Below wr.heap.size wr W' → Calls Try.prog 78 #[.agg #[.int .i64 S.top, .int .i64 S.genders, .int .i64 S.cases, .int .i64 S.classes, .slice at_ S.terms.length ct, .slice ap S.plurals.length cp, .slice as_ S.sets.length cs], .agg #[.int .i64 kind, .int .i64 term, .int .i64 set, .int .i64 below], .int .i64 r.div] W' fun e w' => e = .returned (.bool (pceOk S r ⟨kind, term, set, below⟩)) ∧ Below W'.heap.size W' w' :=
        fun W' hB' => piece_ok_any S r ⟨kind, term, set, below⟩ _ _ _ W' (HPS.out.keep (bThen hB1 (bThen hB hB')))
      cases hok : pceOk S r ⟨kind, term, set, below⟩
      · have HF : Hid (rulOk S r = false) := Lib.hid (HE.out false (by rw [HN.out hok]; simp))
        have HOK := Lib.hid hok
        clear hok
        go_wp2_with (go_at_call 78; refine (isB (hcall _ (by (repeat (first | exact Below.refl _ _ | refine bAlloc ?_ _)))) HOK.out).mono ?_; rintro e w2 ⟨rfl, hb2⟩; have HB2 := bThen (bAlloc (Below.refl _ _) _) hb2; clear hcall)
        go_ret
        exact ⟨ret_bool HF.out.symm, bThen hB1 (bThen hB HB2)⟩
      · have hkk := pce_kind hok
        have HOK := Lib.hid hok
        clear hok
        simp only at hkk
        have HC := Lib.hid hcall
        clear hcall
        rcases hkk with h | h | h | h | h
        · obtain rfl : kind = 1 := h
          cases sb
          all_goals
            go_wp2_with (go_at_call 78; refine (isB (HC.out _ (by (repeat (first | exact Below.refl _ _ | refine bAlloc ?_ _)))) HOK.out).mono ?_; rintro e w2 ⟨rfl, hb2⟩; have HB2 := bThen (bAlloc (Below.refl _ _) _) hb2; have p0 : w2.cell? ⟨wr.heap.size, 0, none⟩ = some (.int .i64 1) := keep hb2 (cell_new (V := wr) (cs := #[.int .i64 1, .int .i64 term, .int .i64 set, .int .i64 below]) (t := 59) (j := 0) rfl); have p0l := cell_lt p0)
            go_roundw
            case rel => exact ⟨k + 1, true, q, rr, by omega, by go_num, rfl, by go_num, by go_num, Lib.hid ⟨by rw [HT.out, HA.out.1, HOK.out]; rfl, by rw [HS.out, certain_snoc]; have := HA.out.2.1; simp at this ⊢; try omega, by rw [HS.out, kinds_snoc]; have := HA.out.2.2.1; simp; omega, by rw [HS.out, kinds_snoc]; have := HA.out.2.2.2; simp; omega⟩, bThen hB HB2⟩
            case measure => simp [intOf]; omega
        · obtain rfl : kind = 2 := h
          cases sb
          all_goals
            go_wp2_with (go_at_call 78; refine (isB (HC.out _ (by (repeat (first | exact Below.refl _ _ | refine bAlloc ?_ _)))) HOK.out).mono ?_; rintro e w2 ⟨rfl, hb2⟩; have HB2 := bThen (bAlloc (Below.refl _ _) _) hb2; have p0 : w2.cell? ⟨wr.heap.size, 0, none⟩ = some (.int .i64 2) := keep hb2 (cell_new (V := wr) (cs := #[.int .i64 2, .int .i64 term, .int .i64 set, .int .i64 below]) (t := 59) (j := 0) rfl); have p0l := cell_lt p0)
            go_roundw
            case rel => exact ⟨k + 1, true, q, rr, by omega, by go_num, rfl, by go_num, by go_num, Lib.hid ⟨by rw [HT.out, HA.out.1, HOK.out]; rfl, by rw [HS.out, certain_snoc]; have := HA.out.2.1; simp at this ⊢; try omega, by rw [HS.out, kinds_snoc]; have := HA.out.2.2.1; simp; omega, by rw [HS.out, kinds_snoc]; have := HA.out.2.2.2; simp; omega⟩, bThen hB HB2⟩
            case measure => simp [intOf]; omega
        · obtain rfl : kind = 3 := h
          cases sb
          all_goals
            go_wp2_with (go_at_call 78; refine (isB (HC.out _ (by (repeat (first | exact Below.refl _ _ | refine bAlloc ?_ _)))) HOK.out).mono ?_; rintro e w2 ⟨rfl, hb2⟩; have HB2 := bThen (bAlloc (Below.refl _ _) _) hb2; have p0 : w2.cell? ⟨wr.heap.size, 0, none⟩ = some (.int .i64 3) := keep hb2 (cell_new (V := wr) (cs := #[.int .i64 3, .int .i64 term, .int .i64 set, .int .i64 below]) (t := 59) (j := 0) rfl); have p0l := cell_lt p0)
            go_roundw
            case rel => exact ⟨k + 1, true, (q + 1), rr, by omega, by go_num, rfl, by go_num, by go_num, Lib.hid ⟨by rw [HT.out, HA.out.1, HOK.out]; rfl, by rw [HS.out, certain_snoc]; have := HA.out.2.1; simp at this ⊢; try omega, by rw [HS.out, kinds_snoc]; have := HA.out.2.2.1; simp; omega, by rw [HS.out, kinds_snoc]; have := HA.out.2.2.2; simp; omega⟩, bThen hB HB2⟩
            case measure => simp [intOf]; omega
        · obtain rfl : kind = 4 := h
          cases sb
          all_goals
            go_wp2_with (go_at_call 78; refine (isB (HC.out _ (by (repeat (first | exact Below.refl _ _ | refine bAlloc ?_ _)))) HOK.out).mono ?_; rintro e w2 ⟨rfl, hb2⟩; have HB2 := bThen (bAlloc (Below.refl _ _) _) hb2; have p0 : w2.cell? ⟨wr.heap.size, 0, none⟩ = some (.int .i64 4) := keep hb2 (cell_new (V := wr) (cs := #[.int .i64 4, .int .i64 term, .int .i64 set, .int .i64 below]) (t := 59) (j := 0) rfl); have p0l := cell_lt p0)
            go_roundw
            case rel => exact ⟨k + 1, _, q, (rr + 1), by omega, by go_num, rfl, by go_num, by go_num, Lib.hid ⟨by rw [HT.out, HA.out.1, HOK.out]; rfl, by rw [HS.out, certain_snoc]; have := HA.out.2.1; simp at this ⊢; try omega, by rw [HS.out, kinds_snoc]; have := HA.out.2.2.1; simp; omega, by rw [HS.out, kinds_snoc]; have := HA.out.2.2.2; simp; omega⟩, bThen hB HB2⟩
            case measure => simp [intOf]; omega
        · obtain rfl : kind = 5 := h
          cases sb
          all_goals
            go_wp2_with (go_at_call 78; refine (isB (HC.out _ (by (repeat (first | exact Below.refl _ _ | refine bAlloc ?_ _)))) HOK.out).mono ?_; rintro e w2 ⟨rfl, hb2⟩; have HB2 := bThen (bAlloc (Below.refl _ _) _) hb2; have p0 : w2.cell? ⟨wr.heap.size, 0, none⟩ = some (.int .i64 5) := keep hb2 (cell_new (V := wr) (cs := #[.int .i64 5, .int .i64 term, .int .i64 set, .int .i64 below]) (t := 59) (j := 0) rfl); have p0l := cell_lt p0)
            go_roundw
            case rel => exact ⟨k + 1, _, q, rr, by omega, by go_num, rfl, by go_num, by go_num, Lib.hid ⟨by rw [HT.out, HA.out.1, HOK.out]; rfl, by rw [HS.out, certain_snoc]; have := HA.out.2.1; simp at this ⊢; try omega, by rw [HS.out, kinds_snoc]; have := HA.out.2.2.1; simp; omega, by rw [HS.out, kinds_snoc]; have := HA.out.2.2.2; simp; omega⟩, bThen hB HB2⟩
            case measure => simp [intOf]; omega
    · obtain rfl : k = r.pieces.length := by omega
      have HA2 : Hid (r.pieces.all (pceOk S r) = true ∧ sb = decide (1 ≤ certain r.pieces) ∧ q = kinds 3 r.pieces ∧ rr = kinds 4 r.pieces) := Lib.hid (by have := HA.out; rwa [List.take_length] at this)
      clear HA
      cases sb
      · go_wp2_with fail
        go_ret
        exact ⟨ret_bool (HE.out false (by rw [← HA2.out.2.1]; simp)).symm, bThen hB1 hB⟩
      · go_wp2_with fail
        all_goals
          go_ret
          exact ⟨ret_bool (HE.out _ (by rw [HA2.out.1, ← HA2.out.2.1, ← HA2.out.2.2.1, ← HA2.out.2.2.2, Bool.eq_iff_iff]; simp; omega)).symm, bThen hB1 hB⟩
end Go.Proofs.Ytfcopnlpcbbocaa
