/- Contracts: sets, terms, systems, asks. -/
import Derived.Test.YtfcopnlpcbbocaaC3
import Derived.Test.YtfcopnlpcbbocaaC0
set_option linter.unusedSimpArgs false
set_option linter.unusedVariables false
namespace Go.Proofs.Ytfcopnlpcbbocaa
open Go.RowKit

/-! Sets: the rule for the bases in Lean's own words. -/
theorem rising_iff : ∀ (l : List Rul), rising l = true ↔ ∀ i (h : i + 1 < l.length), l[i].base < l[i + 1].base
  | [] => by simp [rising]
  | [_] => by simp [rising]
  | a :: b :: l => by
    rw [rising, and_true_iff', rising_iff (b :: l)]
    constructor
    · rintro ⟨h0, h1⟩ i hi
      cases i with
      | zero => simpa using h0
      | succ i => exact h1 i (by simp only [List.length_cons] at hi ⊢; omega)
    · intro h
      exact ⟨by simpa using h 0 (by simp), fun i hi => h (i + 1) (by simp only [List.length_cons] at hi ⊢; omega)⟩
theorem lastBase_eq : ∀ (l : List Rul) (h : 0 < l.length), lastBase l = (l[l.length - 1]'(by omega)).base
  | [a], _ => rfl
  | a :: b :: l, _ => by rw [lastBase, lastBase_eq (b :: l) (by simp)]; simp
theorem head_eq (l : List Rul) (h : 0 < l.length) : (l.head?.map Rul.base = some 0) ↔ l[0].base = 0 := by
  cases l with
  | nil => simp at h
  | cons a l => simp


theorem rising_no (l : List Rul) (j : Nat) (hj : j + 1 < l.length) (h : ¬ l[j].base < l[j + 1].base) : rising l = false := by
  cases hz : rising l
  · rfl
  · exact absurd ((rising_iff l).1 hz j hj) h
theorem rising_on (l : List Rul) (j : Nat) (hj : j + 1 < l.length) (H : ∀ i (h : i + 1 < l.length), i + 1 < j + 1 → l[i].base < l[i + 1].base) (h : l[j].base < l[j + 1].base) :
    ∀ i (h : i + 1 < l.length), i + 1 < j + 1 + 1 → l[i].base < l[i + 1].base := by
  intro i hi h2
  by_cases e : i = j
  · subst e; exact h
  · exact H i hi (by omega)

set_option maxHeartbeats 4000000 in
theorem setRight_any (b o : Nat) (S : Sys) (l : List Rul) (v : Value) (w : World) (hS : SysAt w b o S) (hv : SliceV w v 3 RulAt l) :
    Calls Try.prog 69 #[.pointer (some ⟨b, o, none⟩), v] w fun e w' => e = .returned (.bool (setOk S l)) ∧ Below w.heap.size w w' := by
  have HS := Lib.hid hS
  obtain ⟨_, _, _, hS0, -⟩ := hS
  have hb := cell_lt hS0
  obtain ⟨a, c, rfl, hl, hx⟩ := hv
  unfold most at hl
  cases hlen : betw l.length 1 200
  · go_enter Try.func69, Try.ntmps69
    go_wp2_with fail
    (refine wp_region_quiet_lit (by kernel_rfl) (by kernel_rfl) ?_; (repeat (first | go_big_quiet_step ((go_at_call 75; exact toQ (isB (between_any _ _ _ _) hlen))) | quiet_step ((go_at_call 75; exact toQ (isB (between_any _ _ _ _) hlen))))); (refine wpQuiet_nil ?_; intro _ hw'; obtain ⟨nq, hw''⟩ := hw'; subst hw''))
    go_wp2
    go_ret
    exact ⟨ret_bool (by simp [setOk, hlen]), bDrew (Below.refl _ _) _⟩
  have hl1 : 1 ≤ l.length := by simp [betw] at hlen; omega
  have hl2 : l.length ≤ 200 := by simp [betw] at hlen; omega
  rcases hx with hnil | ⟨rb, ro, rfl, hr⟩
  · simp [hnil] at hl1
  have hh := Lib.hid (head_eq l (by omega))
  have hlb := Lib.hid (lastBase_eq l (by omega))
  obtain ⟨f0, f1, vf, f2, f3⟩ := hr 0 (by omega)
  obtain ⟨e0, e1, ve, e2, e3⟩ := hr (l.length - 1) (by omega)
  have hrb := cell_lt f0
  simp only [Nat.zero_mul, Nat.add_zero] at f0
  clear f1 f2 f3 e1 e2 e3
  have HR := Lib.hid hr
  clear hr
  generalize hF : l[0] = F at *
  generalize hE : l[l.length - 1] = E at *
  have HF := Lib.hid hF
  have HE := Lib.hid hE
  clear hF hE
  have q1 : ((l.length : Int) - 1) < l.length := by omega
  have q2 : (0 : Int) ≤ (l.length : Int) - 1 := by omega
  have q3 : ((l.length : Int) - 1).toNat = l.length - 1 := by omega
  cases g1 : (F.base != 0)
  · cases g2 : decide (S.top < E.base)
    · go_enter Try.func69, Try.ntmps69
      go_wp2_with fail
      (refine wp_region_quiet_lit (by kernel_rfl) (by kernel_rfl) ?_; (repeat (first | go_big_quiet_step ((go_at_call 75; exact toQ (isB (between_any _ _ _ _) hlen))) | quiet_step ((go_at_call 75; exact toQ (isB (between_any _ _ _ _) hlen))))); (refine wpQuiet_nil ?_; intro _ hw'; obtain ⟨nq, hw''⟩ := hw'; subst hw''))
      go_wp2_with fail
      generalize hW0 : w.drewN nq = W0 at *
      have HB0 : Below w.heap.size w W0 := by rw [← hW0]; exact bDrew (Below.refl _ _) _
      clear hW0
      go_loopw [34] (fun i wr => ∃ k : Nat, k ≤ l.length ∧ i = .int .i64 k ∧ (∀ i (h : i + 1 < l.length), i + 1 < k → l[i].base < l[i + 1].base) ∧ (l.take k).all (rulOk S) = true ∧ Below w.heap.size w wr) (fun i _ => l.length - (intOf i).toNat)
      case atStart => exact ⟨0, Nat.zero_le _, rfl, fun _ _ h => by omega, rfl, HB0⟩
      case round =>
        obtain ⟨k, hk, rfl, hris, hall, hB⟩ := hrel
        have HRI := Lib.hid hris
        have HA := Lib.hid hall
        clear hris hall
        by_cases hlt : k < l.length
        · have r0 := RulAt.stable _ _ _ _ _ hB (HR.out k hlt)
          obtain ⟨r0, r1, vr, r2, r3⟩ := r0
          obtain ⟨ra, rc, hvr, -⟩ := id r3
          subst hvr
          have hrw := cell_lt r0
          have HT := Lib.hid (all_take_succ (rulOk S) l k hlt)
          have HN := Lib.hid (all_false (rulOk S) l k hlt)
          cases k with
          | zero =>
            simp only [Nat.zero_mul, Nat.add_zero] at r0 r1 r2
            generalize hr : l[0] = r at *
            clear hr
            rw [show ((0 : Nat) : Int) = 0 from rfl]
            go_wp2_with fail
            generalize hw2 : World.alloc wr _ = w2
            have hb2 : Below wr.heap.size wr w2 := by rw [← hw2]; exact bAlloc (Below.refl _ _) _
            have s0 : w2.cell? ⟨wr.heap.size, 0, none⟩ = some (.int .i64 r.base) := by rw [← hw2]; simp
            have s1 : w2.cell? ⟨wr.heap.size, 1, none⟩ = some (.int .i64 r.div) := by rw [← hw2]; simp
            have s2 : w2.cell? ⟨wr.heap.size, 2, none⟩ = some (.slice ra r.pieces.length rc) := by rw [← hw2]; simp
            have sl := cell_lt s0
            have hcall : ∀ x : BW w2, Calls Try.prog 92 #[.pointer (some ⟨b, o, none⟩), .agg #[.int .i64 r.base, .int .i64 r.div, .slice ra r.pieces.length rc]] x.val fun e w' => e = .returned (.bool (rulOk S r)) ∧ Below x.val.heap.size x.val w' :=
              fun x => ruleRight_any _ _ S r _ _ (SysAt.stable _ _ _ _ _ (bThen hB (bThen hb2 x.2)) HS.out) (r3.keep PceAt.stable (bThen hb2 x.2))
            clear hw2
            (refine wp_region_below (by kernel_rfl) (by kernel_rfl) ?_; (repeat (first | go_big_quiet_step ((go_at_call 92; exact toB hcall _)) | quiet_step ((go_at_call 92; exact toB hcall _)))); (refine wpQuiet_nil ?_; intro _ hw'; obtain ⟨xq, hw''⟩ := hw'; subst hw''))
            have HB2 := bThen (bThen hB hb2) xq.2
            go_wp2_with fail
            · have hp : rulOk S r = false := by first | assumption | simpa using ‹(!rulOk S r) = true› | simpa using (‹r.base ≤ q.base ∨ (!rulOk S r) = true›).resolve_left (by omega)
              go_ret
              exact ⟨ret_bool (by simp [setOk, HN.out hp]), HB2⟩
            · have hp : rulOk S r = true := by first | assumption | simpa using ‹(!rulOk S r) = false› | simpa using (‹q.base < r.base ∧ (!rulOk S r) = false›).2
              go_roundw
              case rel => exact ⟨1, by omega, rfl, fun i h h' => by omega, by rw [HT.out, HA.out, hp]; rfl, HB2⟩
              case measure => simp [intOf]; omega
          | succ j =>
            have p0 := (RulAt.stable _ _ _ _ _ hB (HR.out j (by omega))).1
            have hris' := Lib.hid (rising_on l j hlt HRI.out)
            have hbad := Lib.hid (rising_no l j hlt)
            generalize hr : l[j + 1] = r at *
            generalize hq : l[j] = q at *
            have HRQ := Lib.hid hr
            have HQQ := Lib.hid hq
            clear hr hq
            by_cases hle : r.base ≤ q.base
            · go_wp2_with fail
              go_quiet (fail)
              go_wp2
              go_ret
              exact ⟨ret_bool (by simp [setOk, hbad.out (by omega)]), bDrew (bAlloc hB _) _⟩
            · go_wp2_with fail
              generalize hw2 : World.alloc wr _ = w2
              have hb2 : Below wr.heap.size wr w2 := by rw [← hw2]; exact bAlloc (Below.refl _ _) _
              have s0 : w2.cell? ⟨wr.heap.size, 0, none⟩ = some (.int .i64 r.base) := by rw [← hw2]; simp
              have s1 : w2.cell? ⟨wr.heap.size, 1, none⟩ = some (.int .i64 r.div) := by rw [← hw2]; simp
              have s2 : w2.cell? ⟨wr.heap.size, 2, none⟩ = some (.slice ra r.pieces.length rc) := by rw [← hw2]; simp
              have sl := cell_lt s0
              have hcall : ∀ x : BW w2, Calls Try.prog 92 #[.pointer (some ⟨b, o, none⟩), .agg #[.int .i64 r.base, .int .i64 r.div, .slice ra r.pieces.length rc]] x.val fun e w' => e = .returned (.bool (rulOk S r)) ∧ Below x.val.heap.size x.val w' :=
                fun x => ruleRight_any _ _ S r _ _ (SysAt.stable _ _ _ _ _ (bThen hB (bThen hb2 x.2)) HS.out) (r3.keep PceAt.stable (bThen hb2 x.2))
              clear hw2
              have hqb := cell_lt (keep hb2 p0)
              have hqc := keep hb2 p0
              (refine wp_region_below (by kernel_rfl) (by kernel_rfl) ?_; (repeat (first | go_big_quiet_step ((go_at_call 92; exact toB hcall _)) | quiet_step ((go_at_call 92; exact toB hcall _)))); (refine wpQuiet_nil ?_; intro _ hw'; obtain ⟨xq, hw''⟩ := hw'; subst hw''))
              have HB2 := bThen (bThen hB hb2) xq.2
              go_wp2_with fail
              · have hp : rulOk S r = false := by first | assumption | simpa using ‹(!rulOk S r) = true› | simpa using (‹r.base ≤ q.base ∨ (!rulOk S r) = true›).resolve_left (by omega)
                go_ret
                exact ⟨ret_bool (by simp [setOk, HN.out hp]), HB2⟩
              · have hp : rulOk S r = true := by first | assumption | simpa using ‹(!rulOk S r) = false› | simpa using (‹q.base < r.base ∧ (!rulOk S r) = false›).2
                go_roundw
                case rel => exact ⟨j + 1 + 1, by omega, by go_num, hris'.out (by omega), by rw [HT.out, HA.out, hp]; rfl, HB2⟩
                case measure => simp [intOf]; omega
        · obtain rfl : k = l.length := by omega
          go_wp2
          go_ret
          have hz : rising l = true := (rising_iff l).2 fun i h => HRI.out i h h
          have ha := HA.out
          rw [List.take_length] at ha
          exact ⟨ret_bool (by simp at g1 g2; simp [setOk, hlen, hh.out, HF.out, g1, hlb.out, HE.out, g2, hz, ha]), hB⟩
    · go_enter Try.func69, Try.ntmps69
      go_wp2_with fail
      (refine wp_region_quiet_lit (by kernel_rfl) (by kernel_rfl) ?_; (repeat (first | go_big_quiet_step ((go_at_call 75; exact toQ (isB (between_any _ _ _ _) hlen))) | quiet_step ((go_at_call 75; exact toQ (isB (between_any _ _ _ _) hlen))))); (refine wpQuiet_nil ?_; intro _ hw'; obtain ⟨nq, hw''⟩ := hw'; subst hw''))
      go_wp2
      go_ret
      exact ⟨ret_bool (by simp [setOk, hlb.out, HE.out]; simp at g2; omega), bDrew (Below.refl _ _) _⟩
  · go_enter Try.func69, Try.ntmps69
    go_wp2_with fail
    (refine wp_region_quiet_lit (by kernel_rfl) (by kernel_rfl) ?_; (repeat (first | go_big_quiet_step ((go_at_call 75; exact toQ (isB (between_any _ _ _ _) hlen))) | quiet_step ((go_at_call 75; exact toQ (isB (between_any _ _ _ _) hlen))))); (refine wpQuiet_nil ?_; intro _ hw'; obtain ⟨nq, hw''⟩ := hw'; subst hw''))
    go_wp2
    go_ret
    exact ⟨ret_bool (by simp at g1; simp [setOk, hh.out, HF.out, g1]), bDrew (Below.refl _ _) _⟩
end Go.Proofs.Ytfcopnlpcbbocaa
