/- Contracts: the form of a term; what is asked of quotients and rests. -/
import Derived.Test.YtfcopnlpcbbocaaC7
import Derived.Test.YtfcopnlpcbbocaaP1
set_option linter.unusedSimpArgs false
set_option linter.unusedVariables false
namespace Go.Proofs.Ytfcopnlpcbbocaa
open Go.RowKit

abbrev feats (a b c : Int) : Value := .agg #[.int .i64 a, .int .i64 b, .int .i64 c]
def fill (x y : Int) : Int := if x = -1 then y else x
theorem fill_neg (y : Int) : fill (-1) y = y := rfl
theorem fill_other {x y : Int} (h : ¬ x = -1) : fill x y = x := if_neg h

set_option maxHeartbeats 2000000 in
theorem filled_any (a b c x y z : Int) (w : World) :
    Calls Try.prog 106 #[feats a b c, feats x y z] w fun e w' => e = .returned (feats (fill a x) (fill b y) (fill c z)) ∧ Below w.heap.size w w' := by
  have i0 : ∀ w, (Instr.index 164 (.agg #[.int .i64 a, .int .i64 b, .int .i64 c]) (.int .i64 0)).run Try.prog w = .ok (.int .i64 a) w := fun _ => by kernel_rfl
  have i1 : ∀ w, (Instr.index 164 (.agg #[.int .i64 a, .int .i64 b, .int .i64 c]) (.int .i64 1)).run Try.prog w = .ok (.int .i64 b) w := fun _ => by kernel_rfl
  have i2 : ∀ w, (Instr.index 164 (.agg #[.int .i64 a, .int .i64 b, .int .i64 c]) (.int .i64 2)).run Try.prog w = .ok (.int .i64 c) w := fun _ => by kernel_rfl
  by_cases ha : a = -1 <;> by_cases hb : b = -1 <;> by_cases hc : c = -1
  all_goals
    (try subst ha); (try subst hb); (try subst hc)
    (try simp only [fill_neg]); (try simp only [fill_other ha]); (try simp only [fill_other hb]); (try simp only [fill_other hc])
    go_enter Try.func106, Try.ntmps106
    go_wp2_with fail
    refine wp_loop_rounds 4 ?_
    rw [rounds_succ]
    go_wp2_with fail
    rw [rounds_succ]
    go_wp2_with fail
    rw [rounds_succ]
    go_wp2_with fail
    rw [rounds_succ]
    go_wp2_with fail
    refine bodyPost_ret ?_ rfl ⟨rfl, ?_⟩
    · simp [results, Try.results106, go_sem]
    · repeat (first | exact Below.refl _ _ | refine bAlloc ?_ _ | refine Below.setCell ?_ (by simp <;> omega) _)
end Go.Proofs.Ytfcopnlpcbbocaa
/- Contracts: the form of a term. -/
namespace Go.Proofs.Ytfcopnlpcbbocaa
open Go.RowKit

def formRes (fs : List Form) (g k c : Int) : Value := match formOf fs g k c with
  | some t => .tuple #[.string t, .bool true]
  | none => .tuple #[.string ByteArray.empty, .bool false]
theorem agrees_fill (g k c : Int) (f : Form) : agrees g k c f = true ↔ (fill f.gen g = g ∧ fill f.kas k = k ∧ fill f.cls c = c) := by
  simp only [agrees, fill, Bool.and_eq_true, Bool.or_eq_true, decide_eq_true_eq, and_assoc]
  refine and_congr ?_ (and_congr ?_ ?_) <;> split <;> simp_all

/-- Two arrays of three numbers are compared. -/
theorem eq3 (d : Nat) (a b c x y z : Int) (w : World) : (Op.equalIn (d + 1 + 1) 164 (.agg #[.int .i64 a, .int .i64 b, .int .i64 c]) (.agg #[.int .i64 x, .int .i64 y, .int .i64 z])).run Try.prog w = .ok (a == x && (b == y && c == z)) w := by
  have hs : ∀ w, (sizeOf 3).run Try.prog w = .ok 1 w := fun _ => by kernel_rfl
  unfold Op.equalIn
  simp only [Sem.run_bind, run_underlying Try.underlying164, Result.andThen, hs]
  simp [List.range', go_sem, Try.underlying3]
  by_cases h1 : a = x <;> by_cases h2 : b = y <;> by_cases h3 : c = z <;> simp [h1, h2, h3]
set_option maxRecDepth 100000 in
set_option maxHeartbeats 2000000 in
theorem form_any (S : Sys) (term g k c : Int) (sb : Nat) (w : World) (hs : SplAt w sb S) (h0 : 0 ≤ term) (h1 : term < S.terms.length) :
    Calls Try.prog 103 #[.pointer (some ⟨sb, 0, none⟩), .int .i64 term, feats g k c] w fun e w' => e = .returned (formRes (termOf S term).forms g k c) ∧ Below w.heap.size w w' := by
  obtain ⟨⟨vt, _, _, k0, -, -, -, k4, -, -, ht, -⟩, -⟩ := hs
  simp only [Nat.zero_add] at k4
  obtain ⟨ta, tc, rfl, htl, hx⟩ := ht
  have hat : term.toNat < S.terms.length := by omega
  rcases hx with hnil | ⟨tb, to, rfl, hf⟩
  · simp [hnil] at hat
  obtain ⟨t0, v, t1, hv⟩ := hf term.toNat hat
  have e1 : S.terms[term.toNat] = termOf S term := by simp [termOf, List.getElem?_eq_getElem hat]
  rw [e1] at t0 hv
  generalize termOf S term = T at *
  clear e1 hf
  obtain ⟨fa, fc, rfl, hfl, hy⟩ := hv
  unfold most at htl hfl
  have hsb := cell_lt k0
  have htb := cell_lt t0
  go_enter Try.func103, Try.ntmps103
  go_wp2_with fail
  generalize hW : World.alloc w _ = W0
  have HB0 : Below w.heap.size w W0 := by rw [← hW]; exact bAlloc (Below.refl _ _) _
  have g0 : W0.cell? ⟨w.heap.size, 0, none⟩ = some (.int .i64 g) := by rw [← hW]; simp
  have g1 : W0.cell? ⟨w.heap.size, 1, none⟩ = some (.int .i64 k) := by rw [← hW]; simp
  have g2 : W0.cell? ⟨w.heap.size, 2, none⟩ = some (.int .i64 c) := by rw [← hW]; simp
  clear hW
  have fin := Lib.hid (show formOf T.forms g k c = formOf (T.forms.drop 0) g k c from rfl)
  go_loopw [21] (fun i wr => ∃ n : Nat, n ≤ T.forms.length ∧ i = .int .i64 n ∧ Hid (formOf T.forms g k c = formOf (T.forms.drop n) g k c) ∧ Below W0.heap.size W0 wr) (fun i _ => T.forms.length - (intOf i).toNat)
  case atStart => exact ⟨0, Nat.zero_le _, rfl, fin, Below.refl _ _⟩
  case round =>
    obtain ⟨n, hn, rfl, HF, hB⟩ := hrel
    have HB1 := bThen HB0 hB
    have g0 := keep hB g0
    have g1 := keep hB g1
    have g2 := keep hB g2
    have hgl := cell_lt g0
    by_cases hlt : n < T.forms.length
    · rcases hy with hnil | ⟨fb, fo, rfl, hff⟩
      · simp [hnil] at hlt
      obtain ⟨f0, f1, f2, f3, f4⟩ := FormAt.stable _ _ _ _ _ HB1 (hff n hlt)
      have hfb := cell_lt f0
      have HD : Hid (T.forms.drop n = T.forms[n] :: T.forms.drop (n + 1)) := Lib.hid (List.drop_eq_getElem_cons hlt)
      clear hff
      generalize T.forms[n] = f at *
      go_wp2_with fail
      generalize hW : World.alloc (World.alloc wr _) _ = W1
      have hB2 : Below wr.heap.size wr W1 := by rw [← hW]; exact bAlloc (bAlloc (Below.refl _ _) _) _
      have m3 : W1.cell? ⟨wr.heap.size, 3, none⟩ = some (.string f.txt) := by rw [← hW]; simp
      have n0 : W1.cell? ⟨wr.heap.size + 1, 0, none⟩ = some (.int .i64 f.gen) := by rw [← hW]; simp
      have n1 : W1.cell? ⟨wr.heap.size + 1, 1, none⟩ = some (.int .i64 f.kas) := by rw [← hW]; simp
      have n2 : W1.cell? ⟨wr.heap.size + 1, 2, none⟩ = some (.int .i64 f.cls) := by rw [← hW]; simp
      clear hW
      have g0 := keep hB2 g0
      have g1 := keep hB2 g1
      have g2 := keep hB2 g2
      have hgl := cell_lt g0
      have hml := cell_lt m3
      have hnl := cell_lt n0
      have hcall := fun x : BW W1 => filled_any f.gen f.kas f.cls g k c x.val
      have he := fun w => eq3 9998 (fill f.gen g) (fill f.kas k) (fill f.cls c) g k c w
      have HG := agrees_fill g k c f
      cases ha : (fill f.gen g == g && (fill f.kas k == k && fill f.cls c == c))
      all_goals
        rw [ha] at he
        have HA := Lib.hid ha
        clear ha
        (refine wp_region_below (by kernel_rfl) (by kernel_rfl) ?_; (repeat (first | go_big_quiet_step ((go_at_call 106; exact toB hcall _)) | quiet_step ((go_at_call 106; exact toB hcall _)))); (refine wpQuiet_nil ?_; intro _ hw'; obtain ⟨xq, hw''⟩ := hw'; subst hw''))
        clear he
        have HBx := bThen (bThen HB1 hB2) xq.2
        have HB0x := bThen (bThen hB hB2) xq.2
        have m3x := keep xq.2 m3
        generalize xq.val = W2 at *
        go_wp2_with fail
      · go_roundw
        case rel =>
          refine ⟨n + 1, by omega, by go_num, Lib.hid ?_, HB0x⟩
          have hno : agrees g k c f = false := by
            cases hz : agrees g k c f
            · rfl
            · have := HG.1 hz
              have h2 := HA.out
              simp [this.1, this.2.1, this.2.2] at h2
          rw [HF.out, HD.out, formOf, List.find?_cons, hno]
          rfl
        case measure => simp [intOf]; omega
      · go_ret2
        refine ⟨?_, HBx⟩
        have hyes : agrees g k c f = true := HG.2 (by have h2 := HA.out; simp only [Bool.and_eq_true, beq_iff_eq] at h2; exact h2)
        have : formOf T.forms g k c = some f.txt := by rw [HF.out, HD.out, formOf, List.find?_cons, hyes]; rfl
        rw [formRes, this]
        rfl
    · obtain rfl : n = T.forms.length := by omega
      go_wp2_with fail
      go_ret2
      refine ⟨?_, HB1⟩
      have := HF.out
      rw [formRes, this]
      simp [formOf]
      rfl
end Go.Proofs.Ytfcopnlpcbbocaa
