/- Contracts of the small functions that check a system. -/
import Derived.Test.YtfcopnlpcbbocaaProg
import Derived.Test.YtfcopnlpcbbocaaMem
import Derived.Test.YtfcopnlpcbbocaaC0
set_option linter.unusedSimpArgs false
set_option linter.unusedVariables false
namespace Go.Proofs.Ytfcopnlpcbbocaa
open Go.RowKit

/-- A callee that leaves the world alone, met in a region that draws its order. -/
theorem toQ {P : Program} {f : FuncId} {args : Array Value} {w : World} {n : Nat} {v : Value} (h : Calls P f args (w.drewN n) fun e w' => e = .returned v ∧ w.drewN n = w') :
    Calls P f args (w.drewN n) fun e w'' => e = .returned v ∧ ∃ m, w'' = w.drewN m :=
  Calls.quiet_of_same (h.mono fun _ _ ⟨a, b⟩ => ⟨a, b.symm⟩)

set_option maxHeartbeats 400000 in
theorem between_any (n a b : Int) (w : World) :
    Calls Try.prog 75 #[.int .i64 n, .int .i64 a, .int .i64 b] w fun e w' => e = .returned (.bool (betw n a b)) ∧ w = w' := by
  by_cases h : a ≤ n
  · go_enter Try.func75, Try.ntmps75
    go_wp2
    go_ret
    exact ⟨by simp [betw, h], rfl⟩
  · go_enter Try.func75, Try.ntmps75
    go_wp2
    go_ret
    exact ⟨by simp [betw]; omega, rfl⟩

set_option maxHeartbeats 400000 in
theorem exists_any (n a : Int) (w : World) :
    Calls Try.prog 62 #[.int .i64 n, .int .i64 a] w fun e w' => e = .returned (.bool (exst n a)) ∧ w = w' := by
  by_cases h : 0 ≤ n
  · go_enter Try.func62, Try.ntmps62
    go_wp2
    go_ret
    exact ⟨by simp [exst, h], rfl⟩
  · go_enter Try.func62, Try.ntmps62
    go_wp2
    go_ret
    exact ⟨by simp [exst]; omega, rfl⟩

set_option maxHeartbeats 400000 in
theorem existsOrAny_any (n a : Int) (w : World) :
    Calls Try.prog 100 #[.int .i64 n, .int .i64 a] w fun e w' => e = .returned (.bool (orAny n a)) ∧ w = w' := by
  by_cases h : n = -1
  · subst h
    go_enter Try.func100, Try.ntmps100
    go_wp2_with fail
    go_ret
    exact ⟨by simp [orAny], rfl⟩
  · have h1 : (n == -1) = false := by simpa using h
    go_enter Try.func100, Try.ntmps100
    go_wp2_with (go_at_call 62; refine (exists_any _ _ _).mono ?_; rintro e w' ⟨rfl, rfl⟩)
    go_ret
    exact ⟨by simp [orAny, h], rfl⟩

set_option maxHeartbeats 1000000 in
theorem sizesRight_any (b o : Nat) (S : Sys) (w : World) (hS : SysAt w b o S) :
    Calls Try.prog 66 #[.pointer (some ⟨b, o, none⟩)] w fun e w' => e = .returned (.bool (sizesOk S)) ∧ w = w' := by
  obtain ⟨vt, vp, vs, h0, h1, h2, h3, h4, h5, h6, ⟨at_, ct, rfl, hlt, -⟩, ⟨ap, cp, rfl, hlp, -⟩, ⟨as_, cs, rfl, hls, -⟩⟩ := hS
  go_enter Try.func66, Try.ntmps66
  go_wp2_with (go_at_call 75; refine (between_any _ _ _ _).mono ?_; rintro e w' ⟨rfl, rfl⟩)
  all_goals
    go_ret
    exact ⟨ret_bool (by simp only [*, sizesOk, Bool.true_and, Bool.and_true, Bool.false_and, Bool.and_false]; try simp; try omega), rfl⟩

theorem textOk_iff (t : ByteArray) : textOk t = true ↔ (betw t.size 1 30 = true ∧ ∀ i (h : i < t.size), betw ((t[i]).toNat : Int) 33 126 = true) := by
  unfold textOk
  rw [Bool.and_eq_true, List.all_eq_true]
  refine and_congr Iff.rfl ⟨fun h i hi => ?_, fun h c hc => ?_⟩
  · exact h _ (by simp [ByteArray.getElem_eq_getElem_data])
  · obtain ⟨i, hi, rfl⟩ := List.getElem_of_mem hc
    exact h i (by simpa using hi)

set_option maxHeartbeats 1000000 in
theorem textRight_any (t : ByteArray) (w : World) (ht : t.size ≤ most) :
    Calls Try.prog 101 #[.string t] w fun e w' => e = .returned (.bool (textOk t)) ∧ w = w' := by
  unfold most at ht
  cases hb : betw t.size 1 30
  · go_enter Try.func101, Try.ntmps101
    go_wp2_with (go_at_call 75; refine (between_any _ _ _ _).mono ?_; rintro e w' ⟨rfl, rfl⟩)
    go_ret
    exact ⟨ret_bool (by simp [textOk, hb]), rfl⟩
  · go_enter Try.func101, Try.ntmps101
    go_wp2_with (go_at_call 75; refine (between_any _ _ _ _).mono ?_; rintro e w' ⟨rfl, rfl⟩)
    have HB := Lib.hid hb
    clear hb
    go_loop [10] (fun i => ∃ k : Nat, k ≤ t.size ∧ i = .int .i64 k ∧ ∀ j (h : j < t.size), j < k → betw ((t[j]).toNat : Int) 33 126 = true) (fun i => t.size - (intOf i).toNat)
    case atStart => exact ⟨0, Nat.zero_le _, rfl, fun j _ h => by omega⟩
    case round =>
      obtain ⟨k, hk, rfl, hall⟩ := hrel
      have HA := Lib.hid hall
      clear hall
      by_cases hlt : k < t.size
      · go_wp2_with (go_at_call 75; refine (between_any _ _ _ _).mono ?_; rintro e w' ⟨rfl, rfl⟩)
        · go_ret
          refine ⟨ret_bool ?_, rfl⟩
          have hx : betw (wrap64 ↑(t[k]).toNat) 33 126 = false := by simpa using ‹(!betw (wrap64 ↑(t[k]).toNat) 33 126) = true›
          rw [wrap_byte] at hx
          cases ht' : textOk t
          · rfl
          · rw [((textOk_iff t).1 ht').2 k hlt] at hx
            exact absurd hx (by simp)
        · go_round
          case rel =>
            refine ⟨k + 1, by omega, by go_num, fun j h h' => ?_⟩
            have hx : betw (wrap64 ↑(t[k]).toNat) 33 126 = true := by simpa using ‹(!betw (wrap64 ↑(t[k]).toNat) 33 126) = false›
            rw [wrap_byte] at hx
            by_cases e : j = k
            · subst e; exact hx
            · exact HA.out j h (by omega)
          case measure => simp [intOf]; omega
      · go_wp2
        go_ret
        exact ⟨ret_bool (((textOk_iff t).2 ⟨HB.out, fun j h => HA.out j h (by omega)⟩).symm), rfl⟩

set_option maxHeartbeats 1000000 in
theorem formRight_any (b o : Nat) (S : Sys) (f : Form) (w : World) (hS : SysAt w b o S) (hf : f.txt.size ≤ most) :
    Calls Try.prog 91 #[.pointer (some ⟨b, o, none⟩), f.val] w fun e w' => e = .returned (.bool (formOk S f)) ∧ Below w.heap.size w w' := by
  obtain ⟨vt, vp, vs, h0, h1, h2, h3, h4, h5, h6, hp⟩ := hS
  have hb := cell_lt h0
  unfold Form.val
  cases g1 : orAny f.gen S.genders
  · go_enter Try.func91, Try.ntmps91
    go_wp2_with fail
    (refine wp_region_quiet_lit (by kernel_rfl) (by kernel_rfl) ?_; (repeat (first | go_big_quiet_step (first | (go_at_call 100; first | exact toQ (isB (existsOrAny_any _ _ _) g1) | exact toQ (isB (existsOrAny_any _ _ _) g2) | exact toQ (isB (existsOrAny_any _ _ _) g3)) | (go_at_call 101; exact toQ (textRight_any _ _ hf))) | quiet_step (first | (go_at_call 100; first | exact toQ (isB (existsOrAny_any _ _ _) g1) | exact toQ (isB (existsOrAny_any _ _ _) g2) | exact toQ (isB (existsOrAny_any _ _ _) g3)) | (go_at_call 101; exact toQ (textRight_any _ _ hf))))); (refine wpQuiet_nil ?_; intro _ hw'; obtain ⟨nq, hw''⟩ := hw'; subst hw''))
    go_wp2
    go_ret
    exact ⟨ret_bool (by simp [formOk, *]), bDrew ((Below.refl _ _).alloc (Nat.le_refl _) _) _⟩
  · cases g2 : orAny f.kas S.cases
    · go_enter Try.func91, Try.ntmps91
      go_wp2_with fail
      (refine wp_region_quiet_lit (by kernel_rfl) (by kernel_rfl) ?_; (repeat (first | go_big_quiet_step (first | (go_at_call 100; first | exact toQ (isB (existsOrAny_any _ _ _) g1) | exact toQ (isB (existsOrAny_any _ _ _) g2) | exact toQ (isB (existsOrAny_any _ _ _) g3)) | (go_at_call 101; exact toQ (textRight_any _ _ hf))) | quiet_step (first | (go_at_call 100; first | exact toQ (isB (existsOrAny_any _ _ _) g1) | exact toQ (isB (existsOrAny_any _ _ _) g2) | exact toQ (isB (existsOrAny_any _ _ _) g3)) | (go_at_call 101; exact toQ (textRight_any _ _ hf))))); (refine wpQuiet_nil ?_; intro _ hw'; obtain ⟨nq, hw''⟩ := hw'; subst hw''))
      go_wp2
      go_ret
      exact ⟨ret_bool (by simp [formOk, *]), bDrew ((Below.refl _ _).alloc (Nat.le_refl _) _) _⟩
    · cases g3 : orAny f.cls S.classes
      · go_enter Try.func91, Try.ntmps91
        go_wp2_with fail
        (refine wp_region_quiet_lit (by kernel_rfl) (by kernel_rfl) ?_; (repeat (first | go_big_quiet_step (first | (go_at_call 100; first | exact toQ (isB (existsOrAny_any _ _ _) g1) | exact toQ (isB (existsOrAny_any _ _ _) g2) | exact toQ (isB (existsOrAny_any _ _ _) g3)) | (go_at_call 101; exact toQ (textRight_any _ _ hf))) | quiet_step (first | (go_at_call 100; first | exact toQ (isB (existsOrAny_any _ _ _) g1) | exact toQ (isB (existsOrAny_any _ _ _) g2) | exact toQ (isB (existsOrAny_any _ _ _) g3)) | (go_at_call 101; exact toQ (textRight_any _ _ hf))))); (refine wpQuiet_nil ?_; intro _ hw'; obtain ⟨nq, hw''⟩ := hw'; subst hw''))
        go_wp2
        go_ret
        exact ⟨ret_bool (by simp [formOk, *]), bDrew ((Below.refl _ _).alloc (Nat.le_refl _) _) _⟩
      · go_enter Try.func91, Try.ntmps91
        go_wp2_with fail
        (refine wp_region_quiet_lit (by kernel_rfl) (by kernel_rfl) ?_; (repeat (first | go_big_quiet_step (first | (go_at_call 100; first | exact toQ (isB (existsOrAny_any _ _ _) g1) | exact toQ (isB (existsOrAny_any _ _ _) g2) | exact toQ (isB (existsOrAny_any _ _ _) g3)) | (go_at_call 101; exact toQ (textRight_any _ _ hf))) | quiet_step (first | (go_at_call 100; first | exact toQ (isB (existsOrAny_any _ _ _) g1) | exact toQ (isB (existsOrAny_any _ _ _) g2) | exact toQ (isB (existsOrAny_any _ _ _) g3)) | (go_at_call 101; exact toQ (textRight_any _ _ hf))))); (refine wpQuiet_nil ?_; intro _ hw'; obtain ⟨nq, hw''⟩ := hw'; subst hw''))
        go_wp2
        go_ret
        exact ⟨ret_bool (by simp [formOk, *]), bDrew ((Below.refl _ _).alloc (Nat.le_refl _) _) _⟩

set_option maxHeartbeats 1000000 in
theorem pluralRight_any (b o : Nat) (S : Sys) (p : Plu) (w : World) (hS : SysAt w b o S) :
    Calls Try.prog 68 #[.pointer (some ⟨b, o, none⟩), p.val] w fun e w' => e = .returned (.bool (pluOk S p)) ∧ Below w.heap.size w w' := by
  obtain ⟨vt, vp, vs, h0, h1, h2, h3, h4, h5, h6, hp⟩ := hS
  have hb := cell_lt h0
  unfold Plu.val
  cases g1 : betw p.mod 1 1000000
  · go_enter Try.func68, Try.ntmps68
    go_wp2_with fail
    (refine wp_region_quiet_lit (by kernel_rfl) (by kernel_rfl) ?_; (repeat (first | go_big_quiet_step (first | (go_at_call 75; exact toQ (isB (between_any _ _ _ _) g1)) | (go_at_call 62; exact toQ (exists_any _ _ _))) | quiet_step (first | (go_at_call 75; exact toQ (isB (between_any _ _ _ _) g1)) | (go_at_call 62; exact toQ (exists_any _ _ _))))); (refine wpQuiet_nil ?_; intro _ hw'; obtain ⟨nq, hw''⟩ := hw'; subst hw''))
    go_wp2
    go_ret
    exact ⟨ret_bool (by simp [pluOk, *]), bDrew ((Below.refl _ _).alloc (Nat.le_refl _) _) _⟩
  · cases g2 : decide (0 ≤ p.frm)
    · go_enter Try.func68, Try.ntmps68
      go_wp2_with fail
      (refine wp_region_quiet_lit (by kernel_rfl) (by kernel_rfl) ?_; (repeat (first | go_big_quiet_step (first | (go_at_call 75; exact toQ (isB (between_any _ _ _ _) g1)) | (go_at_call 62; exact toQ (exists_any _ _ _))) | quiet_step (first | (go_at_call 75; exact toQ (isB (between_any _ _ _ _) g1)) | (go_at_call 62; exact toQ (exists_any _ _ _))))); (refine wpQuiet_nil ?_; intro _ hw'; obtain ⟨nq, hw''⟩ := hw'; subst hw''))
      go_wp2
      go_ret
      exact ⟨ret_bool (by simp [pluOk, *]), bDrew ((Below.refl _ _).alloc (Nat.le_refl _) _) _⟩
    · cases g3 : decide (p.frm ≤ p.upto)
      · go_enter Try.func68, Try.ntmps68
        go_wp2_with fail
        (refine wp_region_quiet_lit (by kernel_rfl) (by kernel_rfl) ?_; (repeat (first | go_big_quiet_step (first | (go_at_call 75; exact toQ (isB (between_any _ _ _ _) g1)) | (go_at_call 62; exact toQ (exists_any _ _ _))) | quiet_step (first | (go_at_call 75; exact toQ (isB (between_any _ _ _ _) g1)) | (go_at_call 62; exact toQ (exists_any _ _ _))))); (refine wpQuiet_nil ?_; intro _ hw'; obtain ⟨nq, hw''⟩ := hw'; subst hw''))
        go_wp2
        go_ret
        exact ⟨ret_bool (by simp [pluOk, *]), bDrew ((Below.refl _ _).alloc (Nat.le_refl _) _) _⟩
      · cases g4 : decide (p.upto < p.mod)
        · go_enter Try.func68, Try.ntmps68
          go_wp2_with fail
          (refine wp_region_quiet_lit (by kernel_rfl) (by kernel_rfl) ?_; (repeat (first | go_big_quiet_step (first | (go_at_call 75; exact toQ (isB (between_any _ _ _ _) g1)) | (go_at_call 62; exact toQ (exists_any _ _ _))) | quiet_step (first | (go_at_call 75; exact toQ (isB (between_any _ _ _ _) g1)) | (go_at_call 62; exact toQ (exists_any _ _ _))))); (refine wpQuiet_nil ?_; intro _ hw'; obtain ⟨nq, hw''⟩ := hw'; subst hw''))
          go_wp2
          go_ret
          exact ⟨ret_bool (by simp [pluOk, *]), bDrew ((Below.refl _ _).alloc (Nat.le_refl _) _) _⟩
        · go_enter Try.func68, Try.ntmps68
          go_wp2_with fail
          (refine wp_region_quiet_lit (by kernel_rfl) (by kernel_rfl) ?_; (repeat (first | go_big_quiet_step (first | (go_at_call 75; exact toQ (isB (between_any _ _ _ _) g1)) | (go_at_call 62; exact toQ (exists_any _ _ _))) | quiet_step (first | (go_at_call 75; exact toQ (isB (between_any _ _ _ _) g1)) | (go_at_call 62; exact toQ (exists_any _ _ _))))); (refine wpQuiet_nil ?_; intro _ hw'; obtain ⟨nq, hw''⟩ := hw'; subst hw''))
          go_wp2
          go_ret
          exact ⟨ret_bool (by simp [pluOk, *]), bDrew ((Below.refl _ _).alloc (Nat.le_refl _) _) _⟩

end Go.Proofs.Ytfcopnlpcbbocaa
