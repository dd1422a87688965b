/- Contracts: terms, the class of a number. -/
import Derived.Test.YtfcopnlpcbbocaaC1
set_option linter.unusedSimpArgs false
set_option linter.unusedVariables false
namespace Go.Proofs.Ytfcopnlpcbbocaa
open Go.RowKit

theorem all_take_succ' {α : Type} (f : α → Bool) (l : List α) (n : Nat) (h : n < l.length) : (l.take (n + 1)).all f = ((l.take n).all f && f l[n]) := by
  rw [take_succ _ _ h, List.all_append]; simp
theorem all_false' {α : Type} (f : α → Bool) (l : List α) (n : Nat) (h : n < l.length) (hf : f l[n] = false) : l.all f = false := by
  rw [List.all_eq_false]; exact ⟨l[n], List.getElem_mem h, by simp [hf]⟩

set_option maxHeartbeats 1000000 in
theorem termRight_any (b o : Nat) (S : Sys) (t : Term) (v : Value) (w : World) (hS : SysAt w b o S) (hv : SliceV w v 4 FormAt t.forms) :
    Calls Try.prog 67 #[.pointer (some ⟨b, o, none⟩), .agg #[.int .i64 t.gen, v]] w fun e w' => e = .returned (.bool (termOk S t)) ∧ Below w.heap.size w w' := by
  have HS := Lib.hid hS
  obtain ⟨_, _, _, h0, h1, -⟩ := hS
  have hb := cell_lt h0
  obtain ⟨a, c, rfl, hl, hx⟩ := hv
  unfold most at hl
  cases g1 : exst t.gen S.genders
  · go_enter Try.func67, Try.ntmps67
    go_wp2_with fail
    (refine wp_region_below (by kernel_rfl) (by kernel_rfl) ?_; (repeat (first | go_big_quiet_step ((go_at_call 62; exact toS (fun _ => isB (exists_any _ _ _) g1) _)) | quiet_step ((go_at_call 62; exact toS (fun _ => isB (exists_any _ _ _) g1) _)))); (refine wpQuiet_nil ?_; intro _ hw'; obtain ⟨xq, hw''⟩ := hw'; subst hw''))
    go_wp2
    go_ret
    exact ⟨ret_bool (by simp [termOk, g1]), bThen (bAlloc (Below.refl _ _) _) xq.2⟩
  by_cases g2 : 60 < t.forms.length
  · have g3 : decide ((60 : Int) < t.forms.length) = true := by simp; omega
    go_enter Try.func67, Try.ntmps67
    go_wp2_with fail
    (refine wp_region_below (by kernel_rfl) (by kernel_rfl) ?_; (repeat (first | go_big_quiet_step ((go_at_call 62; exact toS (fun _ => isB (exists_any _ _ _) g1) _)) | quiet_step ((go_at_call 62; exact toS (fun _ => isB (exists_any _ _ _) g1) _)))); (refine wpQuiet_nil ?_; intro _ hw'; obtain ⟨xq, hw''⟩ := hw'; subst hw''))
    go_wp2
    go_ret
    exact ⟨ret_bool (by simp [termOk]; omega), bThen (bAlloc (Below.refl _ _) _) xq.2⟩
  · have g3 : decide ((60 : Int) < t.forms.length) = false := by simp; omega
    obtain ⟨W0, hW0⟩ : ∃ W0, W0 = w.alloc (.cells #[.int .i64 t.gen, .slice a t.forms.length c] 62) := ⟨_, rfl⟩
    have HB0 : Below w.heap.size w W0 := by rw [hW0]; exact bAlloc (Below.refl _ _) _
    have c0 : W0.cell? ⟨w.heap.size, 0, none⟩ = some (.int .i64 t.gen) := by rw [hW0]; simp
    have c1 : W0.cell? ⟨w.heap.size, 1, none⟩ = some (.slice a t.forms.length c) := by rw [hW0]; simp
    have h1 := keep HB0 h1
    have hb := cell_lt h1
    have HW0 := Lib.hid hW0
    clear hW0
    go_enter Try.func67, Try.ntmps67
    go_wp2_with fail
    rw [← HW0.out]
    have hs1 := cell_lt c1
    (refine wp_region_below (by kernel_rfl) (by kernel_rfl) ?_; (repeat (first | go_big_quiet_step ((go_at_call 62; exact toS (fun _ => isB (exists_any _ _ _) g1) _)) | quiet_step ((go_at_call 62; exact toS (fun _ => isB (exists_any _ _ _) g1) _)))); (refine wpQuiet_nil ?_; intro _ hw'; obtain ⟨xq, hw''⟩ := hw'; subst hw''))
    have d1 := keep xq.2 c1
    have HBx := bThen HB0 xq.2
    generalize xq.val = W1 at *
    go_wp2_with fail
    go_loopw [24] (fun i wr => ∃ k : Nat, k ≤ t.forms.length ∧ i = .int .i64 k ∧ (t.forms.take k).all (formOk S) = true ∧ Below w.heap.size w wr) (fun i _ => t.forms.length - (intOf i).toNat)
    case atStart => exact ⟨0, Nat.zero_le _, rfl, rfl, HBx⟩
    case round =>
      obtain ⟨k, hk, rfl, hall, hB⟩ := hrel
      have HA := Lib.hid hall
      clear hall
      by_cases hlt : k < t.forms.length
      · rcases hx with hnil | ⟨fb, fo, rfl, hf⟩
        · simp [hnil] at hlt
        obtain ⟨f0, f1, f2, f3, f4⟩ := FormAt.stable _ _ _ _ _ hB (hf k hlt)
        have hfb := cell_lt f0
        have HT := Lib.hid (all_take_succ' (formOk S) t.forms k hlt)
        have HN := Lib.hid (all_false' (formOk S) t.forms k hlt)
        clear hf d1 g3
        generalize t.forms[k] = f at *
        go_wp2_with (go_at_call 91; refine (formRight_any _ _ S f _ (by exact SysAt.stable _ _ _ _ _ (bAlloc hB _) HS.out) f4).mono ?_; rintro e w1 ⟨rfl, hb1⟩; have HB1 := bThen (bAlloc hB _) hb1)
        · have hp : formOk S f = false := by first | assumption | simpa using ‹(!formOk S f) = true›
          go_ret
          exact ⟨ret_bool (by simp [termOk, HN.out hp]), HB1⟩
        · have hp : formOk S f = true := by first | assumption | simpa using ‹(!formOk S f) = false›
          go_roundw
          case rel => exact ⟨k + 1, by omega, by go_num, by rw [HT.out, HA.out, hp]; rfl, HB1⟩
          case measure => simp [intOf]; omega
      · obtain rfl : k = t.forms.length := by omega
        clear g3
        go_wp2
        go_ret
        have ha := HA.out
        rw [List.take_length] at ha
        exact ⟨ret_bool (by simp [termOk, g1, ha]; omega), hB⟩

set_option maxHeartbeats 1000000 in
theorem classOf_any (b o : Nat) (ps : List Plu) (v : Value) (n : Int) (w : World) (hc : w.cell? ⟨b, o + 5, none⟩ = some v) (hv : SliceV w v 4 PluAt ps) (hn : 0 ≤ n)
    (hmod : ∀ i (h : i < ps.length), 1 ≤ ps[i].mod) :
    Calls Try.prog 44 #[.pointer (some ⟨b, o, none⟩), .int .i64 n] w fun e w' => e = .returned (.int .i64 (classOf n ps)) ∧ Below w.heap.size w w' := by
  have hb := cell_lt hc
  obtain ⟨a, c, rfl, hl, hx⟩ := hv
  unfold most at hl
  go_enter Try.func44, Try.ntmps44
  go_wp2_with fail
  go_loopw [13] (fun i wr => ∃ k : Nat, k ≤ ps.length ∧ i = .int .i64 k ∧ classOf n ps = classOf n (ps.drop k) ∧ Below w.heap.size w wr) (fun i _ => ps.length - (intOf i).toNat)
  case atStart => exact ⟨0, Nat.zero_le _, rfl, rfl, Below.refl _ _⟩
  case round =>
    obtain ⟨k, hk, rfl, hcl, hB⟩ := hrel
    have HC := Lib.hid hcl
    clear hcl
    by_cases hlt : k < ps.length
    · rcases hx with hnil | ⟨pb, po, rfl, hp⟩
      · simp [hnil] at hlt
      obtain ⟨p0, p1, p2, p3⟩ := PluAt.stable _ _ _ _ _ hB (hp k hlt)
      have hpb := cell_lt p0
      have hm := hmod k hlt
      have hdr : ps.drop k = ps[k] :: ps.drop (k + 1) := List.drop_eq_getElem_cons hlt
      have HD := Lib.hid hdr
      clear hp hdr hmod
      generalize ps[k] = p at *
      cases g1 : plHolds n p
      all_goals
        have G1 := Lib.hid g1
        unfold plHolds at g1
        go_wp2_with fail
        (refine wp_region_below (by kernel_rfl) (by kernel_rfl) ?_; (repeat (first | go_big_quiet_step ((go_at_call 75; exact toS (fun _ => isB (between_any _ _ _ _) g1) _)) | quiet_step ((go_at_call 75; exact toS (fun _ => isB (between_any _ _ _ _) g1) _)))); (refine wpQuiet_nil ?_; intro _ hw'; obtain ⟨xq, hw''⟩ := hw'; subst hw''))
        clear g1
        have HB1 := bThen (bAlloc hB _) xq.2
        try
          have e3 : xq.val.cell? ⟨wr.heap.size, 3, none⟩ = some (.int .i64 p.cls) := keep xq.2 (by simp)
        go_wp2_with fail
      · go_roundw
        case rel => exact ⟨k + 1, by omega, by go_num, by rw [HC.out, HD.out, classOf, G1.out]; rfl, HB1⟩
        case measure => simp [intOf]; omega
      · go_ret
        exact ⟨ret_int (by rw [HC.out, HD.out, classOf, G1.out]; rfl), HB1⟩
    · obtain rfl : k = ps.length := by omega
      clear hmod
      go_wp2
      go_ret
      exact ⟨ret_int (by rw [HC.out]; simp [classOf]), hB⟩
end Go.Proofs.Ytfcopnlpcbbocaa
