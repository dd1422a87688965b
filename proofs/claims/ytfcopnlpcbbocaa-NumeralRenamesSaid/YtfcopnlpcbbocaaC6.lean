/- Contracts: systems, asks. -/
import Derived.Test.YtfcopnlpcbbocaaC4
import Derived.Test.YtfcopnlpcbbocaaC5
set_option linter.unusedSimpArgs false
set_option linter.unusedVariables false
namespace Go.Proofs.Ytfcopnlpcbbocaa
open Go.RowKit

set_option maxHeartbeats 4000000 in
theorem systemRight_any (b o : Nat) (S : Sys) (w : World) (hS : SysAt w b o S) :
    Calls Try.prog 42 #[.pointer (some ⟨b, o, none⟩)] w fun e w' => e = .returned (.bool (sysOk S)) ∧ Below w.heap.size w w' := by
  have HS := Lib.hid hS
  obtain ⟨vt, vp, vs, h0, h1, h2, h3, h4, h5, h6, ht, hp, hs⟩ := hS
  have hb := cell_lt h0
  obtain ⟨ta, tc, hvt, htl, hx⟩ := ht
  obtain ⟨pa, pc, hvp, hpl, hy⟩ := hp
  obtain ⟨sa, sc, hvs, hsl, hz⟩ := hs
  subst hvt hvp hvs
  unfold most at htl hpl hsl
  have HX := Lib.hid hx
  have HY := Lib.hid hy
  have HZ := Lib.hid hz
  clear hx hy hz h0 h1 h2 h3
  cases g0 : sizesOk S
  · go_enter Try.func42, Try.ntmps42
    go_wp2_with (go_at_call 66; refine (isB (sizesRight_any _ _ S _ HS.out) g0).mono ?_; rintro e w' ⟨rfl, rfl⟩)
    go_ret
    exact ⟨ret_bool (by simp [sysOk, g0]), Below.refl _ _⟩
  go_enter Try.func42, Try.ntmps42
  go_wp2_with (go_at_call 66; refine (isB (sizesRight_any _ _ S _ HS.out) g0).mono ?_; rintro e w' ⟨rfl, rfl⟩)
  have G0 := Lib.hid g0
  clear g0
  go_loopw [17] (fun i wr => ∃ k : Nat, k ≤ S.terms.length ∧ i = .int .i64 k ∧ (S.terms.take k).all (termOk S) = true ∧ Below w.heap.size w wr) (fun i _ => S.terms.length - (intOf i).toNat)
  case atStart => exact ⟨0, Nat.zero_le _, rfl, rfl, Below.refl _ _⟩
  case round =>
    obtain ⟨k, hk, rfl, hall, hB⟩ := hrel
    have HA := Lib.hid hall
    clear hall
    have h4' := keep hB h4
    have h5' := keep hB h5
    by_cases hlt : k < S.terms.length
    · rcases HX.out with hnil | ⟨fb, fo, rfl, hf⟩
      · simp [hnil] at hlt
      obtain ⟨f0, v, f1, f2⟩ := TermAt.stable _ _ _ _ _ hB (hf k hlt)
      obtain ⟨ga, gc, hv, -⟩ := id f2
      subst hv
      have hfb := cell_lt f0
      have HT := Lib.hid (all_take_succ' (termOk S) S.terms k hlt)
      have HN := Lib.hid (all_false' (termOk S) S.terms k hlt)
      clear hf
      generalize S.terms[k] = t at *
      go_wp2_with (go_at_call 67; refine (termRight_any _ _ S t _ _ (by exact SysAt.stable _ _ _ _ _ (bAlloc hB _) HS.out) (by exact f2.keep FormAt.stable (bAlloc (Below.refl _ _) _))).mono ?_; rintro e w1 ⟨rfl, hb1⟩; have HB1 := bThen (bAlloc hB _) hb1)
      · have hq : termOk S t = false := by first | assumption | simpa using ‹(!termOk S t) = true›
        go_ret
        exact ⟨ret_bool (by simp [sysOk, HN.out hq]), HB1⟩
      · have hq : termOk S t = true := by first | assumption | simpa using ‹(!termOk S t) = false›
        go_roundw
        case rel => exact ⟨k + 1, by omega, by go_num, by rw [HT.out, HA.out, hq]; rfl, HB1⟩
        case measure => simp [intOf]; omega
    · obtain rfl : k = S.terms.length := by omega
      have A1 : Hid (S.terms.all (termOk S) = true) := Lib.hid (by simpa using HA.out)
      clear HA
      go_wp2_with fail
      have HB0 := hB
      clear hB h4' hlt hk
      generalize wr = wa at *
      go_loopw [31] (fun i wr => ∃ k : Nat, k ≤ S.plurals.length ∧ i = .int .i64 k ∧ (S.plurals.take k).all (pluOk S) = true ∧ Below w.heap.size w wr) (fun i _ => S.plurals.length - (intOf i).toNat)
      case atStart => exact ⟨0, Nat.zero_le _, rfl, rfl, HB0⟩
      case round =>
        obtain ⟨k, hk, rfl, hall, hB⟩ := hrel
        have HA := Lib.hid hall
        clear hall
        have h6' := keep hB h6
        by_cases hlt : k < S.plurals.length
        · rcases HY.out with hnil | ⟨fb, fo, rfl, hf⟩
          · simp [hnil] at hlt
          obtain ⟨f0, f1, f2, f3⟩ := PluAt.stable _ _ _ _ _ hB (hf k hlt)
          have hfb := cell_lt f0
          have HT := Lib.hid (all_take_succ' (pluOk S) S.plurals k hlt)
          have HN := Lib.hid (all_false' (pluOk S) S.plurals k hlt)
          clear hf
          generalize S.plurals[k] = p at *
          go_wp2_with (go_at_call 68; refine (pluralRight_any _ _ S p _ (by exact SysAt.stable _ _ _ _ _ (bAlloc hB _) HS.out)).mono ?_; rintro e w1 ⟨rfl, hb1⟩; have HB1 := bThen (bAlloc hB _) hb1)
          · have hq : pluOk S p = false := by first | assumption | simpa using ‹(!pluOk S p) = true›
            go_ret
            exact ⟨ret_bool (by simp [sysOk, HN.out hq]), HB1⟩
          · have hq : pluOk S p = true := by first | assumption | simpa using ‹(!pluOk S p) = false›
            go_roundw
            case rel => exact ⟨k + 1, by omega, by go_num, by rw [HT.out, HA.out, hq]; rfl, HB1⟩
            case measure => simp [intOf]; omega
        · obtain rfl : k = S.plurals.length := by omega
          have A2 : Hid (S.plurals.all (pluOk S) = true) := Lib.hid (by simpa using HA.out)
          clear HA
          go_wp2_with fail
          have HB0 := hB
          clear hB h5' h6' hlt hk
          generalize wr = wb at *
          go_loopw [45] (fun i wr => ∃ k : Nat, k ≤ S.sets.length ∧ i = .int .i64 k ∧ (S.sets.take k).all (setOk S) = true ∧ Below w.heap.size w wr) (fun i _ => S.sets.length - (intOf i).toNat)
          case atStart => exact ⟨0, Nat.zero_le _, rfl, rfl, HB0⟩
          case round =>
            obtain ⟨k, hk, rfl, hall, hB⟩ := hrel
            have HA := Lib.hid hall
            clear hall
            by_cases hlt : k < S.sets.length
            · rcases HZ.out with hnil | ⟨fb, fo, rfl, hf⟩
              · simp [hnil] at hlt
              obtain ⟨v, f0, f1⟩ := SetAt.stable _ _ _ _ _ hB (hf k hlt)
              simp only [Nat.mul_one] at f0
              obtain ⟨ga, gc, hv, -⟩ := id f1
              subst hv
              have hfb := cell_lt f0
              have HT := Lib.hid (all_take_succ' (setOk S) S.sets k hlt)
              have HN := Lib.hid (all_false' (setOk S) S.sets k hlt)
              clear hf
              generalize S.sets[k] = l at *
              go_wp2_with (go_at_call 69; refine (setRight_any _ _ S l _ _ (by exact SysAt.stable _ _ _ _ _ hB HS.out) f1).mono ?_; rintro e w1 ⟨rfl, hb1⟩; have HB1 := bThen hB hb1)
              · have hq : setOk S l = false := by first | assumption | simpa using ‹(!setOk S l) = true›
                go_ret
                exact ⟨ret_bool (by simp [sysOk, HN.out hq]), HB1⟩
              · have hq : setOk S l = true := by first | assumption | simpa using ‹(!setOk S l) = false›
                go_roundw
                case rel => exact ⟨k + 1, by omega, by go_num, by rw [HT.out, HA.out, hq]; rfl, HB1⟩
                case measure => simp [intOf]; omega
            · obtain rfl : k = S.sets.length := by omega
              have A3 : S.sets.all (setOk S) = true := by simpa using HA.out
              go_wp2_with fail
              go_ret
              exact ⟨ret_bool (by simp only [sysOk, G0.out, A1.out, A2.out, A3]; rfl), hB⟩
end Go.Proofs.Ytfcopnlpcbbocaa
