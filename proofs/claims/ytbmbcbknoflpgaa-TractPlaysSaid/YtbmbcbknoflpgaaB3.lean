/- Contracts: stretches by the specification. -/
import Derived.Test.YtbmbcbknoflpgaaB2
set_option linter.unusedSimpArgs false
set_option linter.unusedVariables false
namespace Go.Proofs.Ytbmbcbknoflpgaa
open Go.RowKit

theorem glo_ways (p l o h : Int) (hg : gloOk ⟨p, l, o, h⟩ = false) : p < 1 ∨ (¬ p < 1 ∧ 1000 < p) ∨ (¬ p < 1 ∧ ¬ 1000 < p ∧ l < 1) ∨ (¬ p < 1 ∧ ¬ 1000 < p ∧ ¬ l < 1 ∧ 2000 < l) ∨ (¬ p < 1 ∧ ¬ 1000 < p ∧ ¬ l < 1 ∧ ¬ 2000 < l ∧ o < 0) ∨ (¬ p < 1 ∧ ¬ 1000 < p ∧ ¬ l < 1 ∧ ¬ 2000 < l ∧ ¬ o < 0 ∧ l < o) ∨ (¬ p < 1 ∧ ¬ 1000 < p ∧ ¬ l < 1 ∧ ¬ 2000 < l ∧ ¬ o < 0 ∧ ¬ l < o ∧ h < 0) ∨ (¬ p < 1 ∧ ¬ 1000 < p ∧ ¬ l < 1 ∧ ¬ 2000 < l ∧ ¬ o < 0 ∧ ¬ l < o ∧ ¬ h < 0 ∧ 500 < h) := by
  have hn : ¬ (1 ≤ p ∧ p ≤ 1000 ∧ 1 ≤ l ∧ l ≤ 2000 ∧ 0 ≤ o ∧ o ≤ l ∧ 0 ≤ h ∧ h ≤ 500) := by
    intro hh
    have : gloOk ⟨p, l, o, h⟩ = true := by simp only [gloOk, Bool.and_eq_true, betw_iff]; omega
    rw [hg] at this
    cases this
  omega
set_option maxRecDepth 10000 in
set_option maxHeartbeats 4000000 in
theorem refStretches_any (l : List Glo) (v : Value) (w : World) (hv : SliceV w v 4 GloAt l) :
    Calls Try.prog 43 #[v] w fun e w' => e = .returned (.tuple #[.int .i64 (if strOk l = true then smp l else 0), .bool (strOk l)]) ∧ Below w.heap.size w w' := by
  have HV := Lib.hid hv
  obtain ⟨a, c, rfl, hl2, -⟩ := hv
  unfold most at hl2
  by_cases hl : (l.length : Int) ≤ 200
  case neg =>
    have h : strOk l = false := by simp [strOk]; omega
    rw [h]
    have h2 : (200 : Int) < (l.length : Int) := by omega
    go_enter Try.func43, Try.ntmps43
    go_wp2_with fail
    all_goals first | (exfalso; omega) | skip
    go_ret2
    exact ⟨rfl, Below.refl _ _⟩
  have HL := Lib.hid hl
  obtain ⟨ok, hok⟩ : ∃ b, strOk l = b := ⟨_, rfl⟩
  obtain ⟨n, hn⟩ : ∃ n, (if strOk l = true then smp l else 0) = n := ⟨_, rfl⟩
  rw [hn, hok]
  have HN := Lib.hid hn
  have HOK := Lib.hid hok
  clear hn hok
  go_enter Try.func43, Try.ntmps43
  go_wp2_with fail
  all_goals first | (exfalso; omega) | skip
  go_loopw [4, 5] (fun s i wr => ∃ k : Nat, k ≤ l.length ∧ i = .int .i64 k ∧ s = .int .i64 (smp (l.take k)) ∧ Hid ((l.take k).all gloOk = true) ∧ Hid (Below w.heap.size w wr)) (fun _ i _ => l.length - (intOf i).toNat)
  case atStart => exact ⟨0, Nat.zero_le _, rfl, rfl, Lib.hid rfl, Lib.hid (Below.refl _ _)⟩
  case round =>
    obtain ⟨k, hk, rfl, rfl, HK, HB⟩ := hrel
    by_cases hlt : k < l.length
    · obtain ⟨b, o, rfl, hf⟩ := (HV.out.keep GloAt.stable HB.out).at (by intro h; simp [h] at hlt)
      obtain ⟨k0, k1, k2, k3⟩ := hf k hlt
      have HT : Hid (smp (l.take (k + 1)) = smp (l.take k) + l[k].per * l[k].len) := Lib.hid (by rw [take_succ l k hlt, smp_snoc])
      have HT2 : Hid ((l.take (k + 1)).all gloOk = ((l.take k).all gloOk && gloOk l[k])) := Lib.hid (by rw [take_succ l k hlt, List.all_append]; simp)
      have HIN : Hid (l[k] ∈ l) := Lib.hid (List.getElem_mem hlt)
      have hkk : (k : Int) < (l.length : Int) := by omega
      have hs := smp_in HK.out
      rw [List.length_take_of_le hk] at hs
      clear hf
      generalize l[k] = x at *
      obtain ⟨xp, xl, xo, xh⟩ := x
      unfold IntAt at k0 k1 k2 k3
      have hkb := cell_lt k0
      simp only at k0 k1 k2 k3 HT
      generalize smp (l.take k) = s at *
      cases hg : gloOk ⟨xp, xl, xo, xh⟩
      · have HOUT : Hid (n = 0 ∧ ok = false) := Lib.hid (by
          have : l.all gloOk = false := List.all_eq_false.2 ⟨_, HIN.out, by simp [hg]⟩
          have h : strOk l = false := by simp [strOk, this]
          rw [← HN.out, ← HOK.out, h]; exact ⟨rfl, rfl⟩)
        rcases glo_ways xp xl xo xh hg with h | ⟨h1, h⟩ | ⟨h1, h2, h⟩ | ⟨h1, h2, h3, h⟩ | ⟨h1, h2, h3, h4, h⟩ | ⟨h1, h2, h3, h4, h5, h⟩ | ⟨h1, h2, h3, h4, h5, h6, h⟩ | ⟨h1, h2, h3, h4, h5, h6, h7, h⟩
        · go_wp2_with fail
          go_ret2
          exact ⟨by rw [HOUT.out.1, HOUT.out.2]; rfl, bAlloc HB.out _⟩
        · go_wp2_with fail
          go_ret2
          exact ⟨by rw [HOUT.out.1, HOUT.out.2]; rfl, bAlloc HB.out _⟩
        · go_wp2_with fail
          go_ret2
          exact ⟨by rw [HOUT.out.1, HOUT.out.2]; rfl, bAlloc HB.out _⟩
        · go_wp2_with fail
          go_ret2
          exact ⟨by rw [HOUT.out.1, HOUT.out.2]; rfl, bAlloc HB.out _⟩
        · go_wp2_with fail
          go_ret2
          exact ⟨by rw [HOUT.out.1, HOUT.out.2]; rfl, bAlloc HB.out _⟩
        · go_wp2_with fail
          go_ret2
          exact ⟨by rw [HOUT.out.1, HOUT.out.2]; rfl, bAlloc HB.out _⟩
        · go_wp2_with fail
          go_ret2
          exact ⟨by rw [HOUT.out.1, HOUT.out.2]; rfl, bAlloc HB.out _⟩
        · go_wp2_with fail
          go_ret2
          exact ⟨by rw [HOUT.out.1, HOUT.out.2]; rfl, bAlloc HB.out _⟩
      · have hp := pl_in hg
        have hi := glo_in hg
        simp only at hp hi
        obtain ⟨p, hpp⟩ : ∃ p, xp * xl = p := ⟨_, rfl⟩
        rw [hpp] at hp HT
        have u1 : IntKind.i64.wrap (xp * xl) = p := by rw [hpp]; exact IntWalk.i64_in _ (by have := HL.out; omega)
        have u2 : IntKind.i64.wrap (s + p) = s + p := IntWalk.i64_in _ (by have := HL.out; omega)
        have c1 : ¬ xp < 1 := by omega
        have c2 : ¬ 1000 < xp := by omega
        have c3 : ¬ xl < 1 := by omega
        have c4 : ¬ 2000 < xl := by omega
        have c5 : ¬ xo < 0 := by omega
        have c6 : ¬ xl < xo := by omega
        have c7 : ¬ xh < 0 := by omega
        have c8 : ¬ 500 < xh := by omega
        have HGT := Lib.hid hg
        clear hpp hg hp hi
        go_wp2_with fail
        all_goals first | (exfalso; omega) | skip
        go_roundw
        case rel => exact ⟨k + 1, by omega, by go_num, by rw [HT.out], Lib.hid (by rw [HT2.out, HK.out, HGT.out]; rfl), Lib.hid (bAlloc HB.out _)⟩
        case measure => simp [intOf]; omega
    · obtain rfl : k = l.length := by omega
      have h := HK.out
      rw [List.take_length] at h ⊢
      have hok : strOk l = true := by simp only [strOk, h, Bool.and_true, decide_eq_true_eq]; have := HL.out; omega
      have HE : Hid (n = smp l ∧ ok = true) := Lib.hid (by rw [← HN.out, ← HOK.out, hok]; exact ⟨rfl, rfl⟩)
      clear hok h
      go_wp2_with fail
      go_ret2
      exact ⟨by rw [HE.out.1, HE.out.2]; rfl, HB.out⟩
end Go.Proofs.Ytbmbcbknoflpgaa
