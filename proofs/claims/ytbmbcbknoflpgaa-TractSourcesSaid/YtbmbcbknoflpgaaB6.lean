/- Contracts: pulses by the specification. -/
import Derived.Test.YtbmbcbknoflpgaaB4
import Derived.Test.YtbmbcbknoflpgaaA5
set_option linter.unusedSimpArgs false
set_option linter.unusedVariables false
namespace Go.Proofs.Ytbmbcbknoflpgaa
open Go.RowKit

theorem pulP_step (xp xo xh : Int) (L A j P : Nat) (hA : A = P * L) (hj : j < L) : pulP ⟨xp, L, xo, xh⟩ (A + j + 1) = pulP ⟨xp, L, xo, xh⟩ (A + j) ++ [pls ⟨xp, L, xo, xh⟩ j] := by
  have h : ((A + j : Nat) : Int) % (L : Int) = (j : Int) := by
    have h1 : (A + j) % L = j := by rw [hA, Nat.add_comm, Nat.add_mul_mod_self_right, Nat.mod_eq_of_lt hj]
    have h2 : (((A + j) % L : Nat) : Int) = ((A + j : Nat) : Int) % (L : Int) := by simp
    rw [← h2, h1]
  rw [pulP_snoc]
  simp only at h ⊢
  rw [h]
set_option maxRecDepth 10000 in
set_option maxHeartbeats 4000000 in
theorem refPulses_any (l : List Glo) (v : Value) (w : World) (hv : SliceV w v 4 GloAt l) (hl : l.length ≤ 200) (hg : l.all gloOk = true) (h5 : smp l ≤ 100000) :
    Calls Try.prog 46 #[v] w fun e w' => (∃ r, e = .returned r ∧ SliceV w' r 1 IntAt (pulL l)) ∧ Below w.heap.size w w' := by
  have HV := Lib.hid hv
  have HG := Lib.hid hg
  obtain ⟨a, c, rfl, hl2, -⟩ := hv
  obtain ⟨i3, hi, hz0, hz1, hz2⟩ := info_parts infoI
  have HI := Lib.hid hi
  have HPL := Lib.hid (pulL_len hg)
  have H5 := Lib.hid h5
  clear hg hl2 hi h5
  go_enter Try.func46, Try.ntmps46
  go_wp2_with fail
  go_loopw [3, 4] (fun o i wr => ∃ k : Nat, k ≤ l.length ∧ i = .int .i64 k ∧ Hid (wr.ownsRow w.heap.size 3 1 o (pulL (l.take k)).length (intV (pulL (l.take k)))) ∧ Hid (Below w.heap.size w wr)) (fun _ i _ => l.length - (intOf i).toNat)
  case atStart => exact ⟨0, Nat.zero_le _, rfl, Lib.hid (World.ownsRow_nil _ _ _ _), Lib.hid (Below.refl _ _)⟩
  case round =>
    obtain ⟨k, hk, rfl, HR, HB⟩ := hrel
    by_cases hlt : k < l.length
    · obtain ⟨b, o, rfl, hf⟩ := (HV.out.keep GloAt.stable HB.out).at (by intro h; simp [h] at hlt)
      obtain ⟨k0, k1, k2, k3⟩ := hf k hlt
      have HT : Hid (pulL (l.take (k + 1)) = pulL (l.take k) ++ pulP l[k] (l[k].per * l[k].len).toNat) := Lib.hid (by rw [take_succ l k hlt, pulL_snoc])
      have hkk : (k : Int) < (l.length : Int) := by omega
      have hgx := List.all_eq_true.1 HG.out _ (List.getElem_mem hlt)
      have hp := pl_in hgx
      have hi2 := glo_in hgx
      have hs := pulL_len (all_take HG.out k)
      have hs1 := smp_take HG.out (k + 1)
      have hs2 : smp (l.take (k + 1)) = smp (l.take k) + l[k].per * l[k].len := by rw [take_succ l k hlt, smp_snoc]
      clear hf
      have HGX := Lib.hid hgx
      clear hgx
      generalize l[k] = x at *
      unfold IntAt at k0 k1 k2 k3
      have hkb := cell_lt k0
      have h5 := H5.out
      obtain ⟨S, hS⟩ : ∃ S, pulL (l.take k) = S := ⟨_, rfl⟩
      rw [hS] at HR HT hs
      obtain ⟨xp, xl, xo, xh⟩ := x
      simp only at k0 k1 k2 k3 hs2 hp hi2 HT
      obtain ⟨pn, rfl⟩ : ∃ pn : Nat, xp = pn := ⟨xp.toNat, by omega⟩
      obtain ⟨L, rfl⟩ : ∃ L : Nat, xl = L := ⟨xl.toNat, by omega⟩
      obtain ⟨T, hTT⟩ : ∃ T : Nat, T = pn * L := ⟨_, rfl⟩
      have hTI : (pn : Int) * (L : Int) = (T : Int) := by rw [hTT]; simp
      rw [hTI] at hp hs2 HT
      rw [show ((T : Int)).toNat = T by omega] at HT
      have HSUM : Hid (S.length + T ≤ 100000) := Lib.hid (by omega)
      have HTT := Lib.hid hTT
      have HI2 := Lib.hid hi2
      clear hTI hTT hS hs hs1 hs2 hi2 hp h5
      have hbsz := HB.out.size
      have hrow := HR.out
      obtain ⟨ad, cap, rfl⟩ := ownsRow_slice hrow
      clear hrow
      have HR1 : Hid (World.ownsRow (wr.alloc (.cells #[.int .i64 pn, .int .i64 L, .int .i64 xo, .int .i64 xh] 103)) w.heap.size 3 1 (.slice ad S.length cap) S.length (intV S)) := Lib.hid (HR.out.alloc _)
      have HBX0 : Hid ((wr.alloc (.cells #[.int .i64 pn, .int .i64 L, .int .i64 xo, .int .i64 xh] 103)).heap[wr.heap.size]? = some (.cells #[.int .i64 pn, .int .i64 L, .int .i64 xo, .int .i64 xh] 103 (0, 0))) := Lib.hid (World.alloc_heap_new wr _)
      have HB3 : Hid (Below w.heap.size w (wr.alloc (.cells #[.int .i64 pn, .int .i64 L, .int .i64 xo, .int .i64 xh] 103))) := Lib.hid (bAlloc HB.out _)
      go_wp2_with fail
      generalize World.alloc wr _ = W3 at *
      obtain ⟨bx, hbx⟩ : ∃ bx, wr.heap.size = bx := ⟨_, rfl⟩
      rw [hbx] at HBX0 ⊢
      clear hbx k0 k1 k2 k3 hkb hbsz
      go_loopw [3, 6] (fun o i wr => ∃ P : Nat, P ≤ pn ∧ i = .int .i64 P ∧ Hid (wr.ownsRow w.heap.size 3 1 o (S.length + P * L) (intV (S ++ pulP ⟨pn, L, xo, xh⟩ (P * L)))) ∧ Hid (wr.heap[bx]? = some (.cells #[.int .i64 pn, .int .i64 L, .int .i64 xo, .int .i64 xh] 103 (0, 0))) ∧ Hid (Below w.heap.size w wr)) (fun _ i _ => pn - (intOf i).toNat)
      case atStart => exact ⟨0, Nat.zero_le _, rfl, Lib.hid (by simpa [pulP] using HR1.out), HBX0, HB3⟩
      case round =>
        obtain ⟨P, hP, rfl, HRP, HBXP, HBP⟩ := hrel
        have e0 := cell_of_heap HBXP.out (show 0 < 4 by omega)
        simp at e0
        have hbl := cell_lt e0
        by_cases hPp : P < pn
        · have hPI : (P : Int) < (pn : Int) := by omega
          obtain ⟨A, hA⟩ : ∃ A, P * L = A := ⟨_, rfl⟩
          have HA := Lib.hid hA
          have HAL : Hid (A + L ≤ T) := Lib.hid (by
            have h1 := Nat.mul_le_mul_right L (show P + 1 ≤ pn by omega)
            rw [Nat.add_mul, Nat.one_mul, hA, ← HTT.out] at h1
            exact h1)
          rw [hA] at HRP
          clear hA
          go_wp2_with fail
          clear e0 hbl
          go_loopw [3, 7] (fun o i wr => ∃ j : Nat, j ≤ L ∧ i = .int .i64 j ∧ Hid (wr.ownsRow w.heap.size 3 1 o (S.length + A + j) (intV (S ++ pulP ⟨pn, L, xo, xh⟩ (A + j)))) ∧ Hid (wr.heap[bx]? = some (.cells #[.int .i64 pn, .int .i64 L, .int .i64 xo, .int .i64 xh] 103 (0, 0))) ∧ Hid (Below w.heap.size w wr)) (fun _ i _ => L - (intOf i).toNat)
          case atStart => exact ⟨0, Nat.zero_le _, rfl, HRP, HBXP, HBP⟩
          case round =>
            obtain ⟨j, hj, rfl, HRJ, HBXJ, HBJ⟩ := hrel
            have e1 := cell_of_heap HBXJ.out (show 1 < 4 by omega)
            have e2 := cell_of_heap HBXJ.out (show 2 < 4 by omega)
            have e3 := cell_of_heap HBXJ.out (show 3 < 4 by omega)
            simp at e1 e2 e3
            have hbl := cell_lt e1
            by_cases hjL : j < L
            · have hjI : (j : Int) < (L : Int) := by omega
              have hal := HAL.out
              have hsum := HSUM.out
              have hsz := HBJ.out.size
              have HST := Lib.hid (pulP_step pn xo xh L A j P HA.out.symm hjL)
              have hrow := HRJ.out
              obtain ⟨ad, cap, rfl⟩ := ownsRow_slice hrow
              clear hrow
              by_cases ho : (j : Int) < xo
              · have hn := pls_num HGX.out (show (0 : Int) ≤ (j : Int) by omega) ho
                have hd : pls ⟨pn, L, xo, xh⟩ j = (4 * xh * j * (xo - j)).tdiv (xo * xo) := by unfold pls; rw [if_neg (by simp only; omega)]
                simp only at hn
                have hi2 := HI2.out
                obtain ⟨y, hy⟩ : ∃ y, pls ⟨pn, L, xo, xh⟩ j = y := ⟨_, rfl⟩
                rw [hy] at HST hd
                obtain ⟨t1, ht1⟩ : ∃ t, 4 * xh * (j : Int) = t := ⟨_, rfl⟩
                rw [ht1] at hn hd
                obtain ⟨t2, ht2⟩ : ∃ t, t1 * (xo - (j : Int)) = t := ⟨_, rfl⟩
                rw [ht2] at hn hd
                obtain ⟨t3, ht3⟩ : ∃ t, xo * xo = t := ⟨_, rfl⟩
                rw [ht3] at hn hd
                have HTW := Lib.hid (fun W => toward64_any t2 t3 W (by omega) (by omega))
                rw [← hd] at HTW
                have u1 : IntKind.i64.wrap (4 * xh) = 4 * xh := IntWalk.i64_in _ (by omega)
                have u2 : IntKind.i64.wrap (4 * xh * (j : Int)) = t1 := by rw [ht1]; exact IntWalk.i64_in _ (by omega)
                have u3 : IntKind.i64.wrap (xo - (j : Int)) = xo - j := IntWalk.i64_in _ (by omega)
                have u4 : IntKind.i64.wrap (t1 * (xo - (j : Int))) = t2 := by rw [ht2]; exact IntWalk.i64_in _ (by omega)
                have u5 : IntKind.i64.wrap (xo * xo) = t3 := by rw [ht3]; exact IntWalk.i64_in _ (by omega)
                clear hy ht1 ht2 ht3 hd hn hi2
                go_wp2_with (first
                  | (go_at_call 59; with_reducible refine Calls.mono (HTW.out _) ?_; rintro e w1 ⟨rfl, rfl⟩)
                  | (at_builtin; refine wpList_append_lies _ rfl _ _ 22 rfl w.heap.size 3 i3 _ 1 8 Try.underlying22 HI.out hz0 hz1 hz2 rfl (by decide) (.slice ad (S.length + A + j) cap) (S.length + A + j) _ (by rfl) (HRJ.out.alloc _) ⟨wr.heap.size, 0, none⟩ 1 1 [.int .i64 y] (by rfl) (by rfl) (one_new _ _ _) (by simp [Value.oneCell']) (by omega) (by unfold maxLen; omega) (by omega) (by simp; omega) (wr.heap.size + 1) (by simp) ?_; intro g6 cap6 w6 hown hgrow hat6 hlt6))
                all_goals first | (exfalso; omega) | skip
                have HX6 := Lib.hid (box_grown (heap_keep (bAlloc (Below.refl _ _) _) HBXJ.out) (HRJ.out.alloc (.cells #[.int .i64 y] 3)) hgrow (by decide))
                have HB6 := Lib.hid ((bAlloc HBJ.out _).trans (below_grown hgrow (HRJ.out.alloc (.cells #[.int .i64 y] 3)) (by simp; omega)))
                have HR6 : Hid (w6.ownsRow w.heap.size 3 1 (.slice (some ⟨g6, 0, none⟩) (S.length + A + j + 1) cap6) (S.length + A + (j + 1)) (intV (S ++ pulP ⟨pn, L, xo, xh⟩ (A + (j + 1))))) := Lib.hid (by rw [← Nat.add_assoc A, HST.out, ← List.append_assoc, intV_append, ← Nat.add_assoc]; exact hown)
                go_roundw
                case rel => exact ⟨j + 1, by omega, by go_num, HR6, HX6, HB6⟩
                case measure => simp [intOf]; omega
              · have hd : pls ⟨pn, L, xo, xh⟩ j = 0 := by unfold pls; rw [if_pos (by simp only; omega)]
                rw [hd] at HST
                obtain ⟨y, hy⟩ : ∃ y : Int, y = 0 := ⟨_, rfl⟩
                subst hy
                clear hd
                go_wp2_with (first
                  | (at_builtin; refine wpList_append_lies _ rfl _ _ 22 rfl w.heap.size 3 i3 _ 1 8 Try.underlying22 HI.out hz0 hz1 hz2 rfl (by decide) (.slice ad (S.length + A + j) cap) (S.length + A + j) _ (by rfl) (HRJ.out.alloc _) ⟨wr.heap.size, 0, none⟩ 1 1 [.int .i64 0] (by rfl) (by rfl) (one_new _ _ _) (by simp [Value.oneCell']) (by omega) (by unfold maxLen; omega) (by omega) (by simp; omega) (wr.heap.size + 1) (by simp) ?_; intro g6 cap6 w6 hown hgrow hat6 hlt6))
                all_goals first | (exfalso; omega) | skip
                have HX6 := Lib.hid (box_grown (heap_keep (bAlloc (Below.refl _ _) _) HBXJ.out) (HRJ.out.alloc (.cells #[.int .i64 0] 3)) hgrow (by decide))
                have HB6 := Lib.hid ((bAlloc HBJ.out _).trans (below_grown hgrow (HRJ.out.alloc (.cells #[.int .i64 0] 3)) (by simp; omega)))
                have HR6 : Hid (w6.ownsRow w.heap.size 3 1 (.slice (some ⟨g6, 0, none⟩) (S.length + A + j + 1) cap6) (S.length + A + (j + 1)) (intV (S ++ pulP ⟨pn, L, xo, xh⟩ (A + (j + 1))))) := Lib.hid (by rw [← Nat.add_assoc A, HST.out, ← List.append_assoc, intV_append, ← Nat.add_assoc]; exact hown)
                go_roundw
                case rel => exact ⟨j + 1, by omega, by go_num, HR6, HX6, HB6⟩
                case measure => simp [intOf]; omega
            · obtain rfl : j = L := by omega
              have hpn : pn ≤ 1000 := by have := HI2.out; omega
              have HNX : Hid (A + j = (P + 1) * j) := Lib.hid (by rw [Nat.add_mul, Nat.one_mul, HA.out])
              go_wp2_with fail
              go_roundw
              case rel => exact ⟨P + 1, by omega, by go_num, Lib.hid (by rw [← HNX.out, ← Nat.add_assoc]; exact HRJ.out), HBXJ, HBJ⟩
              case measure => simp [intOf]; omega
        · obtain rfl : P = pn := by omega
          rw [← HTT.out] at HRP
          go_wp2_with fail
          go_roundw
          case rel => exact ⟨k + 1, by omega, by go_num, Lib.hid (by rw [HT.out, List.length_append, pulP_len]; exact HRP.out), HBP⟩
          case measure => simp [intOf]; omega
    · obtain rfl : k = l.length := by omega
      rw [List.take_length] at HR
      have h5 := H5.out
      obtain ⟨ad, cap, rfl⟩ := ownsRow_slice HR.out
      go_wp2_with fail
      go_ret
      exact ⟨⟨_, rfl, own_slice (base := w.heap.size) HR.out (by have := HPL.out; omega)⟩, HB.out⟩
end Go.Proofs.Ytbmbcbknoflpgaa
