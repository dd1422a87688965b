/- Contracts: soften: the difference at a mark spread over both sides, in place. -/
import Derived.Test.YtbeeddenidfenaaG4
set_option linter.unusedSimpArgs false
set_option linter.unusedVariables false
namespace Go.Proofs.Ytbeeddenidfenaa
open Go.RowKit

/-- A row after i rounds of softening at lo + W, W wide. -/
def smS (f : Nat → Int) (lo W i j : Nat) : Int :=
  if lo + W ≤ j + i ∧ j < lo + W then clp (f j + rnd ((f (lo + W) - f (lo + W - 1)) * ((W : Int) - ((lo + W - 1 - j : Nat) : Int))) (2 * (W : Int) + 1))
  else if lo + W ≤ j ∧ j < lo + W + i then clp (f j - rnd ((f (lo + W) - f (lo + W - 1)) * ((W : Int) - ((j - (lo + W) : Nat) : Int))) (2 * (W : Int) + 1))
  else f j
theorem smS_zero (f : Nat → Int) (lo W j : Nat) : smS f lo W 0 j = f j := by
  unfold smS
  rw [if_neg (by omega), if_neg (by omega)]
theorem smS_step {f : Nat → Int} {lo W i j : Nat} (hi : i < W) {D sh : Int} (hD : D = f (lo + W) - f (lo + W - 1)) (hsh : sh = rnd (D * ((W : Int) - i)) (2 * (W : Int) + 1)) :
    smS f lo W (i + 1) j = if j = lo + W + i then clp (f j - sh) else if j = lo + (W - 1 - i) then clp (f j + sh) else smS f lo W i j := by
  subst hD hsh
  by_cases h1 : j = lo + W + i
  · subst h1
    unfold smS
    rw [if_pos rfl, if_neg (by omega), if_pos (by omega), show lo + W + i - (lo + W) = i by omega]
  · rw [if_neg h1]
    by_cases h2 : j = lo + (W - 1 - i)
    · subst h2
      unfold smS
      rw [if_pos rfl, if_pos (by omega), show lo + W - 1 - (lo + (W - 1 - i)) = i by omega]
    · rw [if_neg h2]
      unfold smS
      by_cases h3 : lo + W ≤ j + i ∧ j < lo + W
      · rw [if_pos h3, if_pos (by omega)]
      · rw [if_neg h3, if_neg (by omega)]
        by_cases h4 : lo + W ≤ j ∧ j < lo + W + i
        · rw [if_pos h4, if_pos (by omega)]
        · rw [if_neg h4, if_neg (by omega)]
set_option maxRecDepth 10000 in
set_option maxHeartbeats 2000000 in
theorem soften_any (g N M lo m W ca cb : Nat) (f : Nat → Int) (z : Nat → Value) (w : World) (hm : m = lo + W) (hW : 1 ≤ W) (hW2 : W ≤ 1000000) (hN : m + W ≤ M) (hMN : M ≤ N) (hf : ∀ j, -32768 ≤ f j ∧ f j ≤ 32767)
    (hr : w.rowIs g 3 N (fun j => if j < M then .int .i64 (f j) else z j)) :
    Calls Try.prog 94 #[.slice (some ⟨g, lo, none⟩) W ca, .slice (some ⟨g, m, none⟩) W cb] w fun e w' => (∃ r, e = .returned r) ∧ w'.rowIs g 3 N (fun j => if j < M then .int .i64 (smS f lo W W j) else z j) ∧ w.grownBy w' (some g) := by
  have HR0 := Lib.hid hr
  have HF := Lib.hid hf
  have HM := Lib.hid hm
  have c0 := hr.cell (i := m) (by omega)
  have c1 := hr.cell (i := lo + (W - 1)) (by omega)
  rw [if_pos (by omega)] at c0 c1
  have hgl := hr.lt
  have pf0 := hf m
  have pf1 := hf (lo + (W - 1))
  obtain ⟨x0, hx0⟩ : ∃ t, t = f m := ⟨_, rfl⟩
  obtain ⟨x1, hx1⟩ : ∃ t, t = f (lo + (W - 1)) := ⟨_, rfl⟩
  rw [← hx0] at c0 pf0
  rw [← hx1] at c1 pf1
  obtain ⟨D, hD⟩ : ∃ t, t = x0 - x1 := ⟨_, rfl⟩
  have HD : Hid (D = f (lo + W) - f (lo + W - 1)) := Lib.hid (by rw [hD, hx0, hx1, hm, show lo + (W - 1) = lo + W - 1 by omega])
  have u1 : IntKind.i64.wrap ((W : Int) - 1) = (W : Int) - 1 := IntWalk.i64_in _ (by omega)
  have u2 : ((W : Int) - 1).toNat = W - 1 := by omega
  have u3 : (0 : Int) ≤ (W : Int) - 1 := by omega
  have u4 : (W : Int) - 1 < (W : Int) := by omega
  have u5 : IntKind.i64.wrap (x0 - x1) = D := by rw [hD]; exact IntWalk.i64_in _ (by omega)
  have u6 : (0 : Int) < (W : Int) := by omega
  have u7 : IntKind.i64.wrap (2 * (W : Int)) = 2 * (W : Int) := IntWalk.i64_in _ (by omega)
  have u8 : IntKind.i64.wrap (2 * (W : Int) + 1) = 2 * (W : Int) + 1 := IntWalk.i64_in _ (by omega)
  have HDB : Hid (-65535 ≤ D ∧ D ≤ 65535) := Lib.hid (by omega)
  clear hf hr hm hx0 hx1 hD
  go_enter Try.func94, Try.ntmps94
  go_wp2_with fail
  refine wp_opaque fun Q2 hQ2 => ?_
  (refine wp_region_below (by kernel_rfl) (by kernel_rfl) ?_; (repeat (first | go_big_quiet_step (fail) | quiet_step (fail))); (refine wpQuiet_nil ?_; intro _ hw'; obtain ⟨xq, hw''⟩ := hw'; subst hw''))
  refine hQ2 _ _ _ ?_
  have hbx := xq.2
  have HR1 := Lib.hid (HR0.out.of_block (hbx.block _ hgl))
  have HG1 := Lib.hid (gb_below hbx (some g))
  generalize xq.val = W1 at HR1 HG1 hbx ⊢
  go_wp2_with fail
  go_loopw [20] (fun i wr => ∃ k : Nat, k ≤ W ∧ i = .int .i64 k ∧ Hid (wr.rowIs g 3 N (fun j => if j < M then .int .i64 (smS f lo W k j) else z j)) ∧ Hid (w.grownBy wr (some g))) (fun i _ => W - (intOf i).toNat)
  case atStart => exact ⟨0, Nat.zero_le _, rfl, Lib.hid (HR1.out.congr fun j _ => by rw [smS_zero]), HG1⟩
  case round =>
    obtain ⟨k, hk, rfl, HR, HG⟩ := hrel
    by_cases hlt : k < W
    · have hM := HM.out
      have p0 := HR.out.cell (i := lo + (W - 1 - k)) (by omega)
      have q0 := HR.out.cell (i := m + k) (by omega)
      have e1 : smS f lo W k (lo + (W - 1 - k)) = f (lo + (W - 1 - k)) := by unfold smS; rw [if_neg (by omega), if_neg (by omega)]
      rw [if_pos (by omega)] at p0 q0
      have e2 : smS f lo W k (m + k) = f (m + k) := by unfold smS; rw [if_neg (by omega), if_neg (by omega)]
      have pf := HF.out (lo + (W - 1 - k))
      have qf := HF.out (m + k)
      obtain ⟨p, hp⟩ : ∃ t, t = f (lo + (W - 1 - k)) := ⟨_, rfl⟩
      obtain ⟨q, hq⟩ : ∃ t, t = f (m + k) := ⟨_, rfl⟩
      rw [e1, ← hp] at p0
      rw [e2, ← hq] at q0
      rw [← hp] at pf
      rw [← hq] at qf
      have HP := Lib.hid hp
      have HQ := Lib.hid hq
      clear hp hq e1 e2
      have hdb := HDB.out
      have mu := mul_in (A := 65535) (B := 1000000) (show -65535 ≤ D by omega) (by omega) (show -1000000 ≤ (W : Int) - k by omega) (by omega)
      obtain ⟨T, hT⟩ : ∃ t, t = D * ((W : Int) - k) := ⟨_, rfl⟩
      rw [← hT] at mu
      have q1 : IntKind.i64.wrap ((W : Int) - k) = (W : Int) - k := IntWalk.i64_in _ (by omega)
      have q2 : IntKind.i64.wrap (D * ((W : Int) - k)) = T := by rw [← hT]; exact IntWalk.i64_in _ (by omega)
      have h88 := fun W' => rounded_any T (2 * (W : Int) + 1) W' (by omega) (by omega) (by omega) (by omega)
      have hsb : -65536000000 ≤ rnd T (2 * (W : Int) + 1) ∧ rnd T (2 * (W : Int) + 1) ≤ 65536000000 := by
        have mid : ∀ t : Int, 0 ≤ t → t ≤ 65535000000 → 0 ≤ rnd t (2 * (W : Int) + 1) ∧ rnd t (2 * (W : Int) + 1) ≤ 65535000001 := fun t h0 h1 => by
          have hh := rnd_in h0 (show (0 : Int) < 2 * (W : Int) + 1 by omega)
          rw [rnd_pos h0] at hh ⊢
          refine ⟨hh.1, ?_⟩
          have hd := Int.ediv_le_of_le_mul (a := 2 * t + (2 * (W : Int) + 1)) (b := t + 1) (c := 2 * (2 * (W : Int) + 1)) (by omega) (by
            have e : (t + 1) * (2 * (2 * (W : Int) + 1)) = 2 * t + 2 + 4 * ((t + 1) * W) := by
              rw [Int.mul_left_comm, Int.mul_add, Int.mul_one, Int.mul_left_comm]; omega
            rw [e]
            have h3 := Int.mul_le_mul_of_nonneg_right (show (1 : Int) ≤ t + 1 by omega) (show (0 : Int) ≤ W by omega)
            omega)
          omega
        by_cases hz : 0 ≤ T
        · have := mid T hz (by omega); omega
        · have := mid (-T) (by omega) (by omega)
          rw [rnd_neg (by omega)]
          omega
      obtain ⟨sh, hsh⟩ : ∃ t, t = rnd T (2 * (W : Int) + 1) := ⟨_, rfl⟩
      rw [← hsh] at h88 hsb
      have HSH : Hid (sh = rnd (D * ((W : Int) - k)) (2 * (W : Int) + 1)) := Lib.hid (by rw [hsh, hT])
      have H88 := Lib.hid h88
      have r1 : IntKind.i64.wrap ((W : Int) - 1 - k) = (W : Int) - 1 - k := IntWalk.i64_in _ (by omega)
      have r2 : ((W : Int) - 1 - k).toNat = W - 1 - k := by omega
      have r3 : (0 : Int) ≤ (W : Int) - 1 - k := by omega
      have r4 : (W : Int) - 1 - k < (W : Int) := by omega
      have r5 : IntKind.i64.wrap (p + sh) = p + sh := IntWalk.i64_in _ (by omega)
      have r6 : IntKind.i64.wrap (q - sh) = q - sh := IntWalk.i64_in _ (by omega)
      have HCP := Lib.hid (fun W' => clipped_any (p + sh) W')
      have HCQ := Lib.hid (fun W' => clipped_any (q - sh) W')
      obtain ⟨cp, hcp⟩ : ∃ t, t = clp (p + sh) := ⟨_, rfl⟩
      obtain ⟨cq, hcq⟩ : ∃ t, t = clp (q - sh) := ⟨_, rfl⟩
      rw [← hcp] at HCP
      rw [← hcq] at HCQ
      have HC1 := Lib.hid hcp
      have HC2 := Lib.hid hcq
      have z0 := HR.out.frozen (lo + (W - 1 - k))
      have gl := HR.out.lt
      clear hM h88 hsh hT hcp hcq hdb mu
      go_upto_region 7 with (first
        | (go_at_call 88; with_reducible refine Calls.mono (H88.out _) ?_; rintro e w1 ⟨rfl, rfl⟩)
        | (go_at_call 95; with_reducible refine Calls.mono (HCP.out _) ?_; rintro e w1 ⟨rfl, rfl⟩))
      have HR2 := Lib.hid (HR.out.set (lo + (W - 1 - k)) (.int .i64 cp))
      have HG2 := Lib.hid (gb_trans HG.out (gb_set wr g (lo + (W - 1 - k)) (.int .i64 cp)))
      have q0' := HR2.out.cell (i := m + k) (by have := HM.out; omega)
      rw [if_neg (by have := HM.out; omega), if_pos (by omega), show smS f lo W k (m + k) = q by rw [HQ.out]; unfold smS; rw [if_neg (by have := HM.out; omega), if_neg (by have := HM.out; omega)]] at q0'
      clear q0 p0 z0 gl
      generalize World.setCell wr _ _ = W2 at HR2 HG2 q0' ⊢
      have q0 := q0'
      clear q0'
      have z0 := HR2.out.frozen (m + k)
      have gl := HR2.out.lt
      have s1 : (k : Int) < (W : Int) := by omega
      go_wp2_with (first
        | (go_at_call 95; with_reducible refine Calls.mono (HCQ.out _) ?_; rintro e w1 ⟨rfl, rfl⟩))
      have HR3 : Hid ((W2.setCell ⟨g, m + k, none⟩ (.int .i64 cq)).rowIs g 3 N (fun j => if j < M then .int .i64 (smS f lo W (k + 1) j) else z j)) := Lib.hid ((HR2.out.set (m + k) (.int .i64 cq)).congr fun j _ => by
        have hM := HM.out
        by_cases hjM : j < M
        case neg => rw [if_neg (show ¬ j = m + k by omega), if_neg (show ¬ j = lo + (W - 1 - k) by omega), if_neg hjM, if_neg hjM]
        rw [if_pos hjM, if_pos hjM, smS_step hlt HD.out HSH.out]
        by_cases h1 : j = m + k
        · have h1' : j = lo + W + k := by omega
          rw [if_pos h1, if_pos h1', HC2.out, HQ.out, h1]
        · have h1' : ¬ j = lo + W + k := by omega
          rw [if_neg h1, if_neg h1']
          by_cases h2 : j = lo + (W - 1 - k)
          · rw [if_pos h2, if_pos h2, HC1.out, HP.out, h2]
          · rw [if_neg h2, if_neg h2])
      have HG3 : Hid (w.grownBy (W2.setCell ⟨g, m + k, none⟩ (.int .i64 cq)) (some g)) := Lib.hid (gb_trans HG2.out (gb_set W2 g (m + k) (.int .i64 cq)))
      go_roundw
      case rel => exact ⟨k + 1, by omega, by go_num, HR3, HG3⟩
      case measure => simp [intOf]; omega
    · obtain rfl : k = W := by omega
      go_wp2_with fail
      go_end0
      exact ⟨⟨_, rfl⟩, HR.out, HG.out⟩
end Go.Proofs.Ytbeeddenidfenaa
