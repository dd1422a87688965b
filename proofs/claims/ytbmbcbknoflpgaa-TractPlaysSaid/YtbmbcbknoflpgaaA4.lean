/- Contracts: scattering at a joint, in place. -/
import Derived.Test.YtbmbcbknoflpgaaG0
set_option linter.unusedSimpArgs false
set_option linter.unusedVariables false
namespace Go.Proofs.Ytbmbcbknoflpgaa
open Go.RowKit

/-- The sum of areas, and the sum of twice the areas times the waves, as a machine adds them. -/
def arS (A : Nat → Int) : Nat → Int
  | 0 => 0
  | k + 1 => arS A k + A k
def wvS (A F : Nat → Int) : Nat → Int
  | 0 => 0
  | k + 1 => wrap64 (wvS A F k + wrap64 (2 * A k * F k))
/-- The wave that leaves at a side. -/
def sct (A F : Nat → Int) (n i : Nat) : Int := (wrap64 (wvS A F n - wrap64 (arS A n * F i))).tdiv (arS A n)
theorem w64_in (x : Int) : -9223372036854775808 ≤ wrap64 x ∧ wrap64 x ≤ 9223372036854775807 := by unfold wrap64; omega
theorem wvS_in (A F : Nat → Int) (k : Nat) : -9223372036854775808 ≤ wvS A F k ∧ wvS A F k ≤ 9223372036854775807 := by
  cases k with
  | zero => unfold wvS; omega
  | succ k => exact w64_in _
theorem arS_in {A : Nat → Int} {n : Nat} (h : ∀ j, j < n → 1 ≤ A j ∧ A j ≤ 1000) : ∀ k, k ≤ n → (k : Int) ≤ arS A k ∧ arS A k ≤ 1000 * (k : Int) := by
  intro k hk
  induction k with
  | zero => unfold arS; omega
  | succ k ih =>
    have h1 := ih (by omega)
    have h2 := h k (by omega)
    unfold arS
    omega
theorem tdiv64 {a b : Int} (ha : -9223372036854775808 ≤ a ∧ a ≤ 9223372036854775807) (hb : 1 ≤ b) : -9223372036854775808 ≤ a.tdiv b ∧ a.tdiv b ≤ 9223372036854775807 := by
  rcases Int.le_total 0 a with h | h
  · have h5 := Int.tdiv_eq_ediv_of_nonneg (b := b) h
    have h6 := Int.ediv_le_self b h
    have h7 := Int.ediv_nonneg h (show 0 ≤ b by omega)
    omega
  · have h5 : a.tdiv b = -((-a).tdiv b) := by rw [Int.neg_tdiv, Int.neg_neg]
    have h8 := Int.tdiv_eq_ediv_of_nonneg (a := -a) (b := b) (by omega)
    have h6 := Int.ediv_le_self b (show 0 ≤ -a by omega)
    have h7 := Int.ediv_nonneg (show 0 ≤ -a by omega) (show 0 ≤ b by omega)
    omega
theorem sct_in {A F : Nat → Int} {n : Nat} (h : 1 ≤ arS A n) (i : Nat) : -9223372036854775808 ≤ sct A F n i ∧ sct A F n i ≤ 9223372036854775807 := tdiv64 (w64_in _) h

set_option maxRecDepth 10000 in
set_option maxHeartbeats 2000000 in
theorem scatter_any (ty : TypeId) (l : List Int) (g N c : Nat) (v : Value) (f : Nat → Int) (z : Nat → Value) (w : World) (hv : SliceV w v 1 IntAt l) (hl1 : 1 ≤ l.length) (hl2 : l.length ≤ 10) (ha : ∀ j, j < l.length → 1 ≤ l.getD j 0 ∧ l.getD j 0 ≤ 1000) (hN : l.length ≤ N)
    (hr : w.rowIs g ty N (fun j => if j < l.length then .int .i64 (f j) else z j)) :
    Calls Try.prog 58 #[v, .slice (some ⟨g, 0, none⟩) l.length c] w fun e w' => (∃ r, e = .returned r) ∧ w'.rowIs g ty N (fun j => if j < l.length then .int .i64 (sct (fun i => l.getD i 0) f l.length j) else z j) ∧ w.grownBy w' (some g) := by
  have HV := Lib.hid hv
  have HR0 := Lib.hid hr
  have HA := Lib.hid ha
  have HSUM := Lib.hid (arS_in ha l.length (Nat.le_refl _))
  have HL1 := Lib.hid hl1
  have HL2 := Lib.hid hl2
  have HN := Lib.hid hN
  have HGL := Lib.hid hr.lt
  obtain ⟨a, ca, rfl, -⟩ := hv
  have HST : Hid (∀ k, k ≤ l.length → (k : Int) ≤ arS (fun i => l.getD i 0) k ∧ arS (fun i => l.getD i 0) k ≤ 1000 * (k : Int)) := Lib.hid (arS_in ha)
  clear hr ha
  go_enter Try.func58, Try.ntmps58
  go_wp2_with fail
  go_loopw [4, 5, 12] (fun s t i wr => ∃ k : Nat, k ≤ l.length ∧ i = .int .i64 k ∧ s = .int .i64 (arS (fun i => l.getD i 0) k) ∧ t = .int .i64 (wvS (fun i => l.getD i 0) f k) ∧ w = wr) (fun _ _ i _ => l.length - (intOf i).toNat)
  case atStart => exact ⟨0, Nat.zero_le _, rfl, rfl, rfl, rfl⟩
  case round =>
    obtain ⟨k, hk, rfl, rfl, rfl, rfl⟩ := hrel
    by_cases hlt : k < l.length
    · obtain ⟨b, o, rfl, hf⟩ := HV.out.at (by intro h; simp [h] at hlt)
      have k0 := hf k hlt
      unfold IntAt at k0
      rw [Nat.mul_one] at k0
      have hkb := cell_lt k0
      have c0 := HR0.out.cell (i := k) (by have := HN.out; omega)
      rw [if_pos hlt] at c0
      have hgl := HGL.out
      have hkk : (k : Int) < (l.length : Int) := by omega
      have ha := HA.out k hlt
      have hs := HST.out k hk
      have HE1 : Hid (arS (fun i => l.getD i 0) (k + 1) = arS (fun i => l.getD i 0) k + l.getD k 0) := Lib.hid rfl
      have HE2 : Hid (wvS (fun i => l.getD i 0) f (k + 1) = wrap64 (wvS (fun i => l.getD i 0) f k + wrap64 (2 * l.getD k 0 * f k))) := Lib.hid rfl
      have hl2 := HL2.out
      rw [gI hlt] at HE1 HE2 ha
      clear hf
      generalize l[k] = x at *
      generalize arS (fun i => l.getD i 0) k = s at *
      generalize wvS (fun i => l.getD i 0) f k = t at *
      generalize f k = y at *
      have u1 : IntKind.i64.wrap (s + x) = s + x := IntWalk.i64_in _ (by omega)
      have u2 : IntKind.i64.wrap (2 * x) = 2 * x := IntWalk.i64_in _ (by omega)
      obtain ⟨p, hp⟩ : ∃ p, wrap64 (2 * x * y) = p := ⟨_, rfl⟩
      have u3 : IntKind.i64.wrap (2 * x * y) = p := by rw [IntWalk.i64_left]; exact hp
      obtain ⟨q, hq⟩ : ∃ q, wrap64 (t + p) = q := ⟨_, rfl⟩
      have u4 : IntKind.i64.wrap (t + p) = q := by rw [IntWalk.i64_left]; exact hq
      have HE3 : Hid (wvS (fun i => l.getD i 0) f (k + 1) = q) := Lib.hid (by rw [HE2.out, hp, hq])
      go_wp2_with fail
      go_roundw
      case rel => exact ⟨k + 1, by omega, by go_num, by rw [HE1.out], by rw [HE3.out], by first | rfl | trivial⟩
      case measure => simp [intOf]; omega
    · obtain rfl : k = l.length := by omega
      have hs := HSUM.out
      have HSI : Hid (-9223372036854775808 ≤ wvS (fun i => l.getD i 0) f l.length ∧ wvS (fun i => l.getD i 0) f l.length ≤ 9223372036854775807) := Lib.hid (wvS_in _ _ _)
      have HSC : Hid (∀ j, sct (fun i => l.getD i 0) f l.length j = (wrap64 (wvS (fun i => l.getD i 0) f l.length - wrap64 (arS (fun i => l.getD i 0) l.length * f j))).tdiv (arS (fun i => l.getD i 0) l.length)) := Lib.hid (fun _ => rfl)
      generalize arS (fun i => l.getD i 0) l.length = s at *
      generalize wvS (fun i => l.getD i 0) f l.length = t at *
      have HS := Lib.hid hs
      clear hs
      go_wp2_with fail
      go_loopw [32] (fun i wr => ∃ k : Nat, k ≤ l.length ∧ i = .int .i64 k ∧ Hid (wr.rowIs g ty N (fun j => if j < l.length then .int .i64 (if j < k then sct (fun i => l.getD i 0) f l.length j else f j) else z j)) ∧ Hid (w.grownBy wr (some g))) (fun i _ => l.length - (intOf i).toNat)
      case atStart => exact ⟨0, Nat.zero_le _, rfl, Lib.hid (HR0.out.congr fun j _ => by simp), Lib.hid (gb_refl _ _)⟩
      case round =>
        obtain ⟨k, hk, rfl, HR, HG⟩ := hrel
        by_cases hlt : k < l.length
        · have hs := HS.out
          have c0 := HR.out.cell (i := k) (by have := HN.out; omega)
          rw [if_pos hlt, if_neg (Nat.lt_irrefl k)] at c0
          have hgl := HR.out.lt
          have z0 := HR.out.frozen k
          have hkk : (k : Int) < (l.length : Int) := by omega
          have hsc := HSC.out k
          have HFY : Hid (f k = f k) := Lib.hid rfl
          obtain ⟨y, hy⟩ : ∃ y, f k = y := ⟨_, rfl⟩
          rw [hy] at c0 hsc
          obtain ⟨p, hp⟩ : ∃ p, wrap64 (s * y) = p := ⟨_, rfl⟩
          have u3 : IntKind.i64.wrap (s * y) = p := by rw [IntWalk.i64_left]; exact hp
          obtain ⟨q, hq⟩ : ∃ q, wrap64 (t - p) = q := ⟨_, rfl⟩
          have u4 : IntKind.i64.wrap (t - p) = q := by rw [IntWalk.i64_left]; exact hq
          rw [hp, hq] at hsc
          have hqi := w64_in (t - p)
          rw [hq] at hqi
          have hti := tdiv64 hqi (show 1 ≤ s by have := HL1.out; omega)
          obtain ⟨r, hrr⟩ : ∃ r, q.tdiv s = r := ⟨_, rfl⟩
          rw [hrr] at hti hsc
          have u5 : IntKind.i64.wrap r = r := IntWalk.i64_in _ (by omega)
          have h1 : ¬ s = 0 := by have := HL1.out; omega
          have h2 : (s == 0) = false := by simp; exact h1
          have HSC2 := Lib.hid hsc
          have HR2 : Hid ((wr.setCell ⟨g, k, none⟩ (.int .i64 r)).rowIs g ty N (fun j => if j < l.length then .int .i64 (if j < k + 1 then sct (fun i => l.getD i 0) f l.length j else f j) else z j)) := Lib.hid ((HR.out.set k (.int .i64 r)).congr fun j _ => by
            by_cases hj : j = k
            · subst hj
              rw [if_pos rfl, if_pos hlt, if_pos (by omega), hsc]
            · rw [if_neg hj]
              by_cases hj3 : j < l.length
              · rw [if_pos hj3, if_pos hj3]
                by_cases hj2 : j < k
                · rw [if_pos hj2, if_pos (by omega)]
                · rw [if_neg hj2, if_neg (by omega)]
              · rw [if_neg hj3, if_neg hj3])
          have HG2 : Hid (w.grownBy (wr.setCell ⟨g, k, none⟩ (.int .i64 r)) (some g)) := Lib.hid (gb_trans HG.out (gb_set wr g k (.int .i64 r)))
          clear hsc hy hp hq hqi
          go_wp2_with fail
          go_roundw
          case rel => exact ⟨k + 1, by omega, by go_num, HR2, HG2⟩
          case measure => simp [intOf]; omega
        · obtain rfl : k = l.length := by omega
          go_wp2_with fail
          go_end0
          exact ⟨⟨_, rfl⟩, HR.out.congr fun j _ => by by_cases hj : j < l.length <;> simp [hj], HG.out⟩
end Go.Proofs.Ytbmbcbknoflpgaa
