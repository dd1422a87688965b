/- Contracts: the energy of a tube. -/
import Derived.Test.YtbmbcbknoflpgaaE2
set_option linter.unusedSimpArgs false
set_option linter.unusedVariables false
namespace Go.Proofs.Ytbmbcbknoflpgaa
open Go.RowKit

/-- The sum in the middle of a section. -/
def enP (E a f b : Int) : Nat → Int
  | 0 => wrap64 E
  | 1 => wrap64 (wrap64 E + wrap64 (wrap64 (a * f) * f))
  | _ => wrap64 (wrap64 (wrap64 E + wrap64 (wrap64 (a * f) * f)) + wrap64 (wrap64 (a * b) * b))
set_option maxRecDepth 10000 in
set_option maxHeartbeats 2000000 in
theorem energy_any {w : World} {tb n ac main wb steps : Nat} {aa : Option Addr} {pv : Value} (al : List Int) (F B : Nat → Int) (h : TubeAt w tb aa n ac main pv wb steps) (hn1 : 1 ≤ n) (hn : n ≤ 100) (q : Nat) (hq : steps % 2 = q) (hs : steps ≤ 1000000)
    (ha : SliceV w (.slice aa n ac) 1 IntAt al) (hal : al.length = n) (hf : ∀ i, i < n → w.cell? ⟨wb, q * n * 2 + i * 2, none⟩ = some (.int .i64 (F i)) ∧ w.cell? ⟨wb, q * n * 2 + i * 2 + 1, none⟩ = some (.int .i64 (B i))) :
    Calls Try.prog 70 #[.pointer (some ⟨tb, 0, none⟩)] w fun e w' => e = .returned (.int .i64 (wrap64 (enX (fun i => al.getD i 0) F B n))) ∧ Below w.heap.size w w' := by
  have H := Lib.hid (state_any h hn1 hn q hq hs)
  have HF := Lib.hid hf
  have HA := Lib.hid ha
  have HTU := Lib.hid h
  have HAL := Lib.hid hal
  have c0 := h.areas
  have hl := cell_lt c0
  clear hf ha h hq
  go_enter Try.func70, Try.ntmps70
  go_wp2_with (go_at_call 83; with_reducible refine Calls.mono H.out ?_; rintro e w1 ⟨rfl, rfl⟩)
  go_loopw [3, 11] (fun s i wr => ∃ k : Nat, k ≤ n ∧ i = .int .i64 k ∧ s = .int .i64 (wrap64 (enX (fun i => al.getD i 0) F B k)) ∧ Hid (Below w.heap.size w wr)) (fun _ i _ => n - (intOf i).toNat)
  case atStart => exact ⟨0, Nat.zero_le _, rfl, by simp [enX, wrap64], Lib.hid (Below.refl _ _)⟩
  case round =>
    obtain ⟨k, hk, rfl, rfl, HB⟩ := hrel
    by_cases hlt : k < n
    · have hka : k < al.length := by rw [HAL.out]; exact hlt
      obtain ⟨f0, f1⟩ := HF.out k hlt
      have HST : Hid (wrap64 (enX (fun i => al.getD i 0) F B (k + 1)) = enP (enX (fun i => al.getD i 0) F B k) (al.getD k 0) (F k) (B k) 2) := Lib.hid (enX_step _ _ _ _).symm
      have h0 : wrap64 (enX (fun i => al.getD i 0) F B k) = enP (enX (fun i => al.getD i 0) F B k) (al.getD k 0) (F k) (B k) 0 := rfl
      rw [h0]
      clear h0
      generalize enX (fun i => al.getD i 0) F B k = E at *
      have HX : Hid (al.getD k 0 = al[k]) := Lib.hid (gI hka)
      have HX0 : Hid (∀ W, Below w.heap.size w W → W.cell? ⟨tb, 0, none⟩ = some (.slice aa n ac) ∧ ∃ b o, aa = some ⟨b, o, none⟩ ∧ W.cell? ⟨b, o + k, none⟩ = some (.int .i64 (al.getD k 0))) := Lib.hid (fun W hB => by
        refine ⟨keep hB HTU.out.areas, ?_⟩
        obtain ⟨b, o, he, hx⟩ := (HA.out.keep IntAt.stable hB).at (by intro e; rw [e] at hka; simp at hka)
        have := hx k hka
        unfold IntAt at this
        rw [Nat.mul_one, ← HX.out] at this
        exact ⟨b, o, he, this⟩)
      generalize al.getD k 0 = x at *
      generalize F k = ff at *
      generalize B k = bb at *
      replace f0 := keep HB.out f0
      replace f1 := keep HB.out f1
      have hfb := cell_lt f0
      have hkk : (k : Int) < (n : Int) := by omega
      clear HX hka
      have HB1 : Hid (Below w.heap.size w (wr.alloc (.cells #[.int .i64 ff, .int .i64 bb] 137))) := Lib.hid (bAlloc HB.out _)
      go_wp2_with fail
      generalize World.alloc wr _ = W1 at *
      go_loopw [3, 17] (fun s i wr => ∃ d : Nat, d ≤ 2 ∧ i = .int .i64 d ∧ s = .int .i64 (enP E x ff bb d) ∧ Hid (Below w.heap.size w wr)) (fun _ i _ => 2 - (intOf i).toNat)
      case atStart => exact ⟨0, by omega, rfl, rfl, HB1⟩
      case round =>
        obtain ⟨d, hd, rfl, rfl, HBD⟩ := hrel
        obtain ⟨c0', b, o, rfl, x0⟩ := HX0.out _ HBD.out
        have hxb := cell_lt x0
        have htb := cell_lt c0'
        have i0 : ∀ w, (Instr.index 137 (.agg #[.int .i64 ff, .int .i64 bb]) (.int .i64 0)).run Try.prog w = .ok (.int .i64 ff) w := fun _ => by kernel_rfl
        have i1 : ∀ w, (Instr.index 137 (.agg #[.int .i64 ff, .int .i64 bb]) (.int .i64 1)).run Try.prog w = .ok (.int .i64 bb) w := fun _ => by kernel_rfl
        obtain rfl | rfl | rfl : d = 0 ∨ d = 1 ∨ d = 2 := by omega
        · have HS1 : Hid (enP E x ff bb 1 = wrap64 (enP E x ff bb 0 + wrap64 (wrap64 (x * ff) * ff))) := Lib.hid rfl
          generalize enP E x ff bb 0 = S0 at *
          obtain ⟨y, hy⟩ : ∃ y, ff = y := ⟨_, rfl⟩
          subst hy
          obtain ⟨t1, ht1⟩ : ∃ t, wrap64 (x * ff) = t := ⟨_, rfl⟩
          have u1 : IntKind.i64.wrap (x * ff) = t1 := by rw [IntWalk.i64_left]; exact ht1
          obtain ⟨t2, ht2⟩ : ∃ t, wrap64 (t1 * ff) = t := ⟨_, rfl⟩
          have u2 : IntKind.i64.wrap (t1 * ff) = t2 := by rw [IntWalk.i64_left]; exact ht2
          obtain ⟨t3, ht3⟩ : ∃ t, wrap64 (S0 + t2) = t := ⟨_, rfl⟩
          have u3 : IntKind.i64.wrap (S0 + t2) = t3 := by rw [IntWalk.i64_left]; exact ht3
          rw [ht1, ht2, ht3] at HS1
          clear ht1 ht2 ht3
          go_wp2_with fail
          go_roundw
          case rel => exact ⟨1, by omega, by first | rfl | go_num, by rw [HS1.out], HBD⟩
          case measure => simp [intOf]
        · have HS1 : Hid (enP E x ff bb 2 = wrap64 (enP E x ff bb 1 + wrap64 (wrap64 (x * bb) * bb))) := Lib.hid rfl
          generalize enP E x ff bb 1 = S0 at *
          obtain ⟨t1, ht1⟩ : ∃ t, wrap64 (x * bb) = t := ⟨_, rfl⟩
          have u1 : IntKind.i64.wrap (x * bb) = t1 := by rw [IntWalk.i64_left]; exact ht1
          obtain ⟨t2, ht2⟩ : ∃ t, wrap64 (t1 * bb) = t := ⟨_, rfl⟩
          have u2 : IntKind.i64.wrap (t1 * bb) = t2 := by rw [IntWalk.i64_left]; exact ht2
          obtain ⟨t3, ht3⟩ : ∃ t, wrap64 (S0 + t2) = t := ⟨_, rfl⟩
          have u3 : IntKind.i64.wrap (S0 + t2) = t3 := by rw [IntWalk.i64_left]; exact ht3
          rw [ht1, ht2, ht3] at HS1
          clear ht1 ht2 ht3
          go_wp2_with fail
          go_roundw
          case rel => exact ⟨2, by omega, by first | rfl | go_num, by rw [HS1.out], HBD⟩
          case measure => simp [intOf]
        · generalize enP E x ff bb 2 = S0 at *
          go_wp2_with fail
          go_roundw
          case rel => exact ⟨k + 1, by omega, by go_num, by rw [HST.out], HBD⟩
          case measure => simp [intOf]; omega
    · obtain rfl : k = n := by omega
      go_wp2_with fail
      go_ret
      exact ⟨rfl, HB.out⟩
end Go.Proofs.Ytbmbcbknoflpgaa
