/- Contracts: scattering by the specification. -/
import Derived.Test.YtbmbcbknoflpgaaA5
import Derived.BigQuiet
set_option linter.unusedSimpArgs false
set_option linter.unusedVariables false
namespace Go.Proofs.Ytbmbcbknoflpgaa
open Go.RowKit

theorem sctL_eq (l m : List Int) (n : Nat) (hn : l.length = n) : sctL l m = (List.range n).map (sct (fun i => l.getD i 0) (fun i => m.getD i 0) n) := by subst hn; rfl
theorem range_map_snoc (F : Nat → Int) (k : Nat) : (List.range (k + 1)).map F = (List.range k).map F ++ [F k] := by rw [List.range_succ, List.map_append]; rfl

set_option maxRecDepth 10000 in
set_option maxHeartbeats 4000000 in
theorem refScatter_any (l m : List Int) (v u : Value) (w : World) (hv : SliceV w v 1 IntAt l) (hu : SliceV w u 1 IntAt m) (hl1 : 1 ≤ l.length) (hl2 : l.length ≤ 10) (hml : m.length = l.length) (ha : ∀ j, j < l.length → 1 ≤ l.getD j 0 ∧ l.getD j 0 ≤ 1000) :
    Calls Try.prog 22 #[v, u] w fun e w' => (∃ r, e = .returned r ∧ SliceV w' r 1 IntAt (sctL l m)) ∧ Below w.heap.size w w' := by
  have HV := Lib.hid hv
  have HU := Lib.hid hu
  have HA := Lib.hid ha
  have HSUM := Lib.hid (arS_in ha l.length (Nat.le_refl _))
  have HL1 := Lib.hid hl1
  have HL2 := Lib.hid hl2
  have HML := Lib.hid hml
  have HST : Hid (∀ k, k ≤ l.length → (k : Int) ≤ arS (fun i => l.getD i 0) k ∧ arS (fun i => l.getD i 0) k ≤ 1000 * (k : Int)) := Lib.hid (arS_in ha)
  obtain ⟨a, ca, rfl, -⟩ := hv
  obtain ⟨b, cb, rfl, -⟩ := hu
  clear ha hml
  obtain ⟨i3, hi, hz0, hz1, hz2⟩ := info_parts infoI
  have HI := Lib.hid hi
  clear hi
  go_enter Try.func22, Try.ntmps22
  go_wp2_with fail
  go_loopw [5, 6, 7] (fun t s i wr => ∃ k : Nat, k ≤ l.length ∧ i = .int .i64 k ∧ s = .int .i64 (arS (fun i => l.getD i 0) k) ∧ t = .int .i64 (wvS (fun i => l.getD i 0) (fun i => m.getD i 0) k) ∧ Hid (Below w.heap.size w wr)) (fun _ _ i _ => l.length - (intOf i).toNat)
  case atStart => exact ⟨0, Nat.zero_le _, rfl, rfl, rfl, Lib.hid (Below.refl _ _)⟩
  case round =>
    obtain ⟨k, hk, rfl, rfl, rfl, HB0⟩ := hrel
    by_cases hlt : k < l.length
    · have hlm : k < m.length := by rw [HML.out]; exact hlt
      obtain ⟨b1, o1, rfl, hf⟩ := (HV.out.keep IntAt.stable HB0.out).at (by intro h; simp [h] at hlt)
      have k0 := hf k hlt
      unfold IntAt at k0
      rw [Nat.mul_one] at k0
      have hkb := cell_lt k0
      obtain ⟨b2, o2, rfl, hf2⟩ := (HU.out.keep IntAt.stable HB0.out).at (by intro h; simp [h] at hlm)
      have c0 := hf2 k hlm
      unfold IntAt at c0
      rw [Nat.mul_one] at c0
      have hcb := cell_lt c0
      have hkk : (k : Int) < (l.length : Int) := by omega
      have hkm : (k : Int) < (m.length : Int) := by omega
      have ha := HA.out k hlt
      have hs := HST.out k hk
      have HE1 : Hid (arS (fun i => l.getD i 0) (k + 1) = arS (fun i => l.getD i 0) k + l.getD k 0) := Lib.hid rfl
      have HE2 : Hid (wvS (fun i => l.getD i 0) (fun i => m.getD i 0) (k + 1) = wrap64 (wvS (fun i => l.getD i 0) (fun i => m.getD i 0) k + wrap64 (2 * l.getD k 0 * m.getD k 0))) := Lib.hid rfl
      have hl2 := HL2.out
      rw [gI hlt] at HE1 HE2 ha
      rw [gI hlm] at HE2
      clear hf hf2
      generalize l[k] = x at *
      generalize m[k] = y at *
      generalize arS (fun i => l.getD i 0) k = s at *
      generalize wvS (fun i => l.getD i 0) (fun i => m.getD i 0) k = t at *
      have u1 : IntKind.i64.wrap (s + x) = s + x := IntWalk.i64_in _ (by omega)
      have u2 : IntKind.i64.wrap (2 * x) = 2 * x := IntWalk.i64_in _ (by omega)
      obtain ⟨p, hp⟩ : ∃ p, wrap64 (2 * x * y) = p := ⟨_, rfl⟩
      have u3 : IntKind.i64.wrap (2 * x * y) = p := by rw [IntWalk.i64_left]; exact hp
      obtain ⟨q, hq⟩ : ∃ q, wrap64 (t + p) = q := ⟨_, rfl⟩
      have u4 : IntKind.i64.wrap (t + p) = q := by rw [IntWalk.i64_left]; exact hq
      have HE3 : Hid (wvS (fun i => l.getD i 0) (fun i => m.getD i 0) (k + 1) = q) := Lib.hid (by rw [HE2.out, hp, hq])
      clear hp hq
      go_wp2_with fail
      go_quiet (fail)
      go_wp2_with fail
      go_roundw
      case rel => exact ⟨k + 1, by omega, by go_num, by rw [HE1.out], by rw [HE3.out], Lib.hid (bDrew HB0.out _)⟩
      case measure => simp [intOf]; omega
    · obtain rfl : k = l.length := by omega
      have hs := HSUM.out
      have HSC : Hid (∀ j, sct (fun i => l.getD i 0) (fun i => m.getD i 0) l.length j = (wrap64 (wvS (fun i => l.getD i 0) (fun i => m.getD i 0) l.length - wrap64 (arS (fun i => l.getD i 0) l.length * m.getD j 0))).tdiv (arS (fun i => l.getD i 0) l.length)) := Lib.hid (fun _ => rfl)
      generalize arS (fun i => l.getD i 0) l.length = s at *
      generalize wvS (fun i => l.getD i 0) (fun i => m.getD i 0) l.length = t at *
      have HS := Lib.hid hs
      clear hs
      go_wp2_with fail
      go_loopw [8, 9] (fun o i wr => ∃ k : Nat, k ≤ l.length ∧ i = .int .i64 k ∧ Hid (wr.ownsRow w.heap.size 3 1 o k (intV ((List.range k).map (sct (fun i => l.getD i 0) (fun i => m.getD i 0) l.length)))) ∧ Hid (Below w.heap.size w wr)) (fun _ i _ => l.length - (intOf i).toNat)
      case atStart => exact ⟨0, Nat.zero_le _, rfl, Lib.hid (World.ownsRow_nil _ _ _ _), HB0⟩
      case round =>
        obtain ⟨k, hk, rfl, HR, HB⟩ := hrel
        by_cases hlt : k < l.length
        · have hlm : k < m.length := by rw [HML.out]; exact hlt
          obtain ⟨b2, o2, rfl, hf2⟩ := (HU.out.keep IntAt.stable HB.out).at (by intro h; simp [h] at hlm)
          have c0 := hf2 k hlm
          unfold IntAt at c0
          rw [Nat.mul_one] at c0
          have hcb := cell_lt c0
          have hkk : (k : Int) < (l.length : Int) := by omega
          have hkm : (k : Int) < (m.length : Int) := by omega
          have hs := HS.out
          have hsc := HSC.out k
          rw [gI hlm] at hsc
          have hsz := HB.out.size
          clear hf2
          generalize m[k] = y at *
          obtain ⟨p, hp⟩ : ∃ p, wrap64 (s * y) = p := ⟨_, rfl⟩
          have u3 : IntKind.i64.wrap (s * y) = p := by rw [IntWalk.i64_left]; exact hp
          obtain ⟨q, hq⟩ : ∃ q, wrap64 (t - p) = q := ⟨_, rfl⟩
          have u4 : IntKind.i64.wrap (t - p) = q := by rw [IntWalk.i64_left]; exact hq
          rw [hp, hq] at hsc
          have hqi := w64_in (t - p)
          rw [hq] at hqi
          have HTW := Lib.hid (fun W => toward64_any q s W hqi (by have := HL1.out; omega))
          obtain ⟨r, hrr⟩ : ∃ r, q.tdiv s = r := ⟨_, rfl⟩
          rw [hrr] at HTW hsc
          have HTG : Hid ((List.range (k + 1)).map (sct (fun i => l.getD i 0) (fun i => m.getD i 0) l.length) = (List.range k).map (sct (fun i => l.getD i 0) (fun i => m.getD i 0) l.length) ++ [r]) := Lib.hid (by rw [range_map_snoc, hsc])
          clear hp hq hqi hsc hrr
          have hrow := HR.out
          obtain ⟨ad, cap, rfl⟩ := ownsRow_slice hrow
          clear hrow
          have hl2 := HL2.out
          go_wp2_with (first
            | (go_at_call 59; with_reducible refine Calls.mono (HTW.out _) ?_; rintro e w1 ⟨rfl, rfl⟩)
            | (at_builtin; refine wpList_append_lies _ rfl _ _ 22 rfl w.heap.size 3 i3 _ 1 8 Try.underlying22 HI.out hz0 hz1 hz2 rfl (by decide) (.slice ad k cap) k _ (by rfl) (HR.out.alloc _) ⟨wr.heap.size, 0, none⟩ 1 1 [.int .i64 r] (by rfl) (by rfl) (one_new _ _ _) (by simp [Value.oneCell']) (by omega) (by unfold maxLen; omega) (by omega) (by simp; omega) (wr.heap.size + 1) (by simp) ?_; intro g6 cap6 w6 hown hgrow hat6 hlt6))
          have HR2 : Hid (w6.ownsRow w.heap.size 3 1 (.slice (some ⟨g6, 0, none⟩) (k + 1) cap6) (k + 1) (intV ((List.range (k + 1)).map (sct (fun i => l.getD i 0) (fun i => m.getD i 0) l.length)))) := Lib.hid (by rw [HTG.out, intV_append]; exact hown)
          have HB2 : Hid (Below w.heap.size w w6) := Lib.hid ((bAlloc HB.out _).trans (below_grown hgrow (HR.out.alloc _) (by simp; omega)))
          go_roundw
          case rel => exact ⟨k + 1, by omega, by go_num, HR2, HB2⟩
          case measure => simp [intOf]; omega
        · obtain rfl : k = l.length := by omega
          go_wp2_with fail
          go_ret
          exact ⟨⟨_, rfl, own_slice (base := w.heap.size) (by rw [sctL_len]; exact HR.out) (by rw [sctL_len]; have := HL2.out; omega)⟩, HB.out⟩
end Go.Proofs.Ytbmbcbknoflpgaa
