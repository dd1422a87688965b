/- Contracts: the best lag. -/
import Derived.Test.YtbeeddenidfenaaB6
set_option linter.unusedSimpArgs false
set_option linter.unusedVariables false
namespace Go.Proofs.Ytbeeddenidfenaa
open Go.RowKit

/-- The first place of the least value up to a number. -/
def ag (f : Nat → Int) : Nat → Nat
  | 0 => 0
  | k + 1 => if f (k + 1) < f (ag f k) then k + 1 else ag f k
theorem ag_le (f : Nat → Int) : ∀ k, ag f k ≤ k
  | 0 => Nat.le_refl _
  | k + 1 => by rw [ag]; split; exact Nat.le_refl _; have := ag_le f k; omega
theorem ag_min (f : Nat → Int) : ∀ k j, j ≤ k → f (ag f k) ≤ f j
  | 0, j, h => by
    obtain rfl : j = 0 := by omega
    exact Int.le_refl _
  | k + 1, j, h => by
    rw [ag]
    split
    · rename_i hlt
      by_cases hj : j = k + 1
      · subst hj; exact Int.le_refl _
      · have := ag_min f k j (by omega); omega
    · rename_i hge
      by_cases hj : j = k + 1
      · subst hj; exact Int.not_lt.1 hge
      · exact ag_min f k j (by omega)
/-- What is known after the lags before k. -/
def Kn (f : Nat → Int) (k bt : Nat) (ls : Int) : Prop := (k = 0 → bt = 0 ∧ ls = 9223372036854775807) ∧ (0 < k → bt = ag f (k - 1) ∧ ls = f bt)
theorem kn_less {f : Nat → Int} {k bt : Nat} {ls : Int} (h : Kn f k bt ls) (hl : f k < ls) : Kn f (k + 1) k (f k) := by
  refine ⟨fun h0 => by omega, fun _ => ⟨?_, rfl⟩⟩
  rw [Nat.add_sub_cancel]
  cases k with
  | zero => rfl
  | succ k =>
    obtain ⟨h1, h2⟩ := h.2 (by omega)
    rw [Nat.add_sub_cancel] at h1
    rw [ag, ← h1, if_pos (by omega)]
theorem kn_more {f : Nat → Int} {k bt : Nat} {ls : Int} (h : Kn f k bt ls) (hl : ls ≤ f k) (hm : f k < 9223372036854775807) : Kn f (k + 1) bt ls := by
  refine ⟨fun h0 => by omega, fun _ => ?_⟩
  rw [Nat.add_sub_cancel]
  cases k with
  | zero => have := (h.1 rfl).2; omega
  | succ k =>
    obtain ⟨h1, h2⟩ := h.2 (by omega)
    rw [Nat.add_sub_cancel] at h1
    refine ⟨?_, h2⟩
    rw [ag, ← h1, if_neg (by omega)]
theorem sqs_append (l m : List Int) : sqs (l ++ m) = sqs l + sqs m := by simp [sqs]
theorem sqs_take_le {l : List Int} (h : Md l) (i : Nat) : sqs (l.take i) ≤ sqs l := by
  have e : sqs l = sqs (l.take i) + sqs (l.drop i) := by rw [← sqs_append, List.take_append_drop]
  have := sqs_md (l := l.drop i) (fun x hx => h x (List.mem_of_mem_drop hx))
  omega
set_option maxRecDepth 10000 in
set_option maxHeartbeats 4000000 in
theorem bestLag_any (x y : List Int) (M : Nat) (v u : Value) (w : World) (hv : SliceV w v 1 IntAt x) (hu : SliceV w u 1 IntAt y) (hx : Sm x) (hy : Sm y) (h1 : 1 ≤ x.length) (h2 : M + x.length ≤ y.length) (hn : x.length ≤ 1000000) (hm : y.length ≤ 1000000) :
    Calls Try.prog 65 #[v, u, .int .i64 M] w fun e w' => e = .returned (.tuple #[.int .i64 (ag (fun k => mism x (partB y x.length k)) M : Nat), .int .i64 (mism x (partB y x.length (ag (fun k => mism x (partB y x.length k)) M)))]) ∧ w = w' := by
  have HV := Lib.hid hv
  have HU := Lib.hid hu
  have HX := Lib.hid hx
  have HY := Lib.hid hy
  obtain ⟨xb, xo, c, rfl, HXF⟩ : ∃ xb xo c, v = .slice (some ⟨xb, xo, none⟩) x.length c ∧ Hid (∀ i (h : i < x.length), IntAt w xb (xo + i * 1) x[i]) := by
    obtain ⟨a, c, rfl, -, h⟩ := hv
    rcases h with h | ⟨b, o, rfl, hf⟩
    · rw [h] at h1; simp at h1
    · exact ⟨b, o, c, rfl, Lib.hid hf⟩
  obtain ⟨yb, yo, d, rfl, hdl, HYF⟩ : ∃ yb yo d, u = .slice (some ⟨yb, yo, none⟩) y.length d ∧ y.length ≤ d ∧ Hid (∀ i (h : i < y.length), IntAt w yb (yo + i * 1) y[i]) := by
    obtain ⟨a, c, rfl, hl, h⟩ := hu
    rcases h with h | ⟨b, o, rfl, hf⟩
    · exfalso
      have h0 : y.length = 0 := by rw [h]; rfl
      omega
    · exact ⟨b, o, c, rfl, hl.2, Lib.hid hf⟩
  clear hx hy
  obtain ⟨f, hf⟩ : ∃ f : Nat → Int, f = fun k => mism x (partB y x.length k) := ⟨_, rfl⟩
  rw [← hf, show mism x (partB y x.length (ag f M)) = f (ag f M) by rw [hf]]
  have HFD : Hid (∀ k, f k = sqs (diffs x (partB y x.length k))) := Lib.hid (fun k => by rw [hf]; rfl)
  clear hf
  have HMD := Lib.hid (fun k => diffs_md HX.out (HY.out.partB x.length k))
  obtain ⟨n, hne⟩ : ∃ n, n = x.length := ⟨_, rfl⟩
  have HFB : Hid (∀ k, k ≤ M → 0 ≤ f k ∧ f k ≤ 4294836225000000) := Lib.hid (fun k hk => by
    have := sqs_md (HMD.out k)
    rw [diffs_len (by rw [partB_len (by omega)]), ← HFD.out k] at this
    omega)
  have q0 : IntKind.i64.wrap ((M : Int) + 1) = (M : Int) + 1 := IntWalk.i64_in _ (by omega)
  rw [← hne] at h1 h2 hn ⊢
  have HNE := Lib.hid hne
  clear hne
  obtain ⟨m, hme⟩ : ∃ m, m = y.length := ⟨_, rfl⟩
  rw [← hme] at h2 hm hdl ⊢
  have HME := Lib.hid hme
  clear hme
  go_enter Try.func65, Try.ntmps65
  go_wp2_with fail
  (try go_step3)
  go_wp2_with fail
  (try go_step3)
  go_wp2_with fail
  go_loopw [8, 9, 17] (fun b l i wr => ∃ (k bt : Nat) (ls : Int), k ≤ M + 1 ∧ i = .int .i64 k ∧ b = .int .i64 bt ∧ l = .int .i64 ls ∧ 0 ≤ ls ∧ ls ≤ 9223372036854775807 ∧ Hid (Kn f k bt ls) ∧ w = wr) (fun _ _ i _ => M + 1 - (intOf i).toNat)
  case atStart => exact ⟨0, 0, 9223372036854775807, by omega, rfl, rfl, rfl, by omega, by omega, Lib.hid ⟨fun _ => ⟨rfl, rfl⟩, fun h => by omega⟩, rfl⟩
  case round =>
    obtain ⟨k, bt, ls, hk, rfl, rfl, rfl, hl0, hl1, HKN, rfl⟩ := hrel
    by_cases hlt : k < M + 1
    · have i1 : (k : Int) < (M : Int) + 1 := by omega
      have e1 : IntKind.i64.wrap ((k : Int) + n) = (k : Int) + n := IntWalk.i64_in _ (by omega)
      have i2 : (k : Int) ≤ (k : Int) + (n : Int) := by omega
      have i3 : (k : Int) + (n : Int) ≤ (d : Int) := by omega
      have i4 : ¬ d = k := by omega
      have i5 : ((k : Int) + (n : Int)).toNat = k + n := by omega
      go_wp2_with fail
      have HKM : Hid (k ≤ M) := Lib.hid (by omega)
      have HPL : Hid ((partB y n k).length = n) := Lib.hid (partB_len (by rw [← HME.out]; omega))
      have HDL : Hid ((diffs x (partB y n k)).length = n) := Lib.hid (by rw [diffs_len (by rw [HPL.out, HNE.out]), ← HNE.out])
      have HDG : Hid (∀ (i : Nat) (hi : i < n), ∃ h : i < (diffs x (partB y n k)).length, (diffs x (partB y n k))[i] = x[i]'(by rw [← HNE.out]; exact hi) - y[k + i]'(by rw [← HME.out]; omega)) := Lib.hid (fun i hi => ⟨by rw [HDL.out]; exact hi, by rw [diffs_get]; simp [partB]⟩)
      have HFK : Hid (f k = sqs (diffs x (partB y n k))) := Lib.hid (by rw [HNE.out]; exact HFD.out k)
      have HMK : Hid (Md (diffs x (partB y n k))) := Lib.hid (by rw [HNE.out]; exact HMD.out k)
      go_loopw [11, 28] (fun s j wr => ∃ i : Nat, i ≤ n ∧ j = .int .i64 i ∧ s = .int .i64 (sqs ((diffs x (partB y n k)).take i)) ∧ Hid (i = 0 ∨ sqs ((diffs x (partB y n k)).take i) < ls) ∧ w = wr) (fun _ j _ => n - (intOf j).toNat)
      case atStart => exact ⟨0, Nat.zero_le _, rfl, by simp [sqs], Lib.hid (.inl rfl), rfl⟩
      case round =>
        obtain ⟨i, hi, rfl, rfl, HLS, rfl⟩ := hrel
        by_cases hin : i < n
        · have p0 := HXF.out i (by rw [← HNE.out]; exact hin)
          have q0 := HYF.out (k + i) (by rw [← HME.out]; omega)
          unfold IntAt at p0 q0
          rw [Nat.mul_one] at p0 q0
          obtain ⟨hdl2, hdg⟩ := HDG.out i hin
          have hp := HX.out _ (List.getElem_mem (show i < x.length by rw [← HNE.out]; exact hin))
          have hq := HY.out _ (List.getElem_mem (show k + i < y.length by rw [← HME.out]; omega))
          have HT : Hid (sqs ((diffs x (partB y n k)).take (i + 1)) = sqs ((diffs x (partB y n k)).take i) + (diffs x (partB y n k))[i] * (diffs x (partB y n k))[i]) := Lib.hid (by rw [take_succ _ i hdl2, sqs_snoc])
          rw [hdg] at HT
          have hsm := sqs_md (HMK.out.take i)
          rw [List.length_take_of_le (by rw [HDL.out]; exact hi)] at hsm
          obtain ⟨p, hpe⟩ : ∃ p, p = x[i]'(by rw [← HNE.out]; exact hin) := ⟨_, rfl⟩
          obtain ⟨q, hqe⟩ : ∃ q, q = y[k + i]'(by rw [← HME.out]; omega) := ⟨_, rfl⟩
          rw [← hpe] at p0 hp HT
          rw [← hqe] at q0 hq HT
          have HTL : Hid (sqs ((diffs x (partB y n k)).take (i + 1)) ≤ f k) := Lib.hid (by rw [HFK.out]; exact sqs_take_le HMK.out _)
          clear hpe hqe hdg hdl2
          obtain ⟨s, hse⟩ : ∃ s, s = sqs ((diffs x (partB y n k)).take i) := ⟨_, rfl⟩
          rw [← hse] at hsm HT ⊢
          clear hse
          have hpb := cell_lt p0
          have hqb := cell_lt q0
          rw [show yo + (k + i) = yo + k + i by omega] at q0
          have hdd := sq_in (x := p - q) (B := 65535) (by omega) (by omega)
          have e3 : IntKind.i64.wrap (p - q) = p - q := IntWalk.i64_in _ (by omega)
          have e4 : IntKind.i64.wrap ((p - q) * (p - q)) = (p - q) * (p - q) := IntWalk.i64_in _ (by omega)
          have e5 : wrap64 ((p - q) * (p - q)) = (p - q) * (p - q) := IntWalk.wrap64_in _ (by omega)
          by_cases hge : ls ≤ s + (p - q) * (p - q)
          · go_wp2_with fail
            go_roundw
            case rel =>
              refine ⟨k + 1, bt, ls, by omega, by go_num, rfl, rfl, hl0, hl1, Lib.hid (kn_more HKN.out ?_ ?_), by first | rfl | trivial⟩
              · have := HTL.out
                rw [HT.out] at this
                omega
              · have := (HFB.out k HKM.out).2; omega
            case measure => simp [intOf]; omega
          · go_wp2_with fail
            go_roundw
            case rel => exact ⟨i + 1, by omega, by go_num, by rw [HT.out], Lib.hid (.inr (by rw [HT.out]; omega)), by first | rfl | trivial⟩
            case measure => simp [intOf]; omega
        · obtain hie : i = n := by omega
          have HFE : Hid (sqs ((diffs x (partB y n k)).take i) = f k) := Lib.hid (by rw [HFK.out, List.take_of_length_le (by rw [HDL.out, hie]; exact Nat.le_refl _)])
          have HLT : Hid (f k < ls) := Lib.hid (by have := HLS.out.resolve_left (by omega); rw [HFE.out] at this; exact this)
          rw [HFE.out]
          have HFK2 := Lib.hid (HFB.out k HKM.out)
          have j1 : ¬ (i : Int) < (n : Int) := by omega
          clear hie
          go_wp2_with fail
          go_roundw
          case rel => exact ⟨k + 1, k, f k, by omega, by go_num, rfl, rfl, HFK2.out.1, by have := HFK2.out.2; omega, Lib.hid (kn_less HKN.out HLT.out), by first | rfl | trivial⟩
          case measure => simp [intOf]; omega
    · obtain hke : k = M + 1 := by omega
      have i1 : ¬ (k : Int) < (M : Int) + 1 := by omega
      have HRS : Hid (bt = ag f M ∧ ls = f bt) := Lib.hid (by
        have := HKN.out.2 (by omega)
        rw [hke, Nat.add_sub_cancel] at this
        exact this)
      clear hke
      go_wp2_with fail
      (try rw [Exit.noGoto_ret])
      go_ret2
      exact ⟨by rw [HRS.out.2, HRS.out.1]; rfl, rfl⟩
end Go.Proofs.Ytbeeddenidfenaa
