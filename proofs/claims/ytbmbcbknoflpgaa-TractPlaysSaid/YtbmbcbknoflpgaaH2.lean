/- Contracts: Concat. -/
import Derived.Test.YtbmbcbknoflpgaaH1
set_option linter.unusedSimpArgs false
set_option linter.unusedVariables false
namespace Go.Proofs.Ytbmbcbknoflpgaa
open Go.RowKit

/-- The first k lists, one after the other. -/
def cat (L : List (List Int)) (k : Nat) : List Int := (L.take k).flatten
theorem cat_snoc {L : List (List Int)} {k : Nat} (h : k < L.length) : cat L (k + 1) = cat L k ++ L[k] := by
  unfold cat
  rw [take_succ L k h, List.flatten_append]
  simp only [List.flatten_cons, List.flatten_nil, List.append_nil]
theorem cat_le (L : List (List Int)) (k : Nat) : (cat L k).length ≤ (cat L L.length).length := by
  have : cat L L.length = cat L k ++ (L.drop k).flatten := by unfold cat; rw [← List.flatten_append, List.take_append_drop, List.take_length]
  rw [this, List.length_append]; omega
set_option maxRecDepth 10000 in
set_option maxHeartbeats 4000000 in
theorem Concat_any (L : List (List Int)) (v : Value) (w : World) (hv : SliceV w v 1 WaveAt L) (h1 : 1 ≤ (cat L L.length).length) (h2 : (cat L L.length).length ≤ 1000) :
    Calls Try.prog 88 #[v] w fun e w' => (∃ r, e = .returned r ∧ w'.ownsRow w.heap.size 3 1 r (cat L L.length).length (intV (cat L L.length))) ∧ Below w.heap.size w w' := by
  have HV := Lib.hid hv
  have HL1 := Lib.hid h1
  have HL2 := Lib.hid h2
  have HG := Lib.hid (fun W => Grow0_any (cat L L.length).length h1 h2 W)
  have HLE := Lib.hid (cat_le L)
  obtain ⟨a, c, rfl, ⟨hl, -⟩, -⟩ := hv
  unfold most at hl
  clear h1 h2
  go_enter Try.func88, Try.ntmps88
  go_wp2_with fail
  go_loopw [3, 11] (fun s i wr => ∃ k : Nat, k ≤ L.length ∧ i = .int .i64 k ∧ s = .int .i64 (cat L k).length ∧ w = wr) (fun _ i _ => L.length - (intOf i).toNat)
  case atStart => exact ⟨0, Nat.zero_le _, rfl, rfl, rfl⟩
  case round =>
    obtain ⟨k, hk, rfl, rfl, rfl⟩ := hrel
    by_cases hlt : k < L.length
    · obtain ⟨b, o, rfl, hf⟩ := HV.out.at (by intro h; simp [h] at hlt)
      obtain ⟨u, k0, hu⟩ := hf k hlt
      rw [Nat.mul_one] at k0
      obtain ⟨a2, c2, rfl, -, -⟩ := hu
      have hkb := cell_lt k0
      have hkk : (k : Int) < (L.length : Int) := by omega
      have HT : Hid ((cat L (k + 1)).length = (cat L k).length + L[k].length) := Lib.hid (by rw [cat_snoc hlt, List.length_append])
      have hle := HLE.out (k + 1)
      rw [HT.out] at hle
      have h2 := HL2.out
      clear hf
      generalize L[k] = x at *
      generalize (cat L k).length = s at *
      generalize x.length = m at *
      have u1 : IntKind.i64.wrap ((s : Int) + m) = (s : Int) + m := IntWalk.i64_in _ (by omega)
      have hneg : ¬ ((s : Int) + m < 0) := by omega
      clear hle h2
      go_wp2_with fail
      go_roundw
      case rel => exact ⟨k + 1, by omega, by go_num, by rw [HT.out]; simp, by first | rfl | trivial⟩
      case measure => simp [intOf]; omega
    · obtain rfl : k = L.length := by omega
      have hneg : ¬ (((cat L L.length).length : Int) < 0) := by omega
      go_wp2_with (go_at_call 106; with_reducible refine Calls.mono (HG.out _) ?_; rintro e w1 ⟨⟨r, rfl, ho⟩, hb⟩; have HO := Lib.hid ho; have HB0 := Lib.hid hb; clear ho hb)
      go_loopw [6, 27] (fun t i wr => ∃ k : Nat, k ≤ L.length ∧ i = .int .i64 k ∧ Hid (wr.ownsRow w.heap.size 3 1 t (cat L k).length (intV (cat L k))) ∧ Hid (Below w.heap.size w wr)) (fun _ i _ => L.length - (intOf i).toNat)
      case atStart => exact ⟨0, Nat.zero_le _, rfl, HO, HB0⟩
      case round =>
        obtain ⟨k, hk, rfl, HR, HB⟩ := hrel
        by_cases hlt : k < L.length
        · obtain ⟨b, o, rfl, hf⟩ := (HV.out.keep WaveAt.stable HB.out).at (by intro h; simp [h] at hlt)
          obtain ⟨u, k0, hu⟩ := hf k hlt
          rw [Nat.mul_one] at k0
          have HS : Hid (∀ ad n c, u = .slice ad n c → SrcI wr ad L[k]) := Lib.hid (fun ad n c h => by rw [h] at hu; exact src_of hu)
          obtain ⟨a2, c2, rfl, -, -⟩ := hu
          have HS2 := Lib.hid (HS.out _ _ _ rfl)
          have hkb := cell_lt k0
          have hkk : (k : Int) < (L.length : Int) := by omega
          have HT : Hid (cat L (k + 1) = cat L k ++ L[k]) := Lib.hid (cat_snoc hlt)
          have HL3 : Hid ((cat L k).length + L[k].length ≤ 1000) := Lib.hid (by have := HLE.out (k + 1); rw [HT.out, List.length_append] at this; have := HL2.out; omega)
          clear hf HS
          generalize L[k] = x at *
          obtain ⟨s, hs⟩ : ∃ s, cat L k = s := ⟨_, rfl⟩
          rw [hs] at HT HL3 HR
          clear hs
          go_wp2_with (at_builtin; refine wpList_append_ints rfl _ _ rfl w.heap.size _ s.length s rfl HR.out _ x.length _ x rfl rfl HS2.out (by have := HL3.out; omega) HB.out.size ?_; intro v3 w3 ho3 hb3; have HO3 := Lib.hid ho3; have HB3 := Lib.hid (HB.out.trans hb3); clear ho3 hb3)
          go_roundw
          case rel => exact ⟨k + 1, by omega, by go_num, by rw [HT.out, List.length_append]; exact HO3, HB3⟩
          case measure => simp [intOf]; omega
        · obtain rfl : k = L.length := by omega
          go_wp2_with fail
          go_ret
          exact ⟨⟨_, rfl, HR.out⟩, HB.out⟩
end Go.Proofs.Ytbmbcbknoflpgaa
