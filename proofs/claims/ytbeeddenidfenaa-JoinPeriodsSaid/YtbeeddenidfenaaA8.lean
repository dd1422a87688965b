/- Contracts: steps, roots, loudness. -/
import Derived.Test.YtbeeddenidfenaaA7
import Derived.Deep.RegionHeld3
set_option linter.unusedSimpArgs false
set_option linter.unusedVariables false
namespace Go.Proofs.Ytbeeddenidfenaa
open Go.RowKit

/-- The greatest absolute value. -/
def gab (l : List Int) : Int := l.foldl (fun m d => max (max m d) (-d)) 0
theorem gab_snoc (l : List Int) (d : Int) : gab (l ++ [d]) = max (max (gab l) d) (-d) := by simp [gab, List.foldl_append]
theorem gab_in {l : List Int} {B : Int} (hB : 0 ≤ B) (h : ∀ x ∈ l, -B ≤ x ∧ x ≤ B) : 0 ≤ gab l ∧ gab l ≤ B := by
  have key : ∀ (l : List Int) (m : Int), (∀ x ∈ l, -B ≤ x ∧ x ≤ B) → 0 ≤ m → m ≤ B → 0 ≤ l.foldl (fun m d => max (max m d) (-d)) m ∧ l.foldl (fun m d => max (max m d) (-d)) m ≤ B := by
    intro l
    induction l with
    | nil => intro m _ h0 h1; exact ⟨h0, h1⟩
    | cons x l ih =>
      intro m hx h0 h1
      have := hx x (List.mem_cons_self ..)
      exact ih (max (max m x) (-x)) (fun y hy => hx y (List.mem_cons_of_mem _ hy)) (by omega) (by omega)
  exact key l 0 h (by omega) hB
/-- The differences of neighbors. -/
def nbs (l : List Int) : List Int := diffs (l.drop 1) l
def stp (l : List Int) : Int := gab (nbs l)
theorem nbs_len (l : List Int) : (nbs l).length = l.length - 1 := by unfold nbs diffs; rw [List.length_zipWith, List.length_drop]; omega
theorem nbs_get {l : List Int} {i : Nat} (hi : i < (nbs l).length) : (nbs l)[i] = l[i + 1]'(by rw [nbs_len] at hi; omega) - l[i]'(by rw [nbs_len] at hi; omega) := by
  simp [nbs, diffs]
theorem nbs_eq (l : List Int) : diffs (l.drop 1) (l.take (l.length - 1)) = nbs l := by
  apply List.ext_getElem
  · rw [diffs_len (by simp), nbs_len]; simp
  · intro i h1 h2
    simp [diffs, nbs]
theorem nbs_md {l : List Int} (h : Sm l) : Md (nbs l) := diffs_md (h.drop 1) h
set_option maxHeartbeats 4000000 in
set_option maxRecDepth 10000 in
theorem step_any (l : List Int) (v : Value) (w : World) (hv : SliceV w v 1 IntAt l) (hs : Sm l) (hn : l.length ≤ 1000000) :
    Calls Try.prog 60 #[v] w fun e w' => e = .returned (.int .i64 (stp l)) ∧ Below w.heap.size w w' := by
  have HV := Lib.hid hv
  obtain ⟨a, c, rfl, hl, -⟩ := hv
  unfold most at hl
  have hlc := hl.2
  by_cases h0 : l.length = 0
  · obtain rfl : l = [] := List.eq_nil_of_length_eq_zero h0
    go_enter Try.func60, Try.ntmps60
    go_wp2_with fail
    go_ret
    exact ⟨rfl, Below.refl _ _⟩
  · obtain ⟨b, o, rfl, -⟩ := HV.out.at (by intro h; simp [h] at h0)
    have h85 : ∀ W, Below w.heap.size w W → Calls Try.prog 85 #[.slice (if c = 1 then some ⟨b, o, none⟩ else some ⟨b, o + 1, none⟩) (l.length - 1) (c - 1), .slice (some ⟨b, o, none⟩) (l.length - 1) c] W fun e w' => (∃ g, e = .returned (.slice (some ⟨g, 0, none⟩) (l.length - 1) (l.length - 1)) ∧ W.heap.size ≤ g ∧ SliceV w' (.slice (some ⟨g, 0, none⟩) (l.length - 1) (l.length - 1)) 1 IntAt (nbs l)) ∧ Below W.heap.size W w' := by
      intro W hB
      have hk := HV.out.keep IntAt.stable hB
      have h1 := hk.from 1 (by omega)
      have h2 := hk.part 0 (l.length - 1) c (by omega) (by omega)
      rw [List.drop_zero] at h2
      have := differences_any (l.drop 1) (l.take (l.length - 1)) _ _ W h1 h2 (by simp) (hs.drop 1) (hs.take _) (by simp; omega)
      rw [nbs_eq, List.length_drop] at this
      exact this
    have hq : IntKind.i64.wrap ((l.length : Int) - 1) = ((l.length - 1 : Nat) : Int) := by rw [show (l.length : Int) - 1 = ((l.length - 1 : Nat) : Int) by omega]; exact IntWalk.i64_in _ (by omega)
    have H85 := Lib.hid h85
    have HMD := Lib.hid (nbs_md hs)
    have HNL := Lib.hid (nbs_len l)
    clear h85 hs
    obtain ⟨n, hn1⟩ : ∃ n, l.length = n + 1 := ⟨l.length - 1, by omega⟩
    rw [hn1, Nat.add_sub_cancel] at H85 HNL
    rw [hn1] at hl hlc hn h0 ⊢
    have HL := Lib.hid hn1
    have hq : IntKind.i64.wrap (((n + 1 : Nat) : Int) - 1) = (n : Int) := by rw [show (((n + 1 : Nat) : Int)) - 1 = (n : Int) by omega]; exact IntWalk.i64_in _ (by omega)
    have i1 : (1 : Int) ≤ ((n + 1 : Nat) : Int) := by omega
    have i2 : (n : Int) ≤ (c : Int) := by omega
    have i3 : (1 : Int) ≤ (n : Int) + 1 := by omega
    have i4 : (n : Int) + 1 ≤ (c : Int) := by omega
    have i5 : (0 : Int) ≤ (n : Int) := by omega
    have i6 : 1 ≤ n + 1 := by omega
    have i7 : n ≤ c := by omega
    have i8 : n + 1 ≤ c := by omega
    have hq2 : IntKind.i64.wrap ((n : Int) + 1 - 1) = (n : Int) := by rw [show ((n : Int)) + 1 - 1 = (n : Int) by omega]; exact IntWalk.i64_in _ (by omega)
    have hq3 : IntKind.i64.wrap (n : Int) = (n : Int) := IntWalk.i64_in _ (by omega)
    clear hn1 hl hlc h0
    by_cases hc : c = 1
    · rw [if_pos hc] at H85
      obtain rfl : n = 0 := by omega
      subst hc
      replace H85 : Hid (∀ W, Below w.heap.size w W → Calls Try.prog 85 #[.slice (some ⟨b, o, none⟩) 0 0, .slice (some ⟨b, o, none⟩) 0 1] W fun e w' => (∃ g, e = .returned (.slice (some ⟨g, 0, none⟩) 0 0) ∧ W.heap.size ≤ g ∧ SliceV w' (.slice (some ⟨g, 0, none⟩) 0 0) 1 IntAt (nbs l)) ∧ Below W.heap.size W w') := H85
      clear hq hq2 hq3 i1 i2 i3 i4 i5 i6 i7 i8
      have hw0 : IntKind.i64.wrap 0 = 0 := by decide
      have hw1 : IntKind.i64.wrap ((1 : Int) - 1) = 0 := by decide
      have hz : nbs l = [] := List.eq_nil_of_length_eq_zero HNL.out
      have HZ : Hid (stp l = 0) := Lib.hid (by unfold stp; rw [hz]; rfl)
      clear hz
      go_enter Try.func60, Try.ntmps60
      go_wp2_with fail
      go_region_held3 (fun _ => True) (trivial) (first
        | (go_at_call 85; with_reducible refine Calls.mono (H85.out _ (Below.drew (Below.refl _ _))) ?_; rintro e w1 ⟨⟨g, rfl, hg, hsl⟩, hb⟩; have HB1 := Lib.hid (bThen (Below.drew (Below.refl _ _)) hb); clear hsl hb))
      all_goals
        go_wp2_with fail
        go_loopw [3, 18] (fun m i wr => i = .int .i64 0 ∧ m = .int .i64 0 ∧ wr = w1) (fun _ _ _ => 0)
        case atStart => exact ⟨rfl, rfl, rfl⟩
        case round =>
          obtain ⟨rfl, rfl, rfl⟩ := hrel
          go_wp2_with fail
          go_ret
          exact ⟨ret_int (by rw [HZ.out]), HB1.out⟩
    · rw [if_neg hc] at H85
      go_enter Try.func60, Try.ntmps60
      go_wp2_with fail
      go_region_held3 (fun _ => True) (trivial) (first
        | (go_at_call 85; with_reducible refine Calls.mono (H85.out _ (Below.drew (Below.refl _ _))) ?_; rintro e w1 ⟨⟨g, rfl, hg, hsl⟩, hb⟩; have HSL := Lib.hid hsl; have HB1 := Lib.hid (bThen (Below.drew (Below.refl _ _)) hb); clear hsl hb))
      all_goals
        go_wp2_with fail
        go_loopw [3, 18] (fun m i wr => ∃ k : Nat, k ≤ n ∧ i = .int .i64 k ∧ m = .int .i64 (gab ((nbs l).take k)) ∧ wr = w1) (fun _ i _ => n - (intOf i).toNat)
        case atStart => exact ⟨0, Nat.zero_le _, rfl, by simp [gab], rfl⟩
        case round =>
          obtain ⟨k, hk, rfl, rfl, rfl⟩ := hrel
          by_cases hlt : k < n
          · have hltn : k < (nbs l).length := by rw [HNL.out]; exact hlt
            obtain ⟨gb, go, hge, hf⟩ := HSL.out.at (by intro h; rw [h] at hltn; simp at hltn)
            obtain ⟨rfl, rfl⟩ : g = gb ∧ 0 = go := by simpa using hge
            have k0 := hf k hltn
            unfold IntAt at k0
            rw [Nat.mul_one, Nat.zero_add] at k0
            have hm := HMD.out _ (List.getElem_mem hltn)
            have HT : Hid (gab ((nbs l).take (k + 1)) = max (max (gab ((nbs l).take k)) (nbs l)[k]) (-(nbs l)[k])) := Lib.hid (by rw [take_succ _ k hltn, gab_snoc])
            have hs := gab_in (by decide : (0 : Int) ≤ 65535) (HMD.out.take k)
            clear hf hge
            obtain ⟨d, hd⟩ : ∃ d, d = (nbs l)[k] := ⟨_, rfl⟩
            rw [← hd] at k0 hm HT
            clear hd hltn
            obtain ⟨s, hse⟩ : ∃ s, s = gab ((nbs l).take k) := ⟨_, rfl⟩
            rw [← hse] at hs HT ⊢
            clear hse
            have q1 : IntKind.i64.wrap (-d) = -d := IntWalk.i64_in _ (by omega)
            have q2 : wrap64 (-d) = -d := IntWalk.wrap64_in _ (by omega)
            go_wp2_with fail
            all_goals
              go_roundw
              case rel => exact ⟨k + 1, by omega, by go_num, by (rw [HT.out]; first | rfl | (congr 1; omega)), by first | rfl | trivial⟩
              case measure => simp [intOf]; omega
          · obtain rfl : k = n := by omega
            go_wp2_with fail
            go_ret
            exact ⟨ret_int (by unfold stp; rw [List.take_of_length_le (by rw [HNL.out]; exact Nat.le_refl _)]), HB1.out⟩
end Go.Proofs.Ytbeeddenidfenaa
