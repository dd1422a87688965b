/- Contracts: the greatest gain. -/
import Derived.Test.YtbeeddenidfenaaD9
set_option linter.unusedSimpArgs false
set_option linter.unusedVariables false
namespace Go.Proofs.Ytbeeddenidfenaa
open Go.RowKit

set_option maxRecDepth 10000 in
set_option maxHeartbeats 2000000 in
theorem greatestGain_any (l : List Int) (den : Int) (v : Value) (w : World) (hv : SliceV w v 1 IntAt l) (hs : Sm l) (hn : l.length ≤ 1000000) (h2 : 1 ≤ den) (h3 : den ≤ 1000000) :
    Calls Try.prog 79 #[v, .int .i64 den] w fun e w' => (∃ r : Nat, e = .returned (.int .i64 (r : Int)) ∧ (l = [] → r = 1000000) ∧ (l ≠ [] → GainTop [minL l, maxL l] den r)) ∧ Below w.heap.size w w' := by
  by_cases hl0 : l = []
  · subst hl0
    obtain ⟨a, c, rfl, hl, -⟩ := hv
    have HN := Lib.hid (bAlloc (Below.refl w.heap.size w) (.cells #[.int .i64 den] 3))
    go_enter Try.func79, Try.ntmps79
    go_wp2_with fail
    go_ret
    exact ⟨⟨1000000, rfl, fun _ => rfl, fun h => absurd rfl h⟩, HN.out⟩
  · have HNE := Lib.hid hl0
    have hp : 0 < l.length := List.length_pos_iff.2 hl0
    have HMI := Lib.hid (hs _ (minL_mem hl0))
    have HMA := Lib.hid (hs _ (maxL_mem hl0))
    have H96 : Hid (∀ W, Below w.heap.size w W → Calls Try.prog 96 #[v] W fun e w' => e = .returned (.int .i64 (minL l)) ∧ W = w') := Lib.hid (fun W hB => sMin_any l v W (hv.keep IntAt.stable hB) hp)
    have H97 : Hid (∀ W, Below w.heap.size w W → Calls Try.prog 97 #[v] W fun e w' => e = .returned (.int .i64 (maxL l)) ∧ W = w') := Lib.hid (fun W hB => sMax_any l v W (hv.keep IntAt.stable hB) hp)
    obtain ⟨a, c, rfl, hl, -⟩ := hv
    have HN := Lib.hid (bAlloc (Below.refl w.heap.size w) (.cells #[.int .i64 den] 3))
    have hz1 : ((l.length : Int) == 0) = false := beq_eq_false_iff_ne.2 (by omega)
    obtain ⟨mi, hmi⟩ : ∃ mi, mi = minL l := ⟨_, rfl⟩
    obtain ⟨ma, hma⟩ : ∃ ma, ma = maxL l := ⟨_, rfl⟩
    rw [← hmi] at HMI H96 ⊢
    rw [← hma] at HMA H97 ⊢
    clear hmi hma hs hl0
    have HENDS : Hid (SliceV ((w.alloc (.cells #[.int .i64 den] 3)).alloc (.cells #[.int .i64 mi, .int .i64 ma] 3)) (.slice (some ⟨w.heap.size + 1, 0, none⟩) 2 2) 1 IntAt [mi, ma]) := Lib.hid (own_slice (base := 0) (W := (w.alloc (.cells #[.int .i64 den] 3)).alloc (.cells #[.int .i64 mi, .int .i64 ma] 3)) (by
      have h := World.ownsRow_lit (base := 0) (e := 3) (size := 1) (w.alloc (.cells #[.int .i64 den] 3)) #[.int .i64 mi, .int .i64 ma] 2 (Nat.zero_le _) (by decide) (by rfl)
      have e : (w.alloc (.cells #[.int .i64 den] 3)).heap.size = w.heap.size + 1 := by simp
      rw [e] at h
      exact h) (show 2 ≤ 1000000 by decide))
    obtain ⟨W3, hW3⟩ : ∃ W3, W3 = ((w.alloc (.cells #[.int .i64 den] 3)).alloc (.cells #[.int .i64 mi, .int .i64 ma] 3)).alloc (.cells #[.slice (some ⟨w.heap.size + 1, 0, none⟩) 2 2] 22) := ⟨_, rfl⟩
    have HB3 : Hid (Below w.heap.size w W3) := Lib.hid (by rw [hW3]; exact bAlloc (bAlloc HN.out _) _)
    have HE3 : Hid (SliceV W3 (.slice (some ⟨w.heap.size + 1, 0, none⟩) 2 2) 1 IntAt [mi, ma]) := Lib.hid (by rw [hW3]; exact HENDS.out.keep IntAt.stable (bAlloc (Below.refl _ _) _))
    have d1 : W3.cell? ⟨w.heap.size + 1 + 1, 0, none⟩ = some (.slice (some ⟨w.heap.size + 1, 0, none⟩) 2 2) := by
      have h := World.alloc_heap_new ((w.alloc (.cells #[.int .i64 den] 3)).alloc (.cells #[.int .i64 mi, .int .i64 ma] 3)) (.cells #[.slice (some ⟨w.heap.size + 1, 0, none⟩) 2 2] 22)
      rw [← hW3, show ((w.alloc (.cells #[.int .i64 den] 3)).alloc (.cells #[.int .i64 mi, .int .i64 ma] 3)).heap.size = w.heap.size + 1 + 1 by simp] at h
      simp [World.cell?, h]
    have d2 : W3.cell? ⟨w.heap.size, 0, none⟩ = some (.int .i64 den) := by
      have h : (w.alloc (.cells #[.int .i64 den] 3)).cell? ⟨w.heap.size, 0, none⟩ = some (.int .i64 den) := cell_new rfl
      rw [hW3]
      exact keep (bAlloc (Below.refl _ _) _) (keep (bAlloc (Below.refl _ _) _) h)
    have H98 := Lib.hid (rightG_any (fun r => decide (clips [mi, ma] ((r : Nat) : Int) den = 0)) 1000000 (w.heap.size + 1 + 1) w.heap.size W3 (Nat.le_refl _) (fun r W hr hB => gGain1_any [mi, ma] ((r + 1 : Nat) : Int) den _ _ _ W (HE3.out.keep IntAt.stable hB) (fun z hz => by
      rcases List.mem_cons.1 hz with h | h
      · rw [h]; exact HMI.out
      · rw [List.mem_singleton.1 h]; exact HMA.out) (show 2 ≤ 1000000 by decide) (by omega) (by omega) h2 h3 (keep hB d1) (keep hB d2)))
    rw [hW3] at H98 HB3
    clear hW3 d1 d2 HE3
    go_enter Try.func79, Try.ntmps79
    go_wp2_with (first
      | (go_at_call 96; with_reducible refine Calls.mono (H96.out _ HN.out) ?_; rintro e w1 ⟨rfl, rfl⟩)
      | (go_at_call 98; with_reducible refine Calls.mono H98.out ?_; rintro e w2 ⟨⟨r, hr, rfl, hlo, hhi⟩, hb⟩; have HB := Lib.hid (bThen HB3.out hb); have HLO := Lib.hid hlo; have HHI := Lib.hid hhi; clear hb hlo hhi)
      | (go_at_call 97; with_reducible refine Calls.mono (H97.out _ HN.out) ?_; rintro e w1 ⟨rfl, rfl⟩))
    go_ret
    refine ⟨⟨r, rfl, fun h => absurd h HNE.out, fun _ => ⟨hr, ?_, ?_⟩⟩, HB.out⟩
    · rcases HLO.out with h | h
      · exact .inl h
      · exact .inr (of_decide_eq_true h)
    · rcases HHI.out with h | h
      · exact .inl h
      · exact .inr (of_decide_eq_false h)
end Go.Proofs.Ytbeeddenidfenaa
