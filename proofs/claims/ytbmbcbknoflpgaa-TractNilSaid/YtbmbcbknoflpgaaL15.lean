/- The law of no tube. -/
import Derived.Test.YtbmbcbknoflpgaaL15a
set_option linter.unusedSimpArgs false
set_option linter.unusedVariables false
namespace Go.Proofs.Ytbmbcbknoflpgaa
open Go.RowKit

/-- What the loop keeps: the two tubes that are none. -/
abbrev Nons (w W : World) : Prop := Below w.heap.size w W ∧ W.cell? ⟨w.heap.size + 1, 0, none⟩ = some (.pointer none) ∧ W.cell? ⟨w.heap.size + 1, 1, none⟩ = some (.pointer (some ⟨w.heap.size, 0, none⟩)) ∧ W.cell? ⟨w.heap.size, 1, none⟩ = some (.int .i64 0)
theorem Nons.below {w W V : World} (h : Nons w W) (hb : Below W.heap.size W V) : Nons w V :=
  ⟨bThen h.1 hb, keep hb h.2.1, keep hb h.2.2.1, keep hb h.2.2.2⟩
theorem nons_start (w : World) : Nons w ((w.alloc (.cells #[.slice none 0 0, .int .i64 0, .slice none 0 0, .slice none 0 0, .int .i64 0] 97)).alloc (.cells #[.pointer none, .pointer (some ⟨w.heap.size, 0, none⟩)] 41)) := by
  have h1 := World.alloc_heap_new w (.cells #[.slice none 0 0, .int .i64 0, .slice none 0 0, .slice none 0 0, .int .i64 0] 97)
  have h2 := World.alloc_heap_new (w.alloc (.cells #[.slice none 0 0, .int .i64 0, .slice none 0 0, .slice none 0 0, .int .i64 0] 97)) (.cells #[.pointer none, .pointer (some ⟨w.heap.size, 0, none⟩)] 41)
  rw [World.size_alloc] at h2
  exact ⟨bAlloc (bAlloc (Below.refl _ _) _) _, cell_of_heap (n := 2) h2 (by omega), cell_of_heap (n := 2) h2 (by omega), keep (bAlloc (Below.refl _ _) _) (cell_of_heap (n := 5) h1 (by omega))⟩
theorem nons_nil {w W : World} (_ : Nons w W) : NoneT W (.pointer none) := .inl rfl
theorem nons_zero {w W : World} (h : Nons w W) : NoneT W (.pointer (some ⟨w.heap.size, 0, none⟩)) := .inr ⟨_, rfl, h.2.2.2⟩
set_option maxRecDepth 10000 in
set_option maxHeartbeats 4000000 in
theorem law15_any (fl : List Fd) (l : List Int) (n : Int) (v0 v1 : Value) (w : World) (hk : ∀ w, Calls Try.prog 17 #[] w fun e w' => e = .returned (.bool true) ∧ Below w.heap.size w w') (hv0 : SliceV w v0 2 FdAt fl) (hv1 : SliceV w v1 1 IntAt l) :
    Calls Try.prog 15 #[v0, v1, .int .i64 n] w fun e w' => e = .returned (.bool true) ∧ Below w.heap.size w w' := by
  have HK := Lib.hid hk
  obtain ⟨a0, c0, rfl, hl0, -⟩ := hv0
  obtain ⟨a1, c1, rfl, hl1, -⟩ := hv1
  unfold most at hl0 hl1
  clear hk
  generalize fl.length = F at *
  generalize l.length = L at *
  by_cases e1 : (F : Int) > 100
  · go_enter Try.func15, Try.ntmps15
    go_wp2_with (go_at_call 17; with_reducible refine Calls.mono (HK.out _) ?_; rintro e w1 ⟨rfl, hb⟩; have HB := Lib.hid hb; clear hb)
    go_ret
    exact ⟨rfl, HB.out⟩
  by_cases e2 : (L : Int) > 100
  · go_enter Try.func15, Try.ntmps15
    go_wp2_with (go_at_call 17; with_reducible refine Calls.mono (HK.out _) ?_; rintro e w1 ⟨rfl, hb⟩; have HB := Lib.hid hb; clear hb)
    go_ret
    exact ⟨rfl, HB.out⟩
  have HS := Lib.hid (nons_start w)
  go_enter Try.func15, Try.ntmps15
  go_wp2_with fail
  generalize ((w.alloc (.cells #[.slice none 0 0, .int .i64 0, .slice none 0 0, .slice none 0 0, .int .i64 0] 97)).alloc (.cells #[.pointer none, .pointer (some ⟨w.heap.size, 0, none⟩)] 41)) = W at *
  go_loopw [10] (fun i wr => ∃ k : Nat, k ≤ 2 ∧ i = .int .i64 k ∧ Hid (Nons w wr)) (fun i _ => 2 - (intOf i).toNat)
  case atStart => exact ⟨0, by omega, rfl, HS⟩
  case round =>
    clear HS
    obtain ⟨k, hk, rfl, HI⟩ := hrel
    obtain ⟨-, c0, c1, c2⟩ := id HI.out
    have l0 := cell_lt c0
    have l1 := cell_lt c2
    rcases (show k = 0 ∨ k = 1 ∨ k = 2 by omega) with rfl | rfl | rfl
    · have HN := Lib.hid (nons_nil HI.out)
      go_wp2_with (first
        | (go_at_call 31; with_reducible refine Calls.mono (Step_nn _ HN.out) ?_; rintro e w1 ⟨rfl, hb1⟩; have hV := (HI.out.below hb1).below (bAlloc (Below.refl _ _) (.cells #[.int .i64 0, .int .i64 0] 51)); obtain ⟨-, d0, d1, d2⟩ := id hV; have m0 := cell_lt d0; have m1 := cell_lt d2; have HV := Lib.hid hV; have HNV := Lib.hid ((HN.out.below hb1).below (bAlloc (Below.refl _ _) (.cells #[.int .i64 0, .int .i64 0] 51))); have hg := World.alloc_heap_new w1 (.cells #[.int .i64 0, .int .i64 0] 51); clear hb1 hV HI HN)
        | (go_at_call 35; with_reducible refine Calls.mono (Rest_nn _ HNV.out) ?_; rintro e w2 ⟨rfl, rfl⟩)
        | (go_at_call 52; with_reducible refine Calls.mono (Waves_nn HNV.out) ?_; rintro e w2 ⟨rfl, rfl⟩)
        | (go_at_call 27; with_reducible refine Calls.mono (Change_nn _ _ HNV.out) ?_; rintro e w2 ⟨rfl, rfl⟩)
        | (go_at_call 34; with_reducible refine Calls.mono (Energy_nn HNV.out) ?_; rintro e w2 ⟨rfl, rfl⟩)
        | (go_at_call 36; with_reducible refine Calls.mono (Steps_nn HNV.out) ?_; rintro e w2 ⟨rfl, rfl⟩))
      go_roundw
      case rel => exact ⟨1, by omega, by first | rfl | go_num, HV⟩
      case measure => simp [intOf]
    · have HN := Lib.hid (nons_zero HI.out)
      go_wp2_with (first
        | (go_at_call 31; with_reducible refine Calls.mono (Step_nn _ HN.out) ?_; rintro e w1 ⟨rfl, hb1⟩; have hV := (HI.out.below hb1).below (bAlloc (Below.refl _ _) (.cells #[.int .i64 0, .int .i64 0] 51)); obtain ⟨-, d0, d1, d2⟩ := id hV; have m0 := cell_lt d0; have m1 := cell_lt d2; have HV := Lib.hid hV; have HNV := Lib.hid ((HN.out.below hb1).below (bAlloc (Below.refl _ _) (.cells #[.int .i64 0, .int .i64 0] 51))); have hg := World.alloc_heap_new w1 (.cells #[.int .i64 0, .int .i64 0] 51); clear hb1 hV HI HN)
        | (go_at_call 35; with_reducible refine Calls.mono (Rest_nn _ HNV.out) ?_; rintro e w2 ⟨rfl, rfl⟩)
        | (go_at_call 52; with_reducible refine Calls.mono (Waves_nn HNV.out) ?_; rintro e w2 ⟨rfl, rfl⟩)
        | (go_at_call 27; with_reducible refine Calls.mono (Change_nn _ _ HNV.out) ?_; rintro e w2 ⟨rfl, rfl⟩)
        | (go_at_call 34; with_reducible refine Calls.mono (Energy_nn HNV.out) ?_; rintro e w2 ⟨rfl, rfl⟩)
        | (go_at_call 36; with_reducible refine Calls.mono (Steps_nn HNV.out) ?_; rintro e w2 ⟨rfl, rfl⟩))
      go_roundw
      case rel => exact ⟨2, by omega, by first | rfl | go_num, HV⟩
      case measure => simp [intOf]
    · go_wp2_with (first | (go_at_call 17; with_reducible refine Calls.mono (HK.out _) ?_; rintro e w1 ⟨rfl, hb⟩; have HB := Lib.hid hb; clear hb))
      go_ret
      exact ⟨rfl, bThen HI.out.1 HB.out⟩
end Go.Proofs.Ytbmbcbknoflpgaa
