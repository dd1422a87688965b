/- Contracts: stretches of pulses that are right. -/
import Derived.Test.YtbmbcbknoflpgaaA89
set_option linter.unusedSimpArgs false
set_option linter.unusedVariables false
namespace Go.Proofs.Ytbmbcbknoflpgaa
open Go.RowKit

structure Glo where
  per : Int
  len : Int
  opn : Int
  hgt : Int
def Glo.agg (g : Glo) : Value := .agg #[.int .i64 g.per, .int .i64 g.len, .int .i64 g.opn, .int .i64 g.hgt]
def GloAt (w : World) (b o : Nat) (g : Glo) : Prop := IntAt w b o g.per ∧ IntAt w b (o + 1) g.len ∧ IntAt w b (o + 2) g.opn ∧ IntAt w b (o + 3) g.hgt
theorem GloAt.stable : Stable GloAt := fun _ _ _ _ _ hB ⟨h1, h2, h3, h4⟩ => ⟨keep hB h1, keep hB h2, keep hB h3, keep hB h4⟩
def gloOk (g : Glo) : Bool := betw g.per 1 1000 && betw g.len 1 2000 && betw g.opn 0 g.len && betw g.hgt 0 500
set_option maxHeartbeats 2000000 in
theorem stretchWrong_any (g : Glo) (w : World) : Calls Try.prog 102 #[.agg #[.int .i64 g.per, .int .i64 g.len, .int .i64 g.opn, .int .i64 g.hgt]] w fun e w' => e = .returned (.bool (!gloOk g)) ∧ Below w.heap.size w w' := by
  obtain ⟨p, l, o, h⟩ := g
  have hd : gloOk ⟨p, l, o, h⟩ = (betw p 1 1000 && betw l 1 2000 && betw o 0 l && betw h 0 500) := rfl
  rw [hd]
  clear hd
  have H1 := Lib.hid (between_any p 1 1000)
  have H2 := Lib.hid (between_any l 1 2000)
  have H3 := Lib.hid (between_any o 0 l)
  have H4 := Lib.hid (between_any h 0 500)
  cases h1 : betw p 1 1000 <;> rw [h1] at H1 <;> clear h1
  · simp only [Bool.false_and, Bool.not_false]
    go_enter Try.func102, Try.ntmps102
    go_wp2_with (first
      | (go_at_call 71; with_reducible refine Calls.mono (H1.out _) ?_; rintro e w1 ⟨rfl, rfl⟩)
      | (go_at_call 71; with_reducible refine Calls.mono (H2.out _) ?_; rintro e w1 ⟨rfl, rfl⟩)
      | (go_at_call 71; with_reducible refine Calls.mono (H3.out _) ?_; rintro e w1 ⟨rfl, rfl⟩)
      | (go_at_call 71; with_reducible refine Calls.mono (H4.out _) ?_; rintro e w1 ⟨rfl, rfl⟩))
    go_ret
    exact ⟨rfl, bAlloc (Below.refl _ _) _⟩
  · cases h2 : betw l 1 2000 <;> rw [h2] at H2 <;> clear h2
    · simp only [Bool.false_and, Bool.and_false, Bool.not_false]
      go_enter Try.func102, Try.ntmps102
      go_wp2_with (first
        | (go_at_call 71; with_reducible refine Calls.mono (H1.out _) ?_; rintro e w1 ⟨rfl, rfl⟩)
        | (go_at_call 71; with_reducible refine Calls.mono (H2.out _) ?_; rintro e w1 ⟨rfl, rfl⟩)
        | (go_at_call 71; with_reducible refine Calls.mono (H3.out _) ?_; rintro e w1 ⟨rfl, rfl⟩)
        | (go_at_call 71; with_reducible refine Calls.mono (H4.out _) ?_; rintro e w1 ⟨rfl, rfl⟩))
      go_ret
      exact ⟨rfl, bAlloc (Below.refl _ _) _⟩
    · cases h3 : betw o 0 l <;> rw [h3] at H3 <;> clear h3
      · simp only [Bool.false_and, Bool.and_false, Bool.not_false]
        go_enter Try.func102, Try.ntmps102
        go_wp2_with (first
          | (go_at_call 71; with_reducible refine Calls.mono (H1.out _) ?_; rintro e w1 ⟨rfl, rfl⟩)
          | (go_at_call 71; with_reducible refine Calls.mono (H2.out _) ?_; rintro e w1 ⟨rfl, rfl⟩)
          | (go_at_call 71; with_reducible refine Calls.mono (H3.out _) ?_; rintro e w1 ⟨rfl, rfl⟩)
          | (go_at_call 71; with_reducible refine Calls.mono (H4.out _) ?_; rintro e w1 ⟨rfl, rfl⟩))
        go_ret
        exact ⟨rfl, bAlloc (Below.refl _ _) _⟩
      · cases h4 : betw h 0 500 <;> rw [h4] at H4 <;> clear h4
        · simp only [Bool.and_false, Bool.not_false]
          go_enter Try.func102, Try.ntmps102
          go_wp2_with (first
            | (go_at_call 71; with_reducible refine Calls.mono (H1.out _) ?_; rintro e w1 ⟨rfl, rfl⟩)
            | (go_at_call 71; with_reducible refine Calls.mono (H2.out _) ?_; rintro e w1 ⟨rfl, rfl⟩)
            | (go_at_call 71; with_reducible refine Calls.mono (H3.out _) ?_; rintro e w1 ⟨rfl, rfl⟩)
            | (go_at_call 71; with_reducible refine Calls.mono (H4.out _) ?_; rintro e w1 ⟨rfl, rfl⟩))
          go_ret
          exact ⟨rfl, bAlloc (Below.refl _ _) _⟩
        · simp only [Bool.and_self, Bool.not_true]
          go_enter Try.func102, Try.ntmps102
          go_wp2_with (first
            | (go_at_call 71; with_reducible refine Calls.mono (H1.out _) ?_; rintro e w1 ⟨rfl, rfl⟩)
            | (go_at_call 71; with_reducible refine Calls.mono (H2.out _) ?_; rintro e w1 ⟨rfl, rfl⟩)
            | (go_at_call 71; with_reducible refine Calls.mono (H3.out _) ?_; rintro e w1 ⟨rfl, rfl⟩)
            | (go_at_call 71; with_reducible refine Calls.mono (H4.out _) ?_; rintro e w1 ⟨rfl, rfl⟩))
          go_ret
          exact ⟨rfl, bAlloc (Below.refl _ _) _⟩
set_option maxHeartbeats 1000000 in
theorem indexG_any (l : List Glo) (v : Value) (w : World) (hv : SliceV w v 4 GloAt l) :
    Calls Try.prog 110 #[v, .func (.func 102) #[] #[]] w fun e w' => (∃ r : Int, e = .returned (.int .i64 r) ∧ decide (0 ≤ r) = l.any (fun x => !gloOk x)) ∧ Below w.heap.size w w' := by
  have HV := Lib.hid hv
  obtain ⟨a, c, rfl, hl, -⟩ := hv
  unfold most at hl
  go_enter Try.func110, Try.ntmps110
  go_wp2_with fail
  go_loopw [5, 8] (fun _ i wr => ∃ k : Nat, k ≤ l.length ∧ i = .int .i64 k ∧ Hid ((l.take k).any (fun x => !gloOk x) = false) ∧ Hid (Below w.heap.size w wr)) (fun _ i _ => l.length - (intOf i).toNat)
  case atStart => exact ⟨0, Nat.zero_le _, rfl, Lib.hid (by simp), Lib.hid (Below.refl _ _)⟩
  case round =>
    obtain ⟨k, hk, rfl, HK, HB⟩ := hrel
    by_cases hlt : k < l.length
    · obtain ⟨b, o, rfl, hf⟩ := (HV.out.keep GloAt.stable HB.out).at (by intro h; simp [h] at hlt)
      obtain ⟨k0, k1, k2, k3⟩ := hf k hlt
      have HIN : Hid (l[k] ∈ l) := Lib.hid (List.getElem_mem hlt)
      have HT : Hid ((l.take (k + 1)).any (fun x => !gloOk x) = ((l.take k).any (fun x => !gloOk x) || !gloOk l[k])) := Lib.hid (by rw [take_succ l k hlt, List.any_append]; simp)
      have hkk : (k : Int) < (l.length : Int) := by omega
      clear hf
      generalize l[k] = x at *
      unfold IntAt at k0 k1 k2 k3
      have hkb := cell_lt k0
      have HW := Lib.hid (fun W => stretchWrong_any x W)
      have HXP := Lib.hid (rfl : gloOk x = gloOk x)
      cases hp : gloOk x
      · rw [hp] at HW
        go_wp2_with (go_at_call 102; with_reducible refine Calls.mono (HW.out _) ?_; rintro e w1 ⟨rfl, hb⟩; have HB1 := Lib.hid hb; clear hb)
        go_ret
        refine ⟨⟨k, rfl, ?_⟩, bThen HB.out HB1.out⟩
        have : l.any (fun x => !gloOk x) = true := List.any_eq_true.2 ⟨x, HIN.out, by simp [hp]⟩
        rw [this]; simp
      · rw [hp] at HW
        go_wp2_with (go_at_call 102; with_reducible refine Calls.mono (HW.out _) ?_; rintro e w1 ⟨rfl, hb⟩; have HB1 := Lib.hid hb; clear hb)
        go_roundw
        case rel => exact ⟨k + 1, by omega, by go_num, Lib.hid (by rw [HT.out, HK.out]; simp [hp]), Lib.hid (bThen HB.out HB1.out)⟩
        case measure => simp [intOf]; omega
    · obtain rfl : k = l.length := by omega
      go_wp2_with fail
      go_ret
      refine ⟨⟨-1, rfl, ?_⟩, HB.out⟩
      have h := HK.out
      rw [List.take_length] at h
      rw [h]; rfl
set_option maxHeartbeats 1000000 in
theorem containsG_any (l : List Glo) (v : Value) (w : World) (hv : SliceV w v 4 GloAt l) :
    Calls Try.prog 101 #[v, .func (.func 102) #[] #[]] w fun e w' => e = .returned (.bool (!l.all gloOk)) ∧ Below w.heap.size w w' := by
  have H := Lib.hid (indexG_any l v w hv)
  obtain ⟨a, c, rfl, hl, -⟩ := hv
  go_enter Try.func101, Try.ntmps101
  go_wp2_with (go_at_call 110; refine H.out.mono ?_; rintro e w1 ⟨⟨r, rfl, hr⟩, hb⟩; have HB := Lib.hid hb; clear hb)
  go_ret
  exact ⟨ret_bool (by rw [← any_not, ← hr]), HB.out⟩
/-- Stretches that are right. -/
def strOk (l : List Glo) : Bool := decide (l.length ≤ 200) && l.all gloOk
set_option maxHeartbeats 1000000 in
theorem stretchesRight_any (l : List Glo) (v : Value) (w : World) (hv : SliceV w v 4 GloAt l) : Calls Try.prog 77 #[v] w fun e w' => e = .returned (.bool (strOk l)) ∧ Below w.heap.size w w' := by
  have H := Lib.hid (containsG_any l v w hv)
  obtain ⟨a, c, rfl, hl, -⟩ := hv
  unfold most at hl
  have he : strOk l = (decide (l.length ≤ 200) && l.all gloOk) := rfl
  rw [he]
  generalize l.length = n at *
  by_cases h : (n : Int) ≤ 200
  · rw [decide_eq_true (show n ≤ 200 by omega), Bool.true_and]
    go_enter Try.func77, Try.ntmps77
    go_wp2_with (go_at_call 101; refine H.out.mono ?_; rintro e w1 ⟨rfl, hb⟩; have HB := Lib.hid hb; clear hb)
    go_ret
    exact ⟨ret_bool (by first | rfl | (simp; done)), HB.out⟩
  · rw [decide_eq_false (show ¬ n ≤ 200 by omega), Bool.false_and]
    go_enter Try.func77, Try.ntmps77
    go_wp2_with fail
    go_ret
    exact ⟨ret_bool (by first | rfl | (simp; done)), Below.refl _ _⟩
end Go.Proofs.Ytbmbcbknoflpgaa
