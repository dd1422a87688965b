/- Contracts: scores that are right. -/
import Derived.Test.YtbmbcbknoflpgaaJ01
import Derived.Test.YtbmbcbknoflpgaaA7
import Derived.Test.YtbmbcbknoflpgaaA3
import Derived.Test.YtbmbcbknoflpgaaH7
set_option linter.unusedSimpArgs false
set_option linter.unusedVariables false
namespace Go.Proofs.Ytbmbcbknoflpgaa
open Go.RowKit

structure Ges where
  fst : Int
  lst : Int
  beg : Int
  fin : Int
  area : Int
  speed : Int
def GesAt (w : World) (b o : Nat) (g : Ges) : Prop := IntAt w b o g.fst ∧ IntAt w b (o + 1) g.lst ∧ IntAt w b (o + 2) g.beg ∧ IntAt w b (o + 3) g.fin ∧ IntAt w b (o + 4) g.area ∧ IntAt w b (o + 5) g.speed
theorem GesAt.stable : Stable GesAt := fun _ _ _ _ _ hB ⟨h1, h2, h3, h4, h5, h6⟩ => ⟨keep hB h1, keep hB h2, keep hB h3, keep hB h4, keep hB h5, keep hB h6⟩
def gesOk (n : Int) (g : Ges) : Bool := betw g.lst 0 (n - 1) && betw g.fst 0 g.lst && betw g.fin 0 100000 && betw g.beg 0 (g.fin - 1) && arOk g.area && betw g.speed 1 1000
set_option maxRecDepth 10000 in
set_option maxHeartbeats 4000000 in
theorem gestureRight_any (g : Ges) (n : Nat) (hn : n ≤ 1000) (w : World) : Calls Try.prog 97 #[.agg #[.int .i64 g.fst, .int .i64 g.lst, .int .i64 g.beg, .int .i64 g.fin, .int .i64 g.area, .int .i64 g.speed], .int .i64 n] w fun e w' => e = .returned (.bool (gesOk n g)) ∧ Below w.heap.size w w' := by
  obtain ⟨a, b, c, d, f, s⟩ := g
  have hd : gesOk n ⟨a, b, c, d, f, s⟩ = (betw b 0 ((n : Int) - 1) && betw a 0 b && betw d 0 100000 && betw c 0 (d - 1) && arOk f && betw s 1 1000) := rfl
  rw [hd]
  clear hd
  obtain ⟨n1, hn1⟩ : ∃ n1 : Int, (n : Int) - 1 = n1 := ⟨_, rfl⟩
  have u1 : IntKind.i64.wrap ((n : Int) - 1) = n1 := by rw [IntWalk.i64_in _ (by omega)]; exact hn1
  rw [hn1]
  clear hn1
  have H1 := Lib.hid (between_any b 0 n1)
  have H2 := Lib.hid (between_any a 0 b)
  have H3 := Lib.hid (between_any d 0 100000)
  have H5 := Lib.hid (areaWrong_any f)
  have H6 := Lib.hid (speed_any s)
  cases h1 : betw b 0 n1 <;> rw [h1] at H1 <;> clear h1
  · simp only [Bool.false_and, Bool.and_false, Bool.true_and, Bool.and_true]
    go_enter Try.func97, Try.ntmps97
    go_wp2_with (first
      | (go_at_call 71; with_reducible refine Calls.mono (H1.out _) ?_; rintro e w1 ⟨rfl, rfl⟩)
      | (go_at_call 71; with_reducible refine Calls.mono (H2.out _) ?_; rintro e w1 ⟨rfl, rfl⟩)
      | (go_at_call 71; with_reducible refine Calls.mono (H3.out _) ?_; rintro e w1 ⟨rfl, rfl⟩)
      | (go_at_call 71; with_reducible refine Calls.mono (H4.out _) ?_; rintro e w1 ⟨rfl, rfl⟩)
      | (go_at_call 86; with_reducible refine Calls.mono (H5.out _) ?_; rintro e w1 ⟨rfl, rfl⟩)
      | (go_at_call 72; with_reducible refine Calls.mono (H6.out _) ?_; rintro e w1 ⟨rfl, rfl⟩))
    go_ret
    exact ⟨rfl, bAlloc (Below.refl _ _) _⟩
  · cases h2 : betw a 0 b <;> rw [h2] at H2 <;> clear h2
    · simp only [Bool.false_and, Bool.and_false, Bool.true_and, Bool.and_true]
      go_enter Try.func97, Try.ntmps97
      go_wp2_with (first
        | (go_at_call 71; with_reducible refine Calls.mono (H1.out _) ?_; rintro e w1 ⟨rfl, rfl⟩)
        | (go_at_call 71; with_reducible refine Calls.mono (H2.out _) ?_; rintro e w1 ⟨rfl, rfl⟩)
        | (go_at_call 71; with_reducible refine Calls.mono (H3.out _) ?_; rintro e w1 ⟨rfl, rfl⟩)
        | (go_at_call 71; with_reducible refine Calls.mono (H4.out _) ?_; rintro e w1 ⟨rfl, rfl⟩)
        | (go_at_call 86; with_reducible refine Calls.mono (H5.out _) ?_; rintro e w1 ⟨rfl, rfl⟩)
        | (go_at_call 72; with_reducible refine Calls.mono (H6.out _) ?_; rintro e w1 ⟨rfl, rfl⟩))
      go_ret
      exact ⟨rfl, bAlloc (Below.refl _ _) _⟩
    · cases h3 : betw d 0 100000 <;> rw [h3] at H3
      · simp only [Bool.false_and, Bool.and_false, Bool.true_and, Bool.and_true]
        go_enter Try.func97, Try.ntmps97
        go_wp2_with (first
          | (go_at_call 71; with_reducible refine Calls.mono (H1.out _) ?_; rintro e w1 ⟨rfl, rfl⟩)
          | (go_at_call 71; with_reducible refine Calls.mono (H2.out _) ?_; rintro e w1 ⟨rfl, rfl⟩)
          | (go_at_call 71; with_reducible refine Calls.mono (H3.out _) ?_; rintro e w1 ⟨rfl, rfl⟩)
          | (go_at_call 71; with_reducible refine Calls.mono (H4.out _) ?_; rintro e w1 ⟨rfl, rfl⟩)
          | (go_at_call 86; with_reducible refine Calls.mono (H5.out _) ?_; rintro e w1 ⟨rfl, rfl⟩)
          | (go_at_call 72; with_reducible refine Calls.mono (H6.out _) ?_; rintro e w1 ⟨rfl, rfl⟩))
        go_ret
        exact ⟨rfl, bAlloc (Below.refl _ _) _⟩
      · have hdr := h3
        rw [betw_iff] at hdr
        obtain ⟨d1, hd1⟩ : ∃ d1 : Int, d - 1 = d1 := ⟨_, rfl⟩
        have u2 : IntKind.i64.wrap (d - 1) = d1 := by rw [IntWalk.i64_in _ (by omega)]; exact hd1
        rw [hd1]
        clear hd1 hdr h3
        have H4 := Lib.hid (between_any c 0 d1)
        cases h4 : betw c 0 d1 <;> rw [h4] at H4 <;> clear h4
        · simp only [Bool.false_and, Bool.and_false, Bool.true_and, Bool.and_true]
          go_enter Try.func97, Try.ntmps97
          go_wp2_with (first
            | (go_at_call 71; with_reducible refine Calls.mono (H1.out _) ?_; rintro e w1 ⟨rfl, rfl⟩)
            | (go_at_call 71; with_reducible refine Calls.mono (H2.out _) ?_; rintro e w1 ⟨rfl, rfl⟩)
            | (go_at_call 71; with_reducible refine Calls.mono (H3.out _) ?_; rintro e w1 ⟨rfl, rfl⟩)
            | (go_at_call 71; with_reducible refine Calls.mono (H4.out _) ?_; rintro e w1 ⟨rfl, rfl⟩)
            | (go_at_call 86; with_reducible refine Calls.mono (H5.out _) ?_; rintro e w1 ⟨rfl, rfl⟩)
            | (go_at_call 72; with_reducible refine Calls.mono (H6.out _) ?_; rintro e w1 ⟨rfl, rfl⟩))
          go_ret
          exact ⟨rfl, bAlloc (Below.refl _ _) _⟩
        · cases h5 : arOk f <;> rw [h5] at H5 <;> clear h5
          · simp only [Bool.false_and, Bool.and_false, Bool.true_and, Bool.and_true]
            go_enter Try.func97, Try.ntmps97
            go_wp2_with (first
              | (go_at_call 71; with_reducible refine Calls.mono (H1.out _) ?_; rintro e w1 ⟨rfl, rfl⟩)
              | (go_at_call 71; with_reducible refine Calls.mono (H2.out _) ?_; rintro e w1 ⟨rfl, rfl⟩)
              | (go_at_call 71; with_reducible refine Calls.mono (H3.out _) ?_; rintro e w1 ⟨rfl, rfl⟩)
              | (go_at_call 71; with_reducible refine Calls.mono (H4.out _) ?_; rintro e w1 ⟨rfl, rfl⟩)
              | (go_at_call 86; with_reducible refine Calls.mono (H5.out _) ?_; rintro e w1 ⟨rfl, rfl⟩)
              | (go_at_call 72; with_reducible refine Calls.mono (H6.out _) ?_; rintro e w1 ⟨rfl, rfl⟩))
            go_ret
            exact ⟨rfl, bAlloc (Below.refl _ _) _⟩
          · cases h6 : betw s 1 1000 <;> rw [h6] at H6 <;> clear h6
            · simp only [Bool.false_and, Bool.and_false, Bool.true_and, Bool.and_true]
              go_enter Try.func97, Try.ntmps97
              go_wp2_with (first
                | (go_at_call 71; with_reducible refine Calls.mono (H1.out _) ?_; rintro e w1 ⟨rfl, rfl⟩)
                | (go_at_call 71; with_reducible refine Calls.mono (H2.out _) ?_; rintro e w1 ⟨rfl, rfl⟩)
                | (go_at_call 71; with_reducible refine Calls.mono (H3.out _) ?_; rintro e w1 ⟨rfl, rfl⟩)
                | (go_at_call 71; with_reducible refine Calls.mono (H4.out _) ?_; rintro e w1 ⟨rfl, rfl⟩)
                | (go_at_call 86; with_reducible refine Calls.mono (H5.out _) ?_; rintro e w1 ⟨rfl, rfl⟩)
                | (go_at_call 72; with_reducible refine Calls.mono (H6.out _) ?_; rintro e w1 ⟨rfl, rfl⟩))
              go_ret
              exact ⟨rfl, bAlloc (Below.refl _ _) _⟩
            · simp only [Bool.false_and, Bool.and_false, Bool.true_and, Bool.and_true, Bool.and_self]
              go_enter Try.func97, Try.ntmps97
              go_wp2_with (first
                | (go_at_call 71; with_reducible refine Calls.mono (H1.out _) ?_; rintro e w1 ⟨rfl, rfl⟩)
                | (go_at_call 71; with_reducible refine Calls.mono (H2.out _) ?_; rintro e w1 ⟨rfl, rfl⟩)
                | (go_at_call 71; with_reducible refine Calls.mono (H3.out _) ?_; rintro e w1 ⟨rfl, rfl⟩)
                | (go_at_call 71; with_reducible refine Calls.mono (H4.out _) ?_; rintro e w1 ⟨rfl, rfl⟩)
                | (go_at_call 86; with_reducible refine Calls.mono (H5.out _) ?_; rintro e w1 ⟨rfl, rfl⟩)
                | (go_at_call 72; with_reducible refine Calls.mono (H6.out _) ?_; rintro e w1 ⟨rfl, rfl⟩))
              go_ret
              exact ⟨rfl, bAlloc (Below.refl _ _) _⟩
end Go.Proofs.Ytbmbcbknoflpgaa
namespace Go.Proofs.Ytbmbcbknoflpgaa
open Go.RowKit

set_option maxHeartbeats 2000000 in
theorem wrongG_any (g : Ges) (n : Nat) (hn : n ≤ 1000) (bx : Nat) (ra : Option Addr) (rc : Nat) (w : World) (hx : w.cell? ⟨bx, 0, none⟩ = some (.slice ra n rc)) :
    Calls Try.prog 96 #[.agg #[.int .i64 g.fst, .int .i64 g.lst, .int .i64 g.beg, .int .i64 g.fin, .int .i64 g.area, .int .i64 g.speed], .pointer (some ⟨bx, 0, none⟩)] w fun e w' => e = .returned (.bool (!gesOk n g)) ∧ Below w.heap.size w w' := by
  have HG := Lib.hid (fun W => gestureRight_any g n hn W)
  obtain ⟨a, b, c, d, f, s⟩ := g
  generalize gesOk n ⟨a, b, c, d, f, s⟩ = ok at *
  simp only at HG ⊢
  have hl := cell_lt hx
  go_enter Try.func96, Try.ntmps96
  go_wp2_with (go_at_call 97; with_reducible refine Calls.mono (HG.out _) ?_; rintro e w1 ⟨rfl, hb⟩; have HB := Lib.hid (bThen (bAlloc (Below.refl _ _) _) hb); clear hb)
  go_ret
  exact ⟨rfl, HB.out⟩
set_option maxHeartbeats 1000000 in
theorem indexS_any (l : List Ges) (v : Value) (n : Nat) (hn : n ≤ 1000) (bx : Nat) (ra : Option Addr) (rc : Nat) (w : World) (hv : SliceV w v 6 GesAt l) (hx : w.cell? ⟨bx, 0, none⟩ = some (.slice ra n rc)) :
    Calls Try.prog 107 #[v, .func (.func 96) #[] #[.pointer (some ⟨bx, 0, none⟩)]] w fun e w' => (∃ r : Int, e = .returned (.int .i64 r) ∧ decide (0 ≤ r) = l.any (fun x => !gesOk n x)) ∧ Below w.heap.size w w' := by
  have HV := Lib.hid hv
  have HX := Lib.hid hx
  obtain ⟨a, c, rfl, hl, -⟩ := hv
  unfold most at hl
  clear hx
  go_enter Try.func107, Try.ntmps107
  go_wp2_with fail
  go_loopw [5, 8] (fun _ i wr => ∃ k : Nat, k ≤ l.length ∧ i = .int .i64 k ∧ Hid ((l.take k).any (fun x => !gesOk n x) = false) ∧ Hid (Below w.heap.size w wr)) (fun _ i _ => l.length - (intOf i).toNat)
  case atStart => exact ⟨0, Nat.zero_le _, rfl, Lib.hid (by simp), Lib.hid (Below.refl _ _)⟩
  case round =>
    obtain ⟨k, hk, rfl, HK, HB⟩ := hrel
    by_cases hlt : k < l.length
    · obtain ⟨b, o, rfl, hf⟩ := (HV.out.keep GesAt.stable HB.out).at (by intro h; simp [h] at hlt)
      obtain ⟨k0, k1, k2, k3, k4, k5⟩ := hf k hlt
      have HIN : Hid (l[k] ∈ l) := Lib.hid (List.getElem_mem hlt)
      have HT : Hid ((l.take (k + 1)).any (fun x => !gesOk n x) = ((l.take k).any (fun x => !gesOk n x) || !gesOk n l[k])) := Lib.hid (by rw [take_succ l k hlt, List.any_append]; simp)
      have hkk : (k : Int) < (l.length : Int) := by omega
      clear hf
      generalize l[k] = x at *
      unfold IntAt at k0 k1 k2 k3 k4 k5
      have hkb := cell_lt k0
      have HW := Lib.hid (wrongG_any x n hn bx ra rc wr (keep HB.out HX.out))
      cases hp : gesOk n x
      · rw [hp] at HW
        go_wp2_with (go_at_call 96; with_reducible refine Calls.mono (HW.out) ?_; rintro e w1 ⟨rfl, hb⟩; have HB1 := Lib.hid hb; clear hb)
        go_ret
        refine ⟨⟨k, rfl, ?_⟩, bThen HB.out HB1.out⟩
        have : l.any (fun x => !gesOk n x) = true := List.any_eq_true.2 ⟨x, HIN.out, by simp [hp]⟩
        rw [this]; simp
      · rw [hp] at HW
        go_wp2_with (go_at_call 96; with_reducible refine Calls.mono (HW.out) ?_; rintro e w1 ⟨rfl, hb⟩; have HB1 := Lib.hid hb; clear hb)
        go_roundw
        case rel => exact ⟨k + 1, by omega, by go_num, Lib.hid (by rw [HT.out, HK.out]; simp [hp]), Lib.hid (bThen HB.out HB1.out)⟩
        case measure => simp [intOf]; omega
    · obtain rfl : k = l.length := by omega
      go_wp2_with fail
      go_ret
      refine ⟨⟨-1, rfl, ?_⟩, HB.out⟩
      have h := HK.out
      rw [List.take_length] at h
      rw [h]; rfl
set_option maxHeartbeats 1000000 in
theorem containsS_any (l : List Ges) (v : Value) (n : Nat) (hn : n ≤ 1000) (bx : Nat) (ra : Option Addr) (rc : Nat) (w : World) (hv : SliceV w v 6 GesAt l) (hx : w.cell? ⟨bx, 0, none⟩ = some (.slice ra n rc)) :
    Calls Try.prog 95 #[v, .func (.func 96) #[] #[.pointer (some ⟨bx, 0, none⟩)]] w fun e w' => e = .returned (.bool (!l.all (gesOk n))) ∧ Below w.heap.size w w' := by
  have H := Lib.hid (indexS_any l v n hn bx ra rc w hv hx)
  obtain ⟨a, c, rfl, hl, -⟩ := hv
  clear hx
  go_enter Try.func95, Try.ntmps95
  go_wp2_with (go_at_call 107; refine H.out.mono ?_; rintro e w1 ⟨⟨r, rfl, hr⟩, hb⟩; have HB := Lib.hid hb; clear hb)
  go_ret
  exact ⟨ret_bool (by rw [← any_not, ← hr]), HB.out⟩
/-- Scores that are right. -/
def scoOk (rest : List Int) (l : List Ges) : Bool := decide (1 ≤ rest.length) && arsOk rest && decide (l.length ≤ 100) && l.all (gesOk rest.length)
set_option maxRecDepth 10000 in
set_option maxHeartbeats 2000000 in
theorem scoreRight_any (rest : List Int) (l : List Ges) (va vb : Value) (w : World) (ha : SliceV w va 1 IntAt rest) (hb : SliceV w vb 6 GesAt l) :
    Calls Try.prog 74 #[.agg #[va, vb]] w fun e w' => e = .returned (.bool (scoOk rest l)) ∧ Below w.heap.size w w' := by
  have HA := Lib.hid (fun W (hB : Below w.heap.size w W) => areasRight_any rest va W (ha.keep IntAt.stable hB))
  have hd : scoOk rest l = (decide (1 ≤ rest.length) && arsOk rest && decide (l.length ≤ 100) && l.all (gesOk rest.length)) := rfl
  rw [hd]
  have HL : Hid (arsOk rest = true → rest.length ≤ 24) := Lib.hid (fun h => (ars_parts h).1)
  have HC0 : Hid (rest.length ≤ 24 → Calls Try.prog 95 #[vb, .func (.func 96) #[] #[.pointer (some ⟨w.heap.size, 0, none⟩)]] (w.alloc (.cells #[va, vb] 120)) fun e w' => e = .returned (.bool (!l.all (gesOk rest.length))) ∧ Below (w.alloc (.cells #[va, vb] 120)).heap.size (w.alloc (.cells #[va, vb] 120)) w') := Lib.hid (fun h => by
    obtain ⟨a, c, rfl, -⟩ := id ha
    exact containsS_any l vb rest.length (by omega) w.heap.size a c _ (hb.keep GesAt.stable (bAlloc (Below.refl _ _) _)) (cell_new rfl))
  obtain ⟨a, c, rfl, hl, -⟩ := ha
  obtain ⟨b, d, rfl, hm, -⟩ := hb
  unfold most at hl hm
  clear hd
  generalize rest.length = n at *
  generalize l.length = m at *
  generalize l.all (gesOk n) = okl at *
  by_cases h1 : 1 ≤ n
  · rw [decide_eq_true h1, Bool.true_and]
    have h11 : (0 : Int) < (n : Int) := by omega
    cases h2 : arsOk rest
    · rw [h2] at HA
      simp only [Bool.false_and]
      clear HC0 HL h2
      go_enter Try.func74, Try.ntmps74
      go_wp2_with (first
        | (go_at_call 63; with_reducible refine Calls.mono (HA.out _ (bAlloc (Below.refl _ _) _)) ?_; rintro e w1 ⟨rfl, rfl⟩)
        | (go_at_call 95; with_reducible refine Calls.mono HC.out ?_; rintro e w1 ⟨rfl, hb⟩; have HB := Lib.hid (bThen (bAlloc (Below.refl _ _) _) hb); clear hb))
      go_ret
      exact ⟨ret_bool (by first | rfl | (simp; done)), by first | exact HB.out | exact bAlloc (Below.refl _ _) _⟩
    · have HC := Lib.hid (HC0.out (HL.out h2))
      rw [h2] at HA
      clear HC0 HL h2
      simp only [Bool.true_and]
      by_cases h3 : m ≤ 100
      · rw [decide_eq_true h3, Bool.true_and]
        have h31 : (m : Int) ≤ 100 := by omega
        cases okl <;> simp only [Bool.not_true, Bool.not_false] at HC
        · go_enter Try.func74, Try.ntmps74
          go_wp2_with (first
            | (go_at_call 63; with_reducible refine Calls.mono (HA.out _ (bAlloc (Below.refl _ _) _)) ?_; rintro e w1 ⟨rfl, rfl⟩)
            | (go_at_call 95; with_reducible refine Calls.mono HC.out ?_; rintro e w1 ⟨rfl, hb⟩; have HB := Lib.hid (bThen (bAlloc (Below.refl _ _) _) hb); clear hb))
          go_ret
          exact ⟨ret_bool (by first | rfl | (simp; done)), by first | exact HB.out | exact bAlloc (Below.refl _ _) _⟩
        · go_enter Try.func74, Try.ntmps74
          go_wp2_with (first
            | (go_at_call 63; with_reducible refine Calls.mono (HA.out _ (bAlloc (Below.refl _ _) _)) ?_; rintro e w1 ⟨rfl, rfl⟩)
            | (go_at_call 95; with_reducible refine Calls.mono HC.out ?_; rintro e w1 ⟨rfl, hb⟩; have HB := Lib.hid (bThen (bAlloc (Below.refl _ _) _) hb); clear hb))
          go_ret
          exact ⟨ret_bool (by first | rfl | (simp; done)), by first | exact HB.out | exact bAlloc (Below.refl _ _) _⟩
      · rw [decide_eq_false h3, Bool.false_and]
        have h31 : ¬ (m : Int) ≤ 100 := by omega
        go_enter Try.func74, Try.ntmps74
        go_wp2_with (first
          | (go_at_call 63; with_reducible refine Calls.mono (HA.out _ (bAlloc (Below.refl _ _) _)) ?_; rintro e w1 ⟨rfl, rfl⟩)
          | (go_at_call 95; with_reducible refine Calls.mono HC.out ?_; rintro e w1 ⟨rfl, hb⟩; have HB := Lib.hid (bThen (bAlloc (Below.refl _ _) _) hb); clear hb))
        go_ret
        exact ⟨ret_bool (by first | rfl | (simp; done)), by first | exact HB.out | exact bAlloc (Below.refl _ _) _⟩
  · rw [decide_eq_false h1]
    have h11 : ¬ (0 : Int) < (n : Int) := by omega
    simp only [Bool.false_and]
    clear HC0 HL
    go_enter Try.func74, Try.ntmps74
    go_wp2_with (first
      | (go_at_call 63; with_reducible refine Calls.mono (HA.out _ (bAlloc (Below.refl _ _) _)) ?_; rintro e w1 ⟨rfl, rfl⟩)
      | (go_at_call 95; with_reducible refine Calls.mono HC.out ?_; rintro e w1 ⟨rfl, hb⟩; have HB := Lib.hid (bThen (bAlloc (Below.refl _ _) _) hb); clear hb))
    go_ret
    exact ⟨ret_bool (by first | rfl | (simp; done)), by first | exact HB.out | exact bAlloc (Below.refl _ _) _⟩
end Go.Proofs.Ytbmbcbknoflpgaa
