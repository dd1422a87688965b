/- The specification's values. -/
import Derived.Test.YtejcbcjhmnhefaaDoorL3
set_option linter.unusedSimpArgs false
set_option linter.unusedVariables false
namespace Go.Proofs.YtejcbcjhmnhefaaDoor
open Go.RowKit

theorem cmdOk_in {x : Cmd} (h : cmdOk x = true) : (-4000 ≤ x.at_ ∧ x.at_ ≤ 4000) ∧ (-100000 ≤ x.height ∧ x.height ≤ 100000) ∧ (1 ≤ x.shape.length ∧ x.shape.length ≤ 20) ∧ knotsOk x.shape 0 = true := by
  simp only [cmdOk, shapeOk, betw, Bool.and_eq_true, decide_eq_true_eq] at h
  obtain ⟨⟨h1, h2⟩, h3, h4⟩ := h
  exact ⟨h1, h2, by omega, h4⟩
section
variable {xa xh t : Int} {l : List Knot}
theorem cmdVal_at (hs : ∀ i j (hi : i < l.length) (hj : j < l.length), i < j → l[i].time < l[j].time) {k : Nat} (hk : k < l.length) (h : l[k].time = t - xa) : cmdVal ⟨xa, xh, l⟩ t = rnd (xh * l[k].value) 1000 := by
  have hp : pos l (t - xa) = k := pos_eq (by omega) (fun m hm hmk => by have := hs m k hm hk hmk; omega) (fun m hm hmk => by
    rcases Nat.lt_or_eq_of_le hmk with h2 | h2
    · have := hs k m hk hm h2; omega
    · subst h2; omega)
  unfold cmdVal
  simp only
  rw [hp, List.getElem?_eq_getElem hk]
  simp only
  rw [if_pos h]
theorem cmdVal_mid (hs : ∀ i j (hi : i < l.length) (hj : j < l.length), i < j → l[i].time < l[j].time) {j : Nat} (hk : j + 1 < l.length) (h0 : l[j].time < t - xa) (h1 : t - xa < l[j + 1].time) :
    cmdVal ⟨xa, xh, l⟩ t = rnd (xh * (l[j].value * (l[j + 1].time - l[j].time) + (l[j + 1].value - l[j].value) * (t - xa - l[j].time))) (1000 * (l[j + 1].time - l[j].time)) := by
  have hp : pos l (t - xa) = j + 1 := pos_eq (by omega) (fun m hm hmk => by
    rcases Nat.lt_or_eq_of_le (show m ≤ j by omega) with h2 | h2
    · have := hs m j hm (by omega) h2; omega
    · subst h2; omega) (fun m hm hmk => by
    rcases Nat.lt_or_eq_of_le hmk with h2 | h2
    · have := hs (j + 1) m hk hm h2; omega
    · subst h2; omega)
  unfold cmdVal
  simp only
  rw [hp, List.getElem?_eq_getElem hk]
  simp only
  rw [if_neg (by omega), List.getElem?_eq_getElem (show j < l.length by omega)]
theorem cmdVal_low (hs : ∀ i j (hi : i < l.length) (hj : j < l.length), i < j → l[i].time < l[j].time) (hl : 0 < l.length) (h : t - xa < l[0].time) : cmdVal ⟨xa, xh, l⟩ t = 0 := by
  have hp : pos l (t - xa) = 0 := pos_eq (by omega) (fun m hm hmk => by omega) (fun m hm hmk => by
    rcases Nat.lt_or_eq_of_le hmk with h2 | h2
    · have := hs 0 m hl hm h2; omega
    · subst h2; omega)
  unfold cmdVal
  simp only
  rw [hp, List.getElem?_eq_getElem hl]
  simp only
  rw [if_neg (by omega)]
theorem cmdVal_high (h : ∀ m (hm : m < l.length), l[m].time < t - xa) : cmdVal ⟨xa, xh, l⟩ t = 0 := by
  have hp : pos l (t - xa) = l.length := pos_eq (Nat.le_refl _) (fun m hm _ => h m hm) (fun m hm hmk => by omega)
  unfold cmdVal
  simp only
  rw [hp, List.getElem?_eq_none (Nat.le_refl _)]
end
set_option maxRecDepth 100000 in
set_option maxHeartbeats 8000000 in
theorem refValue_any (x : Cmd) (t : Int) (v : Value) (w : World) (hv : SliceV w v 2 KnotAt x.shape) (hok : cmdOk x = true) (ht : -1000000 ≤ t ∧ t ≤ 1000000) :
    Calls Tryd.prog 18 #[.agg #[.int .i64 x.at_, .int .i64 x.height, v], .int .i64 t] w fun e w' => e = .returned (.int .i64 (cmdVal x t)) ∧ Below w.heap.size w w' := by
  obtain ⟨hxa, hxh, hll, hko⟩ := cmdOk_in hok
  obtain ⟨xa, xh, l⟩ := x
  obtain ⟨a, c, rfl, hl, hx⟩ := hv
  simp only at hl hx hxa hxh hll hko ⊢
  unfold most at hl
  have hs := knotsOk_sorted l 0 hko
  have HS := Lib.hid hs
  have HRG := Lib.hid (knotsOk_range l 0 (Int.le_refl _) hko)
  obtain ⟨lb, lo, rfl, hkk⟩ : ∃ lb lo, a = some ⟨lb, lo, none⟩ ∧ ∀ i (h : i < l.length), KnotAt w lb (lo + i * 2) l[i] := by
    rcases hx with h | h
    · subst h; simp at hll
    · exact h
  have HK := Lib.hid hkk
  clear hkk hx hok hko hs
  obtain ⟨b0, hb0⟩ : ∃ b0, b0 = w.heap.size := ⟨_, rfl⟩
  go_enter Tryd.func18, Tryd.ntmps18
  go_wp2_with fail
  rw [← hb0]
  generalize hW1 : World.alloc w _ = W1
  have hB1 : Below w.heap.size w W1 := by rw [← hW1]; exact bAlloc (Below.refl _ _) _
  have hp : ∀ j v, (#[Value.int .i64 xa, .int .i64 xh, .slice (some ⟨lb, lo, none⟩) l.length c] : Array Value)[j]? = some v → W1.cell? ⟨b0, j, none⟩ = some v := fun j v h => by
    rw [← hW1, hb0]; exact cell_new h
  have HP : Hid (W1.cell? ⟨b0, 0, none⟩ = some (.int .i64 xa) ∧ W1.cell? ⟨b0, 1, none⟩ = some (.int .i64 xh) ∧ W1.cell? ⟨b0, 2, none⟩ = some (.slice (some ⟨lb, lo, none⟩) l.length c)) := Lib.hid ⟨hp 0 _ rfl, hp 1 _ rfl, hp 2 _ rfl⟩
  have HB1 := Lib.hid hB1
  clear hW1 hB1 hp hb0
  by_cases hlow : t - xa < l[0].time
  · have HV : Hid (cmdVal ⟨xa, xh, l⟩ t = 0) := Lib.hid (cmdVal_low HS.out (by omega) hlow)
    have HLOW : Hid (∀ m (hm : m < l.length), t - xa < l[m].time) := Lib.hid fun m hm => by
      rcases Nat.eq_zero_or_pos m with h | h
      · subst h; exact hlow
      · have := HS.out 0 m (by omega) hm h; omega
    clear hlow
    go_loopw [6] (fun i wr => ∃ k : Nat, k ≤ l.length ∧ i = .int .i64 k ∧ Hid True ∧ Hid (Below W1.heap.size W1 wr)) (fun i _ => l.length - (intOf i).toNat)
    case atStart => exact ⟨0, Nat.zero_le _, rfl, Lib.hid trivial, Lib.hid (Below.refl _ _)⟩
    case round =>
      obtain ⟨k, hk, rfl, HI, HB⟩ := hrel
      have p0 := keep HB.out HP.out.1
      have p1 := keep HB.out HP.out.2.1
      have p2 := keep HB.out HP.out.2.2
      have hlp := cell_lt p2
      by_cases hlt : k < l.length
      · obtain ⟨c0, c1⟩ := HK.out k hlt
        have d0 := keep (bThen HB1.out HB.out) c0
        have d1 := keep (bThen HB1.out HB.out) c1
        have hld := cell_lt d0
        have hrg := HRG.out l[k] (List.getElem_mem hlt)
        have HBX := Lib.hid (bThen HB.out (bAlloc (Below.refl wr.heap.size wr) (.cells #[.int .i64 l[k].time, .int .i64 l[k].value] 73)))
        clear c0 c1
        have HNEXT : Hid True := Lib.hid trivial
        have hlo := HLOW.out k hlt
        have hne : (l[k].time == t - xa) = false := by simp; omega
        by_cases hk0 : k = 0
        · have hd3 : decide (0 < k) = false := decide_eq_false (by omega)
          have hk3 : ¬ 0 < k := by omega
          clear hk0
          generalize l[k] = y at *
          have hfinal : True := trivial
          go_wp2_with fail
          go_roundw
          case rel =>
            first
              | exact ⟨k + 1, by omega, by go_num, HNEXT, HBX⟩
              | ((repeat apply Exists.intro); refine ⟨?_, rfl⟩; exact ⟨k + 1, by omega, by go_num, HNEXT, HBX⟩)
          case measure => simp [intOf]; omega
        · obtain ⟨j, hj⟩ : ∃ j, k = j + 1 := ⟨k - 1, by omega⟩
          have hjl : j < l.length := by omega
          obtain ⟨c0, c1⟩ := HK.out j hjl
          have e0 := keep (bThen HB1.out HB.out) c0
          have e1 := keep (bThen HB1.out HB.out) c1
          have hle := cell_lt e0
          have hrj := HRG.out l[j] (List.getElem_mem hjl)
          have i6 : (k : Int) - 1 = (j : Int) := by omega
          have i7 : (j : Int) < (l.length : Int) := by omega
          have hd3 : decide (0 < k) = true := decide_eq_true (by omega)
          have hk3 : 0 < k := by omega
          clear c0 c1
          have hlj := HLOW.out j hjl
          have hd4 : decide (l[j].time < t - xa) = false := decide_eq_false (by omega)
          have hd5 : ¬ (l[j].time < t - xa) := by omega
          clear hj hk0
          generalize l[k] = y at *
          generalize l[j] = z at *
          have hfinal : True := trivial
          go_wp2_with fail
          go_roundw
          case rel =>
            first
              | exact ⟨k + 1, by omega, by go_num, HNEXT, HBX⟩
              | ((repeat apply Exists.intro); refine ⟨?_, rfl⟩; exact ⟨k + 1, by omega, by go_num, HNEXT, HBX⟩)
          case measure => simp [intOf]; omega
      · obtain rfl : k = l.length := by omega
        have hkk : ¬ ((l.length : Int) < (l.length : Int)) := by omega
        go_wp2_with fail
        go_ret
        exact ⟨ret_int HV.out.symm, bThen HB1.out HB.out⟩
  · go_loopw [6] (fun i wr => ∃ k : Nat, k ≤ l.length ∧ i = .int .i64 k ∧ Hid (∀ m (hm : m < l.length), m < k → l[m].time < t - xa) ∧ Hid (Below W1.heap.size W1 wr)) (fun i _ => l.length - (intOf i).toNat)
    case atStart => exact ⟨0, Nat.zero_le _, rfl, Lib.hid (fun m _ h => by omega), Lib.hid (Below.refl _ _)⟩
    case round =>
      obtain ⟨k, hk, rfl, HI, HB⟩ := hrel
      have p0 := keep HB.out HP.out.1
      have p1 := keep HB.out HP.out.2.1
      have p2 := keep HB.out HP.out.2.2
      have hlp := cell_lt p2
      by_cases hlt : k < l.length
      · obtain ⟨c0, c1⟩ := HK.out k hlt
        have d0 := keep (bThen HB1.out HB.out) c0
        have d1 := keep (bThen HB1.out HB.out) c1
        have hld := cell_lt d0
        have hrg := HRG.out l[k] (List.getElem_mem hlt)
        have HBX := Lib.hid (bThen HB.out (bAlloc (Below.refl wr.heap.size wr) (.cells #[.int .i64 l[k].time, .int .i64 l[k].value] 73)))
        clear c0 c1
        by_cases heq : l[k].time = t - xa
        · have hne : (l[k].time == t - xa) = true := by simp; omega
          have HFIN : Hid (cmdVal ⟨xa, xh, l⟩ t = rnd (xh * l[k].value) 1000) := Lib.hid (cmdVal_at HS.out hlt heq)
          have HEQ := Lib.hid heq
          have m1 := mul_in (A := 100000) (B := 1000) hxh.1 hxh.2 (show -1000 ≤ l[k].value by omega) (by omega)
          have w1 : IntKind.i64.wrap (xh * l[k].value) = xh * l[k].value := IntWalk.i64_in _ (by omega)
          have HD := Lib.hid (fun W => divide_any (xh * l[k].value) 1000 W (by omega) (by omega) (by omega) (by omega))
          clear heq m1 hlow
          generalize l[k] = y at *
          go_wp2_with (go_at_call 50; refine (HD.out _).mono ?_; rintro e w2 ⟨rfl, rfl⟩)
          go_ret
          exact ⟨ret_int HFIN.out.symm, bThen HB1.out HBX.out⟩
        · have hne : (l[k].time == t - xa) = false := by simpa using heq
          by_cases hlt2 : l[k].time < t - xa
          · have HNEXT : Hid (∀ m (hm : m < l.length), m < k + 1 → l[m].time < t - xa) := Lib.hid fun m hm hmk => by
              rcases Nat.lt_or_eq_of_le (show m ≤ k by omega) with h | h
              · exact HI.out m hm h
              · subst h; exact hlt2
            have hd6 : decide (t - xa < l[k].time) = false := decide_eq_false (by omega)
            have hd7 : ¬ (t - xa < l[k].time) := by omega
            clear hlow
            by_cases hk0 : k = 0
            · have hd3 : decide (0 < k) = false := decide_eq_false (by omega)
              have hk3 : ¬ 0 < k := by omega
              clear hk0
              generalize l[k] = y at *
              have hfinal : True := trivial
              go_wp2_with fail
              go_roundw
              case rel =>
                first
                  | exact ⟨k + 1, by omega, by go_num, HNEXT, HBX⟩
                  | ((repeat apply Exists.intro); refine ⟨?_, rfl⟩; exact ⟨k + 1, by omega, by go_num, HNEXT, HBX⟩)
              case measure => simp [intOf]; omega
            · obtain ⟨j, hj⟩ : ∃ j, k = j + 1 := ⟨k - 1, by omega⟩
              have hjl : j < l.length := by omega
              obtain ⟨c0, c1⟩ := HK.out j hjl
              have e0 := keep (bThen HB1.out HB.out) c0
              have e1 := keep (bThen HB1.out HB.out) c1
              have hle := cell_lt e0
              have hrj := HRG.out l[j] (List.getElem_mem hjl)
              have i6 : (k : Int) - 1 = (j : Int) := by omega
              have i7 : (j : Int) < (l.length : Int) := by omega
              have hd3 : decide (0 < k) = true := decide_eq_true (by omega)
              have hk3 : 0 < k := by omega
              clear c0 c1
              have hlj := HI.out j hjl (by omega)
              have hd4 : decide (l[j].time < t - xa) = true := decide_eq_true hlj
              clear hj hk0
              generalize l[k] = y at *
              generalize l[j] = z at *
              have hfinal : True := trivial
              go_wp2_with fail
              go_roundw
              case rel =>
                first
                  | exact ⟨k + 1, by omega, by go_num, HNEXT, HBX⟩
                  | ((repeat apply Exists.intro); refine ⟨?_, rfl⟩; exact ⟨k + 1, by omega, by go_num, HNEXT, HBX⟩)
              case measure => simp [intOf]; omega
          · have hk0 : k ≠ 0 := fun e => by subst e; omega
            obtain ⟨j, hj⟩ : ∃ j, k = j + 1 := ⟨k - 1, by omega⟩
            have hjl : j < l.length := by omega
            obtain ⟨c0, c1⟩ := HK.out j hjl
            have e0 := keep (bThen HB1.out HB.out) c0
            have e1 := keep (bThen HB1.out HB.out) c1
            have hle := cell_lt e0
            have hrj := HRG.out l[j] (List.getElem_mem hjl)
            have i6 : (k : Int) - 1 = (j : Int) := by omega
            have i7 : (j : Int) < (l.length : Int) := by omega
            have hd3 : decide (0 < k) = true := decide_eq_true (by omega)
            have hk3 : 0 < k := by omega
            clear c0 c1
            have hlj := HI.out j hjl (by omega)
            have hd4 : decide (l[j].time < t - xa) = true := decide_eq_true hlj
            have hgt : t - xa < l[k].time := by omega
            have hd6 : decide (t - xa < l[k].time) = true := decide_eq_true hgt
            have HFIN : Hid (cmdVal ⟨xa, xh, l⟩ t = rnd (xh * (l[j].value * (l[k].time - l[j].time) + (l[k].value - l[j].value) * (t - xa - l[j].time))) (1000 * (l[k].time - l[j].time))) := Lib.hid (by
              subst hj
              exact cmdVal_mid HS.out hlt hlj hgt)
            clear hj hk0 hlow HS HI
            generalize l[k] = y at *
            generalize l[j] = z at *
            have m1 := mul_in (A := 1000) (B := 4000) (show -1000 ≤ z.value by omega) (by omega) (show -4000 ≤ y.time - z.time by omega) (by omega)
            have m2 := mul_in (A := 2000) (B := 4000) (show -2000 ≤ y.value - z.value by omega) (by omega) (show -4000 ≤ t - xa - z.time by omega) (by omega)
            have w1 : IntKind.i64.wrap (z.value * (y.time - z.time)) = z.value * (y.time - z.time) := IntWalk.i64_in _ (by omega)
            have w2 : IntKind.i64.wrap ((y.value - z.value) * (t - xa - z.time)) = (y.value - z.value) * (t - xa - z.time) := IntWalk.i64_in _ (by omega)
            have w3 : IntKind.i64.wrap (z.value * (y.time - z.time) + (y.value - z.value) * (t - xa - z.time)) = z.value * (y.time - z.time) + (y.value - z.value) * (t - xa - z.time) := IntWalk.i64_in _ (by omega)
            have m3 := mul_in (A := 100000) (B := 12000000) hxh.1 hxh.2 (show -12000000 ≤ z.value * (y.time - z.time) + (y.value - z.value) * (t - xa - z.time) by omega) (by omega)
            have w4 : IntKind.i64.wrap (xh * (z.value * (y.time - z.time) + (y.value - z.value) * (t - xa - z.time))) = xh * (z.value * (y.time - z.time) + (y.value - z.value) * (t - xa - z.time)) := IntWalk.i64_in _ (by omega)
            have w5 : IntKind.i64.wrap (1000 * (y.time - z.time)) = 1000 * (y.time - z.time) := IntWalk.i64_in _ (by omega)
            have HD := Lib.hid (fun W => divide_any (xh * (z.value * (y.time - z.time) + (y.value - z.value) * (t - xa - z.time))) (1000 * (y.time - z.time)) W (by omega) (by omega) (by omega) (by omega))
            have HBY := Lib.hid (bThen HBX.out (bAlloc (Below.refl _ _) (.cells #[.int .i64 z.time, .int .i64 z.value] 73)))
            clear m1 m2 m3
            go_wp2_with (go_at_call 50; refine (HD.out _).mono ?_; rintro e w2 ⟨rfl, rfl⟩)
            go_ret
            exact ⟨ret_int HFIN.out.symm, bThen HB1.out HBY.out⟩
      · obtain rfl : k = l.length := by omega
        have hkk : ¬ ((l.length : Int) < (l.length : Int)) := by omega
        have HV : Hid (cmdVal ⟨xa, xh, l⟩ t = 0) := Lib.hid (cmdVal_high fun m hm => HI.out m hm hm)
        go_wp2_with fail
        go_ret
        exact ⟨ret_int HV.out.symm, bThen HB1.out HB.out⟩
end Go.Proofs.YtejcbcjhmnhefaaDoor
