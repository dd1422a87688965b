/- Contracts: a command's value. -/
import Derived.Test.YtejcbcjhmnhefabDoorA3
import Derived.Deep.RegionHeld3
set_option linter.unusedSimpArgs false
set_option linter.unusedVariables false
namespace Go.Proofs.YtejcbcjhmnhefabDoor
open Go.RowKit

def pos (l : List Knot) (t : Int) : Nat := l.findIdx fun k => decide (t ≤ k.time)
def fnd (l : List Knot) (t : Int) : Bool := match l[pos l t]? with | some k => decide (k.time = t) | none => false
theorem pos_eq {l : List Knot} {t : Int} {i : Nat} (h0 : i ≤ l.length) (h1 : ∀ m (h : m < l.length), m < i → l[m].time < t) (h2 : ∀ m (h : m < l.length), i ≤ m → t ≤ l[m].time) : pos l t = i := by
  unfold pos
  rcases Nat.lt_or_eq_of_le h0 with h | h
  · rw [List.findIdx_eq h]
    refine ⟨by simpa using h2 i h (Nat.le_refl _), fun j hj => by have := h1 j (by omega) hj; simp; omega⟩
  · subst h
    rw [List.findIdx_eq_length]
    intro x hx
    obtain ⟨m, hm, rfl⟩ := List.getElem_of_mem hx
    have := h1 m hm hm; simp; omega
theorem pos_le (l : List Knot) (t : Int) : pos l t ≤ l.length := List.findIdx_le_length
theorem searched_any (l : List Knot) (t : Int) (v : Value) (w : World) (hv : SliceV w v 2 KnotAt l) (hl : l.length ≤ 1000000)
    (hmono : ∀ i j (hi : i < l.length) (hj : j < l.length), i < j → l[i].time < l[j].time) :
    Calls Tryd.prog 31 #[v, .int .i64 t, .func (.func 32) #[] #[]] w fun e w' => e = .returned (.tuple #[.int .i64 (pos l t : Nat), .bool (fnd l t)]) ∧ Below w.heap.size w w' := by
  refine (search_any l t v w hv hl hmono).mono ?_
  rintro e w' ⟨⟨i, f, rfl, h0, h1, h2, h3⟩, hb⟩
  have hp := pos_eq h0 h1 h2
  refine ⟨?_, hb⟩
  have hf : fnd l t = f := by
    unfold fnd
    rw [hp]
    by_cases hi : i < l.length
    · rw [List.getElem?_eq_getElem hi]
      rw [Bool.eq_iff_iff, h3]
      simp [hi]
    · rw [List.getElem?_eq_none (by omega)]
      symm
      rw [Bool.eq_false_iff]
      intro h
      exact hi (h3.1 h).1
  rw [hp, hf]

theorem mul_in {a b A B : Int} (h1 : -A ≤ a) (h2 : a ≤ A) (h3 : -B ≤ b) (h4 : b ≤ B) : -(A * B) ≤ a * b ∧ a * b ≤ A * B := by
  have h : (a * b).natAbs ≤ (A * B).natAbs := by
    rw [Int.natAbs_mul, Int.natAbs_mul]
    exact Nat.mul_le_mul (by omega) (by omega)
  have h0 : 0 ≤ A * B := Int.mul_nonneg (by omega) (by omega)
  generalize a * b = x at *
  generalize A * B = y at *
  omega
/-- A command's value at a time. -/
def cmdVal (c : Cmd) (t : Int) : Int :=
  match c.shape[pos c.shape (t - c.at_)]? with
  | none => 0
  | some k => if k.time = t - c.at_ then rnd (c.height * k.value) 1000
    else match pos c.shape (t - c.at_) with
      | 0 => 0
      | i + 1 => match c.shape[i]? with
        | none => 0
        | some a => rnd (c.height * (a.value * (k.time - a.time) + (k.value - a.value) * (t - c.at_ - a.time))) (1000 * (k.time - a.time))

set_option maxRecDepth 10000 in
set_option maxHeartbeats 4000000 in
theorem value_any (x : Cmd) (t : Int) (v : Value) (w : World) (hv : SliceV w v 2 KnotAt x.shape) (hok : cmdOk x = true) (ht0 : -1000000 ≤ t) (ht1 : t ≤ 1000000) :
    Calls Tryd.prog 18 #[.agg #[.int .i64 x.at_, .int .i64 x.height, v], .int .i64 t] w fun e w' => e = .returned (.int .i64 (cmdVal x t)) ∧ Below w.heap.size w w' := by
  have HV := Lib.hid hv
  obtain ⟨a, c, rfl, hl, -⟩ := hv
  unfold cmdOk shapeOk at hok
  simp only [Bool.and_eq_true] at hok
  obtain ⟨⟨h1, h2⟩, h3, h4⟩ := hok
  simp only [betw, Bool.and_eq_true, decide_eq_true_eq] at h1 h2 h3
  have HR := Lib.hid (knotsOk_range _ _ (by omega) h4)
  have hmono := knotsOk_sorted _ _ h4
  have HM := Lib.hid hmono
  have hd : IntKind.i64.wrap (t - x.at_) = t - x.at_ := IntWalk.i64_in _ (by omega)
  have HN := Lib.hid (bAlloc (Below.refl w.heap.size w) (.cells #[.int .i64 x.at_, .int .i64 x.height, .slice a x.shape.length c] 36))
  have h68 : Calls Tryd.prog 31 #[.slice a x.shape.length c, .int .i64 (t - x.at_), .func (.func 32) #[] #[]] (w.alloc (.cells #[.int .i64 x.at_, .int .i64 x.height, .slice a x.shape.length c] 36)) _ := searched_any x.shape (t - x.at_) _ _ (HV.out.keep KnotAt.stable HN.out) (by omega) hmono
  have H68 := Lib.hid h68
  clear h68 hmono h4
  obtain ⟨y, hy⟩ : ∃ y, y = t - x.at_ := ⟨_, rfl⟩
  have hp := pos_le x.shape (t - x.at_)
  cases hf : fnd x.shape (t - x.at_)
  · by_cases hlt : pos x.shape (t - x.at_) < x.shape.length
    · by_cases hz : pos x.shape (t - x.at_) = 0
      · have hval : cmdVal x t = 0 := by
          unfold fnd at hf; rw [List.getElem?_eq_getElem hlt] at hf
          unfold cmdVal; rw [List.getElem?_eq_getElem hlt]
          simp only [decide_eq_false_iff_not] at hf
          show (if _ then _ else _) = (0 : Int)
          rw [if_neg hf]
          split
          · rfl
          · omega
        rw [hval]
        go_enter Tryd.func18, Tryd.ntmps18
        go_wp2_with (go_at_call 31; refine H68.out.mono ?_; rintro e w1 ⟨rfl, hb⟩; rw [hf]; have c0 := keep hb (cell_new (j := 0) rfl); have c1 := keep hb (cell_new (j := 1) rfl); have c2 := keep hb (cell_new (j := 2) rfl); have HB := Lib.hid (bThen HN.out hb); have hlc := cell_lt c1; clear hb H68)
        go_ret
        exact ⟨rfl, HB.out⟩
      · obtain ⟨p, hpe⟩ : ∃ p, pos x.shape (t - x.at_) = p + 1 := ⟨pos x.shape (t - x.at_) - 1, by omega⟩
        rw [hpe] at hlt
        have hlp : p < x.shape.length := by omega
        obtain ⟨b, o, rfl, hx⟩ := HV.out.at (by intro h'; simp [h'] at hlt)
        obtain ⟨k0, k1⟩ := hx _ hlt
        obtain ⟨j0, j1⟩ := hx _ hlp
        have hval : cmdVal x t = rnd (x.height * (x.shape[p].value * (x.shape[p + 1].time - x.shape[p].time) + (x.shape[p + 1].value - x.shape[p].value) * (t - x.at_ - x.shape[p].time))) (1000 * (x.shape[p + 1].time - x.shape[p].time)) := by
          unfold fnd at hf; rw [hpe, List.getElem?_eq_getElem hlt] at hf
          unfold cmdVal; rw [hpe, List.getElem?_eq_getElem hlt]
          simp only [decide_eq_false_iff_not] at hf
          simp only [if_neg hf, List.getElem?_eq_getElem hlp]
        have hr := HR.out _ (List.getElem_mem hlt)
        have hs := HR.out _ (List.getElem_mem hlp)
        have hmo := HM.out _ _ hlp hlt (by omega)
        rw [hpe] at H68
        rw [hval]
        clear hval hx
        generalize x.shape[p + 1] = k at *
        generalize x.shape[p] = j at *
        clear hpe
        have m1 := mul_in (A := 1000) (B := 4000) hs.2.2.1 hs.2.2.2 (show -4000 ≤ k.time - j.time by omega) (by omega)
        have m2 := mul_in (A := 2000) (B := 2000000) (show -2000 ≤ k.value - j.value by omega) (by omega) (show -2000000 ≤ t - x.at_ - j.time by omega) (by omega)
        have m3 := mul_in (A := 100000) (B := 5000000000) h2.1 h2.2 (show -5000000000 ≤ j.value * (k.time - j.time) + (k.value - j.value) * (t - x.at_ - j.time) by omega) (by omega)
        have q1 : IntKind.i64.wrap (j.value * (k.time - j.time)) = j.value * (k.time - j.time) := IntWalk.i64_in _ (by omega)
        have q2 : IntKind.i64.wrap ((k.value - j.value) * (t - x.at_ - j.time)) = (k.value - j.value) * (t - x.at_ - j.time) := IntWalk.i64_in _ (by omega)
        have q3 : IntKind.i64.wrap (x.height * (j.value * (k.time - j.time) + (k.value - j.value) * (t - x.at_ - j.time))) = x.height * (j.value * (k.time - j.time) + (k.value - j.value) * (t - x.at_ - j.time)) := IntWalk.i64_in _ (by omega)
        have hz1 : ¬ ((p : Int) + 1 = 0) := by omega
        have hz2 : ¬ ((p : Int) + 1 = x.shape.length) := by omega
        go_enter Tryd.func18, Tryd.ntmps18
        go_wp2_with (go_at_call 31; refine H68.out.mono ?_; rintro e w1 ⟨rfl, hb⟩; rw [hf]; have c0 := keep hb (cell_new (j := 0) rfl); have c1 := keep hb (cell_new (j := 1) rfl); have c2 := keep hb (cell_new (j := 2) rfl); have HB := Lib.hid (bThen HN.out hb); have hlc := cell_lt c1; clear hb H68)
        replace k0 := keep HB.out k0
        replace k1 := keep HB.out k1
        replace j0 := keep HB.out j0
        replace j1 := keep HB.out j1
        have hlb := cell_lt k0
        have hq1 : IntKind.i64.wrap (((p + 1 : Nat) : Int) - 1) = (p : Int) := by rw [show (((p + 1 : Nat) : Int) - 1) = (p : Int) by omega]; exact IntWalk.i64_in _ (by omega)
        have hlc2 := cell_lt c2
        go_region
        all_goals
          go_wp2_with (go_at_call 34; refine (rounded_any _ _ _ (by omega) (by omega) (by omega) (by omega)).mono ?_; rintro e w2 ⟨rfl, rfl⟩)
          go_ret
          exact ⟨rfl, bDrew (bAlloc (bAlloc HB.out _) _) 1⟩
    · have hval : cmdVal x t = 0 := by
        unfold cmdVal; rw [List.getElem?_eq_none (by omega)]
      have hp2 : pos x.shape (t - x.at_) = x.shape.length := by omega
      rw [hp2] at H68
      rw [hval]
      go_enter Tryd.func18, Tryd.ntmps18
      go_wp2_with (go_at_call 31; refine H68.out.mono ?_; rintro e w1 ⟨rfl, hb⟩; rw [hf]; have c0 := keep hb (cell_new (j := 0) rfl); have c1 := keep hb (cell_new (j := 1) rfl); have c2 := keep hb (cell_new (j := 2) rfl); have HB := Lib.hid (bThen HN.out hb); have hlc := cell_lt c1; clear hb H68)
      go_ret
      exact ⟨rfl, HB.out⟩
  · have hlt : pos x.shape (t - x.at_) < x.shape.length := by
      by_cases h : pos x.shape (t - x.at_) < x.shape.length
      · exact h
      · unfold fnd at hf; rw [List.getElem?_eq_none (by omega)] at hf; cases hf
    obtain ⟨b, o, rfl, hx⟩ := HV.out.at (by intro h'; simp [h'] at hlt)
    obtain ⟨k0, k1⟩ := hx _ hlt
    have hval : cmdVal x t = rnd (x.height * x.shape[pos x.shape (t - x.at_)].value) 1000 := by
      unfold fnd at hf; rw [List.getElem?_eq_getElem hlt] at hf
      unfold cmdVal; rw [List.getElem?_eq_getElem hlt]
      exact if_pos (by simpa using hf)
    have hr := HR.out _ (List.getElem_mem hlt)
    rw [hval]
    clear hval hx
    generalize x.shape[pos x.shape (t - x.at_)] = k at *
    generalize pos x.shape (t - x.at_) = p at *
    have hm := mul_in h2.1 h2.2 hr.2.2.1 hr.2.2.2
    have hw : IntKind.i64.wrap (x.height * k.value) = x.height * k.value := IntWalk.i64_in _ (by omega)
    go_enter Tryd.func18, Tryd.ntmps18
    go_wp2_with (go_at_call 31; refine H68.out.mono ?_; rintro e w1 ⟨rfl, hb⟩; rw [hf]; have c0 := keep hb (cell_new (j := 0) rfl); have c1 := keep hb (cell_new (j := 1) rfl); have c2 := keep hb (cell_new (j := 2) rfl); have HB := Lib.hid (bThen HN.out hb); have hlc := cell_lt c1; clear hb H68)
    replace k0 := keep HB.out k0
    replace k1 := keep HB.out k1
    have hlb := cell_lt k0
    (refine wp_region_below (by kernel_rfl) (by kernel_rfl) ?_; (repeat (first | go_big_quiet_step ((go_at_call 34; exact toS (fun w => rounded_any _ _ w (by omega) (by omega) (by omega) (by omega)) _)) | quiet_step ((go_at_call 34; exact toS (fun w => rounded_any _ _ w (by omega) (by omega) (by omega) (by omega)) _)))); (refine wpQuiet_nil ?_; intro _ hw'; obtain ⟨xq, hw''⟩ := hw'; subst hw''))
    have hb := xq.2
    go_wp2_with fail
    go_ret
    exact ⟨rfl, bThen HB.out hb⟩
end Go.Proofs.YtejcbcjhmnhefabDoor
