/- Contracts: the checks of areas and waves at a joint. -/
import Derived.Test.YtbmbcbknoflpgaaA1
set_option linter.unusedSimpArgs false
set_option linter.unusedVariables false
namespace Go.Proofs.Ytbmbcbknoflpgaa
open Go.RowKit

theorem any_not {α : Type} (p : α → Bool) (l : List α) : l.any (fun x => !p x) = !l.all p := by
  induction l with
  | nil => rfl
  | cons x l ih => simp [ih, Bool.not_and]

set_option maxHeartbeats 1000000 in
theorem indexA_any (l : List Int) (v : Value) (w : World) (hv : SliceV w v 1 IntAt l) :
    Calls Try.prog 105 #[v, .func (.func 86) #[] #[]] w fun e w' => (∃ r : Int, e = .returned (.int .i64 r) ∧ decide (0 ≤ r) = l.any (fun x => !arOk x)) ∧ w = w' := by
  have HV := Lib.hid hv
  obtain ⟨a, c, rfl, hl, -⟩ := hv
  unfold most at hl
  go_enter Try.func105, Try.ntmps105
  go_wp2_with fail
  go_loopw [5, 8] (fun _ i wr => ∃ k : Nat, k ≤ l.length ∧ i = .int .i64 k ∧ Hid ((l.take k).any (fun x => !arOk x) = false) ∧ w = wr) (fun _ i _ => l.length - (intOf i).toNat)
  case atStart => exact ⟨0, Nat.zero_le _, rfl, Lib.hid (by simp), rfl⟩
  case round =>
    obtain ⟨k, hk, rfl, HK, rfl⟩ := hrel
    by_cases hlt : k < l.length
    · obtain ⟨b, o, rfl, hf⟩ := HV.out.at (by intro h; simp [h] at hlt)
      have k0 := hf k hlt
      have HIN : Hid (l[k] ∈ l) := Lib.hid (List.getElem_mem hlt)
      have HT : Hid ((l.take (k + 1)).any (fun x => !arOk x) = ((l.take k).any (fun x => !arOk x) || !arOk l[k])) := Lib.hid (by rw [take_succ l k hlt, List.any_append]; simp)
      clear hf
      generalize l[k] = x at *
      unfold IntAt at k0
      rw [Nat.mul_one] at k0
      have hkb := cell_lt k0
      cases hp : arOk x
      · go_wp2_with (go_at_call 86; refine (areaWrong_any x _).mono ?_; rintro e w1 ⟨rfl, rfl⟩; rw [hp])
        go_ret
        refine ⟨⟨k, rfl, ?_⟩, rfl⟩
        have : l.any (fun x => !arOk x) = true := List.any_eq_true.2 ⟨x, HIN.out, by simp [hp]⟩
        rw [this]; simp
      · go_wp2_with (go_at_call 86; refine (areaWrong_any x _).mono ?_; rintro e w1 ⟨rfl, rfl⟩; rw [hp])
        go_roundw
        case rel => exact ⟨k + 1, by omega, by go_num, Lib.hid (by rw [HT.out, HK.out]; simp [hp]), by first | rfl | trivial⟩
        case measure => simp [intOf]; omega
    · obtain rfl : k = l.length := by omega
      go_wp2_with fail
      go_ret
      refine ⟨⟨-1, rfl, ?_⟩, rfl⟩
      have h := HK.out
      rw [List.take_length] at h
      rw [h]; rfl
set_option maxHeartbeats 1000000 in
theorem containsA_any (l : List Int) (v : Value) (w : World) (hv : SliceV w v 1 IntAt l) :
    Calls Try.prog 85 #[v, .func (.func 86) #[] #[]] w fun e w' => e = .returned (.bool (!l.all arOk)) ∧ w = w' := by
  have H := Lib.hid (indexA_any l v w hv)
  obtain ⟨a, c, rfl, hl, -⟩ := hv
  go_enter Try.func85, Try.ntmps85
  go_wp2_with (go_at_call 105; refine H.out.mono ?_; rintro e w1 ⟨⟨r, rfl, hr⟩, rfl⟩)
  go_ret
  exact ⟨ret_bool (by rw [← any_not, ← hr]), rfl⟩

set_option maxHeartbeats 1000000 in
theorem indexW_any (l : List Int) (v : Value) (w : World) (hv : SliceV w v 1 IntAt l) :
    Calls Try.prog 105 #[v, .func (.func 87) #[] #[]] w fun e w' => (∃ r : Int, e = .returned (.int .i64 r) ∧ decide (0 ≤ r) = l.any (fun x => !wvOk x)) ∧ w = w' := by
  have HV := Lib.hid hv
  obtain ⟨a, c, rfl, hl, -⟩ := hv
  unfold most at hl
  go_enter Try.func105, Try.ntmps105
  go_wp2_with fail
  go_loopw [5, 8] (fun _ i wr => ∃ k : Nat, k ≤ l.length ∧ i = .int .i64 k ∧ Hid ((l.take k).any (fun x => !wvOk x) = false) ∧ w = wr) (fun _ i _ => l.length - (intOf i).toNat)
  case atStart => exact ⟨0, Nat.zero_le _, rfl, Lib.hid (by simp), rfl⟩
  case round =>
    obtain ⟨k, hk, rfl, HK, rfl⟩ := hrel
    by_cases hlt : k < l.length
    · obtain ⟨b, o, rfl, hf⟩ := HV.out.at (by intro h; simp [h] at hlt)
      have k0 := hf k hlt
      have HIN : Hid (l[k] ∈ l) := Lib.hid (List.getElem_mem hlt)
      have HT : Hid ((l.take (k + 1)).any (fun x => !wvOk x) = ((l.take k).any (fun x => !wvOk x) || !wvOk l[k])) := Lib.hid (by rw [take_succ l k hlt, List.any_append]; simp)
      clear hf
      generalize l[k] = x at *
      unfold IntAt at k0
      rw [Nat.mul_one] at k0
      have hkb := cell_lt k0
      cases hp : wvOk x
      · go_wp2_with (go_at_call 87; refine (meeting1_any x _).mono ?_; rintro e w1 ⟨rfl, rfl⟩; rw [hp])
        go_ret
        refine ⟨⟨k, rfl, ?_⟩, rfl⟩
        have : l.any (fun x => !wvOk x) = true := List.any_eq_true.2 ⟨x, HIN.out, by simp [hp]⟩
        rw [this]; simp
      · go_wp2_with (go_at_call 87; refine (meeting1_any x _).mono ?_; rintro e w1 ⟨rfl, rfl⟩; rw [hp])
        go_roundw
        case rel => exact ⟨k + 1, by omega, by go_num, Lib.hid (by rw [HT.out, HK.out]; simp [hp]), by first | rfl | trivial⟩
        case measure => simp [intOf]; omega
    · obtain rfl : k = l.length := by omega
      go_wp2_with fail
      go_ret
      refine ⟨⟨-1, rfl, ?_⟩, rfl⟩
      have h := HK.out
      rw [List.take_length] at h
      rw [h]; rfl
set_option maxHeartbeats 1000000 in
theorem containsW_any (l : List Int) (v : Value) (w : World) (hv : SliceV w v 1 IntAt l) :
    Calls Try.prog 85 #[v, .func (.func 87) #[] #[]] w fun e w' => e = .returned (.bool (!l.all wvOk)) ∧ w = w' := by
  have H := Lib.hid (indexW_any l v w hv)
  obtain ⟨a, c, rfl, hl, -⟩ := hv
  go_enter Try.func85, Try.ntmps85
  go_wp2_with (go_at_call 105; refine H.out.mono ?_; rintro e w1 ⟨⟨r, rfl, hr⟩, rfl⟩)
  go_ret
  exact ⟨ret_bool (by rw [← any_not, ← hr]), rfl⟩

/-- Areas that are right. -/
def arsOk (l : List Int) : Bool := decide (l.length ≤ 24) && l.all arOk
set_option maxHeartbeats 1000000 in
theorem areasRight_any (l : List Int) (v : Value) (w : World) (hv : SliceV w v 1 IntAt l) : Calls Try.prog 63 #[v] w fun e w' => e = .returned (.bool (arsOk l)) ∧ w = w' := by
  have H := Lib.hid (containsA_any l v w hv)
  obtain ⟨a, c, rfl, hl, -⟩ := hv
  unfold most at hl
  have he : arsOk l = (decide (l.length ≤ 24) && l.all arOk) := rfl
  rw [he]
  generalize l.length = n at *
  by_cases h : (n : Int) ≤ 24
  · rw [decide_eq_true (show n ≤ 24 by omega), Bool.true_and]
    go_enter Try.func63, Try.ntmps63
    go_wp2_with (go_at_call 85; refine H.out.mono ?_; rintro e w1 ⟨rfl, rfl⟩)
    go_ret
    exact ⟨ret_bool (by first | rfl | (simp; done)), rfl⟩
  · rw [decide_eq_false (show ¬ n ≤ 24 by omega), Bool.false_and]
    go_enter Try.func63, Try.ntmps63
    go_wp2_with (go_at_call 85; refine H.out.mono ?_; rintro e w1 ⟨rfl, rfl⟩)
    go_ret
    exact ⟨ret_bool (by first | rfl | (simp; done)), rfl⟩
/-- What meets at a joint. -/
def meetOk (l m : List Int) : Bool := betw l.length 1 10 && decide (m.length = l.length) && l.all arOk && m.all wvOk
set_option maxHeartbeats 2000000 in
theorem meetingRight_any (l m : List Int) (v u : Value) (w : World) (hv : SliceV w v 1 IntAt l) (hu : SliceV w u 1 IntAt m) : Calls Try.prog 56 #[v, u] w fun e w' => e = .returned (.bool (meetOk l m)) ∧ w = w' := by
  have HA := Lib.hid (containsA_any l v w hv)
  have HB := Lib.hid (containsW_any m u w hu)
  have HBT := Lib.hid (between_any l.length 1 10)
  obtain ⟨a, c, rfl, hl, -⟩ := hv
  obtain ⟨b, d, rfl, hm, -⟩ := hu
  unfold most at hl hm
  have he : meetOk l m = (betw l.length 1 10 && decide (m.length = l.length) && l.all arOk && m.all wvOk) := rfl
  rw [he]
  obtain ⟨n, hn⟩ : ∃ n, l.length = n := ⟨_, rfl⟩
  obtain ⟨k, hk⟩ : ∃ k, m.length = k := ⟨_, rfl⟩
  rw [hn] at hl HA HBT ⊢
  rw [hk] at hm HB ⊢
  clear he hn hk
  cases h1 : betw n 1 10
  · rw [h1] at HBT
    clear h1
    simp only [Bool.false_and]
    go_enter Try.func56, Try.ntmps56
    go_wp2_with (first
      | (go_at_call 71; with_reducible refine Calls.mono (HBT.out _) ?_; rintro e w1 ⟨rfl, rfl⟩)
      | (go_at_call 85; with_reducible refine Calls.mono HA.out ?_; rintro e w1 ⟨rfl, rfl⟩)
      | (go_at_call 85; with_reducible refine Calls.mono HB.out ?_; rintro e w1 ⟨rfl, rfl⟩))
    go_ret
    exact ⟨ret_bool (by first | rfl | (simp; done)), rfl⟩
  · rw [h1] at HBT
    clear h1
    simp only [Bool.true_and]
    by_cases h2 : k = n
    · subst h2
      rw [decide_eq_true rfl]
      simp only [Bool.true_and]
      cases h3 : l.all arOk
      · rw [h3] at HA
        clear h3
        simp only [Bool.false_and]
        go_enter Try.func56, Try.ntmps56
        go_wp2_with (first
          | (go_at_call 71; with_reducible refine Calls.mono (HBT.out _) ?_; rintro e w1 ⟨rfl, rfl⟩)
          | (go_at_call 85; with_reducible refine Calls.mono HA.out ?_; rintro e w1 ⟨rfl, rfl⟩)
          | (go_at_call 85; with_reducible refine Calls.mono HB.out ?_; rintro e w1 ⟨rfl, rfl⟩))
        go_ret
        exact ⟨ret_bool (by first | rfl | (simp; done)), rfl⟩
      · rw [h3] at HA
        clear h3
        simp only [Bool.true_and]
        go_enter Try.func56, Try.ntmps56
        go_wp2_with (first
          | (go_at_call 71; with_reducible refine Calls.mono (HBT.out _) ?_; rintro e w1 ⟨rfl, rfl⟩)
          | (go_at_call 85; with_reducible refine Calls.mono HA.out ?_; rintro e w1 ⟨rfl, rfl⟩)
          | (go_at_call 85; with_reducible refine Calls.mono HB.out ?_; rintro e w1 ⟨rfl, rfl⟩))
        go_ret
        exact ⟨ret_bool (by first | rfl | (simp; done)), rfl⟩
    · rw [decide_eq_false h2]
      simp only [Bool.false_and]
      have h3 : ¬ (k : Int) = (n : Int) := by omega
      have h4 : ((k : Int) == (n : Int)) = false := by simp; omega
      clear h2
      go_enter Try.func56, Try.ntmps56
      go_wp2_with (first
        | (go_at_call 71; with_reducible refine Calls.mono (HBT.out _) ?_; rintro e w1 ⟨rfl, rfl⟩)
        | (go_at_call 85; with_reducible refine Calls.mono HA.out ?_; rintro e w1 ⟨rfl, rfl⟩)
        | (go_at_call 85; with_reducible refine Calls.mono HB.out ?_; rintro e w1 ⟨rfl, rfl⟩))
      go_ret
      exact ⟨ret_bool (by first | rfl | (simp; done)), rfl⟩
set_option maxHeartbeats 1000000 in
theorem refareas_any (l : List Int) (v : Value) (w : World) (hv : SliceV w v 1 IntAt l) : Calls Try.prog 55 #[v] w fun e w' => e = .returned (.bool (arsOk l)) ∧ w = w' := by
  have HV := Lib.hid hv
  obtain ⟨a, c, rfl, hl, -⟩ := hv
  unfold most at hl
  go_enter Try.func55, Try.ntmps55
  go_wp2_with fail
  go_loopw [3] (fun i wr => ∃ k : Nat, k ≤ l.length ∧ i = .int .i64 k ∧ Hid ((l.take k).all arOk = true) ∧ w = wr) (fun i _ => l.length - (intOf i).toNat)
  case atStart => exact ⟨0, Nat.zero_le _, rfl, Lib.hid (by simp), rfl⟩
  case round =>
    obtain ⟨k, hk, rfl, HK, rfl⟩ := hrel
    by_cases hlt : k < l.length
    · obtain ⟨b, o, rfl, hf⟩ := HV.out.at (by intro h; simp [h] at hlt)
      have k0 := hf k hlt
      have HIN : Hid (l[k] ∈ l) := Lib.hid (List.getElem_mem hlt)
      have HT : Hid ((l.take (k + 1)).all arOk = ((l.take k).all arOk && arOk l[k])) := Lib.hid (by rw [take_succ l k hlt, List.all_append]; simp)
      have hkk : (k : Int) < (l.length : Int) := by omega
      clear hf
      generalize l[k] = x at *
      unfold IntAt at k0
      rw [Nat.mul_one] at k0
      have hkb := cell_lt k0
      by_cases h1 : x < 1
      · have h3 : arOk x = false := by simp [arOk, betw]; omega
        go_wp2_with fail
        go_ret
        refine ⟨ret_bool ?_, rfl⟩
        have : l.all arOk = false := List.all_eq_false.2 ⟨x, HIN.out, by simp [h3]⟩
        simp [arsOk, this]
      · by_cases h2 : 1000 < x
        · have h3 : arOk x = false := by simp [arOk, betw]; omega
          go_wp2_with fail
          go_ret
          refine ⟨ret_bool ?_, rfl⟩
          have : l.all arOk = false := List.all_eq_false.2 ⟨x, HIN.out, by simp [h3]⟩
          simp [arsOk, this]
        · have h3 : arOk x = true := by simp [arOk, betw]; omega
          go_wp2_with fail
          go_roundw
          case rel => exact ⟨k + 1, by omega, by go_num, Lib.hid (by rw [HT.out, HK.out, h3]; rfl), by first | rfl | trivial⟩
          case measure => simp [intOf]; omega
    · have h := HK.out
      rw [List.take_of_length_le (by omega)] at h
      have hkn : ¬ (k : Int) < (l.length : Int) := by omega
      by_cases h4 : (l.length : Int) ≤ 24
      · have h5 : arsOk l = true := by simp [arsOk, h]; omega
        go_wp2_with fail
        all_goals first | (exfalso; omega) | (go_ret; first | exact ⟨rfl, rfl⟩ | (rw [h5]; exact ⟨rfl, rfl⟩))
      · have h5 : arsOk l = false := by simp [arsOk, h]; omega
        go_wp2_with fail
        all_goals first | (exfalso; omega) | (go_ret; first | exact ⟨rfl, rfl⟩ | (rw [h5]; exact ⟨rfl, rfl⟩))
end Go.Proofs.Ytbmbcbknoflpgaa
