/- Contracts: marks, marked waves; short waves. -/
import Derived.Test.YtbeeddenidfenaaA3
set_option linter.unusedSimpArgs false
set_option linter.unusedVariables false
namespace Go.Proofs.Ytbeeddenidfenaa
open Go.RowKit

def mOk : List Int → Int → Int → Bool
  | [], _, _ => true
  | m :: l, f, n => betw m f n && mOk l (m + 1) n
def marksOk (l : List Int) (n : Int) : Bool := mOk l 0 n && decide (2 ≤ l.length)
def MkV (w : World) (vs vm : Value) (m : Mk) : Prop := SliceV w vs 1 IntAt m.sam ∧ SliceV w vm 1 IntAt m.marks
theorem MkV.keep {w w' : World} {vs vm : Value} {m : Mk} (h : MkV w vs vm m) (hB : Below w.heap.size w w') : MkV w' vs vm m := ⟨h.1.keep IntAt.stable hB, h.2.keep IntAt.stable hB⟩
/-- The error of a marked wave; 'right' tells about all else. -/
def mkErr (right : Bool) (m : Mk) : Int := chk (right && marksOk m.marks m.sam.length) [m.sam]
theorem mOk_drop {l : List Int} {k : Nat} (h : k < l.length) (f n : Int) : mOk (l.drop k) f n = (betw l[k] f n && mOk (l.drop (k + 1)) (l[k] + 1) n) := by
  rw [List.drop_eq_getElem_cons h]; rfl

set_option maxHeartbeats 1000000 in
theorem marksRight_any (l : List Int) (n : Nat) (v : Value) (w : World) (hv : SliceV w v 1 IntAt l) (hn : n ≤ 1000000) :
    Calls Try.prog 81 #[v, .int .i64 n] w fun e w' => e = .returned (.bool (marksOk l n)) ∧ w = w' := by
  have HV := Lib.hid hv
  obtain ⟨a, c, rfl, hl, -⟩ := hv
  unfold most at hl
  go_enter Try.func81, Try.ntmps81
  go_wp2_with fail
  go_loopw [5, 10] (fun f i wr => ∃ (k : Nat) (x : Int), k ≤ l.length ∧ i = .int .i64 k ∧ f = .int .i64 x ∧ 0 ≤ x ∧ x ≤ n + 1 ∧ Hid (mOk l 0 n = mOk (l.drop k) x n) ∧ w = wr) (fun _ i _ => l.length - (intOf i).toNat)
  case atStart => exact ⟨0, 0, Nat.zero_le _, rfl, rfl, by omega, by omega, Lib.hid rfl, rfl⟩
  case round =>
    obtain ⟨k, x, hk, rfl, rfl, hx0, hx1, HK, rfl⟩ := hrel
    by_cases hlt : k < l.length
    · obtain ⟨b, o, rfl, hf⟩ := HV.out.at (by intro h; simp [h] at hlt)
      have k0 := hf k hlt
      have HT := Lib.hid (mOk_drop hlt x n)
      clear hf
      generalize l[k] = y at *
      unfold IntAt at k0
      rw [Nat.mul_one] at k0
      cases hp : betw y x n
      · go_wp2_with (go_at_call 75; refine (between_any _ _ _ _).mono ?_; rintro e w1 ⟨rfl, rfl⟩)
        go_ret
        refine ⟨ret_bool ?_, rfl⟩
        unfold marksOk
        rw [HK.out, HT.out, hp]; rfl
      · have hp' := hp
        simp only [betw, Bool.and_eq_true, decide_eq_true_eq] at hp'
        go_wp2_with (go_at_call 75; refine (between_any _ _ _ _).mono ?_; rintro e w1 ⟨rfl, rfl⟩)
        go_roundw
        case rel => exact ⟨k + 1, y + 1, by omega, by go_num, by first | rfl | go_num, by omega, by omega, Lib.hid (by rw [HK.out, HT.out, hp]; rfl), by first | rfl | trivial⟩
        case measure => simp [intOf]; omega
    · obtain rfl : k = l.length := by omega
      go_wp2_with fail
      go_ret
      refine ⟨ret_bool ?_, rfl⟩
      unfold marksOk
      rw [HK.out, List.drop_length]
      simp [mOk]
      omega
set_option maxRecDepth 10000 in
set_option maxHeartbeats 4000000 in
theorem Marked_any (m : Mk) (vs vm : Value) (w : World) (hv : MkV w vs vm m) (hn : m.sam.length ≤ 1000000) :
    Calls Try.prog 20 #[.agg #[vs, vm]] w fun e w' => e = .returned (.int .i64 (mkErr true m)) ∧ Below w.heap.size w w' := by
  have HW := fun W hb => Lib.hid (Wave_any m.sam vs W (hv.1.keep IntAt.stable hb))
  have HM := Lib.hid hv.2
  obtain ⟨⟨a, c, rfl, hl, -⟩, ⟨am, cm, rfl, hlm, -⟩⟩ := hv
  unfold most at hl hlm
  have HN := Lib.hid (bAlloc (Below.refl w.heap.size w) (.cells #[.slice a m.sam.length c, .slice am m.marks.length cm] 24))
  have HWN := HW _ HN.out
  clear HW
  unfold mkErr
  by_cases hw : chk true [m.sam] = 0
  · rw [hw] at HWN
    have hkk : chk (true && marksOk m.marks m.sam.length) [m.sam] = if marksOk m.marks m.sam.length = true then 0 else 2 := by
      rw [chk_one] at hw ⊢
      by_cases h1 : 100000 < (m.sam.length : Int)
      · rw [if_pos h1] at hw; cases hw
      · rw [if_neg h1] at hw ⊢
        by_cases h2 : waveOk m.sam = true
        · simp [h2]
        · simp [h2] at hw
    rw [hkk]
    clear hw hkk
    have c0 : (w.alloc (.cells #[.slice a m.sam.length c, .slice am m.marks.length cm] 24)).cell? ⟨w.heap.size, 0, none⟩ = some (.slice a m.sam.length c) := cell_new rfl
    have c1 : (w.alloc (.cells #[.slice a m.sam.length c, .slice am m.marks.length cm] 24)).cell? ⟨w.heap.size, 1, none⟩ = some (.slice am m.marks.length cm) := cell_new rfl
    generalize m.sam.length = n at *
    generalize m.marks = l at *
    obtain ⟨er, her⟩ : ∃ er : Int, er = if marksOk l n = true then 0 else 2 := ⟨_, rfl⟩
    rw [← her]
    have HER := Lib.hid her
    clear her
    go_enter Try.func20, Try.ntmps20
    go_wp2_with (go_at_call 23; refine HWN.out.mono ?_; rintro e w1 ⟨rfl, rfl⟩)
    clear HWN
    generalize World.alloc w _ = W1 at *
    go_loopw [4] (fun i wr => ∃ (k : Nat) (x : Int), k ≤ l.length ∧ i = .int .i64 k ∧ 0 ≤ x ∧ x ≤ n + 1 ∧ Hid (x = if k = 0 then 0 else l.getD (k - 1) 0 + 1) ∧ Hid (mOk l 0 n = mOk (l.drop k) x n) ∧ Below W1.heap.size W1 wr) (fun i _ => l.length - (intOf i).toNat)
    case atStart => exact ⟨0, 0, Nat.zero_le _, rfl, by omega, by omega, Lib.hid rfl, Lib.hid rfl, Below.refl _ _⟩
    case round =>
      obtain ⟨k, x, hk, rfl, hx0, hx1, HX, HK, hB⟩ := hrel
      replace c0 := keep hB c0
      replace c1 := keep hB c1
      have hcl := cell_lt c0
      by_cases hlt : k < l.length
      · have hne : l ≠ [] := by intro h; simp [h] at hlt
        obtain ⟨b, o, rfl, hf⟩ := (HM.out.keep IntAt.stable (bThen HN.out hB)).at hne
        have k0 := hf k hlt
        have hp0 : 0 < k → wr.cell? ⟨b, o + (k - 1), none⟩ = some (.int .i64 (l.getD (k - 1) 0)) := fun h0 => by
          have := hf (k - 1) (by omega)
          unfold IntAt at this
          rw [Nat.mul_one] at this
          rw [this, List.getD_eq_getElem?_getD, List.getElem?_eq_getElem (by omega)]; rfl
        have HP0 := Lib.hid hp0
        have HT := Lib.hid (mOk_drop hlt x n)
        have HY : Hid (l[k] = l.getD k 0) := Lib.hid (by rw [List.getD_eq_getElem?_getD, List.getElem?_eq_getElem hlt]; rfl)
        clear hf hp0
        generalize l[k] = y at *
        unfold IntAt at k0
        rw [Nat.mul_one] at k0
        have hbl := cell_lt k0
        have hin := fun W => in_any y 0 n W
        cases hp : betw y 0 n
        · rw [hp] at hin
          have HIN := Lib.hid hin
          clear hin
          have hz : betw y x n = false := by
            cases h : betw y x n
            · rfl
            · simp only [betw, Bool.and_eq_true, Bool.and_eq_false_iff, decide_eq_true_eq, decide_eq_false_iff_not] at h hp
              omega
          have HZ := Lib.hid hz
          clear hz
          go_wp2_with fail
          refine wp_opaque fun Q2 hQ2 => ?_
          (refine wp_region_below (by kernel_rfl) (by kernel_rfl) ?_; (repeat (first | go_big_quiet_step ((go_at_call 58; exact toS HIN.out _)) | quiet_step ((go_at_call 58; exact toS HIN.out _)))); (refine wpQuiet_nil ?_; intro _ hw'; obtain ⟨xq, hw''⟩ := hw'; subst hw''))
          refine hQ2 _ _ _ ?_
          go_wp2_with fail
          go_ret
          refine ⟨ret_int ?_, bThen HN.out (bThen hB xq.2)⟩
          rw [HER.out, if_neg]
          unfold marksOk
          rw [HK.out, HT.out, HZ.out]; simp
        · rw [hp] at hin
          have HIN := Lib.hid hin
          clear hin
          have hpp := hp
          simp only [betw, Bool.and_eq_true, decide_eq_true_eq] at hpp
          by_cases hk0 : 0 < k
          · have p0 := HP0.out hk0
            have hxe := HX.out
            rw [if_neg (by omega)] at hxe
            generalize l.getD (k - 1) 0 = z at *
            have hik : (0 : Int) < (k : Int) := by omega
            have hkm : ((k : Int) - 1) = ((k - 1 : Nat) : Int) := by omega
            have hkl : k - 1 < l.length := by omega
            have hq : IntKind.i64.wrap ((k : Int) - 1) = ((k - 1 : Nat) : Int) := by rw [hkm]; exact IntWalk.i64_in _ (by omega)
            by_cases hle : y ≤ z
            · have hz : betw y x n = false := by
                cases h : betw y x n
                · rfl
                · simp only [betw, Bool.and_eq_true, decide_eq_true_eq] at h
                  omega
              have HZ := Lib.hid hz
              clear hz hxe hkm HX
              generalize k - 1 = j at *
              go_wp2_with fail
              refine wp_opaque fun Q2 hQ2 => ?_
              (refine wp_region_below (by kernel_rfl) (by kernel_rfl) ?_; (repeat (first | go_big_quiet_step ((go_at_call 58; exact toS HIN.out _)) | quiet_step ((go_at_call 58; exact toS HIN.out _)))); (refine wpQuiet_nil ?_; intro _ hw'; obtain ⟨xq, hw''⟩ := hw'; subst hw''))
              refine hQ2 _ _ _ ?_
              go_wp2_with fail
              go_ret
              refine ⟨ret_int ?_, bThen HN.out (bThen hB xq.2)⟩
              rw [HER.out, if_neg]
              unfold marksOk
              rw [HK.out, HT.out, HZ.out]; simp
            · have hz : betw y x n = true := by
                simp only [betw, Bool.and_eq_true, decide_eq_true_eq]
                omega
              have HZ := Lib.hid hz
              clear hz hxe hkm HX
              generalize k - 1 = j at *
              go_wp2_with fail
              refine wp_opaque fun Q2 hQ2 => ?_
              (refine wp_region_below (by kernel_rfl) (by kernel_rfl) ?_; (repeat (first | go_big_quiet_step ((go_at_call 58; exact toS HIN.out _)) | quiet_step ((go_at_call 58; exact toS HIN.out _)))); (refine wpQuiet_nil ?_; intro _ hw'; obtain ⟨xq, hw''⟩ := hw'; subst hw''))
              refine hQ2 _ _ _ ?_
              go_wp2_with fail
              go_roundw
              case rel => exact ⟨k + 1, y + 1, by omega, by go_num, by omega, by omega, Lib.hid (by rw [if_neg (by omega), Nat.add_sub_cancel, ← HY.out]), Lib.hid (by rw [HK.out, HT.out, HZ.out]; rfl), bThen hB xq.2⟩
              case measure => simp [intOf]; omega
          · have hxe := HX.out
            rw [if_pos (by omega)] at hxe
            have HZ : Hid (betw y x n = true) := Lib.hid (by rw [hxe]; exact hp)
            have hik : ¬ (0 : Int) < (k : Int) := by omega
            clear hxe HX
            go_wp2_with fail
            refine wp_opaque fun Q2 hQ2 => ?_
            (refine wp_region_below (by kernel_rfl) (by kernel_rfl) ?_; (repeat (first | go_big_quiet_step ((go_at_call 58; exact toS HIN.out _)) | quiet_step ((go_at_call 58; exact toS HIN.out _)))); (refine wpQuiet_nil ?_; intro _ hw'; obtain ⟨xq, hw''⟩ := hw'; subst hw''))
            refine hQ2 _ _ _ ?_
            go_wp2_with fail
            go_roundw
            case rel => exact ⟨k + 1, y + 1, by omega, by go_num, by omega, by omega, Lib.hid (by rw [if_neg (by omega), Nat.add_sub_cancel, ← HY.out]), Lib.hid (by rw [HK.out, HT.out, HZ.out]; rfl), bThen hB xq.2⟩
            case measure => simp [intOf]; omega
      · obtain rfl : k = l.length := by omega
        have HE : Hid (marksOk l n = decide (2 ≤ l.length)) := Lib.hid (by unfold marksOk; rw [HK.out, List.drop_length]; simp [mOk])
        clear HK HX
        by_cases h2 : (l.length : Int) < 2
        · go_wp2_with fail
          go_ret
          exact ⟨ret_int (by rw [HER.out, if_neg]; rw [HE.out]; simp; omega), bThen HN.out hB⟩
        · go_wp2_with fail
          go_ret
          exact ⟨ret_int (by rw [HER.out, if_pos]; rw [HE.out]; simp; omega), bThen HN.out hB⟩
  · have hkk : chk (true && marksOk m.marks m.sam.length) [m.sam] = chk true [m.sam] := by
      rw [chk_one] at hw
      rw [chk_one, chk_one]
      by_cases h1 : 100000 < (m.sam.length : Int)
      · rw [if_pos h1, if_pos h1]
      · rw [if_neg h1] at hw ⊢
        by_cases h2 : waveOk m.sam = true
        · simp [h2] at hw
        · simp [h2, h1]
    rw [hkk]
    have hwb : (chk true [m.sam] == 0) = false := by simp [hw]
    generalize chk true [m.sam] = e0 at *
    clear hkk
    go_enter Try.func20, Try.ntmps20
    go_wp2_with (go_at_call 23; refine HWN.out.mono ?_; rintro e w1 ⟨rfl, rfl⟩)
    go_ret
    exact ⟨rfl, HN.out⟩
end Go.Proofs.Ytbeeddenidfenaa
