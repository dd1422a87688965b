/- The law of notes sung. -/
import Derived.Test.YtejcbcjhmnhefaaDoorL81
set_option linter.unusedSimpArgs false
set_option linter.unusedVariables false
namespace Go.Proofs.YtejcbcjhmnhefaaDoor
open Go.RowKit

set_option maxRecDepth 100000 in
set_option maxHeartbeats 16000000 in
theorem lawSings_any (l : List Note) (v : Value) (w : World) (hv : SliceV w v 6 NoteAt l) (hS : Semi w) :
    Calls Tryd.prog 14 #[v] w fun e w' => e = .returned (.bool true) ∧ Below w.heap.size w w' := by
  have HS := Lib.hid hS
  have HV := Lib.hid hv
  obtain ⟨a, c, rfl, hl, -⟩ := hv
  unfold most at hl
  have H15 : Hid (∀ W, Below w.heap.size w W → Calls Tryd.prog 15 #[] W fun e w' => e = .returned (.bool true) ∧ Below W.heap.size W w') := Lib.hid fun W hB => known_any W (HS.out.keep hB)
  have H43 : Hid (∀ W, Below w.heap.size w W → _) := Lib.hid fun W hB => Sing_any l (.slice a l.length c) W (HV.out.keep NoteAt.stable hB)
  have H44 : Hid (∀ W, Below w.heap.size w W → _) := Lib.hid fun W hB => refNotes_any l (.slice a l.length c) W (HV.out.keep NoteAt.stable hB)
  have HB1 := Lib.hid (Below.refl w.heap.size w)
  clear hS
  by_cases a1 : (l.length : Int) > 110
  · have d1 : decide ((l.length : Int) > 110) = true := decide_eq_true a1
    go_enter Tryd.func14, Tryd.ntmps14
    go_wp2_with fail
    go_loop [3, 4] (fun x i => ∃ k : Nat, k ≤ l.length ∧ i = .int .i64 k ∧ ∃ s : Int, x = .int .i64 s) (fun _ i => l.length - (intOf i).toNat)
    case atStart => exact ⟨0, Nat.zero_le _, rfl, _, rfl⟩
    case round =>
      obtain ⟨k, hk, rfl, s, rfl⟩ := hrel
      by_cases hlt : k < l.length
      · obtain ⟨b, o, rfl, c0, c1, c2, c3, c4, c5⟩ := note_at HV.out hlt
        have hlb := cell_lt c1
        clear c0 c2 c3 c4 c5
        generalize l[k] = y at *
        by_cases h1 : y.length > 0
        · have e1 : decide (y.length > 0) = true := decide_eq_true h1
          by_cases h2 : y.length ≤ 1000
          · have e2 : decide (y.length ≤ 1000) = true := decide_eq_true h2
            go_wp2_with fail
            go_round
            case rel => exact ⟨k + 1, by omega, by go_num, _, rfl⟩
            case measure => simp [intOf]; omega
          · have e2 : decide (y.length ≤ 1000) = false := decide_eq_false h2
            go_wp2_with fail
            go_round
            case rel => exact ⟨k + 1, by omega, by go_num, _, rfl⟩
            case measure => simp [intOf]; omega
        · have e1 : decide (y.length > 0) = false := decide_eq_false h1
          go_wp2_with fail
          go_round
          case rel => exact ⟨k + 1, by omega, by go_num, _, rfl⟩
          case measure => simp [intOf]; omega
      · obtain rfl : k = l.length := by omega
        go_wp2_with fail
        refine (H15.out _ HB1.out).mono ?_
        rintro e w9 ⟨rfl, hb⟩
        have HB9 := Lib.hid (bThen HB1.out hb)
        clear hb
        go_wp2_with fail
        go_ret
        exact ⟨rfl, HB9.out⟩
  · have d1 : decide ((l.length : Int) > 110) = false := decide_eq_false a1
    go_enter Tryd.func14, Tryd.ntmps14
    go_wp2_with fail
    go_loop [3, 4] (fun x i => ∃ k : Nat, k ≤ l.length ∧ i = .int .i64 k ∧ ∃ s : Int, x = .int .i64 s ∧ (0 ≤ s ∧ s ≤ 1000 * (k : Int))) (fun _ i => l.length - (intOf i).toNat)
    case atStart => exact ⟨0, Nat.zero_le _, rfl, _, rfl, by omega⟩
    case round =>
      obtain ⟨k, hk, rfl, s, rfl, hs⟩ := hrel
      by_cases hlt : k < l.length
      · obtain ⟨b, o, rfl, c0, c1, c2, c3, c4, c5⟩ := note_at HV.out hlt
        have hlb := cell_lt c1
        clear c0 c2 c3 c4 c5
        generalize l[k] = y at *
        by_cases h1 : y.length > 0
        · have e1 : decide (y.length > 0) = true := decide_eq_true h1
          by_cases h2 : y.length ≤ 1000
          · have e2 : decide (y.length ≤ 1000) = true := decide_eq_true h2
            go_wp2_with fail
            go_round
            case rel => exact ⟨k + 1, by omega, by go_num, _, rfl, by omega⟩
            case measure => simp [intOf]; omega
          · have e2 : decide (y.length ≤ 1000) = false := decide_eq_false h2
            go_wp2_with fail
            go_round
            case rel => exact ⟨k + 1, by omega, by go_num, _, rfl, by omega⟩
            case measure => simp [intOf]; omega
        · have e1 : decide (y.length > 0) = false := decide_eq_false h1
          go_wp2_with fail
          go_round
          case rel => exact ⟨k + 1, by omega, by go_num, _, rfl, by omega⟩
          case measure => simp [intOf]; omega
      · obtain rfl : k = l.length := by omega
        by_cases h1 : s > 300
        · have e1 : decide (s > 300) = true := decide_eq_true h1
          by_cases h2 : s ≤ 4000
          · have e2 : decide (s ≤ 4000) = true := decide_eq_true h2
            go_wp2_with fail
            refine (H15.out _ HB1.out).mono ?_
            rintro e w9 ⟨rfl, hb⟩
            have HB9 := Lib.hid (bThen HB1.out hb)
            clear hb
            go_wp2_with fail
            go_ret
            exact ⟨rfl, HB9.out⟩
          · have e2 : decide (s ≤ 4000) = false := decide_eq_false h2
            cases hok : notesOk l
            · rw [hok] at H44
              go_wp2_with fail
              refine (H43.out _ HB1.out).mono ?_
              rintro e w1 ⟨⟨-, rfl⟩ | ⟨hno, -⟩, hb⟩
              case inr => rw [hok] at hno; cases hno
              replace HB1 := Lib.hid (bThen HB1.out hb)
              clear hb
              go_wp2_with fail
              refine (H44.out _ HB1.out).mono ?_
              rintro e w2 ⟨rfl, hb⟩
              replace HB1 := Lib.hid (bThen HB1.out hb)
              clear hb
              go_wp2_with fail
              refine (H15.out _ HB1.out).mono ?_
              rintro e w9 ⟨rfl, hb⟩
              have HB9 := Lib.hid (bThen HB1.out hb)
              clear hb
              go_wp2_with fail
              go_ret
              exact ⟨rfl, HB9.out⟩
            · have hin := notesOk_all hok
              have H45 : Hid (∀ W, Below w.heap.size w W → _) := Lib.hid fun W hB => refSing_any l (.slice a l.length c) W (HV.out.keep NoteAt.stable hB) hin.2.1 hin.1
              rw [hok] at H44
              clear hin
              go_wp2_with fail
              refine (H43.out _ HB1.out).mono ?_
              rintro e w1 ⟨⟨hno, -⟩ | ⟨-, ad, cc, rfl, hr⟩, hb⟩
              · rw [hok] at hno; cases hno
              have HR := Lib.hid hr
              clear hr
              replace HB1 := Lib.hid (bThen HB1.out hb)
              clear hb
              go_wp2_with fail
              refine (H44.out _ HB1.out).mono ?_
              rintro e w2 ⟨rfl, hb⟩
              have HR2 := Lib.hid (HR.out.keep IntAt.stable hb)
              replace HB1 := Lib.hid (bThen HB1.out hb)
              clear hb
              go_wp2_with fail
              refine (H45.out _ HB1.out).mono ?_
              rintro e w3 ⟨⟨u, rfl, hu⟩, hb⟩
              have HR3 := Lib.hid (HR2.out.keep IntAt.stable hb)
              have HU := Lib.hid hu
              clear hu
              replace HB1 := Lib.hid (bThen HB1.out hb)
              clear hb
              go_wp2_with fail
              refine (Same_any _ _ _ _ _ HR3.out HU.out).mono ?_
              rintro e w5 ⟨rfl, hb⟩
              rw [decide_eq_true rfl]
              replace HB1 := Lib.hid (bThen HB1.out hb)
              clear hb
              go_wp2_with fail
              refine (H15.out _ HB1.out).mono ?_
              rintro e w9 ⟨rfl, hb⟩
              have HB9 := Lib.hid (bThen HB1.out hb)
              clear hb
              go_wp2_with fail
              go_ret
              exact ⟨rfl, HB9.out⟩
        · have e1 : decide (s > 300) = false := decide_eq_false h1
          cases hok : notesOk l
          · rw [hok] at H44
            go_wp2_with fail
            refine (H43.out _ HB1.out).mono ?_
            rintro e w1 ⟨⟨-, rfl⟩ | ⟨hno, -⟩, hb⟩
            case inr => rw [hok] at hno; cases hno
            replace HB1 := Lib.hid (bThen HB1.out hb)
            clear hb
            go_wp2_with fail
            refine (H44.out _ HB1.out).mono ?_
            rintro e w2 ⟨rfl, hb⟩
            replace HB1 := Lib.hid (bThen HB1.out hb)
            clear hb
            go_wp2_with fail
            refine (H15.out _ HB1.out).mono ?_
            rintro e w9 ⟨rfl, hb⟩
            have HB9 := Lib.hid (bThen HB1.out hb)
            clear hb
            go_wp2_with fail
            go_ret
            exact ⟨rfl, HB9.out⟩
          · have hin := notesOk_all hok
            have H45 : Hid (∀ W, Below w.heap.size w W → _) := Lib.hid fun W hB => refSing_any l (.slice a l.length c) W (HV.out.keep NoteAt.stable hB) hin.2.1 hin.1
            rw [hok] at H44
            clear hin
            go_wp2_with fail
            refine (H43.out _ HB1.out).mono ?_
            rintro e w1 ⟨⟨hno, -⟩ | ⟨-, ad, cc, rfl, hr⟩, hb⟩
            · rw [hok] at hno; cases hno
            have HR := Lib.hid hr
            clear hr
            replace HB1 := Lib.hid (bThen HB1.out hb)
            clear hb
            go_wp2_with fail
            refine (H44.out _ HB1.out).mono ?_
            rintro e w2 ⟨rfl, hb⟩
            have HR2 := Lib.hid (HR.out.keep IntAt.stable hb)
            replace HB1 := Lib.hid (bThen HB1.out hb)
            clear hb
            go_wp2_with fail
            refine (H45.out _ HB1.out).mono ?_
            rintro e w3 ⟨⟨u, rfl, hu⟩, hb⟩
            have HR3 := Lib.hid (HR2.out.keep IntAt.stable hb)
            have HU := Lib.hid hu
            clear hu
            replace HB1 := Lib.hid (bThen HB1.out hb)
            clear hb
            go_wp2_with fail
            refine (Same_any _ _ _ _ _ HR3.out HU.out).mono ?_
            rintro e w5 ⟨rfl, hb⟩
            rw [decide_eq_true rfl]
            replace HB1 := Lib.hid (bThen HB1.out hb)
            clear hb
            go_wp2_with fail
            refine (H15.out _ HB1.out).mono ?_
            rintro e w9 ⟨rfl, hb⟩
            have HB9 := Lib.hid (bThen HB1.out hb)
            clear hb
            go_wp2_with fail
            go_ret
            exact ⟨rfl, HB9.out⟩
end Go.Proofs.YtejcbcjhmnhefaaDoor
