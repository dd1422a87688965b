/- Contracts of the specification's checks: features, texts, terms, pieces. -/
import Derived.Test.YtfcopnlpcbbocaaH3
namespace Go.Proofs.Ytfcopnlpcbbocaa
open Go.RowKit

def feat (x n : Int) : Bool := decide (-1 ≤ x) && decide (x < n)
theorem feat_or (x n : Int) (h : 0 ≤ n) : feat x n = orAny x n := by
  unfold feat orAny exst
  rw [Bool.eq_iff_iff]
  simp
  omega
set_option maxHeartbeats 400000 in
theorem feature_any (x n : Int) (w : World) : Calls Try.prog 76 #[.int .i64 x, .int .i64 n] w fun e w' => e = .returned (.bool (feat x n)) ∧ w = w' := by
  by_cases h : -1 ≤ x
  · go_enter Try.func76, Try.ntmps76
    go_wp2
    go_ret
    exact ⟨by simp [feat, h], rfl⟩
  · go_enter Try.func76, Try.ntmps76
    go_wp2
    go_ret
    exact ⟨by simp [feat]; omega, rfl⟩

set_option maxHeartbeats 1000000 in
theorem text_ok_any (t : ByteArray) (w : World) (ht : t.size ≤ most) : Calls Try.prog 77 #[.string t] w fun e w' => e = .returned (.bool (textOk t)) ∧ w = w' := by
  unfold most at ht
  go_enter Try.func77, Try.ntmps77
  go_wp2_with fail
  go_loop [3] (fun i => ∃ k : Nat, k ≤ t.size ∧ i = .int .i64 k ∧ ∀ j (h : j < t.size), j < k → betw ((t[j]).toNat : Int) 33 126 = true) (fun i => t.size - (intOf i).toNat)
  case atStart => exact ⟨0, Nat.zero_le _, rfl, fun j _ h => by omega⟩
  case round =>
    obtain ⟨k, hk, rfl, hall⟩ := hrel
    have HA := Lib.hid hall
    clear hall
    by_cases hlt : k < t.size
    · have HN : Hid (betw ((t[k]).toNat : Int) 33 126 = false → textOk t = false) := Lib.hid fun hx => by
        cases ht' : textOk t
        · rfl
        · rw [((textOk_iff t).1 ht').2 k hlt] at hx
          exact absurd hx (by simp)
      go_wp2_with fail
      all_goals first
        | (go_ret; exact ⟨ret_bool (HN.out (by simp [betw]; omega)).symm, rfl⟩)
        | (go_round
           case rel =>
             refine ⟨k + 1, by omega, by go_num, fun j h h' => ?_⟩
             by_cases e : j = k
             · subst e; simp [betw]; omega
             · exact HA.out j h (by omega)
           case measure => simp [intOf]; omega)
    · have HX : Hid (textOk t = betw t.size 1 30) := Lib.hid (by
        cases hb : betw t.size 1 30
        · simp [textOk, hb]
        · exact (textOk_iff t).2 ⟨hb, fun j h => HA.out j h (by omega)⟩)
      go_wp2
      all_goals
        go_ret
        exact ⟨ret_bool (by rw [HX.out]; simp [betw]; try omega), rfl⟩
end Go.Proofs.Ytfcopnlpcbbocaa
