/- Contracts: Read. -/
import Derived.Test.YtfcopnlpcbbocaaG3
namespace Go.Proofs.Ytfcopnlpcbbocaa
open Go.RowKit

set_option maxRecDepth 100000 in
set_option maxHeartbeats 4000000 in
theorem read1_any (S : Sys) (a : Ask) (ws : List ByteArray) (n : Int) (bs ba bw sb : Nat) (vw : Value) (W : World) (hS : Right S) (ha : AskRight S (numb a n)) (hs0 : SplAt W sb S)
    (hcs : W.cell? ⟨bs, 0, none⟩ = some (.pointer (some ⟨sb, 0, none⟩))) (hca : AskAt W ba 0 a) (hcw : W.cell? ⟨bw, 0, none⟩ = some vw) (hvw : SliceV W vw 1 StrAt ws) :
    Calls Try.prog 56 #[.int .i64 n, .pointer (some ⟨bs, 0, none⟩), .pointer (some ⟨ba, 0, none⟩), .pointer (some ⟨bw, 0, none⟩)] W fun e w' => e = .returned (.bool (decide (wordsOf S (numb a n) = some ws))) ∧ Below W.heap.size W w' := by
  have HV := Lib.hid hvw
  obtain ⟨wa, wc, rfl, hwl, -⟩ := hvw
  unfold most at hwl
  have HS := Lib.hid hS
  have HA := Lib.hid ha
  have HSP := Lib.hid hs0
  obtain ⟨a0, a1, a2, a3⟩ := hca
  simp only [Nat.zero_add] at a1 a2 a3
  have hbs := cell_lt hcs
  have hba := cell_lt a0
  have hbw := cell_lt hcw
  clear hS ha hs0
  have h57 : ∀ W', Calls Try.prog 57 #[.agg #[.int .i64 a.num, .int .i64 a.set, .int .i64 a.gen, .int .i64 a.kas], .int .i64 n] W' fun e w' => e = .returned (.agg #[.int .i64 n, .int .i64 a.set, .int .i64 a.gen, .int .i64 a.kas]) ∧ Below W'.heap.size W' w' := fun W' => numbered_any a n W'
  have h48 : ∀ W', Below W.heap.size W W' → Calls Try.prog 48 #[.pointer (some ⟨sb, 0, none⟩), .agg #[.int .i64 n, .int .i64 a.set, .int .i64 a.gen, .int .i64 a.kas]] W' fun e w' => Spelled S (numb a n) e w' ∧ Below W'.heap.size W' w' := fun W' hB => spell_any S (numb a n) sb W' HS.out HA.out (HSP.out.keep hB)
  have HK1 : ∀ W', Below W.heap.size W W' → (W'.cell? ⟨bs, 0, none⟩ = some (.pointer (some ⟨sb, 0, none⟩)) ∧ W'.cell? ⟨ba, 0, none⟩ = some (.int .i64 a.num) ∧ W'.cell? ⟨ba, 1, none⟩ = some (.int .i64 a.set) ∧ W'.cell? ⟨ba, 2, none⟩ = some (.int .i64 a.gen) ∧ W'.cell? ⟨ba, 3, none⟩ = some (.int .i64 a.kas)) :=
    fun W' hB => ⟨keep hB hcs, keep hB a0, keep hB a1, keep hB a2, keep hB a3⟩
  have H57 := Lib.hid h57
  have H48 := Lib.hid h48
  have HK := Lib.hid HK1
  clear h57 h48 HK1
  go_enter Try.func56, Try.ntmps56
  go_wp2_with fail
  refine wp_opaque fun Q2 hQ2 => ?_
  go_region_held3 (fun W' => (W'.cell? ⟨bs, 0, none⟩ = some (.pointer (some ⟨sb, 0, none⟩)) ∧ W'.cell? ⟨ba, 0, none⟩ = some (.int .i64 a.num) ∧ W'.cell? ⟨ba, 1, none⟩ = some (.int .i64 a.set) ∧ W'.cell? ⟨ba, 2, none⟩ = some (.int .i64 a.gen) ∧ W'.cell? ⟨ba, 3, none⟩ = some (.int .i64 a.kas))) (((try dsimp only); exact HK.out _ (by (repeat (first | exact Below.refl _ _ | refine Below.drew ?_ | refine bThen ?_ hb4 | refine bThen ?_ hb3))))) (first | (go_at_call 57; refine (H57.out _).mono ?_; rintro e w3 ⟨rfl, hb3⟩) | (go_at_call 48; refine (H48.out _ (by (repeat (first | exact Below.refl _ _ | refine Below.drew ?_ | refine bThen ?_ hb3)))).mono ?_; rintro e w4 ⟨hsp, hb4⟩; obtain ⟨ad, k, c, t, rfl, hq⟩ := hsp.shape; clear hsp; have HQ := Lib.hid hq; clear hq))
  have HBF : Below W.heap.size W w4 := by (repeat (first | exact Below.refl _ _ | refine Below.drew ?_ | refine bThen ?_ hb4 | refine bThen ?_ hb3))
  refine hQ2 _ _ _ ?_
  have c1 := keep HBF hcw
  have hcl := cell_lt c1
  cases t
  · have hq := HQ.out.resolve_left (fun h => by cases h.1)
    have HQ2 := Lib.hid hq.2.1
    clear hq
    go_wp2_with fail
    go_ret
    exact ⟨ret_bool (by simp [HQ2.out]), HBF⟩
  · obtain ⟨-, xs, hq1, hq2⟩ := HQ.out.resolve_right (fun h => by cases h.1)
    have HQ1 := Lib.hid hq1
    have HQ2 := Lib.hid hq2
    clear hq1 hq2
    go_wp2_with (go_at_call 58; refine (Equal_any xs ws _ _ _ HQ2.out (HV.out.keep StrAt.stable HBF)).mono ?_; rintro e w5 ⟨rfl, hb5⟩)
    all_goals
      go_ret
      exact ⟨ret_bool (by simp [HQ1.out]), bThen HBF hb5⟩
end Go.Proofs.Ytfcopnlpcbbocaa
