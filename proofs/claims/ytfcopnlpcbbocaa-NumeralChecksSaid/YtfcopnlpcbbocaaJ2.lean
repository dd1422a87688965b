/- Contracts: the class of a number, by the specification. -/
import Derived.Test.YtfcopnlpcbbocaaI3
namespace Go.Proofs.Ytfcopnlpcbbocaa
open Go.RowKit

set_option maxRecDepth 100000 in
set_option maxHeartbeats 4000000 in
theorem refClass_any (S : Sys) (n : Int) (vt vp vs : Value) (w : World) (hp : SysParts w vt vp vs S) (hn : 0 ≤ n) (hmod : ∀ i (h : i < S.plurals.length), 1 ≤ S.plurals[i].mod) :
    Calls Try.prog 19 #[sysVal S vt vp vs, .int .i64 n] w fun e w' => e = .returned (.int .i64 (classOf n S.plurals)) ∧ Below w.heap.size w w' := by
  obtain ⟨⟨at_, ct, rfl, hl1, -⟩, ⟨ap, cp, rfl, hl, hx⟩, ⟨as_, cs, rfl, hl3, -⟩⟩ := hp
  unfold most at hl
  unfold sysVal
  go_enter Try.func19, Try.ntmps19
  go_wp2_with fail
  generalize hW : World.alloc w _ = W1
  have hB1 : Below w.heap.size w W1 := by rw [← hW]; exact bAlloc (Below.refl _ _) _
  have s5 : W1.cell? ⟨w.heap.size, 5, none⟩ = some (.slice ap S.plurals.length cp) := by rw [← hW]; exact cell_new rfl
  clear hW
  go_loopw [5] (fun i wr => ∃ k : Nat, k ≤ S.plurals.length ∧ i = .int .i64 k ∧ Hid (classOf n S.plurals = classOf n (S.plurals.drop k)) ∧ Below W1.heap.size W1 wr) (fun i _ => S.plurals.length - (intOf i).toNat)
  case atStart => exact ⟨0, Nat.zero_le _, rfl, Lib.hid rfl, Below.refl _ _⟩
  case round =>
    obtain ⟨k, hk, rfl, HC, hB⟩ := hrel
    have s5 := keep hB s5
    have hsl := cell_lt s5
    by_cases hlt : k < S.plurals.length
    · rcases hx with hnil | ⟨pb, po, rfl, hp⟩
      · simp [hnil] at hlt
      obtain ⟨p0, p1, p2, p3⟩ := PluAt.stable _ _ _ _ _ (bThen hB1 hB) (hp k hlt)
      have hpb := cell_lt p0
      have hm := hmod k hlt
      have hdr : S.plurals.drop k = S.plurals[k] :: S.plurals.drop (k + 1) := List.drop_eq_getElem_cons hlt
      have HD := Lib.hid hdr
      clear hp hdr hmod
      generalize S.plurals[k] = p at *
      cases g1 : decide (p.frm ≤ n % p.mod)
      · have G1 : Hid (plHolds n p = false) := Lib.hid (by simp [plHolds, betw, g1])
        go_wp2_with fail
        generalize hW2 : World.alloc wr _ = W2
        have HB2 : Below wr.heap.size wr W2 := by rw [← hW2]; exact bAlloc (Below.refl _ _) _
        have q0 : W2.cell? ⟨wr.heap.size, 0, none⟩ = some (.int .i64 p.mod) := by rw [← hW2]; simp
        have q1 : W2.cell? ⟨wr.heap.size, 1, none⟩ = some (.int .i64 p.frm) := by rw [← hW2]; simp
        have q2 : W2.cell? ⟨wr.heap.size, 2, none⟩ = some (.int .i64 p.upto) := by rw [← hW2]; simp
        have q3 : W2.cell? ⟨wr.heap.size, 3, none⟩ = some (.int .i64 p.cls) := by rw [← hW2]; simp
        have ql := cell_lt q0
        clear hW2
        refine wp_opaque fun Q2 hQ2 => ?_
        (refine wp_region_below (by kernel_rfl) (by kernel_rfl) ?_; (repeat (first | go_big_quiet_step (fail) | quiet_step (fail))); (refine wpQuiet_nil ?_; intro _ hw'; obtain ⟨xq, hw''⟩ := hw'; subst hw''))
        refine hQ2 _ _ _ ?_
        have e3 := keep xq.2 q3
        have HB3 := bThen hB (bThen HB2 xq.2)
        go_wp2_with fail
        go_roundw
        case rel => exact ⟨k + 1, by omega, by go_num, Lib.hid (by rw [HC.out, HD.out, classOf, G1.out]; rfl), HB3⟩
        case measure => simp [intOf]; omega
      · cases g2 : decide (n % p.mod ≤ p.upto)
        · have G1 : Hid (plHolds n p = false) := Lib.hid (by simp [plHolds, betw, g1, g2])
          go_wp2_with fail
          generalize hW2 : World.alloc wr _ = W2
          have HB2 : Below wr.heap.size wr W2 := by rw [← hW2]; exact bAlloc (Below.refl _ _) _
          have q0 : W2.cell? ⟨wr.heap.size, 0, none⟩ = some (.int .i64 p.mod) := by rw [← hW2]; simp
          have q1 : W2.cell? ⟨wr.heap.size, 1, none⟩ = some (.int .i64 p.frm) := by rw [← hW2]; simp
          have q2 : W2.cell? ⟨wr.heap.size, 2, none⟩ = some (.int .i64 p.upto) := by rw [← hW2]; simp
          have q3 : W2.cell? ⟨wr.heap.size, 3, none⟩ = some (.int .i64 p.cls) := by rw [← hW2]; simp
          have ql := cell_lt q0
          clear hW2
          refine wp_opaque fun Q2 hQ2 => ?_
          (refine wp_region_below (by kernel_rfl) (by kernel_rfl) ?_; (repeat (first | go_big_quiet_step (fail) | quiet_step (fail))); (refine wpQuiet_nil ?_; intro _ hw'; obtain ⟨xq, hw''⟩ := hw'; subst hw''))
          refine hQ2 _ _ _ ?_
          have e3 := keep xq.2 q3
          have HB3 := bThen hB (bThen HB2 xq.2)
          go_wp2_with fail
          go_roundw
          case rel => exact ⟨k + 1, by omega, by go_num, Lib.hid (by rw [HC.out, HD.out, classOf, G1.out]; rfl), HB3⟩
          case measure => simp [intOf]; omega
        · have G1 : Hid (plHolds n p = true) := Lib.hid (by simp [plHolds, betw, g1, g2])
          go_wp2_with fail
          generalize hW2 : World.alloc wr _ = W2
          have HB2 : Below wr.heap.size wr W2 := by rw [← hW2]; exact bAlloc (Below.refl _ _) _
          have q0 : W2.cell? ⟨wr.heap.size, 0, none⟩ = some (.int .i64 p.mod) := by rw [← hW2]; simp
          have q1 : W2.cell? ⟨wr.heap.size, 1, none⟩ = some (.int .i64 p.frm) := by rw [← hW2]; simp
          have q2 : W2.cell? ⟨wr.heap.size, 2, none⟩ = some (.int .i64 p.upto) := by rw [← hW2]; simp
          have q3 : W2.cell? ⟨wr.heap.size, 3, none⟩ = some (.int .i64 p.cls) := by rw [← hW2]; simp
          have ql := cell_lt q0
          clear hW2
          refine wp_opaque fun Q2 hQ2 => ?_
          (refine wp_region_below (by kernel_rfl) (by kernel_rfl) ?_; (repeat (first | go_big_quiet_step (fail) | quiet_step (fail))); (refine wpQuiet_nil ?_; intro _ hw'; obtain ⟨xq, hw''⟩ := hw'; subst hw''))
          refine hQ2 _ _ _ ?_
          have e3 := keep xq.2 q3
          have HB3 := bThen hB (bThen HB2 xq.2)
          go_wp2_with fail
          go_ret
          exact ⟨ret_int (by rw [HC.out, HD.out, classOf, G1.out]; rfl), bThen hB1 HB3⟩
    · obtain rfl : k = S.plurals.length := by omega
      clear hmod
      go_wp2_with fail
      go_ret
      exact ⟨ret_int (by rw [HC.out]; simp [classOf]), bThen hB1 hB⟩
end Go.Proofs.Ytfcopnlpcbbocaa
