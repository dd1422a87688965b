/- Contracts: 'small' answers. -/
import Derived.Test.YtfcopnlpcbbocaaI1
set_option linter.unusedSimpArgs false
set_option linter.unusedVariables false
namespace Go.Proofs.Ytfcopnlpcbbocaa
open Go.RowKit

def SomeBool (W : World) (e : Ending) (w' : World) : Prop := (∃ b : Bool, e = .returned (.bool b)) ∧ Below W.heap.size W w'
set_option maxRecDepth 100000 in
set_option maxHeartbeats 8000000 in
theorem small_any (S : Sys) (vt vp vs : Value) (w : World) (hp : SysParts w vt vp vs S) :
    Calls Try.prog 14 #[sysVal S vt vp vs] w (SomeBool w) := by
  have HPS := Lib.hid hp
  obtain ⟨⟨at_, ct, rfl, hl1, hx⟩, ⟨ap, cp, rfl, hl2, hy⟩, ⟨as_, cs, rfl, hl3, hu⟩⟩ := hp
  unfold most at hl1 hl2 hl3
  unfold sysVal
  by_cases z1 : 60 < (S.terms.length : Int)
  · go_enter Try.func14, Try.ntmps14
    go_wp2_with fail
    go_ret
    exact ⟨⟨_, rfl⟩, bAlloc (Below.refl _ _) _⟩
  by_cases z2 : 50 < (S.plurals.length : Int)
  · go_enter Try.func14, Try.ntmps14
    go_wp2_with fail
    go_ret
    exact ⟨⟨_, rfl⟩, bAlloc (Below.refl _ _) _⟩
  by_cases z3 : 10 < (S.sets.length : Int)
  · go_enter Try.func14, Try.ntmps14
    go_wp2_with fail
    go_ret
    exact ⟨⟨_, rfl⟩, bAlloc (Below.refl _ _) _⟩
  go_enter Try.func14, Try.ntmps14
  go_wp2_with fail
  generalize hW : World.alloc w _ = W1
  have hB1 : Below w.heap.size w W1 := by rw [← hW]; exact bAlloc (Below.refl _ _) _
  have s4 : W1.cell? ⟨w.heap.size, 4, none⟩ = some (.slice at_ S.terms.length ct) := by rw [← hW]; exact cell_new rfl
  have s6 : W1.cell? ⟨w.heap.size, 6, none⟩ = some (.slice as_ S.sets.length cs) := by rw [← hW]; exact cell_new rfl
  have hsl := cell_lt s4
  clear hW
  go_loop [3, 4, 5] (fun m i _ => ∃ (k : Nat) (c : Int), k ≤ S.terms.length ∧ i = .int .i64 k ∧ m = .int .i64 c) (fun _ i _ => S.terms.length - (intOf i).toNat)
  case atStart => exact ⟨0, 0, Nat.zero_le _, rfl, rfl⟩
  case round =>
    obtain ⟨k, c, hk, rfl, rfl⟩ := hrel
    by_cases hlt : k < S.terms.length
    · rcases hx with hnil | ⟨fb, fo, rfl, hf⟩
      · simp [hnil] at hlt
      obtain ⟨f0, fv, f1, f2⟩ := TermAt.stable _ _ _ _ _ hB1 (hf k hlt)
      have hfb := cell_lt f0
      clear hf
      generalize S.terms[k] = t at *
      obtain ⟨fa, fc, rfl, hfl, hff⟩ := f2
      unfold most at hfl
      have HC : ∃ c' : Int, Hid (c' = IntKind.i64.wrap (c + t.forms.length)) := ⟨_, Lib.hid rfl⟩
      obtain ⟨c', HC⟩ := HC
      have hc' := HC.out.symm
      go_wp2_with fail
      clear hc'
      go_loop [5] (fun j => ∃ m : Nat, m ≤ t.forms.length ∧ j = .int .i64 m) (fun j => t.forms.length - (intOf j).toNat)
      case atStart => exact ⟨0, Nat.zero_le _, rfl⟩
      case round =>
        obtain ⟨m, hm, rfl⟩ := hrel
        by_cases hlm : m < t.forms.length
        · rcases hff with hnil | ⟨gb, go, rfl, hg⟩
          · simp [hnil] at hlm
          obtain ⟨-, -, -, e3, e4⟩ := hg m hlm
          have hgb := cell_lt e3
          clear hg
          generalize t.forms[m] = f at *
          unfold most at e4
          by_cases h60 : 60 < (f.txt.size : Int)
          · go_wp2_with fail
            go_ret
            exact ⟨⟨_, rfl⟩, hB1⟩
          · go_wp2_with fail
            go_round
            case rel => exact ⟨m + 1, by omega, by go_num⟩
            case measure => simp [intOf]; omega
        · obtain rfl : m = t.forms.length := by omega
          go_wp2_with fail
          go_round
          case rel => exact ⟨k + 1, c', by omega, by go_num, rfl⟩
          case measure => simp [intOf]; omega
    · obtain rfl : k = S.terms.length := by omega
      clear hx
      go_wp2_with fail
      go_loop [3, 6, 7] (fun m i _ => ∃ (k : Nat) (c : Int), k ≤ S.sets.length ∧ i = .int .i64 k ∧ m = .int .i64 c) (fun _ i _ => S.sets.length - (intOf i).toNat)
      case atStart => exact ⟨0, _, Nat.zero_le _, rfl, rfl⟩
      case round =>
        obtain ⟨k, c2, hk2, rfl, rfl⟩ := hrel
        by_cases hlt2 : k < S.sets.length
        · rcases hu with hnil | ⟨fb, fo, rfl, hf⟩
          · simp [hnil] at hlt2
          obtain ⟨lv, f0, f2⟩ := SetAt.stable _ _ _ _ _ hB1 (hf k hlt2)
          have f0 : W1.cell? ⟨fb, fo + k, none⟩ = some lv := by simpa using f0
          have hfb := cell_lt f0
          clear hf
          generalize S.sets[k] = l at *
          obtain ⟨la, lc, rfl, hll, hff⟩ := f2
          unfold most at hll
          have HC : ∃ c' : Int, Hid (c' = IntKind.i64.wrap (c2 + l.length)) := ⟨_, Lib.hid rfl⟩
          obtain ⟨c', HC⟩ := HC
          have hc' := HC.out.symm
          go_wp2_with fail
          clear hc'
          go_loop [3, 7] (fun m j => ∃ (q : Nat) (d : Int), q ≤ l.length ∧ j = .int .i64 q ∧ m = .int .i64 d) (fun _ j => l.length - (intOf j).toNat)
          case atStart => exact ⟨0, _, Nat.zero_le _, rfl, rfl⟩
          case round =>
            obtain ⟨q, d, hq, rfl, rfl⟩ := hrel
            by_cases hlq : q < l.length
            · rcases hff with hnil | ⟨gb, go, rfl, hg⟩
              · simp [hnil] at hlq
              obtain ⟨-, -, pv, e2, e3⟩ := hg q hlq
              have hgb := cell_lt e2
              clear hg
              generalize l[q] = r at *
              obtain ⟨ra, rc, rfl, hrl, -⟩ := e3
              unfold most at hrl
              have HD : ∃ d' : Int, Hid (d' = IntKind.i64.wrap (d + r.pieces.length)) := ⟨_, Lib.hid rfl⟩
              obtain ⟨d', HD⟩ := HD
              have hd' := HD.out.symm
              go_wp2_with fail
              clear hd'
              go_round
              case rel => exact ⟨q + 1, d', by omega, by go_num, rfl⟩
              case measure => simp [intOf]; omega
            · obtain rfl : q = l.length := by omega
              go_wp2_with fail
              go_round
              case rel => exact ⟨k + 1, d, by omega, by go_num, rfl⟩
              case measure => simp [intOf]; omega
        · obtain rfl : k = S.sets.length := by omega
          go_wp2_with fail
          all_goals
            go_ret
            exact ⟨⟨_, rfl⟩, hB1⟩
end Go.Proofs.Ytfcopnlpcbbocaa
/- Contracts: the class of a number, by the specification. -/
namespace Go.Proofs.Ytfcopnlpcbbocaa
open Go.RowKit

set_option maxRecDepth 100000 in
set_option maxHeartbeats 4000000 in
theorem refClass_any (S : Sys) (n : Int) (vt vp vs : Value) (w : World) (hp : SysParts w vt vp vs S) (hn : 0 ≤ n) (hmod : ∀ i (h : i < S.plurals.length), 1 ≤ S.plurals[i].mod) :
    Calls Try.prog 19 #[sysVal S vt vp vs, .int .i64 n] w fun e w' => e = .returned (.int .i64 (classOf n S.plurals)) ∧ Below w.heap.size w w' := by
  obtain ⟨⟨at_, ct, rfl, hl1, -⟩, ⟨ap, cp, rfl, hl, hx⟩, ⟨as_, cs, rfl, hl3, -⟩⟩ := hp
  unfold most at hl
  unfold sysVal
  go_enter Try.func19, Try.ntmps19
  go_wp2_with fail
  generalize hW : World.alloc w _ = W1
  have hB1 : Below w.heap.size w W1 := by rw [← hW]; exact bAlloc (Below.refl _ _) _
  have s5 : W1.cell? ⟨w.heap.size, 5, none⟩ = some (.slice ap S.plurals.length cp) := by rw [← hW]; exact cell_new rfl
  clear hW
  go_loopw [5] (fun i wr => ∃ k : Nat, k ≤ S.plurals.length ∧ i = .int .i64 k ∧ Hid (classOf n S.plurals = classOf n (S.plurals.drop k)) ∧ Below W1.heap.size W1 wr) (fun i _ => S.plurals.length - (intOf i).toNat)
  case atStart => exact ⟨0, Nat.zero_le _, rfl, Lib.hid rfl, Below.refl _ _⟩
  case round =>
    obtain ⟨k, hk, rfl, HC, hB⟩ := hrel
    have s5 := keep hB s5
    have hsl := cell_lt s5
    by_cases hlt : k < S.plurals.length
    · rcases hx with hnil | ⟨pb, po, rfl, hp⟩
      · simp [hnil] at hlt
      obtain ⟨p0, p1, p2, p3⟩ := PluAt.stable _ _ _ _ _ (bThen hB1 hB) (hp k hlt)
      have hpb := cell_lt p0
      have hm := hmod k hlt
      have hdr : S.plurals.drop k = S.plurals[k] :: S.plurals.drop (k + 1) := List.drop_eq_getElem_cons hlt
      have HD := Lib.hid hdr
      clear hp hdr hmod
      generalize S.plurals[k] = p at *
      cases g1 : decide (p.frm ≤ n % p.mod)
      · have G1 : Hid (plHolds n p = false) := Lib.hid (by simp [plHolds, betw, g1])
        go_wp2_with fail
        generalize hW2 : World.alloc wr _ = W2
        have HB2 : Below wr.heap.size wr W2 := by rw [← hW2]; exact bAlloc (Below.refl _ _) _
        have q0 : W2.cell? ⟨wr.heap.size, 0, none⟩ = some (.int .i64 p.mod) := by rw [← hW2]; simp
        have q1 : W2.cell? ⟨wr.heap.size, 1, none⟩ = some (.int .i64 p.frm) := by rw [← hW2]; simp
        have q2 : W2.cell? ⟨wr.heap.size, 2, none⟩ = some (.int .i64 p.upto) := by rw [← hW2]; simp
        have q3 : W2.cell? ⟨wr.heap.size, 3, none⟩ = some (.int .i64 p.cls) := by rw [← hW2]; simp
        have ql := cell_lt q0
        clear hW2
        refine wp_opaque fun Q2 hQ2 => ?_
        (refine wp_region_below (by kernel_rfl) (by kernel_rfl) ?_; (repeat (first | go_big_quiet_step (fail) | quiet_step (fail))); (refine wpQuiet_nil ?_; intro _ hw'; obtain ⟨xq, hw''⟩ := hw'; subst hw''))
        refine hQ2 _ _ _ ?_
        have e3 := keep xq.2 q3
        have HB3 := bThen hB (bThen HB2 xq.2)
        go_wp2_with fail
        go_roundw
        case rel => exact ⟨k + 1, by omega, by go_num, Lib.hid (by rw [HC.out, HD.out, classOf, G1.out]; rfl), HB3⟩
        case measure => simp [intOf]; omega
      · cases g2 : decide (n % p.mod ≤ p.upto)
        · have G1 : Hid (plHolds n p = false) := Lib.hid (by simp [plHolds, betw, g1, g2])
          go_wp2_with fail
          generalize hW2 : World.alloc wr _ = W2
          have HB2 : Below wr.heap.size wr W2 := by rw [← hW2]; exact bAlloc (Below.refl _ _) _
          have q0 : W2.cell? ⟨wr.heap.size, 0, none⟩ = some (.int .i64 p.mod) := by rw [← hW2]; simp
          have q1 : W2.cell? ⟨wr.heap.size, 1, none⟩ = some (.int .i64 p.frm) := by rw [← hW2]; simp
          have q2 : W2.cell? ⟨wr.heap.size, 2, none⟩ = some (.int .i64 p.upto) := by rw [← hW2]; simp
          have q3 : W2.cell? ⟨wr.heap.size, 3, none⟩ = some (.int .i64 p.cls) := by rw [← hW2]; simp
          have ql := cell_lt q0
          clear hW2
          refine wp_opaque fun Q2 hQ2 => ?_
          (refine wp_region_below (by kernel_rfl) (by kernel_rfl) ?_; (repeat (first | go_big_quiet_step (fail) | quiet_step (fail))); (refine wpQuiet_nil ?_; intro _ hw'; obtain ⟨xq, hw''⟩ := hw'; subst hw''))
          refine hQ2 _ _ _ ?_
          have e3 := keep xq.2 q3
          have HB3 := bThen hB (bThen HB2 xq.2)
          go_wp2_with fail
          go_roundw
          case rel => exact ⟨k + 1, by omega, by go_num, Lib.hid (by rw [HC.out, HD.out, classOf, G1.out]; rfl), HB3⟩
          case measure => simp [intOf]; omega
        · have G1 : Hid (plHolds n p = true) := Lib.hid (by simp [plHolds, betw, g1, g2])
          go_wp2_with fail
          generalize hW2 : World.alloc wr _ = W2
          have HB2 : Below wr.heap.size wr W2 := by rw [← hW2]; exact bAlloc (Below.refl _ _) _
          have q0 : W2.cell? ⟨wr.heap.size, 0, none⟩ = some (.int .i64 p.mod) := by rw [← hW2]; simp
          have q1 : W2.cell? ⟨wr.heap.size, 1, none⟩ = some (.int .i64 p.frm) := by rw [← hW2]; simp
          have q2 : W2.cell? ⟨wr.heap.size, 2, none⟩ = some (.int .i64 p.upto) := by rw [← hW2]; simp
          have q3 : W2.cell? ⟨wr.heap.size, 3, none⟩ = some (.int .i64 p.cls) := by rw [← hW2]; simp
          have ql := cell_lt q0
          clear hW2
          refine wp_opaque fun Q2 hQ2 => ?_
          (refine wp_region_below (by kernel_rfl) (by kernel_rfl) ?_; (repeat (first | go_big_quiet_step (fail) | quiet_step (fail))); (refine wpQuiet_nil ?_; intro _ hw'; obtain ⟨xq, hw''⟩ := hw'; subst hw''))
          refine hQ2 _ _ _ ?_
          have e3 := keep xq.2 q3
          have HB3 := bThen hB (bThen HB2 xq.2)
          go_wp2_with fail
          go_ret
          exact ⟨ret_int (by rw [HC.out, HD.out, classOf, G1.out]; rfl), bThen hB1 HB3⟩
    · obtain rfl : k = S.plurals.length := by omega
      clear hmod
      go_wp2_with fail
      go_ret
      exact ⟨ret_int (by rw [HC.out]; simp [classOf]), bThen hB1 hB⟩
end Go.Proofs.Ytfcopnlpcbbocaa
