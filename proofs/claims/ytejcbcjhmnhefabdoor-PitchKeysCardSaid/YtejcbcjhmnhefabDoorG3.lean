/- Contracts: a row's costs get those of the next one. -/
import Derived.Test.YtejcbcjhmnhefabDoorG2
import Derived.Test.YtejcbcjhmnhefabDoorT0
set_option linter.unusedSimpArgs false
set_option linter.unusedVariables false
namespace Go.Proofs.YtejcbcjhmnhefabDoor
open Go.RowKit

theorem fld0 (a b : Int) (W : World) : (Instr.field 104 (.agg #[.int .i64 a, .int .i64 b]) 0).run Tryd.prog W = .ok (.int .i64 a) W := by
  kernel_rfl
def qlen (wr : World) (B : Nat) : Nat := match wr.cell? ⟨B, 0, none⟩ with | some (.slice _ n _) => n | _ => 0
theorem _root_.Go.Proofs.YtejcbcjhmnhefabDoor.QueueAt.qlen {W : World} {B qb : Nat} {l : List (Int × Int)} (h : QueueAt W B qb l) : qlen W qb = l.length := by
  obtain ⟨v, h1, h2⟩ := h
  obtain ⟨ad, cap, rfl⟩ := h2.shape
  unfold Go.Proofs.YtejcbcjhmnhefabDoor.qlen
  rw [h1.cell]
theorem _root_.Go.Proofs.YtejcbcjhmnhefabDoor.QueueAt.lt {W : World} {B qb : Nat} {l : List (Int × Int)} (h : QueueAt W B qb l) : qb < W.heap.size := let ⟨_, h1, _⟩ := h; h1.lt
theorem qfirst {A : Nat → Int} {f k B : Nat} {W : World} (h : QueueAt W B B (cand A f k)) (hf : f < k) (hk : k ≤ 1000) :
    Calls Tryd.prog 52 #[.pointer (some ⟨B, 0, none⟩), .int .i64 0] W fun e w' => e = .returned (.agg #[.int .i64 (f : Int), .int .i64 (A f)]) ∧ Below W.heap.size W w' := by
  have h2 : ∀ l, QueueAt W B B l → ∀ x r, l = x :: r → l.length ≤ 1000000 → Calls Tryd.prog 52 #[.pointer (some ⟨B, 0, none⟩), .int .i64 0] W fun e w' => e = .returned (.agg #[.int .i64 x.1, .int .i64 x.2]) ∧ Below W.heap.size W w' := by
    rintro l hl x r rfl hs
    exact qat_any (x :: r) B B 0 W hl (by simp) hs
  exact h2 _ h _ _ (cand_cons A hf) (by rw [cand_len]; omega)
theorem qsecond {A : Nat → Int} {f k B : Nat} {W : World} (h : QueueAt W B B (cand A f k)) (hf : f + 1 < k) (hk : k ≤ 1000) :
    Calls Tryd.prog 52 #[.pointer (some ⟨B, 0, none⟩), .int .i64 1] W fun e w' => e = .returned (.agg #[.int .i64 ((f : Int) + 1), .int .i64 (A (f + 1))]) ∧ Below W.heap.size W w' := by
  have h2 : ∀ l, QueueAt W B B l → ∀ x y r, l = x :: y :: r → l.length ≤ 1000000 → Calls Tryd.prog 52 #[.pointer (some ⟨B, 0, none⟩), .int .i64 1] W fun e w' => e = .returned (.agg #[.int .i64 y.1, .int .i64 y.2]) ∧ Below W.heap.size W w' := by
    rintro l hl x y r rfl hs
    exact qat_any (x :: y :: r) B B 1 W hl (by simp) hs
  have h3 := h2 _ h _ _ _ ((cand_cons A (show f < k by omega)).trans (by rw [cand_cons A hf])) (by rw [cand_len]; omega)
  rw [show (((f + 1 : Nat) : Int), A (f + 1)).1 = (f : Int) + 1 from by simp] at h3
  exact h3

set_option maxRecDepth 20000 in
set_option maxHeartbeats 16000000 in
theorem addRest_any (fr lo hi sm : Int) (s : Nat) (tv : Value) (W gc gn oh oa M : Nat) (C N : Nat → Int) (w : World)
    (hW : 1 ≤ W) (hW2 : W ≤ 401) (hs : s ≤ 400) (hsm : 0 ≤ sm ∧ sm ≤ 1000) (hoh : oh + W ≤ oa) (hoa : oa + W ≤ M) (hM : M ≤ 100000) (hne : gc ≠ gn)
    (hc : w.rowIs gc 3 M (fun j => .int .i64 (C j))) (hn : w.rowIs gn 3 M (fun j => .int .i64 (N j)))
    (hb : ∀ j, j < M → 0 ≤ C j ∧ C j ≤ 1000000000000000000) (ht : ∃ a n c, tv = .slice a n c) :
    Calls Tryd.prog 41 #[.agg #[.int .i64 fr, .int .i64 lo, .int .i64 hi, .int .i64 s, .int .i64 sm, tv], .agg #[.slice (some ⟨gc, oh, none⟩) W W, .slice (some ⟨gn, oh, none⟩) W W], .agg #[.slice (some ⟨gc, oa, none⟩) W W, .slice (some ⟨gn, oa, none⟩) W W]] w
      fun e w' => (∃ v, e = .returned v) ∧ w'.rowIs gc 3 M (fun j => .int .i64 (if oh ≤ j ∧ j < oh + W then C j + restC (fun u => C (oa + u)) s sm W (j - oh) else C j)) ∧
        w'.rowIs gn 3 M (fun j => .int .i64 (if oh ≤ j ∧ j < oh + W then (front (fun u => C (oa + u)) s sm W (j - oh + 1) : Int) else N j)) ∧ Kp2 w.heap.size gc gn w w' := by
  obtain ⟨ta, tn, tc, rfl⟩ := ht
  obtain ⟨A, hA⟩ : ∃ A, A = fun u => C (oa + u) := ⟨_, rfl⟩
  rw [← hA]
  have hAb : ∀ u, u < W → 0 ≤ A u ∧ A u ≤ 1000000000000000000 := fun u hu => by rw [hA]; exact hb _ (by omega)
  have HAB := Lib.hid hAb
  have HB0 := Lib.hid hb
  have HA := Lib.hid hA
  have hgc : gc < w.heap.size := hc.lt
  have hgn : gn < w.heap.size := hn.lt
  have HC := Lib.hid hc
  have HN := Lib.hid hn
  clear hAb hb hA hc hn
  obtain ⟨b0, hb0⟩ : ∃ b0, b0 = w.heap.size := ⟨_, rfl⟩
  go_enter Tryd.func41, Tryd.ntmps41
  go_wp2_with fail
  rw [← hb0]
  generalize hW1 : World.alloc (World.alloc (World.alloc (World.alloc w _) _) _) _ = W1
  have hB1 : Below w.heap.size w W1 := by rw [← hW1]; exact bAlloc (bAlloc (bAlloc (bAlloc (Below.refl _ _) _) _) _) _
  have p3 : W1.cell? ⟨b0, 3, none⟩ = some (.int .i64 s) := by rw [← hW1, hb0]; exact keep (bAlloc (bAlloc (bAlloc (Below.refl _ _) _) _) _) (cell_new rfl)
  have p4 : W1.cell? ⟨b0, 4, none⟩ = some (.int .i64 sm) := by rw [← hW1, hb0]; exact keep (bAlloc (bAlloc (bAlloc (Below.refl _ _) _) _) _) (cell_new rfl)
  have hcell1 : ∀ j v, (#[Value.slice (some ⟨gc, oh, none⟩) W W, .slice (some ⟨gn, oh, none⟩) W W] : Array Value)[j]? = some v → W1.cell? ⟨b0 + 1, j, none⟩ = some v := fun j v h => by
    rw [← hW1, hb0]
    have h2 := cell_new (V := w.alloc (.cells #[.int .i64 fr, .int .i64 lo, .int .i64 hi, .int .i64 s, .int .i64 sm, .slice ta tn tc] 46)) (t := 89) h
    rw [World.size_alloc] at h2
    exact keep (bAlloc (bAlloc (Below.refl _ _) _) _) h2
  have h0 := hcell1 0 _ rfl
  have h1 := hcell1 1 _ rfl
  have a0 : W1.cell? ⟨b0 + 1 + 1, 0, none⟩ = some (.slice (some ⟨gc, oa, none⟩) W W) := by
    rw [← hW1, hb0]
    have h2 := cell_new (V := (w.alloc (.cells #[.int .i64 fr, .int .i64 lo, .int .i64 hi, .int .i64 s, .int .i64 sm, .slice ta tn tc] 46)).alloc (.cells #[.slice (some ⟨gc, oh, none⟩) W W, .slice (some ⟨gn, oh, none⟩) W W] 89)) (t := 89) (cs := #[.slice (some ⟨gc, oa, none⟩) W W, .slice (some ⟨gn, oa, none⟩) W W]) (j := 0) rfl
    rw [World.size_alloc, World.size_alloc] at h2
    exact keep (bAlloc (Below.refl _ _) _) h2
  have hq0 : Boxed W1 (b0 + 1 + 1 + 1) 101 (.slice none 0 0) := by
    rw [← hW1, hb0]
    have h2 := Boxed.new (((w.alloc (.cells #[.int .i64 fr, .int .i64 lo, .int .i64 hi, .int .i64 s, .int .i64 sm, .slice ta tn tc] 46)).alloc (.cells #[.slice (some ⟨gc, oh, none⟩) W W, .slice (some ⟨gn, oh, none⟩) W W] 89)).alloc (.cells #[.slice (some ⟨gc, oa, none⟩) W W, .slice (some ⟨gn, oa, none⟩) W W] 89)) 101 (.slice none 0 0)
    rw [World.size_alloc, World.size_alloc, World.size_alloc] at h2
    exact h2
  have HC1 := Lib.hid (HC.out.of_block (hB1.block gc hgc))
  have HN1 := Lib.hid (HN.out.of_block (hB1.block gn hgn))
  have HB1 := Lib.hid hB1
  have P3 := Lib.hid p3
  have P4 := Lib.hid p4
  have H0 := Lib.hid h0
  have H1 := Lib.hid h1
  have A0 := Lib.hid a0
  obtain ⟨B, hB⟩ : ∃ B, B = b0 + 1 + 1 + 1 := ⟨_, rfl⟩
  rw [← hB] at hq0 ⊢
  have hgc2 : gc < b0 := by omega
  have hgn2 : gn < b0 := by omega
  have HQ1 : Hid (QueueAt W1 B B (cand A 0 0)) := Lib.hid ⟨_, hq0, .inl ⟨by simp [cand], rfl⟩⟩
  have HB0' := Lib.hid hb0
  have hBb : b0 + 3 = B := by omega
  clear hW1 hB1 p3 p4 hcell1 h0 h1 a0 hq0 hB hb0
  go_loopw [7, 12] (fun en i wr => ∃ v : Nat, v ≤ W ∧ i = .int .i64 v ∧ en = .int .i64 (ent s W v : Nat) ∧ Hid (QueueAt wr B B (cand A (front A s sm W v) (ent s W v))) ∧ Hid (wr.rowIs gc 3 M (fun j => .int .i64 (if oh ≤ j ∧ j < oh + v then C j + restC A s sm W (j - oh) else C j))) ∧ Hid (wr.rowIs gn 3 M (fun j => .int .i64 (if oh ≤ j ∧ j < oh + v then (front A s sm W (j - oh + 1) : Int) else N j))) ∧ Hid (Kp2 B gc gn W1 wr)) (fun _ i _ => W - (intOf i).toNat)
  case atStart => exact ⟨0, Nat.zero_le _, rfl, rfl, HQ1, Lib.hid (HC1.out.congr fun j _ => by rw [if_neg (by omega)]), Lib.hid (HN1.out.congr fun j _ => by rw [if_neg (by omega)]), Lib.hid (Kp2.refl _ _ _ _)⟩
  case round =>
    obtain ⟨v, hv, rfl, rfl, HQ, HRC, HRN, HK⟩ := hrel
    by_cases hlt : v < W
    · have hen := ent_ge (s := s) hlt
      have hfe := front_le (A := A) (s := s) (sm := sm) v hv
      have hff := front_lt (A := A) (s := s) (sm := sm) v hlt
      have hee : ent s W v ≤ ent s W (v + 1) := by unfold ent; split <;> (try rw [if_neg (by omega)]) <;> omega
      have hed : ent s W (v + 1) = min W (v + 1 + s) := by unfold ent; rw [if_neg (by omega)]
      have HFR : Hid (front A s sm W (v + 1) = dropF A s sm v (ent s W (v + 1)) (ent s W (v + 1) - front A s sm W v) (front A s sm W v)) := Lib.hid rfl
      have HFE := Lib.hid (front_end (A := A) (s := s) (sm := sm) hlt)
      generalize front A s sm W v = f0 at *
      generalize hE0 : ent s W v = e0 at *
      generalize hE1 : ent s W (v + 1) = e1 at *
      have HE0 := Lib.hid hE0
      have HE1 := Lib.hid hE1
      have HED := Lib.hid hed
      have HLT := Lib.hid hlt
      have hed2 : e1 ≤ v + 1 + s ∧ (e1 < W → e1 = v + 1 + s) := by omega
      clear hE0 hE1 hed
      obtain ⟨wo, hwo⟩ : ∃ wo, wo = wr := ⟨_, rfl⟩
      subst hwo
      have q3 := (HK.out.cell (o := 3) (c := b0) (by omega) (by omega) (by omega)).trans P3.out
      have q4 := (HK.out.cell (o := 4) (c := b0) (by omega) (by omega) (by omega)).trans P4.out
      have r0 := (HK.out.cell (o := 0) (c := b0 + 1) (by omega) (by omega) (by omega)).trans H0.out
      have r1 := (HK.out.cell (o := 1) (c := b0 + 1) (by omega) (by omega) (by omega)).trans H1.out
      have t0 := (HK.out.cell (o := 0) (c := b0 + 1 + 1) (by omega) (by omega) (by omega)).trans A0.out
      have hl3 := cell_lt q3
      have hl4 := cell_lt r0
      have hl5 := cell_lt t0
      have hlc := HRC.out.lt
      have hln := HRN.out.lt
      go_wp2_with fail
      clear q3 q4 r0 r1 t0 hl3 hl4 hl5 hlc hln
      go_loopw [7] (fun en wr => ∃ k : Nat, e0 ≤ k ∧ k ≤ e1 ∧ en = .int .i64 k ∧ Hid (QueueAt wr B B (cand A f0 k)) ∧ Hid (wr.rowIs gc 3 M (fun j => .int .i64 (if oh ≤ j ∧ j < oh + v then C j + restC A s sm W (j - oh) else C j))) ∧ Hid (wr.rowIs gn 3 M (fun j => .int .i64 (if oh ≤ j ∧ j < oh + v then (front A s sm W (j - oh + 1) : Int) else N j))) ∧ Hid (Kp2 B gc gn W1 wr)) (fun en _ => W - (intOf en).toNat)
      case atStart => exact ⟨e0, Nat.le_refl _, hee, rfl, HQ, HRC, HRN, HK⟩
      case round =>
        obtain ⟨k, hk0, hk1, rfl, HQ, HRC, HRN, HK⟩ := hrel
        have q3 := (HK.out.cell (o := 3) (c := b0) (by omega) (by omega) (by omega)).trans P3.out
        have q4 := (HK.out.cell (o := 4) (c := b0) (by omega) (by omega) (by omega)).trans P4.out
        have r0 := (HK.out.cell (o := 0) (c := b0 + 1) (by omega) (by omega) (by omega)).trans H0.out
        have r1 := (HK.out.cell (o := 1) (c := b0 + 1) (by omega) (by omega) (by omega)).trans H1.out
        have t0 := (HK.out.cell (o := 0) (c := b0 + 1 + 1) (by omega) (by omega) (by omega)).trans A0.out
        have hl3 := cell_lt q3
        have hl4 := cell_lt r0
        have hl5 := cell_lt t0
        have hlc := HRC.out.lt
        have hln := HRN.out.lt
        by_cases hlk : k < e1
        · have hc1 : k < W := by omega
          have hc2 : (k : Int) ≤ (v : Int) + (s : Int) := by omega
          have e67 := HRC.out.cell (i := oa + k) (by omega)
          rw [if_neg (by omega)] at e67
          rw [show C (oa + k) = A k from by rw [HA.out]] at e67
          have hpush := fun W' hB' => qpush_any ((k : Int), A k) (cand A f0 k) B B W' (HQ.out.keep (Nat.le_refl _) hB') (Nat.le_refl _) (by rw [cand_len]; omega)
          have hp1 := hpush wr (fun _ _ _ => rfl)
          have HP := Lib.hid hp1
          clear hpush hp1
          have hsn := cand_snoc A (show f0 ≤ k by omega)
          have HSN := Lib.hid hsn
          clear hsn
          go_wp2_with (go_at_call 51; refine HP.out.mono ?_; rintro e w8 ⟨⟨vv, rfl⟩, hq8, hb8⟩; have HQ8 := Lib.hid hq8; have HB8 := Lib.hid hb8; clear hq8 hb8)
          go_roundw
          case rel =>
            first
              | exact ⟨k + 1, by omega, by omega, by go_num, Lib.hid (by rw [HSN.out]; exact HQ8.out), Lib.hid (HRC.out.of_block (HB8.out.block gc (by omega))), Lib.hid (HRN.out.of_block (HB8.out.block gn (by omega))), Lib.hid (HK.out.trans (Kp2.of_below HB8.out))⟩
              | ((repeat apply Exists.intro); refine ⟨?_, rfl⟩; exact ⟨k + 1, by omega, by omega, by go_num, Lib.hid (by rw [HSN.out]; exact HQ8.out), Lib.hid (HRC.out.of_block (HB8.out.block gc (by omega))), Lib.hid (HRN.out.of_block (HB8.out.block gn (by omega))), Lib.hid (HK.out.trans (Kp2.of_below HB8.out))⟩)
          case measure => simp [intOf]; omega
        · obtain rfl : k = e1 := by omega
          by_cases hkW : k < W
          · have hc1 : (k : Int) < (W : Int) := by omega
            have hc2 : ¬ ((k : Int) ≤ (v : Int) + (s : Int)) := by omega
            have hd1 : decide ((k : Int) < (W : Int)) = true := decide_eq_true hc1
            have hd2 : decide ((k : Int) ≤ (v : Int) + (s : Int)) = false := decide_eq_false hc2
            go_wp2_with fail
            go_loopw [38] (fun _ wr => ∃ f : Nat, f < k ∧ Hid (dropF A s sm v k (k - f) f = front A s sm W (v + 1)) ∧ Hid (QueueAt wr B B (cand A f k)) ∧ Hid (wr.rowIs gc 3 M (fun j => .int .i64 (if oh ≤ j ∧ j < oh + v then C j + restC A s sm W (j - oh) else C j))) ∧ Hid (wr.rowIs gn 3 M (fun j => .int .i64 (if oh ≤ j ∧ j < oh + v then (front A s sm W (j - oh + 1) : Int) else N j))) ∧ Hid (Kp2 B gc gn W1 wr)) (fun _ wr => qlen wr B)
            case atStart => exact ⟨f0, by omega, Lib.hid HFR.out.symm, HQ, HRC, HRN, HK⟩
            case round =>
              obtain ⟨f, hf, HD, HQ, HRC, HRN, HK⟩ := hrel
              have q3 := (HK.out.cell (o := 3) (c := b0) (by omega) (by omega) (by omega)).trans P3.out
              have q4 := (HK.out.cell (o := 4) (c := b0) (by omega) (by omega) (by omega)).trans P4.out
              have r0 := (HK.out.cell (o := 0) (c := b0 + 1) (by omega) (by omega) (by omega)).trans H0.out
              have r1 := (HK.out.cell (o := 1) (c := b0 + 1) (by omega) (by omega) (by omega)).trans H1.out
              have t0 := (HK.out.cell (o := 0) (c := b0 + 1 + 1) (by omega) (by omega) (by omega)).trans A0.out
              have hl3 := cell_lt q3
              have hl4 := cell_lt r0
              have hl5 := cell_lt t0
              have hlc := HRC.out.lt
              have hln := HRN.out.lt
              have hA0 := HAB.out f (by omega)
              have h950 : ∀ x : BW wr, Calls Tryd.prog 52 #[.pointer (some ⟨B, 0, none⟩), .int .i64 0] x.val fun e w' => e = .returned (.agg #[.int .i64 (f : Int), .int .i64 (A f)]) ∧ Below x.val.heap.size x.val w' := fun x => qfirst (HQ.out.keep (Nat.le_refl _) (fun b hb _ => x.2.block b hb)) hf (by omega)
              have h96 : ∀ x : BW wr, Calls Tryd.prog 53 #[.pointer (some ⟨B, 0, none⟩)] x.val fun e w' => e = .returned (.int .i64 ((k : Int) - (f : Int))) ∧ Below x.val.heap.size x.val w' := fun x => (qsize_any _ B B x.val (HQ.out.keep (Nat.le_refl _) (fun b hb _ => x.2.block b hb))).mono (by
                rintro e w' ⟨rfl, rfl⟩
                rw [cand_len]
                exact ⟨by rw [show ((k - f : Nat) : Int) = (k : Int) - (f : Int) by omega], Below.refl _ _⟩)
              have h97b : ∀ x : BW wr, Calls Tryd.prog 54 #[.agg #[.int .i64 (f : Int), .int .i64 (A f)], .int .i64 (v : Int), .int .i64 sm] x.val fun e w' => e = .returned (.int .i64 (cfI A sm f v)) ∧ Below x.val.heap.size x.val w' := fun x => costFrom_any f (A f) v sm x.val (by omega) (by omega) hsm hA0
              have hfuel : k - f = (k - (f + 1)) + 1 := by omega
              have hfld := fun W => fld0 f (A f) W
              by_cases c1 : (f : Int) < (v : Int) - (s : Int)
              · have d1 : decide ((f : Int) < (v : Int) - (s : Int)) = true := decide_eq_true c1
                have hf1 : f + 1 < k := by omega
                have hnext : dropF A s sm v k (k - (f + 1)) (f + 1) = front A s sm W (v + 1) := by
                  have h := HD.out
                  rw [hfuel] at h
                  unfold dropF at h
                  rw [if_pos (by unfold drops; rw [d1]; rfl)] at h
                  exact h
                have h951 := h950
                have h97a := h97b
                go_wp2_with fail
                refine wp_opaque fun Q2 hQ2 => ?_
                (refine wp_region_below (by kernel_rfl) (by kernel_rfl) ?_; (repeat (first | go_big_quiet_step ((first | (go_at_call 52; with_reducible exact toB h950 _) | (go_at_call 52; with_reducible exact toB h951 _) | (go_at_call 53; with_reducible exact toB h96 _) | (go_at_call 54; with_reducible exact toB h97a _) | (go_at_call 54; with_reducible exact toB h97b _))) | quiet_step ((first | (go_at_call 52; with_reducible exact toB h950 _) | (go_at_call 52; with_reducible exact toB h951 _) | (go_at_call 53; with_reducible exact toB h96 _) | (go_at_call 54; with_reducible exact toB h97a _) | (go_at_call 54; with_reducible exact toB h97b _))))); (refine wpQuiet_nil ?_; intro _ hw'; obtain ⟨xq, hw''⟩ := hw'; subst hw''))
                refine hQ2 _ _ _ ?_
                have hbx := xq.2
                have HQX := Lib.hid (HQ.out.keep (Nat.le_refl _) (fun b hb _ => hbx.block b hb))
                rw [cand_cons A hf] at HQX
                have HBX := Lib.hid hbx
                have hql := HQ.out.qlen
                rw [cand_len] at hql
                have HQL := Lib.hid hql
                clear h950 h97b h96 hbx hql
                generalize xq.val = w7 at *
                go_wp2_with (go_at_call 55; refine (qdrop_any _ _ B B _ HQX.out (Nat.le_refl _)).mono ?_; rintro e w8 ⟨⟨vv, rfl⟩, hq8, hb8⟩; have HQ8 := Lib.hid hq8; have HB8 := Lib.hid hb8; clear hq8 hb8)
                have hb7 : Below B wr w7 := HBX.out.mono (by have := HQ.out.lt; omega)
                have hb9 : Below B wr w8 := hb7.trans HB8.out
                go_roundw
                case rel =>
                  first
                    | exact ⟨f + 1, hf1, Lib.hid hnext, HQ8, Lib.hid (HRC.out.of_block (hb9.block gc (by omega))), Lib.hid (HRN.out.of_block (hb9.block gn (by omega))), Lib.hid (HK.out.trans (Kp2.of_below hb9))⟩
                    | ((repeat apply Exists.intro); refine ⟨?_, rfl⟩; exact ⟨f + 1, hf1, Lib.hid hnext, HQ8, Lib.hid (HRC.out.of_block (hb9.block gc (by omega))), Lib.hid (HRN.out.of_block (hb9.block gn (by omega))), Lib.hid (HK.out.trans (Kp2.of_below hb9))⟩)
                case measure =>
                  have h1 := HQL.out
                  have h2 := HQ8.out.qlen
                  rw [cand_len] at h2
                  rw [h1, h2]; omega
              · have d1 : decide ((f : Int) < (v : Int) - (s : Int)) = false := decide_eq_false c1
                by_cases c2 : f + 1 < k
                · have d2 : decide ((k : Int) - (f : Int) > 1) = true := decide_eq_true (by omega)
                  have e2 : (k : Int) - (f : Int) > 1 := by omega
                  have hA1 := HAB.out (f + 1) (by omega)
                  have h951 : ∀ x : BW wr, Calls Tryd.prog 52 #[.pointer (some ⟨B, 0, none⟩), .int .i64 1] x.val fun e w' => e = .returned (.agg #[.int .i64 ((f : Int) + 1), .int .i64 (A (f + 1))]) ∧ Below x.val.heap.size x.val w' := fun x => qsecond (HQ.out.keep (Nat.le_refl _) (fun b hb _ => x.2.block b hb)) c2 (by omega)
                  have h97a : ∀ x : BW wr, Calls Tryd.prog 54 #[.agg #[.int .i64 ((f : Int) + 1), .int .i64 (A (f + 1))], .int .i64 (v : Int), .int .i64 sm] x.val fun e w' => e = .returned (.int .i64 (cfI A sm (f + 1) v)) ∧ Below x.val.heap.size x.val w' := fun x => costFrom_any ((f : Int) + 1) (A (f + 1)) v sm x.val (by omega) (by omega) hsm hA1
                  by_cases c3 : cfI A sm (f + 1) v < cfI A sm f v
                  · have d3 : decide (cfI A sm (f + 1) v < cfI A sm f v) = true := decide_eq_true c3
                    have hf1 := c2
                    have hnext : dropF A s sm v k (k - (f + 1)) (f + 1) = front A s sm W (v + 1) := by
                      have h := HD.out
                      rw [hfuel] at h
                      unfold dropF at h
                      rw [if_pos (by unfold drops; rw [d3, decide_eq_true c2]; simp)] at h
                      exact h
                    go_wp2_with fail
                    refine wp_opaque fun Q2 hQ2 => ?_
                    (refine wp_region_below (by kernel_rfl) (by kernel_rfl) ?_; (repeat (first | go_big_quiet_step ((first | (go_at_call 52; with_reducible exact toB h950 _) | (go_at_call 52; with_reducible exact toB h951 _) | (go_at_call 53; with_reducible exact toB h96 _) | (go_at_call 54; with_reducible exact toB h97a _) | (go_at_call 54; with_reducible exact toB h97b _))) | quiet_step ((first | (go_at_call 52; with_reducible exact toB h950 _) | (go_at_call 52; with_reducible exact toB h951 _) | (go_at_call 53; with_reducible exact toB h96 _) | (go_at_call 54; with_reducible exact toB h97a _) | (go_at_call 54; with_reducible exact toB h97b _))))); (refine wpQuiet_nil ?_; intro _ hw'; obtain ⟨xq, hw''⟩ := hw'; subst hw''))
                    refine hQ2 _ _ _ ?_
                    have hbx := xq.2
                    have HQX := Lib.hid (HQ.out.keep (Nat.le_refl _) (fun b hb _ => hbx.block b hb))
                    rw [cand_cons A hf] at HQX
                    have HBX := Lib.hid hbx
                    have hql := HQ.out.qlen
                    rw [cand_len] at hql
                    have HQL := Lib.hid hql
                    clear h950 h97b h96 hbx hql
                    generalize xq.val = w7 at *
                    go_wp2_with (go_at_call 55; refine (qdrop_any _ _ B B _ HQX.out (Nat.le_refl _)).mono ?_; rintro e w8 ⟨⟨vv, rfl⟩, hq8, hb8⟩; have HQ8 := Lib.hid hq8; have HB8 := Lib.hid hb8; clear hq8 hb8)
                    have hb7 : Below B wr w7 := HBX.out.mono (by have := HQ.out.lt; omega)
                    have hb9 : Below B wr w8 := hb7.trans HB8.out
                    go_roundw
                    case rel =>
                      first
                        | exact ⟨f + 1, hf1, Lib.hid hnext, HQ8, Lib.hid (HRC.out.of_block (hb9.block gc (by omega))), Lib.hid (HRN.out.of_block (hb9.block gn (by omega))), Lib.hid (HK.out.trans (Kp2.of_below hb9))⟩
                        | ((repeat apply Exists.intro); refine ⟨?_, rfl⟩; exact ⟨f + 1, hf1, Lib.hid hnext, HQ8, Lib.hid (HRC.out.of_block (hb9.block gc (by omega))), Lib.hid (HRN.out.of_block (hb9.block gn (by omega))), Lib.hid (HK.out.trans (Kp2.of_below hb9))⟩)
                    case measure =>
                      have h1 := HQL.out
                      have h2 := HQ8.out.qlen
                      rw [cand_len] at h2
                      rw [h1, h2]; omega
                  · have d3 : decide (cfI A sm (f + 1) v < cfI A sm f v) = false := decide_eq_false c3
                    have HF : Hid (f = front A s sm W (v + 1)) := Lib.hid (by
                      have h := HD.out
                      rw [hfuel] at h
                      unfold dropF at h
                      rw [if_neg (by unfold drops; rw [d1, d3]; simp)] at h
                      exact h)
                    go_wp2_with fail
                    refine wp_opaque fun Q2 hQ2 => ?_
                    (refine wp_region_below (by kernel_rfl) (by kernel_rfl) ?_; (repeat (first | go_big_quiet_step ((first | (go_at_call 52; with_reducible exact toB h950 _) | (go_at_call 52; with_reducible exact toB h951 _) | (go_at_call 53; with_reducible exact toB h96 _) | (go_at_call 54; with_reducible exact toB h97a _) | (go_at_call 54; with_reducible exact toB h97b _))) | quiet_step ((first | (go_at_call 52; with_reducible exact toB h950 _) | (go_at_call 52; with_reducible exact toB h951 _) | (go_at_call 53; with_reducible exact toB h96 _) | (go_at_call 54; with_reducible exact toB h97a _) | (go_at_call 54; with_reducible exact toB h97b _))))); (refine wpQuiet_nil ?_; intro _ hw'; obtain ⟨xq, hw''⟩ := hw'; subst hw''))
                    refine hQ2 _ _ _ ?_
                    have hbx := xq.2
                    have hbB : Below B wr xq.val := hbx.mono (by have := HQ.out.lt; omega)
                    have HQX := Lib.hid (HQ.out.keep (Nat.le_refl _) (fun b hb _ => hbx.block b hb))
                    have HRCX := Lib.hid (HRC.out.of_block (hbx.block gc hlc))
                    have HRNX := Lib.hid (HRN.out.of_block (hbx.block gn hln))
                    have HKX := Lib.hid (HK.out.trans (Kp2.of_below hbB))
                    clear h950 h97b h96 hbx hbB q3 q4 r0 r1 t0 hl3 hl4 hl5 hlc hln
                    generalize xq.val = w7 at *
                    have q3 := (HKX.out.cell (o := 3) (c := b0) (by omega) (by omega) (by omega)).trans P3.out
                    have q4 := (HKX.out.cell (o := 4) (c := b0) (by omega) (by omega) (by omega)).trans P4.out
                    have r0 := (HKX.out.cell (o := 0) (c := b0 + 1) (by omega) (by omega) (by omega)).trans H0.out
                    have r1 := (HKX.out.cell (o := 1) (c := b0 + 1) (by omega) (by omega) (by omega)).trans H1.out
                    have t0 := (HKX.out.cell (o := 0) (c := b0 + 1 + 1) (by omega) (by omega) (by omega)).trans A0.out
                    have hl3 := cell_lt q3
                    have hl4 := cell_lt r0
                    have hl5 := cell_lt t0
                    have hlc := HRCX.out.lt
                    have hln := HRNX.out.lt
                    go_wp2_with fail
                    have hvW : (v : Int) < (W : Int) := by omega
                    have hCv := HB0.out (oh + v) (by omega)
                    have hAf := HAB.out f (by omega)
                    have hcf := cfI_in (A := A) (sm := sm) (u := f) (v := v) hAf hsm (by omega) (by omega)
                    have e63 := HRCX.out.cell (i := oh + v) (by omega)
                    rw [if_neg (by omega)] at e63
                    have hsum : IntKind.i64.wrap (C (oh + v) + cfI A sm f v) = C (oh + v) + cfI A sm f v := IntWalk.i64_in _ (by omega)
                    have h95 : ∀ x : BW w7, Calls Tryd.prog 52 #[.pointer (some ⟨B, 0, none⟩), .int .i64 0] x.val fun e w' => e = .returned (.agg #[.int .i64 (f : Int), .int .i64 (A f)]) ∧ Below x.val.heap.size x.val w' := fun x => qfirst (HQX.out.keep (Nat.le_refl _) (fun b hb _ => x.2.block b hb)) hf (by omega)
                    have h97 : ∀ x : BW w7, Calls Tryd.prog 54 #[.agg #[.int .i64 (f : Int), .int .i64 (A f)], .int .i64 (v : Int), .int .i64 sm] x.val fun e w' => e = .returned (.int .i64 (cfI A sm f v)) ∧ Below x.val.heap.size x.val w' := fun x => costFrom_any f (A f) v sm x.val (by omega) (by omega) hsm hAf
                    refine wp_opaque fun Q2 hQ2 => ?_
                    (refine region_below_tail 12 (by kernel_rfl) (by kernel_rfl) ?_; (simp only [List.take_succ_cons, List.take_zero, List.drop_succ_cons, List.drop_zero]); (repeat (first | go_big_quiet_step ((first | (go_at_call 52; with_reducible exact toB h95 _) | (go_at_call 54; with_reducible exact toB h97 _))) | quiet_step ((first | (go_at_call 52; with_reducible exact toB h95 _) | (go_at_call 54; with_reducible exact toB h97 _))))); (refine wpQuiet_nil ?_; intro _ hw'; obtain ⟨xq, hw''⟩ := hw'; subst hw''))
                    have hb9 := xq.2
                    have c9 := keep hb9 e63
                    have z9 := (HRCX.out.of_block (hb9.block gc hlc)).frozen (oh + v)
                    have h9 : (xq.val.setCell ⟨gc, oh + v, none⟩ (.int .i64 (C (oh + v) + cfI A sm f v))).rowIs gc 3 M (fun j => .int .i64 (if oh ≤ j ∧ j < oh + (v + 1) then C j + restC A s sm W (j - oh) else C j)) :=
                      ((HRCX.out.of_block (hb9.block gc hlc)).set (oh + v) (.int .i64 (C (oh + v) + cfI A sm f v))).congr fun j _ => by
                        by_cases hj : j = oh + v
                        · subst hj
                          rw [if_pos rfl, if_pos (by omega), show oh + v - oh = v by omega]
                          unfold restC
                          rw [← HF.out]
                        · rw [if_neg hj]
                          by_cases hj2 : oh ≤ j ∧ j < oh + v
                          · rw [if_pos hj2, if_pos (by omega)]
                          · rw [if_neg hj2, if_neg (by omega)]
                    have hB9B : Below B w7 xq.val := hb9.mono (by have := HQX.out.lt; omega)
                    have hn9 : (xq.val.setCell ⟨gc, oh + v, none⟩ (.int .i64 (C (oh + v) + cfI A sm f v))).rowIs gn 3 M (fun j => .int .i64 (if oh ≤ j ∧ j < oh + v then (front A s sm W (j - oh + 1) : Int) else N j)) :=
                      (HRNX.out.of_block (hb9.block gn hln)).setOther (a := ⟨gc, oh + v, none⟩) (Ne.symm hne) _
                    have hq9 : QueueAt (xq.val.setCell ⟨gc, oh + v, none⟩ (.int .i64 (C (oh + v) + cfI A sm f v))) B B (cand A f k) :=
                      HQX.out.keep (Nat.le_refl _) (fun b hb hb2 => (heap_setCell_other _ ⟨gc, oh + v, none⟩ b _ (by show b ≠ gc; omega)).trans (hb9.block b hb))
                    have hk9 : Kp2 B gc gn W1 (xq.val.setCell ⟨gc, oh + v, none⟩ (.int .i64 (C (oh + v) + cfI A sm f v))) := (HKX.out.trans (Kp2.of_below hB9B)).trans (Kp2.setCell (.inl rfl))
                    have H9 := Lib.hid h9
                    have HN9 := Lib.hid hn9
                    have HQ9 := Lib.hid hq9
                    have HK9 := Lib.hid hk9
                    clear h95 h97 h9 hn9 hq9 hk9 hb9 hB9B q3 q4 r0 r1 t0 hl3 hl4 hl5 hlc hln e63 hsum hcf hCv
                    go_wp2_with fail
                    clear c9 z9
                    try refine hQ2 _ _ _ ?_
                    try clear hQ2 Q2
                    generalize World.setCell _ _ _ = w10 at *
                    have r1 : w10.cell? ⟨b0 + 1, 1, none⟩ = some (.slice (some ⟨gn, oh, none⟩) W W) := (HK9.out.cell (o := 1) (c := b0 + 1) (by omega) (by omega) (by omega)).trans H1.out
                    have hl4 := cell_lt r1
                    have hln := HN9.out.lt
                    have e9 := HN9.out.cell (i := oh + v) (by omega)
                    have h95 : ∀ x : BW w10, Calls Tryd.prog 52 #[.pointer (some ⟨B, 0, none⟩), .int .i64 0] x.val fun e w' => e = .returned (.agg #[.int .i64 (f : Int), .int .i64 (A f)]) ∧ Below x.val.heap.size x.val w' := fun x => qfirst (HQ9.out.keep (Nat.le_refl _) (fun b hb _ => x.2.block b hb)) hf (by omega)
                    try go_wp2_with fail
                    refine wp_opaque fun Q2 hQ2 => ?_
                    (refine region_below_tail 6 (by kernel_rfl) (by kernel_rfl) ?_; (simp only [List.take_succ_cons, List.take_zero, List.drop_succ_cons, List.drop_zero]); (repeat (first | go_big_quiet_step ((go_at_call 52; with_reducible exact toB h95 _)) | quiet_step ((go_at_call 52; with_reducible exact toB h95 _)))); (refine wpQuiet_nil ?_; intro _ hw'; obtain ⟨xq, hw''⟩ := hw'; subst hw''))
                    have hb9 := xq.2
                    have hB9B : Below B w10 xq.val := hb9.mono (by have := HQ9.out.lt; omega)
                    have z9 := (HN9.out.of_block (hb9.block gn hln)).frozen (oh + v)
                    have c9 := keep hb9 e9
                    have hn11 : (xq.val.setCell ⟨gn, oh + v, none⟩ (.int .i64 (f : Int))).rowIs gn 3 M (fun j => .int .i64 (if oh ≤ j ∧ j < oh + (v + 1) then (front A s sm W (j - oh + 1) : Int) else N j)) :=
                      ((HN9.out.of_block (hb9.block gn hln)).set (oh + v) (.int .i64 (f : Int))).congr fun j _ => by
                        by_cases hj : j = oh + v
                        · subst hj
                          rw [if_pos rfl, if_pos (by omega), show oh + v - oh = v by omega, ← HF.out]
                        · rw [if_neg hj]
                          by_cases hj2 : oh ≤ j ∧ j < oh + v
                          · rw [if_pos hj2, if_pos (by omega)]
                          · rw [if_neg hj2, if_neg (by omega)]
                    have h11 := (H9.out.of_block (hb9.block gc H9.out.lt)).setOther (a := ⟨gn, oh + v, none⟩) hne (.int .i64 (f : Int))
                    have hq11 : QueueAt (xq.val.setCell ⟨gn, oh + v, none⟩ (.int .i64 (f : Int))) B B (cand A (front A s sm W (v + 1)) (ent s W (v + 1))) := by
                      rw [← HF.out, HE1.out]
                      exact HQ9.out.keep (Nat.le_refl _) (fun b hb hb2 => (heap_setCell_other _ ⟨gn, oh + v, none⟩ b _ (by show b ≠ gn; omega)).trans (hb9.block b hb))
                    have hk11 : Kp2 B gc gn W1 (xq.val.setCell ⟨gn, oh + v, none⟩ (.int .i64 (f : Int))) := (HK9.out.trans (Kp2.of_below hB9B)).trans (Kp2.setCell (.inr (.inl rfl)))
                    have H11 := Lib.hid h11
                    have HN11 := Lib.hid hn11
                    have HQ11 := Lib.hid hq11
                    have HK11 := Lib.hid hk11
                    clear h95 h11 hn11 hq11 hk11 hb9 hB9B r1 hl4 hln e9
                    go_wp2_with fail
                    clear c9 z9
                    try refine hQ2 _ _ _ ?_
                    try clear hQ2 Q2
                    generalize World.setCell _ _ _ = w11 at *
                    try go_wp2_with fail
                    go_roundw
                    case rel =>
                      first
                        | exact ⟨v + 1, by omega, by go_num, by rw [HE1.out], HQ11, H11, HN11, HK11⟩
                        | ((repeat apply Exists.intro); refine ⟨?_, rfl⟩; exact ⟨v + 1, by omega, by go_num, by rw [HE1.out], HQ11, H11, HN11, HK11⟩)
                    case measure => simp [intOf]; omega
                · have d2 : decide ((k : Int) - (f : Int) > 1) = false := decide_eq_false (by omega)
                  have e2 : ¬ ((k : Int) - (f : Int) > 1) := by omega
                  have h951 := h950
                  have h97a := h97b
                  have HF : Hid (f = front A s sm W (v + 1)) := Lib.hid (by
                    have h := HD.out
                    rw [hfuel] at h
                    unfold dropF at h
                    rw [if_neg (by unfold drops; rw [d1, decide_eq_false c2]; simp)] at h
                    exact h)
                  go_wp2_with fail
                  refine wp_opaque fun Q2 hQ2 => ?_
                  (refine wp_region_below (by kernel_rfl) (by kernel_rfl) ?_; (repeat (first | go_big_quiet_step ((first | (go_at_call 52; with_reducible exact toB h950 _) | (go_at_call 52; with_reducible exact toB h951 _) | (go_at_call 53; with_reducible exact toB h96 _) | (go_at_call 54; with_reducible exact toB h97a _) | (go_at_call 54; with_reducible exact toB h97b _))) | quiet_step ((first | (go_at_call 52; with_reducible exact toB h950 _) | (go_at_call 52; with_reducible exact toB h951 _) | (go_at_call 53; with_reducible exact toB h96 _) | (go_at_call 54; with_reducible exact toB h97a _) | (go_at_call 54; with_reducible exact toB h97b _))))); (refine wpQuiet_nil ?_; intro _ hw'; obtain ⟨xq, hw''⟩ := hw'; subst hw''))
                  refine hQ2 _ _ _ ?_
                  have hbx := xq.2
                  have hbB : Below B wr xq.val := hbx.mono (by have := HQ.out.lt; omega)
                  have HQX := Lib.hid (HQ.out.keep (Nat.le_refl _) (fun b hb _ => hbx.block b hb))
                  have HRCX := Lib.hid (HRC.out.of_block (hbx.block gc hlc))
                  have HRNX := Lib.hid (HRN.out.of_block (hbx.block gn hln))
                  have HKX := Lib.hid (HK.out.trans (Kp2.of_below hbB))
                  clear h950 h97b h96 hbx hbB q3 q4 r0 r1 t0 hl3 hl4 hl5 hlc hln
                  generalize xq.val = w7 at *
                  have q3 := (HKX.out.cell (o := 3) (c := b0) (by omega) (by omega) (by omega)).trans P3.out
                  have q4 := (HKX.out.cell (o := 4) (c := b0) (by omega) (by omega) (by omega)).trans P4.out
                  have r0 := (HKX.out.cell (o := 0) (c := b0 + 1) (by omega) (by omega) (by omega)).trans H0.out
                  have r1 := (HKX.out.cell (o := 1) (c := b0 + 1) (by omega) (by omega) (by omega)).trans H1.out
                  have t0 := (HKX.out.cell (o := 0) (c := b0 + 1 + 1) (by omega) (by omega) (by omega)).trans A0.out
                  have hl3 := cell_lt q3
                  have hl4 := cell_lt r0
                  have hl5 := cell_lt t0
                  have hlc := HRCX.out.lt
                  have hln := HRNX.out.lt
                  go_wp2_with fail
                  have hvW : (v : Int) < (W : Int) := by omega
                  have hCv := HB0.out (oh + v) (by omega)
                  have hAf := HAB.out f (by omega)
                  have hcf := cfI_in (A := A) (sm := sm) (u := f) (v := v) hAf hsm (by omega) (by omega)
                  have e63 := HRCX.out.cell (i := oh + v) (by omega)
                  rw [if_neg (by omega)] at e63
                  have hsum : IntKind.i64.wrap (C (oh + v) + cfI A sm f v) = C (oh + v) + cfI A sm f v := IntWalk.i64_in _ (by omega)
                  have h95 : ∀ x : BW w7, Calls Tryd.prog 52 #[.pointer (some ⟨B, 0, none⟩), .int .i64 0] x.val fun e w' => e = .returned (.agg #[.int .i64 (f : Int), .int .i64 (A f)]) ∧ Below x.val.heap.size x.val w' := fun x => qfirst (HQX.out.keep (Nat.le_refl _) (fun b hb _ => x.2.block b hb)) hf (by omega)
                  have h97 : ∀ x : BW w7, Calls Tryd.prog 54 #[.agg #[.int .i64 (f : Int), .int .i64 (A f)], .int .i64 (v : Int), .int .i64 sm] x.val fun e w' => e = .returned (.int .i64 (cfI A sm f v)) ∧ Below x.val.heap.size x.val w' := fun x => costFrom_any f (A f) v sm x.val (by omega) (by omega) hsm hAf
                  refine wp_opaque fun Q2 hQ2 => ?_
                  (refine region_below_tail 12 (by kernel_rfl) (by kernel_rfl) ?_; (simp only [List.take_succ_cons, List.take_zero, List.drop_succ_cons, List.drop_zero]); (repeat (first | go_big_quiet_step ((first | (go_at_call 52; with_reducible exact toB h95 _) | (go_at_call 54; with_reducible exact toB h97 _))) | quiet_step ((first | (go_at_call 52; with_reducible exact toB h95 _) | (go_at_call 54; with_reducible exact toB h97 _))))); (refine wpQuiet_nil ?_; intro _ hw'; obtain ⟨xq, hw''⟩ := hw'; subst hw''))
                  have hb9 := xq.2
                  have c9 := keep hb9 e63
                  have z9 := (HRCX.out.of_block (hb9.block gc hlc)).frozen (oh + v)
                  have h9 : (xq.val.setCell ⟨gc, oh + v, none⟩ (.int .i64 (C (oh + v) + cfI A sm f v))).rowIs gc 3 M (fun j => .int .i64 (if oh ≤ j ∧ j < oh + (v + 1) then C j + restC A s sm W (j - oh) else C j)) :=
                    ((HRCX.out.of_block (hb9.block gc hlc)).set (oh + v) (.int .i64 (C (oh + v) + cfI A sm f v))).congr fun j _ => by
                      by_cases hj : j = oh + v
                      · subst hj
                        rw [if_pos rfl, if_pos (by omega), show oh + v - oh = v by omega]
                        unfold restC
                        rw [← HF.out]
                      · rw [if_neg hj]
                        by_cases hj2 : oh ≤ j ∧ j < oh + v
                        · rw [if_pos hj2, if_pos (by omega)]
                        · rw [if_neg hj2, if_neg (by omega)]
                  have hB9B : Below B w7 xq.val := hb9.mono (by have := HQX.out.lt; omega)
                  have hn9 : (xq.val.setCell ⟨gc, oh + v, none⟩ (.int .i64 (C (oh + v) + cfI A sm f v))).rowIs gn 3 M (fun j => .int .i64 (if oh ≤ j ∧ j < oh + v then (front A s sm W (j - oh + 1) : Int) else N j)) :=
                    (HRNX.out.of_block (hb9.block gn hln)).setOther (a := ⟨gc, oh + v, none⟩) (Ne.symm hne) _
                  have hq9 : QueueAt (xq.val.setCell ⟨gc, oh + v, none⟩ (.int .i64 (C (oh + v) + cfI A sm f v))) B B (cand A f k) :=
                    HQX.out.keep (Nat.le_refl _) (fun b hb hb2 => (heap_setCell_other _ ⟨gc, oh + v, none⟩ b _ (by show b ≠ gc; omega)).trans (hb9.block b hb))
                  have hk9 : Kp2 B gc gn W1 (xq.val.setCell ⟨gc, oh + v, none⟩ (.int .i64 (C (oh + v) + cfI A sm f v))) := (HKX.out.trans (Kp2.of_below hB9B)).trans (Kp2.setCell (.inl rfl))
                  have H9 := Lib.hid h9
                  have HN9 := Lib.hid hn9
                  have HQ9 := Lib.hid hq9
                  have HK9 := Lib.hid hk9
                  clear h95 h97 h9 hn9 hq9 hk9 hb9 hB9B q3 q4 r0 r1 t0 hl3 hl4 hl5 hlc hln e63 hsum hcf hCv
                  go_wp2_with fail
                  clear c9 z9
                  try refine hQ2 _ _ _ ?_
                  try clear hQ2 Q2
                  generalize World.setCell _ _ _ = w10 at *
                  have r1 : w10.cell? ⟨b0 + 1, 1, none⟩ = some (.slice (some ⟨gn, oh, none⟩) W W) := (HK9.out.cell (o := 1) (c := b0 + 1) (by omega) (by omega) (by omega)).trans H1.out
                  have hl4 := cell_lt r1
                  have hln := HN9.out.lt
                  have e9 := HN9.out.cell (i := oh + v) (by omega)
                  have h95 : ∀ x : BW w10, Calls Tryd.prog 52 #[.pointer (some ⟨B, 0, none⟩), .int .i64 0] x.val fun e w' => e = .returned (.agg #[.int .i64 (f : Int), .int .i64 (A f)]) ∧ Below x.val.heap.size x.val w' := fun x => qfirst (HQ9.out.keep (Nat.le_refl _) (fun b hb _ => x.2.block b hb)) hf (by omega)
                  try go_wp2_with fail
                  refine wp_opaque fun Q2 hQ2 => ?_
                  (refine region_below_tail 6 (by kernel_rfl) (by kernel_rfl) ?_; (simp only [List.take_succ_cons, List.take_zero, List.drop_succ_cons, List.drop_zero]); (repeat (first | go_big_quiet_step ((go_at_call 52; with_reducible exact toB h95 _)) | quiet_step ((go_at_call 52; with_reducible exact toB h95 _)))); (refine wpQuiet_nil ?_; intro _ hw'; obtain ⟨xq, hw''⟩ := hw'; subst hw''))
                  have hb9 := xq.2
                  have hB9B : Below B w10 xq.val := hb9.mono (by have := HQ9.out.lt; omega)
                  have z9 := (HN9.out.of_block (hb9.block gn hln)).frozen (oh + v)
                  have c9 := keep hb9 e9
                  have hn11 : (xq.val.setCell ⟨gn, oh + v, none⟩ (.int .i64 (f : Int))).rowIs gn 3 M (fun j => .int .i64 (if oh ≤ j ∧ j < oh + (v + 1) then (front A s sm W (j - oh + 1) : Int) else N j)) :=
                    ((HN9.out.of_block (hb9.block gn hln)).set (oh + v) (.int .i64 (f : Int))).congr fun j _ => by
                      by_cases hj : j = oh + v
                      · subst hj
                        rw [if_pos rfl, if_pos (by omega), show oh + v - oh = v by omega, ← HF.out]
                      · rw [if_neg hj]
                        by_cases hj2 : oh ≤ j ∧ j < oh + v
                        · rw [if_pos hj2, if_pos (by omega)]
                        · rw [if_neg hj2, if_neg (by omega)]
                  have h11 := (H9.out.of_block (hb9.block gc H9.out.lt)).setOther (a := ⟨gn, oh + v, none⟩) hne (.int .i64 (f : Int))
                  have hq11 : QueueAt (xq.val.setCell ⟨gn, oh + v, none⟩ (.int .i64 (f : Int))) B B (cand A (front A s sm W (v + 1)) (ent s W (v + 1))) := by
                    rw [← HF.out, HE1.out]
                    exact HQ9.out.keep (Nat.le_refl _) (fun b hb hb2 => (heap_setCell_other _ ⟨gn, oh + v, none⟩ b _ (by show b ≠ gn; omega)).trans (hb9.block b hb))
                  have hk11 : Kp2 B gc gn W1 (xq.val.setCell ⟨gn, oh + v, none⟩ (.int .i64 (f : Int))) := (HK9.out.trans (Kp2.of_below hB9B)).trans (Kp2.setCell (.inr (.inl rfl)))
                  have H11 := Lib.hid h11
                  have HN11 := Lib.hid hn11
                  have HQ11 := Lib.hid hq11
                  have HK11 := Lib.hid hk11
                  clear h95 h11 hn11 hq11 hk11 hb9 hB9B r1 hl4 hln e9
                  go_wp2_with fail
                  clear c9 z9
                  try refine hQ2 _ _ _ ?_
                  try clear hQ2 Q2
                  generalize World.setCell _ _ _ = w11 at *
                  try go_wp2_with fail
                  go_roundw
                  case rel =>
                    first
                      | exact ⟨v + 1, by omega, by go_num, by rw [HE1.out], HQ11, H11, HN11, HK11⟩
                      | ((repeat apply Exists.intro); refine ⟨?_, rfl⟩; exact ⟨v + 1, by omega, by go_num, by rw [HE1.out], HQ11, H11, HN11, HK11⟩)
                  case measure => simp [intOf]; omega
          · have hc1 : ¬ ((k : Int) < (W : Int)) := by omega
            have hd1 : decide ((k : Int) < (W : Int)) = false := decide_eq_false hc1
            go_wp2_with fail
            go_loopw [38] (fun _ wr => ∃ f : Nat, f < k ∧ Hid (dropF A s sm v k (k - f) f = front A s sm W (v + 1)) ∧ Hid (QueueAt wr B B (cand A f k)) ∧ Hid (wr.rowIs gc 3 M (fun j => .int .i64 (if oh ≤ j ∧ j < oh + v then C j + restC A s sm W (j - oh) else C j))) ∧ Hid (wr.rowIs gn 3 M (fun j => .int .i64 (if oh ≤ j ∧ j < oh + v then (front A s sm W (j - oh + 1) : Int) else N j))) ∧ Hid (Kp2 B gc gn W1 wr)) (fun _ wr => qlen wr B)
            case atStart => exact ⟨f0, by omega, Lib.hid HFR.out.symm, HQ, HRC, HRN, HK⟩
            case round =>
              obtain ⟨f, hf, HD, HQ, HRC, HRN, HK⟩ := hrel
              have q3 := (HK.out.cell (o := 3) (c := b0) (by omega) (by omega) (by omega)).trans P3.out
              have q4 := (HK.out.cell (o := 4) (c := b0) (by omega) (by omega) (by omega)).trans P4.out
              have r0 := (HK.out.cell (o := 0) (c := b0 + 1) (by omega) (by omega) (by omega)).trans H0.out
              have r1 := (HK.out.cell (o := 1) (c := b0 + 1) (by omega) (by omega) (by omega)).trans H1.out
              have t0 := (HK.out.cell (o := 0) (c := b0 + 1 + 1) (by omega) (by omega) (by omega)).trans A0.out
              have hl3 := cell_lt q3
              have hl4 := cell_lt r0
              have hl5 := cell_lt t0
              have hlc := HRC.out.lt
              have hln := HRN.out.lt
              have hA0 := HAB.out f (by omega)
              have h950 : ∀ x : BW wr, Calls Tryd.prog 52 #[.pointer (some ⟨B, 0, none⟩), .int .i64 0] x.val fun e w' => e = .returned (.agg #[.int .i64 (f : Int), .int .i64 (A f)]) ∧ Below x.val.heap.size x.val w' := fun x => qfirst (HQ.out.keep (Nat.le_refl _) (fun b hb _ => x.2.block b hb)) hf (by omega)
              have h96 : ∀ x : BW wr, Calls Tryd.prog 53 #[.pointer (some ⟨B, 0, none⟩)] x.val fun e w' => e = .returned (.int .i64 ((k : Int) - (f : Int))) ∧ Below x.val.heap.size x.val w' := fun x => (qsize_any _ B B x.val (HQ.out.keep (Nat.le_refl _) (fun b hb _ => x.2.block b hb))).mono (by
                rintro e w' ⟨rfl, rfl⟩
                rw [cand_len]
                exact ⟨by rw [show ((k - f : Nat) : Int) = (k : Int) - (f : Int) by omega], Below.refl _ _⟩)
              have h97b : ∀ x : BW wr, Calls Tryd.prog 54 #[.agg #[.int .i64 (f : Int), .int .i64 (A f)], .int .i64 (v : Int), .int .i64 sm] x.val fun e w' => e = .returned (.int .i64 (cfI A sm f v)) ∧ Below x.val.heap.size x.val w' := fun x => costFrom_any f (A f) v sm x.val (by omega) (by omega) hsm hA0
              have hfuel : k - f = (k - (f + 1)) + 1 := by omega
              have hfld := fun W => fld0 f (A f) W
              by_cases c1 : (f : Int) < (v : Int) - (s : Int)
              · have d1 : decide ((f : Int) < (v : Int) - (s : Int)) = true := decide_eq_true c1
                have hf1 : f + 1 < k := by omega
                have hnext : dropF A s sm v k (k - (f + 1)) (f + 1) = front A s sm W (v + 1) := by
                  have h := HD.out
                  rw [hfuel] at h
                  unfold dropF at h
                  rw [if_pos (by unfold drops; rw [d1]; rfl)] at h
                  exact h
                have h951 := h950
                have h97a := h97b
                go_wp2_with fail
                refine wp_opaque fun Q2 hQ2 => ?_
                (refine wp_region_below (by kernel_rfl) (by kernel_rfl) ?_; (repeat (first | go_big_quiet_step ((first | (go_at_call 52; with_reducible exact toB h950 _) | (go_at_call 52; with_reducible exact toB h951 _) | (go_at_call 53; with_reducible exact toB h96 _) | (go_at_call 54; with_reducible exact toB h97a _) | (go_at_call 54; with_reducible exact toB h97b _))) | quiet_step ((first | (go_at_call 52; with_reducible exact toB h950 _) | (go_at_call 52; with_reducible exact toB h951 _) | (go_at_call 53; with_reducible exact toB h96 _) | (go_at_call 54; with_reducible exact toB h97a _) | (go_at_call 54; with_reducible exact toB h97b _))))); (refine wpQuiet_nil ?_; intro _ hw'; obtain ⟨xq, hw''⟩ := hw'; subst hw''))
                refine hQ2 _ _ _ ?_
                have hbx := xq.2
                have HQX := Lib.hid (HQ.out.keep (Nat.le_refl _) (fun b hb _ => hbx.block b hb))
                rw [cand_cons A hf] at HQX
                have HBX := Lib.hid hbx
                have hql := HQ.out.qlen
                rw [cand_len] at hql
                have HQL := Lib.hid hql
                clear h950 h97b h96 hbx hql
                generalize xq.val = w7 at *
                go_wp2_with (go_at_call 55; refine (qdrop_any _ _ B B _ HQX.out (Nat.le_refl _)).mono ?_; rintro e w8 ⟨⟨vv, rfl⟩, hq8, hb8⟩; have HQ8 := Lib.hid hq8; have HB8 := Lib.hid hb8; clear hq8 hb8)
                have hb7 : Below B wr w7 := HBX.out.mono (by have := HQ.out.lt; omega)
                have hb9 : Below B wr w8 := hb7.trans HB8.out
                go_roundw
                case rel =>
                  first
                    | exact ⟨f + 1, hf1, Lib.hid hnext, HQ8, Lib.hid (HRC.out.of_block (hb9.block gc (by omega))), Lib.hid (HRN.out.of_block (hb9.block gn (by omega))), Lib.hid (HK.out.trans (Kp2.of_below hb9))⟩
                    | ((repeat apply Exists.intro); refine ⟨?_, rfl⟩; exact ⟨f + 1, hf1, Lib.hid hnext, HQ8, Lib.hid (HRC.out.of_block (hb9.block gc (by omega))), Lib.hid (HRN.out.of_block (hb9.block gn (by omega))), Lib.hid (HK.out.trans (Kp2.of_below hb9))⟩)
                case measure =>
                  have h1 := HQL.out
                  have h2 := HQ8.out.qlen
                  rw [cand_len] at h2
                  rw [h1, h2]; omega
              · have d1 : decide ((f : Int) < (v : Int) - (s : Int)) = false := decide_eq_false c1
                by_cases c2 : f + 1 < k
                · have d2 : decide ((k : Int) - (f : Int) > 1) = true := decide_eq_true (by omega)
                  have e2 : (k : Int) - (f : Int) > 1 := by omega
                  have hA1 := HAB.out (f + 1) (by omega)
                  have h951 : ∀ x : BW wr, Calls Tryd.prog 52 #[.pointer (some ⟨B, 0, none⟩), .int .i64 1] x.val fun e w' => e = .returned (.agg #[.int .i64 ((f : Int) + 1), .int .i64 (A (f + 1))]) ∧ Below x.val.heap.size x.val w' := fun x => qsecond (HQ.out.keep (Nat.le_refl _) (fun b hb _ => x.2.block b hb)) c2 (by omega)
                  have h97a : ∀ x : BW wr, Calls Tryd.prog 54 #[.agg #[.int .i64 ((f : Int) + 1), .int .i64 (A (f + 1))], .int .i64 (v : Int), .int .i64 sm] x.val fun e w' => e = .returned (.int .i64 (cfI A sm (f + 1) v)) ∧ Below x.val.heap.size x.val w' := fun x => costFrom_any ((f : Int) + 1) (A (f + 1)) v sm x.val (by omega) (by omega) hsm hA1
                  by_cases c3 : cfI A sm (f + 1) v < cfI A sm f v
                  · have d3 : decide (cfI A sm (f + 1) v < cfI A sm f v) = true := decide_eq_true c3
                    have hf1 := c2
                    have hnext : dropF A s sm v k (k - (f + 1)) (f + 1) = front A s sm W (v + 1) := by
                      have h := HD.out
                      rw [hfuel] at h
                      unfold dropF at h
                      rw [if_pos (by unfold drops; rw [d3, decide_eq_true c2]; simp)] at h
                      exact h
                    go_wp2_with fail
                    refine wp_opaque fun Q2 hQ2 => ?_
                    (refine wp_region_below (by kernel_rfl) (by kernel_rfl) ?_; (repeat (first | go_big_quiet_step ((first | (go_at_call 52; with_reducible exact toB h950 _) | (go_at_call 52; with_reducible exact toB h951 _) | (go_at_call 53; with_reducible exact toB h96 _) | (go_at_call 54; with_reducible exact toB h97a _) | (go_at_call 54; with_reducible exact toB h97b _))) | quiet_step ((first | (go_at_call 52; with_reducible exact toB h950 _) | (go_at_call 52; with_reducible exact toB h951 _) | (go_at_call 53; with_reducible exact toB h96 _) | (go_at_call 54; with_reducible exact toB h97a _) | (go_at_call 54; with_reducible exact toB h97b _))))); (refine wpQuiet_nil ?_; intro _ hw'; obtain ⟨xq, hw''⟩ := hw'; subst hw''))
                    refine hQ2 _ _ _ ?_
                    have hbx := xq.2
                    have HQX := Lib.hid (HQ.out.keep (Nat.le_refl _) (fun b hb _ => hbx.block b hb))
                    rw [cand_cons A hf] at HQX
                    have HBX := Lib.hid hbx
                    have hql := HQ.out.qlen
                    rw [cand_len] at hql
                    have HQL := Lib.hid hql
                    clear h950 h97b h96 hbx hql
                    generalize xq.val = w7 at *
                    go_wp2_with (go_at_call 55; refine (qdrop_any _ _ B B _ HQX.out (Nat.le_refl _)).mono ?_; rintro e w8 ⟨⟨vv, rfl⟩, hq8, hb8⟩; have HQ8 := Lib.hid hq8; have HB8 := Lib.hid hb8; clear hq8 hb8)
                    have hb7 : Below B wr w7 := HBX.out.mono (by have := HQ.out.lt; omega)
                    have hb9 : Below B wr w8 := hb7.trans HB8.out
                    go_roundw
                    case rel =>
                      first
                        | exact ⟨f + 1, hf1, Lib.hid hnext, HQ8, Lib.hid (HRC.out.of_block (hb9.block gc (by omega))), Lib.hid (HRN.out.of_block (hb9.block gn (by omega))), Lib.hid (HK.out.trans (Kp2.of_below hb9))⟩
                        | ((repeat apply Exists.intro); refine ⟨?_, rfl⟩; exact ⟨f + 1, hf1, Lib.hid hnext, HQ8, Lib.hid (HRC.out.of_block (hb9.block gc (by omega))), Lib.hid (HRN.out.of_block (hb9.block gn (by omega))), Lib.hid (HK.out.trans (Kp2.of_below hb9))⟩)
                    case measure =>
                      have h1 := HQL.out
                      have h2 := HQ8.out.qlen
                      rw [cand_len] at h2
                      rw [h1, h2]; omega
                  · have d3 : decide (cfI A sm (f + 1) v < cfI A sm f v) = false := decide_eq_false c3
                    have HF : Hid (f = front A s sm W (v + 1)) := Lib.hid (by
                      have h := HD.out
                      rw [hfuel] at h
                      unfold dropF at h
                      rw [if_neg (by unfold drops; rw [d1, d3]; simp)] at h
                      exact h)
                    go_wp2_with fail
                    refine wp_opaque fun Q2 hQ2 => ?_
                    (refine wp_region_below (by kernel_rfl) (by kernel_rfl) ?_; (repeat (first | go_big_quiet_step ((first | (go_at_call 52; with_reducible exact toB h950 _) | (go_at_call 52; with_reducible exact toB h951 _) | (go_at_call 53; with_reducible exact toB h96 _) | (go_at_call 54; with_reducible exact toB h97a _) | (go_at_call 54; with_reducible exact toB h97b _))) | quiet_step ((first | (go_at_call 52; with_reducible exact toB h950 _) | (go_at_call 52; with_reducible exact toB h951 _) | (go_at_call 53; with_reducible exact toB h96 _) | (go_at_call 54; with_reducible exact toB h97a _) | (go_at_call 54; with_reducible exact toB h97b _))))); (refine wpQuiet_nil ?_; intro _ hw'; obtain ⟨xq, hw''⟩ := hw'; subst hw''))
                    refine hQ2 _ _ _ ?_
                    have hbx := xq.2
                    have hbB : Below B wr xq.val := hbx.mono (by have := HQ.out.lt; omega)
                    have HQX := Lib.hid (HQ.out.keep (Nat.le_refl _) (fun b hb _ => hbx.block b hb))
                    have HRCX := Lib.hid (HRC.out.of_block (hbx.block gc hlc))
                    have HRNX := Lib.hid (HRN.out.of_block (hbx.block gn hln))
                    have HKX := Lib.hid (HK.out.trans (Kp2.of_below hbB))
                    clear h950 h97b h96 hbx hbB q3 q4 r0 r1 t0 hl3 hl4 hl5 hlc hln
                    generalize xq.val = w7 at *
                    have q3 := (HKX.out.cell (o := 3) (c := b0) (by omega) (by omega) (by omega)).trans P3.out
                    have q4 := (HKX.out.cell (o := 4) (c := b0) (by omega) (by omega) (by omega)).trans P4.out
                    have r0 := (HKX.out.cell (o := 0) (c := b0 + 1) (by omega) (by omega) (by omega)).trans H0.out
                    have r1 := (HKX.out.cell (o := 1) (c := b0 + 1) (by omega) (by omega) (by omega)).trans H1.out
                    have t0 := (HKX.out.cell (o := 0) (c := b0 + 1 + 1) (by omega) (by omega) (by omega)).trans A0.out
                    have hl3 := cell_lt q3
                    have hl4 := cell_lt r0
                    have hl5 := cell_lt t0
                    have hlc := HRCX.out.lt
                    have hln := HRNX.out.lt
                    go_wp2_with fail
                    have hvW : (v : Int) < (W : Int) := by omega
                    have hCv := HB0.out (oh + v) (by omega)
                    have hAf := HAB.out f (by omega)
                    have hcf := cfI_in (A := A) (sm := sm) (u := f) (v := v) hAf hsm (by omega) (by omega)
                    have e63 := HRCX.out.cell (i := oh + v) (by omega)
                    rw [if_neg (by omega)] at e63
                    have hsum : IntKind.i64.wrap (C (oh + v) + cfI A sm f v) = C (oh + v) + cfI A sm f v := IntWalk.i64_in _ (by omega)
                    have h95 : ∀ x : BW w7, Calls Tryd.prog 52 #[.pointer (some ⟨B, 0, none⟩), .int .i64 0] x.val fun e w' => e = .returned (.agg #[.int .i64 (f : Int), .int .i64 (A f)]) ∧ Below x.val.heap.size x.val w' := fun x => qfirst (HQX.out.keep (Nat.le_refl _) (fun b hb _ => x.2.block b hb)) hf (by omega)
                    have h97 : ∀ x : BW w7, Calls Tryd.prog 54 #[.agg #[.int .i64 (f : Int), .int .i64 (A f)], .int .i64 (v : Int), .int .i64 sm] x.val fun e w' => e = .returned (.int .i64 (cfI A sm f v)) ∧ Below x.val.heap.size x.val w' := fun x => costFrom_any f (A f) v sm x.val (by omega) (by omega) hsm hAf
                    refine wp_opaque fun Q2 hQ2 => ?_
                    (refine region_below_tail 12 (by kernel_rfl) (by kernel_rfl) ?_; (simp only [List.take_succ_cons, List.take_zero, List.drop_succ_cons, List.drop_zero]); (repeat (first | go_big_quiet_step ((first | (go_at_call 52; with_reducible exact toB h95 _) | (go_at_call 54; with_reducible exact toB h97 _))) | quiet_step ((first | (go_at_call 52; with_reducible exact toB h95 _) | (go_at_call 54; with_reducible exact toB h97 _))))); (refine wpQuiet_nil ?_; intro _ hw'; obtain ⟨xq, hw''⟩ := hw'; subst hw''))
                    have hb9 := xq.2
                    have c9 := keep hb9 e63
                    have z9 := (HRCX.out.of_block (hb9.block gc hlc)).frozen (oh + v)
                    have h9 : (xq.val.setCell ⟨gc, oh + v, none⟩ (.int .i64 (C (oh + v) + cfI A sm f v))).rowIs gc 3 M (fun j => .int .i64 (if oh ≤ j ∧ j < oh + (v + 1) then C j + restC A s sm W (j - oh) else C j)) :=
                      ((HRCX.out.of_block (hb9.block gc hlc)).set (oh + v) (.int .i64 (C (oh + v) + cfI A sm f v))).congr fun j _ => by
                        by_cases hj : j = oh + v
                        · subst hj
                          rw [if_pos rfl, if_pos (by omega), show oh + v - oh = v by omega]
                          unfold restC
                          rw [← HF.out]
                        · rw [if_neg hj]
                          by_cases hj2 : oh ≤ j ∧ j < oh + v
                          · rw [if_pos hj2, if_pos (by omega)]
                          · rw [if_neg hj2, if_neg (by omega)]
                    have hB9B : Below B w7 xq.val := hb9.mono (by have := HQX.out.lt; omega)
                    have hn9 : (xq.val.setCell ⟨gc, oh + v, none⟩ (.int .i64 (C (oh + v) + cfI A sm f v))).rowIs gn 3 M (fun j => .int .i64 (if oh ≤ j ∧ j < oh + v then (front A s sm W (j - oh + 1) : Int) else N j)) :=
                      (HRNX.out.of_block (hb9.block gn hln)).setOther (a := ⟨gc, oh + v, none⟩) (Ne.symm hne) _
                    have hq9 : QueueAt (xq.val.setCell ⟨gc, oh + v, none⟩ (.int .i64 (C (oh + v) + cfI A sm f v))) B B (cand A f k) :=
                      HQX.out.keep (Nat.le_refl _) (fun b hb hb2 => (heap_setCell_other _ ⟨gc, oh + v, none⟩ b _ (by show b ≠ gc; omega)).trans (hb9.block b hb))
                    have hk9 : Kp2 B gc gn W1 (xq.val.setCell ⟨gc, oh + v, none⟩ (.int .i64 (C (oh + v) + cfI A sm f v))) := (HKX.out.trans (Kp2.of_below hB9B)).trans (Kp2.setCell (.inl rfl))
                    have H9 := Lib.hid h9
                    have HN9 := Lib.hid hn9
                    have HQ9 := Lib.hid hq9
                    have HK9 := Lib.hid hk9
                    clear h95 h97 h9 hn9 hq9 hk9 hb9 hB9B q3 q4 r0 r1 t0 hl3 hl4 hl5 hlc hln e63 hsum hcf hCv
                    go_wp2_with fail
                    clear c9 z9
                    try refine hQ2 _ _ _ ?_
                    try clear hQ2 Q2
                    generalize World.setCell _ _ _ = w10 at *
                    have r1 : w10.cell? ⟨b0 + 1, 1, none⟩ = some (.slice (some ⟨gn, oh, none⟩) W W) := (HK9.out.cell (o := 1) (c := b0 + 1) (by omega) (by omega) (by omega)).trans H1.out
                    have hl4 := cell_lt r1
                    have hln := HN9.out.lt
                    have e9 := HN9.out.cell (i := oh + v) (by omega)
                    have h95 : ∀ x : BW w10, Calls Tryd.prog 52 #[.pointer (some ⟨B, 0, none⟩), .int .i64 0] x.val fun e w' => e = .returned (.agg #[.int .i64 (f : Int), .int .i64 (A f)]) ∧ Below x.val.heap.size x.val w' := fun x => qfirst (HQ9.out.keep (Nat.le_refl _) (fun b hb _ => x.2.block b hb)) hf (by omega)
                    try go_wp2_with fail
                    refine wp_opaque fun Q2 hQ2 => ?_
                    (refine region_below_tail 6 (by kernel_rfl) (by kernel_rfl) ?_; (simp only [List.take_succ_cons, List.take_zero, List.drop_succ_cons, List.drop_zero]); (repeat (first | go_big_quiet_step ((go_at_call 52; with_reducible exact toB h95 _)) | quiet_step ((go_at_call 52; with_reducible exact toB h95 _)))); (refine wpQuiet_nil ?_; intro _ hw'; obtain ⟨xq, hw''⟩ := hw'; subst hw''))
                    have hb9 := xq.2
                    have hB9B : Below B w10 xq.val := hb9.mono (by have := HQ9.out.lt; omega)
                    have z9 := (HN9.out.of_block (hb9.block gn hln)).frozen (oh + v)
                    have c9 := keep hb9 e9
                    have hn11 : (xq.val.setCell ⟨gn, oh + v, none⟩ (.int .i64 (f : Int))).rowIs gn 3 M (fun j => .int .i64 (if oh ≤ j ∧ j < oh + (v + 1) then (front A s sm W (j - oh + 1) : Int) else N j)) :=
                      ((HN9.out.of_block (hb9.block gn hln)).set (oh + v) (.int .i64 (f : Int))).congr fun j _ => by
                        by_cases hj : j = oh + v
                        · subst hj
                          rw [if_pos rfl, if_pos (by omega), show oh + v - oh = v by omega, ← HF.out]
                        · rw [if_neg hj]
                          by_cases hj2 : oh ≤ j ∧ j < oh + v
                          · rw [if_pos hj2, if_pos (by omega)]
                          · rw [if_neg hj2, if_neg (by omega)]
                    have h11 := (H9.out.of_block (hb9.block gc H9.out.lt)).setOther (a := ⟨gn, oh + v, none⟩) hne (.int .i64 (f : Int))
                    have hq11 : QueueAt (xq.val.setCell ⟨gn, oh + v, none⟩ (.int .i64 (f : Int))) B B (cand A (front A s sm W (v + 1)) (ent s W (v + 1))) := by
                      rw [← HF.out, HE1.out]
                      exact HQ9.out.keep (Nat.le_refl _) (fun b hb hb2 => (heap_setCell_other _ ⟨gn, oh + v, none⟩ b _ (by show b ≠ gn; omega)).trans (hb9.block b hb))
                    have hk11 : Kp2 B gc gn W1 (xq.val.setCell ⟨gn, oh + v, none⟩ (.int .i64 (f : Int))) := (HK9.out.trans (Kp2.of_below hB9B)).trans (Kp2.setCell (.inr (.inl rfl)))
                    have H11 := Lib.hid h11
                    have HN11 := Lib.hid hn11
                    have HQ11 := Lib.hid hq11
                    have HK11 := Lib.hid hk11
                    clear h95 h11 hn11 hq11 hk11 hb9 hB9B r1 hl4 hln e9
                    go_wp2_with fail
                    clear c9 z9
                    try refine hQ2 _ _ _ ?_
                    try clear hQ2 Q2
                    generalize World.setCell _ _ _ = w11 at *
                    try go_wp2_with fail
                    go_roundw
                    case rel =>
                      first
                        | exact ⟨v + 1, by omega, by go_num, by rw [HE1.out], HQ11, H11, HN11, HK11⟩
                        | ((repeat apply Exists.intro); refine ⟨?_, rfl⟩; exact ⟨v + 1, by omega, by go_num, by rw [HE1.out], HQ11, H11, HN11, HK11⟩)
                    case measure => simp [intOf]; omega
                · have d2 : decide ((k : Int) - (f : Int) > 1) = false := decide_eq_false (by omega)
                  have e2 : ¬ ((k : Int) - (f : Int) > 1) := by omega
                  have h951 := h950
                  have h97a := h97b
                  have HF : Hid (f = front A s sm W (v + 1)) := Lib.hid (by
                    have h := HD.out
                    rw [hfuel] at h
                    unfold dropF at h
                    rw [if_neg (by unfold drops; rw [d1, decide_eq_false c2]; simp)] at h
                    exact h)
                  go_wp2_with fail
                  refine wp_opaque fun Q2 hQ2 => ?_
                  (refine wp_region_below (by kernel_rfl) (by kernel_rfl) ?_; (repeat (first | go_big_quiet_step ((first | (go_at_call 52; with_reducible exact toB h950 _) | (go_at_call 52; with_reducible exact toB h951 _) | (go_at_call 53; with_reducible exact toB h96 _) | (go_at_call 54; with_reducible exact toB h97a _) | (go_at_call 54; with_reducible exact toB h97b _))) | quiet_step ((first | (go_at_call 52; with_reducible exact toB h950 _) | (go_at_call 52; with_reducible exact toB h951 _) | (go_at_call 53; with_reducible exact toB h96 _) | (go_at_call 54; with_reducible exact toB h97a _) | (go_at_call 54; with_reducible exact toB h97b _))))); (refine wpQuiet_nil ?_; intro _ hw'; obtain ⟨xq, hw''⟩ := hw'; subst hw''))
                  refine hQ2 _ _ _ ?_
                  have hbx := xq.2
                  have hbB : Below B wr xq.val := hbx.mono (by have := HQ.out.lt; omega)
                  have HQX := Lib.hid (HQ.out.keep (Nat.le_refl _) (fun b hb _ => hbx.block b hb))
                  have HRCX := Lib.hid (HRC.out.of_block (hbx.block gc hlc))
                  have HRNX := Lib.hid (HRN.out.of_block (hbx.block gn hln))
                  have HKX := Lib.hid (HK.out.trans (Kp2.of_below hbB))
                  clear h950 h97b h96 hbx hbB q3 q4 r0 r1 t0 hl3 hl4 hl5 hlc hln
                  generalize xq.val = w7 at *
                  have q3 := (HKX.out.cell (o := 3) (c := b0) (by omega) (by omega) (by omega)).trans P3.out
                  have q4 := (HKX.out.cell (o := 4) (c := b0) (by omega) (by omega) (by omega)).trans P4.out
                  have r0 := (HKX.out.cell (o := 0) (c := b0 + 1) (by omega) (by omega) (by omega)).trans H0.out
                  have r1 := (HKX.out.cell (o := 1) (c := b0 + 1) (by omega) (by omega) (by omega)).trans H1.out
                  have t0 := (HKX.out.cell (o := 0) (c := b0 + 1 + 1) (by omega) (by omega) (by omega)).trans A0.out
                  have hl3 := cell_lt q3
                  have hl4 := cell_lt r0
                  have hl5 := cell_lt t0
                  have hlc := HRCX.out.lt
                  have hln := HRNX.out.lt
                  go_wp2_with fail
                  have hvW : (v : Int) < (W : Int) := by omega
                  have hCv := HB0.out (oh + v) (by omega)
                  have hAf := HAB.out f (by omega)
                  have hcf := cfI_in (A := A) (sm := sm) (u := f) (v := v) hAf hsm (by omega) (by omega)
                  have e63 := HRCX.out.cell (i := oh + v) (by omega)
                  rw [if_neg (by omega)] at e63
                  have hsum : IntKind.i64.wrap (C (oh + v) + cfI A sm f v) = C (oh + v) + cfI A sm f v := IntWalk.i64_in _ (by omega)
                  have h95 : ∀ x : BW w7, Calls Tryd.prog 52 #[.pointer (some ⟨B, 0, none⟩), .int .i64 0] x.val fun e w' => e = .returned (.agg #[.int .i64 (f : Int), .int .i64 (A f)]) ∧ Below x.val.heap.size x.val w' := fun x => qfirst (HQX.out.keep (Nat.le_refl _) (fun b hb _ => x.2.block b hb)) hf (by omega)
                  have h97 : ∀ x : BW w7, Calls Tryd.prog 54 #[.agg #[.int .i64 (f : Int), .int .i64 (A f)], .int .i64 (v : Int), .int .i64 sm] x.val fun e w' => e = .returned (.int .i64 (cfI A sm f v)) ∧ Below x.val.heap.size x.val w' := fun x => costFrom_any f (A f) v sm x.val (by omega) (by omega) hsm hAf
                  refine wp_opaque fun Q2 hQ2 => ?_
                  (refine region_below_tail 12 (by kernel_rfl) (by kernel_rfl) ?_; (simp only [List.take_succ_cons, List.take_zero, List.drop_succ_cons, List.drop_zero]); (repeat (first | go_big_quiet_step ((first | (go_at_call 52; with_reducible exact toB h95 _) | (go_at_call 54; with_reducible exact toB h97 _))) | quiet_step ((first | (go_at_call 52; with_reducible exact toB h95 _) | (go_at_call 54; with_reducible exact toB h97 _))))); (refine wpQuiet_nil ?_; intro _ hw'; obtain ⟨xq, hw''⟩ := hw'; subst hw''))
                  have hb9 := xq.2
                  have c9 := keep hb9 e63
                  have z9 := (HRCX.out.of_block (hb9.block gc hlc)).frozen (oh + v)
                  have h9 : (xq.val.setCell ⟨gc, oh + v, none⟩ (.int .i64 (C (oh + v) + cfI A sm f v))).rowIs gc 3 M (fun j => .int .i64 (if oh ≤ j ∧ j < oh + (v + 1) then C j + restC A s sm W (j - oh) else C j)) :=
                    ((HRCX.out.of_block (hb9.block gc hlc)).set (oh + v) (.int .i64 (C (oh + v) + cfI A sm f v))).congr fun j _ => by
                      by_cases hj : j = oh + v
                      · subst hj
                        rw [if_pos rfl, if_pos (by omega), show oh + v - oh = v by omega]
                        unfold restC
                        rw [← HF.out]
                      · rw [if_neg hj]
                        by_cases hj2 : oh ≤ j ∧ j < oh + v
                        · rw [if_pos hj2, if_pos (by omega)]
                        · rw [if_neg hj2, if_neg (by omega)]
                  have hB9B : Below B w7 xq.val := hb9.mono (by have := HQX.out.lt; omega)
                  have hn9 : (xq.val.setCell ⟨gc, oh + v, none⟩ (.int .i64 (C (oh + v) + cfI A sm f v))).rowIs gn 3 M (fun j => .int .i64 (if oh ≤ j ∧ j < oh + v then (front A s sm W (j - oh + 1) : Int) else N j)) :=
                    (HRNX.out.of_block (hb9.block gn hln)).setOther (a := ⟨gc, oh + v, none⟩) (Ne.symm hne) _
                  have hq9 : QueueAt (xq.val.setCell ⟨gc, oh + v, none⟩ (.int .i64 (C (oh + v) + cfI A sm f v))) B B (cand A f k) :=
                    HQX.out.keep (Nat.le_refl _) (fun b hb hb2 => (heap_setCell_other _ ⟨gc, oh + v, none⟩ b _ (by show b ≠ gc; omega)).trans (hb9.block b hb))
                  have hk9 : Kp2 B gc gn W1 (xq.val.setCell ⟨gc, oh + v, none⟩ (.int .i64 (C (oh + v) + cfI A sm f v))) := (HKX.out.trans (Kp2.of_below hB9B)).trans (Kp2.setCell (.inl rfl))
                  have H9 := Lib.hid h9
                  have HN9 := Lib.hid hn9
                  have HQ9 := Lib.hid hq9
                  have HK9 := Lib.hid hk9
                  clear h95 h97 h9 hn9 hq9 hk9 hb9 hB9B q3 q4 r0 r1 t0 hl3 hl4 hl5 hlc hln e63 hsum hcf hCv
                  go_wp2_with fail
                  clear c9 z9
                  try refine hQ2 _ _ _ ?_
                  try clear hQ2 Q2
                  generalize World.setCell _ _ _ = w10 at *
                  have r1 : w10.cell? ⟨b0 + 1, 1, none⟩ = some (.slice (some ⟨gn, oh, none⟩) W W) := (HK9.out.cell (o := 1) (c := b0 + 1) (by omega) (by omega) (by omega)).trans H1.out
                  have hl4 := cell_lt r1
                  have hln := HN9.out.lt
                  have e9 := HN9.out.cell (i := oh + v) (by omega)
                  have h95 : ∀ x : BW w10, Calls Tryd.prog 52 #[.pointer (some ⟨B, 0, none⟩), .int .i64 0] x.val fun e w' => e = .returned (.agg #[.int .i64 (f : Int), .int .i64 (A f)]) ∧ Below x.val.heap.size x.val w' := fun x => qfirst (HQ9.out.keep (Nat.le_refl _) (fun b hb _ => x.2.block b hb)) hf (by omega)
                  try go_wp2_with fail
                  refine wp_opaque fun Q2 hQ2 => ?_
                  (refine region_below_tail 6 (by kernel_rfl) (by kernel_rfl) ?_; (simp only [List.take_succ_cons, List.take_zero, List.drop_succ_cons, List.drop_zero]); (repeat (first | go_big_quiet_step ((go_at_call 52; with_reducible exact toB h95 _)) | quiet_step ((go_at_call 52; with_reducible exact toB h95 _)))); (refine wpQuiet_nil ?_; intro _ hw'; obtain ⟨xq, hw''⟩ := hw'; subst hw''))
                  have hb9 := xq.2
                  have hB9B : Below B w10 xq.val := hb9.mono (by have := HQ9.out.lt; omega)
                  have z9 := (HN9.out.of_block (hb9.block gn hln)).frozen (oh + v)
                  have c9 := keep hb9 e9
                  have hn11 : (xq.val.setCell ⟨gn, oh + v, none⟩ (.int .i64 (f : Int))).rowIs gn 3 M (fun j => .int .i64 (if oh ≤ j ∧ j < oh + (v + 1) then (front A s sm W (j - oh + 1) : Int) else N j)) :=
                    ((HN9.out.of_block (hb9.block gn hln)).set (oh + v) (.int .i64 (f : Int))).congr fun j _ => by
                      by_cases hj : j = oh + v
                      · subst hj
                        rw [if_pos rfl, if_pos (by omega), show oh + v - oh = v by omega, ← HF.out]
                      · rw [if_neg hj]
                        by_cases hj2 : oh ≤ j ∧ j < oh + v
                        · rw [if_pos hj2, if_pos (by omega)]
                        · rw [if_neg hj2, if_neg (by omega)]
                  have h11 := (H9.out.of_block (hb9.block gc H9.out.lt)).setOther (a := ⟨gn, oh + v, none⟩) hne (.int .i64 (f : Int))
                  have hq11 : QueueAt (xq.val.setCell ⟨gn, oh + v, none⟩ (.int .i64 (f : Int))) B B (cand A (front A s sm W (v + 1)) (ent s W (v + 1))) := by
                    rw [← HF.out, HE1.out]
                    exact HQ9.out.keep (Nat.le_refl _) (fun b hb hb2 => (heap_setCell_other _ ⟨gn, oh + v, none⟩ b _ (by show b ≠ gn; omega)).trans (hb9.block b hb))
                  have hk11 : Kp2 B gc gn W1 (xq.val.setCell ⟨gn, oh + v, none⟩ (.int .i64 (f : Int))) := (HK9.out.trans (Kp2.of_below hB9B)).trans (Kp2.setCell (.inr (.inl rfl)))
                  have H11 := Lib.hid h11
                  have HN11 := Lib.hid hn11
                  have HQ11 := Lib.hid hq11
                  have HK11 := Lib.hid hk11
                  clear h95 h11 hn11 hq11 hk11 hb9 hB9B r1 hl4 hln e9
                  go_wp2_with fail
                  clear c9 z9
                  try refine hQ2 _ _ _ ?_
                  try clear hQ2 Q2
                  generalize World.setCell _ _ _ = w11 at *
                  try go_wp2_with fail
                  go_roundw
                  case rel =>
                    first
                      | exact ⟨v + 1, by omega, by go_num, by rw [HE1.out], HQ11, H11, HN11, HK11⟩
                      | ((repeat apply Exists.intro); refine ⟨?_, rfl⟩; exact ⟨v + 1, by omega, by go_num, by rw [HE1.out], HQ11, H11, HN11, HK11⟩)
                  case measure => simp [intOf]; omega
    · obtain rfl : v = W := by omega
      go_wp2_with fail
      go_end0
      have hk2 : Kp2 w.heap.size gc gn w wr := (Kp2.of_below HB1.out).trans ⟨HK.out.os, HK.out.tape, HK.out.output, HK.out.size, fun j hj h1 h2 => HK.out.block j (by have := HB0'.out; omega) h1 h2⟩
      exact ⟨⟨_, rfl⟩, HRC.out, HRN.out, hk2⟩
end Go.Proofs.YtejcbcjhmnhefabDoor
