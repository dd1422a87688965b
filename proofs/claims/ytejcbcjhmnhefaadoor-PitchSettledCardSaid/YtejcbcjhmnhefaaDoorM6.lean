/- Contracts: contours checked, by the program and by the specification. -/
import Derived.Test.YtejcbcjhmnhefaaDoorM5
set_option linter.unusedSimpArgs false
set_option linter.unusedVariables false
namespace Go.Proofs.YtejcbcjhmnhefaaDoor
open Go.RowKit

def ctrAt (lo hi sl : Int) (vs : List Int) (k : Nat) : Bool := betw (vs.getD k 0) lo hi && (decide (k = 0) || betw (vs.getD k 0 - vs.getD (k - 1) 0) (-sl) sl)
def ctrB (lo hi sl : Int) (vs : List Int) : Nat → Bool
  | 0 => true
  | k + 1 => ctrB lo hi sl vs k && ctrAt lo hi sl vs k
def ctrOk (p : Con) (vs : List Int) : Bool := decide ((vs.length : Int) = p.frames) && ctrB p.low p.high p.slope vs vs.length
theorem ctrB_false {lo hi sl : Int} {vs : List Int} {k : Nat} (h : ctrAt lo hi sl vs k = false) : ∀ n, k < n → ctrB lo hi sl vs n = false := by
  intro n
  induction n with
  | zero => intro h; omega
  | succ n ih =>
    intro hk
    unfold ctrB
    by_cases e : k = n
    · subst e; rw [h, Bool.and_false]
    · rw [ih (by omega), Bool.false_and]
theorem ctrB_in {lo hi sl : Int} {vs : List Int} : ∀ n, ctrB lo hi sl vs n = true → ∀ k, k < n → lo ≤ vs.getD k 0 ∧ vs.getD k 0 ≤ hi := by
  intro n
  induction n with
  | zero => intro _ k hk; omega
  | succ n ih =>
    intro h k hk
    unfold ctrB ctrAt at h
    simp only [Bool.and_eq_true] at h
    by_cases e : k = n
    · subst e; exact betw_in h.2.1
    · exact ih h.1 k (by omega)
theorem ctrOk_in {p : Con} {vs : List Int} (h : ctrOk p vs = true) : (vs.length : Int) = p.frames ∧ ∀ x ∈ vs, p.low ≤ x ∧ x ≤ p.high := by
  unfold ctrOk at h
  simp only [Bool.and_eq_true, decide_eq_true_eq] at h
  refine ⟨h.1, fun x hx => ?_⟩
  obtain ⟨i, hi, rfl⟩ := List.getElem_of_mem hx
  have := ctrB_in _ h.2 i hi
  rwa [getD_at hi] at this

set_option maxRecDepth 100000 in
set_option maxHeartbeats 16000000 in
theorem contourRight_any (p : Con) (vs : List Int) (tv vv : Value) (w : World) (hok : conOk p = true) (hu : SliceV w vv 1 IntAt vs) :
    Calls Tryd.prog 57 #[p.val tv, vv] w fun e w' => e = .returned (.bool (ctrOk p vs)) ∧ Below w.heap.size w w' := by
  obtain ⟨⟨hf0, hf1⟩, hlo, hhi, hsl, -, -, -⟩ := conOk_in hok
  have HU := Lib.hid hu
  clear hok
  obtain ⟨fr, lo, hi, sl, sm, ts⟩ := p
  unfold Con.val ctrOk
  simp only at *
  obtain ⟨va, vc, rfl, hvl, -⟩ := hu
  unfold most at hvl
  by_cases hne : (vs.length : Int) = fr
  · subst hne
    rw [decide_eq_true (rfl : (vs.length : Int) = vs.length), Bool.true_and]
    obtain ⟨vb, vo, rfl, hx⟩ := HU.out.at (by intro h; simp [h] at hf0)
    obtain ⟨n, hn⟩ : ∃ n, n = vs.length := ⟨_, rfl⟩
    have HX : Hid (∀ i, i < n → w.cell? ⟨vb, vo + i, none⟩ = some (.int .i64 (vs.getD i 0))) := Lib.hid fun i hi => by
      rw [hn] at hi
      have h := hx i hi
      rw [Nat.mul_one] at h
      rw [getD_at hi]; exact h
    clear hx HU
    have HF0 : Hid (∀ k, ctrAt lo hi sl vs k = false → k < n → ctrB lo hi sl vs n = false) := Lib.hid (fun k h => ctrB_false h n)
    have HIN := Lib.hid (fun n (h : ctrB lo hi sl vs n = true) => ctrB_in n h)
    rw [← hn] at hvl hf0 hf1 ⊢
    obtain ⟨b2, hb2⟩ : ∃ b2, b2 = w.heap.size := ⟨_, rfl⟩
    have HN := Lib.hid hn
    clear hn
    go_enter Tryd.func57, Tryd.ntmps57
    go_wp2_with fail
    rw [← hb2]
    generalize hW1 : World.alloc w _ = W1
    have hB1 : Below w.heap.size w W1 := by rw [← hW1]; exact bAlloc (Below.refl _ _) _
    have hp : ∀ j v, (#[Value.int .i64 (n : Int), .int .i64 lo, .int .i64 hi, .int .i64 sl, .int .i64 sm, tv] : Array Value)[j]? = some v → W1.cell? ⟨b2, j, none⟩ = some v := fun j v h => by
      rw [← hW1, hb2]; exact cell_new h
    have HP := Lib.hid hp
    have HB1 := Lib.hid hB1
    clear hW1 hB1 hp hb2
    go_loopw [5, 6, 14] (fun _ _ i wr => ∃ k : Nat, k ≤ n ∧ i = .int .i64 k ∧ Hid (ctrB lo hi sl vs k = true) ∧ Hid (Below W1.heap.size W1 wr)) (fun _ _ i _ => n - (intOf i).toNat)
    case atStart => exact ⟨0, Nat.zero_le _, rfl, Lib.hid rfl, Lib.hid (Below.refl _ _)⟩
    case round =>
      obtain ⟨k, hk, rfl, HA, HB⟩ := hrel
      by_cases hlt : k < n
      · have p1 := keep HB.out (HP.out 1 _ rfl)
        have p2 := keep HB.out (HP.out 2 _ rfl)
        have p3 := keep HB.out (HP.out 3 _ rfl)
        have hlp := cell_lt p1
        have ek := keep HB.out (keep HB1.out (HX.out k hlt))
        have hlv := cell_lt ek
        have HF1 := Lib.hid (HF0.out k)
        have HNX : Hid (ctrAt lo hi sl vs k = true → ctrB lo hi sl vs (k + 1) = true) := Lib.hid fun h => by unfold ctrB; rw [HA.out, h]; rfl
        by_cases hk0 : k = 0
        · subst hk0
          rw [Nat.add_zero] at ek
          have HAT : Hid (ctrAt lo hi sl vs 0 = betw (vs.getD 0 0) lo hi) := Lib.hid (by simp [ctrAt])
          rw [show ((0 : Nat) : Int) = 0 from rfl] at *
          generalize vs.getD 0 0 = u1 at *
          cases g1 : betw u1 lo hi
          · have HFALSE := Lib.hid (HF1.out (by rw [HAT.out, g1]) hlt)
            go_wp2_with fail
            refine wp_opaque fun Q2 hQ2 => ?_
            (refine wp_region_below (by kernel_rfl) (by kernel_rfl) ?_; (repeat (first | go_big_quiet_step ((go_at_call 47; exact toS (fun w => between_any _ _ _ w) _)) | quiet_step ((go_at_call 47; exact toS (fun w => between_any _ _ _ w) _)))); (refine wpQuiet_nil ?_; intro _ hw'; obtain ⟨xq, hw''⟩ := hw'; subst hw''))
            have HBX := Lib.hid (bThen HB.out xq.2)
            refine hQ2 _ _ _ ?_
            clear hQ2 Q2
            go_wp2_with fail
            go_ret
            exact ⟨ret_bool HFALSE.out.symm, bThen HB1.out HBX.out⟩
          · have HNEXT := Lib.hid (HNX.out (by rw [HAT.out, g1]))
            clear HNX HF1
            go_wp2_with fail
            refine wp_opaque fun Q2 hQ2 => ?_
            (refine wp_region_below (by kernel_rfl) (by kernel_rfl) ?_; (repeat (first | go_big_quiet_step ((go_at_call 47; exact toS (fun w => between_any _ _ _ w) _)) | quiet_step ((go_at_call 47; exact toS (fun w => between_any _ _ _ w) _)))); (refine wpQuiet_nil ?_; intro _ hw'; obtain ⟨xq, hw''⟩ := hw'; subst hw''))
            have HBX := Lib.hid (bThen HB.out xq.2)
            refine hQ2 _ _ _ ?_
            clear hQ2 Q2
            go_wp2_with fail
            go_roundw
            case rel =>
              first
                | exact ⟨_, by omega, by go_num, HNEXT, HBX⟩
                | ((repeat apply Exists.intro); refine ⟨?_, rfl⟩; exact ⟨_, by omega, by go_num, HNEXT, HBX⟩)
            case measure => simp [intOf]; omega
        · obtain ⟨q, rfl⟩ : ∃ q, k = q + 1 := ⟨k - 1, by omega⟩
          have eq := keep HB.out (keep HB1.out (HX.out q (by omega)))
          have hiq := HIN.out _ HA.out q (by omega)
          have HAT : Hid (ctrAt lo hi sl vs (q + 1) = (betw (vs.getD (q + 1) 0) lo hi && betw (vs.getD (q + 1) 0 - vs.getD q 0) (-sl) sl)) := Lib.hid (by simp [ctrAt])
          rw [show ((q + 1 : Nat) : Int) = (q : Int) + 1 from rfl] at *
          generalize vs.getD (q + 1) 0 = u1 at *
          generalize vs.getD q 0 = u0 at *
          have i1 : (0 : Int) ≤ (q : Int) + 1 := by omega
          have i2 : (q : Int) + 1 < (n : Int) := by omega
          have i3 : (q : Int) < (n : Int) := by omega
          have i4 : ((q : Int) + 1).toNat = q + 1 := by omega
          have i6 : (q : Int) + 1 - 1 = (q : Int) := by omega
          have w5 : IntKind.i64.wrap (-sl) = -sl := IntWalk.i64_in _ (by omega)
          cases g1 : betw u1 lo hi
          · have HFALSE := Lib.hid (HF1.out (by rw [HAT.out, g1]; rfl) hlt)
            go_wp2_with fail
            refine wp_opaque fun Q2 hQ2 => ?_
            (refine wp_region_below (by kernel_rfl) (by kernel_rfl) ?_; (repeat (first | go_big_quiet_step ((go_at_call 47; exact toS (fun w => between_any _ _ _ w) _)) | quiet_step ((go_at_call 47; exact toS (fun w => between_any _ _ _ w) _)))); (refine wpQuiet_nil ?_; intro _ hw'; obtain ⟨xq, hw''⟩ := hw'; subst hw''))
            have HBX := Lib.hid (bThen HB.out xq.2)
            refine hQ2 _ _ _ ?_
            clear hQ2 Q2
            go_wp2_with fail
            go_ret
            exact ⟨ret_bool HFALSE.out.symm, bThen HB1.out HBX.out⟩
          · have h1 := betw_in g1
            have w0 : IntKind.i64.wrap (u1 - u0) = u1 - u0 := IntWalk.i64_in _ (by omega)
            cases g2 : betw (u1 - u0) (-sl) sl
            · have HFALSE := Lib.hid (HF1.out (by rw [HAT.out, g1, g2]; rfl) hlt)
              go_wp2_with fail
              refine wp_opaque fun Q2 hQ2 => ?_
              (refine wp_region_below (by kernel_rfl) (by kernel_rfl) ?_; (repeat (first | go_big_quiet_step ((go_at_call 47; exact toS (fun w => between_any _ _ _ w) _)) | quiet_step ((go_at_call 47; exact toS (fun w => between_any _ _ _ w) _)))); (refine wpQuiet_nil ?_; intro _ hw'; obtain ⟨xq, hw''⟩ := hw'; subst hw''))
              have HBX := Lib.hid (bThen HB.out xq.2)
              refine hQ2 _ _ _ ?_
              clear hQ2 Q2
              go_wp2_with fail
              go_ret
              exact ⟨ret_bool HFALSE.out.symm, bThen HB1.out HBX.out⟩
            · have HNEXT := Lib.hid (HNX.out (by rw [HAT.out, g1, g2]; rfl))
              clear HNX HF1
              go_wp2_with fail
              refine wp_opaque fun Q2 hQ2 => ?_
              (refine wp_region_below (by kernel_rfl) (by kernel_rfl) ?_; (repeat (first | go_big_quiet_step ((go_at_call 47; exact toS (fun w => between_any _ _ _ w) _)) | quiet_step ((go_at_call 47; exact toS (fun w => between_any _ _ _ w) _)))); (refine wpQuiet_nil ?_; intro _ hw'; obtain ⟨xq, hw''⟩ := hw'; subst hw''))
              have HBX := Lib.hid (bThen HB.out xq.2)
              refine hQ2 _ _ _ ?_
              clear hQ2 Q2
              go_wp2_with fail
              go_roundw
              case rel =>
                first
                  | exact ⟨_, by omega, by go_num, HNEXT, HBX⟩
                  | ((repeat apply Exists.intro); refine ⟨?_, rfl⟩; exact ⟨_, by omega, by go_num, HNEXT, HBX⟩)
              case measure => simp [intOf]; omega
      · obtain rfl : k = n := by omega
        go_wp2_with fail
        go_ret
        exact ⟨ret_bool HA.out.symm, bThen HB1.out HB.out⟩
  · have hd : ¬ ((vs.length : Int) = fr) := hne
    rw [decide_eq_false hne, Bool.false_and]
    go_enter Tryd.func57, Tryd.ntmps57
    go_wp2_with fail
    go_ret
    exact ⟨rfl, bAlloc (Below.refl _ _) _⟩
set_option maxRecDepth 100000 in
set_option maxHeartbeats 16000000 in
theorem refContour_any (p : Con) (vs : List Int) (tv vv : Value) (w : World) (hok : conOk p = true) (hu : SliceV w vv 1 IntAt vs) :
    Calls Tryd.prog 31 #[p.val tv, vv] w fun e w' => e = .returned (.bool (ctrOk p vs)) ∧ Below w.heap.size w w' := by
  obtain ⟨⟨hf0, hf1⟩, hlo, hhi, hsl, -, -, -⟩ := conOk_in hok
  have HU := Lib.hid hu
  clear hok
  obtain ⟨fr, lo, hi, sl, sm, ts⟩ := p
  unfold Con.val ctrOk
  simp only at *
  obtain ⟨va, vc, rfl, hvl, -⟩ := hu
  unfold most at hvl
  by_cases hne : (vs.length : Int) = fr
  · subst hne
    rw [decide_eq_true (rfl : (vs.length : Int) = vs.length), Bool.true_and]
    obtain ⟨vb, vo, rfl, hx⟩ := HU.out.at (by intro h; simp [h] at hf0)
    obtain ⟨n, hn⟩ : ∃ n, n = vs.length := ⟨_, rfl⟩
    have HX : Hid (∀ i, i < n → w.cell? ⟨vb, vo + i, none⟩ = some (.int .i64 (vs.getD i 0))) := Lib.hid fun i hi => by
      rw [hn] at hi
      have h := hx i hi
      rw [Nat.mul_one] at h
      rw [getD_at hi]; exact h
    clear hx HU
    have HF0 : Hid (∀ k, ctrAt lo hi sl vs k = false → k < n → ctrB lo hi sl vs n = false) := Lib.hid (fun k h => ctrB_false h n)
    have HIN := Lib.hid (fun n (h : ctrB lo hi sl vs n = true) => ctrB_in n h)
    rw [← hn] at hvl hf0 hf1 ⊢
    obtain ⟨b2, hb2⟩ : ∃ b2, b2 = w.heap.size := ⟨_, rfl⟩
    have HN := Lib.hid hn
    clear hn
    go_enter Tryd.func31, Tryd.ntmps31
    go_wp2_with fail
    rw [← hb2]
    generalize hW1 : World.alloc w _ = W1
    have hB1 : Below w.heap.size w W1 := by rw [← hW1]; exact bAlloc (Below.refl _ _) _
    have hp : ∀ j v, (#[Value.int .i64 (n : Int), .int .i64 lo, .int .i64 hi, .int .i64 sl, .int .i64 sm, tv] : Array Value)[j]? = some v → W1.cell? ⟨b2, j, none⟩ = some v := fun j v h => by
      rw [← hW1, hb2]; exact cell_new h
    have HP := Lib.hid hp
    have HB1 := Lib.hid hB1
    clear hW1 hB1 hp hb2
    go_loopw [5] (fun i wr => ∃ k : Nat, k ≤ n ∧ i = .int .i64 k ∧ Hid (ctrB lo hi sl vs k = true) ∧ Hid (Below W1.heap.size W1 wr)) (fun i _ => n - (intOf i).toNat)
    case atStart => exact ⟨0, Nat.zero_le _, rfl, Lib.hid rfl, Lib.hid (Below.refl _ _)⟩
    case round =>
      obtain ⟨k, hk, rfl, HA, HB⟩ := hrel
      by_cases hlt : k < n
      · have p1 := keep HB.out (HP.out 1 _ rfl)
        have p2 := keep HB.out (HP.out 2 _ rfl)
        have p3 := keep HB.out (HP.out 3 _ rfl)
        have hlp := cell_lt p1
        have ek := keep HB.out (keep HB1.out (HX.out k hlt))
        have hlv := cell_lt ek
        have HF1 := Lib.hid (HF0.out k)
        have HNX : Hid (ctrAt lo hi sl vs k = true → ctrB lo hi sl vs (k + 1) = true) := Lib.hid fun h => by unfold ctrB; rw [HA.out, h]; rfl
        by_cases hk0 : k = 0
        · subst hk0
          rw [Nat.add_zero] at ek
          have HAT : Hid (ctrAt lo hi sl vs 0 = betw (vs.getD 0 0) lo hi) := Lib.hid (by simp [ctrAt])
          rw [show ((0 : Nat) : Int) = 0 from rfl] at *
          generalize vs.getD 0 0 = u1 at *
          cases g1 : betw u1 lo hi
          · have HFALSE := Lib.hid (HF1.out (by rw [HAT.out, g1]) hlt)
            go_wp2_with fail
            refine wp_opaque fun Q2 hQ2 => ?_
            (refine wp_region_below (by kernel_rfl) (by kernel_rfl) ?_; (repeat (first | go_big_quiet_step ((go_at_call 49; exact toS (fun w => in_any _ _ _ w) _)) | quiet_step ((go_at_call 49; exact toS (fun w => in_any _ _ _ w) _)))); (refine wpQuiet_nil ?_; intro _ hw'; obtain ⟨xq, hw''⟩ := hw'; subst hw''))
            have HBX := Lib.hid (bThen HB.out xq.2)
            refine hQ2 _ _ _ ?_
            clear hQ2 Q2
            go_wp2_with fail
            go_ret
            exact ⟨ret_bool HFALSE.out.symm, bThen HB1.out HBX.out⟩
          · have HNEXT := Lib.hid (HNX.out (by rw [HAT.out, g1]))
            clear HNX HF1
            go_wp2_with fail
            refine wp_opaque fun Q2 hQ2 => ?_
            (refine wp_region_below (by kernel_rfl) (by kernel_rfl) ?_; (repeat (first | go_big_quiet_step ((go_at_call 49; exact toS (fun w => in_any _ _ _ w) _)) | quiet_step ((go_at_call 49; exact toS (fun w => in_any _ _ _ w) _)))); (refine wpQuiet_nil ?_; intro _ hw'; obtain ⟨xq, hw''⟩ := hw'; subst hw''))
            have HBX := Lib.hid (bThen HB.out xq.2)
            refine hQ2 _ _ _ ?_
            clear hQ2 Q2
            go_wp2_with fail
            go_roundw
            case rel =>
              first
                | exact ⟨_, by omega, by go_num, HNEXT, HBX⟩
                | ((repeat apply Exists.intro); refine ⟨?_, rfl⟩; exact ⟨_, by omega, by go_num, HNEXT, HBX⟩)
            case measure => simp [intOf]; omega
        · obtain ⟨q, rfl⟩ : ∃ q, k = q + 1 := ⟨k - 1, by omega⟩
          have eq := keep HB.out (keep HB1.out (HX.out q (by omega)))
          have hiq := HIN.out _ HA.out q (by omega)
          have HAT : Hid (ctrAt lo hi sl vs (q + 1) = (betw (vs.getD (q + 1) 0) lo hi && betw (vs.getD (q + 1) 0 - vs.getD q 0) (-sl) sl)) := Lib.hid (by simp [ctrAt])
          rw [show ((q + 1 : Nat) : Int) = (q : Int) + 1 from rfl] at *
          generalize vs.getD (q + 1) 0 = u1 at *
          generalize vs.getD q 0 = u0 at *
          have i1 : (0 : Int) ≤ (q : Int) + 1 := by omega
          have i2 : (q : Int) + 1 < (n : Int) := by omega
          have i3 : (q : Int) < (n : Int) := by omega
          have i4 : ((q : Int) + 1).toNat = q + 1 := by omega
          have i6 : (q : Int) + 1 - 1 = (q : Int) := by omega
          have w5 : IntKind.i64.wrap (-sl) = -sl := IntWalk.i64_in _ (by omega)
          cases g1 : betw u1 lo hi
          · have HFALSE := Lib.hid (HF1.out (by rw [HAT.out, g1]; rfl) hlt)
            go_wp2_with fail
            refine wp_opaque fun Q2 hQ2 => ?_
            (refine wp_region_below (by kernel_rfl) (by kernel_rfl) ?_; (repeat (first | go_big_quiet_step ((go_at_call 49; exact toS (fun w => in_any _ _ _ w) _)) | quiet_step ((go_at_call 49; exact toS (fun w => in_any _ _ _ w) _)))); (refine wpQuiet_nil ?_; intro _ hw'; obtain ⟨xq, hw''⟩ := hw'; subst hw''))
            have HBX := Lib.hid (bThen HB.out xq.2)
            refine hQ2 _ _ _ ?_
            clear hQ2 Q2
            go_wp2_with fail
            go_ret
            exact ⟨ret_bool HFALSE.out.symm, bThen HB1.out HBX.out⟩
          · have h1 := betw_in g1
            have w0 : IntKind.i64.wrap (u1 - u0) = u1 - u0 := IntWalk.i64_in _ (by omega)
            cases g2 : betw (u1 - u0) (-sl) sl
            · have HFALSE := Lib.hid (HF1.out (by rw [HAT.out, g1, g2]; rfl) hlt)
              go_wp2_with fail
              refine wp_opaque fun Q2 hQ2 => ?_
              (refine wp_region_below (by kernel_rfl) (by kernel_rfl) ?_; (repeat (first | go_big_quiet_step ((go_at_call 49; exact toS (fun w => in_any _ _ _ w) _)) | quiet_step ((go_at_call 49; exact toS (fun w => in_any _ _ _ w) _)))); (refine wpQuiet_nil ?_; intro _ hw'; obtain ⟨xq, hw''⟩ := hw'; subst hw''))
              have HBX := Lib.hid (bThen HB.out xq.2)
              refine hQ2 _ _ _ ?_
              clear hQ2 Q2
              go_wp2_with fail
              go_ret
              exact ⟨ret_bool HFALSE.out.symm, bThen HB1.out HBX.out⟩
            · have HNEXT := Lib.hid (HNX.out (by rw [HAT.out, g1, g2]; rfl))
              clear HNX HF1
              go_wp2_with fail
              refine wp_opaque fun Q2 hQ2 => ?_
              (refine wp_region_below (by kernel_rfl) (by kernel_rfl) ?_; (repeat (first | go_big_quiet_step ((go_at_call 49; exact toS (fun w => in_any _ _ _ w) _)) | quiet_step ((go_at_call 49; exact toS (fun w => in_any _ _ _ w) _)))); (refine wpQuiet_nil ?_; intro _ hw'; obtain ⟨xq, hw''⟩ := hw'; subst hw''))
              have HBX := Lib.hid (bThen HB.out xq.2)
              refine hQ2 _ _ _ ?_
              clear hQ2 Q2
              go_wp2_with fail
              go_roundw
              case rel =>
                first
                  | exact ⟨_, by omega, by go_num, HNEXT, HBX⟩
                  | ((repeat apply Exists.intro); refine ⟨?_, rfl⟩; exact ⟨_, by omega, by go_num, HNEXT, HBX⟩)
              case measure => simp [intOf]; omega
      · obtain rfl : k = n := by omega
        go_wp2_with fail
        go_ret
        exact ⟨ret_bool HA.out.symm, bThen HB1.out HB.out⟩
  · have hd : ¬ ((vs.length : Int) = fr) := hne
    rw [decide_eq_false hne, Bool.false_and]
    go_enter Tryd.func31, Tryd.ntmps31
    go_wp2_with fail
    go_ret
    exact ⟨rfl, bAlloc (Below.refl _ _) _⟩
end Go.Proofs.YtejcbcjhmnhefaaDoor
