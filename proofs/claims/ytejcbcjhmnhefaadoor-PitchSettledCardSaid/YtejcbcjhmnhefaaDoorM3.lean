/- The law of raised contours. -/
import Derived.Test.YtejcbcjhmnhefaaDoorM31
import Derived.Test.YtejcbcjhmnhefaaDoorK1
set_option linter.unusedSimpArgs false
set_option linter.unusedVariables false
namespace Go.Proofs.YtejcbcjhmnhefaaDoor
open Go.RowKit

def box6 (a b c d e : Int) (u : Value) : Array Value := #[.int .i64 a, .int .i64 b, .int .i64 c, .int .i64 d, .int .i64 e, u]
def BoxC (W : World) (k : Nat) (a b c d e : Int) (u : Value) : Prop := W.heap[k]? = some (.cells #[.int .i64 a, .int .i64 b, .int .i64 c, .int .i64 d, .int .i64 e, u] 43 (0, 0))
theorem BoxC.lt {W : World} {k : Nat} {a b c d e : Int} {u : Value} (h : BoxC W k a b c d e u) : k < W.heap.size := (Array.getElem?_eq_some_iff.1 h).1
theorem BoxC.cell {W : World} {k : Nat} {a b c d e : Int} {u : Value} (h : BoxC W k a b c d e u) : W.cell? ⟨k, 0, none⟩ = some (.int .i64 a) ∧ W.cell? ⟨k, 1, none⟩ = some (.int .i64 b) ∧ W.cell? ⟨k, 2, none⟩ = some (.int .i64 c) ∧ W.cell? ⟨k, 3, none⟩ = some (.int .i64 d) ∧ W.cell? ⟨k, 4, none⟩ = some (.int .i64 e) ∧ W.cell? ⟨k, 5, none⟩ = some u := by
  have h : W.heap[k]? = _ := h
  refine ⟨?_, ?_, ?_, ?_, ?_, ?_⟩ <;> simp [World.cell?, h]
theorem BoxC.frozen {W : World} {k o : Nat} {a b c d e : Int} {u : Value} (h : BoxC W k a b c d e u) : W.frozen? ⟨k, o, none⟩ = false := by
  have h : W.heap[k]? = _ := h
  simp [World.frozen?, h]
theorem BoxC.set {W : World} {k : Nat} {a b c d e : Int} {u : Value} (h : BoxC W k a b c d e u) (v : Value) : BoxC (W.setCell ⟨k, 5, none⟩ v) k a b c d e v := by
  have := heap_setCell_same W k 5 _ 43 v h
  unfold BoxC
  rw [this]; rfl
theorem BoxC.kept {W W' : World} {base size k j : Nat} {a b c d e : Int} {u v : Value} {xs : List Value} (h : BoxC W k a b c d e u) (hg : W.grownBy W' v.ownBlock) (hr : W.ownsRow base 54 size v j xs) : BoxC W' k a b c d e u := block_kept hg hr h (by decide)
theorem BoxC.alloc {W : World} {k : Nat} {a b c d e : Int} {u : Value} (h : BoxC W k a b c d e u) (o : Obj) : BoxC (W.alloc o) k a b c d e u := ((bAlloc (Below.refl W.heap.size W) o).block k h.lt).trans h

def tgtV (L : List Tgt) : List Value := L.flatMap fun p => [.int .i64 p.time, .int .i64 p.value, .int .i64 p.weight]
theorem tgtV_append (L M : List Tgt) : tgtV (L ++ M) = tgtV L ++ tgtV M := by simp [tgtV]
theorem tgtV_get (L : List Tgt) : ∀ (i : Nat) (hi : i < L.length), (tgtV L)[i * 3]? = some (.int .i64 L[i].time) ∧ (tgtV L)[i * 3 + 1]? = some (.int .i64 L[i].value) ∧ (tgtV L)[i * 3 + 2]? = some (.int .i64 L[i].weight) := by
  induction L with
  | nil => intro i hi; simp at hi
  | cons x L ih =>
    intro i hi
    cases i with
    | zero => simp [tgtV]
    | succ i =>
      have h := ih i (by simpa using hi)
      have e : tgtV (x :: L) = .int .i64 x.time :: .int .i64 x.value :: .int .i64 x.weight :: tgtV L := by simp [tgtV]
      rw [e, show (i + 1) * 3 = i * 3 + 1 + 1 + 1 by omega]
      simpa using h
theorem row_cell54 {W : World} {base n size : Nat} {v : Value} {xs : List Value} (h : W.ownsRow base 54 size v n xs) (h0 : 0 < n) : ∃ g cap, v = .slice (some ⟨g, 0, none⟩) n cap ∧ ∀ (j : Nat) u, xs[j]? = some u → W.cell? ⟨g, j, none⟩ = some u := by
  exact row_cell h h0
theorem tgts_slice {W : World} {base k : Nat} {v : Value} {L : List Tgt} (h : W.ownsRow base 54 3 v k (tgtV L)) (hk : k = L.length) (hl : L.length ≤ 1000000) : SliceV W v 3 TgtAt L := by
  subst hk
  by_cases h0 : 0 < L.length
  · obtain ⟨g, cap, rfl, hc⟩ := row_cell54 h h0
    refine ⟨_, cap, rfl, by unfold most; omega, .inr ⟨g, 0, rfl, fun i hi => ?_⟩⟩
    obtain ⟨q0, q1, q2⟩ := tgtV_get L i hi
    rw [Nat.zero_add]
    exact ⟨hc _ _ q0, hc _ _ q1, hc _ _ q2⟩
  · have : L = [] := by cases L; rfl; simp at h0
    subst this
    obtain ⟨ad, cap, rfl⟩ := ownsRow_slice h
    exact ⟨_, cap, rfl, by simp, .inl rfl⟩
theorem own_nilT {W : World} {base : Nat} : W.ownsRow base 54 3 (.slice none 0 0) 0 (tgtV []) := ⟨by simp [tgtV], .inl ⟨rfl, rfl⟩⟩
theorem own_far54 {W W' : World} {base e size k : Nat} {v : Value} {xs : List Value} (h : W.ownsRow base e size v k xs) (hb : ∀ b, base ≤ b → b < W.heap.size → W'.heap[b]? = W.heap[b]?) : W'.ownsRow base e size v k xs := own_far h hb
theorem info54 : (Tryd.prog.info? 54).map (fun i => (i.zero, i.size, i.bytes)) = some (some (.agg #[.int .i64 0, .int .i64 0, .int .i64 0]), 3, 24) := by kernel_rfl
theorem conOk_frames {p : Con} (h : conOk p = true) : 1 ≤ p.frames ∧ p.frames ≤ 200 := (conOk_parts h).1

set_option maxRecDepth 100000 in
set_option maxHeartbeats 16000000 in
theorem lawRaised_any (p : Con) (by_ : Int) (v : Value) (w : World) (hv : SliceV w v 3 TgtAt p.targets) (hS : Semi w) :
    Calls Tryd.prog 9 #[p.val v, .int .i64 by_] w fun e w' => e = .returned (.bool true) ∧ Below w.heap.size w w' := by
  have HS := Lib.hid hS
  have HV := Lib.hid hv
  obtain ⟨a, c, rfl, hl, -⟩ := hv
  unfold most at hl
  have H15 : Hid (∀ W, Below w.heap.size w W → Calls Tryd.prog 15 #[] W fun e w' => e = .returned (.bool true) ∧ Below W.heap.size W w') := Lib.hid fun W hB => known_any W (HS.out.keep hB)
  have H26 : Hid (∀ W, Below w.heap.size w W → _) := Lib.hid fun W hB => refProblem_any p (.slice a p.targets.length c) W (HV.out.keep TgtAt.stable hB)
  have H25 : Hid (∀ W, Below w.heap.size w W → _) := Lib.hid fun W hB => Best_any p (.slice a p.targets.length c) W (HV.out.keep TgtAt.stable hB)
  clear hS
  have HBX := Lib.hid (bAlloc (Below.refl w.heap.size w) (.cells #[.int .i64 p.frames, .int .i64 p.low, .int .i64 p.high, .int .i64 p.slope, .int .i64 p.smooth, .slice a p.targets.length c] 43))
  have HBL : Hid (∀ i, i < (bestL p).length → conOk p = true → (p.slope = 0 → (bestL p).getD i 0 = (bestL p).getD 0 0) ∧ (p.targets = [] → (bestL p).getD i 0 = p.low)) := Lib.hid fun i hi h => ⟨fun hs => by rw [getD_at hi, getD_at (show 0 < _ by omega)]; exact bestL_slope h hs hi _, fun hs => by rw [getD_at hi]; exact bestL_low h hs hi⟩
  have HLN := Lib.hid (bestL_len p)
  have HLI : Hid (∀ i, i < (bestL p).length → conOk p = true → p.low ≤ (bestL p).getD i 0 ∧ (bestL p).getD i 0 ≤ p.high) := Lib.hid fun i hi h => by rw [getD_at hi]; exact bestL_in h _ (List.getElem_mem _)
  have HMP : Hid (∀ i, i < (bestL p).length → ((bestL p).map (· + by_)).getD i 0 = (bestL p).getD i 0 + by_) := Lib.hid fun i hi => getD_raise hi
  have HRB := Lib.hid (bestL_raise p by_)
  have HRC := Lib.hid (fun h : conOk p = true => cost_raise by_ h)
  have HIN := Lib.hid (fun h : conOk p = true => conOk_parts h)
  obtain ⟨ok, hok⟩ : ∃ ok, ok = conOk p := ⟨_, rfl⟩
  rw [← hok] at H26
  have HOK := Lib.hid hok
  clear hok
  obtain ⟨fr, lo, hi, sl, sm, ts⟩ := p
  unfold Con.val at H26 H25 ⊢
  simp only at *
  obtain ⟨b2, hb2⟩ : ∃ b2, b2 = w.heap.size := ⟨_, rfl⟩
  have hbx : BoxC (w.alloc (.cells #[.int .i64 fr, .int .i64 lo, .int .i64 hi, .int .i64 sl, .int .i64 sm, .slice a ts.length c] 43)) b2 fr lo hi sl sm (.slice a ts.length c) := by rw [hb2]; exact World.alloc_heap_new _ _
  obtain ⟨W1, hW1⟩ : ∃ W1, w.alloc (.cells #[.int .i64 fr, .int .i64 lo, .int .i64 hi, .int .i64 sl, .int .i64 sm, .slice a ts.length c] 43) = W1 := ⟨_, rfl⟩
  rw [hW1] at hbx HBX
  have HBC := Lib.hid hbx
  have HB1 := HBX
  have HKK : Hid (∀ W', Below W1.heap.size W1 W' → BoxC W' b2 fr lo hi sl sm (.slice a ts.length c)) := Lib.hid fun W' hB => (hB.block b2 hbx.lt).trans hbx
  obtain ⟨k0, k1, k2, k3, k4, k5⟩ := hbx.cell
  have hlk := hbx.lt
  rw [hb2] at k0 k1 k2 k3 k4 k5 hlk
  have HB2 := Lib.hid hb2
  clear hbx hb2
  by_cases a1 : fr > 30
  · have d1 : decide (fr > 30) = true := decide_eq_true a1
    go_enter Tryd.func9, Tryd.ntmps9
    go_wp2_with fail
    refine (H15.out _ HB1.out).mono ?_
    rintro e w9 ⟨rfl, hb⟩
    have HB9 := Lib.hid (bThen HB1.out hb)
    clear hb
    go_wp2_with fail
    go_ret
    exact ⟨rfl, HB9.out⟩
  have d1 : decide (fr > 30) = false := decide_eq_false a1
  by_cases a2 : (ts.length : Int) > 20
  · have d2 : decide ((ts.length : Int) > 20) = true := decide_eq_true a2
    go_enter Tryd.func9, Tryd.ntmps9
    go_wp2_with fail
    refine (H15.out _ HB1.out).mono ?_
    rintro e w9 ⟨rfl, hb⟩
    have HB9 := Lib.hid (bThen HB1.out hb)
    clear hb
    go_wp2_with fail
    go_ret
    exact ⟨rfl, HB9.out⟩
  have d2 : decide ((ts.length : Int) > 20) = false := decide_eq_false a2
  cases ok
  · go_enter Tryd.func9, Tryd.ntmps9
    go_wp2_with (go_at_call 26; refine (H26.out _ HB1.out).mono ?_; rintro e w2 ⟨rfl, hb⟩; replace HB1 := Lib.hid (bThen HB1.out hb); clear hb)
    refine (H15.out _ HB1.out).mono ?_
    rintro e w9 ⟨rfl, hb⟩
    have HB9 := Lib.hid (bThen HB1.out hb)
    clear hb
    go_wp2_with fail
    go_ret
    exact ⟨rfl, HB9.out⟩
  by_cases a3 : by_ < -1000
  · have d3 : decide (by_ < -1000) = true := decide_eq_true a3
    go_enter Tryd.func9, Tryd.ntmps9
    go_wp2_with (go_at_call 26; refine (H26.out _ HB1.out).mono ?_; rintro e w2 ⟨rfl, hb⟩; replace HB1 := Lib.hid (bThen HB1.out hb); clear hb)
    refine (H15.out _ HB1.out).mono ?_
    rintro e w9 ⟨rfl, hb⟩
    have HB9 := Lib.hid (bThen HB1.out hb)
    clear hb
    go_wp2_with fail
    go_ret
    exact ⟨rfl, HB9.out⟩
  have d3 : decide (by_ < -1000) = false := decide_eq_false a3
  by_cases a4 : by_ > 1000
  · have d4 : decide (by_ > 1000) = true := decide_eq_true a4
    go_enter Tryd.func9, Tryd.ntmps9
    go_wp2_with (go_at_call 26; refine (H26.out _ HB1.out).mono ?_; rintro e w2 ⟨rfl, hb⟩; replace HB1 := Lib.hid (bThen HB1.out hb); clear hb)
    refine (H15.out _ HB1.out).mono ?_
    rintro e w9 ⟨rfl, hb⟩
    have HB9 := Lib.hid (bThen HB1.out hb)
    clear hb
    go_wp2_with fail
    go_ret
    exact ⟨rfl, HB9.out⟩
  have d4 : decide (by_ > 1000) = false := decide_eq_false a4
  obtain ⟨hf, hlo, hhi, hsl, hsm, _, hts⟩ := HIN.out HOK.out.symm
  obtain ⟨F, hF⟩ : ∃ F : Nat, fr = (F : Int) := ⟨fr.toNat, by omega⟩
  subst hF
  have HTS := Lib.hid hts
  have HQ : Hid (∀ u W, SliceV W u 3 TgtAt (ts.map (raiseT by_)) → (Calls Tryd.prog 26 #[.agg #[.int .i64 F, .int .i64 (lo + by_), .int .i64 (hi + by_), .int .i64 sl, .int .i64 sm, u]] W fun e w' => e = .returned (.bool (conOk (raiseC ⟨F, lo, hi, sl, sm, ts⟩ by_))) ∧ Below W.heap.size W w')) := Lib.hid fun u W h => refProblem_any (raiseC ⟨F, lo, hi, sl, sm, ts⟩ by_) u W h
  have HR : Hid (∀ u W, SliceV W u 3 TgtAt (ts.map (raiseT by_)) → conOk (raiseC ⟨F, lo, hi, sl, sm, ts⟩ by_) = true → (Calls Tryd.prog 25 #[.agg #[.int .i64 F, .int .i64 (lo + by_), .int .i64 (hi + by_), .int .i64 sl, .int .i64 sm, u]] W fun e w' => (∃ av cv, e = .returned (.tuple #[.slice av F cv, .int .i64 (costOf ⟨F, lo, hi, sl, sm, ts⟩ (bestL ⟨F, lo, hi, sl, sm, ts⟩)), .int .i64 0]) ∧ SliceV w' (.slice av F cv) 1 IntAt ((bestL ⟨F, lo, hi, sl, sm, ts⟩).map (· + by_))) ∧ Below W.heap.size W w')) := Lib.hid fun u W h ho => (Best_any (raiseC ⟨F, lo, hi, sl, sm, ts⟩ by_) u W h).mono fun e w' ⟨hb, hB⟩ => by
    refine ⟨?_, hB⟩
    rcases hb with ⟨hn, _⟩ | ⟨_, v, rfl, hv⟩
    · rw [ho] at hn; cases hn
    · rw [HRB.out] at hv
      have hn : ((bestL ⟨F, lo, hi, sl, sm, ts⟩).map (· + by_)).length = F := by rw [List.length_map, HLN.out]; omega
      obtain ⟨av, cv, rfl, h1, h2⟩ := hv
      rw [hn] at h1
      rw [hn, HRC.out HOK.out.symm]
      exact ⟨av, cv, rfl, av, cv, by rw [hn], by rw [hn]; exact h1, h2⟩
  have H25' : Hid (∀ W, Below w.heap.size w W → Calls Tryd.prog 25 #[.agg #[.int .i64 F, .int .i64 lo, .int .i64 hi, .int .i64 sl, .int .i64 sm, .slice a ts.length c]] W fun e w' => (∃ av cv, e = .returned (.tuple #[.slice av F cv, .int .i64 (costOf ⟨F, lo, hi, sl, sm, ts⟩ (bestL ⟨F, lo, hi, sl, sm, ts⟩)), .int .i64 0]) ∧ SliceV w' (.slice av F cv) 1 IntAt (bestL ⟨F, lo, hi, sl, sm, ts⟩)) ∧ Below W.heap.size W w') := Lib.hid fun W hB => (H25.out W hB).mono fun e w' ⟨hb, hB⟩ => by
    refine ⟨?_, hB⟩
    rcases hb with ⟨hn, _⟩ | ⟨_, v, rfl, hv⟩
    · rw [← HOK.out] at hn; cases hn
    · have hn : (bestL ⟨F, lo, hi, sl, sm, ts⟩).length = F := by rw [HLN.out]; omega
      obtain ⟨av, cv, rfl, h1, h2⟩ := hv
      rw [hn] at h1
      rw [hn]
      exact ⟨av, cv, rfl, av, cv, by rw [hn], by rw [hn]; exact h1, h2⟩
  have HBL' : Hid (∀ i, i < (bestL ⟨F, lo, hi, sl, sm, ts⟩).length → (sl = 0 → (bestL ⟨F, lo, hi, sl, sm, ts⟩).getD i 0 = (bestL ⟨F, lo, hi, sl, sm, ts⟩).getD 0 0) ∧ (ts = [] → (bestL ⟨F, lo, hi, sl, sm, ts⟩).getD i 0 = lo)) := Lib.hid (fun i h => HBL.out i h HOK.out.symm)
  have hll := HLN.out
  have HLI' : Hid (∀ i, i < (bestL ⟨F, lo, hi, sl, sm, ts⟩).length → lo ≤ (bestL ⟨F, lo, hi, sl, sm, ts⟩).getD i 0 ∧ (bestL ⟨F, lo, hi, sl, sm, ts⟩).getD i 0 ≤ hi) := Lib.hid fun i h => HLI.out i h HOK.out.symm
  rw [Int.toNat_natCast] at hll
  clear HIN H25 HRB HRC HBL HLI hts
  generalize costOf _ _ = m at *
  have HOKQ := Lib.hid (rfl : conOk (raiseC ⟨F, lo, hi, sl, sm, ts⟩ by_) = conOk (raiseC ⟨F, lo, hi, sl, sm, ts⟩ by_))
  generalize conOk (raiseC ⟨F, lo, hi, sl, sm, ts⟩ by_) = okq at *
  generalize bestL _ = L at *
  clear HOK HLN HOKQ
  go_enter Tryd.func9, Tryd.ntmps9
  go_wp2_with (go_at_call 26; refine (H26.out _ HB1.out).mono ?_; rintro e w2 ⟨rfl, hb⟩; replace HB1 := Lib.hid (bThen HB1.out hb); have HB2' := Lib.hid hb; obtain ⟨k0, k1, k2, k3, k4, k5⟩ := (HKK.out w2 hb).cell; have hlk := cell_lt k0; rw [HB2.out] at k0 k1 k2 k3 k4 k5 hlk; clear hb)
  refine (H25'.out _ HB1.out).mono ?_
  rintro e w3 ⟨⟨av, cv, rfl, hr⟩, hb⟩
  replace HB1 := Lib.hid (bThen HB1.out hb)
  have HB3' := Lib.hid (bThen HB2'.out hb)
  have HRV := Lib.hid hr
  clear hb hr k0 k1 k2 k3 k4 k5 hlk
  obtain ⟨k0, k1, k2, k3, k4, k5⟩ := (HKK.out w3 HB3'.out).cell
  have hlk3 := cell_lt k0
  rw [HB2.out] at k0 k1 k2 k3 k4 k5 hlk3
  have dF : decide ((F : Int) = (F : Int)) = true := decide_eq_true rfl
  go_wp2_with fail
  go_loopw [8] (fun i wr => ∃ k : Nat, k ≤ F ∧ i = .int .i64 k ∧ Hid (Below w3.heap.size w3 wr)) (fun i _ => F - (intOf i).toNat)
  case atStart => exact ⟨0, Nat.zero_le _, rfl, Lib.hid (Below.refl _ _)⟩
  case round =>
    obtain ⟨k, hk, rfl, HB⟩ := hrel
    obtain ⟨k0, k1, k2, k3, k4, k5⟩ := (HKK.out wr (bThen HB3'.out HB.out)).cell
    have hlk3 := cell_lt k0
    rw [HB2.out] at k0 k1 k2 k3 k4 k5 hlk3
    by_cases hlt : k < F
    · obtain ⟨vb, vo, rfl, hv⟩ := (HRV.out.keep IntAt.stable HB.out).at (by intro h; simp [h] at hll; omega)
      have ek := hv k (by omega)
      have e0 := hv 0 (by omega)
      unfold IntAt at ek e0
      rw [← getD_at, Nat.mul_one] at ek
      rw [← getD_at, Nat.zero_mul, Nat.add_zero] at e0
      have hx := HBL'.out k (by omega)
      have hlv := cell_lt ek
      clear hv
      by_cases g1 : sl = 0
      · rw [hx.1 g1] at ek
        by_cases g2 : ts.length = 0
        · rw [← hx.1 g1, hx.2 (List.eq_nil_of_length_eq_zero g2)] at ek e0
          clear hx
          go_wp2_with fail
          refine wp_opaque fun Q2 hQ2 => ?_
          (refine wp_region_below (by kernel_rfl) (by kernel_rfl) ?_; (repeat (first | go_big_quiet_step ((fail)) | quiet_step ((fail)))); (refine wpQuiet_nil ?_; intro _ hw'; obtain ⟨xq, hw''⟩ := hw'; subst hw''))
          refine hQ2 _ _ _ ?_
          clear hQ2 Q2
          have HBN := Lib.hid (bThen HB.out xq.2)
          go_wp2_with fail
          go_roundw
          case rel =>
            try subst g1
            try (simp only [List.length_eq_zero_iff] at g2; subst g2)
            first
              | exact ⟨k + 1, by omega, by go_num, HBN⟩
              | ((repeat apply Exists.intro); refine ⟨?_, rfl⟩; exact ⟨k + 1, by omega, by go_num, HBN⟩)
          case measure => simp [intOf]; omega
        · clear hx
          generalize L.getD 0 0 = x at *
          go_wp2_with fail
          refine wp_opaque fun Q2 hQ2 => ?_
          (refine wp_region_below (by kernel_rfl) (by kernel_rfl) ?_; (repeat (first | go_big_quiet_step ((fail)) | quiet_step ((fail)))); (refine wpQuiet_nil ?_; intro _ hw'; obtain ⟨xq, hw''⟩ := hw'; subst hw''))
          refine hQ2 _ _ _ ?_
          clear hQ2 Q2
          have HBN := Lib.hid (bThen HB.out xq.2)
          go_wp2_with fail
          go_roundw
          case rel =>
            try subst g1
            try (simp only [List.length_eq_zero_iff] at g2; subst g2)
            first
              | exact ⟨k + 1, by omega, by go_num, HBN⟩
              | ((repeat apply Exists.intro); refine ⟨?_, rfl⟩; exact ⟨k + 1, by omega, by go_num, HBN⟩)
          case measure => simp [intOf]; omega
      · by_cases g2 : ts.length = 0
        · rw [hx.2 (List.eq_nil_of_length_eq_zero g2)] at ek
          clear hx
          go_wp2_with fail
          refine wp_opaque fun Q2 hQ2 => ?_
          (refine wp_region_below (by kernel_rfl) (by kernel_rfl) ?_; (repeat (first | go_big_quiet_step ((fail)) | quiet_step ((fail)))); (refine wpQuiet_nil ?_; intro _ hw'; obtain ⟨xq, hw''⟩ := hw'; subst hw''))
          refine hQ2 _ _ _ ?_
          clear hQ2 Q2
          have HBN := Lib.hid (bThen HB.out xq.2)
          go_wp2_with fail
          go_roundw
          case rel =>
            try subst g1
            try (simp only [List.length_eq_zero_iff] at g2; subst g2)
            first
              | exact ⟨k + 1, by omega, by go_num, HBN⟩
              | ((repeat apply Exists.intro); refine ⟨?_, rfl⟩; exact ⟨k + 1, by omega, by go_num, HBN⟩)
          case measure => simp [intOf]; omega
        · clear hx
          generalize L.getD k 0 = y at *
          generalize L.getD 0 0 = x at *
          go_wp2_with fail
          refine wp_opaque fun Q2 hQ2 => ?_
          (refine wp_region_below (by kernel_rfl) (by kernel_rfl) ?_; (repeat (first | go_big_quiet_step ((fail)) | quiet_step ((fail)))); (refine wpQuiet_nil ?_; intro _ hw'; obtain ⟨xq, hw''⟩ := hw'; subst hw''))
          refine hQ2 _ _ _ ?_
          clear hQ2 Q2
          have HBN := Lib.hid (bThen HB.out xq.2)
          go_wp2_with fail
          go_roundw
          case rel =>
            try subst g1
            try (simp only [List.length_eq_zero_iff] at g2; subst g2)
            first
              | exact ⟨k + 1, by omega, by go_num, HBN⟩
              | ((repeat apply Exists.intro); refine ⟨?_, rfl⟩; exact ⟨k + 1, by omega, by go_num, HBN⟩)
          case measure => simp [intOf]; omega
    · obtain rfl : F = k := by omega
      have hby : -1000 ≤ by_ ∧ by_ ≤ 1000 := by omega
      go_wp2_with fail
      go_region
      have hbox : BoxC (wr.alloc (.cells #[.int .i64 F, .int .i64 (lo + by_), .int .i64 (hi + by_), .int .i64 sl, .int .i64 sm, .slice none 0 0] 43)).drew wr.heap.size F (lo + by_) (hi + by_) sl sm (.slice none 0 0) := World.alloc_heap_new _ _
      have hB4 : Below wr.heap.size wr (wr.alloc (.cells #[.int .i64 F, .int .i64 (lo + by_), .int .i64 (hi + by_), .int .i64 sl, .int .i64 sm, .slice none 0 0] 43)).drew := (bAlloc (Below.refl _ _) _).drew
      have HB4 := Lib.hid hB4
      have HBOX := Lib.hid hbox
      have hs4 : (wr.alloc (.cells #[.int .i64 F, .int .i64 (lo + by_), .int .i64 (hi + by_), .int .i64 sl, .int .i64 sm, .slice none 0 0] 43)).drew.heap.size = wr.heap.size + 1 := World.size_alloc _ _
      have HS4 := Lib.hid hs4
      clear hbox hB4 hs4
      generalize World.drew _ = W4 at *
      obtain ⟨b9, hb9⟩ : ∃ b9, b9 = wr.heap.size := ⟨_, rfl⟩
      rw [← hb9] at HBOX HS4 ⊢
      have HB9 := Lib.hid hb9
      have hbb : b2 < b9 := by rw [hb9, HB2.out]; exact hlk3
      have HBW := Lib.hid (bThen HB1.out HB.out)
      have HB9' := Lib.hid HB.out
      have HBV := Lib.hid (bThen HB3'.out HB.out)
      clear hb9 k0 k1 k2 k3 k4 k5 hlk3
      obtain ⟨wo, hwo⟩ : ∃ wo, wo = wr := ⟨_, rfl⟩
      subst hwo
      obtain ⟨i54, hi54, hz54, hs54, hb54⟩ := info_parts info54
      have HI := Lib.hid hi54
      clear hi54
      go_wp2_with fail
      go_loopw [10] (fun i wr => ∃ (j : Nat) (u : Value), j ≤ ts.length ∧ i = .int .i64 j ∧ Hid (BoxC wr b9 F (lo + by_) (hi + by_) sl sm u) ∧ Hid (wr.ownsRow (b9 + 1) 54 3 u j (tgtV ((ts.take j).map (raiseT by_)))) ∧ Hid (Below wo.heap.size wo wr)) (fun i _ => ts.length - (intOf i).toNat)
      case atStart => exact ⟨0, _, Nat.zero_le _, rfl, HBOX, Lib.hid own_nilT, HB4⟩
      case round =>
        obtain ⟨j, u, hj, rfl, HBOX, HOW, HB⟩ := hrel
        obtain ⟨ad, cap, rfl⟩ := ownsRow_slice HOW.out
        obtain ⟨k0, k1, k2, k3, k4, k5⟩ := (HKK.out wr (bThen HBV.out HB.out)).cell
        have hlk3 := cell_lt k0
        rw [HB2.out] at k0 k1 k2 k3 k4 k5 hlk3
        obtain ⟨q0, q1, q2, q3, q4, q5⟩ := HBOX.out.cell
        have hlq := HBOX.out.lt
        by_cases hlt : j < ts.length
        · obtain ⟨tb, tof, rfl, c0, c1, c2⟩ := tgt_at (HV.out.keep TgtAt.stable (bThen HBW.out HB.out)) hlt
          have hyo := tgtOk_in (HTS.out ts[j] (List.getElem_mem hlt))
          have HTK : Hid ((ts.take (j + 1)).map (raiseT by_) = (ts.take j).map (raiseT by_) ++ [raiseT by_ ts[j]]) := Lib.hid (by rw [take_succ ts j hlt, List.map_append]; rfl)
          have hlb := cell_lt c0
          have hbsz : b9 + 1 ≤ wr.heap.size := hlq
          generalize ts[j] = y at *
          have HNEW : Hid (∀ j u, [Value.int .i64 y.time, .int .i64 (y.value + by_), .int .i64 y.weight][j]? = some u → ((wr.alloc (.cells #[.int .i64 y.time, .int .i64 (y.value + by_), .int .i64 y.weight] 54)).alloc (.cells #[.int .i64 y.time, .int .i64 (y.value + by_), .int .i64 y.weight] 54)).cell? (Addr.add ⟨wr.heap.size + 1, 0, none⟩ j) = some u) := Lib.hid (by
            have h := three_new (wr.alloc (.cells #[.int .i64 y.time, .int .i64 (y.value + by_), .int .i64 y.weight] 54)) (.int .i64 y.time) (.int .i64 (y.value + by_)) (.int .i64 y.weight) 54
            rw [World.size_alloc] at h
            exact h)
          have hl20 : ts.length ≤ 20 := by omega
          go_wp2_with (at_builtin; go_loud (refine wpList_append_own _ rfl _ _ 41 rfl (b9 + 1) 54 i54 (.agg #[.int .i64 0, .int .i64 0, .int .i64 0]) 3 24 Tryd.underlying41 HI.out hz54 hs54 hb54 rfl (by decide) (.slice ad j cap) _ _ rfl ((HOW.out.alloc _).alloc _) ⟨wr.heap.size + 1, 0, none⟩ 1 1 [.int .i64 y.time, .int .i64 (y.value + by_), .int .i64 y.weight] rfl (by rfl) HNEW.out (by simp [Value.oneCell']) (by unfold maxLen; omega) (by omega) (by simp; omega) ?_); intro v' w5 hown' hgrow _; obtain ⟨ad5, cap5, rfl⟩ := ownsRow_slice hown'; have hbx5 := ((HBOX.out.alloc _).alloc _).kept hgrow ((HOW.out.alloc _).alloc _); have HU := Lib.hid (And.intro hown' (And.intro hgrow hbx5)); have y5 := hbx5.cell.2.2.2.2.2; have z5 := hbx5.frozen (o := 5); have hl5 := hbx5.lt; clear hown' hgrow hbx5)
          obtain ⟨hown', hgrow, hbx5⟩ := HU.out
          have hb5 : Below (b9 + 1) wr w5 := ((bAlloc (bAlloc (Below.refl wr.heap.size wr) _) _).mono hbsz).trans (grown_below hgrow ((HOW.out.alloc _).alloc _) (by simp; omega))
          have HBOX5 := Lib.hid (hbx5.set (.slice ad5 (j + 1) cap5))
          have HOW5 : Hid ((w5.setCell ⟨b9, 5, none⟩ (.slice ad5 (j + 1) cap5)).ownsRow (b9 + 1) 54 3 (.slice ad5 (j + 1) cap5) (j + 1) (tgtV ((ts.take (j + 1)).map (raiseT by_)))) := Lib.hid (by
            rw [HTK.out, tgtV_append]
            exact own_far hown' fun b hb1 hb2 => heap_setCell_other _ ⟨b9, 5, none⟩ b _ (by show b ≠ b9; omega))
          have HB5 : Hid (Below wo.heap.size wo (w5.setCell ⟨b9, 5, none⟩ (.slice ad5 (j + 1) cap5))) := Lib.hid ((HB.out.trans (hb5.mono (by rw [← HB9.out]; omega))).setCell (by show wo.heap.size ≤ b9; rw [← HB9.out]; exact Nat.le_refl _) _)
          clear hown' hgrow hbx5 hb5 HU
          go_roundw
          case rel =>
            first
              | exact ⟨j + 1, _, by omega, by go_num, HBOX5, HOW5, HB5⟩
              | ((repeat apply Exists.intro); refine ⟨?_, rfl⟩; exact ⟨j + 1, _, by omega, by go_num, HBOX5, HOW5, HB5⟩)
          case measure => simp [intOf]; omega
        · obtain rfl : j = ts.length := by omega
          rw [List.take_length] at HOW
          have hsl : SliceV wr (.slice ad ts.length cap) 3 TgtAt (ts.map (raiseT by_)) := tgts_slice HOW.out (by rw [List.length_map]) (by rw [List.length_map]; omega)
          have HSL := Lib.hid hsl
          have HB1 := Lib.hid (bThen HBW.out HB.out)
          have H26q := Lib.hid (HQ.out _ wr hsl)
          clear hsl
          cases okq
          · go_wp2_with fail
            refine H26q.out.mono ?_
            rintro e w6 ⟨rfl, hb⟩
            replace HB1 := Lib.hid (bThen HB1.out hb)
            clear hb
            go_wp2_with fail
            refine (H15.out _ HB1.out).mono ?_
            rintro e w9 ⟨rfl, hb⟩
            have HB9 := Lib.hid (bThen HB1.out hb)
            clear hb
            go_wp2_with fail
            go_ret
            exact ⟨rfl, HB9.out⟩
          · go_wp2_with fail
            refine H26q.out.mono ?_
            rintro e w6 ⟨rfl, hb⟩
            have HB6 := Lib.hid hb
            replace HB1 := Lib.hid (bThen HB1.out hb)
            clear hb
            clear q0 q1 q2 q3 q4 q5 hlq
            obtain ⟨q0, q1, q2, q3, q4, q5⟩ := BoxC.cell (show BoxC w6 b9 _ _ _ _ _ _ from (HB6.out.block b9 HBOX.out.lt).trans HBOX.out)
            have hlq := cell_lt q0
            have H25q := Lib.hid (HR.out _ w6 (HSL.out.keep TgtAt.stable HB6.out) (by simp))
            clear k0 k1 k2 k3 k4 k5 hlk3
            go_wp2_with fail
            refine H25q.out.mono ?_
            rintro e w7 ⟨⟨aw, cw, rfl, hr⟩, hb⟩
            have HRW := Lib.hid hr
            have HBV7 := Lib.hid (bThen HB.out (bThen HB6.out hb))
            replace HB1 := Lib.hid (bThen HB1.out hb)
            clear hb
            clear hr q0 q1 q2 q3 q4 q5 hlq
            go_wp2_with fail
            go_loopw [15] (fun i wr => ∃ k : Nat, k ≤ F ∧ i = .int .i64 k ∧ Hid (Below w7.heap.size w7 wr)) (fun i _ => F - (intOf i).toNat)
            case atStart => exact ⟨0, Nat.zero_le _, rfl, Lib.hid (Below.refl _ _)⟩
            case round =>
              obtain ⟨k, hk, rfl, HBk⟩ := hrel
              by_cases hlt3 : k < F
              · obtain ⟨vb, vo, rfl, hv⟩ := (HRV.out.keep IntAt.stable (bThen (bThen HB9'.out HBV7.out) HBk.out)).at (by intro h; simp [h] at hll; omega)
                obtain ⟨xb, xo, rfl, hx⟩ := (HRW.out.keep IntAt.stable HBk.out).at (by intro h; simp at h; simp [h] at hll; omega)
                have ek := hv k (by omega)
                have e0 := hx k (by rw [List.length_map]; omega)
                unfold IntAt at ek e0
                rw [← getD_at, Nat.mul_one] at ek e0
                rw [HMP.out k (by omega)] at e0
                have hin := HLI'.out k (by omega)
                have hlv := cell_lt ek
                have hlx := cell_lt e0
                clear hv hx
                generalize L.getD k 0 = y at *
                go_wp2_with fail
                refine wp_opaque fun Q2 hQ2 => ?_
                (refine wp_region_below (by kernel_rfl) (by kernel_rfl) ?_; (repeat (first | go_big_quiet_step ((fail)) | quiet_step ((fail)))); (refine wpQuiet_nil ?_; intro _ hw'; obtain ⟨xq, hw''⟩ := hw'; subst hw''))
                refine hQ2 _ _ _ ?_
                clear hQ2 Q2
                have HBN := Lib.hid (bThen HBk.out xq.2)
                go_wp2_with fail
                go_roundw
                case rel =>
                  first
                    | exact ⟨k + 1, by omega, by go_num, HBN⟩
                    | ((repeat apply Exists.intro); refine ⟨?_, rfl⟩; exact ⟨k + 1, by omega, by go_num, HBN⟩)
                case measure => simp [intOf]; omega
              · obtain rfl : F = k := by omega
                replace HB1 := Lib.hid (bThen HB1.out HBk.out)
                go_wp2_with fail
                refine (H15.out _ HB1.out).mono ?_
                rintro e w9 ⟨rfl, hb⟩
                have HB9 := Lib.hid (bThen HB1.out hb)
                clear hb
                go_wp2_with fail
                go_ret
                exact ⟨rfl, HB9.out⟩
end Go.Proofs.YtejcbcjhmnhefaaDoor
