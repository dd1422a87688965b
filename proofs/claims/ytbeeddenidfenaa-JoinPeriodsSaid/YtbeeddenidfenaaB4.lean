/- Contracts: gains. -/
import Derived.Test.YtbeeddenidfenaaB3
import Derived.Test.YtbeeddenidfenaaA11
set_option linter.unusedSimpArgs false
set_option linter.unusedVariables false
namespace Go.Proofs.Ytbeeddenidfenaa
open Go.RowKit

/-- A sample with a gain: exactly, and clipped. -/
def gnx (num den s : Int) : Int := rnd (s * num) den
def gn (num den s : Int) : Int := clp (gnx num den s)
def gainL (l : List Int) (num den : Int) : List Int := l.map (gn num den)
def clips (l : List Int) (num den : Int) : Nat := (l.filter fun s => !decide (gn num den s = gnx num den s)).length
theorem clips_snoc (l : List Int) (x num den : Int) : clips (l ++ [x]) num den = clips l num den + (if gn num den x = gnx num den x then 0 else 1) := by
  unfold clips
  rw [List.filter_append, List.length_append]
  by_cases h : gn num den x = gnx num den x <;> simp [h]
theorem clips_le (l : List Int) (num den : Int) : clips l num den ≤ l.length := List.length_filter_le ..
theorem gainL_len (l : List Int) (num den : Int) : (gainL l num den).length = l.length := by simp [gainL]
theorem gainL_snoc (l : List Int) (x num den : Int) : gainL (l ++ [x]) num den = gainL l num den ++ [gn num den x] := by simp [gainL]
theorem gn_in (num den s : Int) : -32768 ≤ gn num den s ∧ gn num den s ≤ 32767 := clp_in _
theorem gain_sm (l : List Int) (num den : Int) : Sm (gainL l num den) := by
  intro x hx
  obtain ⟨s, _, rfl⟩ := List.mem_map.1 hx
  exact gn_in num den s
set_option maxRecDepth 10000 in
set_option maxHeartbeats 4000000 in
theorem gained_any (l : List Int) (num den : Int) (v : Value) (w : World) (hv : SliceV w v 1 IntAt l) (hs : Sm l) (hn : l.length ≤ 1000000) (h0 : 0 ≤ num) (h1 : num ≤ 1000001) (h2 : 1 ≤ den) (h3 : den ≤ 1000000) :
    Calls Try.prog 78 #[v, .int .i64 num, .int .i64 den] w fun e w' => (∃ g, e = .returned (.tuple #[.slice (some ⟨g, 0, none⟩) l.length l.length, .int .i64 (clips l num den : Nat)]) ∧ w.heap.size ≤ g ∧ SliceV w' (.slice (some ⟨g, 0, none⟩) l.length l.length) 1 IntAt (gainL l num den)) ∧ Below w.heap.size w w' := by
  have HV := Lib.hid hv
  have HS := Lib.hid hs
  obtain ⟨a, c, rfl, -⟩ := hv
  clear hs
  have hmk := makeI l.length hn
  go_enter Try.func78, Try.ntmps78
  go_wp2_with fail
  have HR0 : Hid ((w.alloc (.cells (madeCells #[Value.int .i64 0] l.length) 3)).rowIs w.heap.size 3 l.length (fun i => .int .i64 (if i < 0 then gn num den (l.getD i 0) else 0))) := Lib.hid ((World.rowIs_made w (.int .i64 0) l.length 3).congr fun i hi => by rw [if_neg (by omega)])
  have HB0 := Lib.hid (bAlloc (Below.refl w.heap.size w) (.cells (madeCells #[Value.int .i64 0] l.length) 3))
  clear hmk
  generalize World.alloc w _ = W1 at *
  go_loopw [9, 18] (fun m i wr => ∃ k : Nat, k ≤ l.length ∧ i = .int .i64 k ∧ m = .int .i64 (clips (l.take k) num den : Nat) ∧ Hid (wr.rowIs w.heap.size 3 l.length (fun i => .int .i64 (if i < k then gn num den (l.getD i 0) else 0))) ∧ Hid (Below w.heap.size w wr)) (fun _ i _ => l.length - (intOf i).toNat)
  case atStart => exact ⟨0, Nat.zero_le _, rfl, by simp [clips], HR0, HB0⟩
  case round =>
    obtain ⟨k, hk, rfl, rfl, HR, HB⟩ := hrel
    by_cases hlt : k < l.length
    · obtain ⟨b, o, rfl, hf⟩ := (HV.out.keep IntAt.stable HB.out).at (by intro h; simp [h] at hlt)
      have k0 := hf k hlt
      unfold IntAt at k0
      rw [Nat.mul_one] at k0
      have hp := HS.out _ (List.getElem_mem hlt)
      have HPX : Hid (l.getD k 0 = l[k]) := Lib.hid (gI hlt)
      have HT : Hid (clips (l.take (k + 1)) num den = clips (l.take k) num den + (if gn num den l[k] = gnx num den l[k] then 0 else 1)) := Lib.hid (by rw [take_succ l k hlt, clips_snoc])
      have hcl := clips_le (l.take k) num den
      rw [List.length_take_of_le (by omega)] at hcl
      clear hf
      obtain ⟨s, hse⟩ : ∃ s, s = l[k] := ⟨_, rfl⟩
      rw [← hse] at k0 hp HPX HT
      clear hse
      obtain ⟨m, hme⟩ : ∃ m, m = clips (l.take k) num den := ⟨_, rfl⟩
      rw [← hme] at HT hcl ⊢
      clear hme
      have hbl := cell_lt k0
      have m1 := mul_in (A := 32768) (B := 1000001) (show -32768 ≤ s by omega) (by omega) (show -1000001 ≤ num by omega) h1
      have q1 : IntKind.i64.wrap (s * num) = s * num := IntWalk.i64_in _ (by omega)
      have q2 : wrap64 (s * num) = s * num := IntWalk.wrap64_in _ (by omega)
      have H88 : Hid (∀ W, Calls Try.prog 88 #[.int .i64 (s * num), .int .i64 den] W fun e w' => e = .returned (.int .i64 (gnx num den s)) ∧ W = w') := Lib.hid (fun W => rounded_any (s * num) den W (by omega) (by omega) (by omega) (by omega))
      have HCL : Hid (∀ W, Calls Try.prog 95 #[.int .i64 (gnx num den s)] W fun e w' => e = .returned (.int .i64 (gn num den s)) ∧ W = w') := Lib.hid (fun W => clipped_any (gnx num den s) W)
      have z0 := HR.out.frozen k
      have c0 := HR.out.cell (i := k) hlt
      have hgl := HR.out.lt
      have HR2 : Hid ((wr.setCell ⟨w.heap.size, k, none⟩ (.int .i64 (gn num den s))).rowIs w.heap.size 3 l.length (fun i => .int .i64 (if i < k + 1 then gn num den (l.getD i 0) else 0))) := Lib.hid ((HR.out.set k (.int .i64 (gn num den s))).congr fun j _ => by
        by_cases hj : j = k
        · subst hj
          rw [if_pos rfl, if_pos (by omega), HPX.out]
        · rw [if_neg hj]
          by_cases hj2 : j < k
          · rw [if_pos hj2, if_pos (by omega)]
          · rw [if_neg hj2, if_neg (by omega)])
      have HB2 : Hid (Below w.heap.size w (wr.setCell ⟨w.heap.size, k, none⟩ (.int .i64 (gn num den s)))) := Lib.hid (HB.out.setCell (p := ⟨w.heap.size, k, none⟩) (Nat.le_refl _) _)
      by_cases hne : gn num den s = gnx num den s
      · rw [if_pos hne] at HT
        have hd : (gn num den s == gnx num den s) = true := by rw [hne]; simp
        have HNE := Lib.hid hne
        clear hne
        go_wp2_with (first
          | (go_at_call 88; refine (H88.out _).mono ?_; rintro e w1 ⟨rfl, rfl⟩)
          | (go_at_call 95; refine (HCL.out _).mono ?_; rintro e w1 ⟨rfl, rfl⟩))
        go_roundw
        case rel =>
          first
            | exact ⟨k + 1, by omega, by go_num, by (rw [HT.out]; first | rfl | simp), HR2, HB2⟩
            | ((repeat apply Exists.intro); refine ⟨?_, rfl⟩; exact ⟨k + 1, by omega, by go_num, by (rw [HT.out]; first | rfl | simp), HR2, HB2⟩)
        case measure => simp [intOf]; omega
      · rw [if_neg hne] at HT
        have hd : (gn num den s == gnx num den s) = false := beq_eq_false_iff_ne.2 hne
        clear hne
        go_wp2_with (first
          | (go_at_call 88; refine (H88.out _).mono ?_; rintro e w1 ⟨rfl, rfl⟩)
          | (go_at_call 95; refine (HCL.out _).mono ?_; rintro e w1 ⟨rfl, rfl⟩))
        go_roundw
        case rel =>
          first
            | exact ⟨k + 1, by omega, by go_num, by (rw [HT.out]; first | rfl | simp), HR2, HB2⟩
            | ((repeat apply Exists.intro); refine ⟨?_, rfl⟩; exact ⟨k + 1, by omega, by go_num, by (rw [HT.out]; first | rfl | simp), HR2, HB2⟩)
        case measure => simp [intOf]; omega
    · obtain rfl : k = l.length := by omega
      go_wp2_with fail
      go_ret2
      refine ⟨⟨w.heap.size, by rw [List.take_length]; rfl, Nat.le_refl _, row_slice HR.out (gainL_len l num den) (fun i hi => ?_) (by unfold most; omega)⟩, HB.out⟩
      rw [gainL_len] at hi
      rw [if_pos hi, gI hi]
      simp [gainL]
set_option maxRecDepth 10000 in
set_option maxHeartbeats 4000000 in
theorem refGain_any (l : List Int) (num den : Int) (v : Value) (w : World) (hv : SliceV w v 1 IntAt l) (hs : Sm l) (hn : l.length ≤ 110000) (h0 : 0 ≤ num) (h1 : num ≤ 1000001) (h2 : 1 ≤ den) (h3 : den ≤ 1000000) :
    Calls Try.prog 54 #[v, .int .i64 num, .int .i64 den] w fun e w' => (∃ r, e = .returned (.tuple #[r, .int .i64 (clips l num den : Nat)]) ∧ SliceV w' r 1 IntAt (gainL l num den)) ∧ Below w.heap.size w w' := by
  have HV := Lib.hid hv
  have HS := Lib.hid hs
  obtain ⟨a, c, rfl, -⟩ := hv
  clear hs
  obtain ⟨i3, hi, hz0, hz1, hz2⟩ := info_parts infoI
  have HI := Lib.hid hi
  clear hi
  go_enter Try.func54, Try.ntmps54
  go_wp2_with fail
  go_loopw [8, 9, 10] (fun o m i wr => ∃ k : Nat, k ≤ l.length ∧ i = .int .i64 k ∧ m = .int .i64 (clips (l.take k) num den : Nat) ∧ Hid (wr.ownsRow w.heap.size 3 1 o k (intV (gainL (l.take k) num den))) ∧ Hid (Below w.heap.size w wr)) (fun _ _ i _ => l.length - (intOf i).toNat)
  case atStart => exact ⟨0, Nat.zero_le _, rfl, by simp [clips], Lib.hid (World.ownsRow_nil _ _ _ _), Lib.hid (Below.refl _ _)⟩
  case round =>
    obtain ⟨k, hk, rfl, rfl, HR, HB⟩ := hrel
    by_cases hlt : k < l.length
    · obtain ⟨b, o, rfl, hf⟩ := (HV.out.keep IntAt.stable HB.out).at (by intro h; simp [h] at hlt)
      have k0 := hf k hlt
      unfold IntAt at k0
      rw [Nat.mul_one] at k0
      have hp := HS.out _ (List.getElem_mem hlt)
      have HT : Hid (clips (l.take (k + 1)) num den = clips (l.take k) num den + (if gn num den l[k] = gnx num den l[k] then 0 else 1)) := Lib.hid (by rw [take_succ l k hlt, clips_snoc])
      have HTG : Hid (gainL (l.take (k + 1)) num den = gainL (l.take k) num den ++ [gn num den l[k]]) := Lib.hid (by rw [take_succ l k hlt, gainL_snoc])
      have hcl := clips_le (l.take k) num den
      rw [List.length_take_of_le (by omega)] at hcl
      clear hf
      obtain ⟨s, hse⟩ : ∃ s, s = l[k] := ⟨_, rfl⟩
      rw [← hse] at k0 hp HT HTG
      clear hse
      obtain ⟨m, hme⟩ : ∃ m, m = clips (l.take k) num den := ⟨_, rfl⟩
      rw [← hme] at HT hcl ⊢
      clear hme
      have hbl := cell_lt k0
      have hsz := HB.out.size
      have m1 := mul_in (A := 32768) (B := 1000001) (show -32768 ≤ s by omega) (by omega) (show -1000001 ≤ num by omega) h1
      have q1 : IntKind.i64.wrap (s * num) = s * num := IntWalk.i64_in _ (by omega)
      have q2 : wrap64 (s * num) = s * num := IntWalk.wrap64_in _ (by omega)
      have H67 : Hid (∀ W, Calls Try.prog 67 #[.int .i64 (s * num), .int .i64 den] W fun e w' => e = .returned (.int .i64 (gnx num den s)) ∧ W = w') := Lib.hid (fun W => Round_any (s * num) den W (by omega) (by omega) (by omega) (by omega))
      have HCL : Hid (∀ W, Calls Try.prog 77 #[.int .i64 (gnx num den s)] W fun e w' => e = .returned (.int .i64 (gn num den s)) ∧ W = w') := Lib.hid (fun W => clip_any (gnx num den s) W)
      have hrow := HR.out
      obtain ⟨ad, cap, rfl⟩ := ownsRow_slice hrow
      clear hrow
      by_cases hne : gnx num den s = gn num den s
      · rw [if_pos hne.symm] at HT
        have hd : (gnx num den s == gn num den s) = true := by rw [hne]; simp
        have HNE := Lib.hid hne
        clear hne
        go_wp2_with (first
          | (go_at_call 67; refine (H67.out _).mono ?_; rintro e w1 ⟨rfl, rfl⟩)
          | (go_at_call 77; refine (HCL.out _).mono ?_; rintro e w1 ⟨rfl, rfl⟩)
          | (at_builtin; refine wpList_append_lies _ rfl _ _ 22 rfl w.heap.size 3 i3 _ 1 8 Try.underlying22 HI.out hz0 hz1 hz2 rfl (by decide) (.slice ad k cap) k _ (by rfl) (HR.out.alloc _) ⟨wr.heap.size, 0, none⟩ 1 1 [.int .i64 (gn num den s)] (by rfl) (by rfl) (one_new _ _ _) (by simp [Value.oneCell']) (by omega) (by unfold maxLen; omega) (by omega) (by simp; omega) (wr.heap.size + 1) (by simp) ?_; intro g6 cap6 w6 hown hgrow hat6 hlt6))
        have HR2 : Hid (w6.ownsRow w.heap.size 3 1 (.slice (some ⟨g6, 0, none⟩) (k + 1) cap6) (k + 1) (intV (gainL (l.take (k + 1)) num den))) := Lib.hid (by rw [HTG.out, intV_append]; exact hown)
        have HB2 : Hid (Below w.heap.size w w6) := Lib.hid ((bAlloc HB.out _).trans (below_grown hgrow (HR.out.alloc _) (by simp; omega)))
        go_roundw
        case rel =>
          first
            | exact ⟨k + 1, by omega, by go_num, by (rw [HT.out]; first | rfl | simp), HR2, HB2⟩
            | ((repeat apply Exists.intro); refine ⟨?_, rfl⟩; exact ⟨k + 1, by omega, by go_num, by (rw [HT.out]; first | rfl | simp), HR2, HB2⟩)
        case measure => simp [intOf]; omega
      · rw [if_neg (Ne.symm hne)] at HT
        have hd : (gnx num den s == gn num den s) = false := beq_eq_false_iff_ne.2 hne
        clear hne
        go_wp2_with (first
          | (go_at_call 67; refine (H67.out _).mono ?_; rintro e w1 ⟨rfl, rfl⟩)
          | (go_at_call 77; refine (HCL.out _).mono ?_; rintro e w1 ⟨rfl, rfl⟩)
          | (at_builtin; refine wpList_append_lies _ rfl _ _ 22 rfl w.heap.size 3 i3 _ 1 8 Try.underlying22 HI.out hz0 hz1 hz2 rfl (by decide) (.slice ad k cap) k _ (by rfl) (HR.out.alloc _) ⟨wr.heap.size, 0, none⟩ 1 1 [.int .i64 (gn num den s)] (by rfl) (by rfl) (one_new _ _ _) (by simp [Value.oneCell']) (by omega) (by unfold maxLen; omega) (by omega) (by simp; omega) (wr.heap.size + 1) (by simp) ?_; intro g6 cap6 w6 hown hgrow hat6 hlt6))
        have HR2 : Hid (w6.ownsRow w.heap.size 3 1 (.slice (some ⟨g6, 0, none⟩) (k + 1) cap6) (k + 1) (intV (gainL (l.take (k + 1)) num den))) := Lib.hid (by rw [HTG.out, intV_append]; exact hown)
        have HB2 : Hid (Below w.heap.size w w6) := Lib.hid ((bAlloc HB.out _).trans (below_grown hgrow (HR.out.alloc _) (by simp; omega)))
        go_roundw
        case rel =>
          first
            | exact ⟨k + 1, by omega, by go_num, by (rw [HT.out]; first | rfl | simp), HR2, HB2⟩
            | ((repeat apply Exists.intro); refine ⟨?_, rfl⟩; exact ⟨k + 1, by omega, by go_num, by (rw [HT.out]; first | rfl | simp), HR2, HB2⟩)
        case measure => simp [intOf]; omega
    · obtain rfl : k = l.length := by omega
      rw [List.take_length] at HR ⊢
      go_wp2_with fail
      go_ret2
      refine ⟨⟨_, rfl, own_slice (by rw [gainL_len]; exact HR.out) (by rw [gainL_len]; omega)⟩, HB.out⟩
def gainOk (num den : Int) : Bool := betw num 0 1000000 && betw den 1 1000000
set_option maxRecDepth 10000 in
set_option maxHeartbeats 2000000 in
theorem Gain_any (l : List Int) (num den : Int) (v : Value) (w : World) (hv : SliceV w v 1 IntAt l) :
    Calls Try.prog 52 #[v, .int .i64 num, .int .i64 den] w fun e w' => (∃ r, e = .returned (.tuple #[r, .int .i64 (if chk (gainOk num den) [l] = 0 then (clips l num den : Nat) else 0), .int .i64 (chk (gainOk num den) [l])]) ∧ SliceV w' r 1 IntAt (if chk (gainOk num den) [l] = 0 then gainL l num den else [])) ∧ Below w.heap.size w w' := by
  have HN := Lib.hid (bAlloc (Below.refl w.heap.size w) (.cells #[v] 22))
  have HC := Lib.hid (check_any (gainOk num den) [l] _ _ (one_wave hv 22))
  have HV := Lib.hid hv
  obtain ⟨a, c, rfl, hl, -⟩ := hv
  unfold most at hl
  by_cases h : chk (gainOk num den) [l] = 0
  · rw [if_pos h, if_pos h, h]
    rw [h] at HC
    have hcl := chk_ok h
    have hgo := hcl.2.2
    rw [hgo] at HC
    simp only [gainOk, Bool.and_eq_true] at hgo
    have g1 := hgo.1
    have g2 := hgo.2
    have b1 := g1
    have b2 := g2
    simp only [betw, Bool.and_eq_true, decide_eq_true_eq] at b1 b2
    have HG := Lib.hid (fun W hb => gained_any l num den (.slice a l.length c) W (HV.out.keep IntAt.stable hb) (sm_of hcl.2.1) (by omega) b1.1 (by omega) b2.1 b2.2)
    clear h hcl hgo b1 b2
    go_enter Try.func52, Try.ntmps52
    go_wp2_with (first
      | (go_at_call 75; refine (between_any _ _ _ _).mono ?_; rintro e w1 ⟨rfl, rfl⟩)
      | (go_at_call 59; refine HC.out.mono ?_; rintro e w1 ⟨rfl, hb⟩; have HB := Lib.hid (bThen HN.out hb); clear hb)
      | (go_at_call 78; refine (HG.out _ HB.out).mono ?_; rintro e w2 ⟨⟨g, rfl, hg, hsl⟩, hb⟩; have HSL := Lib.hid hsl; have HB2 := Lib.hid (bThen HB.out hb); clear hsl hb))
    go_ret3
    exact ⟨⟨_, rfl, HSL.out⟩, HB2.out⟩
  · rw [if_neg h, if_neg h]
    have hb0 : (chk (gainOk num den) [l] == 0) = false := beq_eq_false_iff_ne.2 h
    obtain ⟨er, her⟩ : ∃ er, er = chk (gainOk num den) [l] := ⟨_, rfl⟩
    rw [← her] at HC hb0 ⊢
    clear her h
    cases g1 : betw num 0 1000000
    · rw [show gainOk num den = false by unfold gainOk; rw [g1]; rfl] at HC
      go_enter Try.func52, Try.ntmps52
      go_wp2_with (first
        | (go_at_call 75; refine (between_any _ _ _ _).mono ?_; rintro e w1 ⟨rfl, rfl⟩)
        | (go_at_call 59; refine HC.out.mono ?_; rintro e w1 ⟨rfl, hb⟩; have HB := Lib.hid (bThen HN.out hb); clear hb))
      go_ret3
      exact ⟨⟨_, rfl, ⟨none, 0, rfl, ⟨Nat.zero_le _, Nat.zero_le _⟩, .inl rfl⟩⟩, HB.out⟩
    · cases g2 : betw den 1 1000000
      · rw [show gainOk num den = false by unfold gainOk; rw [g1, g2]; rfl] at HC
        go_enter Try.func52, Try.ntmps52
        go_wp2_with (first
          | (go_at_call 75; refine (between_any _ _ _ _).mono ?_; rintro e w1 ⟨rfl, rfl⟩)
          | (go_at_call 59; refine HC.out.mono ?_; rintro e w1 ⟨rfl, hb⟩; have HB := Lib.hid (bThen HN.out hb); clear hb))
        go_ret3
        exact ⟨⟨_, rfl, ⟨none, 0, rfl, ⟨Nat.zero_le _, Nat.zero_le _⟩, .inl rfl⟩⟩, HB.out⟩
      · rw [show gainOk num den = true by unfold gainOk; rw [g1, g2]; rfl] at HC
        go_enter Try.func52, Try.ntmps52
        go_wp2_with (first
          | (go_at_call 75; refine (between_any _ _ _ _).mono ?_; rintro e w1 ⟨rfl, rfl⟩)
          | (go_at_call 59; refine HC.out.mono ?_; rintro e w1 ⟨rfl, hb⟩; have HB := Lib.hid (bThen HN.out hb); clear hb))
        go_ret3
        exact ⟨⟨_, rfl, ⟨none, 0, rfl, ⟨Nat.zero_le _, Nat.zero_le _⟩, .inl rfl⟩⟩, HB.out⟩
end Go.Proofs.Ytbeeddenidfenaa
