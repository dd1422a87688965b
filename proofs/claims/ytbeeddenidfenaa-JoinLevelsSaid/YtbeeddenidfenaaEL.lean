/- Contracts: the greatest gain of a loudness, leveled, Level; maths: more gain never makes a wave less loud. -/
import Derived.Test.YtbeeddenidfenaaE3
import Derived.Test.YtbeeddenidfenaaA11
set_option linter.unusedSimpArgs false
set_option linter.unusedVariables false
namespace Go.Proofs.Ytbeeddenidfenaa
open Go.RowKit

theorem sm_gain (l : List Int) (num den : Int) : Sm (gainL l num den) := fun s hs => by
  obtain ⟨x, _, rfl⟩ := List.mem_map.1 hs
  exact clp_in _
set_option maxHeartbeats 1000000 in
theorem leveled1_any (l : List Int) (num mo : Int) (b1 b2 : Nat) (v : Value) (w : World) (hv : SliceV w v 1 IntAt l) (hs : Sm l) (hp : 0 < l.length) (hn : l.length ≤ 1000000) (h0 : 0 ≤ num) (h1 : num ≤ 1000001)
    (c1 : w.cell? ⟨b1, 0, none⟩ = some v) (c2 : w.cell? ⟨b2, 0, none⟩ = some (.int .i64 mo)) :
    Calls Try.prog 100 #[.int .i64 num, .pointer (some ⟨b1, 0, none⟩), .pointer (some ⟨b2, 0, none⟩)] w fun e w' => e = .returned (.bool (decide (loud (gainL l num 1000) ≤ mo))) ∧ Below w.heap.size w w' := by
  have HG := Lib.hid (gained_any l num 1000 v w hv hs hn h0 h1 (by decide) (by decide))
  have hb1 := cell_lt c1
  have hb2 := cell_lt c2
  obtain ⟨a, c, rfl, -⟩ := hv
  have hgl := gainL_len l num 1000
  have HLD : Hid (∀ (v : Value) (W : World), SliceV W v 1 IntAt (gainL l num 1000) → Calls Try.prog 61 #[v] W fun e w' => e = .returned (.int .i64 (loud (gainL l num 1000))) ∧ Below W.heap.size W w') := Lib.hid (fun v W h => loudness_any _ v W h (sm_gain _ _ _) (by omega) (by omega))
  obtain ⟨ld, hld⟩ : ∃ ld, ld = loud (gainL l num 1000) := ⟨_, rfl⟩
  rw [← hld] at HLD ⊢
  clear hld hgl
  go_enter Try.func100, Try.ntmps100
  go_wp2_with (go_at_call 78; with_reducible refine Calls.mono HG.out ?_; rintro e w1 ⟨⟨g, rfl, hg, hsl⟩, hb⟩; have HB := Lib.hid hb; have HSL := Lib.hid hsl; have d2 := keep hb c2; have hd2 := cell_lt d2; clear hb hg hsl)
  have HL2 := Lib.hid (fun x : BW w1 => HLD.out _ x.val (HSL.out.keep IntAt.stable x.2))
  refine wp_opaque fun Q2 hQ2 => ?_
  (refine wp_region_below (by kernel_rfl) (by kernel_rfl) ?_; (repeat (first | go_big_quiet_step ((go_at_call 61; exact toB HL2.out _)) | quiet_step ((go_at_call 61; exact toB HL2.out _)))); (refine wpQuiet_nil ?_; intro _ hw'; obtain ⟨xq, hw''⟩ := hw'; subst hw''))
  refine hQ2 _ _ _ ?_
  go_wp2_with fail
  go_ret
  exact ⟨rfl, bThen HB.out xq.2⟩

/-- The gain with which a wave is brought to a loudness. -/
def LevTop (l : List Int) (mo : Int) (r : Nat) : Prop := ∃ t, LTop l 1000 t ∧ r ≤ t ∧ (r = 0 ∨ loud (gainL l r 1000) ≤ mo) ∧ (r = t ∨ ¬ loud (gainL l ((r + 1 : Nat) : Int) 1000) ≤ mo)
theorem ltop_le {l : List Int} {den : Int} {r : Nat} (h : LTop l den r) : r ≤ 1000000 := h.1
set_option maxRecDepth 10000 in
set_option maxHeartbeats 2000000 in
theorem leveled_any (l : List Int) (mo : Int) (v : Value) (w : World) (hv : SliceV w v 1 IntAt l) (hs : Sm l) (hp : 0 < l.length) (hn : l.length ≤ 1000000) :
    Calls Try.prog 80 #[v, .int .i64 mo] w fun e w' => (∃ (r g : Nat), e = .returned (.slice (some ⟨g, 0, none⟩) l.length l.length) ∧ LevTop l mo r ∧ SliceV w' (.slice (some ⟨g, 0, none⟩) l.length l.length) 1 IntAt (gainL l r 1000)) ∧ Below w.heap.size w w' := by
  obtain ⟨W2, hW2⟩ : ∃ W2, W2 = (w.alloc (.cells #[v] 22)).alloc (.cells #[.int .i64 mo] 3) := ⟨_, rfl⟩
  have HB2 : Hid (Below w.heap.size w W2) := Lib.hid (by rw [hW2]; exact bAlloc (bAlloc (Below.refl _ _) _) _)
  have d1 : W2.cell? ⟨w.heap.size, 0, none⟩ = some v := by
    have h : (w.alloc (.cells #[v] 22)).cell? ⟨w.heap.size, 0, none⟩ = some v := cell_new rfl
    rw [hW2]
    exact keep (bAlloc (Below.refl _ _) _) h
  have d2 : W2.cell? ⟨w.heap.size + 1, 0, none⟩ = some (.int .i64 mo) := by
    have h := World.alloc_heap_new (w.alloc (.cells #[v] 22)) (.cells #[.int .i64 mo] 3)
    rw [← hW2, show (w.alloc (.cells #[v] 22)).heap.size = w.heap.size + 1 by simp] at h
    simp [World.cell?, h]
  have HV : Hid (∀ W, Below w.heap.size w W → SliceV W v 1 IntAt l) := Lib.hid (fun W hB => hv.keep IntAt.stable hB)
  have H79 := Lib.hid (greatest_any l 1000 v W2 (HV.out _ HB2.out) hs hn (by decide) (by decide))
  have HR : Hid (∀ (t : Nat) W, t ≤ 1000000 → Below W2.heap.size W2 W → Calls Try.prog 98 #[.int .i64 t, .func (.func 100) #[] #[.pointer (some ⟨w.heap.size, 0, none⟩), .pointer (some ⟨w.heap.size + 1, 0, none⟩)]] W fun e w' => (∃ r : Nat, r ≤ t ∧ e = .returned (.int .i64 (r : Int)) ∧ (r = 0 ∨ decide (loud (gainL l r 1000) ≤ mo) = true) ∧ (r = t ∨ decide (loud (gainL l ((r + 1 : Nat) : Int) 1000) ≤ mo) = false)) ∧ Below W.heap.size W w') := Lib.hid (fun t W ht hB =>
    rightL_any (fun r => decide (loud (gainL l ((r : Nat) : Int) 1000) ≤ mo)) t w.heap.size (w.heap.size + 1) W ht (fun r W' hr hB' => leveled1_any l ((r + 1 : Nat) : Int) mo _ _ v W' (HV.out _ (bThen HB2.out (bThen hB hB'))) hs hp hn (by omega) (by omega) (keep (bThen hB hB') d1) (keep (bThen hB hB') d2)))
  have HG : Hid (∀ (r : Nat) W, r ≤ 1000000 → Below w.heap.size w W → Calls Try.prog 78 #[v, .int .i64 r, .int .i64 1000] W fun e w' => (∃ g, e = .returned (.tuple #[.slice (some ⟨g, 0, none⟩) l.length l.length, .int .i64 (clips l r 1000 : Nat)]) ∧ W.heap.size ≤ g ∧ SliceV w' (.slice (some ⟨g, 0, none⟩) l.length l.length) 1 IntAt (gainL l r 1000)) ∧ Below W.heap.size W w') := Lib.hid (fun r W hr hB => gained_any l r 1000 v W (HV.out _ hB) hs hn (by omega) (by omega) (by decide) (by decide))
  have hsz : w.heap.size + 1 < W2.heap.size := by rw [hW2]; simp
  have hsz0 : w.heap.size < W2.heap.size := by omega
  obtain ⟨a, c, rfl, -⟩ := hv
  have D1 := Lib.hid d1
  clear d1 d2 hs hp
  rw [hW2] at H79
  go_enter Try.func80, Try.ntmps80
  go_wp2_with (first
    | (go_at_call 79; with_reducible refine Calls.mono H79.out ?_; rw [← hW2]; rintro e w3 ⟨⟨t, rfl, ht⟩, hb⟩; have HT := Lib.hid ht; have ht1 := ltop_le ht; have HB3 := Lib.hid hb; have y1 := keep hb D1.out; have hy1 := cell_lt y1; clear hb ht)
    | (go_at_call 98; with_reducible refine Calls.mono (HR.out t _ ht1 HB3.out) ?_; rintro e w4 ⟨⟨r, hr, rfl, hlo, hhi⟩, hb⟩; have HB4 := Lib.hid (bThen HB3.out hb); have z1 := keep hb y1; have hz1 := cell_lt z1; have HLO := Lib.hid hlo; have HHI := Lib.hid hhi; clear hb hlo hhi)
    | (go_at_call 78; with_reducible refine Calls.mono (HG.out r _ (by omega) (bThen HB2.out HB4.out)) ?_; rintro e w5 ⟨⟨g, rfl, hg, hsl⟩, hb⟩; have HSL := Lib.hid hsl; have HB5 := Lib.hid (bThen HB4.out hb); clear hb hg hsl))
  go_ret
  refine ⟨⟨r, g, rfl, ⟨t, HT.out, hr, ?_, ?_⟩, HSL.out⟩, bThen HB2.out HB5.out⟩
  · rcases HLO.out with h | h
    · exact .inl h
    · exact .inr (of_decide_eq_true h)
  · rcases HHI.out with h | h
    · exact .inl h
    · exact .inr (of_decide_eq_false h)

def levOk (l : List Int) (mo : Int) : Bool := betw mo 0 32768 && decide (0 < l.length)
set_option maxRecDepth 10000 in
set_option maxHeartbeats 4000000 in
theorem Level_any (l : List Int) (mo : Int) (v : Value) (w : World) (hv : SliceV w v 1 IntAt l) :
    Calls Try.prog 55 #[v, .int .i64 mo] w fun e w' => (∃ u, e = .returned (.tuple #[u, .int .i64 (chk (levOk l mo) [l])]) ∧ (chk (levOk l mo) [l] ≠ 0 → SliceV w' u 1 IntAt []) ∧ (chk (levOk l mo) [l] = 0 → ∃ r, LevTop l mo r ∧ SliceV w' u 1 IntAt (gainL l (r : Nat) 1000))) ∧ Below w.heap.size w w' := by
  have HN := Lib.hid (bAlloc (Below.refl w.heap.size w) (.cells #[v] 22))
  have HC := Lib.hid (check_any (levOk l mo) [l] _ _ (one_wave hv 22))
  have HV := Lib.hid hv
  obtain ⟨a, c, rfl, hl, -⟩ := hv
  unfold most at hl
  by_cases h : chk (levOk l mo) [l] = 0
  · rw [h]
    rw [h] at HC
    have hcl := chk_ok h
    have hgo := hcl.2.2
    rw [hgo] at HC
    simp only [levOk, Bool.and_eq_true, decide_eq_true_eq] at hgo
    have g2 := hgo.1
    have g3 := hgo.2
    have g4 : (0 : Int) < (l.length : Int) := by omega
    have HG := Lib.hid (fun W hb => leveled_any l mo (.slice a l.length c) W (HV.out.keep IntAt.stable hb) (sm_of hcl.2.1) g3 (by omega))
    clear h hcl hgo
    go_enter Try.func55, Try.ntmps55
    go_wp2_with (first
      | (go_at_call 75; refine (between_any _ _ _ _).mono ?_; rintro e w1 ⟨rfl, rfl⟩; rw [g2])
      | (go_at_call 59; refine HC.out.mono ?_; rintro e w1 ⟨rfl, hb⟩; have HB := Lib.hid (bThen HN.out hb); clear hb)
      | (go_at_call 80; refine (HG.out _ HB.out).mono ?_; rintro e w2 ⟨⟨r, g, rfl, hr, hsl⟩, hb⟩; have HR := Lib.hid hr; have HSL := Lib.hid hsl; have HB2 := Lib.hid (bThen HB.out hb); clear hr hsl hb))
    go_ret2
    exact ⟨⟨_, rfl, fun h => absurd rfl h, fun _ => ⟨r, HR.out, HSL.out⟩⟩, HB2.out⟩
  · have hb0 : (chk (levOk l mo) [l] == 0) = false := beq_eq_false_iff_ne.2 h
    have hlo : levOk l mo = (betw mo 0 32768 && decide (0 < l.length)) := rfl
    obtain ⟨er, her⟩ : ∃ er, er = chk (levOk l mo) [l] := ⟨_, rfl⟩
    have HE0 : Hid (er ≠ 0) := Lib.hid (by rw [her]; exact h)
    rw [← her] at HC hb0 ⊢
    clear her h
    cases g2 : betw mo 0 32768
    · rw [hlo, g2, Bool.false_and] at HC
      clear hlo
      go_enter Try.func55, Try.ntmps55
      go_wp2_with (first
        | (go_at_call 75; refine (between_any _ _ _ _).mono ?_; rintro e w1 ⟨rfl, rfl⟩; rw [g2])
        | (go_at_call 59; refine HC.out.mono ?_; rintro e w1 ⟨rfl, hb⟩; have HB := Lib.hid (bThen HN.out hb); clear hb))
      go_ret2
      exact ⟨⟨_, rfl, fun _ => ⟨none, 0, rfl, ⟨Nat.zero_le _, Nat.zero_le _⟩, .inl rfl⟩, fun h => absurd h HE0.out⟩, HB.out⟩
    · by_cases g3 : 0 < l.length
      · have g4 : (0 : Int) < (l.length : Int) := by omega
        rw [hlo, g2, decide_eq_true g3] at HC
        clear hlo
        go_enter Try.func55, Try.ntmps55
        go_wp2_with (first
          | (go_at_call 75; refine (between_any _ _ _ _).mono ?_; rintro e w1 ⟨rfl, rfl⟩; rw [g2])
          | (go_at_call 59; refine HC.out.mono ?_; rintro e w1 ⟨rfl, hb⟩; have HB := Lib.hid (bThen HN.out hb); clear hb))
        go_ret2
        exact ⟨⟨_, rfl, fun _ => ⟨none, 0, rfl, ⟨Nat.zero_le _, Nat.zero_le _⟩, .inl rfl⟩, fun h => absurd h HE0.out⟩, HB.out⟩
      · have g4 : ¬ (0 : Int) < (l.length : Int) := by omega
        rw [hlo, g2, decide_eq_false g3] at HC
        clear hlo
        go_enter Try.func55, Try.ntmps55
        go_wp2_with (first
          | (go_at_call 75; refine (between_any _ _ _ _).mono ?_; rintro e w1 ⟨rfl, rfl⟩; rw [g2])
          | (go_at_call 59; refine HC.out.mono ?_; rintro e w1 ⟨rfl, hb⟩; have HB := Lib.hid (bThen HN.out hb); clear hb))
        go_ret2
        exact ⟨⟨_, rfl, fun _ => ⟨none, 0, rfl, ⟨Nat.zero_le _, Nat.zero_le _⟩, .inl rfl⟩, fun h => absurd h HE0.out⟩, HB.out⟩

theorem rtN_le (n : Int) : ∀ k, rtN n k ≤ k
  | 0 => Nat.le_refl _
  | k + 1 => by
    rw [rtN]
    split
    · exact Nat.le_refl _
    · have := rtN_le n k
      omega
theorem rtN_mono {n m : Int} (h : n ≤ m) : ∀ k, rtN n k ≤ rtN m k
  | 0 => Nat.le_refl _
  | k + 1 => by
    have h1 := rtN_le n k
    have h2 := rtN_mono h k
    rw [rtN, rtN]
    by_cases ha : ((k + 1 : Nat) : Int) * ((k + 1 : Nat) : Int) ≤ n
    · rw [if_pos ha, if_pos (by omega)]; exact Nat.le_refl _
    · rw [if_neg ha]
      by_cases hb : ((k + 1 : Nat) : Int) * ((k + 1 : Nat) : Int) ≤ m
      · rw [if_pos hb]; omega
      · rw [if_neg hb]; exact h2
theorem rt_mono {n m : Int} (h : n ≤ m) : rt n ≤ rt m := by
  unfold rt
  have := rtN_mono h 32768
  omega
theorem clp_mono {a b : Int} (h : a ≤ b) : clp a ≤ clp b := by
  unfold clp
  split <;> split <;> (try split) <;> (try split) <;> omega
theorem clp_zero : clp 0 = 0 := rfl
theorem sq_le {a b : Int} (h : (0 ≤ a ∧ a ≤ b) ∨ (b ≤ a ∧ a ≤ 0)) : a * a ≤ b * b := by
  rcases h with h | h
  · exact Int.mul_le_mul h.2 h.2 h.1 (by omega)
  · have := Int.mul_le_mul (show -a ≤ -b by omega) (show -a ≤ -b by omega) (by omega) (by omega)
    rwa [Int.neg_mul_neg, Int.neg_mul_neg] at this
theorem gn_sq {p q den s : Int} (h0 : 0 ≤ p) (h : p ≤ q) (hd : 0 < den) : gn p den s * gn p den s ≤ gn q den s * gn q den s := by
  have z : rnd 0 den = 0 := by
    have := rnd_le2 (a := 0) (b := den) (H := 0) (by omega) hd (by omega)
    omega
  refine sq_le ?_
  unfold gn gnx
  by_cases hs0 : 0 ≤ s
  · have a1 := clp_mono (rnd_mono hd (Int.mul_le_mul_of_nonneg_left h hs0))
    have a2 := clp_mono (rnd_mono hd (Int.mul_nonneg hs0 h0))
    rw [z, clp_zero] at a2
    exact .inl ⟨a2, a1⟩
  · have a1 := clp_mono (rnd_mono hd (Int.mul_le_mul_of_nonpos_left (a := s) (by omega) h))
    have a2 := clp_mono (rnd_mono hd (show s * p ≤ 0 from Int.mul_nonpos_of_nonpos_of_nonneg (by omega) h0))
    rw [z, clp_zero] at a2
    exact .inr ⟨a1, a2⟩
theorem sqs_gain {l : List Int} {p q den : Int} (h0 : 0 ≤ p) (h : p ≤ q) (hd : 0 < den) : sqs (gainL l p den) ≤ sqs (gainL l q den) := by
  induction l with
  | nil => exact Int.le_refl _
  | cons x l ih =>
    have h1 : sqs (gainL (x :: l) p den) = gn p den x * gn p den x + sqs (gainL l p den) := by simp [sqs, gainL]
    have h2 : sqs (gainL (x :: l) q den) = gn q den x * gn q den x + sqs (gainL l q den) := by simp [sqs, gainL]
    have h3 := gn_sq (s := x) h0 h hd
    rw [h1, h2]
    omega
theorem loud_gain {l : List Int} {p q den : Int} (hl : 0 < l.length) (h0 : 0 ≤ p) (h : p ≤ q) (hd : 0 < den) : loud (gainL l p den) ≤ loud (gainL l q den) := by
  unfold loud
  rw [gainL_len, gainL_len]
  exact rt_mono (Int.ediv_le_ediv (by omega) (sqs_gain h0 h hd))
/-- A gain in thousandths that clips nothing and does not make a wave too loud. -/
def LevP (l : List Int) (mo : Int) (n : Nat) : Prop := clips l n 1000 = 0 ∧ loud (gainL l n 1000) ≤ mo
theorem LevP.less {l : List Int} {mo : Int} {p q : Nat} (hl : 0 < l.length) (h : p ≤ q) (hq : LevP l mo q) : LevP l mo p :=
  ⟨clips_less (by omega) (by omega) (by decide) hq.1, Int.le_trans (loud_gain hl (by omega) (by omega) (by decide)) hq.2⟩
theorem LevP.zero {l : List Int} {mo : Int} (hl : 0 < l.length) (h : 0 ≤ mo) : LevP l mo 0 := by
  refine ⟨clips_none (by decide), ?_⟩
  have z : rnd 0 1000 = 0 := rfl
  have e : sqs (gainL l (0 : Nat) 1000) = 0 := by
    clear hl
    induction l with
    | nil => rfl
    | cons x l ih =>
      have h1 : sqs (gainL (x :: l) (0 : Nat) 1000) = gn (0 : Nat) 1000 x * gn (0 : Nat) 1000 x + sqs (gainL l (0 : Nat) 1000) := by simp [sqs, gainL]
      have h2 : gn ((0 : Nat) : Int) 1000 x = 0 := by
        unfold gn gnx
        rw [show x * ((0 : Nat) : Int) = 0 from Int.mul_zero x, z]
        rfl
      rw [h1, h2, ih]
      rfl
  unfold loud
  rw [e, Int.zero_ediv, rt_eq (r := 0) (by omega) (by decide) (by decide)]
  exact h
/-- The gain of Level is the greatest one. -/
theorem LevTop.top {l : List Int} {mo : Int} {r : Nat} (hl : 0 < l.length) (hm : 0 ≤ mo) (h : LevTop l mo r) : r ≤ 1000000 ∧ LevP l mo r ∧ (r = 1000000 ∨ ¬ LevP l mo (r + 1)) := by
  obtain ⟨t, ht, hr, hlo, hhi⟩ := h
  have h1 := ht.1
  refine ⟨by omega, ?_, ?_⟩
  · by_cases hz : r = 0
    · rw [hz]; exact LevP.zero hl hm
    · exact ⟨clips_less (by omega) (by omega) (by decide) ht.2.1, hlo.resolve_left hz⟩
  · rcases hhi with e | e
    · rw [e]
      rcases ht.2.2 with f | f
      · exact .inl f
      · exact .inr fun g => f _ (by omega) g.1
    · exact .inr fun g => e g.2
theorem lev_one {l : List Int} {mo : Int} {p q : Nat} (hl : 0 < l.length) (hp : p ≤ 1000000 ∧ LevP l mo p ∧ (p = 1000000 ∨ ¬ LevP l mo (p + 1))) (hq : q ≤ 1000000 ∧ LevP l mo q ∧ (q = 1000000 ∨ ¬ LevP l mo (q + 1))) : p = q := by
  by_cases h : p < q
  · rcases hp.2.2 with e | e
    · omega
    · exact absurd (hq.2.1.less hl (by omega)) e
  · by_cases h' : q < p
    · rcases hq.2.2 with e | e
      · omega
      · exact absurd (hp.2.1.less hl (by omega)) e
    · omega
end Go.Proofs.Ytbeeddenidfenaa
