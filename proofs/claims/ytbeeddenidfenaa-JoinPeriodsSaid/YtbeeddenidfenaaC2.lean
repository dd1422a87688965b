/- Contracts: joining by the specification. -/
import Derived.Test.YtbeeddenidfenaaC1
set_option linter.unusedSimpArgs false
set_option linter.unusedVariables false
namespace Go.Proofs.Ytbeeddenidfenaa
open Go.RowKit

theorem own_join {W : World} {base s n k q : Nat} {v : Value} {x y : List Int} (hs : x.length = s + n) (hq : y.length = k + n + q) (hf : (fadeL (endA x n) (partB y n k)).length = n) (h : W.ownsRow base 3 1 v (s + n + q) (intV (x.take s ++ fadeL (endA x n) (partB y n k) ++ y.drop (k + n)))) (hb : s + n + q ≤ 1000000) : SliceV W v 1 IntAt (joinL x y n k) := by
  have e : joinL x y n k = x.take s ++ fadeL (endA x n) (partB y n k) ++ y.drop (k + n) := by unfold joinL; rw [show x.length - n = s by omega]
  refine own_slice (base := base) ?_ (by rw [joinL_len hs hq]; exact hb)
  rw [joinL_len hs hq, e]
  exact h
set_option maxRecDepth 10000 in
set_option maxHeartbeats 4000000 in
theorem refJoin_any (x y : List Int) (n k : Nat) (v u : Value) (w : World) (hv : SliceV w v 1 IntAt x) (hu : SliceV w u 1 IntAt y) (hx : Sm x) (hy : Sm y) (h1 : 1 ≤ n) (h2 : n ≤ x.length) (h3 : k + n ≤ y.length) (hn : x.length ≤ 100000) (hm : y.length ≤ 100000) :
    Calls Try.prog 32 #[v, u, .int .i64 n, .int .i64 k] w fun e w' => (∃ r, e = .returned r ∧ SliceV w' r 1 IntAt (joinL x y n k) ∧ ∀ g, r.ownBlock = some g → w.heap.size ≤ g) ∧ Below w.heap.size w w' := by
  have HV := Lib.hid hv
  have HU := Lib.hid hu
  have HX := Lib.hid hx
  have HY := Lib.hid hy
  obtain ⟨xb, xo, c, rfl, hlc, -⟩ : ∃ xb xo c, v = .slice (some ⟨xb, xo, none⟩) x.length c ∧ x.length ≤ c ∧ True := by
    obtain ⟨a, c, rfl, hl, h⟩ := hv
    rcases h with h | ⟨b, o, rfl, hf⟩
    · exfalso
      have h0 : x.length = 0 := by rw [h]; rfl
      omega
    · exact ⟨b, o, c, rfl, hl.2, trivial⟩
  obtain ⟨yb, yo, d, rfl, hdl, -⟩ : ∃ yb yo d, u = .slice (some ⟨yb, yo, none⟩) y.length d ∧ y.length ≤ d ∧ True := by
    obtain ⟨a, c, rfl, hl, h⟩ := hu
    rcases h with h | ⟨b, o, rfl, hf⟩
    · exfalso
      have h0 : y.length = 0 := by rw [h]; rfl
      omega
    · exact ⟨b, o, c, rfl, hl.2, trivial⟩
  clear hx hy
  obtain ⟨s, hs⟩ : ∃ s, x.length = s + n := ⟨x.length - n, by omega⟩
  obtain ⟨q, hq⟩ : ∃ q, y.length = k + n + q := ⟨y.length - k - n, by omega⟩
  have HSX := Lib.hid hs
  have HQY := Lib.hid hq
  rw [hs] at h2 hlc hn HV ⊢
  rw [hq] at h3 hdl hm HU ⊢
  clear hs hq
  have HXS : Hid (∀ W, Below w.heap.size w W → SliceV W (.slice (some ⟨xb, xo, none⟩) s c) 1 IntAt (x.take s)) := Lib.hid (fun W hB => by
    have h0 := (HV.out.keep IntAt.stable hB).part 0 s c (by rw [HSX.out]; omega) (by omega)
    rwa [List.drop_zero, Nat.add_zero] at h0)
  have HF : Hid (∀ W, Below w.heap.size w W → Calls Try.prog 36 #[.slice (some ⟨xb, xo + s, none⟩) n (c - s), .slice (some ⟨yb, yo + k, none⟩) n (d - k)] W fun e w' => (∃ (adr : Option Addr) (cr : Nat), e = .returned (.slice adr n cr) ∧ SliceV w' (.slice adr n cr) 1 IntAt (fadeL (endA x n) (partB y n k))) ∧ Below W.heap.size W w') := Lib.hid (fun W hB =>
    (refFade_any (endA x n) (partB y n k) _ _ W (by rw [endA_len (by rw [HSX.out]; omega), partB_len (by rw [HQY.out]; omega)]) (end_part (HV.out.keep IntAt.stable hB) h1) (mid_part (HU.out.keep IntAt.stable hB) (by omega)) (HX.out.endA n) (HY.out.partB n k) (by rw [endA_len (by rw [HSX.out]; omega)]; omega)).mono fun e w' ⟨⟨r, he, hs⟩, hb⟩ => by
      have hl : (fadeL (endA x n) (partB y n k)).length = n := by rw [fadeL_len, endA_len (by rw [HSX.out]; omega)]
      obtain ⟨ad, c', hr, hh⟩ := id hs
      rw [hl] at hr
      subst hr
      exact ⟨⟨ad, c', he, hs⟩, hb⟩)
  have HFL : Hid ((fadeL (endA x n) (partB y n k)).length = n) := Lib.hid (by rw [fadeL_len, endA_len (by rw [HSX.out]; omega)])
  have HYD : Hid ((y.drop (k + n)).length = q) := Lib.hid (by rw [List.length_drop, HQY.out]; omega)
  have HXT : Hid ((x.take s).length = s) := Lib.hid (by rw [List.length_take, HSX.out]; omega)
  have e1 : IntKind.i64.wrap ((s : Int) + n - n) = (s : Int) := by rw [show (s : Int) + n - n = (s : Int) by omega]; exact IntWalk.i64_in _ (by omega)
  have e2 : IntKind.i64.wrap (s : Int) = (s : Int) := IntWalk.i64_in _ (by omega)
  have e6 : IntKind.i64.wrap ((k : Int) + n) = (k : Int) + n := IntWalk.i64_in _ (by omega)
  have i0 : (0 : Int) ≤ (s : Int) := by omega
  have i1 : (s : Int) ≤ (c : Int) := by omega
  have i2 : (s : Int) ≤ (s : Int) + (n : Int) := by omega
  have i3 : (s : Int) + (n : Int) ≤ (c : Int) := by omega
  have i4 : ¬ c = s := by omega
  have i5 : ¬ d = k := by omega
  have i6 : (k : Int) ≤ (k : Int) + (n : Int) := by omega
  have i7 : (k : Int) + (n : Int) ≤ (d : Int) := by omega
  have i9 : ((k : Int) + (n : Int)).toNat = k + n := by omega
  have k1 : (k : Int) + (n : Int) ≤ (k : Int) + (n : Int) + (q : Int) := by omega
  have k2 : (0 : Int) ≤ (k : Int) + (n : Int) := by omega
  have k4 : (k : Int) + (n : Int) + (q : Int) ≤ (d : Int) := by omega
  go_enter Try.func32, Try.ntmps32
  go_wp2_with (at_builtin; refine wpList_append_ints rfl _ _ rfl w.heap.size (.slice none 0 0) 0 [] (by rfl) (World.ownsRow_nil _ _ _ _) (some ⟨xb, xo, none⟩) s c (x.take s) (by rfl) HXT.out (src_of (HXS.out _ (Below.refl _ _))) (by omega) (Nat.le_refl _) ?_; intro v1 w1 hown1 hb1)
  have HO1 : Hid (w1.ownsRow w.heap.size 3 1 v1 s (intV (x.take s))) := Lib.hid (by simpa using hown1)
  have HB1 := Lib.hid hb1
  have hsz1 := hb1.size
  obtain ⟨ad1, cap1, rfl⟩ := ownsRow_slice HO1.out
  clear hown1 hb1
  go_wp2_with fail
  go_region_held3 (fun _ => True) (trivial) (first
    | (go_at_call 36; with_reducible refine Calls.mono (HF.out _ (Below.drew HB1.out)) ?_; rintro e w2 ⟨⟨adr, cr, rfl, hsl⟩, hb2⟩; have HSL := Lib.hid hsl; have HB2 := Lib.hid (bThen (Below.drew (Below.refl _ _)) hb2); clear hsl hb2)
    | (refine step_append_ints (by rfl) _ _ (by rfl) w.heap.size (.slice ad1 s cap1) s (x.take s) (by go_simp) (ownsRow_below HO1.out HB2.out) adr n cr (fadeL (endA x n) (partB y n k)) (by go_simp) HFL.out (src_of HSL.out) (by omega) (Nat.le_trans hsz1 HB2.out.size) ?_; intro v3 w3 hown3 hb3)
    | fail)
  all_goals
    have HO3 : Hid (w3.ownsRow w.heap.size 3 1 v3 (s + n) (intV (x.take s ++ fadeL (endA x n) (partB y n k)))) := Lib.hid hown3
    have HB3 := Lib.hid ((bThen HB1.out HB2.out).trans hb3)
    have hsz3 := HB3.out.size
    obtain ⟨ad3, cap3, rfl⟩ := ownsRow_slice HO3.out
    have HSD := Lib.hid (src_of ((HU.out.keep IntAt.stable HB3.out).from (k + n) (by omega)))
    clear hown3 hb3
    by_cases hd0 : d = k + n
    · rw [if_pos hd0] at HSD
      obtain rfl : q = 0 := by omega
      subst hd0
      clear i5 i7 k4 hdl hm h3
      go_wp2_with (at_builtin; go_loud (refine wpList_append_ints rfl _ _ rfl w.heap.size (.slice ad3 (s + n) cap3) _ (x.take s ++ fadeL (endA x n) (partB y n k)) (by rfl) HO3.out (some ⟨yb, yo, none⟩) 0 _ (y.drop (k + n)) (by rfl) HYD.out HSD.out (by omega) hsz3 ?_); intro v4 w4 hown4 hb4)
      go_ret
      exact ⟨⟨_, rfl, own_join HSX.out HQY.out HFL.out hown4 (by omega), fun g h => (hown4.lt g h).1⟩, HB3.out.trans hb4⟩
    · rw [if_neg hd0] at HSD
      go_wp2_with (at_builtin; refine wpList_append_ints rfl _ _ rfl w.heap.size (.slice ad3 (s + n) cap3) _ (x.take s ++ fadeL (endA x n) (partB y n k)) (by rfl) HO3.out (some ⟨yb, yo + (k + n), none⟩) q (d - (k + n)) (y.drop (k + n)) (by rfl) HYD.out HSD.out (by omega) hsz3 ?_; intro v4 w4 hown4 hb4)
      go_ret
      exact ⟨⟨_, rfl, own_join HSX.out HQY.out HFL.out hown4 (by omega), fun g h => (hown4.lt g h).1⟩, HB3.out.trans hb4⟩
end Go.Proofs.Ytbeeddenidfenaa
