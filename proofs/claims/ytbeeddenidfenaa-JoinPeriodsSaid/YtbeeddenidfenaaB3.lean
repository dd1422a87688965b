/- Slices of ints of one's own; contracts: the crossfade of the specification. -/
import Derived.Test.YtbeeddenidfenaaB2
import Derived.Deep.RegionHeld3
set_option linter.unusedSimpArgs false
set_option linter.unusedVariables false
namespace Go.Proofs.Ytbeeddenidfenaa
open Go.RowKit

def intV (l : List Int) : List Value := l.map (Value.int .i64)
theorem intV_append (l m : List Int) : intV (l ++ m) = intV l ++ intV m := by simp [intV]
theorem intV_len (l : List Int) : (intV l).length = l.length := by simp [intV]
theorem heap_keep {w w' : World} (hB : Below w.heap.size w w') {r : Nat} {o : Obj} (h : w.heap[r]? = some o) : w'.heap[r]? = some o :=
  (hB.block r (Array.getElem?_eq_some_iff.1 h).1).trans h
theorem grown_of_below {A B : World} (h : Below A.heap.size A B) : A.grownBy B none :=
  ⟨h.os, h.tape, h.output, h.size, fun k hk _ => h.block k hk⟩
theorem ownsRow_slice {W : World} {base e size k : Nat} {v : Value} {xs : List Value} (h : W.ownsRow base e size v k xs) : ∃ ad cap, v = .slice ad k cap := by
  rcases h.2 with ⟨rfl, rfl⟩ | ⟨g, cap, cur, rfl, _⟩
  · exact ⟨_, _, rfl⟩
  · exact ⟨_, _, rfl⟩
theorem ownsRow_below {W W' : World} {base e size k : Nat} {v : Value} {xs : List Value} (h : W.ownsRow base e size v k xs) (hB : Below W.heap.size W W') : W'.ownsRow base e size v k xs := by
  refine h.kept (grown_of_below hB) ?_
  rcases h.2 with ⟨rfl, _⟩ | ⟨g, cap, cur, rfl, _⟩
  · exact .inl rfl
  · exact .inr (by simp [Value.ownBlock])
theorem below_grown {W W' : World} {n e size k : Nat} {v : Value} {xs : List Value} (hg : W.grownBy W' v.ownBlock) (hrow : W.ownsRow n e size v k xs) (hn : n ≤ W.heap.size) : Below n W W' :=
  (Below.refl n W).grown hg hn (fun j ej => by
    rcases hrow.2 with ⟨rfl, _⟩ | ⟨g, cap, cur, rfl, hb, _, _⟩
    · simp [Value.ownBlock] at ej
    · obtain rfl : g = j := by simpa [Value.ownBlock] using ej
      exact hb)
/-- A row of ints of one's own reads as a slice. -/
theorem own_slice {W : World} {base : Nat} {v : Value} {l : List Int} (h : W.ownsRow base 3 1 v l.length (intV l)) (hl : l.length ≤ 1000000) : SliceV W v 1 IntAt l := by
  rcases h.2 with ⟨rfl, h0⟩ | ⟨g, cap, cur, rfl, _, hb, hc, _, _, hx⟩
  · exact ⟨none, 0, by rw [h0], by rw [h0]; exact ⟨Nat.zero_le _, Nat.zero_le _⟩, .inl (List.eq_nil_of_length_eq_zero h0)⟩
  · refine ⟨_, cap, rfl, ⟨by unfold most; omega, hc⟩, .inr ⟨g, 0, rfl, fun i hi => ?_⟩⟩
    have h1 : (intV l)[i]? = some (.int .i64 l[i]) := by simp [intV, hi]
    rw [← hx, Nat.mul_one, List.getElem?_take, if_pos hi] at h1
    show W.cell? ⟨g, 0 + i * 1, none⟩ = _
    simp only [World.cell?, hb]
    simpa using h1
theorem own_nil (W : World) (base : Nat) : W.ownsRow base 3 1 (.slice none 0 0) ([] : List Int).length (intV []) := World.ownsRow_nil _ _ _ _
theorem one_new (w : World) (x : Value) (t : Nat) : ∀ (j : Nat) (u : Value), [x][j]? = some u → (w.alloc (.cells #[x] t)).cell? ((⟨w.heap.size, 0, none⟩ : Addr).add j) = some u :=
  World.news_of_block (World.alloc_heap_new w (.cells #[x] t))

theorem fadeL_take {x y : List Int} {k : Nat} (h : k < x.length) : (List.range (k + 1)).map (fd x y x.length) = (List.range k).map (fd x y x.length) ++ [fd x y x.length k] := by rw [List.range_succ, List.map_append]; rfl
set_option maxRecDepth 10000 in
set_option maxHeartbeats 4000000 in
theorem refFade_any (x y : List Int) (v u : Value) (w : World) (hlen : x.length = y.length) (hv : SliceV w v 1 IntAt x) (hu : SliceV w u 1 IntAt y) (hx : Sm x) (hy : Sm y) (hn : x.length ≤ 110000) :
    Calls Try.prog 36 #[v, u] w fun e w' => (∃ r, e = .returned r ∧ SliceV w' r 1 IntAt (fadeL x y)) ∧ Below w.heap.size w w' := by
  have HV := Lib.hid hv
  have HU := Lib.hid hu
  have HX := Lib.hid hx
  have HY := Lib.hid hy
  have HLEN := Lib.hid hlen
  obtain ⟨a, c1, rfl, -⟩ := hv
  obtain ⟨b, c2, rfl, -⟩ := hu
  clear hx hy hlen
  obtain ⟨i3, hi, hz0, hz1, hz2⟩ := info_parts infoI
  have HI := Lib.hid hi
  clear hi
  have q6 : IntKind.i64.wrap ((x.length : Int) + 1) = (x.length : Int) + 1 := IntWalk.i64_in _ (by omega)
  go_enter Try.func36, Try.ntmps36
  go_wp2_with fail
  go_loopw [6, 7] (fun o i wr => ∃ k : Nat, k ≤ x.length ∧ i = .int .i64 k ∧ Hid (wr.ownsRow w.heap.size 3 1 o k (intV ((List.range k).map (fd x y x.length)))) ∧ Hid (Below w.heap.size w wr)) (fun _ i _ => x.length - (intOf i).toNat)
  case atStart => exact ⟨0, Nat.zero_le _, rfl, Lib.hid (World.ownsRow_nil _ _ _ _), Lib.hid (Below.refl _ _)⟩
  case round =>
    obtain ⟨k, hk, rfl, HR, HB⟩ := hrel
    by_cases hlt : k < x.length
    · have hly : k < y.length := by have := HLEN.out; omega
      obtain ⟨xb, xo, rfl, hxf⟩ := HV.out.at (by intro h; simp [h] at hlt)
      obtain ⟨yb, yo, rfl, hyf⟩ := HU.out.at (by intro h; simp [h] at hly)
      have p0 := hxf k hlt
      have q0 := hyf k hly
      unfold IntAt at p0 q0
      rw [Nat.mul_one] at p0 q0
      have hp := HX.out _ (List.getElem_mem hlt)
      have hq := HY.out _ (List.getElem_mem hly)
      have HFD : Hid (fd x y x.length k = rnd (((x.length : Int) - k) * x[k] + ((k : Int) + 1) * y[k]) (x.length + 1)) := Lib.hid (by unfold fd; rw [gI hlt, gI hly])
      clear hxf hyf
      obtain ⟨p, hpe⟩ : ∃ p, p = x[k] := ⟨_, rfl⟩
      obtain ⟨q, hqe⟩ : ∃ q, q = y[k] := ⟨_, rfl⟩
      rw [← hpe] at p0 hp HFD
      rw [← hqe] at q0 hq HFD
      clear hpe hqe
      have hpb := cell_lt p0
      have hqb := cell_lt q0
      have m1 := mul_in (A := 110000) (B := 32768) (show -110000 ≤ (x.length : Int) - k by omega) (by omega) (show -32768 ≤ p by omega) (by omega)
      have m2 := mul_in (A := 110001) (B := 32768) (show -110001 ≤ (k : Int) + 1 by omega) (by omega) (show -32768 ≤ q by omega) (by omega)
      have q1 : IntKind.i64.wrap ((x.length : Int) - k) = (x.length : Int) - k := IntWalk.i64_in _ (by omega)
      have q2 : IntKind.i64.wrap ((k : Int) + 1) = (k : Int) + 1 := IntWalk.i64_in _ (by omega)
      obtain ⟨s, hse⟩ : ∃ s, s = ((x.length : Int) - k) * p := ⟨_, rfl⟩
      obtain ⟨t, hte⟩ : ∃ t, t = ((k : Int) + 1) * q := ⟨_, rfl⟩
      rw [← hse] at m1 HFD
      rw [← hte] at m2 HFD
      have q3 : IntKind.i64.wrap (((x.length : Int) - k) * p) = s := by rw [← hse]; exact IntWalk.i64_in _ (by omega)
      have q4 : IntKind.i64.wrap (((k : Int) + 1) * q) = t := by rw [← hte]; exact IntWalk.i64_in _ (by omega)
      have q5 : IntKind.i64.wrap (s + t) = s + t := IntWalk.i64_in _ (by omega)
      clear hse hte
      have h67 := fun W => Round_any (s + t) ((x.length : Int) + 1) W (by omega) (by omega) (by omega) (by omega)
      rw [← HFD.out] at h67
      have H67 := Lib.hid h67
      have HT := Lib.hid (fadeL_take (y := y) hlt)
      clear h67
      obtain ⟨r, hre⟩ : ∃ r, r = fd x y x.length k := ⟨_, rfl⟩
      rw [← hre] at H67 HT
      clear hre HFD
      have hrow := HR.out
      obtain ⟨ad, cap, rfl⟩ := ownsRow_slice hrow
      clear hrow
      have HK : Hid (∀ W', Below w.heap.size w W' → (W'.cell? ⟨xb, xo + k, none⟩ = some (.int .i64 p) ∧ W'.cell? ⟨yb, yo + k, none⟩ = some (.int .i64 q))) := Lib.hid fun W' hB => ⟨keep hB p0, keep hB q0⟩
      replace p0 := keep HB.out p0
      replace q0 := keep HB.out q0
      have hpb := cell_lt p0
      have hqb := cell_lt q0
      have hsz := HB.out.size
      go_wp2_with fail
      go_region_held3 (fun W' => (W'.cell? ⟨xb, xo + k, none⟩ = some (.int .i64 p) ∧ W'.cell? ⟨yb, yo + k, none⟩ = some (.int .i64 q))) (((try dsimp only); exact HK.out _ (by (repeat (first | exact HB.out | exact hb6 | refine Below.drew ?_ | refine bAlloc ?_ _))))) (first
        | (go_at_call 67; refine (H67.out _).mono ?_; rintro e w2 ⟨rfl, rfl⟩)
        | (refine step_append_lies _ (by rfl) _ _ _ (by rfl) w.heap.size 3 i3 _ 1 8 Try.underlying22 HI.out hz0 hz1 hz2 rfl (by decide) (.slice ad k cap) k _ (by rfl) ((HR.out.alloc _).drew) ⟨wr.heap.size, 0, none⟩ 1 1 [.int .i64 r] (by rfl) (by rfl) (World.news_of_block (World.alloc_heap_new wr (.cells #[.int .i64 r] 3))) (by simp [Value.oneCell']) (by omega) (by unfold maxLen; omega) (by omega) (by simp; omega) (wr.heap.size + 1) (by simp) ?_; intro g6 cap6 w6 hown hgrow hat6 hlt6; have hb6 : Below w.heap.size w w6 := ((bAlloc HB.out _).drew).trans (below_grown hgrow ((HR.out.alloc _).drew) (by simp; omega))))
      have HR2 : Hid (w6.ownsRow w.heap.size 3 1 (.slice (some ⟨g6, 0, none⟩) (k + 1) cap6) (k + 1) (intV ((List.range (k + 1)).map (fd x y x.length)))) := Lib.hid (by rw [HT.out, intV_append]; exact hown)
      have HB2 : Hid (Below w.heap.size w w6) := Lib.hid hb6
      go_wp2_with fail
      go_roundw
      case rel =>
        first
          | exact ⟨k + 1, by omega, by go_num, HR2, HB2⟩
          | ((repeat apply Exists.intro); refine ⟨?_, rfl⟩; exact ⟨k + 1, by omega, by go_num, HR2, HB2⟩)
      case measure => simp [intOf]; omega
    · obtain rfl : k = x.length := by omega
      go_wp2_with fail
      go_ret
      refine ⟨⟨_, rfl, ?_⟩, HB.out⟩
      have h1 := HR.out
      have h2 : fadeL x y = (List.range x.length).map (fd x y x.length) := rfl
      rw [← h2] at h1
      exact own_slice (by rw [fadeL_len]; exact h1) (by rw [fadeL_len]; omega)
end Go.Proofs.Ytbeeddenidfenaa
