/- Contracts: gestures from the last one on, as an iterator. -/
import Derived.Test.YtbmbcbknoflpgaaJ0
import Derived.Test.YtbmbcbknoflpgaaK2
set_option linter.unusedSimpArgs false
set_option linter.unusedVariables false
namespace Go.Proofs.Ytbmbcbknoflpgaa
open Go.RowKit Go.Shelf
attribute [local go_sem] Oper.semAt_some

abbrev UpTo (N : Nat) := { n : Nat // n < N }
def upL (N : Nat) : List (UpTo N) := (List.range N).pmap (fun n h => ⟨n, h⟩) (fun _ h => List.mem_range.1 h)
theorem upL_length (N : Nat) : (upL N).length = N := by simp [upL]
theorem upL_get (N k : Nat) (h : k < (upL N).length) : (upL N)[k] = ⟨k, by rw [upL_length] at h; exact h⟩ := by
  simp only [upL, List.getElem_pmap, List.getElem_range]
theorem upL_val (N : Nat) : (upL N).map Subtype.val = List.range N := by
  unfold upL
  rw [List.map_pmap]
  simp
def dnL (N : Nat) : List (UpTo N) := (upL N).reverse
theorem dnL_length (N : Nat) : (dnL N).length = N := by simp [dnL, upL_length]
theorem dnL_get (N k : Nat) (h : k < (dnL N).length) : (dnL N)[k] = ⟨N - 1 - k, by rw [dnL_length] at h; omega⟩ := by
  simp only [dnL, List.getElem_reverse, upL_length]
  exact upL_get N _ _
theorem dnL_take (N k : Nat) (h : k < N) : (dnL N).take (k + 1) = (dnL N).take k ++ [⟨N - 1 - k, by omega⟩] := by
  have h1 : k < (dnL N).length := by rw [dnL_length]; exact h
  rw [take_succ _ k h1, dnL_get]
def Ges.agg (g : Ges) : Value := .agg #[.int .i64 g.fst, .int .i64 g.lst, .int .i64 g.beg, .int .i64 g.fin, .int .i64 g.area, .int .i64 g.speed]
abbrev encG (l : List Ges) (x : UpTo l.length) : Array Value := #[.int .i64 (x.1 : Int), (l[x.1]'x.2).agg]
/-- What a round keeps: the box of the list, and what lies below. -/
structure KpG (n sb : Nat) (A B : World) : Prop where
  list : ∀ x, Boxed A sb 70 x → Boxed B sb 70 x
  low : Below n A B
theorem KpG.trans {n sb : Nat} {A B C : World} (h : KpG n sb A B) (k : KpG n sb B C) : KpG n sb A C := ⟨fun x hx => k.list x (h.list x hx), h.low.trans k.low⟩
set_option maxRecDepth 100000 in
set_option maxHeartbeats 4000000 in
theorem back_says (m : Nat) (l : List Ges) (sb n : Nat) (v : Value) (w0 w : World) (hl : l.length ≤ 1000) (hn : w0.heap.size = n) (hv : SliceV w0 v 6 GesAt l) (hs : Boxed w sb 70 v) (hb : Below n w0 w) (hnw : n ≤ w.heap.size) :
    SaysK m Try.prog 112 #[.pointer (some ⟨sb, 0, none⟩)] (encG l) (KpG n sb) (dnL l.length) w := by
  intro ly J Jx W hW hJ hY h0
  have c0 := (show Boxed W sb 70 v from heap_keep hW hs)
  have hB : Below n w0 W := hb.trans (hW.mono hnw)
  have HV := Lib.hid hv
  obtain ⟨va, vc, rfl, -, -⟩ := hv
  have HY := Lib.hid hY
  have HN := Lib.hid hn
  have C0 := Lib.hid c0
  have e0 := c0.cell
  have l0 := c0.lt
  have u0 : IntKind.i64.wrap ((l.length : Int) - 1) = (l.length : Int) - 1 := IntWalk.i64_in _ (by omega)
  clear hY hW hs hb hn c0 hnw
  show CallsIn Fence.wide m Try.prog 112 #[.func (.yield ly) #[] #[], .pointer (some ⟨sb, 0, none⟩)] W _
  refine callsIn_of_wp Try.func112 rfl trivial ?_ rfl
  simp only [Try.ntmps112, List.size_toArray, List.length_cons, List.length_nil, Nat.reduceAdd, Nat.reduceSub, Array.replicate_succ, Array.replicate_zero, List.push_toArray, List.append_toArray, List.nil_append, List.cons_append]
  gi_wp2
  gi_loopw [3] (fun i wr => ∃ k : Nat, k ≤ l.length ∧ i = .int .i64 ((l.length : Int) - 1 - (k : Int)) ∧ Hid (J ((dnL l.length).take k) wr) ∧ Hid (Boxed wr sb 70 (.slice va l.length vc)) ∧ Hid (Below n w0 wr)) (fun i _ => (intOf i + 1).toNat)
  case atStart => exact ⟨0, Nat.zero_le _, by simp, Lib.hid (by simpa using h0), C0, Lib.hid hB⟩
  case round =>
    obtain ⟨k, hk, rfl, HJ, HS, HB⟩ := hrel
    have e0 := HS.out.cell
    have l0 := HS.out.lt
    clear h0
    by_cases hlt : k < l.length
    · obtain ⟨t, ht⟩ : ∃ t : Nat, (l.length : Int) - 1 - (k : Int) = (t : Int) := ⟨l.length - 1 - k, by omega⟩
      have htl : t < l.length := by omega
      have ht2 : l.length - 1 - k = t := by omega
      obtain ⟨b, o, rfl, hf⟩ := HV.out.at (by intro h; simp [h] at hlt)
      obtain ⟨k0, k1, k2, k3, k4, k5⟩ := hf t htl
      unfold IntAt at k0 k1 k2 k3 k4 k5
      have hbn : b < n := by rw [← HN.out]; exact cell_lt k0
      have kp : ∀ {p : Nat} {v : Value}, w0.cell? ⟨b, p, none⟩ = some v → wr.cell? ⟨b, p, none⟩ = some v := fun h => (HB.out.cell (p := ⟨b, _, none⟩) hbn).trans h
      replace k0 := kp k0
      replace k1 := kp k1
      replace k2 := kp k2
      replace k3 := kp k3
      replace k4 := kp k4
      replace k5 := kp k5
      have hkb := cell_lt k0
      have HP : Hid ((dnL l.length).take (k + 1) = (dnL l.length).take k ++ [⟨t, htl⟩]) := Lib.hid (by rw [dnL_take _ k hlt]; simp only [ht2])
      have HPR : Hid ((dnL l.length).take (k + 1) <+: dnL l.length) := Lib.hid (List.take_prefix _ _)
      have HKT : Hid ((l.length : Int) - 1 - ((k + 1 : Nat) : Int) = (t : Int) - 1) := Lib.hid (by omega)
      obtain ⟨fn, tmps, assign, body, hy, hR⟩ := yield_any (m - 1) (HY.out _ ⟨t, htl⟩ wr HJ.out (by rw [List.length_take, dnL_length]; omega))
      dsimp only [encG, Ges.agg] at hy
      rw [ht]
      have htt : (t : Int) < (l.length : Int) := by omega
      have u1 : IntKind.i64.wrap ((t : Int) - 1) = (t : Int) - 1 := IntWalk.i64_in _ (by omega)
      have HLT := Lib.hid hlt
      clear hf kp ht ht2 hlt hk
      generalize l[t] = x at *
      gi_wp2
      refine ⟨fun h => (by cases h), hR.mono ?_⟩
      rintro e W3 (⟨rfl, hJ3, hK3⟩ | ⟨rfl, -, hJx⟩)
      · have HJ3 : Hid (J ((dnL l.length).take (k + 1)) W3) := Lib.hid (by rw [HP.out]; exact hJ3)
        have HS3 := Lib.hid (hK3.list _ HS.out)
        have HB3 := Lib.hid (HB.out.trans hK3.low)
        clear hJ3 hy hR hK3
        have e0 := HS3.out.cell
        have l0 := HS3.out.lt
        gi_wp2
        go_roundw
        case rel => exact ⟨k + 1, by have := HLT.out; omega, by rw [HKT.out], HJ3, HS3, HB3⟩
        case measure => first | (simp [intOf]; done) | (simp [intOf]; omega)
      · have HJX := Lib.hid hJx
        clear hJx hy hR
        gi_wp2
        refine bodyPost_ret (results_none rfl _ _ _) rfl ?_
        exact ⟨⟨_, rfl⟩, .inr ⟨_, by rw [← HP.out]; exact HPR.out, HJX.out⟩⟩
    · obtain rfl : k = l.length := by omega
      have hng : ¬ ((l.length : Int) - 1 - (l.length : Int) ≥ 0) := by omega
      rw [show (l.length : Int) - 1 - (l.length : Int) = -1 by omega]
      gi_wp2
      go_end0
      refine ⟨⟨_, rfl⟩, .inl ?_⟩
      have := HJ.out
      rwa [List.take_of_length_le (by rw [dnL_length]; exact Nat.le_refl _)] at this
end Go.Proofs.Ytbmbcbknoflpgaa
