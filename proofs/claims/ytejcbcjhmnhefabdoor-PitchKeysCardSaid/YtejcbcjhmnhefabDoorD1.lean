/- Contracts: the pulses, as an iterator. -/
import Derived.Test.YtejcbcjhmnhefabDoorD0
import Derived.Test.YtejcbcjhmnhefabDoorA6
set_option linter.unusedSimpArgs false
set_option linter.unusedVariables false
namespace Go.Proofs.YtejcbcjhmnhefabDoor
open Go.RowKit Go.Shelf
attribute [local go_sem] Oper.semAt_some

/-- The phase behind so many samples. -/
def phase (c : Int) (l : List Int) : Nat → Int
  | 0 => 0
  | k + 1 => let p := phase c l k + l.getD k 0; if p < c then p else p - c
/-- Is there a pulse at a sample? -/
def hit (c : Int) (l : List Int) (k : Nat) : Bool := !decide (phase c l k + l.getD k 0 < c)
theorem phase_miss {c : Int} {l : List Int} {k : Nat} (h : hit c l k = false) : phase c l (k + 1) = phase c l k + l.getD k 0 := by
  simp only [hit, Bool.not_eq_eq_eq_not, Bool.not_false, decide_eq_true_eq] at h
  simp only [phase]; rw [if_pos h]
theorem phase_hit {c : Int} {l : List Int} {k : Nat} (h : hit c l k = true) : phase c l (k + 1) = phase c l k + l.getD k 0 - c := by
  simp only [hit, Bool.not_eq_eq_eq_not, Bool.not_true, decide_eq_false_iff_not] at h
  simp only [phase]; rw [if_neg h]
/-- Frequencies that are as defined. -/
def FreqsOk (rate : Int) (l : List Int) : Prop := 1 ≤ rate ∧ rate ≤ 192000 ∧ l.length ≤ 400000 ∧ ∀ x ∈ l, samOk rate x = true
theorem FreqsOk.get {rate : Int} {l : List Int} (h : FreqsOk rate l) {k : Nat} (hk : k < l.length) : 0 ≤ l[k] ∧ l[k] ≤ 1000 * rate / 2 := by
  have := h.2.2.2 _ (List.getElem_mem hk)
  simpa [samOk, betw] using this
theorem phase_in {rate : Int} {l : List Int} (h : FreqsOk rate l) : ∀ k, k ≤ l.length → 0 ≤ phase (1000 * rate) l k ∧ phase (1000 * rate) l k < 1000 * rate := by
  intro k
  induction k with
  | zero => intro _; have := h.1; simp only [phase]; omega
  | succ k ih =>
    intro hk
    have h1 := ih (by omega)
    have h2 := h.get (k := k) (by omega)
    have e : l.getD k 0 = l[k] := by simp [List.getD_eq_getElem?_getD, List.getElem?_eq_getElem (show k < l.length by omega)]
    cases hh : hit (1000 * rate) l k
    · rw [phase_miss hh]
      simp only [hit, Bool.not_eq_eq_eq_not, Bool.not_false, decide_eq_true_eq] at hh
      rw [e] at hh ⊢; omega
    · rw [phase_hit hh]
      simp only [hit, Bool.not_eq_eq_eq_not, Bool.not_true, decide_eq_false_iff_not] at hh
      rw [e] at hh ⊢; omega

abbrev UpTo (N : Nat) := { n : Nat // n < N }
def upL (N : Nat) : List (UpTo N) := (List.range N).pmap (fun n h => ⟨n, h⟩) (fun _ h => List.mem_range.1 h)
theorem upL_length (N : Nat) : (upL N).length = N := by simp [upL]
theorem upL_get (N k : Nat) (h : k < (upL N).length) : (upL N)[k] = ⟨k, by rw [upL_length] at h; exact h⟩ := by
  simp only [upL, List.getElem_pmap, List.getElem_range]
theorem upL_val (N : Nat) : (upL N).map Subtype.val = List.range N := by
  unfold upL
  rw [List.map_pmap]
  simp
abbrev encN {N : Nat} (x : UpTo N) : Array Value := #[.int .i64 (x.1 : Int)]
/-- The samples with a pulse, among the first so many. -/
def pul (c : Int) (l : List Int) (k : Nat) : List (UpTo l.length) := ((upL l.length).take k).filter fun x => hit c l x.1
theorem pul_succ (c : Int) (l : List Int) (k : Nat) (h : k < l.length) : pul c l (k + 1) = pul c l k ++ if hit c l k = true then [⟨k, h⟩] else [] := by
  unfold pul
  rw [take_succ _ k (by rw [upL_length]; exact h), upL_get, List.filter_append]
  cases hh : hit c l k <;> simp [hh]
theorem pul_prefix (c : Int) (l : List Int) (k : Nat) : pul c l k <+: pul c l l.length := by
  unfold pul
  refine List.IsPrefix.filter _ ?_
  rw [List.take_of_length_le (Nat.le_of_eq (upL_length _))]
  exact List.take_prefix _ _
/-- The samples with a pulse. -/
def pulses (c : Int) (l : List Int) : List Nat := (List.range l.length).filter (hit c l)
theorem pul_val (c : Int) (l : List Int) : (pul c l l.length).map Subtype.val = pulses c l := by
  unfold pul pulses
  rw [List.take_of_length_le (Nat.le_of_eq (upL_length _)), ← upL_val, List.filter_map]
  rfl

/-- What a round keeps: the two boxes behind the box of the result, and what lies before it. -/
structure KpP (n : Nat) (A B : World) : Prop where
  rate : ∀ x, Boxed A (n + 1) 3 x → Boxed B (n + 1) 3 x
  list : ∀ x, Boxed A (n + 2) 25 x → Boxed B (n + 2) 25 x
  low : Below n A B
theorem KpP.trans {n : Nat} {A B C : World} (h : KpP n A B) (k : KpP n B C) : KpP n A C := ⟨fun x hx => k.rate x (h.rate x hx), fun x hx => k.list x (h.list x hx), h.low.trans k.low⟩

set_option maxRecDepth 100000 in
set_option maxHeartbeats 2000000 in
theorem pulses_says (m : Nat) (rate : Int) (l : List Int) (n : Nat) (v : Value) (w0 w : World) (hl : FreqsOk rate l) (hn : w0.heap.size = n) (hv : SliceV w0 v 1 IntAt l) (hs : Boxed w (n + 2) 25 v) (hr : Boxed w (n + 1) 3 (.int .i64 rate)) (hb : Below n w0 w) :
    SaysK m Tryd.prog 45 #[.pointer (some ⟨n + 2, 0, none⟩), .pointer (some ⟨n + 1, 0, none⟩)] (encN (N := l.length)) (KpP n) (pul (1000 * rate) l l.length) w := by
  intro ly J Jx W hW hJ hY h0
  have c0 := (show Boxed W (n + 2) 25 v from heap_keep hW hs)
  have c1 := (show Boxed W (n + 1) 3 (.int .i64 rate) from heap_keep hW hr)
  have hB : Below n w0 W := hb.trans (hW.mono (by have := hs.lt; omega))
  have HV := Lib.hid hv
  have HL := Lib.hid hl
  obtain ⟨h1, h2, h3, -⟩ := hl
  obtain ⟨va, vc, rfl, -, -⟩ := hv
  have HY := Lib.hid hY
  have HN := Lib.hid hn
  have C0 := Lib.hid c0
  have C1 := Lib.hid c1
  have e0 := c0.cell
  have e1 := c1.cell
  have l0 := c0.lt
  clear hY hW hs hr hb hn c0 c1
  show CallsIn Fence.wide m Tryd.prog 45 #[.func (.yield ly) #[] #[], .pointer (some ⟨n + 2, 0, none⟩), .pointer (some ⟨n + 1, 0, none⟩)] W _
  refine callsIn_of_wp Tryd.func45 rfl trivial ?_ rfl
  simp only [Tryd.ntmps45, List.size_toArray, List.length_cons, List.length_nil, Nat.reduceAdd, Nat.reduceSub, Array.replicate_succ, Array.replicate_zero, List.push_toArray, List.append_toArray, List.nil_append, List.cons_append]
  gi_wp2
  gi_loopw [4, 9] (fun p i wr => ∃ k : Nat, k ≤ l.length ∧ i = .int .i64 k ∧ p = .int .i64 (phase (1000 * rate) l k) ∧ Hid (J (pul (1000 * rate) l k) wr) ∧ Hid (Boxed wr (n + 2) 25 (.slice va l.length vc)) ∧ Hid (Boxed wr (n + 1) 3 (.int .i64 rate)) ∧ Hid (Below n w0 wr)) (fun _ i _ => l.length - (intOf i).toNat)
  case atStart => exact ⟨0, Nat.zero_le _, rfl, rfl, Lib.hid (by simpa [pul] using h0), C0, C1, Lib.hid hB⟩
  case round =>
    obtain ⟨k, hk, rfl, rfl, HJ, HS, HR, HB⟩ := hrel
    have e0 := HS.out.cell
    have e1 := HR.out.cell
    have l0 := HS.out.lt
    clear h0
    by_cases hlt : k < l.length
    · obtain ⟨b, o, rfl, hf⟩ := HV.out.at (by intro h; simp [h] at hlt)
      have k0 := hf k hlt
      unfold IntAt at k0
      rw [Nat.mul_one] at k0
      have hbn : b < n := by rw [← HN.out]; exact cell_lt k0
      replace k0 := (HB.out.cell (p := ⟨b, o + k, none⟩) hbn).trans k0
      have hkb := cell_lt k0
      have hp := phase_in HL.out k hk
      have hq := HL.out.get hlt
      have hg : l.getD k 0 = l[k] := by simp [List.getD_eq_getElem?_getD, List.getElem?_eq_getElem hlt]
      have HP := Lib.hid (pul_succ (1000 * rate) l k hlt)
      have hcy : ∀ W, Calls Tryd.prog 44 #[.int .i64 rate] W fun e w' => e = .returned (.int .i64 (1000 * rate)) ∧ W = w' := fun W => cycle_any rate W (by omega) (by omega)
      have HC := Lib.hid hcy
      clear hf hcy
      cases hh : hit (1000 * rate) l k
      · have hph := phase_miss hh
        have HP2 : Hid (pul (1000 * rate) l (k + 1) = pul (1000 * rate) l k) := Lib.hid (by rw [HP.out, if_neg (by rw [hh]; decide), List.append_nil])
        simp only [hit, Bool.not_eq_eq_eq_not, Bool.not_false, decide_eq_true_eq] at hh
        rw [hg] at hph hh
        have HPH := Lib.hid hph
        clear hph hg
        generalize l[k] = f at *
        generalize phase (1000 * rate) l k = p at *
        gi_wp2_with (refine ⟨trivial, fun h => (by cases h), ?_⟩; gi_at_call 44; refine (callsIn_wide.2 (HC.out _)).mono ?_; rintro e w1 ⟨rfl, rfl⟩)
        go_roundw
        case rel => exact ⟨k + 1, by omega, by go_num, by rw [HPH.out], Lib.hid (by rw [HP2.out]; exact HJ.out), HS, HR, HB⟩
        case measure => simp [intOf]; omega
      · have hph := phase_hit hh
        have HP2 : Hid (pul (1000 * rate) l (k + 1) = pul (1000 * rate) l k ++ [⟨k, hlt⟩]) := Lib.hid (by rw [HP.out, if_pos hh])
        have hpre := pul_prefix (1000 * rate) l (k + 1)
        have hpl := hpre.length_le
        rw [HP2.out, List.length_append, List.length_singleton] at hpl
        simp only [hit, Bool.not_eq_eq_eq_not, Bool.not_true, decide_eq_false_iff_not] at hh
        rw [hg] at hph hh
        have HPH := Lib.hid hph
        have HPR := Lib.hid hpre
        obtain ⟨fn, tmps, assign, body, hy, hR⟩ := yield_any (m - 1) (HY.out _ ⟨k, hlt⟩ wr HJ.out (by omega))
        dsimp only [encN] at hy
        clear hph hg hpre hpl
        generalize l[k] = f at *
        generalize phase (1000 * rate) l k = p at *
        gi_wp2_with (first | (refine ⟨trivial, fun h => (by cases h), ?_⟩; gi_at_call 44; refine (callsIn_wide.2 (HC.out _)).mono ?_; rintro e w1 ⟨rfl, rfl⟩))
        refine ⟨fun h => (by cases h), hR.mono ?_⟩
        rintro e W3 (⟨rfl, hJ3, hK3⟩ | ⟨rfl, -, hJx⟩)
        · have HJ3 : Hid (J (pul (1000 * rate) l (k + 1)) W3) := Lib.hid (by rw [HP2.out]; exact hJ3)
          have HS3 := Lib.hid (hK3.list _ HS.out)
          have HR3 := Lib.hid (hK3.rate _ HR.out)
          have HB3 := Lib.hid (HB.out.trans hK3.low)
          clear hJ3 hy hR hK3
          have e0 := HS3.out.cell
          have e1 := HR3.out.cell
          have l0 := HS3.out.lt
          gi_wp2_with (first | (refine ⟨trivial, fun h => (by cases h), ?_⟩; gi_at_call 44; refine (callsIn_wide.2 (HC.out _)).mono ?_; rintro e w1 ⟨rfl, rfl⟩))
          go_roundw
          case rel => exact ⟨k + 1, by omega, by go_num, by rw [HPH.out], HJ3, HS3, HR3, HB3⟩
          case measure => simp [intOf]; omega
        · have HJX := Lib.hid hJx
          clear hJx hy hR
          gi_wp2
          refine bodyPost_ret (results_none rfl _ _ _) rfl ?_
          exact ⟨⟨_, rfl⟩, .inr ⟨_, by rw [← HP2.out]; exact HPR.out, HJX.out⟩⟩
    · obtain rfl : k = l.length := by omega
      gi_wp2
      go_end0
      exact ⟨⟨_, rfl⟩, .inl HJ.out⟩
end Go.Proofs.YtejcbcjhmnhefabDoor
