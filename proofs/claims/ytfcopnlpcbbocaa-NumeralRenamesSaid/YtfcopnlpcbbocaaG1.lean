/- Contracts: lists that are compared. -/
import Derived.Test.YtfcopnlpcbbocaaF5
import Derived.LoopNIn
import Derived.LoopIn
import Derived.Shelf.Abstract
set_option linter.unusedSimpArgs false
set_option linter.unusedVariables false
namespace Go.Proofs.Ytfcopnlpcbbocaa
open Go.RowKit

def IntAt (w : World) (b o : Nat) (n : Int) : Prop := w.cell? ⟨b, o, none⟩ = some (.int .i64 n)
theorem IntAt.stable : Stable IntAt := fun _ _ _ _ _ hB h => keep hB h

theorem take_eq_succ {α : Type} {xs ys : List α} {k : Nat} (h : xs.take k = ys.take k) (hx : k < xs.length) (hy : k < ys.length) (e : xs[k] = ys[k]) : xs.take (k + 1) = ys.take (k + 1) := by
  rw [take_succ xs k hx, take_succ ys k hy, h, e]

theorem text_eq (p q : ByteArray) : (p.toList == q.toList) = decide (p = q) := by
  by_cases h : p = q
  · subst h; simp
  · have : p.toList ≠ q.toList := fun h' => h (ByteArray.ext (Array.toList_inj.1 (by simpa [ByteArray.toList_eq] using h')))
    simp [h, this]
set_option maxHeartbeats 1000000 in
theorem Same_any (xs ys : List ByteArray) (v u : Value) (w : World) (hv : SliceV w v 1 StrAt xs) (hu : SliceV w u 1 StrAt ys) :
    Calls Try.prog 25 #[v, u] w fun e w' => e = .returned (.bool (decide (xs = ys))) ∧ Below w.heap.size w w' := by
  obtain ⟨xa, xc, rfl, hxl, hx⟩ := hv
  obtain ⟨ya, yc, rfl, hyl, hy⟩ := hu
  unfold most at hxl hyl
  by_cases hl : xs.length = ys.length
  · have hl' : ((xs.length : Int) == (ys.length : Int)) = true := by simp; omega
    have HL := Lib.hid hl
    clear hl
    go_enter Try.func25, Try.ntmps25
    go_wp2_with fail
    go_loopw [5] (fun i wr => ∃ k : Nat, k ≤ xs.length ∧ i = .int .i64 k ∧ Hid (xs.take k = ys.take k) ∧ Below w.heap.size w wr) (fun i _ => xs.length - (intOf i).toNat)
    case atStart => exact ⟨0, Nat.zero_le _, rfl, Lib.hid (by simp), Below.refl _ _⟩
    case round =>
      obtain ⟨k, hk, rfl, HT, hB⟩ := hrel
      by_cases hlt : k < xs.length
      · have hly : k < ys.length := by have := HL.out; omega
        have hly1 : (k : Int) < (ys.length : Int) := by omega
        have HN : Hid (xs[k] = ys[k] → Hid (xs.take (k + 1) = ys.take (k + 1))) := Lib.hid fun e => Lib.hid (take_eq_succ HT.out hlt hly e)
        rcases hx with hnil | ⟨xb, xo, rfl, hxf⟩
        · simp [hnil] at hlt
        rcases hy with hnil | ⟨yb, yo, rfl, hyf⟩
        · simp [hnil] at hly
        have p0 : wr.cell? ⟨xb, xo + k, none⟩ = some (.string xs[k]) := by have := keep hB (hxf k hlt); simpa using this
        have q0 : wr.cell? ⟨yb, yo + k, none⟩ = some (.string ys[k]) := by have := keep hB (hyf k hly); simpa using this
        have HE : Hid (xs[k] ≠ ys[k] → xs ≠ ys) := Lib.hid (by intro h e; exact h (by simp [e]))
        have hpb := cell_lt p0
        have hqb := cell_lt q0
        clear hxf hyf
        generalize xs[k] = p at *
        generalize ys[k] = q at *
        have ht := text_eq p q
        by_cases he : p = q
        · have h1 : (p.toList == q.toList) = true := by rw [ht]; simp [he]
          have HEQ := Lib.hid he
          clear he ht
          go_wp2_with fail
          refine wp_opaque fun Q2 hQ2 => ?_
          (refine wp_region_below (by kernel_rfl) (by kernel_rfl) ?_; (repeat (first | go_big_quiet_step (fail) | quiet_step (fail))); (refine wpQuiet_nil ?_; intro _ hw'; obtain ⟨xq, hw''⟩ := hw'; subst hw''))
          refine hQ2 _ _ _ ?_
          go_wp2_with fail
          go_roundw
          case rel => exact ⟨k + 1, by omega, by go_num, HN.out HEQ.out, bThen hB xq.2⟩
          case measure => simp [intOf]; omega
        · have h1 : (p.toList == q.toList) = false := by rw [ht]; simp [he]
          have HNE := Lib.hid he
          clear he ht
          go_wp2_with fail
          refine wp_opaque fun Q2 hQ2 => ?_
          (refine wp_region_below (by kernel_rfl) (by kernel_rfl) ?_; (repeat (first | go_big_quiet_step (fail) | quiet_step (fail))); (refine wpQuiet_nil ?_; intro _ hw'; obtain ⟨xq, hw''⟩ := hw'; subst hw''))
          refine hQ2 _ _ _ ?_
          go_wp2_with fail
          go_ret
          exact ⟨ret_bool (by simp; exact HE.out HNE.out), bThen hB xq.2⟩
      · obtain rfl : k = xs.length := by omega
        go_wp2_with fail
        go_ret
        exact ⟨ret_bool (by have h := HT.out; rw [List.take_length, HL.out, List.take_length] at h; simp [h]), hB⟩
  · have hl' : ((xs.length : Int) == (ys.length : Int)) = false := by simp; omega
    have HL := Lib.hid hl
    clear hl
    go_enter Try.func25, Try.ntmps25
    go_wp2_with fail
    go_ret
    exact ⟨ret_bool (by simp; intro h; exact HL.out (by rw [h])), Below.refl _ _⟩
set_option maxHeartbeats 1000000 in
theorem Equal_any (xs ys : List ByteArray) (v u : Value) (w : World) (hv : SliceV w v 1 StrAt xs) (hu : SliceV w u 1 StrAt ys) :
    Calls Try.prog 58 #[v, u] w fun e w' => e = .returned (.bool (decide (xs = ys))) ∧ Below w.heap.size w w' := by
  obtain ⟨xa, xc, rfl, hxl, hx⟩ := hv
  obtain ⟨ya, yc, rfl, hyl, hy⟩ := hu
  unfold most at hxl hyl
  by_cases hl : xs.length = ys.length
  · have hl' : ((xs.length : Int) == (ys.length : Int)) = true := by simp; omega
    have HL := Lib.hid hl
    clear hl
    go_enter Try.func58, Try.ntmps58
    go_wp2_with fail
    go_loopw [5, 13] (fun _ i wr => ∃ k : Nat, k ≤ xs.length ∧ i = .int .i64 k ∧ Hid (xs.take k = ys.take k) ∧ Below w.heap.size w wr) (fun _ i _ => xs.length - (intOf i).toNat)
    case atStart => exact ⟨0, Nat.zero_le _, rfl, Lib.hid (by simp), Below.refl _ _⟩
    case round =>
      obtain ⟨k, hk, rfl, HT, hB⟩ := hrel
      by_cases hlt : k < xs.length
      · have hly : k < ys.length := by have := HL.out; omega
        have hly1 : (k : Int) < (ys.length : Int) := by omega
        have HN : Hid (xs[k] = ys[k] → Hid (xs.take (k + 1) = ys.take (k + 1))) := Lib.hid fun e => Lib.hid (take_eq_succ HT.out hlt hly e)
        rcases hx with hnil | ⟨xb, xo, rfl, hxf⟩
        · simp [hnil] at hlt
        rcases hy with hnil | ⟨yb, yo, rfl, hyf⟩
        · simp [hnil] at hly
        have p0 : wr.cell? ⟨xb, xo + k, none⟩ = some (.string xs[k]) := by have := keep hB (hxf k hlt); simpa using this
        have q0 : wr.cell? ⟨yb, yo + k, none⟩ = some (.string ys[k]) := by have := keep hB (hyf k hly); simpa using this
        have HE : Hid (xs[k] ≠ ys[k] → xs ≠ ys) := Lib.hid (by intro h e; exact h (by simp [e]))
        have hpb := cell_lt p0
        have hqb := cell_lt q0
        clear hxf hyf
        generalize xs[k] = p at *
        generalize ys[k] = q at *
        have ht := text_eq p q
        by_cases he : p = q
        · have h1 : (p.toList == q.toList) = true := by rw [ht]; simp [he]
          have HEQ := Lib.hid he
          clear he ht
          go_wp2_with fail
          refine wp_opaque fun Q2 hQ2 => ?_
          (refine wp_region_below (by kernel_rfl) (by kernel_rfl) ?_; (repeat (first | go_big_quiet_step (fail) | quiet_step (fail))); (refine wpQuiet_nil ?_; intro _ hw'; obtain ⟨xq, hw''⟩ := hw'; subst hw''))
          refine hQ2 _ _ _ ?_
          go_wp2_with fail
          go_roundw
          case rel => exact ⟨k + 1, by omega, by go_num, HN.out HEQ.out, bThen hB xq.2⟩
          case measure => simp [intOf]; omega
        · have h1 : (p.toList == q.toList) = false := by rw [ht]; simp [he]
          have HNE := Lib.hid he
          clear he ht
          go_wp2_with fail
          refine wp_opaque fun Q2 hQ2 => ?_
          (refine wp_region_below (by kernel_rfl) (by kernel_rfl) ?_; (repeat (first | go_big_quiet_step (fail) | quiet_step (fail))); (refine wpQuiet_nil ?_; intro _ hw'; obtain ⟨xq, hw''⟩ := hw'; subst hw''))
          refine hQ2 _ _ _ ?_
          go_wp2_with fail
          go_ret
          exact ⟨ret_bool (by simp; exact HE.out HNE.out), bThen hB xq.2⟩
      · obtain rfl : k = xs.length := by omega
        go_wp2_with fail
        go_ret
        exact ⟨ret_bool (by have h := HT.out; rw [List.take_length, HL.out, List.take_length] at h; simp [h]), hB⟩
  · have hl' : ((xs.length : Int) == (ys.length : Int)) = false := by simp; omega
    have HL := Lib.hid hl
    clear hl
    go_enter Try.func58, Try.ntmps58
    go_wp2_with fail
    go_ret
    exact ⟨ret_bool (by simp; intro h; exact HL.out (by rw [h])), Below.refl _ _⟩
set_option maxHeartbeats 1000000 in
theorem Numbers_any (xs ys : List Int) (v u : Value) (w : World) (hv : SliceV w v 1 IntAt xs) (hu : SliceV w u 1 IntAt ys) :
    Calls Try.prog 29 #[v, u] w fun e w' => e = .returned (.bool (decide (xs = ys))) ∧ Below w.heap.size w w' := by
  obtain ⟨xa, xc, rfl, hxl, hx⟩ := hv
  obtain ⟨ya, yc, rfl, hyl, hy⟩ := hu
  unfold most at hxl hyl
  by_cases hl : xs.length = ys.length
  · have hl' : ((xs.length : Int) == (ys.length : Int)) = true := by simp; omega
    have HL := Lib.hid hl
    clear hl
    go_enter Try.func29, Try.ntmps29
    go_wp2_with fail
    go_loopw [5] (fun i wr => ∃ k : Nat, k ≤ xs.length ∧ i = .int .i64 k ∧ Hid (xs.take k = ys.take k) ∧ Below w.heap.size w wr) (fun i _ => xs.length - (intOf i).toNat)
    case atStart => exact ⟨0, Nat.zero_le _, rfl, Lib.hid (by simp), Below.refl _ _⟩
    case round =>
      obtain ⟨k, hk, rfl, HT, hB⟩ := hrel
      by_cases hlt : k < xs.length
      · have hly : k < ys.length := by have := HL.out; omega
        have hly1 : (k : Int) < (ys.length : Int) := by omega
        have HN : Hid (xs[k] = ys[k] → Hid (xs.take (k + 1) = ys.take (k + 1))) := Lib.hid fun e => Lib.hid (take_eq_succ HT.out hlt hly e)
        rcases hx with hnil | ⟨xb, xo, rfl, hxf⟩
        · simp [hnil] at hlt
        rcases hy with hnil | ⟨yb, yo, rfl, hyf⟩
        · simp [hnil] at hly
        have p0 : wr.cell? ⟨xb, xo + k, none⟩ = some (.int .i64 xs[k]) := by have := keep hB (hxf k hlt); simpa using this
        have q0 : wr.cell? ⟨yb, yo + k, none⟩ = some (.int .i64 ys[k]) := by have := keep hB (hyf k hly); simpa using this
        have HE : Hid (xs[k] ≠ ys[k] → xs ≠ ys) := Lib.hid (by intro h e; exact h (by simp [e]))
        have hpb := cell_lt p0
        have hqb := cell_lt q0
        clear hxf hyf
        generalize xs[k] = p at *
        generalize ys[k] = q at *
        by_cases he : p = q
        · have h1 : (p == q) = true := by simp [he]
          have HEQ := Lib.hid he
          clear he
          go_wp2_with fail
          refine wp_opaque fun Q2 hQ2 => ?_
          (refine wp_region_below (by kernel_rfl) (by kernel_rfl) ?_; (repeat (first | go_big_quiet_step (fail) | quiet_step (fail))); (refine wpQuiet_nil ?_; intro _ hw'; obtain ⟨xq, hw''⟩ := hw'; subst hw''))
          refine hQ2 _ _ _ ?_
          go_wp2_with fail
          go_roundw
          case rel => exact ⟨k + 1, by omega, by go_num, HN.out HEQ.out, bThen hB xq.2⟩
          case measure => simp [intOf]; omega
        · have h1 : (p == q) = false := by simp [he]
          have HNE := Lib.hid he
          clear he
          go_wp2_with fail
          refine wp_opaque fun Q2 hQ2 => ?_
          (refine wp_region_below (by kernel_rfl) (by kernel_rfl) ?_; (repeat (first | go_big_quiet_step (fail) | quiet_step (fail))); (refine wpQuiet_nil ?_; intro _ hw'; obtain ⟨xq, hw''⟩ := hw'; subst hw''))
          refine hQ2 _ _ _ ?_
          go_wp2_with fail
          go_ret
          exact ⟨ret_bool (by simp; exact HE.out HNE.out), bThen hB xq.2⟩
      · obtain rfl : k = xs.length := by omega
        go_wp2_with fail
        go_ret
        exact ⟨ret_bool (by have h := HT.out; rw [List.take_length, HL.out, List.take_length] at h; simp [h]), hB⟩
  · have hl' : ((xs.length : Int) == (ys.length : Int)) = false := by simp; omega
    have HL := Lib.hid hl
    clear hl
    go_enter Try.func29, Try.ntmps29
    go_wp2_with fail
    go_ret
    exact ⟨ret_bool (by simp; intro h; exact HL.out (by rw [h])), Below.refl _ _⟩
end Go.Proofs.Ytfcopnlpcbbocaa
/- Contracts: the numbers up to one, as an iterator. -/
namespace Go.Proofs.Ytfcopnlpcbbocaa
open Go.RowKit Go.Shelf
attribute [local go_sem] Oper.semAt_some

abbrev UpTo (N : Nat) := { n : Nat // n < N }
def upL (N : Nat) : List (UpTo N) := (List.range N).pmap (fun n h => ⟨n, h⟩) (fun _ h => List.mem_range.1 h)
theorem upL_length (N : Nat) : (upL N).length = N := by simp [upL]
theorem upL_get (N k : Nat) (h : k < (upL N).length) : (upL N)[k] = ⟨k, by rw [upL_length] at h; exact h⟩ := by
  simp only [upL, List.getElem_pmap, List.getElem_range]
theorem upL_val (N : Nat) : (upL N).map Subtype.val = List.range N := by
  unfold upL
  rw [List.map_pmap]
  simp
abbrev encN {N : Nat} (x : UpTo N) : Array Value := #[.int .i64 (x.1 : Int)]

set_option maxRecDepth 100000 in
set_option maxHeartbeats 2000000 in
theorem upTo1_says (m last b : Nat) (Kp : World → World → Prop) (w : World) (hl : last ≤ 20000) (hc : w.cell? ⟨b, 0, none⟩ = some (.int .i64 (last : Int))) :
    SaysK m Try.prog 84 #[.pointer (some ⟨b, 0, none⟩)] (encN (N := last + 1)) Kp (upL (last + 1)) w := by
  intro l J Jx W hW hJ hY h0
  have c0 := keep hW hc
  have HY := Lib.hid hY
  have hl1 : (last : Int) ≤ 20000 := by omega
  have hl0 : (0 : Int) ≤ (last : Int) := by omega
  clear hY
  show CallsIn Fence.wide m Try.prog 84 #[.func (.yield l) #[] #[], .pointer (some ⟨b, 0, none⟩)] W _
  refine callsIn_of_wp Try.func84 rfl trivial ?_ rfl
  simp only [Try.ntmps84, List.size_toArray, List.length_cons, List.length_nil, Nat.reduceAdd, Nat.reduceSub, Array.replicate_succ, Array.replicate_zero, List.push_toArray, List.append_toArray, List.nil_append, List.cons_append]
  gi_wp2
  gi_loopw [3, 6] (fun _ i wr => ∃ k : Nat, k ≤ last + 1 ∧ i = .int .i64 k ∧ J ((upL (last + 1)).take k) wr) (fun _ i _ => last + 1 - (intOf i).toNat)
  case atStart => exact ⟨0, Nat.zero_le _, rfl, by simpa using h0⟩
  case round =>
    obtain ⟨k, hk, rfl, hJr⟩ := hrel
    by_cases hlt : k < last + 1
    · have hlen : k < (upL (last + 1)).length := by rw [upL_length]; exact hlt
      have hlti : (k : Int) < (last : Int) + 1 := by omega
      obtain ⟨fn, tmps, assign, body, hy, hR⟩ := yield_any (m - 1) (HY.out _ ⟨k, hlt⟩ wr hJr (by rw [List.length_take]; omega))
      dsimp only [encN] at hy
      have HT : Hid ((upL (last + 1)).take (k + 1) = (upL (last + 1)).take k ++ [⟨k, hlt⟩]) := Lib.hid (by rw [take_succ _ k hlen, upL_get])
      clear h0 hJr
      gi_wp2
      refine ⟨fun h => (by cases h), hR.mono ?_⟩
      rintro e W3 (⟨rfl, hJ3, -⟩ | ⟨rfl, -, hJx⟩)
      · have HJ3 : Hid (J ((upL (last + 1)).take (k + 1)) W3) := Lib.hid (by rw [HT.out]; exact hJ3)
        clear hJ3 hy hR
        gi_wp2
        go_roundw
        case rel => exact ⟨k + 1, by omega, by go_num, HJ3.out⟩
        case measure => simp [intOf]; omega
      · have HJX := Lib.hid hJx
        clear hJx hy hR
        gi_wp2
        refine bodyPost_ret (results_none rfl _ _ _) rfl ?_
        exact ⟨⟨_, rfl⟩, .inr ⟨_, by rw [← HT.out]; exact List.take_prefix _ _, HJX.out⟩⟩
    · obtain rfl : k = last + 1 := by omega
      have HF : Hid (J (upL (last + 1)) wr) := Lib.hid (by rw [List.take_of_length_le (by rw [upL_length]; omega)] at hJr; exact hJr)
      clear hJr
      gi_wp2
      go_end0
      exact ⟨⟨_, rfl⟩, .inl HF.out⟩
end Go.Proofs.Ytfcopnlpcbbocaa
/- Contracts: the numbers up to one that are kept. -/
namespace Go.Proofs.Ytfcopnlpcbbocaa
open Go.RowKit Go.Shelf
attribute [local go_sem] Oper.semAt_some

set_option maxHeartbeats 1000000 in
theorem upTo_any (last : Int) (w : World) : Calls Try.prog 55 #[.int .i64 last] w fun e w' => ∃ b, (e = .returned (.func (.func 84) #[] #[.pointer (some ⟨b, 0, none⟩)]) ∧ w'.cell? ⟨b, 0, none⟩ = some (.int .i64 last)) ∧ Below w.heap.size w w' := by
  go_enter Try.func55, Try.ntmps55
  go_wp2_with fail
  go_ret
  exact ⟨_, ⟨rfl, by simp⟩, bAlloc (Below.refl _ _) _⟩
def numb (a : Ask) (n : Int) : Ask := ⟨n, a.set, a.gen, a.kas⟩
set_option maxHeartbeats 1000000 in
theorem numbered_any (a : Ask) (n : Int) (w : World) : Calls Try.prog 57 #[a.val, .int .i64 n] w fun e w' => e = .returned (numb a n).val ∧ Below w.heap.size w w' := by
  unfold Ask.val numb
  go_enter Try.func57, Try.ntmps57
  go_wp2_with fail
  refine bodyPost_ret (by simp [results, Try.results57, go_sem]) rfl ⟨rfl, ?_⟩
  exact bAlloc (bAlloc (Below.refl _ _) _) _

theorem info3 : (Try.prog.info? 3).map (fun i => (i.zero, i.size, i.bytes)) = some (some (.int .i64 0), 1, 8) := by kernel_rfl
def kept {N : Nat} (g : Nat → Bool) (l : List (UpTo N)) : List Value := ((l.map Subtype.val).filter g).map fun n : Nat => Value.int .i64 (n : Int)
theorem kept_hit {N : Nat} {g : Nat → Bool} (l : List (UpTo N)) (x : UpTo N) (h : g x.1 = true) : kept g (l ++ [x]) = kept g l ++ [.int .i64 (x.1 : Int)] := by simp [kept, h]
theorem kept_miss {N : Nat} {g : Nat → Bool} (l : List (UpTo N)) (x : UpTo N) (h : g x.1 = false) : kept g (l ++ [x]) = kept g l := by simp [kept, h]
theorem kept_len {N : Nat} {g : Nat → Bool} (l : List (UpTo N)) : (kept g l).length ≤ l.length := by
  unfold kept
  rw [List.length_map]
  exact Nat.le_trans (List.length_filter_le _ _) (by simp)

set_option maxRecDepth 100000 in
set_option maxHeartbeats 4000000 in
theorem keep_any (last b F : Nat) (lb : Array Value) (g : Nat → Bool) (w : World) (hl : last ≤ 20000) (hc : w.cell? ⟨b, 0, none⟩ = some (.int .i64 (last : Int)))
    (hent : ∀ args w, (callFunc F args).run Try.prog w = .ok (.enter F args) w)
    (hpred : ∀ n : Nat, n ≤ last → ∀ W', Below w.heap.size w W' → Calls Try.prog F (#[.int .i64 (n : Int)] ++ lb) W' fun e w'' => e = .returned (.bool (g n)) ∧ Below W'.heap.size W' w'') :
    Calls Try.prog 54 #[.func (.func 84) #[] #[.pointer (some ⟨b, 0, none⟩)], .func (.func F) #[] lb] w fun e w' =>
      (∃ v, e = .returned v ∧ w'.ownsRow w.heap.size 3 1 v (((List.range (last + 1)).filter g).length) (((List.range (last + 1)).filter g).map fun n : Nat => Value.int .i64 (n : Int))) ∧ Below w.heap.size w w' := by
  have HPR := Lib.hid hpred
  obtain ⟨i0, hi, hz0, hz1, hz2⟩ := info_parts info3
  have HI := Lib.hid hi
  refine (callsIn_wide (n := 6)).1 ?_
  refine callsIn_of_wp_marks Try.func54 rfl trivial ?_ rfl
  simp only [Try.ntmps54, List.size_toArray, List.length_cons, List.length_nil, Nat.reduceAdd, Nat.reduceSub, Array.replicate_succ, Array.replicate_zero, List.push_toArray, List.append_toArray, List.nil_append, List.cons_append]
  clear hpred hi
  gi_wp2
  obtain ⟨n, hn⟩ : ∃ n, n = w.heap.size := ⟨_, rfl⟩
  rw [← hn]
  generalize hW4 : World.alloc _ _ = W4
  have hB4 : Below w.heap.size w W4 := by rw [← hW4]; exact bAlloc (bAlloc (Below.refl _ _) _) _
  have b3 : Boxed W4 n 115 (.func (.func F) #[] lb) := by rw [← hW4, hn]; exact (Boxed.new _ _ _).alloc _
  have b5 : Boxed W4 (n + 1) 63 (.slice none 0 0) := by
    rw [← hW4, hn]; have := Boxed.new (w.alloc (.cells #[.func (.func F) #[] lb] 115)) 63 (.slice none 0 0); simpa using this
  have hsz : W4.heap.size = n + 2 := by rw [← hW4, hn]; simp
  clear hW4
  have hn1 : n ≤ w.heap.size := by omega
  have hn2 : w.heap.size ≤ n := by omega
  have hz1' : W4.heap.size ≤ n + 2 := by omega
  have hz2' : n + 2 ≤ W4.heap.size := by omega
  have HB0 : Below n w W4 := by rw [hn]; exact hB4
  have HNn := Lib.hid hn
  clear hn hsz
  refine wpIn_range_kept (P := Try.prog) (n := 6) (by omega) (gf := 84) (lb := #[.pointer (some ⟨b, 0, none⟩)]) rfl (enters_of Try.func84 (by kernel_rfl) rfl)
    (upTo1_says 5 last b (fun _ _ => True) W4 hl (keep hB4 hc)) (fun _ _ => trivial) (fun _ _ _ _ _ _ _ _ => trivial) (Below.refl _ _) (fun _ => rfl)
    (fun pre W => (∃ v, Boxed W (n + 1) 63 v ∧ W.ownsRow n 3 1 v (kept g pre).length (kept g pre) ∧ True) ∧ Boxed W n 115 (.func (.func F) #[] lb) ∧ Below n w W)
    (fun _ _ => False)
    ?hI ?hIx ?h0
    (fun x a' _ => a' = { tmps := #[.func (.func 84) #[] #[.pointer (some ⟨b, 0, none⟩)], .func (.func F) #[] lb, undef, .pointer (some ⟨n, 0, none⟩), .slice none 0 0, .pointer (some ⟨n + 1, 0, none⟩), .int .i64 (x.1 : Int), .func (.func 84) #[] #[.pointer (some ⟨b, 0, none⟩)], .int .i64 (x.1 : Int), undef, undef, undef, undef, undef, undef, undef, undef], defers := [] })
    ?hAx ?assign ?body ?done ?stop
  case hI =>
    refine OwnFrom.and (Own.from (holdsRow_own n (n + 1) 63 3 1 (fun pre : List (UpTo (last + 1)) => (kept g pre).length) (fun pre => kept g pre) (fun _ _ => True)) _) ?_
    exact OwnFrom.and (Own.from (boxed_own _ _ _) _) (ownFrom_below (by omega) (by omega))
  case hIx => exact fun _ _ _ _ hs _ _ => hs
  case h0 => exact ⟨⟨_, b5, World.ownsRow_nil _ _ _ _, trivial⟩, b3, HB0⟩
  case hAx => exact fun _ _ _ _ _ _ hs _ _ => hs
  case assign =>
    rintro l pre x W K hi hK
    gi_wp2
    exact hK _ _ (KeepsFrom.refl _ _) trivial hi rfl
  case body =>
    rintro l pre x a' W ⟨⟨v, v5, hrow, -⟩, v3, hB⟩ rfl hlen
    obtain ⟨x, hx⟩ := x
    simp only
    have hBw : Below w.heap.size w W := hB.mono hn2
    have hcall := HPR.out x (by omega) W hBw
    have c3 := v3.cell
    have HC := Lib.hid hcall
    have HLEN : (kept g pre).length ≤ 20001 := Nat.le_trans (kept_len pre) (by rw [upL_length] at hlen; omega)
    have HV3 := Lib.hid v3
    have HV5 := Lib.hid v5
    have HRW := Lib.hid hrow
    have HBX := Lib.hid hB
    clear hcall v3 v5 hrow hB
    cases hg : g x
    · gi_wp2_with (refine ⟨trivial, ?_⟩; refine (CallsIn.inRound l (callsIn_wide.2 HC.out)).mono ?_; rintro e w1 ⟨rfl, hb'⟩)
      exact ⟨(others_below hb').from _, trivial, ⟨v, heap_keep hb' HV5.out, by rw [kept_miss pre ⟨x, hx⟩ hg]; exact ownsRow_below HRW.out hb', trivial⟩, heap_keep hb' HV3.out, HBX.out.trans (hb'.mono (by have := hBw.size; omega))⟩
    · have hs5 := HV5.out.lt
      have hlw : n ≤ W.heap.size := by omega
      have HX := Lib.hid hg
      gi_wp2_with (first
        | (refine ⟨trivial, ?_⟩; refine (CallsIn.inRound l (callsIn_wide.2 HC.out)).mono ?_; rintro e w1 ⟨rfl, hb'⟩; have HB1 := Lib.hid hb'; have hv6 : Boxed w1 (n + 1) 63 v := heap_keep hb' HV5.out; have c6 := hv6.cell; have hl6 := hv6.lt; have hrow1 := Lib.hid (ownsRow_below HRW.out hb'); have HV6 := Lib.hid hv6; clear hv6 hb')
        | (gi_at_builtin; refine wpListIn_append_own _ rfl _ _ 63 rfl n 3 i0 (.int .i64 0) 1 8 Try.underlying63 HI.out hz0 hz1 hz2 rfl (by decide) v (kept g pre).length (kept g pre) rfl (hrow1.out.alloc _) ⟨w1.heap.size, 0, none⟩ 1 1 [.int .i64 (x : Int)] rfl rfl (cell_one_new _ _ _) (by simp [Value.oneCell']) (by unfold maxLen; omega) (by omega) (by simp; omega) ?_; intro v' w2 hown' hgrow _; obtain ⟨g', cap', rfl⟩ := ownsRow_succ hown'; obtain ⟨hv1, hv2, hr2, hk2, hb2⟩ := Boxed.appended HV6.out (by decide) hrow1.out (by omega) (by omega) hown' hgrow; have hc1 := hv1.cell; have hf1 := hv1.frozen; have HU := Lib.hid (And.intro (And.intro hown' hgrow) (And.intro hv2 (And.intro hr2 (And.intro hk2 hb2)))); clear hown' hgrow hv1 hv2 hr2 hk2 hb2))
      obtain ⟨⟨hown', hgrow⟩, hv2, hr2, hk2, hb2⟩ := HU.out
      exact ⟨((others_below HB1.out).trans hk2).from _, trivial, ⟨_, hv2, by rw [kept_hit pre ⟨x, hx⟩ HX.out]; simpa using hr2, trivial⟩, Boxed.past (heap_keep HB1.out HV3.out) (by decide) hrow1.out hgrow (by omega) _, HBX.out.trans ((HB1.out.mono hlw).trans hb2)⟩
  case done =>
    rintro D W hD ⟨⟨v, v5, hrow, -⟩, v3, hB⟩ hK
    obtain ⟨ad, cap, rfl⟩ := ownsRow_slice hrow
    have c5 := v5.cell
    have HRW := Lib.hid hrow
    have HKD := Lib.hid hK
    clear v3 v5 hrow hK
    gi_wp2
    have hrow' := ownsRow_putObj HRW.out (.deferred none) HKD.out rfl
    have hB' : Below n w (W.putObj D (.deferred none)) := hB.trans (belowK_b (w := w) hn1 W D _ _ (by omega) HKD.out rfl rfl)
    refine ⟨by simp, .inl ⟨_, _, rfl, run_takeDeferred HKD.out, ?_⟩⟩
    have e : kept g (upL (last + 1)) = ((List.range (last + 1)).filter g).map fun n : Nat => Value.int .i64 (n : Int) := by unfold kept; rw [upL_val]
    have el : (kept g (upL (last + 1))).length = ((List.range (last + 1)).filter g).length := by rw [e, List.length_map]
    exact ⟨_, results_tmp rfl _ _ _, ⟨_, rfl, by rw [← HNn.out, ← el, ← e]; exact hrow'⟩, by rw [← HNn.out]; exact hB'⟩
  case stop => rintro D pre W _ _ h _; exact h.elim
end Go.Proofs.Ytfcopnlpcbbocaa
/- Contracts: Read. -/
namespace Go.Proofs.Ytfcopnlpcbbocaa
open Go.RowKit

set_option maxRecDepth 100000 in
set_option maxHeartbeats 4000000 in
theorem read1_any (S : Sys) (a : Ask) (ws : List ByteArray) (n : Int) (bs ba bw sb : Nat) (vw : Value) (W : World) (hS : Right S) (ha : AskRight S (numb a n)) (hs0 : SplAt W sb S)
    (hcs : W.cell? ⟨bs, 0, none⟩ = some (.pointer (some ⟨sb, 0, none⟩))) (hca : AskAt W ba 0 a) (hcw : W.cell? ⟨bw, 0, none⟩ = some vw) (hvw : SliceV W vw 1 StrAt ws) :
    Calls Try.prog 56 #[.int .i64 n, .pointer (some ⟨bs, 0, none⟩), .pointer (some ⟨ba, 0, none⟩), .pointer (some ⟨bw, 0, none⟩)] W fun e w' => e = .returned (.bool (decide (wordsOf S (numb a n) = some ws))) ∧ Below W.heap.size W w' := by
  have HV := Lib.hid hvw
  obtain ⟨wa, wc, rfl, hwl, -⟩ := hvw
  unfold most at hwl
  have HS := Lib.hid hS
  have HA := Lib.hid ha
  have HSP := Lib.hid hs0
  obtain ⟨a0, a1, a2, a3⟩ := hca
  simp only [Nat.zero_add] at a1 a2 a3
  have hbs := cell_lt hcs
  have hba := cell_lt a0
  have hbw := cell_lt hcw
  clear hS ha hs0
  have h57 : ∀ W', Calls Try.prog 57 #[.agg #[.int .i64 a.num, .int .i64 a.set, .int .i64 a.gen, .int .i64 a.kas], .int .i64 n] W' fun e w' => e = .returned (.agg #[.int .i64 n, .int .i64 a.set, .int .i64 a.gen, .int .i64 a.kas]) ∧ Below W'.heap.size W' w' := fun W' => numbered_any a n W'
  have h48 : ∀ W', Below W.heap.size W W' → Calls Try.prog 48 #[.pointer (some ⟨sb, 0, none⟩), .agg #[.int .i64 n, .int .i64 a.set, .int .i64 a.gen, .int .i64 a.kas]] W' fun e w' => Spelled S (numb a n) e w' ∧ Below W'.heap.size W' w' := fun W' hB => spell_any S (numb a n) sb W' HS.out HA.out (HSP.out.keep hB)
  have HK1 : ∀ W', Below W.heap.size W W' → (W'.cell? ⟨bs, 0, none⟩ = some (.pointer (some ⟨sb, 0, none⟩)) ∧ W'.cell? ⟨ba, 0, none⟩ = some (.int .i64 a.num) ∧ W'.cell? ⟨ba, 1, none⟩ = some (.int .i64 a.set) ∧ W'.cell? ⟨ba, 2, none⟩ = some (.int .i64 a.gen) ∧ W'.cell? ⟨ba, 3, none⟩ = some (.int .i64 a.kas)) :=
    fun W' hB => ⟨keep hB hcs, keep hB a0, keep hB a1, keep hB a2, keep hB a3⟩
  have H57 := Lib.hid h57
  have H48 := Lib.hid h48
  have HK := Lib.hid HK1
  clear h57 h48 HK1
  go_enter Try.func56, Try.ntmps56
  go_wp2_with fail
  refine wp_opaque fun Q2 hQ2 => ?_
  go_region_held3 (fun W' => (W'.cell? ⟨bs, 0, none⟩ = some (.pointer (some ⟨sb, 0, none⟩)) ∧ W'.cell? ⟨ba, 0, none⟩ = some (.int .i64 a.num) ∧ W'.cell? ⟨ba, 1, none⟩ = some (.int .i64 a.set) ∧ W'.cell? ⟨ba, 2, none⟩ = some (.int .i64 a.gen) ∧ W'.cell? ⟨ba, 3, none⟩ = some (.int .i64 a.kas))) (((try dsimp only); exact HK.out _ (by (repeat (first | exact Below.refl _ _ | refine Below.drew ?_ | refine bThen ?_ hb4 | refine bThen ?_ hb3))))) (first | (go_at_call 57; refine (H57.out _).mono ?_; rintro e w3 ⟨rfl, hb3⟩) | (go_at_call 48; refine (H48.out _ (by (repeat (first | exact Below.refl _ _ | refine Below.drew ?_ | refine bThen ?_ hb3)))).mono ?_; rintro e w4 ⟨hsp, hb4⟩; obtain ⟨ad, k, c, t, rfl, hq⟩ := hsp.shape; clear hsp; have HQ := Lib.hid hq; clear hq))
  have HBF : Below W.heap.size W w4 := by (repeat (first | exact Below.refl _ _ | refine Below.drew ?_ | refine bThen ?_ hb4 | refine bThen ?_ hb3))
  refine hQ2 _ _ _ ?_
  have c1 := keep HBF hcw
  have hcl := cell_lt c1
  cases t
  · have hq := HQ.out.resolve_left (fun h => by cases h.1)
    have HQ2 := Lib.hid hq.2.1
    clear hq
    go_wp2_with fail
    go_ret
    exact ⟨ret_bool (by simp [HQ2.out]), HBF⟩
  · obtain ⟨-, xs, hq1, hq2⟩ := HQ.out.resolve_right (fun h => by cases h.1)
    have HQ1 := Lib.hid hq1
    have HQ2 := Lib.hid hq2
    clear hq1 hq2
    go_wp2_with (go_at_call 58; refine (Equal_any xs ws _ _ _ HQ2.out (HV.out.keep StrAt.stable HBF)).mono ?_; rintro e w5 ⟨rfl, hb5⟩)
    all_goals
      go_ret
      exact ⟨ret_bool (by simp [HQ1.out]), bThen HBF hb5⟩
end Go.Proofs.Ytfcopnlpcbbocaa
