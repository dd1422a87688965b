/- Contracts: the numbers up to one that are kept. -/
import Derived.Test.YtfcopnlpcbbocaaG2
namespace Go.Proofs.Ytfcopnlpcbbocaa
open Go.RowKit Go.Shelf
attribute [local go_sem] Oper.semAt_some

set_option maxHeartbeats 1000000 in
theorem upTo_any (last : Int) (w : World) : Calls Try.prog 55 #[.int .i64 last] w fun e w' => ∃ b, (e = .returned (.func (.func 84) #[] #[.pointer (some ⟨b, 0, none⟩)]) ∧ w'.cell? ⟨b, 0, none⟩ = some (.int .i64 last)) ∧ Below w.heap.size w w' := by
  go_enter Try.func55, Try.ntmps55
  go_wp2_with fail
  go_ret
  exact ⟨_, ⟨rfl, by simp⟩, bAlloc (Below.refl _ _) _⟩
def numb (a : Ask) (n : Int) : Ask := ⟨n, a.set, a.gen, a.kas⟩
set_option maxHeartbeats 1000000 in
theorem numbered_any (a : Ask) (n : Int) (w : World) : Calls Try.prog 57 #[a.val, .int .i64 n] w fun e w' => e = .returned (numb a n).val ∧ Below w.heap.size w w' := by
  unfold Ask.val numb
  go_enter Try.func57, Try.ntmps57
  go_wp2_with fail
  refine bodyPost_ret (by simp [results, Try.results57, go_sem]) rfl ⟨rfl, ?_⟩
  exact bAlloc (bAlloc (Below.refl _ _) _) _

theorem info3 : (Try.prog.info? 3).map (fun i => (i.zero, i.size, i.bytes)) = some (some (.int .i64 0), 1, 8) := by kernel_rfl
def kept {N : Nat} (g : Nat → Bool) (l : List (UpTo N)) : List Value := ((l.map Subtype.val).filter g).map fun n : Nat => Value.int .i64 (n : Int)
theorem kept_hit {N : Nat} {g : Nat → Bool} (l : List (UpTo N)) (x : UpTo N) (h : g x.1 = true) : kept g (l ++ [x]) = kept g l ++ [.int .i64 (x.1 : Int)] := by simp [kept, h]
theorem kept_miss {N : Nat} {g : Nat → Bool} (l : List (UpTo N)) (x : UpTo N) (h : g x.1 = false) : kept g (l ++ [x]) = kept g l := by simp [kept, h]
theorem kept_len {N : Nat} {g : Nat → Bool} (l : List (UpTo N)) : (kept g l).length ≤ l.length := by
  unfold kept
  rw [List.length_map]
  exact Nat.le_trans (List.length_filter_le _ _) (by simp)

set_option maxRecDepth 100000 in
set_option maxHeartbeats 4000000 in
theorem keep_any (last b F : Nat) (lb : Array Value) (g : Nat → Bool) (w : World) (hl : last ≤ 20000) (hc : w.cell? ⟨b, 0, none⟩ = some (.int .i64 (last : Int)))
    (hent : ∀ args w, (callFunc F args).run Try.prog w = .ok (.enter F args) w)
    (hpred : ∀ n : Nat, n ≤ last → ∀ W', Below w.heap.size w W' → Calls Try.prog F (#[.int .i64 (n : Int)] ++ lb) W' fun e w'' => e = .returned (.bool (g n)) ∧ Below W'.heap.size W' w'') :
    Calls Try.prog 54 #[.func (.func 84) #[] #[.pointer (some ⟨b, 0, none⟩)], .func (.func F) #[] lb] w fun e w' =>
      (∃ v, e = .returned v ∧ w'.ownsRow w.heap.size 3 1 v (((List.range (last + 1)).filter g).length) (((List.range (last + 1)).filter g).map fun n : Nat => Value.int .i64 (n : Int))) ∧ Below w.heap.size w w' := by
  have HPR := Lib.hid hpred
  obtain ⟨i0, hi, hz0, hz1, hz2⟩ := info_parts info3
  have HI := Lib.hid hi
  refine (callsIn_wide (n := 6)).1 ?_
  refine callsIn_of_wp_marks Try.func54 rfl trivial ?_ rfl
  simp only [Try.ntmps54, List.size_toArray, List.length_cons, List.length_nil, Nat.reduceAdd, Nat.reduceSub, Array.replicate_succ, Array.replicate_zero, List.push_toArray, List.append_toArray, List.nil_append, List.cons_append]
  clear hpred hi
  gi_wp2
  obtain ⟨n, hn⟩ : ∃ n, n = w.heap.size := ⟨_, rfl⟩
  rw [← hn]
  generalize hW4 : World.alloc _ _ = W4
  have hB4 : Below w.heap.size w W4 := by rw [← hW4]; exact bAlloc (bAlloc (Below.refl _ _) _) _
  have b3 : Boxed W4 n 115 (.func (.func F) #[] lb) := by rw [← hW4, hn]; exact (Boxed.new _ _ _).alloc _
  have b5 : Boxed W4 (n + 1) 63 (.slice none 0 0) := by
    rw [← hW4, hn]; have := Boxed.new (w.alloc (.cells #[.func (.func F) #[] lb] 115)) 63 (.slice none 0 0); simpa using this
  have hsz : W4.heap.size = n + 2 := by rw [← hW4, hn]; simp
  clear hW4
  have hn1 : n ≤ w.heap.size := by omega
  have hn2 : w.heap.size ≤ n := by omega
  have hz1' : W4.heap.size ≤ n + 2 := by omega
  have hz2' : n + 2 ≤ W4.heap.size := by omega
  have HB0 : Below n w W4 := by rw [hn]; exact hB4
  have HNn := Lib.hid hn
  clear hn hsz
  refine wpIn_range_kept (P := Try.prog) (n := 6) (by omega) (gf := 84) (lb := #[.pointer (some ⟨b, 0, none⟩)]) rfl (enters_of Try.func84 (by kernel_rfl) rfl)
    (upTo1_says 5 last b (fun _ _ => True) W4 hl (keep hB4 hc)) (fun _ _ => trivial) (fun _ _ _ _ _ _ _ _ => trivial) (Below.refl _ _) (fun _ => rfl)
    (fun pre W => (∃ v, Boxed W (n + 1) 63 v ∧ W.ownsRow n 3 1 v (kept g pre).length (kept g pre) ∧ True) ∧ Boxed W n 115 (.func (.func F) #[] lb) ∧ Below n w W)
    (fun _ _ => False)
    ?hI ?hIx ?h0
    (fun x a' _ => a' = { tmps := #[.func (.func 84) #[] #[.pointer (some ⟨b, 0, none⟩)], .func (.func F) #[] lb, undef, .pointer (some ⟨n, 0, none⟩), .slice none 0 0, .pointer (some ⟨n + 1, 0, none⟩), .int .i64 (x.1 : Int), .func (.func 84) #[] #[.pointer (some ⟨b, 0, none⟩)], .int .i64 (x.1 : Int), undef, undef, undef, undef, undef, undef, undef, undef], defers := [] })
    ?hAx ?assign ?body ?done ?stop
  case hI =>
    refine OwnFrom.and (Own.from (holdsRow_own n (n + 1) 63 3 1 (fun pre : List (UpTo (last + 1)) => (kept g pre).length) (fun pre => kept g pre) (fun _ _ => True)) _) ?_
    exact OwnFrom.and (Own.from (boxed_own _ _ _) _) (ownFrom_below (by omega) (by omega))
  case hIx => exact fun _ _ _ _ hs _ _ => hs
  case h0 => exact ⟨⟨_, b5, World.ownsRow_nil _ _ _ _, trivial⟩, b3, HB0⟩
  case hAx => exact fun _ _ _ _ _ _ hs _ _ => hs
  case assign =>
    rintro l pre x W K hi hK
    gi_wp2
    exact hK _ _ (KeepsFrom.refl _ _) trivial hi rfl
  case body =>
    rintro l pre x a' W ⟨⟨v, v5, hrow, -⟩, v3, hB⟩ rfl hlen
    obtain ⟨x, hx⟩ := x
    simp only
    have hBw : Below w.heap.size w W := hB.mono hn2
    have hcall := HPR.out x (by omega) W hBw
    have c3 := v3.cell
    have HC := Lib.hid hcall
    have HLEN : (kept g pre).length ≤ 20001 := Nat.le_trans (kept_len pre) (by rw [upL_length] at hlen; omega)
    have HV3 := Lib.hid v3
    have HV5 := Lib.hid v5
    have HRW := Lib.hid hrow
    have HBX := Lib.hid hB
    clear hcall v3 v5 hrow hB
    cases hg : g x
    · gi_wp2_with (refine ⟨trivial, ?_⟩; refine (CallsIn.inRound l (callsIn_wide.2 HC.out)).mono ?_; rintro e w1 ⟨rfl, hb'⟩)
      exact ⟨(others_below hb').from _, trivial, ⟨v, heap_keep hb' HV5.out, by rw [kept_miss pre ⟨x, hx⟩ hg]; exact ownsRow_below HRW.out hb', trivial⟩, heap_keep hb' HV3.out, HBX.out.trans (hb'.mono (by have := hBw.size; omega))⟩
    · have hs5 := HV5.out.lt
      have hlw : n ≤ W.heap.size := by omega
      have HX := Lib.hid hg
      gi_wp2_with (first
        | (refine ⟨trivial, ?_⟩; refine (CallsIn.inRound l (callsIn_wide.2 HC.out)).mono ?_; rintro e w1 ⟨rfl, hb'⟩; have HB1 := Lib.hid hb'; have hv6 : Boxed w1 (n + 1) 63 v := heap_keep hb' HV5.out; have c6 := hv6.cell; have hl6 := hv6.lt; have hrow1 := Lib.hid (ownsRow_below HRW.out hb'); have HV6 := Lib.hid hv6; clear hv6 hb')
        | (gi_at_builtin; refine wpListIn_append_own _ rfl _ _ 63 rfl n 3 i0 (.int .i64 0) 1 8 Try.underlying63 HI.out hz0 hz1 hz2 rfl (by decide) v (kept g pre).length (kept g pre) rfl (hrow1.out.alloc _) ⟨w1.heap.size, 0, none⟩ 1 1 [.int .i64 (x : Int)] rfl rfl (cell_one_new _ _ _) (by simp [Value.oneCell']) (by unfold maxLen; omega) (by omega) (by simp; omega) ?_; intro v' w2 hown' hgrow _; obtain ⟨g', cap', rfl⟩ := ownsRow_succ hown'; obtain ⟨hv1, hv2, hr2, hk2, hb2⟩ := Boxed.appended HV6.out (by decide) hrow1.out (by omega) (by omega) hown' hgrow; have hc1 := hv1.cell; have hf1 := hv1.frozen; have HU := Lib.hid (And.intro (And.intro hown' hgrow) (And.intro hv2 (And.intro hr2 (And.intro hk2 hb2)))); clear hown' hgrow hv1 hv2 hr2 hk2 hb2))
      obtain ⟨⟨hown', hgrow⟩, hv2, hr2, hk2, hb2⟩ := HU.out
      exact ⟨((others_below HB1.out).trans hk2).from _, trivial, ⟨_, hv2, by rw [kept_hit pre ⟨x, hx⟩ HX.out]; simpa using hr2, trivial⟩, Boxed.past (heap_keep HB1.out HV3.out) (by decide) hrow1.out hgrow (by omega) _, HBX.out.trans ((HB1.out.mono hlw).trans hb2)⟩
  case done =>
    rintro D W hD ⟨⟨v, v5, hrow, -⟩, v3, hB⟩ hK
    obtain ⟨ad, cap, rfl⟩ := ownsRow_slice hrow
    have c5 := v5.cell
    have HRW := Lib.hid hrow
    have HKD := Lib.hid hK
    clear v3 v5 hrow hK
    gi_wp2
    have hrow' := ownsRow_putObj HRW.out (.deferred none) HKD.out rfl
    have hB' : Below n w (W.putObj D (.deferred none)) := hB.trans (belowK_b (w := w) hn1 W D _ _ (by omega) HKD.out rfl rfl)
    refine ⟨by simp, .inl ⟨_, _, rfl, run_takeDeferred HKD.out, ?_⟩⟩
    have e : kept g (upL (last + 1)) = ((List.range (last + 1)).filter g).map fun n : Nat => Value.int .i64 (n : Int) := by unfold kept; rw [upL_val]
    have el : (kept g (upL (last + 1))).length = ((List.range (last + 1)).filter g).length := by rw [e, List.length_map]
    exact ⟨_, results_tmp rfl _ _ _, ⟨_, rfl, by rw [← HNn.out, ← el, ← e]; exact hrow'⟩, by rw [← HNn.out]; exact hB'⟩
  case stop => rintro D pre W _ _ h _; exact h.elim
end Go.Proofs.Ytfcopnlpcbbocaa
