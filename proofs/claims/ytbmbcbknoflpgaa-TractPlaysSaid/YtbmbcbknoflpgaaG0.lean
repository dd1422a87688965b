/- Rows of one's own: made, laid, appended to, cloned; what grows in one block. -/
import Derived.Test.YtbmbcbknoflpgaaA1
import Derived.Deep.OwnRows
import Derived.Deep.RegionHeld3
import Derived.Deep.AppendLies
import Derived.Deep.AppendSrc
import Derived.Deep.Upon
import Derived.Lib.SliceRun
set_option linter.unusedSimpArgs false
set_option linter.unusedVariables false
namespace Go.Proofs.Ytbmbcbknoflpgaa
open Go.RowKit

theorem info_parts {t : TypeId} {z : Option Value} {s b : Nat} (h : (Try.prog.info? t).map (fun i => (i.zero, i.size, i.bytes)) = some (z, s, b)) : ∃ i, Try.prog.info? t = some i ∧ i.zero = z ∧ i.size = s ∧ i.bytes = b := by
  cases hi : Try.prog.info? t with
  | none => rw [hi] at h; cases h
  | some i =>
    rw [hi] at h
    simp only [Option.map_some, Option.some.injEq, Prod.mk.injEq] at h
    exact ⟨i, rfl, h.1, h.2.1, h.2.2⟩
theorem infoI : (Try.prog.info? 3).map (fun i => (i.zero, i.size, i.bytes)) = some (some (.int .i64 0), 1, 8) := by kernel_rfl
theorem makeI (n : Nat) (hn : n ≤ 1000000) (W : World) : (Instr.makeSlice 22 (.int .i64 (n : Int)) (.int .i64 (n : Int))).run Try.prog W = .ok (.slice (some ⟨W.heap.size, 0, none⟩) n n) (W.alloc (.cells (madeCells #[Value.int .i64 0] n) 3)) := by
  obtain ⟨i3, hi3, hz3, hs3, hb3⟩ := info_parts infoI
  have h := run_makeSlice (P := Try.prog) (w := W) 22 3 i3 _ Try.underlying22 hi3 hz3 .i64 .i64 (n : Int) (n : Int) (by omega) (by omega) (by rw [hs3]; omega) (by rw [hb3]; omega) (by omega)
  rw [hs3] at h
  simpa [Value.cells] using h
/-- A row of ints of one's own, as a slice. -/
theorem row_slice {w : World} {g n : Nat} {f : Nat → Value} {xs : List Int} (h : w.rowIs g 3 n f) (hl : xs.length = n) (hf : ∀ i (hi : i < xs.length), f i = .int .i64 xs[i]) (hm : n ≤ most) : SliceV w (.slice (some ⟨g, 0, none⟩) n n) 1 IntAt xs := by
  subst hl
  refine ⟨_, xs.length, rfl, ⟨hm, Nat.le_refl _⟩, .inr ⟨g, 0, rfl, fun i hi => ?_⟩⟩
  have := h.cell (i := i) hi
  rw [hf i hi] at this
  show w.cell? ⟨g, 0 + i * 1, none⟩ = _
  simpa using this
/-- A part of a slice of ints. -/
theorem SliceV.part {w : World} {b o n c : Nat} {xs : List Int} (h : SliceV w (.slice (some ⟨b, o, none⟩) n c) 1 IntAt xs) (i m c' : Nat) (hi : i + m ≤ xs.length) (hc : m ≤ c') : SliceV w (.slice (some ⟨b, o + i, none⟩) m c') 1 IntAt ((xs.drop i).take m) := by
  obtain ⟨a, c0, hv, hl, hx⟩ := h
  obtain ⟨ha, rfl, rfl⟩ := Value.slice.inj hv
  have hlen : ((xs.drop i).take m).length = m := by simp; omega
  refine ⟨_, c', by rw [hlen], by rw [hlen]; omega, ?_⟩
  rcases hx with hx | ⟨b', o', hb, hf⟩
  · left; subst hx; simp
  · right
    rw [hb] at ha
    obtain ⟨rfl, rfl⟩ : b = b' ∧ o = o' := by simpa using ha
    refine ⟨b, o + i, rfl, fun j hj => ?_⟩
    have := hf (i + j) (by omega)
    simp only [List.getElem_take, List.getElem_drop]
    unfold IntAt at this ⊢
    rw [Nat.mul_one] at this ⊢
    rw [show o + i + j = o + (i + j) by omega]
    exact this
/-- The end of a slice of ints: where nothing of its room is left, the address stays. -/
theorem SliceV.from {w : World} {b o n c : Nat} {xs : List Int} (h : SliceV w (.slice (some ⟨b, o, none⟩) n c) 1 IntAt xs) (i : Nat) (hi : i ≤ n) : SliceV w (.slice (if c = i then some ⟨b, o, none⟩ else some ⟨b, o + i, none⟩) (n - i) (c - i)) 1 IntAt (xs.drop i) := by
  have hn := h.len
  subst hn
  have hlc : xs.length ≤ c := by
    obtain ⟨a, c', hv, hl, -⟩ := id h
    obtain ⟨-, -, rfl⟩ := Value.slice.inj hv
    exact hl.2
  by_cases hc : c = i
  · rw [if_pos hc]
    have h0 : xs.length - i = 0 := by omega
    rw [List.drop_eq_nil_of_le (by omega), h0]
    exact ⟨_, _, rfl, ⟨Nat.zero_le _, Nat.zero_le _⟩, .inl rfl⟩
  · rw [if_neg hc]
    have := h.part i (xs.length - i) (c - i) (by omega) (by omega)
    rwa [List.take_of_length_le (by simp)] at this
theorem gI {l : List Int} {k : Nat} (h : k < l.length) : l.getD k 0 = l[k] := by rw [List.getD_eq_getElem?_getD, List.getElem?_eq_getElem h]; rfl
def intV (l : List Int) : List Value := l.map (Value.int .i64)
theorem intV_append (l m : List Int) : intV (l ++ m) = intV l ++ intV m := by simp [intV]
theorem intV_len (l : List Int) : (intV l).length = l.length := by simp [intV]
theorem heap_keep {w w' : World} (hB : Below w.heap.size w w') {r : Nat} {o : Obj} (h : w.heap[r]? = some o) : w'.heap[r]? = some o :=
  (hB.block r (Array.getElem?_eq_some_iff.1 h).1).trans h
theorem grown_of_below {A B : World} (h : Below A.heap.size A B) : A.grownBy B none :=
  ⟨h.os, h.tape, h.output, h.size, fun k hk _ => h.block k hk⟩
theorem ownsRow_slice {W : World} {base e size k : Nat} {v : Value} {xs : List Value} (h : W.ownsRow base e size v k xs) : ∃ ad cap, v = .slice ad k cap := by
  rcases h.2 with ⟨rfl, rfl⟩ | ⟨g, cap, cur, rfl, _⟩
  · exact ⟨_, _, rfl⟩
  · exact ⟨_, _, rfl⟩
theorem ownsRow_below {W W' : World} {base e size k : Nat} {v : Value} {xs : List Value} (h : W.ownsRow base e size v k xs) (hB : Below W.heap.size W W') : W'.ownsRow base e size v k xs := by
  refine h.kept (grown_of_below hB) ?_
  rcases h.2 with ⟨rfl, _⟩ | ⟨g, cap, cur, rfl, _⟩
  · exact .inl rfl
  · exact .inr (by simp [Value.ownBlock])
theorem below_grown {W W' : World} {n e size k : Nat} {v : Value} {xs : List Value} (hg : W.grownBy W' v.ownBlock) (hrow : W.ownsRow n e size v k xs) (hn : n ≤ W.heap.size) : Below n W W' :=
  (Below.refl n W).grown hg hn (fun j ej => by
    rcases hrow.2 with ⟨rfl, _⟩ | ⟨g, cap, cur, rfl, hb, _, _⟩
    · simp [Value.ownBlock] at ej
    · obtain rfl : g = j := by simpa [Value.ownBlock] using ej
      exact hb)
/-- A row of ints of one's own reads as a slice. -/
theorem own_slice {W : World} {base : Nat} {v : Value} {l : List Int} (h : W.ownsRow base 3 1 v l.length (intV l)) (hl : l.length ≤ 1000000) : SliceV W v 1 IntAt l := by
  rcases h.2 with ⟨rfl, h0⟩ | ⟨g, cap, cur, rfl, _, hb, hc, _, _, hx⟩
  · exact ⟨none, 0, by rw [h0], by rw [h0]; exact ⟨Nat.zero_le _, Nat.zero_le _⟩, .inl (List.eq_nil_of_length_eq_zero h0)⟩
  · refine ⟨_, cap, rfl, ⟨by unfold most; omega, hc⟩, .inr ⟨g, 0, rfl, fun i hi => ?_⟩⟩
    have h1 : (intV l)[i]? = some (.int .i64 l[i]) := by simp [intV, hi]
    rw [← hx, Nat.mul_one, List.getElem?_take, if_pos hi] at h1
    show W.cell? ⟨g, 0 + i * 1, none⟩ = _
    simp only [World.cell?, hb]
    simpa using h1
theorem own_nil (W : World) (base : Nat) : W.ownsRow base 3 1 (.slice none 0 0) ([] : List Int).length (intV []) := World.ownsRow_nil _ _ _ _
theorem one_new (w : World) (x : Value) (t : Nat) : ∀ (j : Nat) (u : Value), [x][j]? = some u → (w.alloc (.cells #[x] t)).cell? ((⟨w.heap.size, 0, none⟩ : Addr).add j) = some u :=
  World.news_of_block (World.alloc_heap_new w (.cells #[x] t))
theorem ints_news {W : World} {b o : Nat} {l : List Int} (h : ∀ i (hi : i < l.length), IntAt W b (o + i * 1) l[i]) : ∀ (j : Nat) (v : Value), (intV l)[j]? = some v → W.cell? ((⟨b, o, none⟩ : Addr).add j) = some v := by
  intro j v hv
  have hj : j < l.length := by
    by_cases hj : j < l.length
    · exact hj
    · rw [List.getElem?_eq_none (by rw [intV_len]; omega)] at hv; cases hv
  have := h j hj
  unfold IntAt at this
  rw [Nat.mul_one] at this
  have e : v = .int .i64 l[j] := by simp [intV, hj] at hv; exact hv.symm
  have ea : (⟨b, o, none⟩ : Addr).add j = ⟨b, o + j, none⟩ := by unfold Addr.add; split <;> simp_all
  rw [e, ea]; exact this
theorem ints_one (l : List Int) : ∀ v ∈ intV l, v.oneCell' = true := by
  intro v hv
  obtain ⟨x, _, rfl⟩ := List.mem_map.1 hv
  rfl
theorem intV_get {l : List Int} {j : Nat} (h : j < (intV l).length) : (intV l)[j]? = some (.int .i64 (l.getD j 0)) := by
  rw [intV_len] at h
  rw [gI h]; simp [intV, h]
theorem run_append_zero (w : World) (base : Nat) (v : Value) (n : Nat) (xs : List Value) (hown : w.ownsRow base 3 1 v n xs) (ad : Option Addr) (c : Nat) (ty : TypeId) :
    (Builtin.append_ #[22, 22] ty #[v, .slice ad 0 c]).run Try.prog w = .ok v w := by
  obtain ⟨i3, hi, hz0, hz1, hz2⟩ := info_parts infoI
  have hsrc : Src Try.prog i3.size 22 (.slice ad 0 c) 0 [] w := by
    cases ad with
    | none => exact Src.ofNil w Try.underlying22 c
    | some a => exact Src.ofSlice w Try.underlying22 a 0 c [] (by simp) (fun j u h => by simp at h) (by simp)
  rcases hown.2 with ⟨rfl, rfl⟩ | ⟨g, cap, cur, rfl, _, _, hc, _⟩
  · exact run_append_nothing w 22 22 ty 3 i3 Try.underlying22 hi none 0 0 (Nat.le_refl _) _ hsrc
  · exact run_append_nothing w 22 22 ty 3 i3 Try.underlying22 hi (some ⟨g, 0, none⟩) n cap hc _ hsrc
/-- What is asked of the slice that is appended. -/
def SrcI (w : World) (ad : Option Addr) (news : List Int) : Prop := news = [] ∨ ∃ a, ad = some a ∧ ∀ (j : Nat) (u : Value), (intV news)[j]? = some u → w.cell? (a.add j) = some u
theorem src_of {w : World} {ad : Option Addr} {n c : Nat} {l : List Int} (h : SliceV w (.slice ad n c) 1 IntAt l) : SrcI w ad l := by
  obtain ⟨a, c', hv, -, hx⟩ := h
  obtain ⟨rfl, -, -⟩ := Value.slice.inj hv
  rcases hx with hx | ⟨b, o, rfl, hf⟩
  · exact .inl hx
  · exact .inr ⟨_, rfl, ints_news hf⟩
theorem wpList_append_ints {w : World} {ops : Array Oper} {rest : List Oper} {o : Oper} {a : Act} {Q : Exit → Act → World → Prop} (hgd : o.guard = none) (s x : Operand)
    (ho : o.op = .call { callee := .builtin .append, args := #[s, x], argTypes := #[22, 22] })
    (base : Nat) (v : Value) (n : Nat) (xs : List Int) (hs : a.eval s = v) (hown : w.ownsRow base 3 1 v n (intV xs))
    (ad : Option Addr) (m c : Nat) (news : List Int) (hx : a.eval x = .slice ad m c) (hl : news.length = m) (hsrc : SrcI w ad news) (h63 : n + m ≤ 10000000) (hbase : base ≤ w.heap.size)
    (h : ∀ v' w', w'.ownsRow base 3 1 v' (n + m) (intV (xs ++ news)) → Below base w w' → wpList Try.prog ops Q rest (a.put o.dst v') w') : wpList Try.prog ops Q (o :: rest) a w := by
  by_cases h0 : m = 0
  · subst h0
    obtain rfl : news = [] := List.eq_nil_of_length_eq_zero hl
    refine wpList_plain hgd fun K hK => ?_
    have hrun := run_append_zero w base v n _ hown ad c o.type
    unfold Oper.wp
    simp [execOp, ho, resolve, invoke, builtin, hs, hx, hrun, Result.andThen]
    exact hK _ _ (h v w (by simpa using hown) (Below.refl _ _))
  · obtain ⟨i3, hi, hz0, hz1, hz2⟩ := info_parts infoI
    have hne : news ≠ [] := by intro e; rw [e] at hl; simp at hl; omega
    obtain ⟨a', rfl, hn⟩ := hsrc.resolve_left hne
    refine wpList_append_lies w hgd s x 22 ho base 3 i3 _ 1 8 Try.underlying22 hi hz0 hz1 hz2 rfl (by decide) v n (intV xs) hs hown a' m c (intV news) hx (by rw [intV_len, hl]; omega) hn (ints_one _) (by omega) (by unfold maxLen; omega) (by omega) hbase w.heap.size rfl ?_
    intro g cap w' h1 h2 _ _
    exact h _ w' (by rw [intV_append]; exact h1) (below_grown h2 hown hbase)
theorem step_append_ints {w : World} {ops : Array Oper} {o : Oper} {a : Act} {K : Act → World → Prop} {Q : Exit → Act → World → Prop} {E : Prop} (hgd : o.guard = none) (s x : Operand)
    (ho : o.op = .call { callee := .builtin .append, args := #[s, x], argTypes := #[22, 22] })
    (base : Nat) (v : Value) (n : Nat) (xs : List Int) (hs : a.eval s = v) (hown : w.ownsRow base 3 1 v n (intV xs))
    (ad : Option Addr) (m c : Nat) (news : List Int) (hx : a.eval x = .slice ad m c) (hl : news.length = m) (hsrc : SrcI w ad news) (h63 : n + m ≤ 10000000) (hbase : base ≤ w.heap.size)
    (h : ∀ v' w', w'.ownsRow base 3 1 v' (n + m) (intV (xs ++ news)) → Below base w w' → K (a.put o.dst v') w') :
    if Region.wanted o (yielded ops a.tmps) = true then Oper.wp Try.prog o a w K Q else E := by
  by_cases h0 : m = 0
  · subst h0
    obtain rfl : news = [] := List.eq_nil_of_length_eq_zero hl
    have hw : Region.wanted o (yielded ops a.tmps) = true := by simp [Region.wanted, hgd]
    rw [if_pos hw]
    have hrun := run_append_zero w base v n _ hown ad c o.type
    unfold Oper.wp
    simp [execOp, ho, resolve, invoke, builtin, hs, hx, hrun, Result.andThen]
    exact h v w (by simpa using hown) (Below.refl _ _)
  · obtain ⟨i3, hi, hz0, hz1, hz2⟩ := info_parts infoI
    have hne : news ≠ [] := by intro e; rw [e] at hl; simp at hl; omega
    obtain ⟨a', rfl, hn⟩ := hsrc.resolve_left hne
    refine step_append_lies w hgd s x 22 ho base 3 i3 _ 1 8 Try.underlying22 hi hz0 hz1 hz2 rfl (by decide) v n (intV xs) hs hown a' m c (intV news) hx (by rw [intV_len, hl]; omega) hn (ints_one _) (by omega) (by unfold maxLen; omega) (by omega) hbase w.heap.size rfl ?_
    intro g cap w' h1 h2 _ _
    exact h _ w' (by rw [intV_append]; exact h1) (below_grown h2 hown hbase)
theorem gb_trans {A B C : World} {r : Option Nat} (h : A.grownBy B r) (k : B.grownBy C r) : A.grownBy C r :=
  ⟨k.os.trans h.os, k.tape.trans h.tape, k.output.trans h.output, Nat.le_trans h.size k.size, fun i hi hr => (k.block i (Nat.lt_of_lt_of_le hi h.size) hr).trans (h.block i hi hr)⟩
theorem gb_refl (A : World) (r : Option Nat) : A.grownBy A r := ⟨rfl, rfl, rfl, Nat.le_refl _, fun _ _ _ => rfl⟩
theorem gb_below {A B : World} (h : Below A.heap.size A B) (r : Option Nat) : A.grownBy B r := ⟨h.os, h.tape, h.output, h.size, fun k hk _ => h.block k hk⟩
theorem gb_set (A : World) (g o : Nat) (v : Value) : A.grownBy (A.setCell ⟨g, o, none⟩ v) (some g) :=
  ⟨rfl, rfl, rfl, by simp [World.setCell], fun k _ hk => Below.heap_setCell _ _ _ k (fun e => hk (by rw [e]))⟩
theorem gb_low {A B : World} {g n : Nat} (h : A.grownBy B (some g)) (hn : n ≤ A.heap.size) (hg : n ≤ g) : Below n A B :=
  ⟨h.os, h.tape, h.output, h.size, fun k hk => h.block k (by omega) (fun e => by cases e; omega)⟩
theorem gb_heap {A B : World} {g k : Nat} {o : Obj} (h : A.grownBy B (some g)) (hk : A.heap[k]? = some o) (hne : k ≠ g) : B.heap[k]? = some o :=
  (h.block k (Array.getElem?_eq_some_iff.1 hk).1 (fun e => hne (by cases e; rfl))).trans hk
theorem own_rowR {W : World} {base : Nat} {v : Value} {l : List Int} (h : W.ownsRow base 3 1 v l.length (intV l)) (hne : l ≠ []) :
    ∃ (g cap : Nat) (z : Nat → Value), v = .slice (some ⟨g, 0, none⟩) l.length cap ∧ base ≤ g ∧ l.length ≤ cap ∧ W.rowIs g 3 cap (fun j => if j < l.length then .int .i64 (l.getD j 0) else z j) := by
  rcases h.2 with ⟨_, h0⟩ | ⟨g, cap, cur, rfl, hg, hb, hc, _, hs, hx⟩
  · exact absurd (List.eq_nil_of_length_eq_zero h0) hne
  · refine ⟨g, cap, fun j => cur[j]?.getD undef, rfl, hg, hc, cur, hb, by omega, fun i hi => ?_⟩
    have hi2 : i < cur.size := by omega
    show cur[i]? = some (if i < l.length then .int .i64 (l.getD i 0) else cur[i]?.getD undef)
    by_cases h1 : i < l.length
    · have h2 : (intV l)[i]? = some (.int .i64 l[i]) := by simp [intV, h1]
      rw [← hx, Nat.mul_one, List.getElem?_take, if_pos h1] at h2
      rw [if_pos h1, gI h1]
      simpa using h2
    · rw [if_neg h1, Array.getElem?_eq_getElem hi2]
      rfl
set_option maxRecDepth 10000 in
set_option maxHeartbeats 4000000 in
theorem CloneR_any (l : List Int) (v : Value) (w : World) (hv : SliceV w v 1 IntAt l) (hn : l.length ≤ 200000) (hne : l ≠ []) :
    Calls Try.prog 57 #[v] w fun e w' => (∃ (g cap : Nat) (z : Nat → Value), e = .returned (.slice (some ⟨g, 0, none⟩) l.length cap) ∧ w.heap.size ≤ g ∧ l.length ≤ cap ∧ w'.rowIs g 3 cap (fun j => if j < l.length then .int .i64 (l.getD j 0) else z j)) ∧ Below w.heap.size w w' := by
  have HV := Lib.hid hv
  have HNE := Lib.hid hne
  have HS : Hid (∀ ad n c, v = .slice ad n c → SrcI w ad l) := Lib.hid (fun ad n c h => by rw [h] at hv; exact src_of hv)
  obtain ⟨ad, c, rfl, hl, hx⟩ := hv
  cases ad with
  | none =>
    have h0 : l = [] := by
      rcases hx with h | ⟨b, o, h, -⟩
      · exact h
      · cases h
    exact absurd h0 HNE.out
  | some a =>
    clear hx
    have HSRC := Lib.hid (HS.out _ _ _ rfl)
    have HL : Hid (l.length = l.length) := Lib.hid rfl
    obtain ⟨m, hm⟩ : ∃ m, l.length = m := ⟨_, rfl⟩
    have HM := Lib.hid hm
    rw [hm] at hn hl HV ⊢
    clear hm HS HL
    have q := Lib.run_eql_slice_nil (P := Try.prog) w 22 3 (some a) m c 0 0 Try.underlying22
    simp only [Option.isNone_none, Option.isNone_some] at q
    go_enter Try.func57, Try.ntmps57
    have hlit : (w.alloc (.cells #[] 3)).ownsRow w.heap.size 3 1 (.slice (some ⟨w.heap.size, 0, none⟩) 0 0) 0 (intV []) := World.ownsRow_lit w #[] 0 (Nat.le_refl _) (by decide) (by rfl)
    have HL := Lib.hid hlit
    clear hlit
    have HSR2 : Hid (SrcI (w.alloc (.cells #[] 3)) (some a) l) := Lib.hid (src_of (HV.out.keep IntAt.stable (bAlloc (Below.refl _ _) _)))
    go_wp2_with (at_builtin; refine wpList_append_ints rfl _ _ rfl w.heap.size (.slice (some ⟨w.heap.size, 0, none⟩) 0 0) 0 [] (by rfl) HL.out (some a) m c l (by rfl) HM.out HSR2.out (by omega) (by simp) ?_; intro v1 w1 hown1 hb1)
    have HO1 : Hid (w1.ownsRow w.heap.size 3 1 v1 l.length (intV l)) := Lib.hid (by rw [HM.out]; simpa using hown1)
    have HB1 := Lib.hid ((bAlloc (Below.refl w.heap.size w) _).trans hb1)
    obtain ⟨ad1, cap1, rfl⟩ := ownsRow_slice hown1
    clear hown1 hb1
    go_ret
    obtain ⟨g, cap, z, hv1, hg1, hc1, hr1⟩ := own_rowR HO1.out HNE.out
    exact ⟨⟨g, cap, z, by have h5 := hv1; rw [HM.out] at h5; rw [← h5]; rfl, hg1, by rw [← HM.out]; exact hc1, by rw [← HM.out]; exact hr1⟩, HB1.out⟩
end Go.Proofs.Ytbmbcbknoflpgaa
