/- Contracts: the words of a number, collected. -/
import Derived.Test.YtfcopnlpcbbocaaF1
import Derived.Maps.AppendAt
import Derived.Shelf.RegionOpen
import Derived.LoopNIn
import Derived.LoopIn
import Derived.Shelf.Abstract
set_option linter.unusedSimpArgs false
set_option linter.unusedVariables false
namespace Go.Proofs.Ytfcopnlpcbbocaa
open Go.RowKit Go.Shelf
attribute [local go_sem] Oper.semAt_some

theorem info9 : (Try.prog.info? 9).map (fun i => (i.zero, i.size, i.bytes)) = some (some (.string ByteArray.empty), 1, 16) := by kernel_rfl

/-- What a slice of one's own holds, grown by an append, and a box stored: what a round keeps. -/
theorem Kp.appended {n B t e : Nat} {own : Nat → Bool} {W w1 : World} {size k : Nat} {v v' : Value} {xs : List Value} {tmp : Obj} (hv : Boxed W B t v) (hrow : W.ownsRow n e size v k xs) (ht : own t = true) (he : own e = true)
    (hgrow : (W.alloc tmp).grownBy w1 v.ownBlock) (hlow : Below n W (w1.setCell ⟨B, 0, none⟩ v')) : Kp n own W (w1.setCell ⟨B, 0, none⟩ v') := by
  refine ⟨hlow, fun j c t' fr hj ho => ?_⟩
  have hlt : j < W.heap.size := (Array.getElem?_eq_some_iff.1 hj).1
  have hB : j ≠ B := by
    rintro rfl
    rw [show W.heap[j]? = _ from hv] at hj
    cases hj
    rw [ht] at ho; cases ho
  have hr : some j ≠ v.ownBlock := by
    rcases hrow.2 with ⟨rfl, _⟩ | ⟨g, cap, cur, rfl, _, hgb, _⟩
    · simp [Value.ownBlock]
    · intro e'
      obtain rfl : j = g := by simpa [Value.ownBlock] using e'
      rw [hgb] at hj; cases hj
      rw [he] at ho; cases ho
  rw [Below.heap_setCell _ _ _ _ hB, hgrow.block j (by simp; omega) hr, Below.heap_alloc _ _ _ hlt]
  exact hj

theorem Kp.mono {n m : Nat} {own : Nat → Bool} {W W' : World} (h : Kp n own W W') (hm : m ≤ n) : Kp m own W W' := ⟨h.low.mono hm, h.cells⟩
theorem Kp.putObj {n : Nat} {own : Nat → Bool} (W : World) (l : Nat) (o o' : Obj) (hn : n ≤ l) (h : W.heap[l]? = some o) (ho : o.isCells = false) : Kp n own W (W.putObj l o') := by
  refine ⟨(Below.refl n W).grown (grownBy_putObj' W l o') (by have := (Array.getElem?_eq_some_iff.1 h).1; omega) (fun k e => by cases e; omega), fun j c t fr hj _ => ?_⟩
  have : j ≠ l := by
    rintro rfl
    rw [h] at hj; cases hj; cases ho
  rw [World.putObj_heap_other this]; exact hj
theorem Kp.setCell {n B t : Nat} {own : Nat → Bool} {W : World} {v : Value} (hv : Boxed W B t v) (ht : own t = true) (hn : n ≤ B) (v' : Value) : Kp n own W (W.setCell ⟨B, 0, none⟩ v') := by
  refine ⟨(Below.refl n W).setCell (p := ⟨B, 0, none⟩) hn _, fun j c t' fr hj ho => ?_⟩
  have hB : j ≠ B := by
    rintro rfl
    rw [show W.heap[j]? = _ from hv] at hj
    cases hj
    rw [ht] at ho; cases ho
  rw [Below.heap_setCell _ _ _ _ hB]; exact hj
/-- The box of a word, while a round lasts. -/
def WordAt (W : World) (b : Nat) (x : Said) : Prop := W.heap[b]? = some (.cells #[.string x.txt, .int .i64 x.num, .int .i64 x.set, .int .i64 x.rule, .int .i64 x.piece, .int .i64 x.depth] 50 (0, 0))

theorem all_prefix {pre xs : List Item} (h : pre <+: xs) (hp : pre.all Prod.snd = false) : xs.all Prod.snd = false := by
  obtain ⟨t, rfl⟩ := h
  simp [List.all_append, hp]
def ownText (t : Nat) : Bool := t == 37 || t == 4 || t == 9
def texts (l : List Item) : List Value := l.map fun x => .string x.1.txt

theorem ownsRow_slice {W : World} {base e size k : Nat} {v : Value} {xs : List Value} (h : W.ownsRow base e size v k xs) : ∃ ad cap, v = .slice ad k cap := by
  rcases h.2 with ⟨rfl, rfl⟩ | ⟨g, cap, cur, rfl, _⟩
  · exact ⟨_, _, rfl⟩
  · exact ⟨_, _, rfl⟩
/-- What lay before lies on. -/
theorem ownsRow_below {W W' : World} {base e size k : Nat} {v : Value} {xs : List Value} (h : W.ownsRow base e size v k xs) (hB : Below W.heap.size W W') : W'.ownsRow base e size v k xs := by
  refine h.kept (grown_of_below hB) ?_
  rcases h.2 with ⟨rfl, _⟩ | ⟨g, cap, cur, rfl, _⟩
  · exact .inl rfl
  · exact .inr (by simp [Value.ownBlock])
theorem others_below {W W' : World} (hB : Below W.heap.size W W') : KeepsOthers W W' := ⟨hB.size, fun _ _ hk _ => heap_keep hB hk⟩
theorem Boxed.past {W w1 : World} {n B B' t e size k : Nat} {u v : Value} {xs : List Value} {tmp : Obj} (h : Boxed W B t u) (hte : t ≠ e) (hrow : W.ownsRow n e size v k xs) (hgrow : (W.alloc tmp).grownBy w1 v.ownBlock) (hne : B ≠ B') (u' : Value) :
    Boxed (w1.setCell ⟨B', 0, none⟩ u') B t u := ((h.alloc tmp).kept hgrow (h.not_row hte hrow)).other hne u'

set_option maxRecDepth 100000 in
set_option maxHeartbeats 4000000 in
theorem collectText_any (S : Sys) (a : Ask) (sb bs ba : Nat) (w : World) (hS : Right S) (ha : AskRight S a) (hs0 : SplAt w sb S)
    (hcs : w.cell? ⟨bs, 0, none⟩ = some (.pointer (some ⟨sb, 0, none⟩))) (hca : AskAt w ba 0 a) (hN : (items S a 0).length ≤ 1000000) :
    Calls Try.prog 79 #[.func (.func 95) #[] #[.pointer (some ⟨bs, 0, none⟩), .pointer (some ⟨ba, 0, none⟩)], .func (.func 81) #[] #[]] w fun e w' =>
      (((items S a 0).all Prod.snd = true ∧ ∃ v, e = .returned (.tuple #[v, .bool true]) ∧ w'.ownsRow w.heap.size 9 1 v (items S a 0).length (texts (items S a 0))) ∨
        ((items S a 0).all Prod.snd = false ∧ e = .returned (.tuple #[.slice none 0 0, .bool false]))) ∧ Below w.heap.size w w' := by
  have HN := Lib.hid hN
  obtain ⟨i0, hi, hz0, hz1, hz2⟩ := info_parts info9
  have HI := Lib.hid hi
  refine (callsIn_wide (n := 6)).1 ?_
  refine callsIn_of_wp_marks Try.func79 rfl trivial ?_ rfl
  simp only [Try.ntmps79, List.size_toArray, List.length_cons, List.length_nil, Nat.reduceAdd, Nat.reduceSub, Array.replicate_succ, Array.replicate_zero, List.push_toArray, List.append_toArray, List.nil_append, List.cons_append]
  clear hN hi
  gi_wp2
  obtain ⟨n, hn⟩ : ∃ n, n = w.heap.size := ⟨_, rfl⟩
  rw [← hn]
  generalize hW4 : World.alloc _ _ = W4
  have hB4 : Below w.heap.size w W4 := by rw [← hW4]; exact bAlloc (bAlloc (bAlloc (bAlloc (Below.refl _ _) _) _) _) _
  have b3 : Boxed W4 n 138 (.func (.func 81) #[] #[]) := by rw [← hW4, hn]; exact (((Boxed.new _ _ _).alloc _).alloc _).alloc _
  have b4 : Boxed W4 (n + 1) 37 (.slice none 0 0) := by
    rw [← hW4, hn]; have := ((Boxed.new (w.alloc (.cells #[.func (.func 81) #[] #[]] 138)) 37 (.slice none 0 0)).alloc (.cells #[.bool false] 4)).alloc (.cells #[.slice none 0 0] 37); simpa using this
  have b5 : Boxed W4 (n + 1 + 1) 4 (.bool false) := by
    rw [← hW4, hn]; have := (Boxed.new ((w.alloc (.cells #[.func (.func 81) #[] #[]] 138)).alloc (.cells #[.slice none 0 0] 37)) 4 (.bool false)).alloc (.cells #[.slice none 0 0] 37); simpa using this
  have b6 : Boxed W4 (n + 1 + 1 + 1) 37 (.slice none 0 0) := by
    rw [← hW4, hn]; have := Boxed.new (((w.alloc (.cells #[.func (.func 81) #[] #[]] 138)).alloc (.cells #[.slice none 0 0] 37)).alloc (.cells #[.bool false] 4)) 37 (.slice none 0 0); simpa using this
  have hsz : W4.heap.size = n + 4 := by rw [← hW4, hn]; simp
  clear hW4
  have hn1 : n ≤ w.heap.size := by omega
  have hn2 : w.heap.size ≤ n := by omega
  have hz1' : W4.heap.size ≤ n + 4 := by omega
  have hz2' : n + 4 ≤ W4.heap.size := by omega
  have HB0 : Below n w W4 := by rw [hn]; exact hB4
  have HNn := Lib.hid hn
  clear hn hsz
  refine wpIn_range_kept (P := Try.prog) (n := 6) (by omega) (gf := 95) (lb := #[.pointer (some ⟨bs, 0, none⟩), .pointer (some ⟨ba, 0, none⟩)]) rfl (enters_of Try.func95 (by kernel_rfl) rfl)
    (words1_says 5 ownText S a sb bs ba w W4 hB4 hS ha hs0 hcs hca rfl) (fun h k => Kp.trans h k) (fun W l o o' hl h ho _ => Kp.putObj W l o o' (by omega) h ho) (Below.refl _ _) (fun _ => rfl)
    (fun pre W => (pre.all Prod.snd = true ∧ (∃ v, Boxed W (n + 1 + 1 + 1) 37 v ∧ W.ownsRow n 9 1 v pre.length (texts pre) ∧ True)) ∧ Boxed W n 138 (.func (.func 81) #[] #[]) ∧ Boxed W (n + 1) 37 (.slice none 0 0) ∧ Boxed W (n + 1 + 1) 4 (.bool false) ∧ Below n w W)
    (fun pre W => pre.all Prod.snd = false ∧ Boxed W (n + 1) 37 (.slice none 0 0) ∧ Boxed W (n + 1 + 1) 4 (.bool false) ∧ Below n w W)
    ?hI ?hIx ?h0
    (fun x a' W => ∃ b, WordAt W b x.1 ∧ n + 4 ≤ b ∧ a' = { tmps := #[.func (.func 95) #[] #[.pointer (some ⟨bs, 0, none⟩), .pointer (some ⟨ba, 0, none⟩)], .func (.func 81) #[] #[], undef, .pointer (some ⟨n, 0, none⟩), .pointer (some ⟨n + 1, 0, none⟩), .pointer (some ⟨n + 1 + 1, 0, none⟩), .pointer (some ⟨n + 1 + 1 + 1, 0, none⟩), .pointer (some ⟨b, 0, none⟩), .bool x.2, .func (.func 95) #[] #[.pointer (some ⟨bs, 0, none⟩), .pointer (some ⟨ba, 0, none⟩)], x.1.val, .bool x.2, undef, undef, undef, undef, undef, undef, undef, undef, undef], defers := [] })
    ?hAx ?assign ?body ?done ?stop
  case hI =>
    refine OwnFrom.and (OwnFrom.and (ownFrom_pure _ _) (Own.from (holdsRow_own n (n + 1 + 1 + 1) 37 9 1 (fun pre : List Item => pre.length) (fun pre => texts pre) (fun _ _ => True)) _)) ?_
    exact OwnFrom.and (Own.from (boxed_own _ _ _) _) (OwnFrom.and (Own.from (boxed_own _ _ _) _) (OwnFrom.and (Own.from (boxed_own _ _ _) _) (ownFrom_below (by omega) (by omega))))
  case hIx =>
    exact OwnFrom.and (ownFrom_pure _ _) (OwnFrom.and (Own.from (boxed_own _ _ _) _) (OwnFrom.and (Own.from (boxed_own _ _ _) _) (ownFrom_below (by omega) (by omega))))
  case h0 => exact ⟨⟨rfl, _, b6, World.ownsRow_nil _ _ _ _, trivial⟩, b3, b4, b5, HB0⟩
  case hAx =>
    rintro x a' s X Y row ⟨b, hb, hle, e⟩ hg hr
    refine ⟨b, (hg.block b (Array.getElem?_eq_some_iff.1 hb).1 (fun e' => ?_)).trans hb, hle, e⟩
    obtain ⟨-, o, ho, hc⟩ := hr b e'.symm
    rw [show X.heap[b]? = _ from hb] at ho; cases ho; cases hc
  case assign =>
    rintro l pre x W K ⟨⟨hall, v, v6, hrow, -⟩, v3, v4, v5, hB⟩ hK
    have hsW := hB.size
    have h6 := v6.lt
    unfold encItem Said.val
    gi_wp2
    exact hK _ _ ((KeepsOthers.alloc _ _).from _) (Kp.of_below (bAlloc (Below.refl _ _) _) (by omega)) ⟨⟨hall, v, v6.alloc _, hrow.alloc _, trivial⟩, v3.alloc _, v4.alloc _, v5.alloc _, hB.alloc (by omega) _⟩ ⟨W.heap.size, World.alloc_heap_new _ _, by omega, rfl⟩
  case body =>
    rintro l pre x a' W ⟨⟨hall, v, v6, hrow, -⟩, v3, v4, v5, hB⟩ ⟨b, hb, hle, rfl⟩ hlen
    have hsW := hB.size
    have hbl : b < W.heap.size := (Array.getElem?_eq_some_iff.1 hb).1
    obtain ⟨x, ok⟩ := x
    simp only at hb ⊢
    cases ok
    · have c4 := v4.cell
      have c5 := v5.cell
      have f4 := v4.frozen
      have f5 := v5.frozen
      have h4 := v4.lt
      have h5 := v5.lt
      clear hrow hb v3 v6
      have HV4 := Lib.hid v4
      have HV5 := Lib.hid v5
      have HBX := Lib.hid hB
      clear v4 v5 hB
      gi_wp2
      have u4 := HV4.out.set (.slice none 0 0)
      have u5 := HV5.out.other (B' := n + 1) (by omega) (.slice none 0 0)
      exact ⟨((KeepsOthers.setCell _ _ _).trans (KeepsOthers.setCell _ _ _)).from _, (Kp.setCell HV4.out rfl (by omega) _).trans (Kp.setCell u5 rfl (by omega) _), by simp, u4.other (by omega) _, u5.set _, (HBX.out.setCell (p := ⟨n + 1, 0, none⟩) (by simp) _).setCell (p := ⟨n + 1 + 1, 0, none⟩) (by simp; omega) _⟩
    · have c3 := v3.cell
      have c6 := v6.cell
      have f6 := v6.frozen
      have h3 := v3.lt
      have h6 := v6.lt
      have d0 : W.cell? ⟨b, 0, none⟩ = some (.string x.txt) := by simp [World.cell?, show W.heap[b]? = _ from hb]
      have d1 : W.cell? ⟨b, 1, none⟩ = some (.int .i64 x.num) := by simp [World.cell?, show W.heap[b]? = _ from hb]
      have d2 : W.cell? ⟨b, 2, none⟩ = some (.int .i64 x.set) := by simp [World.cell?, show W.heap[b]? = _ from hb]
      have d3 : W.cell? ⟨b, 3, none⟩ = some (.int .i64 x.rule) := by simp [World.cell?, show W.heap[b]? = _ from hb]
      have d4 : W.cell? ⟨b, 4, none⟩ = some (.int .i64 x.piece) := by simp [World.cell?, show W.heap[b]? = _ from hb]
      have d5 : W.cell? ⟨b, 5, none⟩ = some (.int .i64 x.depth) := by simp [World.cell?, show W.heap[b]? = _ from hb]
      have HV3 := Lib.hid v3
      have HV4 := Lib.hid v4
      have HV5 := Lib.hid v5
      have HV6 := Lib.hid v6
      have HRW := Lib.hid hrow
      have HBX := Lib.hid hB
      have HALL := Lib.hid hall
      have HW := Lib.hid hb
      clear v3 v4 v5 v6 hrow hB hall hb
      have hmx : Try.prog.follows .mixedOrders = true := by kernel_rfl
      gi_wp2
      have hcall : ∀ V : World, Calls Try.prog 81 #[.agg #[.string x.txt, .int .i64 x.num, .int .i64 x.set, .int .i64 x.rule, .int .i64 x.piece, .int .i64 x.depth]] V fun e w' => e = .returned (.string x.txt) ∧ Below V.heap.size V w' := fun V => text_any x V
      have HC := Lib.hid hcall
      clear hcall
      have hm1 : pre.length + 1 ≤ maxLen := by have := HN.out; unfold maxLen; omega
      have hm2 : (pre.length + 1) * 16 ≤ 140737488355328 := by have := HN.out; omega
      have HM1 := Lib.hid hm1
      have HM2 := Lib.hid hm2
      clear hm1 hm2
      refine wpIn_region_any hmx ?_
      change wpAnyIn _ _ _ _ _ _ _ _ _ (World.drew _)
      have hBU : Below W.heap.size W W.drew := (Below.refl _ _).drew
      generalize W.drew = U at *
      have c3 := keep hBU c3
      have c6 := keep hBU c6
      have d0 := keep hBU d0
      have d1 := keep hBU d1
      have d2 := keep hBU d2
      have d3 := keep hBU d3
      have d4 := keep hBU d4
      have d5 := keep hBU d5
      have HBU := Lib.hid hBU
      clear hBU f6 h3 h6 hbl hmx
      refine wpAnyIn_ready (rs := [0, 1, 2]) (by kernel_rfl) (by simp) ?_
      refine AllReadyIn.cons rfl (fun K hK => ?_) ?_
      · go_simp
        refine hK _ _ ?_
        clear hK K
        refine wpAnyIn_ready (rs := [1, 2]) (by kernel_rfl) (by simp) ?_
        refine AllReadyIn.cons rfl (fun K hK => ?_) ?_
        · go_simp
          refine hK _ _ ?_
          clear hK K
          refine wpAnyIn_ready (rs := [2]) (by kernel_rfl) (by simp) ?_
          refine AllReadyIn.cons rfl (fun K hK => ?_) ?_
          · go_simp
            refine hK _ _ ?_
            clear hK K
            refine wpAnyIn_ready (rs := [3]) (by kernel_rfl) (by simp) ?_
            refine AllReadyIn.cons rfl (fun K hK => ?_) ?_
            · go_simp
              gi_wp2_with (refine ⟨trivial, ?_⟩; gi_at_call 81; refine (CallsIn.inRound l (callsIn_wide.2 (HC.out _))).mono ?_; rintro e w1 ⟨rfl, hb'⟩; have e6 := keep hb' c6; have hsz1 := hb'.size; have HB1 := Lib.hid (bThen HBU.out hb'); clear hb'; have hl6 := cell_lt e6)
              refine wpAnyIn_ready (rs := [4]) (by kernel_rfl) (by simp) ?_
              refine AllReadyIn.cons rfl (fun K hK => ?_) ?_
              · go_simp
                refine hK _ _ ?_
                clear hK K
                refine wpAnyIn_ready (rs := [5]) (by kernel_rfl) (by simp) ?_
                refine AllReadyIn.cons rfl (fun K hK => ?_) AllReadyIn.nil
                have hrow1 := ownsRow_below HRW.out HB1.out
                have hle1 : n ≤ w1.heap.size := by have := HB1.out.size; omega
                refine step_append_in rfl _ _ 37 rfl n 9 i0 (.string ByteArray.empty) 1 16 Try.underlying37 HI.out hz0 hz1 hz2 rfl (by decide) v pre.length (texts pre) rfl (hrow1.alloc _) ⟨w1.heap.size, 0, none⟩ 1 1 [.string x.txt] rfl rfl (cell_one_new _ _ _) (by simp [Value.oneCell']) HM1.out HM2.out (by simp; omega) ?_
                intro v' w2 hown' hgrow
                refine hK _ _ ?_
                clear hK K
                obtain ⟨g', cap', rfl⟩ := ownsRow_succ hown'
                have hv6 : Boxed w1 (n + 1 + 1 + 1) 37 v := heap_keep HB1.out HV6.out
                obtain ⟨hv1, hv2, hr2, hk2, hb2⟩ := Boxed.appended hv6 (by decide) hrow1 hle1 (by omega) hown' hgrow
                have hc1 := hv1.cell
                have hf1 := hv1.frozen
                have HU := Lib.hid (show ∀ A : Act, leaves W4.heap.size (Kp w.heap.size ownText) (fun pre W => (pre.all Prod.snd = true ∧ (∃ v, Boxed W (n + 1 + 1 + 1) 37 v ∧ W.ownsRow n 9 1 v pre.length (texts pre) ∧ True)) ∧ Boxed W n 138 (.func (.func 81) #[] #[]) ∧ Boxed W (n + 1) 37 (.slice none 0 0) ∧ Boxed W (n + 1 + 1) 4 (.bool false) ∧ Below n w W) (fun pre W => pre.all Prod.snd = false ∧ Boxed W (n + 1) 37 (.slice none 0 0) ∧ Boxed W (n + 1 + 1) 4 (.bool false) ∧ Below n w W) (pre ++ [(x, true)]) W .normal A (w2.setCell ⟨n + 1 + 1 + 1, 0, none⟩ (.slice (some ⟨g', 0, none⟩) (pre.length + 1) cap')) from fun _ =>
                  ⟨((others_below HB1.out).trans hk2).from _, (Kp.of_below HB1.out (by omega)).trans ((Kp.appended hv6 hrow1 rfl rfl hgrow hb2).mono hn2),
                    ⟨by have := HALL.out; simp [this], _, hv2, by simpa [texts] using hr2, trivial⟩, Boxed.past (heap_keep HB1.out HV3.out) (by decide) hrow1 hgrow (by omega) _, Boxed.past (heap_keep HB1.out HV4.out) (by decide) hrow1 hgrow (by omega) _, Boxed.past (heap_keep HB1.out HV5.out) (by decide) hrow1 hgrow (by omega) _, HBX.out.trans ((HB1.out.mono (by omega)).trans hb2)⟩)
                clear hown' hgrow hv1 hv2 hr2 hk2 hb2
                refine wpAnyIn_ready (rs := [6]) (by kernel_rfl) (by simp) ?_
                refine AllReadyIn.cons rfl (fun K hK => ?_) AllReadyIn.nil
                go_simp
                refine hK _ _ ?_
                clear hK K
                refine wpAnyIn_done (by kernel_rfl) ?_ _
                exact HU.out ⟨#[], []⟩
              exact AllReadyIn.nil
            exact AllReadyIn.nil
          exact AllReadyIn.nil
        refine AllReadyIn.cons rfl (fun K hK => ?_) ?_
        · go_simp
          refine hK _ _ ?_
          clear hK K
          refine wpAnyIn_ready (rs := [1]) (by kernel_rfl) (by simp) ?_
          refine AllReadyIn.cons rfl (fun K hK => ?_) ?_
          · go_simp
            refine hK _ _ ?_
            clear hK K
            refine wpAnyIn_ready (rs := [3]) (by kernel_rfl) (by simp) ?_
            refine AllReadyIn.cons rfl (fun K hK => ?_) ?_
            · go_simp
              gi_wp2_with (refine ⟨trivial, ?_⟩; gi_at_call 81; refine (CallsIn.inRound l (callsIn_wide.2 (HC.out _))).mono ?_; rintro e w1 ⟨rfl, hb'⟩; have e6 := keep hb' c6; have hsz1 := hb'.size; have HB1 := Lib.hid (bThen HBU.out hb'); clear hb'; have hl6 := cell_lt e6)
              refine wpAnyIn_ready (rs := [4]) (by kernel_rfl) (by simp) ?_
              refine AllReadyIn.cons rfl (fun K hK => ?_) ?_
              · go_simp
                refine hK _ _ ?_
                clear hK K
                refine wpAnyIn_ready (rs := [5]) (by kernel_rfl) (by simp) ?_
                refine AllReadyIn.cons rfl (fun K hK => ?_) AllReadyIn.nil
                have hrow1 := ownsRow_below HRW.out HB1.out
                have hle1 : n ≤ w1.heap.size := by have := HB1.out.size; omega
                refine step_append_in rfl _ _ 37 rfl n 9 i0 (.string ByteArray.empty) 1 16 Try.underlying37 HI.out hz0 hz1 hz2 rfl (by decide) v pre.length (texts pre) rfl (hrow1.alloc _) ⟨w1.heap.size, 0, none⟩ 1 1 [.string x.txt] rfl rfl (cell_one_new _ _ _) (by simp [Value.oneCell']) HM1.out HM2.out (by simp; omega) ?_
                intro v' w2 hown' hgrow
                refine hK _ _ ?_
                clear hK K
                obtain ⟨g', cap', rfl⟩ := ownsRow_succ hown'
                have hv6 : Boxed w1 (n + 1 + 1 + 1) 37 v := heap_keep HB1.out HV6.out
                obtain ⟨hv1, hv2, hr2, hk2, hb2⟩ := Boxed.appended hv6 (by decide) hrow1 hle1 (by omega) hown' hgrow
                have hc1 := hv1.cell
                have hf1 := hv1.frozen
                have HU := Lib.hid (show ∀ A : Act, leaves W4.heap.size (Kp w.heap.size ownText) (fun pre W => (pre.all Prod.snd = true ∧ (∃ v, Boxed W (n + 1 + 1 + 1) 37 v ∧ W.ownsRow n 9 1 v pre.length (texts pre) ∧ True)) ∧ Boxed W n 138 (.func (.func 81) #[] #[]) ∧ Boxed W (n + 1) 37 (.slice none 0 0) ∧ Boxed W (n + 1 + 1) 4 (.bool false) ∧ Below n w W) (fun pre W => pre.all Prod.snd = false ∧ Boxed W (n + 1) 37 (.slice none 0 0) ∧ Boxed W (n + 1 + 1) 4 (.bool false) ∧ Below n w W) (pre ++ [(x, true)]) W .normal A (w2.setCell ⟨n + 1 + 1 + 1, 0, none⟩ (.slice (some ⟨g', 0, none⟩) (pre.length + 1) cap')) from fun _ =>
                  ⟨((others_below HB1.out).trans hk2).from _, (Kp.of_below HB1.out (by omega)).trans ((Kp.appended hv6 hrow1 rfl rfl hgrow hb2).mono hn2),
                    ⟨by have := HALL.out; simp [this], _, hv2, by simpa [texts] using hr2, trivial⟩, Boxed.past (heap_keep HB1.out HV3.out) (by decide) hrow1 hgrow (by omega) _, Boxed.past (heap_keep HB1.out HV4.out) (by decide) hrow1 hgrow (by omega) _, Boxed.past (heap_keep HB1.out HV5.out) (by decide) hrow1 hgrow (by omega) _, HBX.out.trans ((HB1.out.mono (by omega)).trans hb2)⟩)
                clear hown' hgrow hv1 hv2 hr2 hk2 hb2
                refine wpAnyIn_ready (rs := [6]) (by kernel_rfl) (by simp) ?_
                refine AllReadyIn.cons rfl (fun K hK => ?_) AllReadyIn.nil
                go_simp
                refine hK _ _ ?_
                clear hK K
                refine wpAnyIn_done (by kernel_rfl) ?_ _
                exact HU.out ⟨#[], []⟩
              exact AllReadyIn.nil
            exact AllReadyIn.nil
          exact AllReadyIn.nil
        exact AllReadyIn.nil
      refine AllReadyIn.cons rfl (fun K hK => ?_) ?_
      · go_simp
        refine hK _ _ ?_
        clear hK K
        refine wpAnyIn_ready (rs := [0, 2]) (by kernel_rfl) (by simp) ?_
        refine AllReadyIn.cons rfl (fun K hK => ?_) ?_
        · go_simp
          refine hK _ _ ?_
          clear hK K
          refine wpAnyIn_ready (rs := [2]) (by kernel_rfl) (by simp) ?_
          refine AllReadyIn.cons rfl (fun K hK => ?_) ?_
          · go_simp
            refine hK _ _ ?_
            clear hK K
            refine wpAnyIn_ready (rs := [3]) (by kernel_rfl) (by simp) ?_
            refine AllReadyIn.cons rfl (fun K hK => ?_) ?_
            · go_simp
              gi_wp2_with (refine ⟨trivial, ?_⟩; gi_at_call 81; refine (CallsIn.inRound l (callsIn_wide.2 (HC.out _))).mono ?_; rintro e w1 ⟨rfl, hb'⟩; have e6 := keep hb' c6; have hsz1 := hb'.size; have HB1 := Lib.hid (bThen HBU.out hb'); clear hb'; have hl6 := cell_lt e6)
              refine wpAnyIn_ready (rs := [4]) (by kernel_rfl) (by simp) ?_
              refine AllReadyIn.cons rfl (fun K hK => ?_) ?_
              · go_simp
                refine hK _ _ ?_
                clear hK K
                refine wpAnyIn_ready (rs := [5]) (by kernel_rfl) (by simp) ?_
                refine AllReadyIn.cons rfl (fun K hK => ?_) AllReadyIn.nil
                have hrow1 := ownsRow_below HRW.out HB1.out
                have hle1 : n ≤ w1.heap.size := by have := HB1.out.size; omega
                refine step_append_in rfl _ _ 37 rfl n 9 i0 (.string ByteArray.empty) 1 16 Try.underlying37 HI.out hz0 hz1 hz2 rfl (by decide) v pre.length (texts pre) rfl (hrow1.alloc _) ⟨w1.heap.size, 0, none⟩ 1 1 [.string x.txt] rfl rfl (cell_one_new _ _ _) (by simp [Value.oneCell']) HM1.out HM2.out (by simp; omega) ?_
                intro v' w2 hown' hgrow
                refine hK _ _ ?_
                clear hK K
                obtain ⟨g', cap', rfl⟩ := ownsRow_succ hown'
                have hv6 : Boxed w1 (n + 1 + 1 + 1) 37 v := heap_keep HB1.out HV6.out
                obtain ⟨hv1, hv2, hr2, hk2, hb2⟩ := Boxed.appended hv6 (by decide) hrow1 hle1 (by omega) hown' hgrow
                have hc1 := hv1.cell
                have hf1 := hv1.frozen
                have HU := Lib.hid (show ∀ A : Act, leaves W4.heap.size (Kp w.heap.size ownText) (fun pre W => (pre.all Prod.snd = true ∧ (∃ v, Boxed W (n + 1 + 1 + 1) 37 v ∧ W.ownsRow n 9 1 v pre.length (texts pre) ∧ True)) ∧ Boxed W n 138 (.func (.func 81) #[] #[]) ∧ Boxed W (n + 1) 37 (.slice none 0 0) ∧ Boxed W (n + 1 + 1) 4 (.bool false) ∧ Below n w W) (fun pre W => pre.all Prod.snd = false ∧ Boxed W (n + 1) 37 (.slice none 0 0) ∧ Boxed W (n + 1 + 1) 4 (.bool false) ∧ Below n w W) (pre ++ [(x, true)]) W .normal A (w2.setCell ⟨n + 1 + 1 + 1, 0, none⟩ (.slice (some ⟨g', 0, none⟩) (pre.length + 1) cap')) from fun _ =>
                  ⟨((others_below HB1.out).trans hk2).from _, (Kp.of_below HB1.out (by omega)).trans ((Kp.appended hv6 hrow1 rfl rfl hgrow hb2).mono hn2),
                    ⟨by have := HALL.out; simp [this], _, hv2, by simpa [texts] using hr2, trivial⟩, Boxed.past (heap_keep HB1.out HV3.out) (by decide) hrow1 hgrow (by omega) _, Boxed.past (heap_keep HB1.out HV4.out) (by decide) hrow1 hgrow (by omega) _, Boxed.past (heap_keep HB1.out HV5.out) (by decide) hrow1 hgrow (by omega) _, HBX.out.trans ((HB1.out.mono (by omega)).trans hb2)⟩)
                clear hown' hgrow hv1 hv2 hr2 hk2 hb2
                refine wpAnyIn_ready (rs := [6]) (by kernel_rfl) (by simp) ?_
                refine AllReadyIn.cons rfl (fun K hK => ?_) AllReadyIn.nil
                go_simp
                refine hK _ _ ?_
                clear hK K
                refine wpAnyIn_done (by kernel_rfl) ?_ _
                exact HU.out ⟨#[], []⟩
              exact AllReadyIn.nil
            exact AllReadyIn.nil
          exact AllReadyIn.nil
        refine AllReadyIn.cons rfl (fun K hK => ?_) ?_
        · go_simp
          refine hK _ _ ?_
          clear hK K
          refine wpAnyIn_ready (rs := [0, 3]) (by kernel_rfl) (by simp) ?_
          refine AllReadyIn.cons rfl (fun K hK => ?_) ?_
          · go_simp
            refine hK _ _ ?_
            clear hK K
            refine wpAnyIn_ready (rs := [3]) (by kernel_rfl) (by simp) ?_
            refine AllReadyIn.cons rfl (fun K hK => ?_) ?_
            · go_simp
              gi_wp2_with (refine ⟨trivial, ?_⟩; gi_at_call 81; refine (CallsIn.inRound l (callsIn_wide.2 (HC.out _))).mono ?_; rintro e w1 ⟨rfl, hb'⟩; have e6 := keep hb' c6; have hsz1 := hb'.size; have HB1 := Lib.hid (bThen HBU.out hb'); clear hb'; have hl6 := cell_lt e6)
              refine wpAnyIn_ready (rs := [4]) (by kernel_rfl) (by simp) ?_
              refine AllReadyIn.cons rfl (fun K hK => ?_) ?_
              · go_simp
                refine hK _ _ ?_
                clear hK K
                refine wpAnyIn_ready (rs := [5]) (by kernel_rfl) (by simp) ?_
                refine AllReadyIn.cons rfl (fun K hK => ?_) AllReadyIn.nil
                have hrow1 := ownsRow_below HRW.out HB1.out
                have hle1 : n ≤ w1.heap.size := by have := HB1.out.size; omega
                refine step_append_in rfl _ _ 37 rfl n 9 i0 (.string ByteArray.empty) 1 16 Try.underlying37 HI.out hz0 hz1 hz2 rfl (by decide) v pre.length (texts pre) rfl (hrow1.alloc _) ⟨w1.heap.size, 0, none⟩ 1 1 [.string x.txt] rfl rfl (cell_one_new _ _ _) (by simp [Value.oneCell']) HM1.out HM2.out (by simp; omega) ?_
                intro v' w2 hown' hgrow
                refine hK _ _ ?_
                clear hK K
                obtain ⟨g', cap', rfl⟩ := ownsRow_succ hown'
                have hv6 : Boxed w1 (n + 1 + 1 + 1) 37 v := heap_keep HB1.out HV6.out
                obtain ⟨hv1, hv2, hr2, hk2, hb2⟩ := Boxed.appended hv6 (by decide) hrow1 hle1 (by omega) hown' hgrow
                have hc1 := hv1.cell
                have hf1 := hv1.frozen
                have HU := Lib.hid (show ∀ A : Act, leaves W4.heap.size (Kp w.heap.size ownText) (fun pre W => (pre.all Prod.snd = true ∧ (∃ v, Boxed W (n + 1 + 1 + 1) 37 v ∧ W.ownsRow n 9 1 v pre.length (texts pre) ∧ True)) ∧ Boxed W n 138 (.func (.func 81) #[] #[]) ∧ Boxed W (n + 1) 37 (.slice none 0 0) ∧ Boxed W (n + 1 + 1) 4 (.bool false) ∧ Below n w W) (fun pre W => pre.all Prod.snd = false ∧ Boxed W (n + 1) 37 (.slice none 0 0) ∧ Boxed W (n + 1 + 1) 4 (.bool false) ∧ Below n w W) (pre ++ [(x, true)]) W .normal A (w2.setCell ⟨n + 1 + 1 + 1, 0, none⟩ (.slice (some ⟨g', 0, none⟩) (pre.length + 1) cap')) from fun _ =>
                  ⟨((others_below HB1.out).trans hk2).from _, (Kp.of_below HB1.out (by omega)).trans ((Kp.appended hv6 hrow1 rfl rfl hgrow hb2).mono hn2),
                    ⟨by have := HALL.out; simp [this], _, hv2, by simpa [texts] using hr2, trivial⟩, Boxed.past (heap_keep HB1.out HV3.out) (by decide) hrow1 hgrow (by omega) _, Boxed.past (heap_keep HB1.out HV4.out) (by decide) hrow1 hgrow (by omega) _, Boxed.past (heap_keep HB1.out HV5.out) (by decide) hrow1 hgrow (by omega) _, HBX.out.trans ((HB1.out.mono (by omega)).trans hb2)⟩)
                clear hown' hgrow hv1 hv2 hr2 hk2 hb2
                refine wpAnyIn_ready (rs := [6]) (by kernel_rfl) (by simp) ?_
                refine AllReadyIn.cons rfl (fun K hK => ?_) AllReadyIn.nil
                go_simp
                refine hK _ _ ?_
                clear hK K
                refine wpAnyIn_done (by kernel_rfl) ?_ _
                exact HU.out ⟨#[], []⟩
              exact AllReadyIn.nil
            exact AllReadyIn.nil
          refine AllReadyIn.cons rfl (fun K hK => ?_) ?_
          · go_simp
            gi_wp2_with (refine ⟨trivial, ?_⟩; gi_at_call 81; refine (CallsIn.inRound l (callsIn_wide.2 (HC.out _))).mono ?_; rintro e w1 ⟨rfl, hb'⟩; have e6 := keep hb' c6; have hsz1 := hb'.size; have HB1 := Lib.hid (bThen HBU.out hb'); clear hb'; have hl6 := cell_lt e6)
            refine wpAnyIn_ready (rs := [0, 4]) (by kernel_rfl) (by simp) ?_
            refine AllReadyIn.cons rfl (fun K hK => ?_) ?_
            · go_simp
              refine hK _ _ ?_
              clear hK K
              refine wpAnyIn_ready (rs := [4]) (by kernel_rfl) (by simp) ?_
              refine AllReadyIn.cons rfl (fun K hK => ?_) ?_
              · go_simp
                refine hK _ _ ?_
                clear hK K
                refine wpAnyIn_ready (rs := [5]) (by kernel_rfl) (by simp) ?_
                refine AllReadyIn.cons rfl (fun K hK => ?_) AllReadyIn.nil
                have hrow1 := ownsRow_below HRW.out HB1.out
                have hle1 : n ≤ w1.heap.size := by have := HB1.out.size; omega
                refine step_append_in rfl _ _ 37 rfl n 9 i0 (.string ByteArray.empty) 1 16 Try.underlying37 HI.out hz0 hz1 hz2 rfl (by decide) v pre.length (texts pre) rfl (hrow1.alloc _) ⟨w1.heap.size, 0, none⟩ 1 1 [.string x.txt] rfl rfl (cell_one_new _ _ _) (by simp [Value.oneCell']) HM1.out HM2.out (by simp; omega) ?_
                intro v' w2 hown' hgrow
                refine hK _ _ ?_
                clear hK K
                obtain ⟨g', cap', rfl⟩ := ownsRow_succ hown'
                have hv6 : Boxed w1 (n + 1 + 1 + 1) 37 v := heap_keep HB1.out HV6.out
                obtain ⟨hv1, hv2, hr2, hk2, hb2⟩ := Boxed.appended hv6 (by decide) hrow1 hle1 (by omega) hown' hgrow
                have hc1 := hv1.cell
                have hf1 := hv1.frozen
                have HU := Lib.hid (show ∀ A : Act, leaves W4.heap.size (Kp w.heap.size ownText) (fun pre W => (pre.all Prod.snd = true ∧ (∃ v, Boxed W (n + 1 + 1 + 1) 37 v ∧ W.ownsRow n 9 1 v pre.length (texts pre) ∧ True)) ∧ Boxed W n 138 (.func (.func 81) #[] #[]) ∧ Boxed W (n + 1) 37 (.slice none 0 0) ∧ Boxed W (n + 1 + 1) 4 (.bool false) ∧ Below n w W) (fun pre W => pre.all Prod.snd = false ∧ Boxed W (n + 1) 37 (.slice none 0 0) ∧ Boxed W (n + 1 + 1) 4 (.bool false) ∧ Below n w W) (pre ++ [(x, true)]) W .normal A (w2.setCell ⟨n + 1 + 1 + 1, 0, none⟩ (.slice (some ⟨g', 0, none⟩) (pre.length + 1) cap')) from fun _ =>
                  ⟨((others_below HB1.out).trans hk2).from _, (Kp.of_below HB1.out (by omega)).trans ((Kp.appended hv6 hrow1 rfl rfl hgrow hb2).mono hn2),
                    ⟨by have := HALL.out; simp [this], _, hv2, by simpa [texts] using hr2, trivial⟩, Boxed.past (heap_keep HB1.out HV3.out) (by decide) hrow1 hgrow (by omega) _, Boxed.past (heap_keep HB1.out HV4.out) (by decide) hrow1 hgrow (by omega) _, Boxed.past (heap_keep HB1.out HV5.out) (by decide) hrow1 hgrow (by omega) _, HBX.out.trans ((HB1.out.mono (by omega)).trans hb2)⟩)
                clear hown' hgrow hv1 hv2 hr2 hk2 hb2
                refine wpAnyIn_ready (rs := [6]) (by kernel_rfl) (by simp) ?_
                refine AllReadyIn.cons rfl (fun K hK => ?_) AllReadyIn.nil
                go_simp
                refine hK _ _ ?_
                clear hK K
                refine wpAnyIn_done (by kernel_rfl) ?_ _
                exact HU.out ⟨#[], []⟩
              exact AllReadyIn.nil
            refine AllReadyIn.cons rfl (fun K hK => ?_) ?_
            · go_simp
              refine hK _ _ ?_
              clear hK K
              refine wpAnyIn_ready (rs := [0]) (by kernel_rfl) (by simp) ?_
              refine AllReadyIn.cons rfl (fun K hK => ?_) ?_
              · go_simp
                refine hK _ _ ?_
                clear hK K
                refine wpAnyIn_ready (rs := [5]) (by kernel_rfl) (by simp) ?_
                refine AllReadyIn.cons rfl (fun K hK => ?_) AllReadyIn.nil
                have hrow1 := ownsRow_below HRW.out HB1.out
                have hle1 : n ≤ w1.heap.size := by have := HB1.out.size; omega
                refine step_append_in rfl _ _ 37 rfl n 9 i0 (.string ByteArray.empty) 1 16 Try.underlying37 HI.out hz0 hz1 hz2 rfl (by decide) v pre.length (texts pre) rfl (hrow1.alloc _) ⟨w1.heap.size, 0, none⟩ 1 1 [.string x.txt] rfl rfl (cell_one_new _ _ _) (by simp [Value.oneCell']) HM1.out HM2.out (by simp; omega) ?_
                intro v' w2 hown' hgrow
                refine hK _ _ ?_
                clear hK K
                obtain ⟨g', cap', rfl⟩ := ownsRow_succ hown'
                have hv6 : Boxed w1 (n + 1 + 1 + 1) 37 v := heap_keep HB1.out HV6.out
                obtain ⟨hv1, hv2, hr2, hk2, hb2⟩ := Boxed.appended hv6 (by decide) hrow1 hle1 (by omega) hown' hgrow
                have hc1 := hv1.cell
                have hf1 := hv1.frozen
                have HU := Lib.hid (show ∀ A : Act, leaves W4.heap.size (Kp w.heap.size ownText) (fun pre W => (pre.all Prod.snd = true ∧ (∃ v, Boxed W (n + 1 + 1 + 1) 37 v ∧ W.ownsRow n 9 1 v pre.length (texts pre) ∧ True)) ∧ Boxed W n 138 (.func (.func 81) #[] #[]) ∧ Boxed W (n + 1) 37 (.slice none 0 0) ∧ Boxed W (n + 1 + 1) 4 (.bool false) ∧ Below n w W) (fun pre W => pre.all Prod.snd = false ∧ Boxed W (n + 1) 37 (.slice none 0 0) ∧ Boxed W (n + 1 + 1) 4 (.bool false) ∧ Below n w W) (pre ++ [(x, true)]) W .normal A (w2.setCell ⟨n + 1 + 1 + 1, 0, none⟩ (.slice (some ⟨g', 0, none⟩) (pre.length + 1) cap')) from fun _ =>
                  ⟨((others_below HB1.out).trans hk2).from _, (Kp.of_below HB1.out (by omega)).trans ((Kp.appended hv6 hrow1 rfl rfl hgrow hb2).mono hn2),
                    ⟨by have := HALL.out; simp [this], _, hv2, by simpa [texts] using hr2, trivial⟩, Boxed.past (heap_keep HB1.out HV3.out) (by decide) hrow1 hgrow (by omega) _, Boxed.past (heap_keep HB1.out HV4.out) (by decide) hrow1 hgrow (by omega) _, Boxed.past (heap_keep HB1.out HV5.out) (by decide) hrow1 hgrow (by omega) _, HBX.out.trans ((HB1.out.mono (by omega)).trans hb2)⟩)
                clear hown' hgrow hv1 hv2 hr2 hk2 hb2
                refine wpAnyIn_ready (rs := [6]) (by kernel_rfl) (by simp) ?_
                refine AllReadyIn.cons rfl (fun K hK => ?_) AllReadyIn.nil
                go_simp
                refine hK _ _ ?_
                clear hK K
                refine wpAnyIn_done (by kernel_rfl) ?_ _
                exact HU.out ⟨#[], []⟩
              exact AllReadyIn.nil
            exact AllReadyIn.nil
          exact AllReadyIn.nil
        exact AllReadyIn.nil
      refine AllReadyIn.cons rfl (fun K hK => ?_) ?_
      · go_simp
        refine hK _ _ ?_
        clear hK K
        refine wpAnyIn_ready (rs := [0, 1]) (by kernel_rfl) (by simp) ?_
        refine AllReadyIn.cons rfl (fun K hK => ?_) ?_
        · go_simp
          refine hK _ _ ?_
          clear hK K
          refine wpAnyIn_ready (rs := [1]) (by kernel_rfl) (by simp) ?_
          refine AllReadyIn.cons rfl (fun K hK => ?_) ?_
          · go_simp
            refine hK _ _ ?_
            clear hK K
            refine wpAnyIn_ready (rs := [3]) (by kernel_rfl) (by simp) ?_
            refine AllReadyIn.cons rfl (fun K hK => ?_) ?_
            · go_simp
              gi_wp2_with (refine ⟨trivial, ?_⟩; gi_at_call 81; refine (CallsIn.inRound l (callsIn_wide.2 (HC.out _))).mono ?_; rintro e w1 ⟨rfl, hb'⟩; have e6 := keep hb' c6; have hsz1 := hb'.size; have HB1 := Lib.hid (bThen HBU.out hb'); clear hb'; have hl6 := cell_lt e6)
              refine wpAnyIn_ready (rs := [4]) (by kernel_rfl) (by simp) ?_
              refine AllReadyIn.cons rfl (fun K hK => ?_) ?_
              · go_simp
                refine hK _ _ ?_
                clear hK K
                refine wpAnyIn_ready (rs := [5]) (by kernel_rfl) (by simp) ?_
                refine AllReadyIn.cons rfl (fun K hK => ?_) AllReadyIn.nil
                have hrow1 := ownsRow_below HRW.out HB1.out
                have hle1 : n ≤ w1.heap.size := by have := HB1.out.size; omega
                refine step_append_in rfl _ _ 37 rfl n 9 i0 (.string ByteArray.empty) 1 16 Try.underlying37 HI.out hz0 hz1 hz2 rfl (by decide) v pre.length (texts pre) rfl (hrow1.alloc _) ⟨w1.heap.size, 0, none⟩ 1 1 [.string x.txt] rfl rfl (cell_one_new _ _ _) (by simp [Value.oneCell']) HM1.out HM2.out (by simp; omega) ?_
                intro v' w2 hown' hgrow
                refine hK _ _ ?_
                clear hK K
                obtain ⟨g', cap', rfl⟩ := ownsRow_succ hown'
                have hv6 : Boxed w1 (n + 1 + 1 + 1) 37 v := heap_keep HB1.out HV6.out
                obtain ⟨hv1, hv2, hr2, hk2, hb2⟩ := Boxed.appended hv6 (by decide) hrow1 hle1 (by omega) hown' hgrow
                have hc1 := hv1.cell
                have hf1 := hv1.frozen
                have HU := Lib.hid (show ∀ A : Act, leaves W4.heap.size (Kp w.heap.size ownText) (fun pre W => (pre.all Prod.snd = true ∧ (∃ v, Boxed W (n + 1 + 1 + 1) 37 v ∧ W.ownsRow n 9 1 v pre.length (texts pre) ∧ True)) ∧ Boxed W n 138 (.func (.func 81) #[] #[]) ∧ Boxed W (n + 1) 37 (.slice none 0 0) ∧ Boxed W (n + 1 + 1) 4 (.bool false) ∧ Below n w W) (fun pre W => pre.all Prod.snd = false ∧ Boxed W (n + 1) 37 (.slice none 0 0) ∧ Boxed W (n + 1 + 1) 4 (.bool false) ∧ Below n w W) (pre ++ [(x, true)]) W .normal A (w2.setCell ⟨n + 1 + 1 + 1, 0, none⟩ (.slice (some ⟨g', 0, none⟩) (pre.length + 1) cap')) from fun _ =>
                  ⟨((others_below HB1.out).trans hk2).from _, (Kp.of_below HB1.out (by omega)).trans ((Kp.appended hv6 hrow1 rfl rfl hgrow hb2).mono hn2),
                    ⟨by have := HALL.out; simp [this], _, hv2, by simpa [texts] using hr2, trivial⟩, Boxed.past (heap_keep HB1.out HV3.out) (by decide) hrow1 hgrow (by omega) _, Boxed.past (heap_keep HB1.out HV4.out) (by decide) hrow1 hgrow (by omega) _, Boxed.past (heap_keep HB1.out HV5.out) (by decide) hrow1 hgrow (by omega) _, HBX.out.trans ((HB1.out.mono (by omega)).trans hb2)⟩)
                clear hown' hgrow hv1 hv2 hr2 hk2 hb2
                refine wpAnyIn_ready (rs := [6]) (by kernel_rfl) (by simp) ?_
                refine AllReadyIn.cons rfl (fun K hK => ?_) AllReadyIn.nil
                go_simp
                refine hK _ _ ?_
                clear hK K
                refine wpAnyIn_done (by kernel_rfl) ?_ _
                exact HU.out ⟨#[], []⟩
              exact AllReadyIn.nil
            exact AllReadyIn.nil
          exact AllReadyIn.nil
        refine AllReadyIn.cons rfl (fun K hK => ?_) ?_
        · go_simp
          refine hK _ _ ?_
          clear hK K
          refine wpAnyIn_ready (rs := [0, 3]) (by kernel_rfl) (by simp) ?_
          refine AllReadyIn.cons rfl (fun K hK => ?_) ?_
          · go_simp
            refine hK _ _ ?_
            clear hK K
            refine wpAnyIn_ready (rs := [3]) (by kernel_rfl) (by simp) ?_
            refine AllReadyIn.cons rfl (fun K hK => ?_) ?_
            · go_simp
              gi_wp2_with (refine ⟨trivial, ?_⟩; gi_at_call 81; refine (CallsIn.inRound l (callsIn_wide.2 (HC.out _))).mono ?_; rintro e w1 ⟨rfl, hb'⟩; have e6 := keep hb' c6; have hsz1 := hb'.size; have HB1 := Lib.hid (bThen HBU.out hb'); clear hb'; have hl6 := cell_lt e6)
              refine wpAnyIn_ready (rs := [4]) (by kernel_rfl) (by simp) ?_
              refine AllReadyIn.cons rfl (fun K hK => ?_) ?_
              · go_simp
                refine hK _ _ ?_
                clear hK K
                refine wpAnyIn_ready (rs := [5]) (by kernel_rfl) (by simp) ?_
                refine AllReadyIn.cons rfl (fun K hK => ?_) AllReadyIn.nil
                have hrow1 := ownsRow_below HRW.out HB1.out
                have hle1 : n ≤ w1.heap.size := by have := HB1.out.size; omega
                refine step_append_in rfl _ _ 37 rfl n 9 i0 (.string ByteArray.empty) 1 16 Try.underlying37 HI.out hz0 hz1 hz2 rfl (by decide) v pre.length (texts pre) rfl (hrow1.alloc _) ⟨w1.heap.size, 0, none⟩ 1 1 [.string x.txt] rfl rfl (cell_one_new _ _ _) (by simp [Value.oneCell']) HM1.out HM2.out (by simp; omega) ?_
                intro v' w2 hown' hgrow
                refine hK _ _ ?_
                clear hK K
                obtain ⟨g', cap', rfl⟩ := ownsRow_succ hown'
                have hv6 : Boxed w1 (n + 1 + 1 + 1) 37 v := heap_keep HB1.out HV6.out
                obtain ⟨hv1, hv2, hr2, hk2, hb2⟩ := Boxed.appended hv6 (by decide) hrow1 hle1 (by omega) hown' hgrow
                have hc1 := hv1.cell
                have hf1 := hv1.frozen
                have HU := Lib.hid (show ∀ A : Act, leaves W4.heap.size (Kp w.heap.size ownText) (fun pre W => (pre.all Prod.snd = true ∧ (∃ v, Boxed W (n + 1 + 1 + 1) 37 v ∧ W.ownsRow n 9 1 v pre.length (texts pre) ∧ True)) ∧ Boxed W n 138 (.func (.func 81) #[] #[]) ∧ Boxed W (n + 1) 37 (.slice none 0 0) ∧ Boxed W (n + 1 + 1) 4 (.bool false) ∧ Below n w W) (fun pre W => pre.all Prod.snd = false ∧ Boxed W (n + 1) 37 (.slice none 0 0) ∧ Boxed W (n + 1 + 1) 4 (.bool false) ∧ Below n w W) (pre ++ [(x, true)]) W .normal A (w2.setCell ⟨n + 1 + 1 + 1, 0, none⟩ (.slice (some ⟨g', 0, none⟩) (pre.length + 1) cap')) from fun _ =>
                  ⟨((others_below HB1.out).trans hk2).from _, (Kp.of_below HB1.out (by omega)).trans ((Kp.appended hv6 hrow1 rfl rfl hgrow hb2).mono hn2),
                    ⟨by have := HALL.out; simp [this], _, hv2, by simpa [texts] using hr2, trivial⟩, Boxed.past (heap_keep HB1.out HV3.out) (by decide) hrow1 hgrow (by omega) _, Boxed.past (heap_keep HB1.out HV4.out) (by decide) hrow1 hgrow (by omega) _, Boxed.past (heap_keep HB1.out HV5.out) (by decide) hrow1 hgrow (by omega) _, HBX.out.trans ((HB1.out.mono (by omega)).trans hb2)⟩)
                clear hown' hgrow hv1 hv2 hr2 hk2 hb2
                refine wpAnyIn_ready (rs := [6]) (by kernel_rfl) (by simp) ?_
                refine AllReadyIn.cons rfl (fun K hK => ?_) AllReadyIn.nil
                go_simp
                refine hK _ _ ?_
                clear hK K
                refine wpAnyIn_done (by kernel_rfl) ?_ _
                exact HU.out ⟨#[], []⟩
              exact AllReadyIn.nil
            exact AllReadyIn.nil
          refine AllReadyIn.cons rfl (fun K hK => ?_) ?_
          · go_simp
            gi_wp2_with (refine ⟨trivial, ?_⟩; gi_at_call 81; refine (CallsIn.inRound l (callsIn_wide.2 (HC.out _))).mono ?_; rintro e w1 ⟨rfl, hb'⟩; have e6 := keep hb' c6; have hsz1 := hb'.size; have HB1 := Lib.hid (bThen HBU.out hb'); clear hb'; have hl6 := cell_lt e6)
            refine wpAnyIn_ready (rs := [0, 4]) (by kernel_rfl) (by simp) ?_
            refine AllReadyIn.cons rfl (fun K hK => ?_) ?_
            · go_simp
              refine hK _ _ ?_
              clear hK K
              refine wpAnyIn_ready (rs := [4]) (by kernel_rfl) (by simp) ?_
              refine AllReadyIn.cons rfl (fun K hK => ?_) ?_
              · go_simp
                refine hK _ _ ?_
                clear hK K
                refine wpAnyIn_ready (rs := [5]) (by kernel_rfl) (by simp) ?_
                refine AllReadyIn.cons rfl (fun K hK => ?_) AllReadyIn.nil
                have hrow1 := ownsRow_below HRW.out HB1.out
                have hle1 : n ≤ w1.heap.size := by have := HB1.out.size; omega
                refine step_append_in rfl _ _ 37 rfl n 9 i0 (.string ByteArray.empty) 1 16 Try.underlying37 HI.out hz0 hz1 hz2 rfl (by decide) v pre.length (texts pre) rfl (hrow1.alloc _) ⟨w1.heap.size, 0, none⟩ 1 1 [.string x.txt] rfl rfl (cell_one_new _ _ _) (by simp [Value.oneCell']) HM1.out HM2.out (by simp; omega) ?_
                intro v' w2 hown' hgrow
                refine hK _ _ ?_
                clear hK K
                obtain ⟨g', cap', rfl⟩ := ownsRow_succ hown'
                have hv6 : Boxed w1 (n + 1 + 1 + 1) 37 v := heap_keep HB1.out HV6.out
                obtain ⟨hv1, hv2, hr2, hk2, hb2⟩ := Boxed.appended hv6 (by decide) hrow1 hle1 (by omega) hown' hgrow
                have hc1 := hv1.cell
                have hf1 := hv1.frozen
                have HU := Lib.hid (show ∀ A : Act, leaves W4.heap.size (Kp w.heap.size ownText) (fun pre W => (pre.all Prod.snd = true ∧ (∃ v, Boxed W (n + 1 + 1 + 1) 37 v ∧ W.ownsRow n 9 1 v pre.length (texts pre) ∧ True)) ∧ Boxed W n 138 (.func (.func 81) #[] #[]) ∧ Boxed W (n + 1) 37 (.slice none 0 0) ∧ Boxed W (n + 1 + 1) 4 (.bool false) ∧ Below n w W) (fun pre W => pre.all Prod.snd = false ∧ Boxed W (n + 1) 37 (.slice none 0 0) ∧ Boxed W (n + 1 + 1) 4 (.bool false) ∧ Below n w W) (pre ++ [(x, true)]) W .normal A (w2.setCell ⟨n + 1 + 1 + 1, 0, none⟩ (.slice (some ⟨g', 0, none⟩) (pre.length + 1) cap')) from fun _ =>
                  ⟨((others_below HB1.out).trans hk2).from _, (Kp.of_below HB1.out (by omega)).trans ((Kp.appended hv6 hrow1 rfl rfl hgrow hb2).mono hn2),
                    ⟨by have := HALL.out; simp [this], _, hv2, by simpa [texts] using hr2, trivial⟩, Boxed.past (heap_keep HB1.out HV3.out) (by decide) hrow1 hgrow (by omega) _, Boxed.past (heap_keep HB1.out HV4.out) (by decide) hrow1 hgrow (by omega) _, Boxed.past (heap_keep HB1.out HV5.out) (by decide) hrow1 hgrow (by omega) _, HBX.out.trans ((HB1.out.mono (by omega)).trans hb2)⟩)
                clear hown' hgrow hv1 hv2 hr2 hk2 hb2
                refine wpAnyIn_ready (rs := [6]) (by kernel_rfl) (by simp) ?_
                refine AllReadyIn.cons rfl (fun K hK => ?_) AllReadyIn.nil
                go_simp
                refine hK _ _ ?_
                clear hK K
                refine wpAnyIn_done (by kernel_rfl) ?_ _
                exact HU.out ⟨#[], []⟩
              exact AllReadyIn.nil
            refine AllReadyIn.cons rfl (fun K hK => ?_) ?_
            · go_simp
              refine hK _ _ ?_
              clear hK K
              refine wpAnyIn_ready (rs := [0]) (by kernel_rfl) (by simp) ?_
              refine AllReadyIn.cons rfl (fun K hK => ?_) ?_
              · go_simp
                refine hK _ _ ?_
                clear hK K
                refine wpAnyIn_ready (rs := [5]) (by kernel_rfl) (by simp) ?_
                refine AllReadyIn.cons rfl (fun K hK => ?_) AllReadyIn.nil
                have hrow1 := ownsRow_below HRW.out HB1.out
                have hle1 : n ≤ w1.heap.size := by have := HB1.out.size; omega
                refine step_append_in rfl _ _ 37 rfl n 9 i0 (.string ByteArray.empty) 1 16 Try.underlying37 HI.out hz0 hz1 hz2 rfl (by decide) v pre.length (texts pre) rfl (hrow1.alloc _) ⟨w1.heap.size, 0, none⟩ 1 1 [.string x.txt] rfl rfl (cell_one_new _ _ _) (by simp [Value.oneCell']) HM1.out HM2.out (by simp; omega) ?_
                intro v' w2 hown' hgrow
                refine hK _ _ ?_
                clear hK K
                obtain ⟨g', cap', rfl⟩ := ownsRow_succ hown'
                have hv6 : Boxed w1 (n + 1 + 1 + 1) 37 v := heap_keep HB1.out HV6.out
                obtain ⟨hv1, hv2, hr2, hk2, hb2⟩ := Boxed.appended hv6 (by decide) hrow1 hle1 (by omega) hown' hgrow
                have hc1 := hv1.cell
                have hf1 := hv1.frozen
                have HU := Lib.hid (show ∀ A : Act, leaves W4.heap.size (Kp w.heap.size ownText) (fun pre W => (pre.all Prod.snd = true ∧ (∃ v, Boxed W (n + 1 + 1 + 1) 37 v ∧ W.ownsRow n 9 1 v pre.length (texts pre) ∧ True)) ∧ Boxed W n 138 (.func (.func 81) #[] #[]) ∧ Boxed W (n + 1) 37 (.slice none 0 0) ∧ Boxed W (n + 1 + 1) 4 (.bool false) ∧ Below n w W) (fun pre W => pre.all Prod.snd = false ∧ Boxed W (n + 1) 37 (.slice none 0 0) ∧ Boxed W (n + 1 + 1) 4 (.bool false) ∧ Below n w W) (pre ++ [(x, true)]) W .normal A (w2.setCell ⟨n + 1 + 1 + 1, 0, none⟩ (.slice (some ⟨g', 0, none⟩) (pre.length + 1) cap')) from fun _ =>
                  ⟨((others_below HB1.out).trans hk2).from _, (Kp.of_below HB1.out (by omega)).trans ((Kp.appended hv6 hrow1 rfl rfl hgrow hb2).mono hn2),
                    ⟨by have := HALL.out; simp [this], _, hv2, by simpa [texts] using hr2, trivial⟩, Boxed.past (heap_keep HB1.out HV3.out) (by decide) hrow1 hgrow (by omega) _, Boxed.past (heap_keep HB1.out HV4.out) (by decide) hrow1 hgrow (by omega) _, Boxed.past (heap_keep HB1.out HV5.out) (by decide) hrow1 hgrow (by omega) _, HBX.out.trans ((HB1.out.mono (by omega)).trans hb2)⟩)
                clear hown' hgrow hv1 hv2 hr2 hk2 hb2
                refine wpAnyIn_ready (rs := [6]) (by kernel_rfl) (by simp) ?_
                refine AllReadyIn.cons rfl (fun K hK => ?_) AllReadyIn.nil
                go_simp
                refine hK _ _ ?_
                clear hK K
                refine wpAnyIn_done (by kernel_rfl) ?_ _
                exact HU.out ⟨#[], []⟩
              exact AllReadyIn.nil
            exact AllReadyIn.nil
          exact AllReadyIn.nil
        exact AllReadyIn.nil
      exact AllReadyIn.nil
  case done =>
    rintro D W hD ⟨⟨hall, v, v6, hrow, -⟩, v3, v4, v5, hB⟩ hK
    obtain ⟨ad, cap, rfl⟩ := ownsRow_slice hrow
    have c6 := v6.cell
    have c4 := v4.cell
    have c5 := v5.cell
    have f4 := v4.frozen
    have f5 := v5.frozen
    have h4 := v4.lt
    have h5 := v5.lt
    have h6 := v6.lt
    have HV3 := Lib.hid v3
    have HV4 := Lib.hid v4
    have HV5 := Lib.hid v5
    have HRW := Lib.hid hrow
    have HALL := Lib.hid hall
    have HKD := Lib.hid hK
    clear v3 v4 v5 v6 hrow hall hK
    gi_wp2
    have u4 := (HV4.out.set (.slice ad (items S a 0).length cap)).other (B' := n + 1 + 1) (by omega) (.bool true)
    have u5 := (HV5.out.other (B' := n + 1) (by omega) (.slice ad (items S a 0).length cap)).set (.bool true)
    have hKV := ((KeepsOthers.setCell W ⟨n + 1, 0, none⟩ (.slice ad (items S a 0).length cap)).trans (KeepsOthers.setCell _ ⟨n + 1 + 1, 0, none⟩ (.bool true))).same D _ HKD.out rfl
    have hBV : Below n w ((W.setCell ⟨n + 1, 0, none⟩ (.slice ad (items S a 0).length cap)).setCell ⟨n + 1 + 1, 0, none⟩ (.bool true)) := (hB.setCell (p := ⟨n + 1, 0, none⟩) (by simp) _).setCell (p := ⟨n + 1 + 1, 0, none⟩) (by simp; omega) _
    have hrV : World.ownsRow ((W.setCell ⟨n + 1, 0, none⟩ (.slice ad (items S a 0).length cap)).setCell ⟨n + 1 + 1, 0, none⟩ (.bool true)) n 9 1 (.slice ad (items S a 0).length cap) (items S a 0).length (texts (items S a 0)) := by
      have r1 := HRW.out.kept (grownBy_setCell' W (n + 1) (.slice ad (items S a 0).length cap)) (.inr (HV4.out.not_row (by decide) HRW.out).symm)
      exact r1.kept (grownBy_setCell' _ (n + 1 + 1) (.bool true)) (.inr ((HV5.out.other (B' := n + 1) (by omega) (.slice ad (items S a 0).length cap)).not_row (by decide) r1).symm)
    generalize World.setCell _ _ _ = V at *
    have x4 := (u4.kept (grownBy_putObj' V D (.deferred none)) (by simp; omega)).cell
    have x5 := (u5.kept (grownBy_putObj' V D (.deferred none)) (by simp; omega)).cell
    have hrow' := ownsRow_putObj hrV (.deferred none) hKV rfl
    have hB' : Below n w (V.putObj D (.deferred none)) := hBV.trans (belowK_b (w := w) hn1 V D _ _ (by omega) hKV rfl rfl)
    refine ⟨by simp, .inl ⟨_, _, rfl, run_takeDeferred hKV, ?_⟩⟩
    clear c6 c4 c5 f4 f5 h4 h5 h6 u4 u5
    generalize V.putObj D (.deferred none) = V' at *
    exact ⟨.tuple #[.slice ad (items S a 0).length cap, .bool true], by simp [results, Try.results79, go_sem, x4, x5], .inl ⟨HALL.out, _, rfl, by rw [← HNn.out]; exact hrow'⟩, by rw [← HNn.out]; exact hB'⟩
  case stop =>
    rintro D pre W hD hpre ⟨hall, v4, v5, hB⟩ hK
    have HV4 := Lib.hid v4
    have HV5 := Lib.hid v5
    have HKD := Lib.hid hK
    have HALL := Lib.hid hall
    clear v4 v5 hK hall
    gi_wp2
    have x4 := (HV4.out.kept (grownBy_putObj' W D (.deferred none)) (by simp; omega)).cell
    have x5 := (HV5.out.kept (grownBy_putObj' W D (.deferred none)) (by simp; omega)).cell
    have hB' : Below n w (W.putObj D (.deferred none)) := hB.trans (belowK_b (w := w) hn1 W D _ _ (by omega) HKD.out rfl rfl)
    refine ⟨by simp, .inl ⟨_, _, rfl, run_takeDeferred HKD.out, ?_⟩⟩
    generalize W.putObj D (.deferred none) = V' at *
    exact ⟨.tuple #[.slice none 0 0, .bool false], by simp [results, Try.results79, go_sem, x4, x5], .inr ⟨all_prefix hpre HALL.out, rfl⟩, by rw [← HNn.out]; exact hB'⟩
end Go.Proofs.Ytfcopnlpcbbocaa
