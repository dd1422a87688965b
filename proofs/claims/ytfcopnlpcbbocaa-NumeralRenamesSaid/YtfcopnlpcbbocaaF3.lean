/- Contracts: the words of a number with their reasons, collected. -/
import Derived.Test.YtfcopnlpcbbocaaF2
set_option linter.unusedSimpArgs false
set_option linter.unusedVariables false
namespace Go.Proofs.Ytfcopnlpcbbocaa
open Go.RowKit Go.Shelf
attribute [local go_sem] Oper.semAt_some

theorem info50 : (Try.prog.info? 50).map (fun i => (i.zero, i.size, i.bytes)) = some (some (.agg #[.string ByteArray.empty, .int .i64 0, .int .i64 0, .int .i64 0, .int .i64 0, .int .i64 0]), 6, 56) := by kernel_rfl
def ownSaid (t : Nat) : Bool := t == 40 || t == 4 || t == 50
def cellsOf (x : Said) : List Value := [.string x.txt, .int .i64 x.num, .int .i64 x.set, .int .i64 x.rule, .int .i64 x.piece, .int .i64 x.depth]
def saids (l : List Item) : List Value := l.flatMap fun x => cellsOf x.1
theorem cells_new (w : World) (xs : List Value) (t : TypeId) : ∀ j u, xs[j]? = some u → (w.alloc (.cells xs.toArray t)).cell? ((⟨w.heap.size, 0, none⟩ : Addr).add j) = some u := by
  intro j u hj
  have hb := World.alloc_heap_new w (.cells xs.toArray t)
  have e : (⟨w.heap.size, 0, none⟩ : Addr).add j = ⟨w.heap.size, j, none⟩ := by
    unfold Addr.add
    by_cases h : j = 0 <;> simp [h]
  rw [e]
  simp only [World.cell?, hb]
  simpa using hj

set_option maxRecDepth 100000 in
set_option maxHeartbeats 4000000 in
theorem collectSaid_any (S : Sys) (a : Ask) (sb bs ba : Nat) (w : World) (hS : Right S) (ha : AskRight S a) (hs0 : SplAt w sb S)
    (hcs : w.cell? ⟨bs, 0, none⟩ = some (.pointer (some ⟨sb, 0, none⟩))) (hca : AskAt w ba 0 a) (hN : (items S a 0).length ≤ 1000000) :
    Calls Try.prog 82 #[.func (.func 95) #[] #[.pointer (some ⟨bs, 0, none⟩), .pointer (some ⟨ba, 0, none⟩)], .func (.func 83) #[] #[]] w fun e w' =>
      (((items S a 0).all Prod.snd = true ∧ ∃ v, e = .returned (.tuple #[v, .bool true]) ∧ w'.ownsRow w.heap.size 50 6 v (items S a 0).length (saids (items S a 0))) ∨
        ((items S a 0).all Prod.snd = false ∧ e = .returned (.tuple #[.slice none 0 0, .bool false]))) ∧ Below w.heap.size w w' := by
  have HN := Lib.hid hN
  obtain ⟨i0, hi, hz0, hz1, hz2⟩ := info_parts info50
  have HI := Lib.hid hi
  refine (callsIn_wide (n := 6)).1 ?_
  refine callsIn_of_wp_marks Try.func82 rfl trivial ?_ rfl
  simp only [Try.ntmps82, List.size_toArray, List.length_cons, List.length_nil, Nat.reduceAdd, Nat.reduceSub, Array.replicate_succ, Array.replicate_zero, List.push_toArray, List.append_toArray, List.nil_append, List.cons_append]
  clear hN hi
  gi_wp2
  obtain ⟨n, hn⟩ : ∃ n, n = w.heap.size := ⟨_, rfl⟩
  rw [← hn]
  generalize hW4 : World.alloc _ _ = W4
  have hB4 : Below w.heap.size w W4 := by rw [← hW4]; exact bAlloc (bAlloc (bAlloc (bAlloc (Below.refl _ _) _) _) _) _
  have b3 : Boxed W4 n 140 (.func (.func 83) #[] #[]) := by rw [← hW4, hn]; exact (((Boxed.new _ _ _).alloc _).alloc _).alloc _
  have b4 : Boxed W4 (n + 1) 40 (.slice none 0 0) := by
    rw [← hW4, hn]; have := ((Boxed.new (w.alloc (.cells #[.func (.func 83) #[] #[]] 140)) 40 (.slice none 0 0)).alloc (.cells #[.bool false] 4)).alloc (.cells #[.slice none 0 0] 40); simpa using this
  have b5 : Boxed W4 (n + 1 + 1) 4 (.bool false) := by
    rw [← hW4, hn]; have := (Boxed.new ((w.alloc (.cells #[.func (.func 83) #[] #[]] 140)).alloc (.cells #[.slice none 0 0] 40)) 4 (.bool false)).alloc (.cells #[.slice none 0 0] 40); simpa using this
  have b6 : Boxed W4 (n + 1 + 1 + 1) 40 (.slice none 0 0) := by
    rw [← hW4, hn]; have := Boxed.new (((w.alloc (.cells #[.func (.func 83) #[] #[]] 140)).alloc (.cells #[.slice none 0 0] 40)).alloc (.cells #[.bool false] 4)) 40 (.slice none 0 0); simpa using this
  have hsz : W4.heap.size = n + 4 := by rw [← hW4, hn]; simp
  clear hW4
  have hn1 : n ≤ w.heap.size := by omega
  have hn2 : w.heap.size ≤ n := by omega
  have hz1' : W4.heap.size ≤ n + 4 := by omega
  have hz2' : n + 4 ≤ W4.heap.size := by omega
  have HB0 : Below n w W4 := by rw [hn]; exact hB4
  have HNn := Lib.hid hn
  clear hn hsz
  refine wpIn_range_kept (P := Try.prog) (n := 6) (by omega) (gf := 95) (lb := #[.pointer (some ⟨bs, 0, none⟩), .pointer (some ⟨ba, 0, none⟩)]) rfl (enters_of Try.func95 (by kernel_rfl) rfl)
    (words1_says 5 ownSaid S a sb bs ba w W4 hB4 hS ha hs0 hcs hca rfl) (fun h k => Kp.trans h k) (fun W l o o' hl h ho _ => Kp.putObj W l o o' (by omega) h ho) (Below.refl _ _) (fun _ => rfl)
    (fun pre W => (pre.all Prod.snd = true ∧ (∃ v, Boxed W (n + 1 + 1 + 1) 40 v ∧ W.ownsRow n 50 6 v pre.length (saids pre) ∧ True)) ∧ Boxed W n 140 (.func (.func 83) #[] #[]) ∧ Boxed W (n + 1) 40 (.slice none 0 0) ∧ Boxed W (n + 1 + 1) 4 (.bool false) ∧ Below n w W)
    (fun pre W => pre.all Prod.snd = false ∧ Boxed W (n + 1) 40 (.slice none 0 0) ∧ Boxed W (n + 1 + 1) 4 (.bool false) ∧ Below n w W)
    ?hI ?hIx ?h0
    (fun x a' W => ∃ b, WordAt W b x.1 ∧ n + 4 ≤ b ∧ a' = { tmps := #[.func (.func 95) #[] #[.pointer (some ⟨bs, 0, none⟩), .pointer (some ⟨ba, 0, none⟩)], .func (.func 83) #[] #[], undef, .pointer (some ⟨n, 0, none⟩), .pointer (some ⟨n + 1, 0, none⟩), .pointer (some ⟨n + 1 + 1, 0, none⟩), .pointer (some ⟨n + 1 + 1 + 1, 0, none⟩), .pointer (some ⟨b, 0, none⟩), .bool x.2, .func (.func 95) #[] #[.pointer (some ⟨bs, 0, none⟩), .pointer (some ⟨ba, 0, none⟩)], x.1.val, .bool x.2, undef, undef, undef, undef, undef, undef, undef, undef, undef], defers := [] })
    ?hAx ?assign ?body ?done ?stop
  case hI =>
    refine OwnFrom.and (OwnFrom.and (ownFrom_pure _ _) (Own.from (holdsRow_own n (n + 1 + 1 + 1) 40 50 6 (fun pre : List Item => pre.length) (fun pre => saids pre) (fun _ _ => True)) _)) ?_
    exact OwnFrom.and (Own.from (boxed_own _ _ _) _) (OwnFrom.and (Own.from (boxed_own _ _ _) _) (OwnFrom.and (Own.from (boxed_own _ _ _) _) (ownFrom_below (by omega) (by omega))))
  case hIx =>
    exact OwnFrom.and (ownFrom_pure _ _) (OwnFrom.and (Own.from (boxed_own _ _ _) _) (OwnFrom.and (Own.from (boxed_own _ _ _) _) (ownFrom_below (by omega) (by omega))))
  case h0 => exact ⟨⟨rfl, _, b6, World.ownsRow_nil _ _ _ _, trivial⟩, b3, b4, b5, HB0⟩
  case hAx =>
    rintro x a' s X Y row ⟨b, hb, hle, e⟩ hg hr
    refine ⟨b, (hg.block b (Array.getElem?_eq_some_iff.1 hb).1 (fun e' => ?_)).trans hb, hle, e⟩
    obtain ⟨-, o, ho, hc⟩ := hr b e'.symm
    rw [show X.heap[b]? = _ from hb] at ho; cases ho; cases hc
  case assign =>
    rintro l pre x W K ⟨⟨hall, v, v6, hrow, -⟩, v3, v4, v5, hB⟩ hK
    have hsW := hB.size
    have h6 := v6.lt
    unfold encItem Said.val
    gi_wp2
    exact hK _ _ ((KeepsOthers.alloc _ _).from _) (Kp.of_below (bAlloc (Below.refl _ _) _) (by omega)) ⟨⟨hall, v, v6.alloc _, hrow.alloc _, trivial⟩, v3.alloc _, v4.alloc _, v5.alloc _, hB.alloc (by omega) _⟩ ⟨W.heap.size, World.alloc_heap_new _ _, by omega, rfl⟩
  case body =>
    rintro l pre x a' W ⟨⟨hall, v, v6, hrow, -⟩, v3, v4, v5, hB⟩ ⟨b, hb, hle, rfl⟩ hlen
    have hsW := hB.size
    have hbl : b < W.heap.size := (Array.getElem?_eq_some_iff.1 hb).1
    obtain ⟨x, ok⟩ := x
    simp only at hb ⊢
    cases ok
    · have c4 := v4.cell
      have c5 := v5.cell
      have f4 := v4.frozen
      have f5 := v5.frozen
      have h4 := v4.lt
      have h5 := v5.lt
      clear hrow hb v3 v6
      have HV4 := Lib.hid v4
      have HV5 := Lib.hid v5
      have HBX := Lib.hid hB
      clear v4 v5 hB
      gi_wp2
      have u4 := HV4.out.set (.slice none 0 0)
      have u5 := HV5.out.other (B' := n + 1) (by omega) (.slice none 0 0)
      exact ⟨((KeepsOthers.setCell _ _ _).trans (KeepsOthers.setCell _ _ _)).from _, (Kp.setCell HV4.out rfl (by omega) _).trans (Kp.setCell u5 rfl (by omega) _), by simp, u4.other (by omega) _, u5.set _, (HBX.out.setCell (p := ⟨n + 1, 0, none⟩) (by simp) _).setCell (p := ⟨n + 1 + 1, 0, none⟩) (by simp; omega) _⟩
    · have c3 := v3.cell
      have c6 := v6.cell
      have f6 := v6.frozen
      have h3 := v3.lt
      have h6 := v6.lt
      have d0 : W.cell? ⟨b, 0, none⟩ = some (.string x.txt) := by simp [World.cell?, show W.heap[b]? = _ from hb]
      have d1 : W.cell? ⟨b, 1, none⟩ = some (.int .i64 x.num) := by simp [World.cell?, show W.heap[b]? = _ from hb]
      have d2 : W.cell? ⟨b, 2, none⟩ = some (.int .i64 x.set) := by simp [World.cell?, show W.heap[b]? = _ from hb]
      have d3 : W.cell? ⟨b, 3, none⟩ = some (.int .i64 x.rule) := by simp [World.cell?, show W.heap[b]? = _ from hb]
      have d4 : W.cell? ⟨b, 4, none⟩ = some (.int .i64 x.piece) := by simp [World.cell?, show W.heap[b]? = _ from hb]
      have d5 : W.cell? ⟨b, 5, none⟩ = some (.int .i64 x.depth) := by simp [World.cell?, show W.heap[b]? = _ from hb]
      have HV3 := Lib.hid v3
      have HV4 := Lib.hid v4
      have HV5 := Lib.hid v5
      have HV6 := Lib.hid v6
      have HRW := Lib.hid hrow
      have HBX := Lib.hid hB
      have HALL := Lib.hid hall
      have HW := Lib.hid hb
      clear v3 v4 v5 v6 hrow hB hall hb
      have hmx : Try.prog.follows .mixedOrders = true := by kernel_rfl
      gi_wp2
      have hcall : ∀ V : World, Calls Try.prog 83 #[.agg #[.string x.txt, .int .i64 x.num, .int .i64 x.set, .int .i64 x.rule, .int .i64 x.piece, .int .i64 x.depth]] V fun e w' => e = .returned (.agg #[.string x.txt, .int .i64 x.num, .int .i64 x.set, .int .i64 x.rule, .int .i64 x.piece, .int .i64 x.depth]) ∧ Below V.heap.size V w' := fun V => whole_any x V
      have HC := Lib.hid hcall
      clear hcall
      have hm1 : pre.length + 1 ≤ maxLen := by have := HN.out; unfold maxLen; omega
      have hm2 : (pre.length + 1) * 56 ≤ 140737488355328 := by have := HN.out; omega
      have HM1 := Lib.hid hm1
      have HM2 := Lib.hid hm2
      clear hm1 hm2
      refine wpIn_region_any hmx ?_
      change wpAnyIn _ _ _ _ _ _ _ _ _ (World.drew _)
      have hBU : Below W.heap.size W W.drew := (Below.refl _ _).drew
      generalize W.drew = U at *
      have c3 := keep hBU c3
      have c6 := keep hBU c6
      have d0 := keep hBU d0
      have d1 := keep hBU d1
      have d2 := keep hBU d2
      have d3 := keep hBU d3
      have d4 := keep hBU d4
      have d5 := keep hBU d5
      have HBU := Lib.hid hBU
      clear hBU f6 h3 h6 hbl hmx
      refine wpAnyIn_ready (rs := [0, 1, 2]) (by kernel_rfl) (by simp) ?_
      refine AllReadyIn.cons rfl (fun K hK => ?_) ?_
      · go_simp
        refine hK _ _ ?_
        clear hK K
        refine wpAnyIn_ready (rs := [1, 2]) (by kernel_rfl) (by simp) ?_
        refine AllReadyIn.cons rfl (fun K hK => ?_) ?_
        · go_simp
          refine hK _ _ ?_
          clear hK K
          refine wpAnyIn_ready (rs := [2]) (by kernel_rfl) (by simp) ?_
          refine AllReadyIn.cons rfl (fun K hK => ?_) ?_
          · go_simp
            refine hK _ _ ?_
            clear hK K
            refine wpAnyIn_ready (rs := [3]) (by kernel_rfl) (by simp) ?_
            refine AllReadyIn.cons rfl (fun K hK => ?_) ?_
            · go_simp
              gi_wp2_with (refine ⟨trivial, ?_⟩; gi_at_call 83; refine (CallsIn.inRound l (callsIn_wide.2 (HC.out _))).mono ?_; rintro e w1 ⟨rfl, hb'⟩; have e6 := keep hb' c6; have hsz1 := hb'.size; have HB1 := Lib.hid (bThen HBU.out hb'); clear hb'; have hl6 := cell_lt e6)
              refine wpAnyIn_ready (rs := [4]) (by kernel_rfl) (by simp) ?_
              refine AllReadyIn.cons rfl (fun K hK => ?_) ?_
              · go_simp
                refine hK _ _ ?_
                clear hK K
                refine wpAnyIn_ready (rs := [5]) (by kernel_rfl) (by simp) ?_
                refine AllReadyIn.cons rfl (fun K hK => ?_) AllReadyIn.nil
                have hrow1 := ownsRow_below HRW.out HB1.out
                have hle1 : n ≤ w1.heap.size := by have := HB1.out.size; omega
                refine step_append_in rfl _ _ 40 rfl n 50 i0 (.agg #[.string ByteArray.empty, .int .i64 0, .int .i64 0, .int .i64 0, .int .i64 0, .int .i64 0]) 6 56 Try.underlying40 HI.out hz0 hz1 hz2 rfl (by decide) v pre.length (saids pre) rfl (hrow1.alloc _) ⟨w1.heap.size, 0, none⟩ 1 1 [.string x.txt, .int .i64 x.num, .int .i64 x.set, .int .i64 x.rule, .int .i64 x.piece, .int .i64 x.depth] rfl rfl (cells_new _ _ _) (by simp [Value.oneCell']) HM1.out HM2.out (by simp; omega) ?_
                intro v' w2 hown' hgrow
                refine hK _ _ ?_
                clear hK K
                obtain ⟨g', cap', rfl⟩ := ownsRow_succ hown'
                have hv6 : Boxed w1 (n + 1 + 1 + 1) 40 v := heap_keep HB1.out HV6.out
                obtain ⟨hv1, hv2, hr2, hk2, hb2⟩ := Boxed.appended hv6 (by decide) hrow1 hle1 (by omega) hown' hgrow
                have hc1 := hv1.cell
                have hf1 := hv1.frozen
                have HU := Lib.hid (show ∀ A : Act, leaves W4.heap.size (Kp w.heap.size ownSaid) (fun pre W => (pre.all Prod.snd = true ∧ (∃ v, Boxed W (n + 1 + 1 + 1) 40 v ∧ W.ownsRow n 50 6 v pre.length (saids pre) ∧ True)) ∧ Boxed W n 140 (.func (.func 83) #[] #[]) ∧ Boxed W (n + 1) 40 (.slice none 0 0) ∧ Boxed W (n + 1 + 1) 4 (.bool false) ∧ Below n w W) (fun pre W => pre.all Prod.snd = false ∧ Boxed W (n + 1) 40 (.slice none 0 0) ∧ Boxed W (n + 1 + 1) 4 (.bool false) ∧ Below n w W) (pre ++ [(x, true)]) W .normal A (w2.setCell ⟨n + 1 + 1 + 1, 0, none⟩ (.slice (some ⟨g', 0, none⟩) (pre.length + 1) cap')) from fun _ =>
                  ⟨((others_below HB1.out).trans hk2).from _, (Kp.of_below HB1.out (by omega)).trans ((Kp.appended hv6 hrow1 rfl rfl hgrow hb2).mono hn2),
                    ⟨by have := HALL.out; simp [this], _, hv2, by simpa [saids, cellsOf] using hr2, trivial⟩, Boxed.past (heap_keep HB1.out HV3.out) (by decide) hrow1 hgrow (by omega) _, Boxed.past (heap_keep HB1.out HV4.out) (by decide) hrow1 hgrow (by omega) _, Boxed.past (heap_keep HB1.out HV5.out) (by decide) hrow1 hgrow (by omega) _, HBX.out.trans ((HB1.out.mono (by omega)).trans hb2)⟩)
                clear hown' hgrow hv1 hv2 hr2 hk2 hb2
                refine wpAnyIn_ready (rs := [6]) (by kernel_rfl) (by simp) ?_
                refine AllReadyIn.cons rfl (fun K hK => ?_) AllReadyIn.nil
                go_simp
                refine hK _ _ ?_
                clear hK K
                refine wpAnyIn_done (by kernel_rfl) ?_ _
                exact HU.out ⟨#[], []⟩
              exact AllReadyIn.nil
            exact AllReadyIn.nil
          exact AllReadyIn.nil
        refine AllReadyIn.cons rfl (fun K hK => ?_) ?_
        · go_simp
          refine hK _ _ ?_
          clear hK K
          refine wpAnyIn_ready (rs := [1]) (by kernel_rfl) (by simp) ?_
          refine AllReadyIn.cons rfl (fun K hK => ?_) ?_
          · go_simp
            refine hK _ _ ?_
            clear hK K
            refine wpAnyIn_ready (rs := [3]) (by kernel_rfl) (by simp) ?_
            refine AllReadyIn.cons rfl (fun K hK => ?_) ?_
            · go_simp
              gi_wp2_with (refine ⟨trivial, ?_⟩; gi_at_call 83; refine (CallsIn.inRound l (callsIn_wide.2 (HC.out _))).mono ?_; rintro e w1 ⟨rfl, hb'⟩; have e6 := keep hb' c6; have hsz1 := hb'.size; have HB1 := Lib.hid (bThen HBU.out hb'); clear hb'; have hl6 := cell_lt e6)
              refine wpAnyIn_ready (rs := [4]) (by kernel_rfl) (by simp) ?_
              refine AllReadyIn.cons rfl (fun K hK => ?_) ?_
              · go_simp
                refine hK _ _ ?_
                clear hK K
                refine wpAnyIn_ready (rs := [5]) (by kernel_rfl) (by simp) ?_
                refine AllReadyIn.cons rfl (fun K hK => ?_) AllReadyIn.nil
                have hrow1 := ownsRow_below HRW.out HB1.out
                have hle1 : n ≤ w1.heap.size := by have := HB1.out.size; omega
                refine step_append_in rfl _ _ 40 rfl n 50 i0 (.agg #[.string ByteArray.empty, .int .i64 0, .int .i64 0, .int .i64 0, .int .i64 0, .int .i64 0]) 6 56 Try.underlying40 HI.out hz0 hz1 hz2 rfl (by decide) v pre.length (saids pre) rfl (hrow1.alloc _) ⟨w1.heap.size, 0, none⟩ 1 1 [.string x.txt, .int .i64 x.num, .int .i64 x.set, .int .i64 x.rule, .int .i64 x.piece, .int .i64 x.depth] rfl rfl (cells_new _ _ _) (by simp [Value.oneCell']) HM1.out HM2.out (by simp; omega) ?_
                intro v' w2 hown' hgrow
                refine hK _ _ ?_
                clear hK K
                obtain ⟨g', cap', rfl⟩ := ownsRow_succ hown'
                have hv6 : Boxed w1 (n + 1 + 1 + 1) 40 v := heap_keep HB1.out HV6.out
                obtain ⟨hv1, hv2, hr2, hk2, hb2⟩ := Boxed.appended hv6 (by decide) hrow1 hle1 (by omega) hown' hgrow
                have hc1 := hv1.cell
                have hf1 := hv1.frozen
                have HU := Lib.hid (show ∀ A : Act, leaves W4.heap.size (Kp w.heap.size ownSaid) (fun pre W => (pre.all Prod.snd = true ∧ (∃ v, Boxed W (n + 1 + 1 + 1) 40 v ∧ W.ownsRow n 50 6 v pre.length (saids pre) ∧ True)) ∧ Boxed W n 140 (.func (.func 83) #[] #[]) ∧ Boxed W (n + 1) 40 (.slice none 0 0) ∧ Boxed W (n + 1 + 1) 4 (.bool false) ∧ Below n w W) (fun pre W => pre.all Prod.snd = false ∧ Boxed W (n + 1) 40 (.slice none 0 0) ∧ Boxed W (n + 1 + 1) 4 (.bool false) ∧ Below n w W) (pre ++ [(x, true)]) W .normal A (w2.setCell ⟨n + 1 + 1 + 1, 0, none⟩ (.slice (some ⟨g', 0, none⟩) (pre.length + 1) cap')) from fun _ =>
                  ⟨((others_below HB1.out).trans hk2).from _, (Kp.of_below HB1.out (by omega)).trans ((Kp.appended hv6 hrow1 rfl rfl hgrow hb2).mono hn2),
                    ⟨by have := HALL.out; simp [this], _, hv2, by simpa [saids, cellsOf] using hr2, trivial⟩, Boxed.past (heap_keep HB1.out HV3.out) (by decide) hrow1 hgrow (by omega) _, Boxed.past (heap_keep HB1.out HV4.out) (by decide) hrow1 hgrow (by omega) _, Boxed.past (heap_keep HB1.out HV5.out) (by decide) hrow1 hgrow (by omega) _, HBX.out.trans ((HB1.out.mono (by omega)).trans hb2)⟩)
                clear hown' hgrow hv1 hv2 hr2 hk2 hb2
                refine wpAnyIn_ready (rs := [6]) (by kernel_rfl) (by simp) ?_
                refine AllReadyIn.cons rfl (fun K hK => ?_) AllReadyIn.nil
                go_simp
                refine hK _ _ ?_
                clear hK K
                refine wpAnyIn_done (by kernel_rfl) ?_ _
                exact HU.out ⟨#[], []⟩
              exact AllReadyIn.nil
            exact AllReadyIn.nil
          exact AllReadyIn.nil
        exact AllReadyIn.nil
      refine AllReadyIn.cons rfl (fun K hK => ?_) ?_
      · go_simp
        refine hK _ _ ?_
        clear hK K
        refine wpAnyIn_ready (rs := [0, 2]) (by kernel_rfl) (by simp) ?_
        refine AllReadyIn.cons rfl (fun K hK => ?_) ?_
        · go_simp
          refine hK _ _ ?_
          clear hK K
          refine wpAnyIn_ready (rs := [2]) (by kernel_rfl) (by simp) ?_
          refine AllReadyIn.cons rfl (fun K hK => ?_) ?_
          · go_simp
            refine hK _ _ ?_
            clear hK K
            refine wpAnyIn_ready (rs := [3]) (by kernel_rfl) (by simp) ?_
            refine AllReadyIn.cons rfl (fun K hK => ?_) ?_
            · go_simp
              gi_wp2_with (refine ⟨trivial, ?_⟩; gi_at_call 83; refine (CallsIn.inRound l (callsIn_wide.2 (HC.out _))).mono ?_; rintro e w1 ⟨rfl, hb'⟩; have e6 := keep hb' c6; have hsz1 := hb'.size; have HB1 := Lib.hid (bThen HBU.out hb'); clear hb'; have hl6 := cell_lt e6)
              refine wpAnyIn_ready (rs := [4]) (by kernel_rfl) (by simp) ?_
              refine AllReadyIn.cons rfl (fun K hK => ?_) ?_
              · go_simp
                refine hK _ _ ?_
                clear hK K
                refine wpAnyIn_ready (rs := [5]) (by kernel_rfl) (by simp) ?_
                refine AllReadyIn.cons rfl (fun K hK => ?_) AllReadyIn.nil
                have hrow1 := ownsRow_below HRW.out HB1.out
                have hle1 : n ≤ w1.heap.size := by have := HB1.out.size; omega
                refine step_append_in rfl _ _ 40 rfl n 50 i0 (.agg #[.string ByteArray.empty, .int .i64 0, .int .i64 0, .int .i64 0, .int .i64 0, .int .i64 0]) 6 56 Try.underlying40 HI.out hz0 hz1 hz2 rfl (by decide) v pre.length (saids pre) rfl (hrow1.alloc _) ⟨w1.heap.size, 0, none⟩ 1 1 [.string x.txt, .int .i64 x.num, .int .i64 x.set, .int .i64 x.rule, .int .i64 x.piece, .int .i64 x.depth] rfl rfl (cells_new _ _ _) (by simp [Value.oneCell']) HM1.out HM2.out (by simp; omega) ?_
                intro v' w2 hown' hgrow
                refine hK _ _ ?_
                clear hK K
                obtain ⟨g', cap', rfl⟩ := ownsRow_succ hown'
                have hv6 : Boxed w1 (n + 1 + 1 + 1) 40 v := heap_keep HB1.out HV6.out
                obtain ⟨hv1, hv2, hr2, hk2, hb2⟩ := Boxed.appended hv6 (by decide) hrow1 hle1 (by omega) hown' hgrow
                have hc1 := hv1.cell
                have hf1 := hv1.frozen
                have HU := Lib.hid (show ∀ A : Act, leaves W4.heap.size (Kp w.heap.size ownSaid) (fun pre W => (pre.all Prod.snd = true ∧ (∃ v, Boxed W (n + 1 + 1 + 1) 40 v ∧ W.ownsRow n 50 6 v pre.length (saids pre) ∧ True)) ∧ Boxed W n 140 (.func (.func 83) #[] #[]) ∧ Boxed W (n + 1) 40 (.slice none 0 0) ∧ Boxed W (n + 1 + 1) 4 (.bool false) ∧ Below n w W) (fun pre W => pre.all Prod.snd = false ∧ Boxed W (n + 1) 40 (.slice none 0 0) ∧ Boxed W (n + 1 + 1) 4 (.bool false) ∧ Below n w W) (pre ++ [(x, true)]) W .normal A (w2.setCell ⟨n + 1 + 1 + 1, 0, none⟩ (.slice (some ⟨g', 0, none⟩) (pre.length + 1) cap')) from fun _ =>
                  ⟨((others_below HB1.out).trans hk2).from _, (Kp.of_below HB1.out (by omega)).trans ((Kp.appended hv6 hrow1 rfl rfl hgrow hb2).mono hn2),
                    ⟨by have := HALL.out; simp [this], _, hv2, by simpa [saids, cellsOf] using hr2, trivial⟩, Boxed.past (heap_keep HB1.out HV3.out) (by decide) hrow1 hgrow (by omega) _, Boxed.past (heap_keep HB1.out HV4.out) (by decide) hrow1 hgrow (by omega) _, Boxed.past (heap_keep HB1.out HV5.out) (by decide) hrow1 hgrow (by omega) _, HBX.out.trans ((HB1.out.mono (by omega)).trans hb2)⟩)
                clear hown' hgrow hv1 hv2 hr2 hk2 hb2
                refine wpAnyIn_ready (rs := [6]) (by kernel_rfl) (by simp) ?_
                refine AllReadyIn.cons rfl (fun K hK => ?_) AllReadyIn.nil
                go_simp
                refine hK _ _ ?_
                clear hK K
                refine wpAnyIn_done (by kernel_rfl) ?_ _
                exact HU.out ⟨#[], []⟩
              exact AllReadyIn.nil
            exact AllReadyIn.nil
          exact AllReadyIn.nil
        refine AllReadyIn.cons rfl (fun K hK => ?_) ?_
        · go_simp
          refine hK _ _ ?_
          clear hK K
          refine wpAnyIn_ready (rs := [0, 3]) (by kernel_rfl) (by simp) ?_
          refine AllReadyIn.cons rfl (fun K hK => ?_) ?_
          · go_simp
            refine hK _ _ ?_
            clear hK K
            refine wpAnyIn_ready (rs := [3]) (by kernel_rfl) (by simp) ?_
            refine AllReadyIn.cons rfl (fun K hK => ?_) ?_
            · go_simp
              gi_wp2_with (refine ⟨trivial, ?_⟩; gi_at_call 83; refine (CallsIn.inRound l (callsIn_wide.2 (HC.out _))).mono ?_; rintro e w1 ⟨rfl, hb'⟩; have e6 := keep hb' c6; have hsz1 := hb'.size; have HB1 := Lib.hid (bThen HBU.out hb'); clear hb'; have hl6 := cell_lt e6)
              refine wpAnyIn_ready (rs := [4]) (by kernel_rfl) (by simp) ?_
              refine AllReadyIn.cons rfl (fun K hK => ?_) ?_
              · go_simp
                refine hK _ _ ?_
                clear hK K
                refine wpAnyIn_ready (rs := [5]) (by kernel_rfl) (by simp) ?_
                refine AllReadyIn.cons rfl (fun K hK => ?_) AllReadyIn.nil
                have hrow1 := ownsRow_below HRW.out HB1.out
                have hle1 : n ≤ w1.heap.size := by have := HB1.out.size; omega
                refine step_append_in rfl _ _ 40 rfl n 50 i0 (.agg #[.string ByteArray.empty, .int .i64 0, .int .i64 0, .int .i64 0, .int .i64 0, .int .i64 0]) 6 56 Try.underlying40 HI.out hz0 hz1 hz2 rfl (by decide) v pre.length (saids pre) rfl (hrow1.alloc _) ⟨w1.heap.size, 0, none⟩ 1 1 [.string x.txt, .int .i64 x.num, .int .i64 x.set, .int .i64 x.rule, .int .i64 x.piece, .int .i64 x.depth] rfl rfl (cells_new _ _ _) (by simp [Value.oneCell']) HM1.out HM2.out (by simp; omega) ?_
                intro v' w2 hown' hgrow
                refine hK _ _ ?_
                clear hK K
                obtain ⟨g', cap', rfl⟩ := ownsRow_succ hown'
                have hv6 : Boxed w1 (n + 1 + 1 + 1) 40 v := heap_keep HB1.out HV6.out
                obtain ⟨hv1, hv2, hr2, hk2, hb2⟩ := Boxed.appended hv6 (by decide) hrow1 hle1 (by omega) hown' hgrow
                have hc1 := hv1.cell
                have hf1 := hv1.frozen
                have HU := Lib.hid (show ∀ A : Act, leaves W4.heap.size (Kp w.heap.size ownSaid) (fun pre W => (pre.all Prod.snd = true ∧ (∃ v, Boxed W (n + 1 + 1 + 1) 40 v ∧ W.ownsRow n 50 6 v pre.length (saids pre) ∧ True)) ∧ Boxed W n 140 (.func (.func 83) #[] #[]) ∧ Boxed W (n + 1) 40 (.slice none 0 0) ∧ Boxed W (n + 1 + 1) 4 (.bool false) ∧ Below n w W) (fun pre W => pre.all Prod.snd = false ∧ Boxed W (n + 1) 40 (.slice none 0 0) ∧ Boxed W (n + 1 + 1) 4 (.bool false) ∧ Below n w W) (pre ++ [(x, true)]) W .normal A (w2.setCell ⟨n + 1 + 1 + 1, 0, none⟩ (.slice (some ⟨g', 0, none⟩) (pre.length + 1) cap')) from fun _ =>
                  ⟨((others_below HB1.out).trans hk2).from _, (Kp.of_below HB1.out (by omega)).trans ((Kp.appended hv6 hrow1 rfl rfl hgrow hb2).mono hn2),
                    ⟨by have := HALL.out; simp [this], _, hv2, by simpa [saids, cellsOf] using hr2, trivial⟩, Boxed.past (heap_keep HB1.out HV3.out) (by decide) hrow1 hgrow (by omega) _, Boxed.past (heap_keep HB1.out HV4.out) (by decide) hrow1 hgrow (by omega) _, Boxed.past (heap_keep HB1.out HV5.out) (by decide) hrow1 hgrow (by omega) _, HBX.out.trans ((HB1.out.mono (by omega)).trans hb2)⟩)
                clear hown' hgrow hv1 hv2 hr2 hk2 hb2
                refine wpAnyIn_ready (rs := [6]) (by kernel_rfl) (by simp) ?_
                refine AllReadyIn.cons rfl (fun K hK => ?_) AllReadyIn.nil
                go_simp
                refine hK _ _ ?_
                clear hK K
                refine wpAnyIn_done (by kernel_rfl) ?_ _
                exact HU.out ⟨#[], []⟩
              exact AllReadyIn.nil
            exact AllReadyIn.nil
          refine AllReadyIn.cons rfl (fun K hK => ?_) ?_
          · go_simp
            gi_wp2_with (refine ⟨trivial, ?_⟩; gi_at_call 83; refine (CallsIn.inRound l (callsIn_wide.2 (HC.out _))).mono ?_; rintro e w1 ⟨rfl, hb'⟩; have e6 := keep hb' c6; have hsz1 := hb'.size; have HB1 := Lib.hid (bThen HBU.out hb'); clear hb'; have hl6 := cell_lt e6)
            refine wpAnyIn_ready (rs := [0, 4]) (by kernel_rfl) (by simp) ?_
            refine AllReadyIn.cons rfl (fun K hK => ?_) ?_
            · go_simp
              refine hK _ _ ?_
              clear hK K
              refine wpAnyIn_ready (rs := [4]) (by kernel_rfl) (by simp) ?_
              refine AllReadyIn.cons rfl (fun K hK => ?_) ?_
              · go_simp
                refine hK _ _ ?_
                clear hK K
                refine wpAnyIn_ready (rs := [5]) (by kernel_rfl) (by simp) ?_
                refine AllReadyIn.cons rfl (fun K hK => ?_) AllReadyIn.nil
                have hrow1 := ownsRow_below HRW.out HB1.out
                have hle1 : n ≤ w1.heap.size := by have := HB1.out.size; omega
                refine step_append_in rfl _ _ 40 rfl n 50 i0 (.agg #[.string ByteArray.empty, .int .i64 0, .int .i64 0, .int .i64 0, .int .i64 0, .int .i64 0]) 6 56 Try.underlying40 HI.out hz0 hz1 hz2 rfl (by decide) v pre.length (saids pre) rfl (hrow1.alloc _) ⟨w1.heap.size, 0, none⟩ 1 1 [.string x.txt, .int .i64 x.num, .int .i64 x.set, .int .i64 x.rule, .int .i64 x.piece, .int .i64 x.depth] rfl rfl (cells_new _ _ _) (by simp [Value.oneCell']) HM1.out HM2.out (by simp; omega) ?_
                intro v' w2 hown' hgrow
                refine hK _ _ ?_
                clear hK K
                obtain ⟨g', cap', rfl⟩ := ownsRow_succ hown'
                have hv6 : Boxed w1 (n + 1 + 1 + 1) 40 v := heap_keep HB1.out HV6.out
                obtain ⟨hv1, hv2, hr2, hk2, hb2⟩ := Boxed.appended hv6 (by decide) hrow1 hle1 (by omega) hown' hgrow
                have hc1 := hv1.cell
                have hf1 := hv1.frozen
                have HU := Lib.hid (show ∀ A : Act, leaves W4.heap.size (Kp w.heap.size ownSaid) (fun pre W => (pre.all Prod.snd = true ∧ (∃ v, Boxed W (n + 1 + 1 + 1) 40 v ∧ W.ownsRow n 50 6 v pre.length (saids pre) ∧ True)) ∧ Boxed W n 140 (.func (.func 83) #[] #[]) ∧ Boxed W (n + 1) 40 (.slice none 0 0) ∧ Boxed W (n + 1 + 1) 4 (.bool false) ∧ Below n w W) (fun pre W => pre.all Prod.snd = false ∧ Boxed W (n + 1) 40 (.slice none 0 0) ∧ Boxed W (n + 1 + 1) 4 (.bool false) ∧ Below n w W) (pre ++ [(x, true)]) W .normal A (w2.setCell ⟨n + 1 + 1 + 1, 0, none⟩ (.slice (some ⟨g', 0, none⟩) (pre.length + 1) cap')) from fun _ =>
                  ⟨((others_below HB1.out).trans hk2).from _, (Kp.of_below HB1.out (by omega)).trans ((Kp.appended hv6 hrow1 rfl rfl hgrow hb2).mono hn2),
                    ⟨by have := HALL.out; simp [this], _, hv2, by simpa [saids, cellsOf] using hr2, trivial⟩, Boxed.past (heap_keep HB1.out HV3.out) (by decide) hrow1 hgrow (by omega) _, Boxed.past (heap_keep HB1.out HV4.out) (by decide) hrow1 hgrow (by omega) _, Boxed.past (heap_keep HB1.out HV5.out) (by decide) hrow1 hgrow (by omega) _, HBX.out.trans ((HB1.out.mono (by omega)).trans hb2)⟩)
                clear hown' hgrow hv1 hv2 hr2 hk2 hb2
                refine wpAnyIn_ready (rs := [6]) (by kernel_rfl) (by simp) ?_
                refine AllReadyIn.cons rfl (fun K hK => ?_) AllReadyIn.nil
                go_simp
                refine hK _ _ ?_
                clear hK K
                refine wpAnyIn_done (by kernel_rfl) ?_ _
                exact HU.out ⟨#[], []⟩
              exact AllReadyIn.nil
            refine AllReadyIn.cons rfl (fun K hK => ?_) ?_
            · go_simp
              refine hK _ _ ?_
              clear hK K
              refine wpAnyIn_ready (rs := [0]) (by kernel_rfl) (by simp) ?_
              refine AllReadyIn.cons rfl (fun K hK => ?_) ?_
              · go_simp
                refine hK _ _ ?_
                clear hK K
                refine wpAnyIn_ready (rs := [5]) (by kernel_rfl) (by simp) ?_
                refine AllReadyIn.cons rfl (fun K hK => ?_) AllReadyIn.nil
                have hrow1 := ownsRow_below HRW.out HB1.out
                have hle1 : n ≤ w1.heap.size := by have := HB1.out.size; omega
                refine step_append_in rfl _ _ 40 rfl n 50 i0 (.agg #[.string ByteArray.empty, .int .i64 0, .int .i64 0, .int .i64 0, .int .i64 0, .int .i64 0]) 6 56 Try.underlying40 HI.out hz0 hz1 hz2 rfl (by decide) v pre.length (saids pre) rfl (hrow1.alloc _) ⟨w1.heap.size, 0, none⟩ 1 1 [.string x.txt, .int .i64 x.num, .int .i64 x.set, .int .i64 x.rule, .int .i64 x.piece, .int .i64 x.depth] rfl rfl (cells_new _ _ _) (by simp [Value.oneCell']) HM1.out HM2.out (by simp; omega) ?_
                intro v' w2 hown' hgrow
                refine hK _ _ ?_
                clear hK K
                obtain ⟨g', cap', rfl⟩ := ownsRow_succ hown'
                have hv6 : Boxed w1 (n + 1 + 1 + 1) 40 v := heap_keep HB1.out HV6.out
                obtain ⟨hv1, hv2, hr2, hk2, hb2⟩ := Boxed.appended hv6 (by decide) hrow1 hle1 (by omega) hown' hgrow
                have hc1 := hv1.cell
                have hf1 := hv1.frozen
                have HU := Lib.hid (show ∀ A : Act, leaves W4.heap.size (Kp w.heap.size ownSaid) (fun pre W => (pre.all Prod.snd = true ∧ (∃ v, Boxed W (n + 1 + 1 + 1) 40 v ∧ W.ownsRow n 50 6 v pre.length (saids pre) ∧ True)) ∧ Boxed W n 140 (.func (.func 83) #[] #[]) ∧ Boxed W (n + 1) 40 (.slice none 0 0) ∧ Boxed W (n + 1 + 1) 4 (.bool false) ∧ Below n w W) (fun pre W => pre.all Prod.snd = false ∧ Boxed W (n + 1) 40 (.slice none 0 0) ∧ Boxed W (n + 1 + 1) 4 (.bool false) ∧ Below n w W) (pre ++ [(x, true)]) W .normal A (w2.setCell ⟨n + 1 + 1 + 1, 0, none⟩ (.slice (some ⟨g', 0, none⟩) (pre.length + 1) cap')) from fun _ =>
                  ⟨((others_below HB1.out).trans hk2).from _, (Kp.of_below HB1.out (by omega)).trans ((Kp.appended hv6 hrow1 rfl rfl hgrow hb2).mono hn2),
                    ⟨by have := HALL.out; simp [this], _, hv2, by simpa [saids, cellsOf] using hr2, trivial⟩, Boxed.past (heap_keep HB1.out HV3.out) (by decide) hrow1 hgrow (by omega) _, Boxed.past (heap_keep HB1.out HV4.out) (by decide) hrow1 hgrow (by omega) _, Boxed.past (heap_keep HB1.out HV5.out) (by decide) hrow1 hgrow (by omega) _, HBX.out.trans ((HB1.out.mono (by omega)).trans hb2)⟩)
                clear hown' hgrow hv1 hv2 hr2 hk2 hb2
                refine wpAnyIn_ready (rs := [6]) (by kernel_rfl) (by simp) ?_
                refine AllReadyIn.cons rfl (fun K hK => ?_) AllReadyIn.nil
                go_simp
                refine hK _ _ ?_
                clear hK K
                refine wpAnyIn_done (by kernel_rfl) ?_ _
                exact HU.out ⟨#[], []⟩
              exact AllReadyIn.nil
            exact AllReadyIn.nil
          exact AllReadyIn.nil
        exact AllReadyIn.nil
      refine AllReadyIn.cons rfl (fun K hK => ?_) ?_
      · go_simp
        refine hK _ _ ?_
        clear hK K
        refine wpAnyIn_ready (rs := [0, 1]) (by kernel_rfl) (by simp) ?_
        refine AllReadyIn.cons rfl (fun K hK => ?_) ?_
        · go_simp
          refine hK _ _ ?_
          clear hK K
          refine wpAnyIn_ready (rs := [1]) (by kernel_rfl) (by simp) ?_
          refine AllReadyIn.cons rfl (fun K hK => ?_) ?_
          · go_simp
            refine hK _ _ ?_
            clear hK K
            refine wpAnyIn_ready (rs := [3]) (by kernel_rfl) (by simp) ?_
            refine AllReadyIn.cons rfl (fun K hK => ?_) ?_
            · go_simp
              gi_wp2_with (refine ⟨trivial, ?_⟩; gi_at_call 83; refine (CallsIn.inRound l (callsIn_wide.2 (HC.out _))).mono ?_; rintro e w1 ⟨rfl, hb'⟩; have e6 := keep hb' c6; have hsz1 := hb'.size; have HB1 := Lib.hid (bThen HBU.out hb'); clear hb'; have hl6 := cell_lt e6)
              refine wpAnyIn_ready (rs := [4]) (by kernel_rfl) (by simp) ?_
              refine AllReadyIn.cons rfl (fun K hK => ?_) ?_
              · go_simp
                refine hK _ _ ?_
                clear hK K
                refine wpAnyIn_ready (rs := [5]) (by kernel_rfl) (by simp) ?_
                refine AllReadyIn.cons rfl (fun K hK => ?_) AllReadyIn.nil
                have hrow1 := ownsRow_below HRW.out HB1.out
                have hle1 : n ≤ w1.heap.size := by have := HB1.out.size; omega
                refine step_append_in rfl _ _ 40 rfl n 50 i0 (.agg #[.string ByteArray.empty, .int .i64 0, .int .i64 0, .int .i64 0, .int .i64 0, .int .i64 0]) 6 56 Try.underlying40 HI.out hz0 hz1 hz2 rfl (by decide) v pre.length (saids pre) rfl (hrow1.alloc _) ⟨w1.heap.size, 0, none⟩ 1 1 [.string x.txt, .int .i64 x.num, .int .i64 x.set, .int .i64 x.rule, .int .i64 x.piece, .int .i64 x.depth] rfl rfl (cells_new _ _ _) (by simp [Value.oneCell']) HM1.out HM2.out (by simp; omega) ?_
                intro v' w2 hown' hgrow
                refine hK _ _ ?_
                clear hK K
                obtain ⟨g', cap', rfl⟩ := ownsRow_succ hown'
                have hv6 : Boxed w1 (n + 1 + 1 + 1) 40 v := heap_keep HB1.out HV6.out
                obtain ⟨hv1, hv2, hr2, hk2, hb2⟩ := Boxed.appended hv6 (by decide) hrow1 hle1 (by omega) hown' hgrow
                have hc1 := hv1.cell
                have hf1 := hv1.frozen
                have HU := Lib.hid (show ∀ A : Act, leaves W4.heap.size (Kp w.heap.size ownSaid) (fun pre W => (pre.all Prod.snd = true ∧ (∃ v, Boxed W (n + 1 + 1 + 1) 40 v ∧ W.ownsRow n 50 6 v pre.length (saids pre) ∧ True)) ∧ Boxed W n 140 (.func (.func 83) #[] #[]) ∧ Boxed W (n + 1) 40 (.slice none 0 0) ∧ Boxed W (n + 1 + 1) 4 (.bool false) ∧ Below n w W) (fun pre W => pre.all Prod.snd = false ∧ Boxed W (n + 1) 40 (.slice none 0 0) ∧ Boxed W (n + 1 + 1) 4 (.bool false) ∧ Below n w W) (pre ++ [(x, true)]) W .normal A (w2.setCell ⟨n + 1 + 1 + 1, 0, none⟩ (.slice (some ⟨g', 0, none⟩) (pre.length + 1) cap')) from fun _ =>
                  ⟨((others_below HB1.out).trans hk2).from _, (Kp.of_below HB1.out (by omega)).trans ((Kp.appended hv6 hrow1 rfl rfl hgrow hb2).mono hn2),
                    ⟨by have := HALL.out; simp [this], _, hv2, by simpa [saids, cellsOf] using hr2, trivial⟩, Boxed.past (heap_keep HB1.out HV3.out) (by decide) hrow1 hgrow (by omega) _, Boxed.past (heap_keep HB1.out HV4.out) (by decide) hrow1 hgrow (by omega) _, Boxed.past (heap_keep HB1.out HV5.out) (by decide) hrow1 hgrow (by omega) _, HBX.out.trans ((HB1.out.mono (by omega)).trans hb2)⟩)
                clear hown' hgrow hv1 hv2 hr2 hk2 hb2
                refine wpAnyIn_ready (rs := [6]) (by kernel_rfl) (by simp) ?_
                refine AllReadyIn.cons rfl (fun K hK => ?_) AllReadyIn.nil
                go_simp
                refine hK _ _ ?_
                clear hK K
                refine wpAnyIn_done (by kernel_rfl) ?_ _
                exact HU.out ⟨#[], []⟩
              exact AllReadyIn.nil
            exact AllReadyIn.nil
          exact AllReadyIn.nil
        refine AllReadyIn.cons rfl (fun K hK => ?_) ?_
        · go_simp
          refine hK _ _ ?_
          clear hK K
          refine wpAnyIn_ready (rs := [0, 3]) (by kernel_rfl) (by simp) ?_
          refine AllReadyIn.cons rfl (fun K hK => ?_) ?_
          · go_simp
            refine hK _ _ ?_
            clear hK K
            refine wpAnyIn_ready (rs := [3]) (by kernel_rfl) (by simp) ?_
            refine AllReadyIn.cons rfl (fun K hK => ?_) ?_
            · go_simp
              gi_wp2_with (refine ⟨trivial, ?_⟩; gi_at_call 83; refine (CallsIn.inRound l (callsIn_wide.2 (HC.out _))).mono ?_; rintro e w1 ⟨rfl, hb'⟩; have e6 := keep hb' c6; have hsz1 := hb'.size; have HB1 := Lib.hid (bThen HBU.out hb'); clear hb'; have hl6 := cell_lt e6)
              refine wpAnyIn_ready (rs := [4]) (by kernel_rfl) (by simp) ?_
              refine AllReadyIn.cons rfl (fun K hK => ?_) ?_
              · go_simp
                refine hK _ _ ?_
                clear hK K
                refine wpAnyIn_ready (rs := [5]) (by kernel_rfl) (by simp) ?_
                refine AllReadyIn.cons rfl (fun K hK => ?_) AllReadyIn.nil
                have hrow1 := ownsRow_below HRW.out HB1.out
                have hle1 : n ≤ w1.heap.size := by have := HB1.out.size; omega
                refine step_append_in rfl _ _ 40 rfl n 50 i0 (.agg #[.string ByteArray.empty, .int .i64 0, .int .i64 0, .int .i64 0, .int .i64 0, .int .i64 0]) 6 56 Try.underlying40 HI.out hz0 hz1 hz2 rfl (by decide) v pre.length (saids pre) rfl (hrow1.alloc _) ⟨w1.heap.size, 0, none⟩ 1 1 [.string x.txt, .int .i64 x.num, .int .i64 x.set, .int .i64 x.rule, .int .i64 x.piece, .int .i64 x.depth] rfl rfl (cells_new _ _ _) (by simp [Value.oneCell']) HM1.out HM2.out (by simp; omega) ?_
                intro v' w2 hown' hgrow
                refine hK _ _ ?_
                clear hK K
                obtain ⟨g', cap', rfl⟩ := ownsRow_succ hown'
                have hv6 : Boxed w1 (n + 1 + 1 + 1) 40 v := heap_keep HB1.out HV6.out
                obtain ⟨hv1, hv2, hr2, hk2, hb2⟩ := Boxed.appended hv6 (by decide) hrow1 hle1 (by omega) hown' hgrow
                have hc1 := hv1.cell
                have hf1 := hv1.frozen
                have HU := Lib.hid (show ∀ A : Act, leaves W4.heap.size (Kp w.heap.size ownSaid) (fun pre W => (pre.all Prod.snd = true ∧ (∃ v, Boxed W (n + 1 + 1 + 1) 40 v ∧ W.ownsRow n 50 6 v pre.length (saids pre) ∧ True)) ∧ Boxed W n 140 (.func (.func 83) #[] #[]) ∧ Boxed W (n + 1) 40 (.slice none 0 0) ∧ Boxed W (n + 1 + 1) 4 (.bool false) ∧ Below n w W) (fun pre W => pre.all Prod.snd = false ∧ Boxed W (n + 1) 40 (.slice none 0 0) ∧ Boxed W (n + 1 + 1) 4 (.bool false) ∧ Below n w W) (pre ++ [(x, true)]) W .normal A (w2.setCell ⟨n + 1 + 1 + 1, 0, none⟩ (.slice (some ⟨g', 0, none⟩) (pre.length + 1) cap')) from fun _ =>
                  ⟨((others_below HB1.out).trans hk2).from _, (Kp.of_below HB1.out (by omega)).trans ((Kp.appended hv6 hrow1 rfl rfl hgrow hb2).mono hn2),
                    ⟨by have := HALL.out; simp [this], _, hv2, by simpa [saids, cellsOf] using hr2, trivial⟩, Boxed.past (heap_keep HB1.out HV3.out) (by decide) hrow1 hgrow (by omega) _, Boxed.past (heap_keep HB1.out HV4.out) (by decide) hrow1 hgrow (by omega) _, Boxed.past (heap_keep HB1.out HV5.out) (by decide) hrow1 hgrow (by omega) _, HBX.out.trans ((HB1.out.mono (by omega)).trans hb2)⟩)
                clear hown' hgrow hv1 hv2 hr2 hk2 hb2
                refine wpAnyIn_ready (rs := [6]) (by kernel_rfl) (by simp) ?_
                refine AllReadyIn.cons rfl (fun K hK => ?_) AllReadyIn.nil
                go_simp
                refine hK _ _ ?_
                clear hK K
                refine wpAnyIn_done (by kernel_rfl) ?_ _
                exact HU.out ⟨#[], []⟩
              exact AllReadyIn.nil
            exact AllReadyIn.nil
          refine AllReadyIn.cons rfl (fun K hK => ?_) ?_
          · go_simp
            gi_wp2_with (refine ⟨trivial, ?_⟩; gi_at_call 83; refine (CallsIn.inRound l (callsIn_wide.2 (HC.out _))).mono ?_; rintro e w1 ⟨rfl, hb'⟩; have e6 := keep hb' c6; have hsz1 := hb'.size; have HB1 := Lib.hid (bThen HBU.out hb'); clear hb'; have hl6 := cell_lt e6)
            refine wpAnyIn_ready (rs := [0, 4]) (by kernel_rfl) (by simp) ?_
            refine AllReadyIn.cons rfl (fun K hK => ?_) ?_
            · go_simp
              refine hK _ _ ?_
              clear hK K
              refine wpAnyIn_ready (rs := [4]) (by kernel_rfl) (by simp) ?_
              refine AllReadyIn.cons rfl (fun K hK => ?_) ?_
              · go_simp
                refine hK _ _ ?_
                clear hK K
                refine wpAnyIn_ready (rs := [5]) (by kernel_rfl) (by simp) ?_
                refine AllReadyIn.cons rfl (fun K hK => ?_) AllReadyIn.nil
                have hrow1 := ownsRow_below HRW.out HB1.out
                have hle1 : n ≤ w1.heap.size := by have := HB1.out.size; omega
                refine step_append_in rfl _ _ 40 rfl n 50 i0 (.agg #[.string ByteArray.empty, .int .i64 0, .int .i64 0, .int .i64 0, .int .i64 0, .int .i64 0]) 6 56 Try.underlying40 HI.out hz0 hz1 hz2 rfl (by decide) v pre.length (saids pre) rfl (hrow1.alloc _) ⟨w1.heap.size, 0, none⟩ 1 1 [.string x.txt, .int .i64 x.num, .int .i64 x.set, .int .i64 x.rule, .int .i64 x.piece, .int .i64 x.depth] rfl rfl (cells_new _ _ _) (by simp [Value.oneCell']) HM1.out HM2.out (by simp; omega) ?_
                intro v' w2 hown' hgrow
                refine hK _ _ ?_
                clear hK K
                obtain ⟨g', cap', rfl⟩ := ownsRow_succ hown'
                have hv6 : Boxed w1 (n + 1 + 1 + 1) 40 v := heap_keep HB1.out HV6.out
                obtain ⟨hv1, hv2, hr2, hk2, hb2⟩ := Boxed.appended hv6 (by decide) hrow1 hle1 (by omega) hown' hgrow
                have hc1 := hv1.cell
                have hf1 := hv1.frozen
                have HU := Lib.hid (show ∀ A : Act, leaves W4.heap.size (Kp w.heap.size ownSaid) (fun pre W => (pre.all Prod.snd = true ∧ (∃ v, Boxed W (n + 1 + 1 + 1) 40 v ∧ W.ownsRow n 50 6 v pre.length (saids pre) ∧ True)) ∧ Boxed W n 140 (.func (.func 83) #[] #[]) ∧ Boxed W (n + 1) 40 (.slice none 0 0) ∧ Boxed W (n + 1 + 1) 4 (.bool false) ∧ Below n w W) (fun pre W => pre.all Prod.snd = false ∧ Boxed W (n + 1) 40 (.slice none 0 0) ∧ Boxed W (n + 1 + 1) 4 (.bool false) ∧ Below n w W) (pre ++ [(x, true)]) W .normal A (w2.setCell ⟨n + 1 + 1 + 1, 0, none⟩ (.slice (some ⟨g', 0, none⟩) (pre.length + 1) cap')) from fun _ =>
                  ⟨((others_below HB1.out).trans hk2).from _, (Kp.of_below HB1.out (by omega)).trans ((Kp.appended hv6 hrow1 rfl rfl hgrow hb2).mono hn2),
                    ⟨by have := HALL.out; simp [this], _, hv2, by simpa [saids, cellsOf] using hr2, trivial⟩, Boxed.past (heap_keep HB1.out HV3.out) (by decide) hrow1 hgrow (by omega) _, Boxed.past (heap_keep HB1.out HV4.out) (by decide) hrow1 hgrow (by omega) _, Boxed.past (heap_keep HB1.out HV5.out) (by decide) hrow1 hgrow (by omega) _, HBX.out.trans ((HB1.out.mono (by omega)).trans hb2)⟩)
                clear hown' hgrow hv1 hv2 hr2 hk2 hb2
                refine wpAnyIn_ready (rs := [6]) (by kernel_rfl) (by simp) ?_
                refine AllReadyIn.cons rfl (fun K hK => ?_) AllReadyIn.nil
                go_simp
                refine hK _ _ ?_
                clear hK K
                refine wpAnyIn_done (by kernel_rfl) ?_ _
                exact HU.out ⟨#[], []⟩
              exact AllReadyIn.nil
            refine AllReadyIn.cons rfl (fun K hK => ?_) ?_
            · go_simp
              refine hK _ _ ?_
              clear hK K
              refine wpAnyIn_ready (rs := [0]) (by kernel_rfl) (by simp) ?_
              refine AllReadyIn.cons rfl (fun K hK => ?_) ?_
              · go_simp
                refine hK _ _ ?_
                clear hK K
                refine wpAnyIn_ready (rs := [5]) (by kernel_rfl) (by simp) ?_
                refine AllReadyIn.cons rfl (fun K hK => ?_) AllReadyIn.nil
                have hrow1 := ownsRow_below HRW.out HB1.out
                have hle1 : n ≤ w1.heap.size := by have := HB1.out.size; omega
                refine step_append_in rfl _ _ 40 rfl n 50 i0 (.agg #[.string ByteArray.empty, .int .i64 0, .int .i64 0, .int .i64 0, .int .i64 0, .int .i64 0]) 6 56 Try.underlying40 HI.out hz0 hz1 hz2 rfl (by decide) v pre.length (saids pre) rfl (hrow1.alloc _) ⟨w1.heap.size, 0, none⟩ 1 1 [.string x.txt, .int .i64 x.num, .int .i64 x.set, .int .i64 x.rule, .int .i64 x.piece, .int .i64 x.depth] rfl rfl (cells_new _ _ _) (by simp [Value.oneCell']) HM1.out HM2.out (by simp; omega) ?_
                intro v' w2 hown' hgrow
                refine hK _ _ ?_
                clear hK K
                obtain ⟨g', cap', rfl⟩ := ownsRow_succ hown'
                have hv6 : Boxed w1 (n + 1 + 1 + 1) 40 v := heap_keep HB1.out HV6.out
                obtain ⟨hv1, hv2, hr2, hk2, hb2⟩ := Boxed.appended hv6 (by decide) hrow1 hle1 (by omega) hown' hgrow
                have hc1 := hv1.cell
                have hf1 := hv1.frozen
                have HU := Lib.hid (show ∀ A : Act, leaves W4.heap.size (Kp w.heap.size ownSaid) (fun pre W => (pre.all Prod.snd = true ∧ (∃ v, Boxed W (n + 1 + 1 + 1) 40 v ∧ W.ownsRow n 50 6 v pre.length (saids pre) ∧ True)) ∧ Boxed W n 140 (.func (.func 83) #[] #[]) ∧ Boxed W (n + 1) 40 (.slice none 0 0) ∧ Boxed W (n + 1 + 1) 4 (.bool false) ∧ Below n w W) (fun pre W => pre.all Prod.snd = false ∧ Boxed W (n + 1) 40 (.slice none 0 0) ∧ Boxed W (n + 1 + 1) 4 (.bool false) ∧ Below n w W) (pre ++ [(x, true)]) W .normal A (w2.setCell ⟨n + 1 + 1 + 1, 0, none⟩ (.slice (some ⟨g', 0, none⟩) (pre.length + 1) cap')) from fun _ =>
                  ⟨((others_below HB1.out).trans hk2).from _, (Kp.of_below HB1.out (by omega)).trans ((Kp.appended hv6 hrow1 rfl rfl hgrow hb2).mono hn2),
                    ⟨by have := HALL.out; simp [this], _, hv2, by simpa [saids, cellsOf] using hr2, trivial⟩, Boxed.past (heap_keep HB1.out HV3.out) (by decide) hrow1 hgrow (by omega) _, Boxed.past (heap_keep HB1.out HV4.out) (by decide) hrow1 hgrow (by omega) _, Boxed.past (heap_keep HB1.out HV5.out) (by decide) hrow1 hgrow (by omega) _, HBX.out.trans ((HB1.out.mono (by omega)).trans hb2)⟩)
                clear hown' hgrow hv1 hv2 hr2 hk2 hb2
                refine wpAnyIn_ready (rs := [6]) (by kernel_rfl) (by simp) ?_
                refine AllReadyIn.cons rfl (fun K hK => ?_) AllReadyIn.nil
                go_simp
                refine hK _ _ ?_
                clear hK K
                refine wpAnyIn_done (by kernel_rfl) ?_ _
                exact HU.out ⟨#[], []⟩
              exact AllReadyIn.nil
            exact AllReadyIn.nil
          exact AllReadyIn.nil
        exact AllReadyIn.nil
      exact AllReadyIn.nil
  case done =>
    rintro D W hD ⟨⟨hall, v, v6, hrow, -⟩, v3, v4, v5, hB⟩ hK
    obtain ⟨ad, cap, rfl⟩ := ownsRow_slice hrow
    have c6 := v6.cell
    have c4 := v4.cell
    have c5 := v5.cell
    have f4 := v4.frozen
    have f5 := v5.frozen
    have h4 := v4.lt
    have h5 := v5.lt
    have h6 := v6.lt
    have HV3 := Lib.hid v3
    have HV4 := Lib.hid v4
    have HV5 := Lib.hid v5
    have HRW := Lib.hid hrow
    have HALL := Lib.hid hall
    have HKD := Lib.hid hK
    clear v3 v4 v5 v6 hrow hall hK
    gi_wp2
    have u4 := (HV4.out.set (.slice ad (items S a 0).length cap)).other (B' := n + 1 + 1) (by omega) (.bool true)
    have u5 := (HV5.out.other (B' := n + 1) (by omega) (.slice ad (items S a 0).length cap)).set (.bool true)
    have hKV := ((KeepsOthers.setCell W ⟨n + 1, 0, none⟩ (.slice ad (items S a 0).length cap)).trans (KeepsOthers.setCell _ ⟨n + 1 + 1, 0, none⟩ (.bool true))).same D _ HKD.out rfl
    have hBV : Below n w ((W.setCell ⟨n + 1, 0, none⟩ (.slice ad (items S a 0).length cap)).setCell ⟨n + 1 + 1, 0, none⟩ (.bool true)) := (hB.setCell (p := ⟨n + 1, 0, none⟩) (by simp) _).setCell (p := ⟨n + 1 + 1, 0, none⟩) (by simp; omega) _
    have hrV : World.ownsRow ((W.setCell ⟨n + 1, 0, none⟩ (.slice ad (items S a 0).length cap)).setCell ⟨n + 1 + 1, 0, none⟩ (.bool true)) n 50 6 (.slice ad (items S a 0).length cap) (items S a 0).length (saids (items S a 0)) := by
      have r1 := HRW.out.kept (grownBy_setCell' W (n + 1) (.slice ad (items S a 0).length cap)) (.inr (HV4.out.not_row (by decide) HRW.out).symm)
      exact r1.kept (grownBy_setCell' _ (n + 1 + 1) (.bool true)) (.inr ((HV5.out.other (B' := n + 1) (by omega) (.slice ad (items S a 0).length cap)).not_row (by decide) r1).symm)
    generalize World.setCell _ _ _ = V at *
    have x4 := (u4.kept (grownBy_putObj' V D (.deferred none)) (by simp; omega)).cell
    have x5 := (u5.kept (grownBy_putObj' V D (.deferred none)) (by simp; omega)).cell
    have hrow' := ownsRow_putObj hrV (.deferred none) hKV rfl
    have hB' : Below n w (V.putObj D (.deferred none)) := hBV.trans (belowK_b (w := w) hn1 V D _ _ (by omega) hKV rfl rfl)
    refine ⟨by simp, .inl ⟨_, _, rfl, run_takeDeferred hKV, ?_⟩⟩
    clear c6 c4 c5 f4 f5 h4 h5 h6 u4 u5
    generalize V.putObj D (.deferred none) = V' at *
    exact ⟨.tuple #[.slice ad (items S a 0).length cap, .bool true], by simp [results, Try.results82, go_sem, x4, x5], .inl ⟨HALL.out, _, rfl, by rw [← HNn.out]; exact hrow'⟩, by rw [← HNn.out]; exact hB'⟩
  case stop =>
    rintro D pre W hD hpre ⟨hall, v4, v5, hB⟩ hK
    have HV4 := Lib.hid v4
    have HV5 := Lib.hid v5
    have HKD := Lib.hid hK
    have HALL := Lib.hid hall
    clear v4 v5 hK hall
    gi_wp2
    have x4 := (HV4.out.kept (grownBy_putObj' W D (.deferred none)) (by simp; omega)).cell
    have x5 := (HV5.out.kept (grownBy_putObj' W D (.deferred none)) (by simp; omega)).cell
    have hB' : Below n w (W.putObj D (.deferred none)) := hB.trans (belowK_b (w := w) hn1 W D _ _ (by omega) HKD.out rfl rfl)
    refine ⟨by simp, .inl ⟨_, _, rfl, run_takeDeferred HKD.out, ?_⟩⟩
    generalize W.putObj D (.deferred none) = V' at *
    exact ⟨.tuple #[.slice none 0 0, .bool false], by simp [results, Try.results82, go_sem, x4, x5], .inr ⟨all_prefix hpre HALL.out, rfl⟩, by rw [← HNn.out]; exact hB'⟩
end Go.Proofs.Ytfcopnlpcbbocaa
