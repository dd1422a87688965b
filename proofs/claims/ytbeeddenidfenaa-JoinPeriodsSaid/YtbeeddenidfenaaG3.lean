/- Contracts: the periods of a marked wave, as an iterator. -/
import Derived.Test.YtbeeddenidfenaaG2
import Derived.Stop.RegionWithIn
set_option linter.unusedSimpArgs false
set_option linter.unusedVariables false
namespace Go.Proofs.Ytbeeddenidfenaa
open Go.RowKit Go.Shelf
attribute [local go_sem] Oper.semAt_some
attribute [local go_sem] run_store_fn

abbrev UpTo (N : Nat) := { n : Nat // n < N }
def upL (N : Nat) : List (UpTo N) := (List.range N).pmap (fun n h => ⟨n, h⟩) (fun _ h => List.mem_range.1 h)
theorem upL_length (N : Nat) : (upL N).length = N := by simp [upL]
theorem upL_get (N k : Nat) (h : k < (upL N).length) : (upL N)[k] = ⟨k, by rw [upL_length] at h; exact h⟩ := by
  simp only [upL, List.getElem_pmap, List.getElem_range]
theorem upL_take (N k : Nat) (h : k < N) : (upL N).take (k + 1) = (upL N).take k ++ [⟨k, h⟩] := by
  rw [take_succ _ k (by rw [upL_length]; exact h), upL_get]
theorem pre_at {N : Nat} {pre : List (UpTo N)} {x : UpTo N} (h : pre ++ [x] <+: upL N) : x.1 = pre.length ∧ pre.length < N := by
  have hl := h.length_le
  rw [List.length_append, List.length_singleton, upL_length] at hl
  refine ⟨?_, by omega⟩
  have h1 := List.IsPrefix.getElem h (i := pre.length) (by simp)
  rw [upL_get] at h1
  simp at h1
  rw [h1]
/-- A marked wave that is right. -/
structure MkR (m : Mk) : Prop where
  two : 2 ≤ m.marks.length
  len : m.sam.length ≤ 100000
  many : m.marks.length ≤ 100001
  low : ∀ i, i < m.marks.length → 0 ≤ m.marks.getD i 0
  high : ∀ i, i < m.marks.length → m.marks.getD i 0 ≤ m.sam.length
  grow : ∀ i, i + 1 < m.marks.length → m.marks.getD i 0 < m.marks.getD (i + 1) 0
def mkI (m : Mk) (i : Nat) : Nat := (m.marks.getD i 0).toNat
def pN (m : Mk) : Nat := m.marks.length - 1
/-- How long a period is. -/
def pL (m : Mk) (i : Nat) : Nat := mkI m (i + 1) - mkI m i
theorem MkR.get {m : Mk} (h : MkR m) {i : Nat} (hi : i < m.marks.length) : m.marks[i] = (mkI m i : Int) := by
  have h1 := h.low i hi
  unfold mkI
  rw [List.getD_eq_getElem?_getD, List.getElem?_eq_getElem hi] at h1 ⊢
  simp only [Option.getD_some] at h1 ⊢
  omega
theorem MkR.le {m : Mk} (h : MkR m) {i : Nat} (hi : i < m.marks.length) : mkI m i ≤ m.sam.length := by
  have := h.high i hi
  unfold mkI; omega
theorem MkR.lt {m : Mk} (h : MkR m) {i : Nat} (hi : i < pN m) : mkI m i < mkI m (i + 1) := by
  unfold pN at hi
  have h1 := h.grow i (by omega)
  have h2 := h.low i (by omega)
  unfold mkI; omega
/-- What the changes make of a period. -/
def fin (m : Mk) (gs : List Eff) (i : Nat) : Int × Int := gs.foldl (fun s g => g i s.1 s.2) ((pL m i : Int), 1)
theorem fin_succ (m : Mk) {gs : List Eff} {k : Nat} (hk : k < gs.length) (i : Nat) : fin m (gs.take (k + 1)) i = gs[k] i (fin m (gs.take k) i).1 (fin m (gs.take k) i).2 := by
  unfold fin
  rw [take_succ gs k hk, List.foldl_append]; rfl
def FinOk (m : Mk) (gs : List Eff) : Prop := ∀ i, i < pN m → ∀ k, k ≤ gs.length → 1 ≤ (fin m (gs.take k) i).1 ∧ (fin m (gs.take k) i).1 ≤ 2000000 ∧ 0 ≤ (fin m (gs.take k) i).2 ∧ (fin m (gs.take k) i).2 ≤ 1000000
/-- The part of the samples that is a period. -/
def perV (m : Mk) (sb so sc : Nat) (i : Nat) : Value := .slice (some ⟨sb, so + mkI m i, none⟩) (pL m i) (sc - mkI m i)
abbrev encP (m : Mk) (gs : List Eff) (sb so sc : Nat) (x : UpTo (pN m)) : Array Value := #[.agg #[.int .i64 ((x.1 : Nat) : Int), perV m sb so sc x.1, .int .i64 (fin m gs x.1).1, .int .i64 (fin m gs x.1).2]]
def ChgAt (n N : Nat) (w0 : World) (W : World) (b o : Nat) (g : Eff) : Prop := ∃ v, W.cell? ⟨b, o, none⟩ = some v ∧ Chg n N w0 v g
theorem ChgAt.stable (n N : Nat) (w0 : World) : Stable (ChgAt n N w0) := fun _ _ _ _ _ hB ⟨v, h, hs⟩ => ⟨v, Go.Proofs.Ytbeeddenidfenaa.keep hB h, hs⟩
/-- What a round keeps: the two boxes of the iterator, and what lies below n. -/
structure KpP (n pm pc : Nat) (A B : World) : Prop where
  wave : ∀ cs, A.heap[pm]? = some (.cells cs 24 (0, 0)) → B.heap[pm]? = some (.cells cs 24 (0, 0))
  chg : ∀ x, Boxed A pc 88 x → Boxed B pc 88 x
  low : Below n A B
theorem KpP.trans {n pm pc : Nat} {A B C : World} (h : KpP n pm pc A B) (k : KpP n pm pc B C) : KpP n pm pc A C := ⟨fun x hx => k.wave x (h.wave x hx), fun x hx => k.chg x (h.chg x hx), h.low.trans k.low⟩
theorem KpP.refl (n pm pc : Nat) (A : World) : KpP n pm pc A A := ⟨fun _ h => h, fun _ h => h, Below.refl _ _⟩
theorem KpP.putObj {n pm pc : Nat} (W : World) (l : Nat) (o o' : Obj) (hn : n ≤ l) (h : W.heap[l]? = some o) (ho : o.isCells = false) : KpP n pm pc W (W.putObj l o') := by
  refine ⟨fun x hx => (World.putObj_heap_other (fun e => ?_)).trans hx, fun x hx => (World.putObj_heap_other (fun e => ?_)).trans hx, by
    refine ⟨rfl, rfl, rfl, by simp, fun k hk => World.putObj_heap_other (fun e => by omega)⟩⟩
  · rw [e, h] at hx; cases hx; cases ho
  · have hx : W.heap[pc]? = _ := hx
    rw [e, h] at hx; cases hx; cases ho
theorem mcell {W : World} {pm : Nat} {a b : Value} (h : W.heap[pm]? = some (.cells #[a, b] 24 (0, 0))) : W.cell? ⟨pm, 0, none⟩ = some a ∧ W.cell? ⟨pm, 1, none⟩ = some b := by
  constructor <;> simp [World.cell?, h]

set_option maxRecDepth 100000 in
set_option maxHeartbeats 4000000 in
theorem periods_says (mm : Nat) (m : Mk) (gs : List Eff) (n pm pc sb so sc cm : Nat) (am : Option Addr) (cv : Value) (w0 w : World) (hn : w0.heap.size = n) (hm : MkR m) (hs : m.sam.length ≤ sc)
    (hmk : SliceV w0 (.slice am m.marks.length cm) 1 IntAt m.marks) (hc : SliceV w0 cv 1 (ChgAt n (pN m) w0) gs) (hgs : gs.length ≤ 10)
    (bm : w.heap[pm]? = some (.cells #[.slice (some ⟨sb, so, none⟩) m.sam.length sc, .slice am m.marks.length cm] 24 (0, 0))) (bc : Boxed w pc 88 cv) (hb : Below n w0 w) (hf : FinOk m gs) :
    SaysK mm Try.prog 106 #[.pointer (some ⟨pm, 0, none⟩), .pointer (some ⟨pc, 0, none⟩)] (encP m gs sb so sc) (KpP n pm pc) (upL (pN m)) w := by
  intro ly J Jx W hW hJ hY h0
  have c0 : W.heap[pm]? = some (.cells #[.slice (some ⟨sb, so, none⟩) m.sam.length sc, .slice am m.marks.length cm] 24 (0, 0)) := heap_keep hW bm
  have c1 : Boxed W pc 88 cv := heap_keep hW bc
  have hB : Below n w0 W := hb.trans (hW.mono (by have := hb.size; omega))
  have HM := Lib.hid hm
  have HF := Lib.hid hf
  have HMK := Lib.hid hmk
  have HC := Lib.hid hc
  have h2 := hm.two
  have h3 := hm.many
  have h4 := hm.len
  obtain ⟨mb, mo, rfl, hmf⟩ := hmk.at (by intro h; rw [h] at h2; simp at h2)
  have hcm : m.marks.length ≤ cm := by
    obtain ⟨a', c', hv, hl, -⟩ := id hmk
    obtain ⟨-, -, rfl⟩ := Value.slice.inj hv
    exact hl.2
  obtain ⟨ca, cc, rfl, hcl, -⟩ := id hc
  have HY := Lib.hid hY
  have HN := Lib.hid hn
  have HJA := Lib.hid hJ
  have C0 := Lib.hid c0
  have C1 := Lib.hid c1
  have hmc := mcell c0
  have e0 := hmc.1
  have e1 := hmc.2
  have l0 := cell_lt e0
  have HMF := Lib.hid hmf
  clear hY hW bm bc hb hn c0 c1 hmc hm hf hmk hc hmf hJ
  obtain ⟨N, hN⟩ : ∃ N, N = pN m := ⟨_, rfl⟩
  have hN1 : m.marks.length = N + 1 := by unfold pN at hN; omega
  have HNE := Lib.hid hN
  have g1 : ¬ cm = 1 := by omega
  have g2 : (1 : Int) ≤ ((N : Int) + 1) := by omega
  have g3 : ((N : Int) + 1) ≤ cm := by omega
  clear hN
  have HN1 := Lib.hid hN1
  rw [hN1] at e1
  show CallsIn Fence.wide mm Try.prog 106 #[.func (.yield ly) #[] #[], .pointer (some ⟨pm, 0, none⟩), .pointer (some ⟨pc, 0, none⟩)] W _
  refine callsIn_of_wp Try.func106 rfl trivial ?_ rfl
  simp only [Try.ntmps106, List.size_toArray, List.length_cons, List.length_nil, Nat.reduceAdd, Nat.reduceSub, Array.replicate_succ, Array.replicate_zero, List.push_toArray, List.append_toArray, List.nil_append, List.cons_append]
  gi_wp2
  gi_loopw [14] (fun i wr => ∃ k : Nat, k ≤ N ∧ i = .int .i64 k ∧ Hid (J ((upL (pN m)).take k) wr) ∧ Hid (wr.heap[pm]? = some (.cells #[.slice (some ⟨sb, so, none⟩) m.sam.length sc, .slice (some ⟨mb, mo, none⟩) m.marks.length cm] 24 (0, 0))) ∧ Hid (Boxed wr pc 88 (.slice ca gs.length cc)) ∧ Hid (Below n w0 wr)) (fun i _ => N - (intOf i).toNat)
  case atStart => exact ⟨0, Nat.zero_le _, rfl, Lib.hid (by simpa using h0), C0, C1, Lib.hid hB⟩
  case round =>
    obtain ⟨k, hk, rfl, HJ, HP, HCB, HB⟩ := hrel
    obtain ⟨wo, hwo⟩ : ∃ wo, wo = wr := ⟨_, rfl⟩
    subst hwo
    have hmc := mcell HP.out
    have e0 := hmc.1
    have e1 := hmc.2
    rw [HN1.out] at e1
    have l0 := cell_lt e0
    have e2 := HCB.out.cell
    have l2 := HCB.out.lt
    clear h0 hmc
    by_cases hlt : k < N
    · have hka : k < pN m := by rw [← HNE.out]; exact hlt
      have k0 := HMF.out k (by omega)
      have k1 := HMF.out (k + 1) (by omega)
      rw [HM.out.get] at k0 k1
      unfold IntAt at k0 k1
      have hab := HM.out.lt hka
      have hb := HM.out.le (i := k + 1) (by omega)
      obtain ⟨a, ha⟩ : ∃ a, a = mkI m k := ⟨_, rfl⟩
      obtain ⟨b, hbe⟩ : ∃ b, b = mkI m (k + 1) := ⟨_, rfl⟩
      rw [← ha] at k0 hab
      rw [← hbe] at k1 hab hb
      rw [Nat.mul_one] at k0 k1
      have HA := Lib.hid ha
      have HBE := Lib.hid hbe
      clear ha hbe
      have hmbn : mb < n := by rw [← HN.out]; exact cell_lt k0
      replace k0 := (HB.out.cell (p := ⟨mb, mo + k, none⟩) hmbn).trans k0
      replace k1 := (HB.out.cell (p := ⟨mb, mo + (k + 1), none⟩) hmbn).trans k1
      rw [show mo + (k + 1) = mo + 1 + k by omega] at k1
      have lm := cell_lt k0
      have s1 : (a : Int) ≤ b := by omega
      have s2 : (b : Int) ≤ sc := by omega
      have s3 : ¬ sc = a := by omega
      gi_wp2
      gi_region
      gi_wp2
      obtain ⟨sl, hsl⟩ : ∃ sl, sl = Value.slice (some ⟨sb, so + a, none⟩) (b - a) (sc - a) := ⟨_, rfl⟩
      have hslv : sl = perV m sb so sc k := by rw [hsl]; unfold perV pL; rw [← HA.out, ← HBE.out]
      have hL : ((b - a : Nat) : Int) = (pL m k : Int) := by unfold pL; rw [← HA.out, ← HBE.out]
      have HSL := Lib.hid hslv
      have hone : sl.oneCell' = true := by rw [hsl]; rfl
      generalize hW1 : World.drew (World.alloc wo _) = W1
      have hP1 : PerAt W1 wo.heap.size k sl (fin m (gs.take 0) k).1 (fin m (gs.take 0) k).2 := by
        rw [← hW1, hsl]
        show (World.alloc wo _).heap[wo.heap.size]? = _
        rw [World.alloc_heap_new]
        unfold fin
        rw [← hL]; rfl
      have hB1 : Below wo.heap.size wo W1 := by rw [← hW1]; exact Below.drew (bAlloc (Below.refl _ _) _)
      have HP1 := Lib.hid hP1
      have HB1 := Lib.hid hB1
      have HGL := Lib.hid hgs
      have hnw : n ≤ wo.heap.size := by rw [← HN.out]; exact HB.out.size
      clear hW1 hP1 hB1 hL hslv hsl
      gi_loopw [35] (fun j wi => ∃ q : Nat, q ≤ gs.length ∧ j = .int .i64 q ∧ Hid (PerAt wi wo.heap.size k sl (fin m (gs.take q) k).1 (fin m (gs.take q) k).2) ∧ Hid (Below wo.heap.size wo wi)) (fun j _ => gs.length - (intOf j).toNat)
      case atStart => exact ⟨0, Nat.zero_le _, rfl, HP1, HB1⟩
      case round =>
        obtain ⟨q, hq, rfl, HPQ, HBQ⟩ := hrel
        by_cases hql : q < gs.length
        · obtain ⟨gb, go, rfl, hcf⟩ := HC.out.at (by intro h; rw [h] at hql; simp at hql)
          obtain ⟨v, cv0, kf, fvs, rfl, hent, hcall⟩ := hcf q hql
          rw [Nat.mul_one] at cv0
          have hgbn : gb < n := by rw [← HN.out]; exact cell_lt cv0
          have cv1 := ((HB.out.trans (HBQ.out.mono hnw)).cell (p := ⟨gb, go + q, none⟩) hgbn).trans cv0
          have lg := cell_lt cv1
          have hfq := HF.out k hka q hq
          have HFS := Lib.hid (fin_succ m hql k)
          have hcb := hcall (wr.alloc (.cells #[.func (.func kf) #[] fvs] 86)) wo.heap.size k sl _ _ hka hfq.1 hfq.2.1 hfq.2.2.1 hfq.2.2.2 (HB.out.trans ((HBQ.out.mono hnw).trans ((Below.refl n wr).alloc (by have := HBQ.out.size; omega) _))) hnw (HPQ.out.keep (bAlloc (Below.refl _ _) _))
          have HCB2 := Lib.hid hcb
          clear hcb hcall hcf cv0 hfq
          gi_wp2
          refine ⟨trivial, fun h => (by cases h), (callsIn_wide.2 HCB2.out).mono ?_⟩
          rintro e w2 ⟨⟨r, rfl⟩, hb2, hp2⟩
          have HP2 := Lib.hid hp2
          have HB2 := Lib.hid hb2
          clear hb2 hp2
          gi_wp2
          go_roundw
          case rel => exact ⟨q + 1, by omega, by go_num, Lib.hid (by rw [HFS.out]; exact HP2.out), Lib.hid ((HBQ.out.trans ((Below.refl wo.heap.size wr).alloc (by have := HBQ.out.size; omega) _)).trans HB2.out)⟩
          case measure => simp [intOf]; omega
        · obtain rfl : q = gs.length := by omega
          have hpq := HPQ.out
          rw [List.take_length] at hpq
          have p0 := hpq.c0
          have p1 := hpq.c1
          have p2 := hpq.c2
          have p3 := hpq.c3
          have lp := hpq.lt
          have hJ2 : J ((upL (pN m)).take k) wr := HJA.out _ _ _ none HJ.out (grown_of_below HBQ.out) (fun r e => by cases e)
          have HT := Lib.hid (upL_take (pN m) k hka)
          obtain ⟨fn, tmps, assign, body, hy, hR⟩ := yield_any (mm - 1) (HY.out _ ⟨k, hka⟩ wr hJ2 (by rw [← HT.out]; exact List.take_prefix _ _))
          dsimp only [encP] at hy
          rw [← HSL.out] at hy
          have HP3 := Lib.hid (heap_keep HBQ.out HP.out)
          have HC3 : Hid (Boxed wr pc 88 (.slice ca gs.length cc)) := Lib.hid (heap_keep HBQ.out HCB.out)
          have HB3 := Lib.hid (HB.out.trans (HBQ.out.mono hnw))
          clear hpq hJ2
          gi_wp2
          refine ⟨fun h => (by cases h), hR.mono ?_⟩
          rintro e W3 (⟨rfl, hJ3, hK3⟩ | ⟨rfl, -, hJx⟩)
          · have HJ3 : Hid (J ((upL (pN m)).take (k + 1)) W3) := Lib.hid (by rw [HT.out]; exact hJ3)
            have HP4 := Lib.hid (hK3.wave _ HP3.out)
            have HC4 := Lib.hid (hK3.chg _ HC3.out)
            have HB4 := Lib.hid (HB3.out.trans hK3.low)
            clear hJ3 hy hR hK3
            gi_wp2
            go_roundw
            case rel => exact ⟨k + 1, by omega, by go_num, HJ3, HP4, HC4, HB4⟩
            case measure => simp [intOf]; omega
          · have HJX := Lib.hid hJx
            clear hJx hy hR
            gi_wp2
            refine bodyPost_ret (results_none rfl _ _ _) rfl ?_
            exact ⟨⟨_, rfl⟩, .inr ⟨_, by rw [← HT.out]; exact List.take_prefix _ _, HJX.out⟩⟩
    · obtain rfl : k = N := by omega
      gi_wp2
      go_end0
      refine ⟨⟨_, rfl⟩, .inl ?_⟩
      have := HJ.out
      rw [HNE.out, List.take_of_length_le (by rw [upL_length]; exact Nat.le_refl _)] at this
      exact this
end Go.Proofs.Ytbeeddenidfenaa
