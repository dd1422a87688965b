/- Contracts: whether a shift makes a contour cheaper. -/
import Derived.Test.YtejcbcjhmnhefaaDoorN2
set_option linter.unusedSimpArgs false
set_option linter.unusedVariables false
namespace Go.Proofs.YtejcbcjhmnhefaaDoor
open Go.RowKit

theorem sumM_in {F : Nat} {vs : List Int} {d : Int} {l : List Tgt} {i : Nat} (hd : d = 1 ∨ d = -1) (hF : F ≤ 200) (hv : ∀ i, i < F → -100000 ≤ vs.getD i 0 ∧ vs.getD i 0 ≤ 100400) (hl : ∀ x ∈ l, tgtOk F x = true) (hll : l.length ≤ 200) : ∀ n, i + n ≤ F → -200000000000 * (n : Int) ≤ sumM l (vF vs) d i n ∧ sumM l (vF vs) d i n ≤ 200000000000 * (n : Int) := by
  intro n
  induction n with
  | zero => intro _; simp [sumM]
  | succ n ih =>
    intro h
    have h1 := ih (by omega)
    have h2 := movC_in (F := F) (vs := vs) (i := i + n) hd (hv (i + n) (by omega)) l hl
    rw [← mvC_mov] at h2
    unfold sumM
    show _ ∧ _
    unfold vF at h1 ⊢
    omega
def Better (F : Nat) (lo hi sl sm d : Int) (ts : List Tgt) (vs : List Int) (i j : Nat) : Prop := canS lo hi sl F (vF vs) d i j ∧ grow sm ts (vF vs) F d i j < 0
theorem Better.no_at {F : Nat} {lo hi sl sm d : Int} {ts : List Tgt} {vs : List Int} {i t : Nat} (h : betw (vs.getD t 0 + d) lo hi = false) (hi2 : i ≤ t) : ∀ j, t ≤ j → ¬ Better F lo hi sl sm d ts vs i j := by
  rintro j hj ⟨⟨_, h2, _⟩, _⟩
  have := h2 t hi2 hj
  unfold vF at this
  rw [show betw (vs.getD t 0 + d) lo hi = true by unfold betw; simp only [Bool.and_eq_true, decide_eq_true_eq]; exact this] at h
  cases h
theorem Better.no_may {F : Nat} {lo hi sl sm d : Int} {ts : List Tgt} {vs : List Int} {i : Nat} (h : mayC sl F (vF vs) i d = false) : ∀ j, ¬ Better F lo hi sl sm d ts vs i j := by
  rintro j ⟨⟨h1, _, _⟩, _⟩
  rw [← mayC_iff, h] at h1
  cases h1
theorem better_iff {F : Nat} {lo hi sl sm d : Int} {ts : List Tgt} {vs : List Int} {i t : Nat} (h0 : mayC sl F (vF vs) i d = true) (h1 : ∀ m, i ≤ m → m ≤ t → betw (vs.getD m 0 + d) lo hi = true) (hi2 : i ≤ t) :
    Better F lo hi sl sm d ts vs i t ↔ mayC sl F (vF vs) (t + 1) (-d) = true ∧ bend sm (vF vs) F i d + sumM ts (vF vs) d i (t - i) + mvC ts d t (vs.getD t 0) + bend sm (vF vs) F (t + 1) (-d) < 0 := by
  have e : sumM ts (vF vs) d i (t + 1 - i) = sumM ts (vF vs) d i (t - i) + mvC ts d t (vs.getD t 0) := by
    rw [show t + 1 - i = (t - i) + 1 by omega]
    show sumM ts (vF vs) d i (t - i) + mvC ts d (i + (t - i)) (vF vs (i + (t - i))) = _
    rw [show i + (t - i) = t by omega]
  unfold Better canS grow
  rw [e, ← mayC_iff, ← mayC_iff]
  constructor
  · rintro ⟨⟨_, _, a⟩, b⟩
    exact ⟨a, by omega⟩
  · rintro ⟨a, b⟩
    exact ⟨⟨h0, fun m h2 h3 => by have := betw_in (h1 m h2 h3); exact this, a⟩, by omega⟩

set_option maxRecDepth 100000 in
set_option maxHeartbeats 16000000 in
theorem canShift_any' (F : Nat) (lo hi sl sm d : Int) (ts : List Tgt) (vs : List Int) (tv vv : Value) (w : World) (hF : 1 ≤ F) (hF2 : F ≤ 200) (hlo : -100000 ≤ lo ∧ lo ≤ 100000) (hhi : hi ≤ lo + 400) (hsl : 0 ≤ sl ∧ sl ≤ 400) (hsm : 0 ≤ sm ∧ sm ≤ 1000) (hd : d = 1 ∨ d = -1)
    (hts : ∀ x ∈ ts, tgtOk F x = true) (htl : ts.length ≤ 200) (hv : SliceV w tv 3 TgtAt ts) (hvl : vs.length = F) (hvs : ∀ i, i < F → lo ≤ vs.getD i 0 ∧ vs.getD i 0 ≤ hi) (hu : SliceV w vv 1 IntAt vs) :
    Calls Tryd.prog 58 #[.agg #[.int .i64 (F : Int), .int .i64 lo, .int .i64 hi, .int .i64 sl, .int .i64 sm, tv], vv, .int .i64 d] w
      fun e w' => (∃ b : Bool, e = .returned (.bool b) ∧ (b = true ↔ ∃ i j, i ≤ j ∧ j < F ∧ Better F lo hi sl sm d ts vs i j)) ∧ Below w.heap.size w w' := by
  have HV := Lib.hid hv
  have HU := Lib.hid hu
  have HVS := Lib.hid hvs
  obtain ⟨ta, tc, rfl, -, -⟩ := hv
  obtain ⟨va, vc, rfl, -, -⟩ := hu
  obtain ⟨vb, vo, rfl, hy⟩ := HU.out.at (by intro h; simp [h] at hvl; omega)
  have HX : Hid (∀ i, i < F → w.cell? ⟨vb, vo + i, none⟩ = some (.int .i64 (vs.getD i 0))) := Lib.hid fun i hi => by
    have h := hy i (by omega)
    rw [Nat.mul_one] at h
    rw [getD_at (by omega)]; exact h
  have H79 : Hid (∀ W, Below w.heap.size w W → _) := Lib.hid fun W hB => moved_any F lo hi sl sm d ts vs (.slice ta ts.length tc) (.slice (some ⟨vb, vo, none⟩) vs.length vc) W hF hF2 hlo hhi hd hts htl (HV.out.keep TgtAt.stable hB) hvl hvs (HU.out.keep IntAt.stable hB)
  have HMI : Hid (∀ i, i < F → -200000000000 ≤ movC ts vs d i ∧ movC ts vs d i ≤ 200000000000) := Lib.hid fun i hi => by
    have h1 := hvs i hi
    have h := movC_in (F := F) (vs := vs) (i := i) hd (by omega) ts hts
    omega
  have HSI : Hid (∀ i n, i + n ≤ F → -40000000000000 ≤ sumM ts (vF vs) d i n ∧ sumM ts (vF vs) d i n ≤ 40000000000000) := Lib.hid fun i n h => by
    have := sumM_in (vs := vs) (i := i) hd hF2 (fun i hi => by have := hvs i hi; omega) hts htl n h; omega
  have HBI : Hid (∀ f b, f ≤ F → (b = 1 ∨ b = -1) → -1000000000 ≤ bend sm (vF vs) F f b ∧ bend sm (vF vs) F f b ≤ 1000000000) := Lib.hid fun f b hf hb => bend_in hhi hsm hb hf hvs
  rw [hvl] at HU H79 ⊢
  have hd2 : -d = 1 ∨ -d = -1 := by omega
  have HD := Lib.hid (And.intro hd hd2)
  have hdb : -1 ≤ d ∧ d ≤ 1 := by omega
  have wd : IntKind.i64.wrap (-d) = -d := IntWalk.i64_in _ (by omega)
  obtain ⟨b2, hb2⟩ : ∃ b2, b2 = w.heap.size := ⟨_, rfl⟩
  have H80 : Hid (∀ (W : World) (f : Nat) (b : Int), f ≤ F → (b = 1 ∨ b = -1) → W.cell? ⟨b2 + 1, 0, none⟩ = some (.slice (some ⟨vb, vo, none⟩) F vc) → W.cell? ⟨b2, 3, none⟩ = some (.int .i64 sl) → W.cell? ⟨b2, 4, none⟩ = some (.int .i64 sm) → (∀ i, i < F → W.cell? ⟨vb, vo + i, none⟩ = some (.int .i64 (vs.getD i 0))) → _) := Lib.hid fun W f b hf hb hc h3 h4 hX => bent_any F vb vo vc (b2 + 1) b2 f lo hi sl sm b vs W hF2 hf hlo hhi hsl hsm hb hvs hc h3 h4 hX
  clear hts hvl hvs hy hd hd2
  go_enter Tryd.func58, Tryd.ntmps58
  go_wp2_with fail
  rw [← hb2]
  generalize hW1 : World.alloc (World.alloc w _) _ = W1
  have hB1 : Below w.heap.size w W1 := by rw [← hW1]; exact bAlloc (bAlloc (Below.refl _ _) _) _
  have hp : ∀ j v, (#[Value.int .i64 (F : Int), .int .i64 lo, .int .i64 hi, .int .i64 sl, .int .i64 sm, .slice ta ts.length tc] : Array Value)[j]? = some v → W1.cell? ⟨b2, j, none⟩ = some v := fun j v h => by
    rw [← hW1, hb2]; exact keep (bAlloc (Below.refl _ _) _) (cell_new h)
  have hc0 : W1.cell? ⟨b2 + 1, 0, none⟩ = some (.slice (some ⟨vb, vo, none⟩) F vc) := by
    have h := cell_new (V := w.alloc (.cells #[Value.int .i64 (F : Int), .int .i64 lo, .int .i64 hi, .int .i64 sl, .int .i64 sm, .slice ta ts.length tc] 43)) (cs := #[Value.slice (some ⟨vb, vo, none⟩) F vc]) (t := 34) (j := 0) rfl
    rw [World.size_alloc] at h
    rw [← hW1, hb2]; exact h
  have HP := Lib.hid hp
  have HC0 := Lib.hid hc0
  have HB1 := Lib.hid hB1
  clear hW1 hB1 hp hc0 hb2
  have k0 := HP.out 0 _ rfl
  have k1 := HP.out 1 _ rfl
  have k2 := HP.out 2 _ rfl
  have k3 := HP.out 3 _ rfl
  have k4 := HP.out 4 _ rfl
  have k5 := HP.out 5 _ rfl
  have k6 := HC0.out
  have hlk := cell_lt k0
  have hlk2 := cell_lt k6
  go_step3
  go_wp2_with (go_at_call 79; refine (H79.out W1 HB1.out).mono ?_; rintro e w2 ⟨g, hg, rfl, hr, hb⟩; have HB79 := Lib.hid (And.intro hg (And.intro hr hb)); clear hg hr hb)
  obtain ⟨hg, hr, hb⟩ := HB79.out
  clear k0 k1 k2 k3 k4 k5 k6 hlk hlk2 HB79
  have HCC : Hid (∀ W, Below w2.heap.size w2 W → W.cell? ⟨b2 + 1, 0, none⟩ = some (.slice (some ⟨vb, vo, none⟩) F vc) ∧ W.cell? ⟨b2, 1, none⟩ = some (.int .i64 lo) ∧ W.cell? ⟨b2, 2, none⟩ = some (.int .i64 hi) ∧ W.cell? ⟨b2, 3, none⟩ = some (.int .i64 sl) ∧ W.cell? ⟨b2, 4, none⟩ = some (.int .i64 sm) ∧ (∀ i, i < F → W.cell? ⟨vb, vo + i, none⟩ = some (.int .i64 (vs.getD i 0))) ∧ W.rowIs g 3 F (fun i => .int .i64 (movC ts vs d i))) :=
    Lib.hid fun W hB => ⟨keep hB (keep hb HC0.out), keep hB (keep hb (HP.out 1 _ rfl)), keep hB (keep hb (HP.out 2 _ rfl)), keep hB (keep hb (HP.out 3 _ rfl)), keep hB (keep hb (HP.out 4 _ rfl)), fun i hi => keep hB (keep hb (keep HB1.out (HX.out i hi))), hr.of_block (hB.block g hr.lt)⟩
  have HB2 := Lib.hid (bThen HB1.out hb)
  have k0 := keep hb HC0.out
  have hlk := cell_lt k0
  clear hr hb hg
  go_step3
  go_wp2_with fail
  clear k0 hlk
  go_loopw [9, 23] (fun fd i wr => fd = .bool false ∧ ∃ k : Nat, k ≤ F ∧ i = .int .i64 k ∧ Hid (∀ i j, i < k → i ≤ j → j < F → ¬ Better F lo hi sl sm d ts vs i j) ∧ Hid (Below w2.heap.size w2 wr)) (fun _ i _ => F - (intOf i).toNat)
  case atStart => exact ⟨rfl, 0, Nat.zero_le _, rfl, Lib.hid (fun i j h => by omega), Lib.hid (Below.refl _ _)⟩
  case round =>
    obtain ⟨rfl, k, hk, rfl, HN, HB⟩ := hrel
    by_cases hlt : k < F
    · obtain ⟨c0, p1, p2, p3, p4, hx, hr⟩ := HCC.out wr HB.out
      have H80a := Lib.hid (H80.out wr k d (by omega) HD.out.1 c0 p3 p4 hx)
      have hbk := HBI.out k d (by omega) HD.out.1
      clear c0 p1 p2 p3 p4 hx hr
      cases hm : mayC sl F (vF vs) k d
      · rw [hm] at H80a
        have HNO := Lib.hid (Better.no_may (lo := lo) (hi := hi) (sm := sm) (ts := ts) hm)
        clear hm
        generalize bend sm (vF vs) F k d = gr at *
        go_wp2_with (go_at_call 80; refine H80a.out.mono ?_; rintro e w3 ⟨rfl, hb⟩; have HB3 := Lib.hid (bThen HB.out hb); clear hb)
        have HNEXT : Hid (∀ i j, i < k + 1 → i ≤ j → j < F → ¬ Better F lo hi sl sm d ts vs i j) := Lib.hid fun i j h1 h2 h3 => by
          by_cases e : i = k
          · subst e; exact HNO.out j
          · exact HN.out i j (by omega) h2 h3
        go_loopw [9, 13] (fun fd i wr => fd = .bool false ∧ i = .int .i64 k ∧ Hid (Below w2.heap.size w2 wr)) (fun _ _ _ => 0)
        case atStart => exact ⟨rfl, rfl, HB3⟩
        case round =>
          obtain ⟨rfl, rfl, HBi⟩ := hrel
          go_wp2_with fail
          refine wp_opaque fun Q2 hQ2 => ?_
          (refine wp_region_below (by kernel_rfl) (by kernel_rfl) ?_; (repeat (first | go_big_quiet_step ((fail)) | quiet_step ((fail)))); (refine wpQuiet_nil ?_; intro _ hw'; obtain ⟨xq, hw''⟩ := hw'; subst hw''))
          have HBN := Lib.hid (bThen HBi.out xq.2)
          refine hQ2 _ _ _ ?_
          clear hQ2 Q2
          go_wp2_with fail
          go_roundw
          case rel =>
            first
              | exact ⟨rfl, k + 1, by omega, by go_num, HNEXT, HBN⟩
              | ((repeat apply Exists.intro); refine ⟨?_, rfl⟩; exact ⟨rfl, k + 1, by omega, by go_num, HNEXT, HBN⟩)
          case measure => simp [intOf]; omega
      · rw [hm] at H80a
        have HM := Lib.hid hm
        clear hm
        obtain ⟨gr, hgr⟩ : ∃ gr, gr = bend sm (vF vs) F k d := ⟨_, rfl⟩
        rw [← hgr] at H80a hbk
        have HGR := Lib.hid hgr
        clear hgr
        go_wp2_with (go_at_call 80; refine H80a.out.mono ?_; rintro e w3 ⟨rfl, hb⟩; have HB3 := Lib.hid (bThen HB.out hb); clear hb)
        obtain ⟨wo, hwo⟩ : ∃ wo, wo = wr := ⟨_, rfl⟩
        subst hwo
        go_loopw [9, 11, 13] (fun fd x i wr => fd = .bool false ∧ ∃ t : Nat, k ≤ t ∧ t ≤ F ∧ i = .int .i64 t ∧ x = .int .i64 (gr + sumM ts (vF vs) d k (t - k)) ∧ Hid (∀ m, k ≤ m → m < t → betw (vs.getD m 0 + d) lo hi = true) ∧ Hid (∀ j, k ≤ j → j < t → ¬ Better F lo hi sl sm d ts vs k j) ∧ Hid (Below w2.heap.size w2 wr)) (fun _ _ i _ => F - (intOf i).toNat)
        case atStart => exact ⟨rfl, k, Nat.le_refl _, by omega, rfl, by rw [Nat.sub_self]; simp [sumM], Lib.hid (fun m h1 h2 => by omega), Lib.hid (fun m h1 h2 => by omega), HB3⟩
        case round =>
          obtain ⟨rfl, t, ht1, ht2, rfl, rfl, HIN, HNB, HBi⟩ := hrel
          obtain ⟨c0, p1, p2, p3, p4, hx, hr⟩ := HCC.out wr HBi.out
          have hlc := cell_lt c0
          have hlp := cell_lt p1
          have hsi := HSI.out k (t - k) (by omega)
          by_cases hlt2 : t < F
          · have ek := hx t hlt2
            have hlv := cell_lt ek
            have hvt := HVS.out t hlt2
            have hmt := HMI.out t hlt2
            have er := hr.cell hlt2
            have hlr := hr.lt
            have HST : Hid (sumM ts (vF vs) d k (t + 1 - k) = sumM ts (vF vs) d k (t - k) + movC ts vs d t) := Lib.hid (by
              rw [show t + 1 - k = (t - k) + 1 by omega]
              show sumM ts (vF vs) d k (t - k) + mvC ts d (k + (t - k)) (vF vs (k + (t - k))) = _
              rw [show k + (t - k) = t by omega]; rfl)
            have HBE : Hid (betw (vs.getD t 0 + d) lo hi = true → (Better F lo hi sl sm d ts vs k t ↔ mayC sl F (vF vs) (t + 1) (-d) = true ∧ gr + sumM ts (vF vs) d k (t - k) + movC ts vs d t + bend sm (vF vs) F (t + 1) (-d) < 0)) := Lib.hid fun h => by
              rw [HGR.out, ← mvC_mov]
              exact better_iff HM.out (fun m h1 h2 => by
                by_cases e : m = t
                · subst e; exact h
                · exact HIN.out m h1 (by omega)) ht1
            have hbe := HBI.out (t + 1) (-d) hlt2 HD.out.2
            have H80b : Hid (∀ W, Below wr.heap.size wr W → Calls Tryd.prog 80 #[.int .i64 ((t : Int) + 1), .int .i64 (-d), .pointer (some ⟨b2 + 1, 0, none⟩), .pointer (some ⟨b2, 0, none⟩)] W fun e w' => e = .returned (.tuple #[.int .i64 (bend sm (vF vs) F (t + 1) (-d)), .bool (mayC sl F (vF vs) (t + 1) (-d))]) ∧ Below W.heap.size W w') := Lib.hid fun W hB => H80.out W (t + 1) (-d) hlt2 HD.out.2 (keep hB c0) (keep hB p3) (keep hB p4) (fun i hi => keep hB (hx i hi))
            have HNX : Hid (¬ Better F lo hi sl sm d ts vs k t → ∀ j, k ≤ j → j < t + 1 → ¬ Better F lo hi sl sm d ts vs k j) := Lib.hid fun h j h1 h2 => by
              by_cases e : j = t
              · subst e; exact h
              · exact HNB.out j h1 (by omega)
            have HCT := Lib.hid (fun h : betw (vs.getD t 0 + d) lo hi = false => Better.no_at (F := F) (sl := sl) (sm := sm) (ts := ts) h ht1)
            have HINX := Lib.hid (fun (h : betw (vs.getD t 0 + d) lo hi = true) m (h1 : k ≤ m) (h2 : m < t + 1) => show betw (vs.getD m 0 + d) lo hi = true by
              by_cases e : m = t
              · subst e; exact h
              · exact HIN.out m h1 (by omega))
            clear hx hr p3 p4
            generalize vs.getD t 0 = y at *
            generalize movC ts vs d t = mv at *
            generalize sumM ts (vF vs) d k (t - k) = sk at *
            generalize bend sm (vF vs) F (t + 1) (-d) = be at *
            generalize mayC sl F (vF vs) (t + 1) (-d) = me at *
            have w1 : IntKind.i64.wrap (y + d) = y + d := IntWalk.i64_in _ (by omega)
            have w2' : IntKind.i64.wrap (gr + sk + mv) = gr + sk + mv := IntWalk.i64_in _ (by omega)
            have w3' : IntKind.i64.wrap (gr + sk + mv + be) = gr + sk + mv + be := IntWalk.i64_in _ (by omega)
            have i2 : (t : Int) < (F : Int) := by omega
            cases g1 : betw (y + d) lo hi
            · have HCT' := Lib.hid (HCT.out g1)
              clear HCT HINX HBE H80b
              go_wp2_with fail
              refine wp_opaque fun Q2 hQ2 => ?_
              (refine wp_region_below (by kernel_rfl) (by kernel_rfl) ?_; (repeat (first | go_big_quiet_step ((go_at_call 47; exact toS (fun w => between_any _ _ _ w) _)) | quiet_step ((go_at_call 47; exact toS (fun w => between_any _ _ _ w) _)))); (refine wpQuiet_nil ?_; intro _ hw'; obtain ⟨xq, hw''⟩ := hw'; subst hw''))
              have HBN := Lib.hid (bThen HBi.out xq.2)
              have HNEXT : Hid (∀ i j, i < k + 1 → i ≤ j → j < F → ¬ Better F lo hi sl sm d ts vs i j) := Lib.hid fun i j h1 h2 h3 => by
                by_cases e : i = k
                · subst e
                  by_cases c : j < t
                  · exact HNB.out j h2 c
                  · exact HCT'.out j (by omega)
                · exact HN.out i j (by omega) h2 h3
              refine hQ2 _ _ _ ?_
              clear hQ2 Q2
              go_wp2_with fail
              go_roundw
              case rel =>
                first
                  | exact ⟨rfl, k + 1, by omega, by go_num, HNEXT, HBN⟩
                  | ((repeat apply Exists.intro); refine ⟨?_, rfl⟩; exact ⟨rfl, k + 1, by omega, by go_num, HNEXT, HBN⟩)
              case measure => simp [intOf]; omega
            · have HBE' := Lib.hid (HBE.out g1)
              have HINX' := Lib.hid (HINX.out g1)
              clear HCT HBE HINX
              go_wp2_with fail
              refine wp_opaque fun Q2 hQ2 => ?_
              (refine wp_region_below (by kernel_rfl) (by kernel_rfl) ?_; (repeat (first | go_big_quiet_step ((go_at_call 47; exact toS (fun w => between_any _ _ _ w) _)) | quiet_step ((go_at_call 47; exact toS (fun w => between_any _ _ _ w) _)))); (refine wpQuiet_nil ?_; intro _ hw'; obtain ⟨xq, hw''⟩ := hw'; subst hw''))
              have HBX := Lib.hid xq.2
              have er' := keep xq.2 er
              have hlr' := cell_lt er'
              refine hQ2 _ _ _ ?_
              clear hQ2 Q2 er ek c0 p1 p2
              generalize xq.val = w7 at *
              have H80c := Lib.hid (H80b.out w7 HBX.out)
              clear H80b
              by_cases c2 : gr + sk + mv + be < 0
              · have d2 : decide (gr + sk + mv + be < 0) = true := decide_eq_true c2
                cases me
                · have HNB' := Lib.hid (HNX.out (fun h => by have := (HBE'.out.1 h).1; cases this))
                  go_wp2_with (go_at_call 80; refine H80c.out.mono ?_; rintro e w8 ⟨rfl, hb⟩; have HB8 := Lib.hid (bThen HBi.out (bThen HBX.out hb)); clear hb)
                  go_roundw
                  case rel =>
                    first
                      | exact ⟨rfl, t + 1, by omega, by omega, by go_num, by rw [HST.out, Int.add_assoc], HINX', HNB', HB8⟩
                      | ((repeat apply Exists.intro); refine ⟨?_, rfl⟩; exact ⟨rfl, t + 1, by omega, by omega, by go_num, by rw [HST.out, Int.add_assoc], HINX', HNB', HB8⟩)
                  case measure => simp [intOf]; omega
                · go_wp2_with (go_at_call 80; refine H80c.out.mono ?_; rintro e w8 ⟨rfl, hb⟩; have HB8 := Lib.hid (bThen HBi.out (bThen HBX.out hb)); clear hb)
                  (try rw [Exit.noGoto_ret])
                  go_ret
                  exact ⟨⟨true, rfl, fun _ => ⟨k, t, ht1, hlt2, HBE'.out.2 ⟨by simp, c2⟩⟩, fun _ => rfl⟩, bThen HB2.out HB8.out⟩
              · have d2 : decide (gr + sk + mv + be < 0) = false := decide_eq_false c2
                have HNB' := Lib.hid (HNX.out (fun h => c2 (HBE'.out.1 h).2))
                cases me
                · go_wp2_with (go_at_call 80; refine H80c.out.mono ?_; rintro e w8 ⟨rfl, hb⟩; have HB8 := Lib.hid (bThen HBi.out (bThen HBX.out hb)); clear hb)
                  go_roundw
                  case rel =>
                    first
                      | exact ⟨rfl, t + 1, by omega, by omega, by go_num, by rw [HST.out, Int.add_assoc], HINX', HNB', HB8⟩
                      | ((repeat apply Exists.intro); refine ⟨?_, rfl⟩; exact ⟨rfl, t + 1, by omega, by omega, by go_num, by rw [HST.out, Int.add_assoc], HINX', HNB', HB8⟩)
                  case measure => simp [intOf]; omega
                · go_wp2_with (go_at_call 80; refine H80c.out.mono ?_; rintro e w8 ⟨rfl, hb⟩; have HB8 := Lib.hid (bThen HBi.out (bThen HBX.out hb)); clear hb)
                  go_roundw
                  case rel =>
                    first
                      | exact ⟨rfl, t + 1, by omega, by omega, by go_num, by rw [HST.out, Int.add_assoc], HINX', HNB', HB8⟩
                      | ((repeat apply Exists.intro); refine ⟨?_, rfl⟩; exact ⟨rfl, t + 1, by omega, by omega, by go_num, by rw [HST.out, Int.add_assoc], HINX', HNB', HB8⟩)
                  case measure => simp [intOf]; omega
          · obtain rfl : t = F := by omega
            clear hx hr
            have i2 : ¬ ((t : Int) < (t : Int)) := by omega
            go_wp2_with fail
            refine wp_opaque fun Q2 hQ2 => ?_
            (refine wp_region_below (by kernel_rfl) (by kernel_rfl) ?_; (repeat (first | go_big_quiet_step ((fail)) | quiet_step ((fail)))); (refine wpQuiet_nil ?_; intro _ hw'; obtain ⟨xq, hw''⟩ := hw'; subst hw''))
            have HBN := Lib.hid (bThen HBi.out xq.2)
            have HNEXT : Hid (∀ i j, i < k + 1 → i ≤ j → j < t → ¬ Better t lo hi sl sm d ts vs i j) := Lib.hid fun i j h1 h2 h3 => by
              by_cases e : i = k
              · subst e; exact HNB.out j h2 h3
              · exact HN.out i j (by omega) h2 h3
            refine hQ2 _ _ _ ?_
            clear hQ2 Q2
            go_wp2_with fail
            go_roundw
            case rel =>
              first
                | exact ⟨rfl, k + 1, by omega, by go_num, HNEXT, HBN⟩
                | ((repeat apply Exists.intro); refine ⟨?_, rfl⟩; exact ⟨rfl, k + 1, by omega, by go_num, HNEXT, HBN⟩)
            case measure => simp [intOf]; omega
    · obtain rfl : k = F := by omega
      go_wp2_with fail
      (try rw [Exit.noGoto_ret])
      go_ret
      exact ⟨⟨false, rfl, fun h => (by cases h), fun ⟨i, j, h1, h2, h3⟩ => absurd h3 (HN.out i j (by omega) h1 h2)⟩, bThen HB2.out HB.out⟩
end Go.Proofs.YtejcbcjhmnhefaaDoor
