/- Contracts of the specification: what is said of a number. -/
import Derived.Test.YtfcopnlpcbbocaaR2
import Derived.Test.YtfcopnlpcbbocaaJ1
import Derived.Deep.Cut
set_option linter.unusedSimpArgs false
set_option linter.unusedVariables false
namespace Go.Proofs.Ytfcopnlpcbbocaa
open Go.RowKit

/-- Each right ask says something. -/
theorem piecesFrom_ne (f : Pce → Nat → List Item) : ∀ (l : List Pce) (i : Nat) (p : Pce), p ∈ l → (∀ i, f p i ≠ []) → piecesFrom f l i ≠ []
  | [], _, p, h, _ => by simp at h
  | q :: l, i, p, h, hf => by
    rw [piecesFrom]
    rcases List.mem_cons.1 h with rfl | h
    · simp [hf i]
    · simp [piecesFrom_ne f l (i + 1) p h hf]
theorem itemsF_ne {S : Sys} (hS : Right S) : ∀ (k : Nat) (a : Ask) (d : Int), AskRight S a → a.num < k → itemsF k S a d ≠ []
  | 0, a, d, ha, h => by have := ha.num; omega
  | k + 1, a, d, ha, h => by
    obtain ⟨-, -, -, -, -, -, hr⟩ := rule_right hS ha
    rw [itemsF_succ]
    have hc := hr.says
    have hex : ∃ p ∈ (ruleOf S a).pieces, p.kind = 1 ∨ p.kind = 2 ∨ p.kind = 3 := by
      obtain ⟨p, hp⟩ := List.exists_mem_of_ne_nil _ (List.ne_nil_of_length_pos (show 0 < ((ruleOf S a).pieces.filter fun p => decide (p.kind = 1) || decide (p.kind = 2) || decide (p.kind = 3)).length from hc))
      rw [List.mem_filter] at hp
      exact ⟨p, hp.1, by simpa [or_assoc] using hp.2⟩
    obtain ⟨p, hp, hk⟩ := hex
    refine piecesFrom_ne _ _ _ p hp fun i => ?_
    rcases hk with hk | hk | hk
    · simp [pieceItems, hk]
    · simp [pieceItems, hk]
    · have hq := askQuo_right hS ha hp hk
      have := itemsF_ne hS k (askQuo S a p.set) (d + 1) hq.1 (by omega)
      simp [pieceItems, hk, this]

theorem saids_len (l : List Item) : (saids l).length = l.length * 6 := by
  induction l with
  | nil => rfl
  | cons x l ih =>
    have e : saids (x :: l) = cellsOf x.1 ++ saids l := by simp [saids]
    rw [e, List.length_append, ih]; simp [cellsOf]; omega
theorem saids_append (l m : List Item) : saids (l ++ m) = saids l ++ saids m := by simp [saids]
theorem saids_one (l : List Item) : ∀ u ∈ saids l, u.oneCell' = true := by
  intro u hu
  simp only [saids, List.mem_flatMap] at hu
  obtain ⟨x, -, hx⟩ := hu
  simp only [cellsOf, List.mem_cons, List.not_mem_nil, or_false] at hx
  rcases hx with rfl | rfl | rfl | rfl | rfl | rfl <;> rfl
theorem said_news {w : World} {b o : Nat} {l : List Item} (h : ∀ i (hi : i < (l.map Prod.fst).length), SaidAt w b (o + i * 6) (l.map Prod.fst)[i]) : ∀ j u, (saids l)[j]? = some u → w.cell? ((⟨b, o, none⟩ : Addr).add j) = some u := by
  intro j u hu
  have hj : j < (saids l).length := (List.getElem?_eq_some_iff.1 hu).1
  rw [saids_len] at hj
  have hi : j / 6 < l.length := by omega
  have hg := saids_get l (j / 6) hi (j % 6) (by omega)
  rw [show j / 6 * 6 + j % 6 = j by omega] at hg
  rw [hg] at hu
  have hadd : (⟨b, o, none⟩ : Addr).add j = ⟨b, o + j, none⟩ := by unfold Addr.add; split <;> simp_all
  rw [hadd]
  obtain ⟨c0, c1, c2, c3, c4, c5⟩ := h (j / 6) (by simpa using hi)
  simp only [List.getElem_map] at c0 c1 c2 c3 c4 c5
  have hr : j % 6 = 0 ∨ j % 6 = 1 ∨ j % 6 = 2 ∨ j % 6 = 3 ∨ j % 6 = 4 ∨ j % 6 = 5 := by omega
  rcases hr with hr | hr | hr | hr | hr | hr
  all_goals
    rw [hr] at hu
    simp [cellsOf] at hu
    subst hu
  · rw [show o + j = o + j / 6 * 6 by omega]; exact c0
  · rw [show o + j = o + j / 6 * 6 + 1 by omega]; exact c1
  · rw [show o + j = o + j / 6 * 6 + 2 by omega]; exact c2
  · rw [show o + j = o + j / 6 * 6 + 3 by omega]; exact c3
  · rw [show o + j = o + j / 6 * 6 + 4 by omega]; exact c4
  · rw [show o + j = o + j / 6 * 6 + 5 by omega]; exact c5

theorem rest_some (S : Sys) (a : Ask) (d : Int) (k : Nat) (term set below : Int) (j : Nat) {sv : Int} (h : rst (ruleOf S a) a.num ≠ 0) (h' : rst (ruleOf S a) a.num = sv) : pieceItems (itemsF k S) S a d ⟨4, term, set, below⟩ j = itemsF k S ⟨sv, set, a.gen, a.kas⟩ (d + 1) := by
  rw [← h']; simp [pieceItems, askRst, h]
theorem rest_none (S : Sys) (a : Ask) (d : Int) (k : Nat) (term set below : Int) (j : Nat) (h : rst (ruleOf S a) a.num = 0) : pieceItems (itemsF k S) S a d ⟨4, term, set, below⟩ j = [] := by
  simp [pieceItems, h]
/-- What the specification hands back. -/
def RefTraced (l : List Item) (e : Ending) (w' : World) : Prop :=
  ∃ ad n c t, e = .returned (.tuple #[.slice ad n c, .bool t]) ∧ ((t = true ∧ l.all Prod.snd = true ∧ SliceV w' (.slice ad n c) 6 SaidAt (l.map Prod.fst)) ∨ (t = false ∧ l.all Prod.snd = false ∧ n = 0))
theorem RefTraced.shape {l : List Item} {e : Ending} {w' : World} (h : RefTraced l e w') (hne : l ≠ []) :
    (∃ cb co cc, e = .returned (.tuple #[.slice (some ⟨cb, co, none⟩) l.length cc, .bool true]) ∧ Hid (l.all Prod.snd = true) ∧ Hid (∀ j u, (saids l)[j]? = some u → w'.cell? ((⟨cb, co, none⟩ : Addr).add j) = some u)) ∨
      (∃ ad cc, e = .returned (.tuple #[.slice ad 0 cc, .bool false]) ∧ Hid (l.all Prod.snd = false)) := by
  obtain ⟨ad, n, c, t, rfl, ⟨rfl, h1, h2⟩ | ⟨rfl, h1, rfl⟩⟩ := h
  · left
    obtain ⟨ad', cc', hv', hnl, hcells⟩ := h2
    obtain ⟨hv1, hv2, hv3⟩ : ad = ad' ∧ n = (List.map Prod.fst l).length ∧ c = cc' := by simpa using hv'
    rcases hcells with hnil | ⟨cb, co, hadr, hcl⟩
    · exact absurd (List.map_eq_nil_iff.1 hnil) hne
    have hnews := said_news hcl
    rw [List.length_map] at hv2
    subst hv1 hv2 hv3 hadr
    exact ⟨cb, co, _, rfl, Lib.hid h1, Lib.hid hnews⟩
  · exact .inr ⟨ad, c, rfl, Lib.hid h1⟩

/-- The boxes of a call: the system, the ask, the rule. -/
structure RTB (W : World) (n rb : Nat) (S : Sys) (a : Ask) (vt vp vs pv : Value) : Prop where
  s0 : W.cell? ⟨n, 0, none⟩ = some (.int .i64 S.top)
  s1 : W.cell? ⟨n, 1, none⟩ = some (.int .i64 S.genders)
  s2 : W.cell? ⟨n, 2, none⟩ = some (.int .i64 S.cases)
  s3 : W.cell? ⟨n, 3, none⟩ = some (.int .i64 S.classes)
  s4 : W.cell? ⟨n, 4, none⟩ = some vt
  s5 : W.cell? ⟨n, 5, none⟩ = some vp
  s6 : W.cell? ⟨n, 6, none⟩ = some vs
  a0 : W.cell? ⟨n + 1, 0, none⟩ = some (.int .i64 a.num)
  a1 : W.cell? ⟨n + 1, 1, none⟩ = some (.int .i64 a.set)
  a2 : W.cell? ⟨n + 1, 2, none⟩ = some (.int .i64 a.gen)
  a3 : W.cell? ⟨n + 1, 3, none⟩ = some (.int .i64 a.kas)
  q0 : W.cell? ⟨rb, 0, none⟩ = some (.int .i64 (ruleOf S a).base)
  q1 : W.cell? ⟨rb, 1, none⟩ = some (.int .i64 (ruleOf S a).div)
  q2 : W.cell? ⟨rb, 2, none⟩ = some pv
  t0 : TypAt W n 26
  t1 : TypAt W (n + 1) 36
  t2 : TypAt W rb 54
theorem RTB.kp {W W' : World} {m n rb : Nat} {S : Sys} {a : Ask} {vt vp vs pv : Value} {own : Nat → Bool} (h : RTB W n rb S a vt vp vs pv) (hk : Kp m own W W') (h0 : own 26 = false) (h1 : own 36 = false) (h2 : own 54 = false) : RTB W' n rb S a vt vp vs pv :=
  ⟨hk.cell h.t0 h0 h.s0, hk.cell h.t0 h0 h.s1, hk.cell h.t0 h0 h.s2, hk.cell h.t0 h0 h.s3, hk.cell h.t0 h0 h.s4, hk.cell h.t0 h0 h.s5, hk.cell h.t0 h0 h.s6,
    hk.cell h.t1 h1 h.a0, hk.cell h.t1 h1 h.a1, hk.cell h.t1 h1 h.a2, hk.cell h.t1 h1 h.a3, hk.cell h.t2 h2 h.q0, hk.cell h.t2 h2 h.q1, hk.cell h.t2 h2 h.q2, hk.typ h.t0 h0, hk.typ h.t1 h1, hk.typ h.t2 h2⟩
theorem RTB.below {W W' : World} {n rb : Nat} {S : Sys} {a : Ask} {vt vp vs pv : Value} (h : RTB W n rb S a vt vp vs pv) (hB : Below W.heap.size W W') : RTB W' n rb S a vt vp vs pv :=
  h.kp (own := fun _ => false) (Kp.of_below hB (Nat.le_refl _)) rfl rfl rfl
def own50 (t : Nat) : Bool := t == 50

theorem typ_new (w : World) (c : Array Value) (t : Nat) : TypAt (w.alloc (.cells c t)) w.heap.size t := ⟨c, _, World.alloc_heap_new w _⟩
theorem typ_two (w : World) (c0 c1 : Array Value) (t0 t1 : Nat) : TypAt ((w.alloc (.cells c0 t0)).alloc (.cells c1 t1)) w.heap.size t0 ∧ TypAt ((w.alloc (.cells c0 t0)).alloc (.cells c1 t1)) (w.heap.size + 1) t1 := by
  refine ⟨(typ_new w c0 t0).keep (bAlloc (Below.refl _ _) _), ?_⟩
  have := typ_new (w.alloc (.cells c0 t0)) c1 t1
  rw [World.size_alloc] at this; exact this
theorem Index_B (l : List Rul) (n : Int) (v : Value) (w : World) (hv : SliceV w v 3 RulAt l) :
    Calls Try.prog 26 #[v, .int .i64 n] w fun e w' => e = .returned (.int .i64 (ruleIdx l n)) ∧ Below w.heap.size w w' :=
  (Index_any l n v w hv).mono fun _ _ ⟨a, b⟩ => ⟨a, by subst b; exact Below.refl _ _⟩

set_option maxRecDepth 100000 in
set_option maxHeartbeats 8000000 in
theorem refTrace_any (S : Sys) (hS : Right S) :
    ∀ (k : Nat) (a : Ask) (d : Int), AskRight S a → a.num < k → 0 ≤ d → d + k ≤ 2000000000000 → ∀ (vt vp vs : Value) (w : World), SysParts w vt vp vs S →
      Calls Try.prog 23 #[sysVal S vt vp vs, a.val, .int .i64 d] w fun e w' => RefTraced (itemsF k S a d) e w' ∧ Below w.heap.size w w' := by
  intro k
  induction k with
  | zero => intro a d ha h; have := ha.num; omega
  | succ k ih =>
    intro a d ha hk hd0 hdk vt vp vs w hp
    have HIH := Lib.hid ih
    clear ih
    have HP := Lib.hid hp
    obtain ⟨l, hl1, hl2, hsr, hidx, hrule, hrr⟩ := rule_right hS ha
    have HRR := Lib.hid hrr
    have hnum := ha.num
    have htop := ha.top
    obtain ⟨hset0, hset1⟩ := ha.set
    have HA := Lib.hid ha
    obtain ⟨⟨at_, ct, rfl, hl1', htx⟩, ⟨ap, cp, rfl, hl2', -⟩, ⟨as_, cs, rfl, hl3', hx⟩⟩ := hp
    unfold most at hl3' hl1'
    have HTX := Lib.hid htx
    clear htx
    obtain ⟨i0, hi, hz0, hz1, hz2⟩ := info_parts info50
    have HI := Lib.hid hi
    clear hi
    have HLEN : (itemsF (k + 1) S a d).length ≤ 820 := by
      have h1 := items_len hS (k + 1) a d ha
      unfold LB at h1
      split at h1
      · omega
      · have := mx_top (n := a.num.toNat) (by have := ha.top; omega)
        omega
    have hat : a.set.toNat < S.sets.length := by omega
    rcases hx with hnil | ⟨xb, xo, rfl, hf⟩
    · simp [hnil] at hat
    obtain ⟨lv, c0, hlv⟩ := hf a.set.toNat hat
    rw [List.getElem?_eq_getElem hat] at hl1
    have hl1 := Option.some.inj hl1
    rw [hl1] at hlv
    simp only [Nat.mul_one] at c0
    obtain ⟨la, lc, rfl, hll, hly⟩ := id hlv
    unfold most at hll
    rcases hly with hnil | ⟨lb, lo, rfl, hlf⟩
    · simp [hnil] at hidx
    obtain ⟨r0, r1, rv, r2, hrv⟩ := hlf _ hidx
    have HX := Lib.hid (show (ruleIdx l a.num) = idxOf S a by rw [idxOf, hl2])
    rw [hrule hidx] at r0 r1 hrv
    have HLV := Lib.hid hlv
    have HRV := Lib.hid hrv
    obtain ⟨pa, pcap, rfl, hpl, hpx⟩ := hrv
    unfold most at hpl
    have HRF := Lib.hid hrule
    have HSR := Lib.hid hsr
    clear hf hlf hlv hrule hsr hl1 hl2 hrr ha
    have HSV := Lib.hid (sysVal_eq S (.slice at_ S.terms.length ct) (.slice ap S.plurals.length cp) (.slice (some ⟨xb, xo, none⟩) S.sets.length cs))
    unfold sysVal Ask.val
    have hxb := cell_lt c0
    have hlb := cell_lt r0
    go_enter Try.func23, Try.ntmps23
    go_wp2_with fail
    generalize hW1 : World.alloc (World.alloc w _) _ = W1
    have hB1 : Below w.heap.size w W1 := by rw [← hW1]; exact bAlloc (bAlloc (Below.refl _ _) _) _
    have t0 : TypAt W1 w.heap.size 26 := by rw [← hW1]; exact (typ_two _ _ _ _ _).1
    have t1 : TypAt W1 (w.heap.size + 1) 36 := by rw [← hW1]; exact (typ_two _ _ _ _ _).2
    have s0 : W1.cell? ⟨w.heap.size, 0, none⟩ = some (.int .i64 S.top) := by rw [← hW1]; exact keep (bAlloc (Below.refl _ _) _) (cell_new rfl)
    have s1 : W1.cell? ⟨w.heap.size, 1, none⟩ = some (.int .i64 S.genders) := by rw [← hW1]; exact keep (bAlloc (Below.refl _ _) _) (cell_new rfl)
    have s2 : W1.cell? ⟨w.heap.size, 2, none⟩ = some (.int .i64 S.cases) := by rw [← hW1]; exact keep (bAlloc (Below.refl _ _) _) (cell_new rfl)
    have s3 : W1.cell? ⟨w.heap.size, 3, none⟩ = some (.int .i64 S.classes) := by rw [← hW1]; exact keep (bAlloc (Below.refl _ _) _) (cell_new rfl)
    have s4 : W1.cell? ⟨w.heap.size, 4, none⟩ = some (.slice at_ S.terms.length ct) := by rw [← hW1]; exact keep (bAlloc (Below.refl _ _) _) (cell_new rfl)
    have s5 : W1.cell? ⟨w.heap.size, 5, none⟩ = some (.slice ap S.plurals.length cp) := by rw [← hW1]; exact keep (bAlloc (Below.refl _ _) _) (cell_new rfl)
    have s6 : W1.cell? ⟨w.heap.size, 6, none⟩ = some (.slice (some ⟨xb, xo, none⟩) S.sets.length cs) := by rw [← hW1]; exact keep (bAlloc (Below.refl _ _) _) (cell_new rfl)
    have a0 : W1.cell? ⟨w.heap.size + 1, 0, none⟩ = some (.int .i64 a.num) := by rw [← hW1]; simp
    have a1 : W1.cell? ⟨w.heap.size + 1, 1, none⟩ = some (.int .i64 a.set) := by rw [← hW1]; simp
    have a2 : W1.cell? ⟨w.heap.size + 1, 2, none⟩ = some (.int .i64 a.gen) := by rw [← hW1]; simp
    have a3 : W1.cell? ⟨w.heap.size + 1, 3, none⟩ = some (.int .i64 a.kas) := by rw [← hW1]; simp
    clear hW1
    replace c0 := keep hB1 c0
    replace r0 := keep hB1 r0
    replace r1 := keep hB1 r1
    replace r2 := keep hB1 r2
    have hsl := cell_lt s0
    have hal := cell_lt a0
    have hxb := cell_lt c0
    have hlb := cell_lt r0
    have hcall := fun x : BW W1 => Index_B l a.num _ x.val (HLV.out.keep RulAt.stable (hB1.trans (x.2.mono hB1.size)))
    rw [HX.out] at hcall
    refine wp_opaque fun Q2 hQ2 => ?_
    (refine wp_region_below (by kernel_rfl) (by kernel_rfl) ?_; (repeat (first | go_big_quiet_step ((go_at_call 26; exact toB hcall _)) | quiet_step ((go_at_call 26; exact toB hcall _)))); (refine wpQuiet_nil ?_; intro _ hw'; obtain ⟨xq, hw''⟩ := hw'; subst hw''))
    refine hQ2 _ _ _ ?_
    clear hQ2 Q2 hcall
    have hB2 := xq.2
    generalize xq.val = W2 at *
    replace s0 := keep hB2 s0
    replace s1 := keep hB2 s1
    replace s2 := keep hB2 s2
    replace s3 := keep hB2 s3
    replace s4 := keep hB2 s4
    replace s5 := keep hB2 s5
    replace s6 := keep hB2 s6
    replace a0 := keep hB2 a0
    replace a1 := keep hB2 a1
    replace a2 := keep hB2 a2
    replace a3 := keep hB2 a3
    replace c0 := keep hB2 c0
    replace r0 := keep hB2 r0
    replace r1 := keep hB2 r1
    replace r2 := keep hB2 r2
    replace t0 := t0.keep hB2
    replace t1 := t1.keep hB2
    have hsl := cell_lt s0
    have hal := cell_lt a0
    have hxb := cell_lt c0
    have hlb := cell_lt r0
    have hixl : (idxOf S a : Int) < l.length := by omega
    go_upto_region 4 with fail
    generalize hW3 : World.alloc W2 _ = W3
    have hB3 : Below W2.heap.size W2 W3 := by rw [← hW3]; exact bAlloc (Below.refl _ _) _
    have t2 : TypAt W3 W2.heap.size 54 := by rw [← hW3]; exact typ_new _ _ _
    have q0 : W3.cell? ⟨W2.heap.size, 0, none⟩ = some (.int .i64 (ruleOf S a).base) := by rw [← hW3]; exact cell_new rfl
    have q1 : W3.cell? ⟨W2.heap.size, 1, none⟩ = some (.int .i64 (ruleOf S a).div) := by rw [← hW3]; exact cell_new rfl
    have q2 : W3.cell? ⟨W2.heap.size, 2, none⟩ = some (.slice pa (ruleOf S a).pieces.length pcap) := by rw [← hW3]; exact cell_new rfl
    replace s0 := keep hB3 s0
    replace s1 := keep hB3 s1
    replace s2 := keep hB3 s2
    replace s3 := keep hB3 s3
    replace s4 := keep hB3 s4
    replace s5 := keep hB3 s5
    replace s6 := keep hB3 s6
    replace a0 := keep hB3 a0
    replace a1 := keep hB3 a1
    replace a2 := keep hB3 a2
    replace a3 := keep hB3 a3
    replace t0 := t0.keep hB3
    replace t1 := t1.keep hB3
    have HB3 := Lib.hid (bThen (bThen hB1 hB2) hB3)
    clear hW3 c0 r0 r1 r2 hB1 hB2 hB3
    have hsl := cell_lt s0
    have hal := cell_lt a0
    have hql := cell_lt q1
    go_upto_if 46 with fail
    go_cut [11, 12] from 44 (fun x y wc => x = .int .i64 (quo (ruleOf S a) a.num) ∧ y = .int .i64 (rst (ruleOf S a) a.num) ∧ Below W3.heap.size W3 wc)
    case first =>
      have hdv := HRR.out.div
      have hn := hnum
      by_cases hd : (ruleOf S a).div = 0
      · have hdd : ¬ (0 < (ruleOf S a).div) := by omega
        have hq : quo (ruleOf S a) a.num = 0 := by rw [quo, if_pos hd]
        have hr : rst (ruleOf S a) a.num = 0 := by rw [rst, if_pos hd]
        have HQ0 := Lib.hid hq
        have HR0 := Lib.hid hr
        clear hdv hd hq hr
        go_wp2_with fail
        go_meet
        case rel => exact ⟨by rw [HQ0.out], by rw [HR0.out], Below.refl _ _⟩
      · have hdd : 0 < (ruleOf S a).div := by omega
        have hz : ((ruleOf S a).div == 0) = false := by simp; omega
        have hq : quo (ruleOf S a) a.num = a.num / (ruleOf S a).div := by rw [quo, if_neg hd]
        have hr : rst (ruleOf S a) a.num = a.num % (ruleOf S a).div := by rw [rst, if_neg hd]
        have hqq := quo_lt HRR.out hd
        rw [hq, hr] at hqq
        have HQ0 := Lib.hid hq
        have HR0 := Lib.hid hr
        have e1 : a.num.tdiv (ruleOf S a).div = a.num / (ruleOf S a).div := Int.tdiv_eq_ediv_of_nonneg hn
        have e2 : a.num.tmod (ruleOf S a).div = a.num % (ruleOf S a).div := Int.tmod_eq_emod_of_nonneg hn
        have w1 : IntKind.i64.wrap (a.num / (ruleOf S a).div) = a.num / (ruleOf S a).div := IntWalk.i64_in _ (by omega)
        have w2' : IntKind.i64.wrap (a.num % (ruleOf S a).div) = a.num % (ruleOf S a).div := IntWalk.i64_in _ (by omega)
        clear hdv hqq hq hr
        go_wp2_with fail
        (refine wp_region_below (by kernel_rfl) (by kernel_rfl) ?_; (repeat (first | go_big_quiet_step (fail) | quiet_step (fail))); (refine wpQuiet_nil ?_; intro _ hw'; obtain ⟨xq, hw''⟩ := hw'; subst hw''))
        go_wp2_with fail
        go_meet
        case rel => exact ⟨by rw [HQ0.out], by rw [HR0.out], xq.2⟩
    case rest =>
      obtain ⟨rfl, rfl, hB4⟩ := hcut
      generalize hqv : quo (ruleOf S a) a.num = qv at *
      generalize hrv' : rst (ruleOf S a) a.num = sv at *
      have HQ := Lib.hid hqv
      have HR := Lib.hid hrv'
      have hqs : 0 ≤ qv ∧ qv ≤ 999999999999 ∧ 0 ≤ sv ∧ sv ≤ 999999999999 := by
        by_cases hd : (ruleOf S a).div = 0
        · have h1 : quo (ruleOf S a) a.num = 0 := by rw [quo, if_pos hd]
          have h2 : rst (ruleOf S a) a.num = 0 := by rw [rst, if_pos hd]
          omega
        · have := quo_lt HRR.out hd
          omega
      obtain ⟨hq0, hq1', hs0, hs1⟩ := hqs
      clear hqv hrv'
      have hrt : RTB W3 w.heap.size W2.heap.size S a (.slice at_ S.terms.length ct) (.slice ap S.plurals.length cp) (.slice (some ⟨xb, xo, none⟩) S.sets.length cs) (.slice pa (ruleOf S a).pieces.length pcap) := ⟨s0, s1, s2, s3, s4, s5, s6, a0, a1, a2, a3, q0, q1, q2, t0, t1, t2⟩
      replace hrt := hrt.below hB4
      have HRT := Lib.hid hrt
      clear s0 s1 s2 s3 s4 s5 s6 a0 a1 a2 a3 q0 q1 t0 t1 t2
      replace q2 := keep hB4 q2
      have HB4 := Lib.hid (bThen HB3.out hB4)
      have hrl := Nat.lt_of_lt_of_le hql hB4.size
      generalize hrb : W2.heap.size = rb at *
      clear HB3 hB4 hrb hrt hql hsl hal
      have HIT := Lib.hid (itemsF_succ k S a d)
      generalize hf : pieceItems (itemsF k S) S a d = f at *
      have HF := Lib.hid hf
      clear hf
      have h0 : wc.ownsRow wc.heap.size 50 6 (.slice none 0 0) (saidTo f (ruleOf S a).pieces 0).length (saids (saidTo f (ruleOf S a).pieces 0)) := by rw [saidTo_zero]; exact World.ownsRow_nil _ _ _ _
      have H0 := Lib.hid h0
      clear h0
      go_wp2_with fail
      go_loopw [13, 14] (fun v i wr => ∃ j : Nat, j ≤ (ruleOf S a).pieces.length ∧ i = .int .i64 j ∧ Hid ((saidTo f (ruleOf S a).pieces j).all Prod.snd = true) ∧ Hid (wr.ownsRow wc.heap.size 50 6 v (saidTo f (ruleOf S a).pieces j).length (saids (saidTo f (ruleOf S a).pieces j))) ∧ Kp wc.heap.size own50 wc wr) (fun _ i _ => (ruleOf S a).pieces.length - (intOf i).toNat)
      case atStart => exact ⟨0, Nat.zero_le _, rfl, Lib.hid (by rw [saidTo_zero]; rfl), H0, Kp.refl _ _ _⟩
      case round =>
        obtain ⟨j, hj, rfl, HALL, HROW, hK⟩ := hrel
        by_cases hlt : j < (ruleOf S a).pieces.length
        · have HRTr := Lib.hid (HRT.out.kp hK rfl rfl rfl)
          have HBr := Lib.hid (bThen HB4.out hK.low)
          have q2 := HRTr.out.q2
          rcases hpx with hnil | ⟨pb, po, rfl, hpp⟩
          · simp [hnil] at hlt
          obtain ⟨z0, z1, z2, z3⟩ := hpp j hlt
          replace z0 := keep HBr.out z0
          replace z1 := keep HBr.out z1
          replace z2 := keep HBr.out z2
          replace z3 := keep HBr.out z3
          have hok := HRR.out.piece _ (List.getElem_mem hlt)
          have hkind := pce_kind hok
          have hmem := List.getElem_mem hlt
          have HSS := Lib.hid (saidTo_succ f (ruleOf S a).pieces j hlt)
          have HSL := Lib.hid (saidTo_len f (ruleOf S a).pieces j hlt)
          obtain ⟨pc, hpc⟩ : ∃ pc, pc = (ruleOf S a).pieces[j] := ⟨_, rfl⟩
          rw [← hpc] at z0 z1 z2 z3 hok hkind hmem HSS HSL
          have HOK := Lib.hid hok
          have HMEM := Lib.hid hmem
          have HK := Lib.hid hK
          clear hpp hpc hok hmem hK
          have hql := cell_lt q2
          have hpb := cell_lt z0
          have hsl := cell_lt HRTr.out.s0
          have hal := cell_lt HRTr.out.a0
          have a0 := HRTr.out.a0
          have a1 := HRTr.out.a1
          have a2 := HRTr.out.a2
          have a3 := HRTr.out.a3
          have hne : w.heap.size ≠ wr.heap.size + 1 := by omega
          have hne' : w.heap.size + 1 ≠ wr.heap.size + 1 := by omega
          go_upto_region 14 with fail
          generalize hW3 : World.alloc (World.alloc wr _) _ = W3
          have hb : Below wr.heap.size wr W3 := by rw [← hW3]; exact bAlloc (bAlloc (Below.refl _ _) _) _
          have p0 : W3.cell? ⟨wr.heap.size, 0, none⟩ = some (.int .i64 pc.kind) := by rw [← hW3]; exact keep (bAlloc (Below.refl _ _) _) (cell_new rfl)
          have p1 : W3.cell? ⟨wr.heap.size, 1, none⟩ = some (.int .i64 pc.term) := by rw [← hW3]; exact keep (bAlloc (Below.refl _ _) _) (cell_new rfl)
          have p3 : W3.cell? ⟨wr.heap.size, 3, none⟩ = some (.int .i64 pc.below) := by rw [← hW3]; exact keep (bAlloc (Below.refl _ _) _) (cell_new rfl)
          have b0 : W3.cell? ⟨wr.heap.size + 1, 0, none⟩ = some (.int .i64 (-1)) := by rw [← hW3]; simp
          have b1 : W3.cell? ⟨wr.heap.size + 1, 1, none⟩ = some (.int .i64 pc.set) := by rw [← hW3]; simp
          have b2 : W3.cell? ⟨wr.heap.size + 1, 2, none⟩ = some (.int .i64 a.gen) := by rw [← hW3]; simp
          have b3 : W3.cell? ⟨wr.heap.size + 1, 3, none⟩ = some (.int .i64 a.kas) := by rw [← hW3]; simp
          have bt : TypAt W3 (wr.heap.size + 1) 36 := by rw [← hW3]; exact (typ_two _ _ _ _ _).2
          have bf : ∀ j, W3.frozen? ⟨wr.heap.size + 1, j, none⟩ = false := by intro j; rw [← hW3]; simp
          have s0 := keep hb HRTr.out.s0
          have s1 := keep hb HRTr.out.s1
          have s2 := keep hb HRTr.out.s2
          have s3 := keep hb HRTr.out.s3
          have s4 := keep hb HRTr.out.s4
          have s5 := keep hb HRTr.out.s5
          have s6 := keep hb HRTr.out.s6
          replace a0 := keep hb a0
          replace a1 := keep hb a1
          replace a2 := keep hb a2
          replace a3 := keep hb a3
          have q0 := keep hb HRTr.out.q0
          have q1 := keep hb HRTr.out.q1
          replace q2 := keep hb q2
          have HB := Lib.hid hb
          clear hW3 z0 z1 z2 z3 hb hpb hql hsl hal
          have hpl' := cell_lt p0
          have hbl := cell_lt b0
          have hql := cell_lt q2
          have hsl := cell_lt s0
          have hal := cell_lt a0
          have HPB := Lib.hid (HP.out.keep (bThen HBr.out HB.out))
          have HMOD := Lib.hid (plu_mod S hS.ok)
          have hc19 : ∀ (n : Int), 0 ≤ n → ∀ x : World, Below W3.heap.size W3 x → Calls Try.prog 19 #[.agg #[.int .i64 S.top, .int .i64 S.genders, .int .i64 S.cases, .int .i64 S.classes, .slice at_ S.terms.length ct, .slice ap S.plurals.length cp, .slice (some ⟨xb, xo, none⟩) S.sets.length cs], .int .i64 n] x fun e w' => e = .returned (.int .i64 (classOf n S.plurals)) ∧ Below x.heap.size x w' :=
            fun n hn x hx => refClass_any S n _ _ _ x (HPB.out.keep hx) hn HMOD.out
          have H19 := Lib.hid hc19
          have hcall := fun x : BW W3 => H19.out a.num hnum x.val x.2
          clear hc19
          (refine wp_region_below (by kernel_rfl) (by kernel_rfl) ?_; (repeat (first | go_big_quiet_step ((go_at_call 19; exact toB hcall _)) | quiet_step ((go_at_call 19; exact toB hcall _)))); (refine wpQuiet_nil ?_; intro _ hw'; obtain ⟨xq, hw''⟩ := hw'; subst hw''))
          clear hcall
          have hb := xq.2
          generalize xq.val = W4 at *
          have HLN : (saidTo f (ruleOf S a).pieces j).length + (f pc j).length ≤ 820 := by have := HSL.out; rw [HIT.out] at HLEN; omega
          have HBAD : Hid ((f pc j).all Prod.snd = false → (itemsF (k + 1) S a d).all Prod.snd = false) := Lib.hid fun h => by
            rw [HIT.out, saidTo_split f (ruleOf S a).pieces (j + 1), HSS.out, List.all_append, List.all_append, h]; simp
          have HGOOD : Hid ((f pc j).all Prod.snd = true → (saidTo f (ruleOf S a).pieces (j + 1)).all Prod.snd = true) := Lib.hid fun h => by
            rw [HSS.out, List.all_append, h, HALL.out]; rfl
          replace HB := Lib.hid (bThen HB.out hb)
          replace p0 := keep hb p0
          replace p1 := keep hb p1
          replace p3 := keep hb p3
          replace b0 := keep hb b0
          replace b1 := keep hb b1
          replace b2 := keep hb b2
          replace b3 := keep hb b3
          replace bt := bt.keep hb
          replace bf : ∀ j, W4.frozen? ⟨wr.heap.size + 1, j, none⟩ = false := fun j => (hb.frozen (p := ⟨wr.heap.size + 1, j, none⟩) (by simp; exact hbl)).trans (bf j)
          replace s0 := keep hb s0
          replace s1 := keep hb s1
          replace s2 := keep hb s2
          replace s3 := keep hb s3
          replace s4 := keep hb s4
          replace s5 := keep hb s5
          replace s6 := keep hb s6
          replace a0 := keep hb a0
          replace a1 := keep hb a1
          replace a2 := keep hb a2
          replace a3 := keep hb a3
          replace q0 := keep hb q0
          replace q1 := keep hb q1
          replace q2 := keep hb q2
          replace hpl' := cell_lt p0
          replace hbl := cell_lt b0
          replace hql := cell_lt q2
          replace hsl := cell_lt s0
          replace hal := cell_lt a0
          replace HPB := Lib.hid (HPB.out.keep hb)
          replace H19 : Hid (∀ (n : Int), 0 ≤ n → ∀ x : World, Below W4.heap.size W4 x → Calls Try.prog 19 #[.agg #[.int .i64 S.top, .int .i64 S.genders, .int .i64 S.cases, .int .i64 S.classes, .slice at_ S.terms.length ct, .slice ap S.plurals.length cp, .slice (some ⟨xb, xo, none⟩) S.sets.length cs], .int .i64 n] x fun e w' => e = .returned (.int .i64 (classOf n S.plurals)) ∧ Below x.heap.size x w') :=
            Lib.hid fun n hn x hx => H19.out n hn x (hb.trans (hx.mono hb.size))
          clear hb
          clear xq
          have HOK2 := HOK.out
          obtain ⟨kind, term, set, below⟩ := pc
          simp only at hkind p0 p1 p3 b1
          rcases hkind with h | h | h | h | h
          · subst h
            have HFI : Hid (f ⟨1, term, set, below⟩ j = [sayItem S a j d term a.gen a.num]) := Lib.hid (by rw [← HF.out]; simp [pieceItems])
            have ht := pce_term HOK2 (by simp)
            simp only at ht
            clear HOK2
            go_upto_region 26 with fail
            have hat' : term.toNat < S.terms.length := by omega
            rcases HTX.out with hnil | ⟨tb, to, rfl, htf⟩
            · simp [hnil] at hat'
            obtain ⟨e0, fv, e1, hfv⟩ := htf term.toNat hat'
            have e2 : S.terms[term.toNat] = termOf S term := by simp [termOf, List.getElem?_eq_getElem hat']
            rw [e2] at e0 hfv
            replace e0 := keep (bThen HBr.out HB.out) e0
            replace e1 := keep (bThen HBr.out HB.out) e1
            have HFV := Lib.hid (hfv.keep FormAt.stable (bThen HBr.out HB.out))
            obtain ⟨fa, fc, rfl, hfl, -⟩ := hfv
            have htb := cell_lt e0
            clear htf e2
            cases hfo : formOf (termOf S term).forms a.gen a.kas (classOf a.num S.plurals) with
            | none =>
              have HB0 : Hid ((f ⟨1, term, set, below⟩ j).all Prod.snd = false) := Lib.hid (by rw [HFI.out]; simp [sayItem, hfo])
              have hcall := fun x : BW W4 => refForm_any (termOf S term) a.gen a.kas (classOf a.num S.plurals) _ x.val (HFV.out.keep FormAt.stable x.2)
              simp only [formRes, hfo] at hcall
              clear hfo
              (refine wp_region_below (by kernel_rfl) (by kernel_rfl) ?_; (repeat (first | go_big_quiet_step ((go_at_call 52; exact toB hcall _)) | quiet_step ((go_at_call 52; exact toB hcall _)))); (refine wpQuiet_nil ?_; intro _ hw'; obtain ⟨xq, hw''⟩ := hw'; subst hw''))
              clear hcall
              have hb := xq.2
              generalize xq.val = W5 at *
              go_wp2_with fail
              go_ret2
              exact ⟨⟨none, 0, 0, false, rfl, .inr ⟨rfl, HBAD.out HB0.out, rfl⟩⟩, bThen (bThen HBr.out HB.out) hb⟩
            | some tx =>
              have HB0 : Hid (f ⟨1, term, set, below⟩ j = [(⟨tx, a.num, a.set, idxOf S a, j, d⟩, true)]) := Lib.hid (by rw [HFI.out]; simp [sayItem, hfo])
              have hcall := fun x : BW W4 => refForm_any (termOf S term) a.gen a.kas (classOf a.num S.plurals) _ x.val (HFV.out.keep FormAt.stable x.2)
              simp only [formRes, hfo] at hcall
              clear hfo
              (refine wp_region_below (by kernel_rfl) (by kernel_rfl) ?_; (repeat (first | go_big_quiet_step ((go_at_call 52; exact toB hcall _)) | quiet_step ((go_at_call 52; exact toB hcall _)))); (refine wpQuiet_nil ?_; intro _ hw'; obtain ⟨xq, hw''⟩ := hw'; subst hw''))
              clear hcall
              have hb := xq.2
              generalize xq.val = W5 at *
              replace HB := Lib.hid (bThen HB.out hb)
              replace a1 := keep hb a1
              replace b0 := keep hb b0
              replace hal := cell_lt a1
              replace hbl := cell_lt b0
              have hrow := ownsRow_below HROW.out HB.out
              have HRW := Lib.hid hrow
              have hl1 : (f ⟨1, term, set, below⟩ j).length = 1 := by rw [HB0.out]; rfl
              have hwc : wc.heap.size ≤ W5.heap.size := Nat.le_trans HK.out.low.size HB.out.size
              replace bt := bt.keep hb
              clear hb hrow
              go_wp2_with (at_builtin; refine wpList_append_lies _ rfl _ _ 40 rfl wc.heap.size 50 i0 (.agg #[.string ByteArray.empty, .int .i64 0, .int .i64 0, .int .i64 0, .int .i64 0, .int .i64 0]) 6 56 Try.underlying40 HI.out hz0 hz1 hz2 rfl (by decide) _ _ _ rfl (HRW.out.alloc _) ⟨W5.heap.size, 0, none⟩ 1 1 [.string tx, .int .i64 a.num, .int .i64 a.set, .int .i64 (idxOf S a), .int .i64 j, .int .i64 d] rfl rfl (cells_new _ _ _) (by simp [Value.oneCell']) (by omega) (by unfold maxLen; omega) (by omega) (by simp; omega) _ rfl ?_; intro g cap wz hown hgrow hat6 hlt6; have HU := Lib.hid hown; have hkp : Kp wc.heap.size own50 W5 wz := (Kp.of_below (bAlloc (Below.refl _ _) _) hwc).trans (kp_grown hgrow (HRW.out.alloc _) rfl (by simp; omega)); replace b0 := hkp.cell bt rfl b0; replace hbl := cell_lt b0; have HKP := Lib.hid hkp; clear hown hgrow hat6 hkp)
              go_roundw
              case rel => exact ⟨j + 1, by omega, by go_num, Lib.hid (HGOOD.out (by rw [HB0.out]; rfl)), Lib.hid (by rw [HSS.out, HB0.out]; simpa [saids, cellsOf] using HU.out), (HK.out.trans (Kp.of_below HB.out HK.out.low.size)).trans HKP.out⟩
              case measure => simp [intOf]; omega
          · subst h
            have HFI : Hid (f ⟨2, term, set, below⟩ j = [sayItem S a j d term (termOf S term).gen qv]) := Lib.hid (by rw [← HF.out]; simp [pieceItems, HQ.out])
            have ht := pce_term HOK2 (by simp)
            simp only at ht
            clear HOK2
            go_upto_region 17 with fail
            have hat' : term.toNat < S.terms.length := by omega
            rcases HTX.out with hnil | ⟨tb, to, rfl, htf⟩
            · simp [hnil] at hat'
            obtain ⟨e0, fv, e1, hfv⟩ := htf term.toNat hat'
            have e2 : S.terms[term.toNat] = termOf S term := by simp [termOf, List.getElem?_eq_getElem hat']
            rw [e2] at e0 hfv
            replace e0 := keep (bThen HBr.out HB.out) e0
            replace e1 := keep (bThen HBr.out HB.out) e1
            have HFV := Lib.hid (hfv.keep FormAt.stable (bThen HBr.out HB.out))
            obtain ⟨fa, fc, rfl, hfl, -⟩ := hfv
            have htb := cell_lt e0
            clear htf e2
            have hcall := fun x : BW W4 => H19.out qv hq0 x.val x.2
            (refine wp_region_below (by kernel_rfl) (by kernel_rfl) ?_; (repeat (first | go_big_quiet_step ((go_at_call 19; exact toB hcall _)) | quiet_step ((go_at_call 19; exact toB hcall _)))); (refine wpQuiet_nil ?_; intro _ hw'; obtain ⟨xq, hw''⟩ := hw'; subst hw''))
            clear hcall
            have hb := xq.2
            generalize xq.val = W5 at *
            clear xq
            replace HB := Lib.hid (bThen HB.out hb)
            replace p0 := keep hb p0
            replace p1 := keep hb p1
            replace s4 := keep hb s4
            replace a1 := keep hb a1
            replace a3 := keep hb a3
            replace b0 := keep hb b0
            replace bt := bt.keep hb
            replace e0 := keep hb e0
            replace e1 := keep hb e1
            replace HFV := Lib.hid (HFV.out.keep FormAt.stable hb)
            replace hpl' := cell_lt p0
            replace hbl := cell_lt b0
            replace hsl := cell_lt s4
            replace hal := cell_lt a1
            replace htb := cell_lt e0
            clear hb
            go_upto_region 26 with fail
            cases hfo : formOf (termOf S term).forms (termOf S term).gen a.kas (classOf qv S.plurals) with
            | none =>
              have HB0 : Hid ((f ⟨2, term, set, below⟩ j).all Prod.snd = false) := Lib.hid (by rw [HFI.out]; simp [sayItem, hfo])
              have hcall := fun x : BW W5 => refForm_any (termOf S term) (termOf S term).gen a.kas (classOf qv S.plurals) _ x.val (HFV.out.keep FormAt.stable x.2)
              simp only [formRes, hfo] at hcall
              clear hfo
              (refine wp_region_below (by kernel_rfl) (by kernel_rfl) ?_; (repeat (first | go_big_quiet_step ((go_at_call 52; exact toB hcall _)) | quiet_step ((go_at_call 52; exact toB hcall _)))); (refine wpQuiet_nil ?_; intro _ hw'; obtain ⟨xq, hw''⟩ := hw'; subst hw''))
              clear hcall
              have hb := xq.2
              generalize xq.val = W6 at *
              go_wp2_with fail
              go_ret2
              exact ⟨⟨none, 0, 0, false, rfl, .inr ⟨rfl, HBAD.out HB0.out, rfl⟩⟩, bThen (bThen HBr.out HB.out) hb⟩
            | some tx =>
              have HB0 : Hid (f ⟨2, term, set, below⟩ j = [(⟨tx, a.num, a.set, idxOf S a, j, d⟩, true)]) := Lib.hid (by rw [HFI.out]; simp [sayItem, hfo])
              have hcall := fun x : BW W5 => refForm_any (termOf S term) (termOf S term).gen a.kas (classOf qv S.plurals) _ x.val (HFV.out.keep FormAt.stable x.2)
              simp only [formRes, hfo] at hcall
              clear hfo
              (refine wp_region_below (by kernel_rfl) (by kernel_rfl) ?_; (repeat (first | go_big_quiet_step ((go_at_call 52; exact toB hcall _)) | quiet_step ((go_at_call 52; exact toB hcall _)))); (refine wpQuiet_nil ?_; intro _ hw'; obtain ⟨xq, hw''⟩ := hw'; subst hw''))
              clear hcall
              have hb := xq.2
              generalize xq.val = W6 at *
              replace HB := Lib.hid (bThen HB.out hb)
              replace a1 := keep hb a1
              replace b0 := keep hb b0
              replace hal := cell_lt a1
              replace hbl := cell_lt b0
              have hrow := ownsRow_below HROW.out HB.out
              have HRW := Lib.hid hrow
              have hl1 : (f ⟨2, term, set, below⟩ j).length = 1 := by rw [HB0.out]; rfl
              have hwc : wc.heap.size ≤ W6.heap.size := Nat.le_trans HK.out.low.size HB.out.size
              replace bt := bt.keep hb
              clear hb hrow
              go_wp2_with (at_builtin; refine wpList_append_lies _ rfl _ _ 40 rfl wc.heap.size 50 i0 (.agg #[.string ByteArray.empty, .int .i64 0, .int .i64 0, .int .i64 0, .int .i64 0, .int .i64 0]) 6 56 Try.underlying40 HI.out hz0 hz1 hz2 rfl (by decide) _ _ _ rfl (HRW.out.alloc _) ⟨W6.heap.size, 0, none⟩ 1 1 [.string tx, .int .i64 a.num, .int .i64 a.set, .int .i64 (idxOf S a), .int .i64 j, .int .i64 d] rfl rfl (cells_new _ _ _) (by simp [Value.oneCell']) (by omega) (by unfold maxLen; omega) (by omega) (by simp; omega) _ rfl ?_; intro g cap wz hown hgrow hat6 hlt6; have HU := Lib.hid hown; have hkp : Kp wc.heap.size own50 W6 wz := (Kp.of_below (bAlloc (Below.refl _ _) _) hwc).trans (kp_grown hgrow (HRW.out.alloc _) rfl (by simp; omega)); replace b0 := hkp.cell bt rfl b0; replace hbl := cell_lt b0; have HKP := Lib.hid hkp; clear hown hgrow hat6 hkp)
              go_roundw
              case rel => exact ⟨j + 1, by omega, by go_num, Lib.hid (HGOOD.out (by rw [HB0.out]; rfl)), Lib.hid (by rw [HSS.out, HB0.out]; simpa [saids, cellsOf] using HU.out), (HK.out.trans (Kp.of_below HB.out HK.out.low.size)).trans HKP.out⟩
              case measure => simp [intOf]; omega
          · subst h
            have HFI : Hid (f ⟨3, term, set, below⟩ j = itemsF k S ⟨qv, set, countedGen S (ruleOf S a).pieces a.gen, a.kas⟩ (d + 1)) := Lib.hid (by rw [← HF.out, ← HQ.out]; simp [pieceItems, askQuo])
            have hask : AskRight S ⟨qv, set, countedGen S (ruleOf S a).pieces a.gen, a.kas⟩ ∧ qv < a.num := by
              have := askQuo_right hS HA.out HMEM.out rfl
              simpa [askQuo, HQ.out] using this
            obtain ⟨hask, hqlt⟩ := hask
            have HNE : Hid (itemsF k S ⟨qv, set, countedGen S (ruleOf S a).pieces a.gen, a.kas⟩ (d + 1) ≠ []) := Lib.hid (itemsF_ne hS k _ _ hask (by simp only; omega))
            have HPR := Lib.hid (HP.out.keep HBr.out)
            have hrec : ∀ (x : World), SysParts x (.slice at_ S.terms.length ct) (.slice ap S.plurals.length cp) (.slice (some ⟨xb, xo, none⟩) S.sets.length cs) S → Calls Try.prog 23 #[.agg #[.int .i64 S.top, .int .i64 S.genders, .int .i64 S.cases, .int .i64 S.classes, .slice at_ S.terms.length ct, .slice ap S.plurals.length cp, .slice (some ⟨xb, xo, none⟩) S.sets.length cs], .agg #[.int .i64 qv, .int .i64 set, .int .i64 (countedGen S (ruleOf S a).pieces a.gen), .int .i64 a.kas], .int .i64 (d + 1)] x fun e w' => RefTraced (itemsF k S ⟨qv, set, countedGen S (ruleOf S a).pieces a.gen, a.kas⟩ (d + 1)) e w' ∧ Below x.heap.size x w' :=
              fun x hx => HIH.out _ (d + 1) hask (by simp only; omega) (by omega) (by omega) _ _ _ x hx
            have hterm : ∀ i (h : i < (ruleOf S a).pieces.length), (ruleOf S a).pieces[i].kind = 2 → 0 ≤ (ruleOf S a).pieces[i].term ∧ (ruleOf S a).pieces[i].term < S.terms.length := fun i h hk => pce_term (HRR.out.piece _ (List.getElem_mem h)) (by simp [hk])
            have hc51 : Calls Try.prog 51 #[.agg #[.int .i64 S.top, .int .i64 S.genders, .int .i64 S.cases, .int .i64 S.classes, .slice at_ S.terms.length ct, .slice ap S.plurals.length cp, .slice (some ⟨xb, xo, none⟩) S.sets.length cs], .agg #[.int .i64 (ruleOf S a).base, .int .i64 (ruleOf S a).div, .slice (some ⟨pb, po, none⟩) (ruleOf S a).pieces.length pcap], .int .i64 a.gen] W4 fun e w' => e = .returned (.int .i64 (countedGen S (ruleOf S a).pieces a.gen)) ∧ Below W4.heap.size W4 w' :=
              counted_any S (ruleOf S a) a.gen _ _ _ _ W4 HPB.out (HRV.out.keep PceAt.stable (bThen HBr.out HB.out)) hterm
            have HC51 := Lib.hid hc51
            have HREC := Lib.hid hrec
            have hwd : IntKind.i64.wrap (d + 1) = d + 1 := IntWalk.i64_in _ (by omega)
            clear HOK2 hask hterm hc51 hrec
            have hl1 : (f ⟨3, term, set, below⟩ j).length = (itemsF k S ⟨qv, set, countedGen S (ruleOf S a).pieces a.gen, a.kas⟩ (d + 1)).length := by rw [HFI.out]
            have hlp : 0 < (itemsF k S ⟨qv, set, countedGen S (ruleOf S a).pieces a.gen, a.kas⟩ (d + 1)).length := List.length_pos_iff.2 HNE.out
            go_wp2_with (first
              | (go_at_call 51; refine HC51.out.mono ?_; rintro e w5 ⟨rfl, hb⟩; replace HB := Lib.hid (bThen HB.out hb); replace s0 := keep hb s0; replace s1 := keep hb s1; replace s2 := keep hb s2; replace s3 := keep hb s3; replace s4 := keep hb s4; replace s5 := keep hb s5; replace s6 := keep hb s6; replace b0 := keep hb b0; replace b1 := keep hb b1; replace b2 := keep hb b2; replace b3 := keep hb b3; replace bf : ∀ j, w5.frozen? ⟨wr.heap.size + 1, j, none⟩ = false := fun j => (hb.frozen (p := ⟨wr.heap.size + 1, j, none⟩) (by simp; exact hbl)).trans (bf j); replace hbl := cell_lt b0; replace hsl := cell_lt s0; clear hb)
              | (go_at_call 23; refine (HREC.out _ (by exact HPR.out.keep (by repeat (first | exact HB.out | refine Below.drew ?_ | refine Below.setCell ?_ (p := ⟨wr.heap.size + 1, _, none⟩) (by simp) _)))).mono ?_; rintro e w6 ⟨hres, hb6⟩; rcases hres.shape HNE.out with ⟨cb, co, cc, rfl, HALX, HNEWS⟩ | ⟨ad, cc, rfl, HX2⟩; all_goals (have hbx : Below wr.heap.size wr w6 := bThen (by repeat (first | exact HB.out | refine Below.drew ?_ | refine Below.setCell ?_ (p := ⟨wr.heap.size + 1, _, none⟩) (by simp) _)) hb6; replace HB := Lib.hid hbx; have HRW := Lib.hid (ownsRow_below HROW.out hbx); have hwc : wc.heap.size ≤ w6.heap.size := Nat.le_trans HK.out.low.size hbx.size; clear hbx hb6 hres))
              | (at_builtin; refine wpList_append_lies _ rfl _ _ 40 rfl wc.heap.size 50 i0 (.agg #[.string ByteArray.empty, .int .i64 0, .int .i64 0, .int .i64 0, .int .i64 0, .int .i64 0]) 6 56 Try.underlying40 HI.out hz0 hz1 hz2 rfl (by decide) _ _ _ rfl HRW.out ⟨cb, co, none⟩ (itemsF k S ⟨qv, set, countedGen S (ruleOf S a).pieces a.gen, a.kas⟩ (d + 1)).length cc (saids (itemsF k S ⟨qv, set, countedGen S (ruleOf S a).pieces a.gen, a.kas⟩ (d + 1))) rfl (saids_len _) HNEWS.out (saids_one _) hlp (by unfold maxLen; omega) (by omega) hwc _ rfl ?_; intro g cap wz hown hgrow hat6 hlt6; have HU := Lib.hid hown; have HKP := Lib.hid (kp_grown (own := own50) hgrow HRW.out rfl hwc); clear hown hgrow hat6))
            · go_roundw
              case rel => exact ⟨j + 1, by omega, by go_num, Lib.hid (HGOOD.out (by rw [HFI.out]; exact HALX.out)), Lib.hid (by rw [HSS.out, HFI.out, List.length_append, saids_append]; exact HU.out), (HK.out.trans (Kp.of_below HB.out HK.out.low.size)).trans HKP.out⟩
              case measure => simp [intOf]; omega
            · go_ret2
              exact ⟨⟨none, 0, 0, false, rfl, .inr ⟨rfl, HBAD.out (by rw [HFI.out]; exact HX2.out), rfl⟩⟩, bThen HBr.out HB.out⟩
          · subst h
            have HOK3 := Lib.hid HOK2
            clear HOK2
            by_cases g1 : 0 < sv
            · have HFI : Hid (f ⟨4, term, set, below⟩ j = itemsF k S ⟨sv, set, a.gen, a.kas⟩ (d + 1)) := Lib.hid (by rw [← HF.out]; exact rest_some S a d k term set below j (by rw [HR.out]; omega) HR.out)
              have hask : AskRight S ⟨sv, set, a.gen, a.kas⟩ ∧ sv < a.num := by
                have := askRst_right hS HA.out HMEM.out rfl
                simpa [askRst, HR.out] using this
              obtain ⟨hask, hqlt⟩ := hask
              have HNE : Hid (itemsF k S ⟨sv, set, a.gen, a.kas⟩ (d + 1) ≠ []) := Lib.hid (itemsF_ne hS k _ _ hask (by simp only; omega))
              have HPR := Lib.hid (HP.out.keep HBr.out)
              have hrec : ∀ (x : World), SysParts x (.slice at_ S.terms.length ct) (.slice ap S.plurals.length cp) (.slice (some ⟨xb, xo, none⟩) S.sets.length cs) S → Calls Try.prog 23 #[.agg #[.int .i64 S.top, .int .i64 S.genders, .int .i64 S.cases, .int .i64 S.classes, .slice at_ S.terms.length ct, .slice ap S.plurals.length cp, .slice (some ⟨xb, xo, none⟩) S.sets.length cs], .agg #[.int .i64 sv, .int .i64 set, .int .i64 a.gen, .int .i64 a.kas], .int .i64 (d + 1)] x fun e w' => RefTraced (itemsF k S ⟨sv, set, a.gen, a.kas⟩ (d + 1)) e w' ∧ Below x.heap.size x w' :=
                fun x hx => HIH.out _ (d + 1) hask (by simp only; omega) (by omega) (by omega) _ _ _ x hx
              have HREC := Lib.hid hrec
              have hwd : IntKind.i64.wrap (d + 1) = d + 1 := IntWalk.i64_in _ (by omega)
              clear hask hrec
              have hl1 : (f ⟨4, term, set, below⟩ j).length = (itemsF k S ⟨sv, set, a.gen, a.kas⟩ (d + 1)).length := by rw [HFI.out]
              have hlp : 0 < (itemsF k S ⟨sv, set, a.gen, a.kas⟩ (d + 1)).length := List.length_pos_iff.2 HNE.out
              go_wp2_with (first
                | (go_at_call 23; refine (HREC.out _ (by exact HPR.out.keep (by repeat (first | exact HB.out | refine Below.drew ?_ | refine Below.setCell ?_ (p := ⟨wr.heap.size + 1, _, none⟩) (by simp) _)))).mono ?_; rintro e w6 ⟨hres, hb6⟩; rcases hres.shape HNE.out with ⟨cb, co, cc, rfl, HALX, HNEWS⟩ | ⟨ad, cc, rfl, HX2⟩; all_goals (have hbx : Below wr.heap.size wr w6 := bThen (by repeat (first | exact HB.out | refine Below.drew ?_ | refine Below.setCell ?_ (p := ⟨wr.heap.size + 1, _, none⟩) (by simp) _)) hb6; replace HB := Lib.hid hbx; have HRW := Lib.hid (ownsRow_below HROW.out hbx); have hwc : wc.heap.size ≤ w6.heap.size := Nat.le_trans HK.out.low.size hbx.size; clear hbx hb6 hres))
                | (at_builtin; refine wpList_append_lies _ rfl _ _ 40 rfl wc.heap.size 50 i0 (.agg #[.string ByteArray.empty, .int .i64 0, .int .i64 0, .int .i64 0, .int .i64 0, .int .i64 0]) 6 56 Try.underlying40 HI.out hz0 hz1 hz2 rfl (by decide) _ _ _ rfl HRW.out ⟨cb, co, none⟩ (itemsF k S ⟨sv, set, a.gen, a.kas⟩ (d + 1)).length cc (saids (itemsF k S ⟨sv, set, a.gen, a.kas⟩ (d + 1))) rfl (saids_len _) HNEWS.out (saids_one _) hlp (by unfold maxLen; omega) (by omega) hwc _ rfl ?_; intro g cap wz hown hgrow hat6 hlt6; have HU := Lib.hid hown; have HKP := Lib.hid (kp_grown (own := own50) hgrow HRW.out rfl hwc); clear hown hgrow hat6))
              · go_roundw
                case rel => exact ⟨j + 1, by omega, by go_num, Lib.hid (HGOOD.out (by rw [HFI.out]; exact HALX.out)), Lib.hid (by rw [HSS.out, HFI.out, List.length_append, saids_append]; exact HU.out), (HK.out.trans (Kp.of_below HB.out HK.out.low.size)).trans HKP.out⟩
                case measure => simp [intOf]; omega
              · go_ret2
                exact ⟨⟨none, 0, 0, false, rfl, .inr ⟨rfl, HBAD.out (by rw [HFI.out]; exact HX2.out), rfl⟩⟩, bThen HBr.out HB.out⟩

            · have HFI : Hid (f ⟨4, term, set, below⟩ j = []) := Lib.hid (by rw [← HF.out]; exact rest_none S a d k term set below j (by rw [HR.out]; omega))
              go_wp2_with fail
              go_roundw
              case rel => exact ⟨j + 1, by omega, by go_num, Lib.hid (HGOOD.out (by rw [HFI.out]; rfl)), Lib.hid (by rw [HSS.out, HFI.out, List.append_nil]; exact ownsRow_below HROW.out HB.out), HK.out.trans (Kp.of_below HB.out HK.out.low.size)⟩
              case measure => simp [intOf]; omega
          · subst h
            have ht := pce_term HOK2 (by simp)
            simp only at ht
            clear HOK2
            have hcall := fun x : BW W4 => H19.out sv hs0 x.val x.2
            by_cases g1 : 0 < sv
            · have d1 : decide (0 < sv) = true := by simp [g1]
              by_cases g2 : below = 0
              · have d2 : (below == 0) = true := by simp [g2]
                have HFI : Hid (f ⟨5, term, set, below⟩ j = [sayItem S a j d term a.gen sv]) := Lib.hid (by rw [← HF.out]; simp [pieceItems, HR.out, g2]; omega)
                clear g2
                go_upto_region 24 with fail
                have hat' : term.toNat < S.terms.length := by omega
                rcases HTX.out with hnil | ⟨tb, to, rfl, htf⟩
                · simp [hnil] at hat'
                obtain ⟨e0, fv, e1, hfv⟩ := htf term.toNat hat'
                have e2 : S.terms[term.toNat] = termOf S term := by simp [termOf, List.getElem?_eq_getElem hat']
                rw [e2] at e0 hfv
                replace e0 := keep (bThen HBr.out HB.out) e0
                replace e1 := keep (bThen HBr.out HB.out) e1
                have HFV := Lib.hid (hfv.keep FormAt.stable (bThen HBr.out HB.out))
                obtain ⟨fa, fc, rfl, hfl, -⟩ := hfv
                have htb := cell_lt e0
                clear htf e2
                (refine wp_region_below (by kernel_rfl) (by kernel_rfl) ?_; (repeat (first | go_big_quiet_step ((go_at_call 19; exact toB hcall _)) | quiet_step ((go_at_call 19; exact toB hcall _)))); (refine wpQuiet_nil ?_; intro _ hw'; obtain ⟨xq, hw''⟩ := hw'; subst hw''))
                clear hcall
                have hb := xq.2
                generalize xq.val = W5 at *
                clear xq
                replace HB := Lib.hid (bThen HB.out hb)
                replace p0 := keep hb p0
                replace p1 := keep hb p1
                replace s4 := keep hb s4
                replace a1 := keep hb a1
                replace a3 := keep hb a3
                replace b0 := keep hb b0
                replace bt := bt.keep hb
                replace e0 := keep hb e0
                replace e1 := keep hb e1
                replace HFV := Lib.hid (HFV.out.keep FormAt.stable hb)
                replace hpl' := cell_lt p0
                replace hbl := cell_lt b0
                replace hsl := cell_lt s4
                replace hal := cell_lt a1
                replace htb := cell_lt e0
                clear hb
                go_upto_region 26 with fail
                cases hfo : formOf (termOf S term).forms a.gen a.kas (classOf sv S.plurals) with
                | none =>
                  have HB0 : Hid ((f ⟨5, term, set, below⟩ j).all Prod.snd = false) := Lib.hid (by rw [HFI.out]; simp [sayItem, hfo])
                  have hcall := fun x : BW W5 => refForm_any (termOf S term) a.gen a.kas (classOf sv S.plurals) _ x.val (HFV.out.keep FormAt.stable x.2)
                  simp only [formRes, hfo] at hcall
                  clear hfo
                  (refine wp_region_below (by kernel_rfl) (by kernel_rfl) ?_; (repeat (first | go_big_quiet_step ((go_at_call 52; exact toB hcall _)) | quiet_step ((go_at_call 52; exact toB hcall _)))); (refine wpQuiet_nil ?_; intro _ hw'; obtain ⟨xq, hw''⟩ := hw'; subst hw''))
                  clear hcall
                  have hb := xq.2
                  generalize xq.val = W6 at *
                  go_wp2_with fail
                  go_ret2
                  exact ⟨⟨none, 0, 0, false, rfl, .inr ⟨rfl, HBAD.out HB0.out, rfl⟩⟩, bThen (bThen HBr.out HB.out) hb⟩
                | some tx =>
                  have HB0 : Hid (f ⟨5, term, set, below⟩ j = [(⟨tx, a.num, a.set, idxOf S a, j, d⟩, true)]) := Lib.hid (by rw [HFI.out]; simp [sayItem, hfo])
                  have hcall := fun x : BW W5 => refForm_any (termOf S term) a.gen a.kas (classOf sv S.plurals) _ x.val (HFV.out.keep FormAt.stable x.2)
                  simp only [formRes, hfo] at hcall
                  clear hfo
                  (refine wp_region_below (by kernel_rfl) (by kernel_rfl) ?_; (repeat (first | go_big_quiet_step ((go_at_call 52; exact toB hcall _)) | quiet_step ((go_at_call 52; exact toB hcall _)))); (refine wpQuiet_nil ?_; intro _ hw'; obtain ⟨xq, hw''⟩ := hw'; subst hw''))
                  clear hcall
                  have hb := xq.2
                  generalize xq.val = W6 at *
                  replace HB := Lib.hid (bThen HB.out hb)
                  replace a1 := keep hb a1
                  replace b0 := keep hb b0
                  replace hal := cell_lt a1
                  replace hbl := cell_lt b0
                  have hrow := ownsRow_below HROW.out HB.out
                  have HRW := Lib.hid hrow
                  have hl1 : (f ⟨5, term, set, below⟩ j).length = 1 := by rw [HB0.out]; rfl
                  have hwc : wc.heap.size ≤ W6.heap.size := Nat.le_trans HK.out.low.size HB.out.size
                  replace bt := bt.keep hb
                  clear hb hrow
                  go_wp2_with (at_builtin; refine wpList_append_lies _ rfl _ _ 40 rfl wc.heap.size 50 i0 (.agg #[.string ByteArray.empty, .int .i64 0, .int .i64 0, .int .i64 0, .int .i64 0, .int .i64 0]) 6 56 Try.underlying40 HI.out hz0 hz1 hz2 rfl (by decide) _ _ _ rfl (HRW.out.alloc _) ⟨W6.heap.size, 0, none⟩ 1 1 [.string tx, .int .i64 a.num, .int .i64 a.set, .int .i64 (idxOf S a), .int .i64 j, .int .i64 d] rfl rfl (cells_new _ _ _) (by simp [Value.oneCell']) (by omega) (by unfold maxLen; omega) (by omega) (by simp; omega) _ rfl ?_; intro g cap wz hown hgrow hat6 hlt6; have HU := Lib.hid hown; have hkp : Kp wc.heap.size own50 W6 wz := (Kp.of_below (bAlloc (Below.refl _ _) _) hwc).trans (kp_grown hgrow (HRW.out.alloc _) rfl (by simp; omega)); replace b0 := hkp.cell bt rfl b0; replace hbl := cell_lt b0; have HKP := Lib.hid hkp; clear hown hgrow hat6 hkp)
                  go_roundw
                  case rel => exact ⟨j + 1, by omega, by go_num, Lib.hid (HGOOD.out (by rw [HB0.out]; rfl)), Lib.hid (by rw [HSS.out, HB0.out]; simpa [saids, cellsOf] using HU.out), (HK.out.trans (Kp.of_below HB.out HK.out.low.size)).trans HKP.out⟩
                  case measure => simp [intOf]; omega
              · have d2 : (below == 0) = false := by simp [g2]
                by_cases g3 : sv < below
                · have d3 : decide (sv < below) = true := by simp [g3]
                  have HFI : Hid (f ⟨5, term, set, below⟩ j = [sayItem S a j d term a.gen sv]) := Lib.hid (by rw [← HF.out]; simp [pieceItems, HR.out, g2]; omega)
                  clear g2
                  go_upto_region 24 with fail
                  have hat' : term.toNat < S.terms.length := by omega
                  rcases HTX.out with hnil | ⟨tb, to, rfl, htf⟩
                  · simp [hnil] at hat'
                  obtain ⟨e0, fv, e1, hfv⟩ := htf term.toNat hat'
                  have e2 : S.terms[term.toNat] = termOf S term := by simp [termOf, List.getElem?_eq_getElem hat']
                  rw [e2] at e0 hfv
                  replace e0 := keep (bThen HBr.out HB.out) e0
                  replace e1 := keep (bThen HBr.out HB.out) e1
                  have HFV := Lib.hid (hfv.keep FormAt.stable (bThen HBr.out HB.out))
                  obtain ⟨fa, fc, rfl, hfl, -⟩ := hfv
                  have htb := cell_lt e0
                  clear htf e2
                  (refine wp_region_below (by kernel_rfl) (by kernel_rfl) ?_; (repeat (first | go_big_quiet_step ((go_at_call 19; exact toB hcall _)) | quiet_step ((go_at_call 19; exact toB hcall _)))); (refine wpQuiet_nil ?_; intro _ hw'; obtain ⟨xq, hw''⟩ := hw'; subst hw''))
                  clear hcall
                  have hb := xq.2
                  generalize xq.val = W5 at *
                  clear xq
                  replace HB := Lib.hid (bThen HB.out hb)
                  replace p0 := keep hb p0
                  replace p1 := keep hb p1
                  replace s4 := keep hb s4
                  replace a1 := keep hb a1
                  replace a3 := keep hb a3
                  replace b0 := keep hb b0
                  replace bt := bt.keep hb
                  replace e0 := keep hb e0
                  replace e1 := keep hb e1
                  replace HFV := Lib.hid (HFV.out.keep FormAt.stable hb)
                  replace hpl' := cell_lt p0
                  replace hbl := cell_lt b0
                  replace hsl := cell_lt s4
                  replace hal := cell_lt a1
                  replace htb := cell_lt e0
                  clear hb
                  go_upto_region 26 with fail
                  cases hfo : formOf (termOf S term).forms a.gen a.kas (classOf sv S.plurals) with
                  | none =>
                    have HB0 : Hid ((f ⟨5, term, set, below⟩ j).all Prod.snd = false) := Lib.hid (by rw [HFI.out]; simp [sayItem, hfo])
                    have hcall := fun x : BW W5 => refForm_any (termOf S term) a.gen a.kas (classOf sv S.plurals) _ x.val (HFV.out.keep FormAt.stable x.2)
                    simp only [formRes, hfo] at hcall
                    clear hfo
                    (refine wp_region_below (by kernel_rfl) (by kernel_rfl) ?_; (repeat (first | go_big_quiet_step ((go_at_call 52; exact toB hcall _)) | quiet_step ((go_at_call 52; exact toB hcall _)))); (refine wpQuiet_nil ?_; intro _ hw'; obtain ⟨xq, hw''⟩ := hw'; subst hw''))
                    clear hcall
                    have hb := xq.2
                    generalize xq.val = W6 at *
                    go_wp2_with fail
                    go_ret2
                    exact ⟨⟨none, 0, 0, false, rfl, .inr ⟨rfl, HBAD.out HB0.out, rfl⟩⟩, bThen (bThen HBr.out HB.out) hb⟩
                  | some tx =>
                    have HB0 : Hid (f ⟨5, term, set, below⟩ j = [(⟨tx, a.num, a.set, idxOf S a, j, d⟩, true)]) := Lib.hid (by rw [HFI.out]; simp [sayItem, hfo])
                    have hcall := fun x : BW W5 => refForm_any (termOf S term) a.gen a.kas (classOf sv S.plurals) _ x.val (HFV.out.keep FormAt.stable x.2)
                    simp only [formRes, hfo] at hcall
                    clear hfo
                    (refine wp_region_below (by kernel_rfl) (by kernel_rfl) ?_; (repeat (first | go_big_quiet_step ((go_at_call 52; exact toB hcall _)) | quiet_step ((go_at_call 52; exact toB hcall _)))); (refine wpQuiet_nil ?_; intro _ hw'; obtain ⟨xq, hw''⟩ := hw'; subst hw''))
                    clear hcall
                    have hb := xq.2
                    generalize xq.val = W6 at *
                    replace HB := Lib.hid (bThen HB.out hb)
                    replace a1 := keep hb a1
                    replace b0 := keep hb b0
                    replace hal := cell_lt a1
                    replace hbl := cell_lt b0
                    have hrow := ownsRow_below HROW.out HB.out
                    have HRW := Lib.hid hrow
                    have hl1 : (f ⟨5, term, set, below⟩ j).length = 1 := by rw [HB0.out]; rfl
                    have hwc : wc.heap.size ≤ W6.heap.size := Nat.le_trans HK.out.low.size HB.out.size
                    replace bt := bt.keep hb
                    clear hb hrow
                    go_wp2_with (at_builtin; refine wpList_append_lies _ rfl _ _ 40 rfl wc.heap.size 50 i0 (.agg #[.string ByteArray.empty, .int .i64 0, .int .i64 0, .int .i64 0, .int .i64 0, .int .i64 0]) 6 56 Try.underlying40 HI.out hz0 hz1 hz2 rfl (by decide) _ _ _ rfl (HRW.out.alloc _) ⟨W6.heap.size, 0, none⟩ 1 1 [.string tx, .int .i64 a.num, .int .i64 a.set, .int .i64 (idxOf S a), .int .i64 j, .int .i64 d] rfl rfl (cells_new _ _ _) (by simp [Value.oneCell']) (by omega) (by unfold maxLen; omega) (by omega) (by simp; omega) _ rfl ?_; intro g cap wz hown hgrow hat6 hlt6; have HU := Lib.hid hown; have hkp : Kp wc.heap.size own50 W6 wz := (Kp.of_below (bAlloc (Below.refl _ _) _) hwc).trans (kp_grown hgrow (HRW.out.alloc _) rfl (by simp; omega)); replace b0 := hkp.cell bt rfl b0; replace hbl := cell_lt b0; have HKP := Lib.hid hkp; clear hown hgrow hat6 hkp)
                    go_roundw
                    case rel => exact ⟨j + 1, by omega, by go_num, Lib.hid (HGOOD.out (by rw [HB0.out]; rfl)), Lib.hid (by rw [HSS.out, HB0.out]; simpa [saids, cellsOf] using HU.out), (HK.out.trans (Kp.of_below HB.out HK.out.low.size)).trans HKP.out⟩
                    case measure => simp [intOf]; omega
                · have d3 : decide (sv < below) = false := by simp [g3]
                  have HFI : Hid (f ⟨5, term, set, below⟩ j = []) := Lib.hid (by rw [← HF.out]; simp [pieceItems, HR.out, g2]; omega)
                  clear g2
                  go_upto_region 24 with fail
                  (refine wp_region_below (by kernel_rfl) (by kernel_rfl) ?_; (repeat (first | go_big_quiet_step ((go_at_call 19; exact toB hcall _)) | quiet_step ((go_at_call 19; exact toB hcall _)))); (refine wpQuiet_nil ?_; intro _ hw'; obtain ⟨xq, hw''⟩ := hw'; subst hw''))
                  clear hcall
                  have hb := xq.2
                  generalize xq.val = W5 at *
                  clear xq
                  replace HB := Lib.hid (bThen HB.out hb)
                  replace b0 := keep hb b0
                  replace hbl := cell_lt b0
                  clear hb
                  go_wp2_with fail
                  go_roundw
                  case rel => exact ⟨j + 1, by omega, by go_num, Lib.hid (HGOOD.out (by rw [HFI.out]; rfl)), Lib.hid (by rw [HSS.out, HFI.out, List.append_nil]; exact ownsRow_below HROW.out HB.out), HK.out.trans (Kp.of_below HB.out HK.out.low.size)⟩
                  case measure => simp [intOf]; omega
            · have d1 : decide (0 < sv) = false := by simp [g1]
              have HFI : Hid (f ⟨5, term, set, below⟩ j = []) := Lib.hid (by rw [← HF.out]; simp [pieceItems, HR.out]; omega)
              go_upto_region 24 with fail
              (refine wp_region_below (by kernel_rfl) (by kernel_rfl) ?_; (repeat (first | go_big_quiet_step ((go_at_call 19; exact toB hcall _)) | quiet_step ((go_at_call 19; exact toB hcall _)))); (refine wpQuiet_nil ?_; intro _ hw'; obtain ⟨xq, hw''⟩ := hw'; subst hw''))
              clear hcall
              have hb := xq.2
              generalize xq.val = W5 at *
              clear xq
              replace HB := Lib.hid (bThen HB.out hb)
              replace b0 := keep hb b0
              replace hbl := cell_lt b0
              clear hb
              go_wp2_with fail
              go_roundw
              case rel => exact ⟨j + 1, by omega, by go_num, Lib.hid (HGOOD.out (by rw [HFI.out]; rfl)), Lib.hid (by rw [HSS.out, HFI.out, List.append_nil]; exact ownsRow_below HROW.out HB.out), HK.out.trans (Kp.of_below HB.out HK.out.low.size)⟩
              case measure => simp [intOf]; omega
        · obtain rfl : j = (ruleOf S a).pieces.length := by omega
          obtain ⟨ad, cap, rfl⟩ := ownsRow_slice HROW.out
          have HRTr := HRT.out.kp hK rfl rfl rfl
          replace q2 := HRTr.q2
          have hql := cell_lt q2
          clear HRTr
          go_wp2_with fail
          have HEQ : Hid (itemsF (k + 1) S a d = saidTo f (ruleOf S a).pieces (ruleOf S a).pieces.length) := Lib.hid (by rw [HIT.out, saidTo_all])
          go_ret2
          exact ⟨⟨ad, _, cap, true, rfl, .inl ⟨rfl, by rw [HEQ.out]; exact HALL.out, by rw [HEQ.out]; exact saids_slice HROW.out (by rw [← HEQ.out]; omega)⟩⟩, bThen HB4.out hK.low⟩
end Go.Proofs.Ytfcopnlpcbbocaa
