/- Contracts of the specification: the index of a rule, the form of a term, the gender in which a quotient is spelled. -/
import Derived.Test.YtfcopnlpcbbocaaR1
import Derived.Test.YtfcopnlpcbbocaaE1
import Derived.Test.YtfcopnlpcbbocaaD5
set_option linter.unusedSimpArgs false
set_option linter.unusedVariables false
namespace Go.Proofs.Ytfcopnlpcbbocaa
open Go.RowKit

theorem idxUp_hit {l : List Rul} {n : Int} {k : Nat} (h : k < l.length) (hb : l[k].base ≤ n) : idxUp l n (k + 1) = k := by
  rw [idxUp, List.getElem?_eq_getElem h]; simp [hb]
theorem idxUp_miss {l : List Rul} {n : Int} {k : Nat} (h : k < l.length) (hb : ¬ l[k].base ≤ n) : idxUp l n (k + 1) = idxUp l n k := by
  rw [idxUp, List.getElem?_eq_getElem h]; simp [hb]

set_option maxHeartbeats 1000000 in
theorem Index_any (l : List Rul) (n : Int) (v : Value) (w : World) (hv : SliceV w v 3 RulAt l) :
    Calls Try.prog 26 #[v, .int .i64 n] w fun e w' => e = .returned (.int .i64 (ruleIdx l n)) ∧ w = w' := by
  obtain ⟨la, lc, rfl, hl, hx⟩ := hv
  unfold most at hl
  have fin := Lib.hid (show idxUp l n 0 = 0 from rfl)
  go_enter Try.func26, Try.ntmps26
  go_wp2_with fail
  go_loop [5, 6] (fun a i => ∃ k : Nat, k ≤ l.length ∧ i = .int .i64 k ∧ Hid (a = .int .i64 (idxUp l n k))) (fun _ i => l.length - (intOf i).toNat)
  case atStart => exact ⟨0, Nat.zero_le _, rfl, Lib.hid rfl⟩
  case round =>
    obtain ⟨k, hk, rfl, HA⟩ := hrel
    by_cases hlt : k < l.length
    · rcases hx with hnil | ⟨fb, fo, rfl, hf⟩
      · simp [hnil] at hlt
      obtain ⟨f0, -⟩ := hf k hlt
      have hfb := cell_lt f0
      have HH := Lib.hid (@idxUp_hit l n k hlt)
      have HM := Lib.hid (@idxUp_miss l n k hlt)
      clear hf
      generalize l[k] = r at *
      by_cases hb : r.base ≤ n
      · go_wp2_with fail
        go_round
        case rel => exact ⟨k + 1, by omega, by go_num, Lib.hid (by rw [HH.out hb])⟩
        case measure => simp [intOf]; omega
      · go_wp2_with fail
        go_round
        case rel => exact ⟨k + 1, by omega, by go_num, Lib.hid (by rw [HM.out hb]; exact HA.out)⟩
        case measure => simp [intOf]; omega
    · obtain rfl : k = l.length := by omega
      have hA := HA.out
      subst hA
      go_wp2_with fail
      go_ret
      exact ⟨rfl, rfl⟩

set_option maxRecDepth 100000 in
set_option maxHeartbeats 2000000 in
theorem refForm_any (t : Term) (g k c : Int) (fv : Value) (w : World) (hv : SliceV w fv 4 FormAt t.forms) :
    Calls Try.prog 52 #[.agg #[.int .i64 t.gen, fv], .int .i64 g, .int .i64 k, .int .i64 c] w fun e w' => e = .returned (formRes t.forms g k c) ∧ Below w.heap.size w w' := by
  obtain ⟨fa, fc, rfl, hfl, hy⟩ := hv
  unfold most at hfl
  go_enter Try.func52, Try.ntmps52
  go_wp2_with fail
  generalize hW : World.alloc w _ = W0
  have HB0 : Below w.heap.size w W0 := by rw [← hW]; exact bAlloc (Below.refl _ _) _
  have g1 : W0.cell? ⟨w.heap.size, 1, none⟩ = some (.slice fa t.forms.length fc) := by rw [← hW]; simp
  clear hW
  have fin := Lib.hid (show formOf t.forms g k c = formOf (t.forms.drop 0) g k c from rfl)
  go_loopw [10] (fun i wr => ∃ n : Nat, n ≤ t.forms.length ∧ i = .int .i64 n ∧ Hid (formOf t.forms g k c = formOf (t.forms.drop n) g k c) ∧ Below W0.heap.size W0 wr) (fun i _ => t.forms.length - (intOf i).toNat)
  case atStart => exact ⟨0, Nat.zero_le _, rfl, fin, Below.refl _ _⟩
  case round =>
    obtain ⟨n, hn, rfl, HF, hB⟩ := hrel
    have HB1 := bThen HB0 hB
    have g1 := keep hB g1
    have hgl := cell_lt g1
    by_cases hlt : n < t.forms.length
    · rcases hy with hnil | ⟨fb, fo, rfl, hff⟩
      · simp [hnil] at hlt
      obtain ⟨f0, f1, f2, f3, f4⟩ := FormAt.stable _ _ _ _ _ HB1 (hff n hlt)
      have hfb := cell_lt f0
      have HD : Hid (t.forms.drop n = t.forms[n] :: t.forms.drop (n + 1)) := Lib.hid (List.drop_eq_getElem_cons hlt)
      clear hff
      generalize t.forms[n] = f at *
      have HY : Hid (∀ h : agrees g k c f = true, formOf t.forms g k c = some f.txt) := Lib.hid fun h => by rw [HF.out, HD.out, formOf, List.find?_cons, h]; rfl
      have HNO : Hid (∀ h : agrees g k c f = false, formOf t.forms g k c = formOf (t.forms.drop (n + 1)) g k c) := Lib.hid fun h => by rw [HF.out, HD.out, formOf, List.find?_cons, h]; rfl
      have HG : Hid (agrees g k c f = ((f.gen == -1 || f.gen == g) && (f.kas == -1 || f.kas == k) && (f.cls == -1 || f.cls == c))) := Lib.hid rfl
      cases h1 : (f.gen == -1)
      · cases h2 : (f.gen == g)
        · have HX : Hid (agrees g k c f = false) := Lib.hid (by rw [HG.out]; simp only [*, Bool.true_or, Bool.false_or, Bool.or_true, Bool.or_false, Bool.and_true, Bool.and_false, Bool.false_and, Bool.true_and])
          go_wp2_with fail
          go_roundw
          case rel => exact ⟨n + 1, by omega, by go_num, Lib.hid (HNO.out HX.out), bAlloc hB _⟩
          case measure => simp [intOf]; omega
        · cases h3 : (f.kas == -1)
          · cases h4 : (f.kas == k)
            · have HX : Hid (agrees g k c f = false) := Lib.hid (by rw [HG.out]; simp only [*, Bool.true_or, Bool.false_or, Bool.or_true, Bool.or_false, Bool.and_true, Bool.and_false, Bool.false_and, Bool.true_and])
              go_wp2_with fail
              go_roundw
              case rel => exact ⟨n + 1, by omega, by go_num, Lib.hid (HNO.out HX.out), bAlloc hB _⟩
              case measure => simp [intOf]; omega
            · cases h5 : (f.cls == -1)
              · cases h6 : (f.cls == c)
                · have HX : Hid (agrees g k c f = false) := Lib.hid (by rw [HG.out]; simp only [*, Bool.true_or, Bool.false_or, Bool.or_true, Bool.or_false, Bool.and_true, Bool.and_false, Bool.false_and, Bool.true_and])
                  go_wp2_with fail
                  go_roundw
                  case rel => exact ⟨n + 1, by omega, by go_num, Lib.hid (HNO.out HX.out), bAlloc hB _⟩
                  case measure => simp [intOf]; omega
                · have HX : Hid (agrees g k c f = true) := Lib.hid (by rw [HG.out]; simp only [*, Bool.true_or, Bool.false_or, Bool.or_true, Bool.or_false, Bool.and_true, Bool.and_false, Bool.false_and, Bool.true_and])
                  go_wp2_with fail
                  go_ret2
                  exact ⟨by rw [formRes, HY.out HX.out]; rfl, bAlloc HB1 _⟩
              · have HX : Hid (agrees g k c f = true) := Lib.hid (by rw [HG.out]; simp only [*, Bool.true_or, Bool.false_or, Bool.or_true, Bool.or_false, Bool.and_true, Bool.and_false, Bool.false_and, Bool.true_and])
                go_wp2_with fail
                go_ret2
                exact ⟨by rw [formRes, HY.out HX.out]; rfl, bAlloc HB1 _⟩
          · cases h5 : (f.cls == -1)
            · cases h6 : (f.cls == c)
              · have HX : Hid (agrees g k c f = false) := Lib.hid (by rw [HG.out]; simp only [*, Bool.true_or, Bool.false_or, Bool.or_true, Bool.or_false, Bool.and_true, Bool.and_false, Bool.false_and, Bool.true_and])
                go_wp2_with fail
                go_roundw
                case rel => exact ⟨n + 1, by omega, by go_num, Lib.hid (HNO.out HX.out), bAlloc hB _⟩
                case measure => simp [intOf]; omega
              · have HX : Hid (agrees g k c f = true) := Lib.hid (by rw [HG.out]; simp only [*, Bool.true_or, Bool.false_or, Bool.or_true, Bool.or_false, Bool.and_true, Bool.and_false, Bool.false_and, Bool.true_and])
                go_wp2_with fail
                go_ret2
                exact ⟨by rw [formRes, HY.out HX.out]; rfl, bAlloc HB1 _⟩
            · have HX : Hid (agrees g k c f = true) := Lib.hid (by rw [HG.out]; simp only [*, Bool.true_or, Bool.false_or, Bool.or_true, Bool.or_false, Bool.and_true, Bool.and_false, Bool.false_and, Bool.true_and])
              go_wp2_with fail
              go_ret2
              exact ⟨by rw [formRes, HY.out HX.out]; rfl, bAlloc HB1 _⟩
      · cases h3 : (f.kas == -1)
        · cases h4 : (f.kas == k)
          · have HX : Hid (agrees g k c f = false) := Lib.hid (by rw [HG.out]; simp only [*, Bool.true_or, Bool.false_or, Bool.or_true, Bool.or_false, Bool.and_true, Bool.and_false, Bool.false_and, Bool.true_and])
            go_wp2_with fail
            go_roundw
            case rel => exact ⟨n + 1, by omega, by go_num, Lib.hid (HNO.out HX.out), bAlloc hB _⟩
            case measure => simp [intOf]; omega
          · cases h5 : (f.cls == -1)
            · cases h6 : (f.cls == c)
              · have HX : Hid (agrees g k c f = false) := Lib.hid (by rw [HG.out]; simp only [*, Bool.true_or, Bool.false_or, Bool.or_true, Bool.or_false, Bool.and_true, Bool.and_false, Bool.false_and, Bool.true_and])
                go_wp2_with fail
                go_roundw
                case rel => exact ⟨n + 1, by omega, by go_num, Lib.hid (HNO.out HX.out), bAlloc hB _⟩
                case measure => simp [intOf]; omega
              · have HX : Hid (agrees g k c f = true) := Lib.hid (by rw [HG.out]; simp only [*, Bool.true_or, Bool.false_or, Bool.or_true, Bool.or_false, Bool.and_true, Bool.and_false, Bool.false_and, Bool.true_and])
                go_wp2_with fail
                go_ret2
                exact ⟨by rw [formRes, HY.out HX.out]; rfl, bAlloc HB1 _⟩
            · have HX : Hid (agrees g k c f = true) := Lib.hid (by rw [HG.out]; simp only [*, Bool.true_or, Bool.false_or, Bool.or_true, Bool.or_false, Bool.and_true, Bool.and_false, Bool.false_and, Bool.true_and])
              go_wp2_with fail
              go_ret2
              exact ⟨by rw [formRes, HY.out HX.out]; rfl, bAlloc HB1 _⟩
        · cases h5 : (f.cls == -1)
          · cases h6 : (f.cls == c)
            · have HX : Hid (agrees g k c f = false) := Lib.hid (by rw [HG.out]; simp only [*, Bool.true_or, Bool.false_or, Bool.or_true, Bool.or_false, Bool.and_true, Bool.and_false, Bool.false_and, Bool.true_and])
              go_wp2_with fail
              go_roundw
              case rel => exact ⟨n + 1, by omega, by go_num, Lib.hid (HNO.out HX.out), bAlloc hB _⟩
              case measure => simp [intOf]; omega
            · have HX : Hid (agrees g k c f = true) := Lib.hid (by rw [HG.out]; simp only [*, Bool.true_or, Bool.false_or, Bool.or_true, Bool.or_false, Bool.and_true, Bool.and_false, Bool.false_and, Bool.true_and])
              go_wp2_with fail
              go_ret2
              exact ⟨by rw [formRes, HY.out HX.out]; rfl, bAlloc HB1 _⟩
          · have HX : Hid (agrees g k c f = true) := Lib.hid (by rw [HG.out]; simp only [*, Bool.true_or, Bool.false_or, Bool.or_true, Bool.or_false, Bool.and_true, Bool.and_false, Bool.false_and, Bool.true_and])
            go_wp2_with fail
            go_ret2
            exact ⟨by rw [formRes, HY.out HX.out]; rfl, bAlloc HB1 _⟩
    · obtain rfl : n = t.forms.length := by omega
      go_wp2_with fail
      go_ret2
      refine ⟨?_, HB1⟩
      have := HF.out
      rw [formRes, this]
      simp [formOf]
      rfl

set_option maxRecDepth 100000 in
set_option maxHeartbeats 2000000 in
theorem counted_any (S : Sys) (r : Rul) (g : Int) (vt vp vs pv : Value) (w : World) (hp : SysParts w vt vp vs S) (hv : SliceV w pv 4 PceAt r.pieces) (hterm : ∀ i (h : i < r.pieces.length), r.pieces[i].kind = 2 → 0 ≤ r.pieces[i].term ∧ r.pieces[i].term < S.terms.length) :
    Calls Try.prog 51 #[sysVal S vt vp vs, .agg #[.int .i64 r.base, .int .i64 r.div, pv], .int .i64 g] w fun e w' => e = .returned (.int .i64 (countedGen S r.pieces g)) ∧ Below w.heap.size w w' := by
  obtain ⟨pa, pc, rfl, hpl, hx⟩ := hv
  unfold most at hpl
  obtain ⟨⟨at_, ct, rfl, htl, hy⟩, ⟨ap, cp, rfl, -⟩, ⟨as_, cs, rfl, -⟩⟩ := hp
  unfold most at htl
  unfold sysVal
  go_enter Try.func51, Try.ntmps51
  go_wp2_with fail
  generalize hW : World.alloc (World.alloc w _) _ = W1
  have hB1 : Below w.heap.size w W1 := by rw [← hW]; exact bAlloc (bAlloc (Below.refl _ _) _) _
  have s4 : W1.cell? ⟨w.heap.size, 4, none⟩ = some (.slice at_ S.terms.length ct) := by rw [← hW]; exact keep (bAlloc (Below.refl _ _) _) (cell_new rfl)
  have t2 : W1.cell? ⟨w.heap.size + 1, 2, none⟩ = some (.slice pa r.pieces.length pc) := by rw [← hW]; simp
  clear hW
  have hsl := cell_lt s4
  have htl2 := cell_lt t2
  have fin := Lib.hid (show countedGen S r.pieces g = countedGen S (r.pieces.drop 0) g from rfl)
  go_loopw [7] (fun i wr => ∃ n : Nat, n ≤ r.pieces.length ∧ i = .int .i64 n ∧ Hid (countedGen S r.pieces g = countedGen S (r.pieces.drop n) g) ∧ Below W1.heap.size W1 wr) (fun i _ => r.pieces.length - (intOf i).toNat)
  case atStart => exact ⟨0, Nat.zero_le _, rfl, fin, Below.refl _ _⟩
  case round =>
    obtain ⟨n, hn, rfl, HF, hB⟩ := hrel
    have s4 := keep hB s4
    have t2 := keep hB t2
    have hsl := cell_lt s4
    have htl2 := cell_lt t2
    have HBw := bThen hB1 hB
    by_cases hlt : n < r.pieces.length
    · rcases hx with hnil | ⟨pb, po, rfl, hp⟩
      · simp [hnil] at hlt
      obtain ⟨p0, p1, p2, p3⟩ := PceAt.stable _ _ _ _ _ HBw (hp n hlt)
      have hpb := cell_lt p0
      have ht := hterm n hlt
      have HN := Lib.hid (countedGen_drop S r.pieces g n hlt)
      have HH := Lib.hid (countedGen_hit S r.pieces g n hlt)
      clear hp hterm
      generalize r.pieces[n] = p at *
      by_cases hk : p.kind = 2
      · have htt := ht hk
        have hk2 : (p.kind == 2) = true := by simp [hk]
        have HK := Lib.hid hk
        clear hk ht
        have hat : p.term.toNat < S.terms.length := by omega
        rcases hy with hnil | ⟨tb, to, rfl, hf⟩
        · simp [hnil] at hat
        obtain ⟨t0, -⟩ := TermAt.stable _ _ _ _ _ HBw (hf p.term.toNat hat)
        have e1 : S.terms[p.term.toNat] = termOf S p.term := by simp [termOf, List.getElem?_eq_getElem hat]
        rw [e1] at t0
        have htb := cell_lt t0
        obtain ⟨ht0, ht1⟩ := htt
        clear hf e1
        go_wp2_with fail
        refine wp_opaque fun Q2 hQ2 => ?_
        (refine wp_region_below (by kernel_rfl) (by kernel_rfl) ?_; (repeat (first | go_big_quiet_step (fail) | quiet_step (fail))); (refine wpQuiet_nil ?_; intro _ hw'; obtain ⟨xq, hw''⟩ := hw'; subst hw''))
        refine hQ2 _ _ _ ?_
        have HBz := bThen HBw xq.2
        go_wp2_with fail
        go_ret
        exact ⟨ret_int (by rw [HF.out, HH.out HK.out]), HBz⟩
      · have hk2 : (p.kind == 2) = false := by simp [hk]
        have HK := Lib.hid hk
        clear hk ht
        go_wp2_with fail
        go_roundw
        case rel => exact ⟨n + 1, by omega, by go_num, Lib.hid (HF.out.trans (HN.out HK.out)), hB⟩
        case measure => simp [intOf]; omega
    · obtain rfl : n = r.pieces.length := by omega
      go_wp2_with fail
      go_ret
      exact ⟨ret_int (by rw [HF.out]; simp [countedGen]), HBw⟩
end Go.Proofs.Ytfcopnlpcbbocaa
