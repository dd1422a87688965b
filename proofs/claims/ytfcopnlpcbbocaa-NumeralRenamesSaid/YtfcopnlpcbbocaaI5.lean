/- Contracts of the specification's checks: systems. -/
import Derived.Test.YtfcopnlpcbbocaaI4
set_option linter.unusedSimpArgs false
set_option linter.unusedVariables false
namespace Go.Proofs.Ytfcopnlpcbbocaa
open Go.RowKit

structure SizesRight (S : Sys) : Prop where
  t0 : 0 ≤ S.top
  t1 : S.top ≤ 999999999999
  g0 : 1 ≤ S.genders
  g1 : S.genders ≤ 4
  k0 : 1 ≤ S.cases
  k1 : S.cases ≤ 8
  c0 : 1 ≤ S.classes
  c1 : S.classes ≤ 6
  n0 : (S.terms.length : Int) ≤ 500
  n1 : (S.plurals.length : Int) ≤ 40
  n2 : 1 ≤ (S.sets.length : Int)
  n3 : (S.sets.length : Int) ≤ 8
theorem sizes_of {S : Sys} (h : sizesOk S = true) : SizesRight S := by
  simp only [sizesOk, betw, Bool.and_eq_true, decide_eq_true_eq] at h
  exact ⟨by omega, by omega, by omega, by omega, by omega, by omega, by omega, by omega, by omega, by omega, by omega, by omega⟩

theorem sizes_mk {S : Sys} (h : SizesRight S) : sizesOk S = true := by
  obtain ⟨z0, z1, z2, z3, z4, z5, z6, z7, z8, z9, z10, z11⟩ := h
  simp only [sizesOk, betw, Bool.and_eq_true, decide_eq_true_eq]
  omega
set_option maxRecDepth 100000 in
set_option maxHeartbeats 4000000 in
theorem Valid_bad (S : Sys) (vt vp vs : Value) (w : World) (hp : SysParts w vt vp vs S) (hz : sizesOk S = false) :
    Calls Try.prog 17 #[sysVal S vt vp vs] w fun e w' => e = .returned (.bool (sysOk S)) ∧ Below w.heap.size w w' := by
  obtain ⟨⟨at_, ct, rfl, -⟩, ⟨ap, cp, rfl, -⟩, ⟨as_, cs, rfl, -⟩⟩ := hp
  unfold sysVal
  have HR : Hid (sysOk S = false) := Lib.hid (by unfold sysOk; rw [hz]; rfl)
  have HZ := Lib.hid hz
  clear hz
  go_enter Try.func17, Try.ntmps17
  go_wp2_with fail
  all_goals first
    | (go_ret; exact ⟨ret_bool HR.out.symm, bAlloc (Below.refl _ _) _⟩)
    | exact absurd HZ.out (by rw [sizes_mk ⟨by omega, by omega, by omega, by omega, by omega, by omega, by omega, by omega, by omega, by omega, by omega, by omega⟩]; simp)

set_option maxRecDepth 100000 in
set_option maxHeartbeats 8000000 in
theorem Valid_good (S : Sys) (vt vp vs : Value) (w : World) (hp : SysParts w vt vp vs S) (hz : sizesOk S = true) :
    Calls Try.prog 17 #[sysVal S vt vp vs] w fun e w' => e = .returned (.bool (sysOk S)) ∧ Below w.heap.size w w' := by
  have HPS := Lib.hid hp
  obtain ⟨⟨at_, ct, rfl, hl1, hx⟩, ⟨ap, cp, rfl, hl2, hy⟩, ⟨as_, cs, rfl, hl3, hu⟩⟩ := hp
  unfold most at hl1 hl2 hl3
  unfold sysVal
  have HS : Hid (∀ b : Bool, (S.terms.all (termOk S) && S.plurals.all (pluOk S) && S.sets.all (setOk S)) = b → sysOk S = b) := Lib.hid fun b h => by unfold sysOk; rw [hz, ← h]; simp [Bool.and_assoc]
  obtain ⟨z0, z1, z2, z3, z4, z5, z6, z7, z8, z9, z10, z11⟩ := sizes_of hz
  clear hz
  go_enter Try.func17, Try.ntmps17
  go_wp2_with fail
  generalize hW : World.alloc w _ = W1
  have hB1 : Below w.heap.size w W1 := by rw [← hW]; exact bAlloc (Below.refl _ _) _
  have s0 : W1.cell? ⟨w.heap.size, 0, none⟩ = some (.int .i64 S.top) := by rw [← hW]; exact cell_new rfl
  have s1 : W1.cell? ⟨w.heap.size, 1, none⟩ = some (.int .i64 S.genders) := by rw [← hW]; exact cell_new rfl
  have s2 : W1.cell? ⟨w.heap.size, 2, none⟩ = some (.int .i64 S.cases) := by rw [← hW]; exact cell_new rfl
  have s3 : W1.cell? ⟨w.heap.size, 3, none⟩ = some (.int .i64 S.classes) := by rw [← hW]; exact cell_new rfl
  have s4 : W1.cell? ⟨w.heap.size, 4, none⟩ = some (.slice at_ S.terms.length ct) := by rw [← hW]; exact cell_new rfl
  have s5 : W1.cell? ⟨w.heap.size, 5, none⟩ = some (.slice ap S.plurals.length cp) := by rw [← hW]; exact cell_new rfl
  have s6 : W1.cell? ⟨w.heap.size, 6, none⟩ = some (.slice as_ S.sets.length cs) := by rw [← hW]; exact cell_new rfl
  clear hW
  have HSYS : Hid (∀ W', Below W1.heap.size W1 W' → SysParts W' (.slice at_ S.terms.length ct) (.slice ap S.plurals.length cp) (.slice as_ S.sets.length cs) S) := Lib.hid fun W' hB => HPS.out.keep (bThen hB1 hB)
  go_loopw [3] (fun i wr => ∃ k : Nat, k ≤ S.terms.length ∧ i = .int .i64 k ∧ Hid ((S.terms.take k).all (termOk S) = true) ∧ Below W1.heap.size W1 wr) (fun i _ => S.terms.length - (intOf i).toNat)
  case atStart => exact ⟨0, Nat.zero_le _, rfl, Lib.hid (by simp), Below.refl _ _⟩
  case round =>
    obtain ⟨k, hk, rfl, HA, hB⟩ := hrel
    have y0 := keep hB s0
    have y1 := keep hB s1
    have y2 := keep hB s2
    have y3 := keep hB s3
    have y4 := keep hB s4
    have y5 := keep hB s5
    have y6 := keep hB s6
    have hsl := cell_lt y0
    by_cases hlt : k < S.terms.length
    · rcases hx with hnil | ⟨fb, fo, rfl, hf⟩
      · simp [hnil] at hlt
      have HT := Lib.hid (all_take_succ' (termOk S) S.terms k hlt)
      have HN := Lib.hid (all_false' (termOk S) S.terms k hlt)
      obtain ⟨f0, fv, f1, f2⟩ := TermAt.stable _ _ _ _ _ (bThen hB1 hB) (hf k hlt)
      have hfb := cell_lt f0
      clear hf
      generalize S.terms[k] = t at *
      have HFV := Lib.hid f2
      obtain ⟨fa, fc, rfl, -⟩ := f2
      have hcall : ∀ x : BW wr, Calls Try.prog 45 #[.agg #[.int .i64 S.top, .int .i64 S.genders, .int .i64 S.cases, .int .i64 S.classes, .slice (some ⟨fb, fo, none⟩) S.terms.length ct, .slice ap S.plurals.length cp, .slice as_ S.sets.length cs], .agg #[.int .i64 t.gen, .slice fa t.forms.length fc]] x.val fun e w' => e = .returned (.bool (termOk S t)) ∧ Below x.val.heap.size x.val w' :=
        fun x => term_any S t _ _ _ _ x.val (HSYS.out _ (bThen hB x.2)) (HFV.out.keep FormAt.stable x.2) (by omega) (by omega) (by omega)
      go_wp2_with fail
      refine wp_opaque fun Q2 hQ2 => ?_
      (refine wp_region_below (by kernel_rfl) (by kernel_rfl) ?_; (repeat (first | go_big_quiet_step ((go_at_call 45; exact toB hcall _)) | quiet_step ((go_at_call 45; exact toB hcall _)))); (refine wpQuiet_nil ?_; intro _ hw'; obtain ⟨xq, hw''⟩ := hw'; subst hw''))
      refine hQ2 _ _ _ ?_
      cases hok : termOk S t
      · have HF := Lib.hid (HS.out false (by rw [HN.out hok]; simp))
        go_wp2_with fail
        go_ret
        exact ⟨ret_bool HF.out.symm, bThen hB1 (bThen hB xq.2)⟩
      · go_wp2_with fail
        go_roundw
        case rel => exact ⟨k + 1, by omega, by go_num, Lib.hid (by rw [HT.out, HA.out, hok]; rfl), bThen hB xq.2⟩
        case measure => simp [intOf]; omega
    · obtain rfl : k = S.terms.length := by omega
      have HTA : Hid (S.terms.all (termOk S) = true) := Lib.hid (by have := HA.out; rwa [List.take_length] at this)
      clear HA hx
      obtain ⟨W2, hW2⟩ : ∃ W2, W2 = wr := ⟨_, rfl⟩
      rw [← hW2] at y0 y1 y2 y3 y4 y5 y6 hsl hB ⊢
      clear hW2
      have hBW2 := bThen hB1 hB
      go_wp2_with fail
      go_loopw [4] (fun i wr => ∃ k : Nat, k ≤ S.plurals.length ∧ i = .int .i64 k ∧ Hid ((S.plurals.take k).all (pluOk S) = true) ∧ Below W2.heap.size W2 wr) (fun i _ => S.plurals.length - (intOf i).toNat)
      case atStart => exact ⟨0, Nat.zero_le _, rfl, Lib.hid (by simp), Below.refl _ _⟩
      case round =>
        obtain ⟨k, hk, rfl, HA, hBk⟩ := hrel
        have v0 := keep hBk y0
        have v3 := keep hBk y3
        have v5 := keep hBk y5
        have hvl := cell_lt v0
        by_cases hlt : k < S.plurals.length
        · rcases hy with hnil | ⟨pb, po, rfl, hf⟩
          · simp [hnil] at hlt
          have HT := Lib.hid (all_take_succ' (pluOk S) S.plurals k hlt)
          have HN := Lib.hid (all_false' (pluOk S) S.plurals k hlt)
          obtain ⟨p0, p1, p2, p3⟩ := PluAt.stable _ _ _ _ _ (bThen hBW2 hBk) (hf k hlt)
          have hpb := cell_lt p0
          clear hf
          generalize S.plurals[k] = p at *
          have HF : Hid (pluOk S p = false → sysOk S = false) := Lib.hid fun h => HS.out false (by rw [HN.out h]; simp)
          have HPO : Hid (pluOk S p = (betw p.mod 1 1000000 && decide (0 ≤ p.frm) && decide (p.frm ≤ p.upto) && decide (p.upto < p.mod) && exst p.cls S.classes)) := Lib.hid rfl
          go_wp2_with fail
          all_goals first
            | (go_ret; exact ⟨ret_bool (HF.out (by rw [HPO.out, Bool.eq_false_iff]; simp [betw, exst]; omega)).symm, bThen hBW2 (bAlloc hBk _)⟩)
            | (go_roundw
               case rel => exact ⟨k + 1, by omega, by go_num, Lib.hid (by rw [HT.out, HA.out, HPO.out]; simp [betw, exst]; omega), bAlloc hBk _⟩
               case measure => simp [intOf]; omega)
        · obtain rfl : k = S.plurals.length := by omega
          have HPA : Hid (S.plurals.all (pluOk S) = true) := Lib.hid (by have := HA.out; rwa [List.take_length] at this)
          clear HA hy
          obtain ⟨W3, hW3⟩ : ∃ W3, W3 = wr := ⟨_, rfl⟩
          rw [← hW3] at v0 v3 v5 hvl hBk ⊢
          clear hW3
          have hBW3 := bThen hBW2 hBk
          have x0 := keep hBk y0
          have x1 := keep hBk y1
          have x2 := keep hBk y2
          have x3 := keep hBk y3
          have x4 := keep hBk y4
          have x5 := keep hBk y5
          have x6 := keep hBk y6
          have HSYS3 : Hid (∀ W', Below W3.heap.size W3 W' → SysParts W' (.slice at_ S.terms.length ct) (.slice ap S.plurals.length cp) (.slice as_ S.sets.length cs) S) := Lib.hid fun W' hB => HPS.out.keep (bThen hBW3 hB)
          go_wp2_with fail
          go_loopw [6, 7, 8] (fun i _ _ wr => ∃ k : Nat, k ≤ S.sets.length ∧ i = .int .i64 k ∧ Hid ((S.sets.take k).all (setOk S) = true) ∧ Below W3.heap.size W3 wr) (fun i _ _ _ => S.sets.length - (intOf i).toNat)
          case atStart => exact ⟨0, Nat.zero_le _, rfl, Lib.hid (by simp), Below.refl _ _⟩
          case round =>
            obtain ⟨k, hk, rfl, HA, hBr⟩ := hrel
            obtain ⟨W4, hW4⟩ : ∃ W4, W4 = wr := ⟨_, rfl⟩
            rw [← hW4] at hBr ⊢
            clear hW4
            have c0 := keep hBr x0
            have c1 := keep hBr x1
            have c2 := keep hBr x2
            have c3 := keep hBr x3
            have c4 := keep hBr x4
            have c5 := keep hBr x5
            have c6 := keep hBr x6
            have hcl := cell_lt c0
            have hBW4 := bThen hBW3 hBr
            by_cases hlt : k < S.sets.length
            · rcases hu with hnil | ⟨tb, to_, rfl, hf⟩
              · simp [hnil] at hlt
              have HT := Lib.hid (all_take_succ' (setOk S) S.sets k hlt)
              have HN := Lib.hid (all_false' (setOk S) S.sets k hlt)
              obtain ⟨lv, f0, f2⟩ := SetAt.stable _ _ _ _ _ hBW4 (hf k hlt)
              have f0 : W4.cell? ⟨tb, to_ + k, none⟩ = some lv := by simpa using f0
              have hfb := cell_lt f0
              clear hf
              generalize S.sets[k] = l at *
              have HF : Hid (setOk S l = false → sysOk S = false) := Lib.hid fun h => HS.out false (by rw [HN.out h]; simp)
              obtain ⟨la, lc, rfl, hll, hff⟩ := f2
              unfold most at hll
              by_cases h1 : (l.length : Int) < 1
              · have d1 : decide ((l.length : Int) < 1) = true := by simp; omega
                have HF2 := Lib.hid (HF.out (by unfold setOk; rw [show betw l.length 1 200 = false by simp [betw]; omega]; rfl))
                go_wp2_with fail
                refine wp_opaque fun Q2 hQ2 => ?_
                (refine wp_region_below (by kernel_rfl) (by kernel_rfl) ?_; (repeat (first | go_big_quiet_step (fail) | quiet_step (fail))); (refine wpQuiet_nil ?_; intro _ hw'; obtain ⟨xq, hw''⟩ := hw'; subst hw''))
                refine hQ2 _ _ _ ?_
                go_wp2_with fail
                go_ret
                exact ⟨ret_bool HF2.out.symm, bThen hBW4 xq.2⟩
              have d1 : decide ((l.length : Int) < 1) = false := by simp; omega
              by_cases h2 : 200 < (l.length : Int)
              · have d2 : decide (200 < (l.length : Int)) = true := by simp; omega
                have HF2 := Lib.hid (HF.out (by unfold setOk; rw [show betw l.length 1 200 = false by simp [betw]; omega]; rfl))
                go_wp2_with fail
                refine wp_opaque fun Q2 hQ2 => ?_
                (refine wp_region_below (by kernel_rfl) (by kernel_rfl) ?_; (repeat (first | go_big_quiet_step (fail) | quiet_step (fail))); (refine wpQuiet_nil ?_; intro _ hw'; obtain ⟨xq, hw''⟩ := hw'; subst hw''))
                refine hQ2 _ _ _ ?_
                go_wp2_with fail
                go_ret
                exact ⟨ret_bool HF2.out.symm, bThen hBW4 xq.2⟩
              have d2 : decide (200 < (l.length : Int)) = false := by simp; omega
              have hlen : betw l.length 1 200 = true := by simp [betw]; omega
              rcases hff with hnil | ⟨rb, ro, rfl, hr⟩
              · simp [hnil] at h1
              have hl1 : 1 ≤ l.length := by omega
              have hh := Lib.hid (head_eq l (by omega))
              have hlb := Lib.hid (lastBase_eq l (by omega))
              have g0 := (hr 0 (by omega)).1
              have e0 := (hr (l.length - 1) (by omega)).1
              have hrb := cell_lt g0
              simp only [Nat.zero_mul, Nat.add_zero] at g0
              have HR := Lib.hid hr
              clear hr
              have HB0 : Hid (∀ h : 0 < l.length, l[0].base = 0 → 0 ≤ l[0].base) := Lib.hid fun _ h => by omega
              generalize hFF : l[0].base = F at *
              generalize hEE : l[l.length - 1].base = E at *
              have HFF := Lib.hid hFF
              have HEE := Lib.hid hEE
              clear hFF hEE
              have q1 : ((l.length : Int) - 1) < l.length := by omega
              have q2 : (0 : Int) ≤ (l.length : Int) - 1 := by omega
              have qw : IntKind.i64.wrap ((l.length : Int) - 1) = (l.length : Int) - 1 := IntWalk.i64_in _ (by omega)
              have q3 : ((l.length : Int) - 1).toNat = l.length - 1 := by omega
              rcases Decidable.em (F ≠ 0) with k1 | k1n
              · have k1' : (F == 0) = false := by simp [k1]
                have k1'' : (F != 0) = true := by simp [k1]
                have HF2 := Lib.hid (HF.out (by
                  cases hz : setOk S l
                  · rfl
                  · exfalso
                    simp only [setOk, Bool.and_eq_true, decide_eq_true_eq] at hz
                    exact k1 (hh.out.1 hz.1.1.1.2)))
                clear k1
                go_wp2_with fail
                refine wp_opaque fun Q2 hQ2 => ?_
                (refine wp_region_below (by kernel_rfl) (by kernel_rfl) ?_; (repeat (first | go_big_quiet_step (fail) | quiet_step (fail))); (refine wpQuiet_nil ?_; intro _ hw'; obtain ⟨xq, hw''⟩ := hw'; subst hw''))
                refine hQ2 _ _ _ ?_
                go_wp2_with fail
                go_ret
                exact ⟨ret_bool HF2.out.symm, bThen hBW4 xq.2⟩
              have k1 : F = 0 := by omega
              clear k1n
              have k1' : (F == 0) = true := by simp [k1]
              have k1'' : (F != 0) = false := by simp [k1]
              have HK1 := Lib.hid k1
              clear k1
              by_cases k2 : S.top < E
              · have d3 : decide (S.top < E) = true := by simp; omega
                have HF2 := Lib.hid (HF.out (by
                  cases hz : setOk S l
                  · rfl
                  · exfalso
                    simp only [setOk, Bool.and_eq_true, decide_eq_true_eq] at hz
                    have h5 := hz.1.1.2
                    rw [hlb.out] at h5
                    omega))
                go_wp2_with fail
                refine wp_opaque fun Q2 hQ2 => ?_
                (refine wp_region_below (by kernel_rfl) (by kernel_rfl) ?_; (repeat (first | go_big_quiet_step (fail) | quiet_step (fail))); (refine wpQuiet_nil ?_; intro _ hw'; obtain ⟨xq, hw''⟩ := hw'; subst hw''))
                refine hQ2 _ _ _ ?_
                go_wp2_with fail
                go_ret
                exact ⟨ret_bool HF2.out.symm, bThen hBW4 xq.2⟩
              have d3 : decide (S.top < E) = false := by simp; omega
              go_wp2_with fail
              refine wp_opaque fun Q2 hQ2 => ?_
              (refine wp_region_below (by kernel_rfl) (by kernel_rfl) ?_; (repeat (first | go_big_quiet_step (fail) | quiet_step (fail))); (refine wpQuiet_nil ?_; intro _ hw'; obtain ⟨xq, hw''⟩ := hw'; subst hw''))
              refine hQ2 _ _ _ ?_
              go_wp2_with fail
              have hB45 := xq.2
              generalize xq.val = W5 at *
              have b0 := keep hB45 c0
              have b1 := keep hB45 c1
              have b2 := keep hB45 c2
              have b3 := keep hB45 c3
              have b4 := keep hB45 c4
              have b5 := keep hB45 c5
              have b6 := keep hB45 c6
              have hBW5 := bThen hBW4 hB45
              clear g0 e0
              go_loopw [8] (fun j wr => ∃ q : Nat, q ≤ l.length ∧ j = .int .i64 q ∧ Hid ((∀ i (h : i + 1 < l.length), i + 1 < q → l[i].base < l[i + 1].base) ∧ (l.take q).all (rulOk S) = true ∧ (∀ i (h : i < l.length), i < q → 0 ≤ l[i].base)) ∧ Below W5.heap.size W5 wr) (fun j _ => l.length - (intOf j).toNat)
              case atStart => exact ⟨0, Nat.zero_le _, rfl, Lib.hid ⟨fun _ _ h => by omega, rfl, fun _ _ h => by omega⟩, Below.refl _ _⟩
              case round =>
                obtain ⟨q, hq, rfl, HAq, hBq⟩ := hrel
                have a0 := keep hBq b0
                have a1 := keep hBq b1
                have a2 := keep hBq b2
                have a3 := keep hBq b3
                have a4 := keep hBq b4
                have a5 := keep hBq b5
                have a6 := keep hBq b6
                have hal := cell_lt a0
                by_cases hlq : q < l.length
                · obtain ⟨r0, r1, vr, r2, r3⟩ := RulAt.stable _ _ _ _ _ (bThen hB45 hBq) (HR.out q hlq)
                  have HRP := Lib.hid r3
                  obtain ⟨ra, rc, rfl, -⟩ := r3
                  have hrw := cell_lt r0
                  have HTq := Lib.hid (all_take_succ' (rulOk S) l q hlq)
                  have HNq := Lib.hid (all_false' (rulOk S) l q hlq)
                  cases q with
                  | zero =>
                    simp only [Nat.zero_mul, Nat.add_zero] at r0 r1 r2
                    have hb0 : 0 ≤ l[0].base := by rw [HFF.out, HK1.out]; exact Int.le_refl _
                    have HPRE : Hid (∀ i (h : i < l.length), i < 1 → 0 ≤ l[i].base) := Lib.hid fun i h h' => by
                      have : i = 0 := by omega
                      subst this; exact hb0
                    generalize l[0] = r at *
                    have HB0' := Lib.hid hb0
                    have hcall : 0 ≤ r.base → ∀ x : BW wr, Calls Try.prog 46 #[.agg #[.int .i64 S.top, .int .i64 S.genders, .int .i64 S.cases, .int .i64 S.classes, .slice at_ S.terms.length ct, .slice ap S.plurals.length cp, .slice (some ⟨tb, to_, none⟩) S.sets.length cs], .agg #[.int .i64 r.base, .int .i64 r.div, .slice ra r.pieces.length rc]] x.val fun e w' => e = .returned (.bool (rulOk S r)) ∧ Below x.val.heap.size x.val w' :=
                      fun hb x => rule_ok_any S r _ _ _ _ x.val (HPS.out.keep (bThen hBW5 (bThen hBq x.2))) (HRP.out.keep PceAt.stable x.2) hb
                    rw [show ((0 : Nat) : Int) = 0 from rfl]
                    go_wp2_with fail
                    refine wp_opaque fun Q2 hQ2 => ?_
                    (refine wp_region_below (by kernel_rfl) (by kernel_rfl) ?_; (repeat (first | go_big_quiet_step ((go_at_call 46; exact toB (hcall hb0) _)) | quiet_step ((go_at_call 46; exact toB (hcall hb0) _)))); (refine wpQuiet_nil ?_; intro _ hw'; obtain ⟨xq, hw''⟩ := hw'; subst hw''))
                    refine hQ2 _ _ _ ?_
                    cases hok : rulOk S r
                    · have HF2 := Lib.hid (HF.out (by unfold setOk; rw [HNq.out hok]; simp))
                      go_wp2_with fail
                      go_ret
                      exact ⟨ret_bool HF2.out.symm, bThen hBW5 (bThen hBq xq.2)⟩
                    · go_wp2_with fail
                      go_roundw
                      case rel => exact ⟨1, by omega, rfl, Lib.hid ⟨fun i h h' => by omega, by rw [HTq.out, HAq.out.2.1, hok]; rfl, HPRE.out⟩, bThen hBq xq.2⟩
                      case measure => simp [intOf]; omega
                  | succ j =>
                    have p0 := (RulAt.stable _ _ _ _ _ (bThen hB45 hBq) (HR.out j (by omega))).1
                    have HRIS := Lib.hid (rising_on l j hlq HAq.out.1)
                    have HBAD := Lib.hid (rising_no l j hlq)
                    have HPRE : Hid (l[j].base < l[j + 1].base → (0 ≤ l[j + 1].base ∧ ∀ i (h : i < l.length), i < j + 1 + 1 → 0 ≤ l[i].base)) := Lib.hid fun hlt2 => by
                      have h0 := HAq.out.2.2 j (by omega) (by omega)
                      refine ⟨by omega, fun i h h' => ?_⟩
                      by_cases e : i = j + 1
                      · subst e; omega
                      · exact HAq.out.2.2 i h (by omega)
                    generalize l[j + 1] = r at *
                    generalize l[j] = p at *
                    have hqb := cell_lt p0
                    have d4 : decide ((0 : Int) < ((j + 1 : Nat) : Int)) = true := decide_eq_true (by omega)
                    have i0 : (0 : Int) ≤ ((j + 1 : Nat) : Int) - 1 := by omega
                    have i1 : ((j + 1 : Nat) : Int) - 1 < (l.length : Int) := by omega
                    have i2 : (((j + 1 : Nat) : Int) - 1).toNat = j := by omega
                    have i3 : IntKind.i64.wrap (((j + 1 : Nat) : Int) - 1) = ((j + 1 : Nat) : Int) - 1 := IntWalk.i64_in _ (by omega)
                    by_cases hle : r.base ≤ p.base
                    · have d5 : decide (r.base ≤ p.base) = true := by simp; omega
                      have HF2 := Lib.hid (HF.out (by unfold setOk; rw [HBAD.out (by omega)]; simp))
                      go_wp2_with fail
                      refine wp_opaque fun Q2 hQ2 => ?_
                      (refine wp_region_below (by kernel_rfl) (by kernel_rfl) ?_; (repeat (first | go_big_quiet_step (fail) | quiet_step (fail))); (refine wpQuiet_nil ?_; intro _ hw'; obtain ⟨xq, hw''⟩ := hw'; subst hw''))
                      refine hQ2 _ _ _ ?_
                      go_wp2_with fail
                      go_ret
                      exact ⟨ret_bool HF2.out.symm, bThen hBW5 (bThen hBq xq.2)⟩
                    have d5 : decide (r.base ≤ p.base) = false := by simp; omega
                    have hb0 : 0 ≤ r.base := (HPRE.out (by omega)).1
                    have hcall : 0 ≤ r.base → ∀ x : BW wr, Calls Try.prog 46 #[.agg #[.int .i64 S.top, .int .i64 S.genders, .int .i64 S.cases, .int .i64 S.classes, .slice at_ S.terms.length ct, .slice ap S.plurals.length cp, .slice (some ⟨tb, to_, none⟩) S.sets.length cs], .agg #[.int .i64 r.base, .int .i64 r.div, .slice ra r.pieces.length rc]] x.val fun e w' => e = .returned (.bool (rulOk S r)) ∧ Below x.val.heap.size x.val w' :=
                      fun hb x => rule_ok_any S r _ _ _ _ x.val (HPS.out.keep (bThen hBW5 (bThen hBq x.2))) (HRP.out.keep PceAt.stable x.2) hb
                    go_wp2_with fail
                    refine wp_opaque fun Q2 hQ2 => ?_
                    (refine wp_region_below (by kernel_rfl) (by kernel_rfl) ?_; (repeat (first | go_big_quiet_step ((go_at_call 46; exact toB (hcall hb0) _)) | quiet_step ((go_at_call 46; exact toB (hcall hb0) _)))); (refine wpQuiet_nil ?_; intro _ hw'; obtain ⟨xq, hw''⟩ := hw'; subst hw''))
                    refine hQ2 _ _ _ ?_
                    cases hok : rulOk S r
                    · have HF2 := Lib.hid (HF.out (by unfold setOk; rw [HNq.out hok]; simp))
                      go_wp2_with fail
                      go_ret
                      exact ⟨ret_bool HF2.out.symm, bThen hBW5 (bThen hBq xq.2)⟩
                    · go_wp2_with fail
                      go_roundw
                      case rel => exact ⟨j + 1 + 1, by omega, by go_num, Lib.hid ⟨HRIS.out (by omega), by rw [HTq.out, HAq.out.2.1, hok]; rfl, (HPRE.out (by omega)).2⟩, bThen hBq xq.2⟩
                      case measure => simp [intOf]; omega
                · obtain rfl : q = l.length := by omega
                  have HOK : Hid (setOk S l = true) := Lib.hid (by
                    have h5 := HAq.out.2.1
                    rw [List.take_length] at h5
                    have h6 : rising l = true := (rising_iff l).2 fun i h => HAq.out.1 i h h
                    unfold setOk
                    rw [hlen, h5, h6]
                    simp only [Bool.and_true, Bool.true_and, Bool.and_eq_true, decide_eq_true_eq]
                    exact ⟨hh.out.2 HK1.out, by rw [hlb.out]; omega⟩)
                  go_wp2_with fail
                  go_roundw
                  case rel => exact ⟨k + 1, by omega, by go_num, Lib.hid (by rw [HT.out, HA.out, HOK.out]; rfl), bThen hBr (bThen hB45 hBq)⟩
                  case measure => simp [intOf]; omega
            · obtain rfl : k = S.sets.length := by omega
              have HSA : Hid (S.sets.all (setOk S) = true) := Lib.hid (by have := HA.out; rwa [List.take_length] at this)
              clear HA
              go_wp2_with fail
              go_ret
              exact ⟨ret_bool (HS.out true (by rw [HTA.out, HPA.out, HSA.out]; rfl)).symm, hBW4⟩

theorem Valid_any (S : Sys) (vt vp vs : Value) (w : World) (hp : SysParts w vt vp vs S) :
    Calls Try.prog 17 #[sysVal S vt vp vs] w fun e w' => e = .returned (.bool (sysOk S)) ∧ Below w.heap.size w w' := by
  cases hz : sizesOk S
  · exact Valid_bad S vt vp vs w hp hz
  · exact Valid_good S vt vp vs w hp hz
end Go.Proofs.Ytfcopnlpcbbocaa
