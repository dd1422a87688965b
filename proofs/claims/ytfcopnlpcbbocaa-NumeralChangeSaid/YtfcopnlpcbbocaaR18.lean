/- Contracts of the specification: for which numbers a rule is used. -/
import Derived.Test.YtfcopnlpcbbocaaR17
set_option linter.unusedSimpArgs false
set_option linter.unusedVariables false
namespace Go.Proofs.Ytfcopnlpcbbocaa
open Go.RowKit

set_option maxRecDepth 100000 in
set_option maxHeartbeats 8000000 in
theorem used_any (S : Sys) (hS : Right S) (set rule : Int) :
    ∀ (k : Nat) (a : Ask), AskRight S a → a.num < k → ∀ (vt vp vs : Value) (w : World), SysParts w vt vp vs S →
      Calls Try.prog 65 #[sysVal S vt vp vs, .int .i64 a.set, .int .i64 a.num, .int .i64 set, .int .i64 rule] w fun e w' => e = .returned (.bool (usedF k S a set rule)) ∧ Below w.heap.size w w' := by
  intro k
  induction k with
  | zero => intro a ha h; have := ha.num; omega
  | succ k ih =>
    intro a ha hk vt vp vs w hp
    have HIH := Lib.hid ih
    clear ih
    have HP := Lib.hid hp
    have HAR := Lib.hid ha
    obtain ⟨l, hl1, hl2, hsr, hidx, hrule, hrr⟩ := rule_right hS ha
    have HRR := Lib.hid hrr
    have hfew := hrr.few
    have hnum := ha.num
    have htop := ha.top
    obtain ⟨hset0, hset1⟩ := ha.set
    have HUF : Hid (usedF (k + 1) S a set rule = ((decide (a.set = set) && decide ((idxOf S a : Int) = rule)) || (ruleOf S a).pieces.any (usedP (fun b => usedF k S b set rule) S a))) := Lib.hid rfl
    obtain ⟨⟨at_, ct, rfl, -⟩, ⟨ap, cp, rfl, -⟩, ⟨as_, cs, rfl, hl3', hx⟩⟩ := hp
    unfold most at hl3'
    have hat : a.set.toNat < S.sets.length := by omega
    rcases hx with hnil | ⟨xb, xo, rfl, hf⟩
    · simp [hnil] at hat
    obtain ⟨lv, c0, hlv⟩ := hf a.set.toNat hat
    rw [List.getElem?_eq_getElem hat] at hl1
    have hl1 := Option.some.inj hl1
    rw [hl1] at hlv
    simp only [Nat.mul_one] at c0
    obtain ⟨la, lc, rfl, hll, hly⟩ := id hlv
    unfold most at hll
    rcases hly with hnil | ⟨lb, lo, rfl, hlf⟩
    · simp [hnil] at hidx
    obtain ⟨r0, r1, rv, r2, hrv⟩ := hlf _ hidx
    have HX := Lib.hid (show (ruleIdx l a.num) = idxOf S a by rw [idxOf, hl2])
    rw [hrule hidx] at r0 r1 hrv
    have HLV := Lib.hid hlv
    have HRV := Lib.hid hrv
    obtain ⟨pa, pcap, rfl, hpl, hpx⟩ := hrv
    unfold most at hpl
    have hixl : (idxOf S a : Int) < l.length := by omega
    clear hf hlf hlv hrule hsr hl1 hl2 hrr ha
    unfold sysVal
    obtain ⟨g, hg⟩ : ∃ g, g = usedP (fun b => usedF k S b set rule) S a := ⟨_, rfl⟩
    rw [← hg] at HUF
    have HG := Lib.hid hg
    clear hg
    by_cases hhit : a.set = set ∧ (idxOf S a : Int) = rule
    · have e1 : (a.set == set) = true := by simp [hhit.1]
      have e2 : ((idxOf S a : Int) == rule) = true := by simp [hhit.2]
      have HU : Hid (usedF (k + 1) S a set rule = true) := Lib.hid (by rw [HUF.out]; simp [hhit.1, hhit.2])
      clear hhit
      go_enter Try.func65, Try.ntmps65
      go_upto_region 1 with fail
      generalize hW1 : World.alloc w _ = W1
      have hbn : Below w.heap.size w W1 := by rw [← hW1]; exact bAlloc (Below.refl _ _) _
      have s0 : W1.cell? ⟨w.heap.size, 0, none⟩ = some (.int .i64 S.top) := by rw [← hW1]; exact cell_new rfl
      have s1 : W1.cell? ⟨w.heap.size, 1, none⟩ = some (.int .i64 S.genders) := by rw [← hW1]; exact cell_new rfl
      have s2 : W1.cell? ⟨w.heap.size, 2, none⟩ = some (.int .i64 S.cases) := by rw [← hW1]; exact cell_new rfl
      have s3 : W1.cell? ⟨w.heap.size, 3, none⟩ = some (.int .i64 S.classes) := by rw [← hW1]; exact cell_new rfl
      have s4 : W1.cell? ⟨w.heap.size, 4, none⟩ = some (.slice at_ S.terms.length ct) := by rw [← hW1]; exact cell_new rfl
      have s5 : W1.cell? ⟨w.heap.size, 5, none⟩ = some (.slice ap S.plurals.length cp) := by rw [← hW1]; exact cell_new rfl
      have s6 : W1.cell? ⟨w.heap.size, 6, none⟩ = some (.slice (some ⟨xb, xo, none⟩) S.sets.length cs) := by rw [← hW1]; exact cell_new rfl
      replace c0 := keep hbn c0
      replace r0 := keep hbn r0
      replace r1 := keep hbn r1
      replace r2 := keep hbn r2
      have HB1 := Lib.hid hbn
      have HLc := Lib.hid (HLV.out.keep RulAt.stable hbn)
      clear hW1 hbn
      have hsl := cell_lt s0
      have hxb := cell_lt c0
      have hlb := cell_lt r0
      go_wp2_with (go_at_call 26; refine (Index_any l a.num _ _ HLc.out).mono ?_; rintro e w' ⟨rfl, rfl⟩; rw [HX.out])
      go_ret
      exact ⟨ret_bool HU.out.symm, HB1.out⟩
    · have HU : Hid (usedF (k + 1) S a set rule = (ruleOf S a).pieces.any g) := Lib.hid (HUF.out.trans (or_miss hhit _))
      by_cases h1 : a.set = set
      · have e1 : (a.set == set) = true := by simp [h1]
        have e2 : ((idxOf S a : Int) == rule) = false := by simp; intro h; exact hhit ⟨h1, h⟩
        clear hhit h1
        go_enter Try.func65, Try.ntmps65
        go_upto_region 1 with fail
        generalize hW1 : World.alloc w _ = W1
        have hbn : Below w.heap.size w W1 := by rw [← hW1]; exact bAlloc (Below.refl _ _) _
        have s0 : W1.cell? ⟨w.heap.size, 0, none⟩ = some (.int .i64 S.top) := by rw [← hW1]; exact cell_new rfl
        have s1 : W1.cell? ⟨w.heap.size, 1, none⟩ = some (.int .i64 S.genders) := by rw [← hW1]; exact cell_new rfl
        have s2 : W1.cell? ⟨w.heap.size, 2, none⟩ = some (.int .i64 S.cases) := by rw [← hW1]; exact cell_new rfl
        have s3 : W1.cell? ⟨w.heap.size, 3, none⟩ = some (.int .i64 S.classes) := by rw [← hW1]; exact cell_new rfl
        have s4 : W1.cell? ⟨w.heap.size, 4, none⟩ = some (.slice at_ S.terms.length ct) := by rw [← hW1]; exact cell_new rfl
        have s5 : W1.cell? ⟨w.heap.size, 5, none⟩ = some (.slice ap S.plurals.length cp) := by rw [← hW1]; exact cell_new rfl
        have s6 : W1.cell? ⟨w.heap.size, 6, none⟩ = some (.slice (some ⟨xb, xo, none⟩) S.sets.length cs) := by rw [← hW1]; exact cell_new rfl
        replace c0 := keep hbn c0
        replace r0 := keep hbn r0
        replace r1 := keep hbn r1
        replace r2 := keep hbn r2
        have HB1 := Lib.hid hbn
        have HLc := Lib.hid (HLV.out.keep RulAt.stable hbn)
        clear hW1 hbn
        have hsl := cell_lt s0
        have hxb := cell_lt c0
        have hlb := cell_lt r0
        go_upto_region 5 with (go_at_call 26; refine (Index_any l a.num _ _ HLc.out).mono ?_; rintro e w' ⟨rfl, rfl⟩; rw [HX.out])
        generalize hW2 : World.alloc W1 _ = W2
        have hb : Below W1.heap.size W1 W2 := by rw [← hW2]; exact bAlloc (Below.refl _ _) _
        have q1 : W2.cell? ⟨W1.heap.size, 1, none⟩ = some (.int .i64 (ruleOf S a).div) := by rw [← hW2]; exact cell_new rfl
        have q2 : W2.cell? ⟨W1.heap.size, 2, none⟩ = some (.slice pa (ruleOf S a).pieces.length pcap) := by rw [← hW2]; exact cell_new rfl
        replace s0 := keep hb s0
        replace s1 := keep hb s1
        replace s2 := keep hb s2
        replace s3 := keep hb s3
        replace s4 := keep hb s4
        replace s5 := keep hb s5
        replace s6 := keep hb s6
        have HB2 := Lib.hid (bThen HB1.out hb)
        clear hW2 hb c0 r0 r1 r2 hxb hlb
        have hsl := cell_lt s0
        have hql := cell_lt q1
        generalize W1.heap.size = rb at *
        go_wp2_with fail
        go_loopw [13] (fun v wr => ∃ j : Nat, j ≤ (ruleOf S a).pieces.length ∧ v = .int .i64 j ∧ Hid (((ruleOf S a).pieces.take j).any g = false) ∧ Hid (Below W2.heap.size W2 wr)) (fun v _ => (ruleOf S a).pieces.length - (intOf v).toNat)
        case atStart => exact ⟨0, Nat.zero_le _, rfl, Lib.hid (by simp), Lib.hid (Below.refl _ _)⟩
        case round =>
          obtain ⟨j, hj, rfl, HNO, HBr⟩ := hrel
          replace q1 := keep HBr.out q1
          replace q2 := keep HBr.out q2
          have hql := cell_lt q1
          by_cases hlt : j < (ruleOf S a).pieces.length
          · rcases hpx with hnil | ⟨pb, po, rfl, hpp⟩
            · simp [hnil] at hlt
            obtain ⟨z0, z1, z2, z3⟩ := hpp j hlt
            replace z0 := keep (bThen HB2.out HBr.out) z0
            replace z1 := keep (bThen HB2.out HBr.out) z1
            replace z2 := keep (bThen HB2.out HBr.out) z2
            replace z3 := keep (bThen HB2.out HBr.out) z3
            have hpb := cell_lt z0
            replace s0 := keep HBr.out s0
            replace s1 := keep HBr.out s1
            replace s2 := keep HBr.out s2
            replace s3 := keep HBr.out s3
            replace s4 := keep HBr.out s4
            replace s5 := keep HBr.out s5
            replace s6 := keep HBr.out s6
            have hsl := cell_lt s0
            have hok := HRR.out.piece _ (List.getElem_mem hlt)
            have hkind := pce_kind hok
            have HM := Lib.hid (List.getElem_mem hlt)
            have HTK := Lib.hid (any_take_succ g _ j hlt)
            have HHIT := Lib.hid (any_hit g _ j hlt)
            obtain ⟨pc, hpc⟩ : ∃ pc, pc = (ruleOf S a).pieces[j] := ⟨_, rfl⟩
            rw [← hpc] at z0 z1 z2 z3 hok hkind HM HTK HHIT
            clear hpp hpc
            have HOK := Lib.hid hok
            clear hok
            go_upto_region 9 with fail
            generalize hW3 : World.alloc wr _ = W3
            have hb : Below wr.heap.size wr W3 := by rw [← hW3]; exact bAlloc (Below.refl _ _) _
            have p0 : W3.cell? ⟨wr.heap.size, 0, none⟩ = some (.int .i64 pc.kind) := by rw [← hW3]; exact cell_new rfl
            have p2 : W3.cell? ⟨wr.heap.size, 2, none⟩ = some (.int .i64 pc.set) := by rw [← hW3]; exact cell_new rfl
            replace s0 := keep hb s0
            replace s1 := keep hb s1
            replace s2 := keep hb s2
            replace s3 := keep hb s3
            replace s4 := keep hb s4
            replace s5 := keep hb s5
            replace s6 := keep hb s6
            replace q1 := keep hb q1
            have HBx := Lib.hid hb
            have HP3 := Lib.hid (HP.out.keep (bThen (bThen HB2.out HBr.out) hb))
            clear hW3 hb z0 z1 z2 z3 hpb
            have hpl0 := cell_lt p0
            have hsl := cell_lt s0
            have hql := cell_lt q1
            obtain ⟨kind, term, st, below⟩ := pc
            simp only at hkind p0 p2
            rcases hkind with h | h | h | h | h
            · subst h
              have HGP : Hid (g ⟨1, term, st, below⟩ = false) := Lib.hid (by rw [HG.out]; simp [usedP])
              (refine wp_region_below (by kernel_rfl) (by kernel_rfl) ?_; (repeat (first | go_big_quiet_step (fail) | quiet_step (fail))); (refine wpQuiet_nil ?_; intro _ hw'; obtain ⟨xq, hw''⟩ := hw'; subst hw''))
              have hb4 := xq.2
              generalize xq.val = W4 at *
              replace s0 := keep hb4 s0
              replace s1 := keep hb4 s1
              replace s2 := keep hb4 s2
              replace s3 := keep hb4 s3
              replace s4 := keep hb4 s4
              replace s5 := keep hb4 s5
              replace s6 := keep hb4 s6
              replace q1 := keep hb4 q1
              replace p0 := keep hb4 p0
              replace p2 := keep hb4 p2
              replace HBx := Lib.hid (bThen HBx.out hb4)
              replace hpl0 := cell_lt p0
              replace hsl := cell_lt s0
              replace hql := cell_lt q1
              go_wp2_with fail
              (refine wp_region_below (by kernel_rfl) (by kernel_rfl) ?_; (repeat (first | go_big_quiet_step (fail) | quiet_step (fail))); (refine wpQuiet_nil ?_; intro _ hw'; obtain ⟨xq, hw''⟩ := hw'; subst hw''))
              have hb5 := xq.2
              generalize xq.val = W5 at *
              replace HBx := Lib.hid (bThen HBx.out hb5)
              go_wp2_with fail
              go_roundw
              case rel => exact ⟨j + 1, by omega, by go_num, Lib.hid (by rw [HTK.out, HNO.out, HGP.out]; rfl), Lib.hid (bThen HBr.out HBx.out)⟩
              case measure => simp [intOf]; omega
            · subst h
              have HGP : Hid (g ⟨2, term, st, below⟩ = false) := Lib.hid (by rw [HG.out]; simp [usedP])
              (refine wp_region_below (by kernel_rfl) (by kernel_rfl) ?_; (repeat (first | go_big_quiet_step (fail) | quiet_step (fail))); (refine wpQuiet_nil ?_; intro _ hw'; obtain ⟨xq, hw''⟩ := hw'; subst hw''))
              have hb4 := xq.2
              generalize xq.val = W4 at *
              replace s0 := keep hb4 s0
              replace s1 := keep hb4 s1
              replace s2 := keep hb4 s2
              replace s3 := keep hb4 s3
              replace s4 := keep hb4 s4
              replace s5 := keep hb4 s5
              replace s6 := keep hb4 s6
              replace q1 := keep hb4 q1
              replace p0 := keep hb4 p0
              replace p2 := keep hb4 p2
              replace HBx := Lib.hid (bThen HBx.out hb4)
              replace hpl0 := cell_lt p0
              replace hsl := cell_lt s0
              replace hql := cell_lt q1
              go_wp2_with fail
              (refine wp_region_below (by kernel_rfl) (by kernel_rfl) ?_; (repeat (first | go_big_quiet_step (fail) | quiet_step (fail))); (refine wpQuiet_nil ?_; intro _ hw'; obtain ⟨xq, hw''⟩ := hw'; subst hw''))
              have hb5 := xq.2
              generalize xq.val = W5 at *
              replace HBx := Lib.hid (bThen HBx.out hb5)
              go_wp2_with fail
              go_roundw
              case rel => exact ⟨j + 1, by omega, by go_num, Lib.hid (by rw [HTK.out, HNO.out, HGP.out]; rfl), Lib.hid (bThen HBr.out HBx.out)⟩
              case measure => simp [intOf]; omega
            · subst h
              have hdz : (ruleOf S a).div ≠ 0 := pce_div HOK.out (by simp)
              have hzz : ((ruleOf S a).div == 0) = false := by simp [hdz]
              have hqq := quo_lt HRR.out hdz
              have e3 : a.num.tdiv (ruleOf S a).div = quo (ruleOf S a) a.num := by rw [quo, if_neg hdz]; exact Int.tdiv_eq_ediv_of_nonneg hnum
              have w3 : IntKind.i64.wrap (quo (ruleOf S a) a.num) = quo (ruleOf S a) a.num := IntWalk.i64_in _ (by omega)
              have hrec : ∀ x : BW W3, Calls Try.prog 65 #[.agg #[.int .i64 S.top, .int .i64 S.genders, .int .i64 S.cases, .int .i64 S.classes, .slice at_ S.terms.length ct, .slice ap S.plurals.length cp, .slice (some ⟨xb, xo, none⟩) S.sets.length cs], .int .i64 st, .int .i64 (quo (ruleOf S a) a.num), .int .i64 set, .int .i64 rule] x.val fun e w' => e = .returned (.bool (usedF k S (askQuo S a st) set rule)) ∧ Below x.val.heap.size x.val w' := fun x => by
                have hq := askQuo_right hS HAR.out HM.out rfl
                exact HIH.out (askQuo S a st) hq.1 (by have := hq.2; simp only at this; omega) _ _ _ x.val (HP3.out.keep x.2)
              clear hqq
              cases hu : usedF k S (askQuo S a st) set rule
              all_goals
                rw [hu] at hrec
              · have HGP : Hid (g ⟨3, term, st, below⟩ = false) := Lib.hid (by rw [HG.out]; simp [usedP, hu])
                clear hu
                (refine wp_region_below (by kernel_rfl) (by kernel_rfl) ?_; (repeat (first | go_big_quiet_step ((go_at_call 65; exact toB hrec _)) | quiet_step ((go_at_call 65; exact toB hrec _)))); (refine wpQuiet_nil ?_; intro _ hw'; obtain ⟨xq, hw''⟩ := hw'; subst hw''))
                clear hrec
                have hb4 := xq.2
                generalize xq.val = W4 at *
                replace s0 := keep hb4 s0
                replace s1 := keep hb4 s1
                replace s2 := keep hb4 s2
                replace s3 := keep hb4 s3
                replace s4 := keep hb4 s4
                replace s5 := keep hb4 s5
                replace s6 := keep hb4 s6
                replace q1 := keep hb4 q1
                replace p0 := keep hb4 p0
                replace p2 := keep hb4 p2
                replace HBx := Lib.hid (bThen HBx.out hb4)
                replace hpl0 := cell_lt p0
                replace hsl := cell_lt s0
                replace hql := cell_lt q1
                go_wp2_with fail
                (refine wp_region_below (by kernel_rfl) (by kernel_rfl) ?_; (repeat (first | go_big_quiet_step (fail) | quiet_step (fail))); (refine wpQuiet_nil ?_; intro _ hw'; obtain ⟨xq, hw''⟩ := hw'; subst hw''))
                have hb5 := xq.2
                generalize xq.val = W5 at *
                replace HBx := Lib.hid (bThen HBx.out hb5)
                go_wp2_with fail
                go_roundw
                case rel => exact ⟨j + 1, by omega, by go_num, Lib.hid (by rw [HTK.out, HNO.out, HGP.out]; rfl), Lib.hid (bThen HBr.out HBx.out)⟩
                case measure => simp [intOf]; omega
              · have HGP : Hid (g ⟨3, term, st, below⟩ = true) := Lib.hid (by rw [HG.out]; simp [usedP, hu])
                clear hu
                (refine wp_region_below (by kernel_rfl) (by kernel_rfl) ?_; (repeat (first | go_big_quiet_step ((go_at_call 65; exact toB hrec _)) | quiet_step ((go_at_call 65; exact toB hrec _)))); (refine wpQuiet_nil ?_; intro _ hw'; obtain ⟨xq, hw''⟩ := hw'; subst hw''))
                clear hrec
                have hb4 := xq.2
                generalize xq.val = W4 at *
                replace s0 := keep hb4 s0
                replace s1 := keep hb4 s1
                replace s2 := keep hb4 s2
                replace s3 := keep hb4 s3
                replace s4 := keep hb4 s4
                replace s5 := keep hb4 s5
                replace s6 := keep hb4 s6
                replace q1 := keep hb4 q1
                replace p0 := keep hb4 p0
                replace p2 := keep hb4 p2
                replace HBx := Lib.hid (bThen HBx.out hb4)
                replace hpl0 := cell_lt p0
                replace hsl := cell_lt s0
                replace hql := cell_lt q1
                go_wp2_with fail
                go_ret
                exact ⟨ret_bool (by rw [HU.out, HHIT.out HGP.out]), bThen (bThen HB2.out HBr.out) HBx.out⟩
            · subst h
              have hdz : (ruleOf S a).div ≠ 0 := pce_div HOK.out (by simp)
              have hzz : ((ruleOf S a).div == 0) = false := by simp [hdz]
              have hqq := quo_lt HRR.out hdz
              have e3 : a.num.tmod (ruleOf S a).div = rst (ruleOf S a) a.num := by rw [rst, if_neg hdz]; exact Int.tmod_eq_emod_of_nonneg hnum
              have w3 : IntKind.i64.wrap (rst (ruleOf S a) a.num) = rst (ruleOf S a) a.num := IntWalk.i64_in _ (by omega)
              (refine wp_region_below (by kernel_rfl) (by kernel_rfl) ?_; (repeat (first | go_big_quiet_step (fail) | quiet_step (fail))); (refine wpQuiet_nil ?_; intro _ hw'; obtain ⟨xq, hw''⟩ := hw'; subst hw''))
              have hb4 := xq.2
              generalize xq.val = W4 at *
              replace s0 := keep hb4 s0
              replace s1 := keep hb4 s1
              replace s2 := keep hb4 s2
              replace s3 := keep hb4 s3
              replace s4 := keep hb4 s4
              replace s5 := keep hb4 s5
              replace s6 := keep hb4 s6
              replace q1 := keep hb4 q1
              replace p0 := keep hb4 p0
              replace p2 := keep hb4 p2
              replace HBx := Lib.hid (bThen HBx.out hb4)
              replace hpl0 := cell_lt p0
              replace hsl := cell_lt s0
              replace hql := cell_lt q1
              by_cases hr0 : rst (ruleOf S a) a.num = 0
              · have d1 : decide (0 < rst (ruleOf S a) a.num) = false := by simp [hr0]
                have HGP : Hid (g ⟨4, term, st, below⟩ = false) := Lib.hid (by rw [HG.out]; simp [usedP, hr0])
                clear hr0 hqq
                go_wp2_with fail
                (refine wp_region_below (by kernel_rfl) (by kernel_rfl) ?_; (repeat (first | go_big_quiet_step (fail) | quiet_step (fail))); (refine wpQuiet_nil ?_; intro _ hw'; obtain ⟨xq, hw''⟩ := hw'; subst hw''))
                have hb5 := xq.2
                generalize xq.val = W5 at *
                replace HBx := Lib.hid (bThen HBx.out hb5)
                go_wp2_with fail
                go_roundw
                case rel => exact ⟨j + 1, by omega, by go_num, Lib.hid (by rw [HTK.out, HNO.out, HGP.out]; rfl), Lib.hid (bThen HBr.out HBx.out)⟩
                case measure => simp [intOf]; omega
              · have d1 : decide (0 < rst (ruleOf S a) a.num) = true := by simp; omega
                have hrec : ∀ x : BW W4, Calls Try.prog 65 #[.agg #[.int .i64 S.top, .int .i64 S.genders, .int .i64 S.cases, .int .i64 S.classes, .slice at_ S.terms.length ct, .slice ap S.plurals.length cp, .slice (some ⟨xb, xo, none⟩) S.sets.length cs], .int .i64 st, .int .i64 (rst (ruleOf S a) a.num), .int .i64 set, .int .i64 rule] x.val fun e w' => e = .returned (.bool (usedF k S (askRst S a st) set rule)) ∧ Below x.val.heap.size x.val w' := fun x => by
                  have hq := askRst_right hS HAR.out HM.out rfl
                  exact HIH.out (askRst S a st) hq.1 (by have := hq.2; simp only at this; omega) _ _ _ x.val (HP3.out.keep (bThen hb4 x.2))
                clear hqq
                cases hu : usedF k S (askRst S a st) set rule
                all_goals
                  rw [hu] at hrec
                · have HGP : Hid (g ⟨4, term, st, below⟩ = false) := Lib.hid (by rw [HG.out]; simp [usedP, hu])
                  clear hu hr0
                  go_wp2_with fail
                  (refine wp_region_below (by kernel_rfl) (by kernel_rfl) ?_; (repeat (first | go_big_quiet_step ((go_at_call 65; exact toB hrec _)) | quiet_step ((go_at_call 65; exact toB hrec _)))); (refine wpQuiet_nil ?_; intro _ hw'; obtain ⟨xq, hw''⟩ := hw'; subst hw''))
                  clear hrec
                  have hb5 := xq.2
                  generalize xq.val = W5 at *
                  replace HBx := Lib.hid (bThen HBx.out hb5)
                  go_wp2_with fail
                  go_roundw
                  case rel => exact ⟨j + 1, by omega, by go_num, Lib.hid (by rw [HTK.out, HNO.out, HGP.out]; rfl), Lib.hid (bThen HBr.out HBx.out)⟩
                  case measure => simp [intOf]; omega
                · have HGP : Hid (g ⟨4, term, st, below⟩ = true) := Lib.hid (by rw [HG.out]; simp [usedP, hu, hr0])
                  clear hu hr0
                  go_wp2_with fail
                  (refine wp_region_below (by kernel_rfl) (by kernel_rfl) ?_; (repeat (first | go_big_quiet_step ((go_at_call 65; exact toB hrec _)) | quiet_step ((go_at_call 65; exact toB hrec _)))); (refine wpQuiet_nil ?_; intro _ hw'; obtain ⟨xq, hw''⟩ := hw'; subst hw''))
                  clear hrec
                  have hb5 := xq.2
                  generalize xq.val = W5 at *
                  replace HBx := Lib.hid (bThen HBx.out hb5)
                  go_wp2_with fail
                  go_ret
                  exact ⟨ret_bool (by rw [HU.out, HHIT.out HGP.out]), bThen (bThen HB2.out HBr.out) HBx.out⟩
            · subst h
              have HGP : Hid (g ⟨5, term, st, below⟩ = false) := Lib.hid (by rw [HG.out]; simp [usedP])
              (refine wp_region_below (by kernel_rfl) (by kernel_rfl) ?_; (repeat (first | go_big_quiet_step (fail) | quiet_step (fail))); (refine wpQuiet_nil ?_; intro _ hw'; obtain ⟨xq, hw''⟩ := hw'; subst hw''))
              have hb4 := xq.2
              generalize xq.val = W4 at *
              replace s0 := keep hb4 s0
              replace s1 := keep hb4 s1
              replace s2 := keep hb4 s2
              replace s3 := keep hb4 s3
              replace s4 := keep hb4 s4
              replace s5 := keep hb4 s5
              replace s6 := keep hb4 s6
              replace q1 := keep hb4 q1
              replace p0 := keep hb4 p0
              replace p2 := keep hb4 p2
              replace HBx := Lib.hid (bThen HBx.out hb4)
              replace hpl0 := cell_lt p0
              replace hsl := cell_lt s0
              replace hql := cell_lt q1
              go_wp2_with fail
              (refine wp_region_below (by kernel_rfl) (by kernel_rfl) ?_; (repeat (first | go_big_quiet_step (fail) | quiet_step (fail))); (refine wpQuiet_nil ?_; intro _ hw'; obtain ⟨xq, hw''⟩ := hw'; subst hw''))
              have hb5 := xq.2
              generalize xq.val = W5 at *
              replace HBx := Lib.hid (bThen HBx.out hb5)
              go_wp2_with fail
              go_roundw
              case rel => exact ⟨j + 1, by omega, by go_num, Lib.hid (by rw [HTK.out, HNO.out, HGP.out]; rfl), Lib.hid (bThen HBr.out HBx.out)⟩
              case measure => simp [intOf]; omega
          · obtain rfl : j = (ruleOf S a).pieces.length := by omega
            go_wp2_with fail
            go_ret
            exact ⟨ret_bool (by rw [HU.out]; have := HNO.out; rw [List.take_length] at this; rw [this]), bThen HB2.out HBr.out⟩
      · have e1 : (a.set == set) = false := by simp [h1]
        clear hhit h1
        go_enter Try.func65, Try.ntmps65
        go_upto_region 1 with fail
        generalize hW1 : World.alloc w _ = W1
        have hbn : Below w.heap.size w W1 := by rw [← hW1]; exact bAlloc (Below.refl _ _) _
        have s0 : W1.cell? ⟨w.heap.size, 0, none⟩ = some (.int .i64 S.top) := by rw [← hW1]; exact cell_new rfl
        have s1 : W1.cell? ⟨w.heap.size, 1, none⟩ = some (.int .i64 S.genders) := by rw [← hW1]; exact cell_new rfl
        have s2 : W1.cell? ⟨w.heap.size, 2, none⟩ = some (.int .i64 S.cases) := by rw [← hW1]; exact cell_new rfl
        have s3 : W1.cell? ⟨w.heap.size, 3, none⟩ = some (.int .i64 S.classes) := by rw [← hW1]; exact cell_new rfl
        have s4 : W1.cell? ⟨w.heap.size, 4, none⟩ = some (.slice at_ S.terms.length ct) := by rw [← hW1]; exact cell_new rfl
        have s5 : W1.cell? ⟨w.heap.size, 5, none⟩ = some (.slice ap S.plurals.length cp) := by rw [← hW1]; exact cell_new rfl
        have s6 : W1.cell? ⟨w.heap.size, 6, none⟩ = some (.slice (some ⟨xb, xo, none⟩) S.sets.length cs) := by rw [← hW1]; exact cell_new rfl
        replace c0 := keep hbn c0
        replace r0 := keep hbn r0
        replace r1 := keep hbn r1
        replace r2 := keep hbn r2
        have HB1 := Lib.hid hbn
        have HLc := Lib.hid (HLV.out.keep RulAt.stable hbn)
        clear hW1 hbn
        have hsl := cell_lt s0
        have hxb := cell_lt c0
        have hlb := cell_lt r0
        go_upto_region 5 with (go_at_call 26; refine (Index_any l a.num _ _ HLc.out).mono ?_; rintro e w' ⟨rfl, rfl⟩; rw [HX.out])
        generalize hW2 : World.alloc W1 _ = W2
        have hb : Below W1.heap.size W1 W2 := by rw [← hW2]; exact bAlloc (Below.refl _ _) _
        have q1 : W2.cell? ⟨W1.heap.size, 1, none⟩ = some (.int .i64 (ruleOf S a).div) := by rw [← hW2]; exact cell_new rfl
        have q2 : W2.cell? ⟨W1.heap.size, 2, none⟩ = some (.slice pa (ruleOf S a).pieces.length pcap) := by rw [← hW2]; exact cell_new rfl
        replace s0 := keep hb s0
        replace s1 := keep hb s1
        replace s2 := keep hb s2
        replace s3 := keep hb s3
        replace s4 := keep hb s4
        replace s5 := keep hb s5
        replace s6 := keep hb s6
        have HB2 := Lib.hid (bThen HB1.out hb)
        clear hW2 hb c0 r0 r1 r2 hxb hlb
        have hsl := cell_lt s0
        have hql := cell_lt q1
        generalize W1.heap.size = rb at *
        go_wp2_with fail
        go_loopw [13] (fun v wr => ∃ j : Nat, j ≤ (ruleOf S a).pieces.length ∧ v = .int .i64 j ∧ Hid (((ruleOf S a).pieces.take j).any g = false) ∧ Hid (Below W2.heap.size W2 wr)) (fun v _ => (ruleOf S a).pieces.length - (intOf v).toNat)
        case atStart => exact ⟨0, Nat.zero_le _, rfl, Lib.hid (by simp), Lib.hid (Below.refl _ _)⟩
        case round =>
          obtain ⟨j, hj, rfl, HNO, HBr⟩ := hrel
          replace q1 := keep HBr.out q1
          replace q2 := keep HBr.out q2
          have hql := cell_lt q1
          by_cases hlt : j < (ruleOf S a).pieces.length
          · rcases hpx with hnil | ⟨pb, po, rfl, hpp⟩
            · simp [hnil] at hlt
            obtain ⟨z0, z1, z2, z3⟩ := hpp j hlt
            replace z0 := keep (bThen HB2.out HBr.out) z0
            replace z1 := keep (bThen HB2.out HBr.out) z1
            replace z2 := keep (bThen HB2.out HBr.out) z2
            replace z3 := keep (bThen HB2.out HBr.out) z3
            have hpb := cell_lt z0
            replace s0 := keep HBr.out s0
            replace s1 := keep HBr.out s1
            replace s2 := keep HBr.out s2
            replace s3 := keep HBr.out s3
            replace s4 := keep HBr.out s4
            replace s5 := keep HBr.out s5
            replace s6 := keep HBr.out s6
            have hsl := cell_lt s0
            have hok := HRR.out.piece _ (List.getElem_mem hlt)
            have hkind := pce_kind hok
            have HM := Lib.hid (List.getElem_mem hlt)
            have HTK := Lib.hid (any_take_succ g _ j hlt)
            have HHIT := Lib.hid (any_hit g _ j hlt)
            obtain ⟨pc, hpc⟩ : ∃ pc, pc = (ruleOf S a).pieces[j] := ⟨_, rfl⟩
            rw [← hpc] at z0 z1 z2 z3 hok hkind HM HTK HHIT
            clear hpp hpc
            have HOK := Lib.hid hok
            clear hok
            go_upto_region 9 with fail
            generalize hW3 : World.alloc wr _ = W3
            have hb : Below wr.heap.size wr W3 := by rw [← hW3]; exact bAlloc (Below.refl _ _) _
            have p0 : W3.cell? ⟨wr.heap.size, 0, none⟩ = some (.int .i64 pc.kind) := by rw [← hW3]; exact cell_new rfl
            have p2 : W3.cell? ⟨wr.heap.size, 2, none⟩ = some (.int .i64 pc.set) := by rw [← hW3]; exact cell_new rfl
            replace s0 := keep hb s0
            replace s1 := keep hb s1
            replace s2 := keep hb s2
            replace s3 := keep hb s3
            replace s4 := keep hb s4
            replace s5 := keep hb s5
            replace s6 := keep hb s6
            replace q1 := keep hb q1
            have HBx := Lib.hid hb
            have HP3 := Lib.hid (HP.out.keep (bThen (bThen HB2.out HBr.out) hb))
            clear hW3 hb z0 z1 z2 z3 hpb
            have hpl0 := cell_lt p0
            have hsl := cell_lt s0
            have hql := cell_lt q1
            obtain ⟨kind, term, st, below⟩ := pc
            simp only at hkind p0 p2
            rcases hkind with h | h | h | h | h
            · subst h
              have HGP : Hid (g ⟨1, term, st, below⟩ = false) := Lib.hid (by rw [HG.out]; simp [usedP])
              (refine wp_region_below (by kernel_rfl) (by kernel_rfl) ?_; (repeat (first | go_big_quiet_step (fail) | quiet_step (fail))); (refine wpQuiet_nil ?_; intro _ hw'; obtain ⟨xq, hw''⟩ := hw'; subst hw''))
              have hb4 := xq.2
              generalize xq.val = W4 at *
              replace s0 := keep hb4 s0
              replace s1 := keep hb4 s1
              replace s2 := keep hb4 s2
              replace s3 := keep hb4 s3
              replace s4 := keep hb4 s4
              replace s5 := keep hb4 s5
              replace s6 := keep hb4 s6
              replace q1 := keep hb4 q1
              replace p0 := keep hb4 p0
              replace p2 := keep hb4 p2
              replace HBx := Lib.hid (bThen HBx.out hb4)
              replace hpl0 := cell_lt p0
              replace hsl := cell_lt s0
              replace hql := cell_lt q1
              go_wp2_with fail
              (refine wp_region_below (by kernel_rfl) (by kernel_rfl) ?_; (repeat (first | go_big_quiet_step (fail) | quiet_step (fail))); (refine wpQuiet_nil ?_; intro _ hw'; obtain ⟨xq, hw''⟩ := hw'; subst hw''))
              have hb5 := xq.2
              generalize xq.val = W5 at *
              replace HBx := Lib.hid (bThen HBx.out hb5)
              go_wp2_with fail
              go_roundw
              case rel => exact ⟨j + 1, by omega, by go_num, Lib.hid (by rw [HTK.out, HNO.out, HGP.out]; rfl), Lib.hid (bThen HBr.out HBx.out)⟩
              case measure => simp [intOf]; omega
            · subst h
              have HGP : Hid (g ⟨2, term, st, below⟩ = false) := Lib.hid (by rw [HG.out]; simp [usedP])
              (refine wp_region_below (by kernel_rfl) (by kernel_rfl) ?_; (repeat (first | go_big_quiet_step (fail) | quiet_step (fail))); (refine wpQuiet_nil ?_; intro _ hw'; obtain ⟨xq, hw''⟩ := hw'; subst hw''))
              have hb4 := xq.2
              generalize xq.val = W4 at *
              replace s0 := keep hb4 s0
              replace s1 := keep hb4 s1
              replace s2 := keep hb4 s2
              replace s3 := keep hb4 s3
              replace s4 := keep hb4 s4
              replace s5 := keep hb4 s5
              replace s6 := keep hb4 s6
              replace q1 := keep hb4 q1
              replace p0 := keep hb4 p0
              replace p2 := keep hb4 p2
              replace HBx := Lib.hid (bThen HBx.out hb4)
              replace hpl0 := cell_lt p0
              replace hsl := cell_lt s0
              replace hql := cell_lt q1
              go_wp2_with fail
              (refine wp_region_below (by kernel_rfl) (by kernel_rfl) ?_; (repeat (first | go_big_quiet_step (fail) | quiet_step (fail))); (refine wpQuiet_nil ?_; intro _ hw'; obtain ⟨xq, hw''⟩ := hw'; subst hw''))
              have hb5 := xq.2
              generalize xq.val = W5 at *
              replace HBx := Lib.hid (bThen HBx.out hb5)
              go_wp2_with fail
              go_roundw
              case rel => exact ⟨j + 1, by omega, by go_num, Lib.hid (by rw [HTK.out, HNO.out, HGP.out]; rfl), Lib.hid (bThen HBr.out HBx.out)⟩
              case measure => simp [intOf]; omega
            · subst h
              have hdz : (ruleOf S a).div ≠ 0 := pce_div HOK.out (by simp)
              have hzz : ((ruleOf S a).div == 0) = false := by simp [hdz]
              have hqq := quo_lt HRR.out hdz
              have e3 : a.num.tdiv (ruleOf S a).div = quo (ruleOf S a) a.num := by rw [quo, if_neg hdz]; exact Int.tdiv_eq_ediv_of_nonneg hnum
              have w3 : IntKind.i64.wrap (quo (ruleOf S a) a.num) = quo (ruleOf S a) a.num := IntWalk.i64_in _ (by omega)
              have hrec : ∀ x : BW W3, Calls Try.prog 65 #[.agg #[.int .i64 S.top, .int .i64 S.genders, .int .i64 S.cases, .int .i64 S.classes, .slice at_ S.terms.length ct, .slice ap S.plurals.length cp, .slice (some ⟨xb, xo, none⟩) S.sets.length cs], .int .i64 st, .int .i64 (quo (ruleOf S a) a.num), .int .i64 set, .int .i64 rule] x.val fun e w' => e = .returned (.bool (usedF k S (askQuo S a st) set rule)) ∧ Below x.val.heap.size x.val w' := fun x => by
                have hq := askQuo_right hS HAR.out HM.out rfl
                exact HIH.out (askQuo S a st) hq.1 (by have := hq.2; simp only at this; omega) _ _ _ x.val (HP3.out.keep x.2)
              clear hqq
              cases hu : usedF k S (askQuo S a st) set rule
              all_goals
                rw [hu] at hrec
              · have HGP : Hid (g ⟨3, term, st, below⟩ = false) := Lib.hid (by rw [HG.out]; simp [usedP, hu])
                clear hu
                (refine wp_region_below (by kernel_rfl) (by kernel_rfl) ?_; (repeat (first | go_big_quiet_step ((go_at_call 65; exact toB hrec _)) | quiet_step ((go_at_call 65; exact toB hrec _)))); (refine wpQuiet_nil ?_; intro _ hw'; obtain ⟨xq, hw''⟩ := hw'; subst hw''))
                clear hrec
                have hb4 := xq.2
                generalize xq.val = W4 at *
                replace s0 := keep hb4 s0
                replace s1 := keep hb4 s1
                replace s2 := keep hb4 s2
                replace s3 := keep hb4 s3
                replace s4 := keep hb4 s4
                replace s5 := keep hb4 s5
                replace s6 := keep hb4 s6
                replace q1 := keep hb4 q1
                replace p0 := keep hb4 p0
                replace p2 := keep hb4 p2
                replace HBx := Lib.hid (bThen HBx.out hb4)
                replace hpl0 := cell_lt p0
                replace hsl := cell_lt s0
                replace hql := cell_lt q1
                go_wp2_with fail
                (refine wp_region_below (by kernel_rfl) (by kernel_rfl) ?_; (repeat (first | go_big_quiet_step (fail) | quiet_step (fail))); (refine wpQuiet_nil ?_; intro _ hw'; obtain ⟨xq, hw''⟩ := hw'; subst hw''))
                have hb5 := xq.2
                generalize xq.val = W5 at *
                replace HBx := Lib.hid (bThen HBx.out hb5)
                go_wp2_with fail
                go_roundw
                case rel => exact ⟨j + 1, by omega, by go_num, Lib.hid (by rw [HTK.out, HNO.out, HGP.out]; rfl), Lib.hid (bThen HBr.out HBx.out)⟩
                case measure => simp [intOf]; omega
              · have HGP : Hid (g ⟨3, term, st, below⟩ = true) := Lib.hid (by rw [HG.out]; simp [usedP, hu])
                clear hu
                (refine wp_region_below (by kernel_rfl) (by kernel_rfl) ?_; (repeat (first | go_big_quiet_step ((go_at_call 65; exact toB hrec _)) | quiet_step ((go_at_call 65; exact toB hrec _)))); (refine wpQuiet_nil ?_; intro _ hw'; obtain ⟨xq, hw''⟩ := hw'; subst hw''))
                clear hrec
                have hb4 := xq.2
                generalize xq.val = W4 at *
                replace s0 := keep hb4 s0
                replace s1 := keep hb4 s1
                replace s2 := keep hb4 s2
                replace s3 := keep hb4 s3
                replace s4 := keep hb4 s4
                replace s5 := keep hb4 s5
                replace s6 := keep hb4 s6
                replace q1 := keep hb4 q1
                replace p0 := keep hb4 p0
                replace p2 := keep hb4 p2
                replace HBx := Lib.hid (bThen HBx.out hb4)
                replace hpl0 := cell_lt p0
                replace hsl := cell_lt s0
                replace hql := cell_lt q1
                go_wp2_with fail
                go_ret
                exact ⟨ret_bool (by rw [HU.out, HHIT.out HGP.out]), bThen (bThen HB2.out HBr.out) HBx.out⟩
            · subst h
              have hdz : (ruleOf S a).div ≠ 0 := pce_div HOK.out (by simp)
              have hzz : ((ruleOf S a).div == 0) = false := by simp [hdz]
              have hqq := quo_lt HRR.out hdz
              have e3 : a.num.tmod (ruleOf S a).div = rst (ruleOf S a) a.num := by rw [rst, if_neg hdz]; exact Int.tmod_eq_emod_of_nonneg hnum
              have w3 : IntKind.i64.wrap (rst (ruleOf S a) a.num) = rst (ruleOf S a) a.num := IntWalk.i64_in _ (by omega)
              (refine wp_region_below (by kernel_rfl) (by kernel_rfl) ?_; (repeat (first | go_big_quiet_step (fail) | quiet_step (fail))); (refine wpQuiet_nil ?_; intro _ hw'; obtain ⟨xq, hw''⟩ := hw'; subst hw''))
              have hb4 := xq.2
              generalize xq.val = W4 at *
              replace s0 := keep hb4 s0
              replace s1 := keep hb4 s1
              replace s2 := keep hb4 s2
              replace s3 := keep hb4 s3
              replace s4 := keep hb4 s4
              replace s5 := keep hb4 s5
              replace s6 := keep hb4 s6
              replace q1 := keep hb4 q1
              replace p0 := keep hb4 p0
              replace p2 := keep hb4 p2
              replace HBx := Lib.hid (bThen HBx.out hb4)
              replace hpl0 := cell_lt p0
              replace hsl := cell_lt s0
              replace hql := cell_lt q1
              by_cases hr0 : rst (ruleOf S a) a.num = 0
              · have d1 : decide (0 < rst (ruleOf S a) a.num) = false := by simp [hr0]
                have HGP : Hid (g ⟨4, term, st, below⟩ = false) := Lib.hid (by rw [HG.out]; simp [usedP, hr0])
                clear hr0 hqq
                go_wp2_with fail
                (refine wp_region_below (by kernel_rfl) (by kernel_rfl) ?_; (repeat (first | go_big_quiet_step (fail) | quiet_step (fail))); (refine wpQuiet_nil ?_; intro _ hw'; obtain ⟨xq, hw''⟩ := hw'; subst hw''))
                have hb5 := xq.2
                generalize xq.val = W5 at *
                replace HBx := Lib.hid (bThen HBx.out hb5)
                go_wp2_with fail
                go_roundw
                case rel => exact ⟨j + 1, by omega, by go_num, Lib.hid (by rw [HTK.out, HNO.out, HGP.out]; rfl), Lib.hid (bThen HBr.out HBx.out)⟩
                case measure => simp [intOf]; omega
              · have d1 : decide (0 < rst (ruleOf S a) a.num) = true := by simp; omega
                have hrec : ∀ x : BW W4, Calls Try.prog 65 #[.agg #[.int .i64 S.top, .int .i64 S.genders, .int .i64 S.cases, .int .i64 S.classes, .slice at_ S.terms.length ct, .slice ap S.plurals.length cp, .slice (some ⟨xb, xo, none⟩) S.sets.length cs], .int .i64 st, .int .i64 (rst (ruleOf S a) a.num), .int .i64 set, .int .i64 rule] x.val fun e w' => e = .returned (.bool (usedF k S (askRst S a st) set rule)) ∧ Below x.val.heap.size x.val w' := fun x => by
                  have hq := askRst_right hS HAR.out HM.out rfl
                  exact HIH.out (askRst S a st) hq.1 (by have := hq.2; simp only at this; omega) _ _ _ x.val (HP3.out.keep (bThen hb4 x.2))
                clear hqq
                cases hu : usedF k S (askRst S a st) set rule
                all_goals
                  rw [hu] at hrec
                · have HGP : Hid (g ⟨4, term, st, below⟩ = false) := Lib.hid (by rw [HG.out]; simp [usedP, hu])
                  clear hu hr0
                  go_wp2_with fail
                  (refine wp_region_below (by kernel_rfl) (by kernel_rfl) ?_; (repeat (first | go_big_quiet_step ((go_at_call 65; exact toB hrec _)) | quiet_step ((go_at_call 65; exact toB hrec _)))); (refine wpQuiet_nil ?_; intro _ hw'; obtain ⟨xq, hw''⟩ := hw'; subst hw''))
                  clear hrec
                  have hb5 := xq.2
                  generalize xq.val = W5 at *
                  replace HBx := Lib.hid (bThen HBx.out hb5)
                  go_wp2_with fail
                  go_roundw
                  case rel => exact ⟨j + 1, by omega, by go_num, Lib.hid (by rw [HTK.out, HNO.out, HGP.out]; rfl), Lib.hid (bThen HBr.out HBx.out)⟩
                  case measure => simp [intOf]; omega
                · have HGP : Hid (g ⟨4, term, st, below⟩ = true) := Lib.hid (by rw [HG.out]; simp [usedP, hu, hr0])
                  clear hu hr0
                  go_wp2_with fail
                  (refine wp_region_below (by kernel_rfl) (by kernel_rfl) ?_; (repeat (first | go_big_quiet_step ((go_at_call 65; exact toB hrec _)) | quiet_step ((go_at_call 65; exact toB hrec _)))); (refine wpQuiet_nil ?_; intro _ hw'; obtain ⟨xq, hw''⟩ := hw'; subst hw''))
                  clear hrec
                  have hb5 := xq.2
                  generalize xq.val = W5 at *
                  replace HBx := Lib.hid (bThen HBx.out hb5)
                  go_wp2_with fail
                  go_ret
                  exact ⟨ret_bool (by rw [HU.out, HHIT.out HGP.out]), bThen (bThen HB2.out HBr.out) HBx.out⟩
            · subst h
              have HGP : Hid (g ⟨5, term, st, below⟩ = false) := Lib.hid (by rw [HG.out]; simp [usedP])
              (refine wp_region_below (by kernel_rfl) (by kernel_rfl) ?_; (repeat (first | go_big_quiet_step (fail) | quiet_step (fail))); (refine wpQuiet_nil ?_; intro _ hw'; obtain ⟨xq, hw''⟩ := hw'; subst hw''))
              have hb4 := xq.2
              generalize xq.val = W4 at *
              replace s0 := keep hb4 s0
              replace s1 := keep hb4 s1
              replace s2 := keep hb4 s2
              replace s3 := keep hb4 s3
              replace s4 := keep hb4 s4
              replace s5 := keep hb4 s5
              replace s6 := keep hb4 s6
              replace q1 := keep hb4 q1
              replace p0 := keep hb4 p0
              replace p2 := keep hb4 p2
              replace HBx := Lib.hid (bThen HBx.out hb4)
              replace hpl0 := cell_lt p0
              replace hsl := cell_lt s0
              replace hql := cell_lt q1
              go_wp2_with fail
              (refine wp_region_below (by kernel_rfl) (by kernel_rfl) ?_; (repeat (first | go_big_quiet_step (fail) | quiet_step (fail))); (refine wpQuiet_nil ?_; intro _ hw'; obtain ⟨xq, hw''⟩ := hw'; subst hw''))
              have hb5 := xq.2
              generalize xq.val = W5 at *
              replace HBx := Lib.hid (bThen HBx.out hb5)
              go_wp2_with fail
              go_roundw
              case rel => exact ⟨j + 1, by omega, by go_num, Lib.hid (by rw [HTK.out, HNO.out, HGP.out]; rfl), Lib.hid (bThen HBr.out HBx.out)⟩
              case measure => simp [intOf]; omega
          · obtain rfl : j = (ruleOf S a).pieces.length := by omega
            go_wp2_with fail
            go_ret
            exact ⟨ret_bool (by rw [HU.out]; have := HNO.out; rw [List.take_length] at this; rw [this]), bThen HB2.out HBr.out⟩
end Go.Proofs.Ytfcopnlpcbbocaa
