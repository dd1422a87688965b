/- Contracts: for which numbers a rule is used, by the program and by the specification. -/
import Derived.Test.YtfcopnlpcbbocaaR7
set_option linter.unusedSimpArgs false
set_option linter.unusedVariables false
namespace Go.Proofs.Ytfcopnlpcbbocaa
open Go.RowKit

/-- Is a rule used for a piece of a number, .. -/
def usedP (rc : Ask → Bool) (S : Sys) (a : Ask) (p : Pce) : Bool :=
  if p.kind = 3 then rc (askQuo S a p.set) else if p.kind = 4 then (!decide (rst (ruleOf S a) a.num = 0) && rc (askRst S a p.set)) else false
/-- .. and for a number. -/
def usedF : Nat → Sys → Ask → Int → Int → Bool
  | 0, _, _, _, _ => false
  | k + 1, S, a, set, rule => (decide (a.set = set) && decide ((idxOf S a : Int) = rule)) || (ruleOf S a).pieces.any (usedP (fun b => usedF k S b set rule) S a)
theorem or_miss {x y u v : Int} (h : ¬ (x = y ∧ u = v)) (b : Bool) : ((decide (x = y) && decide (u = v)) || b) = b := by
  by_cases h1 : x = y <;> by_cases h2 : u = v <;> simp_all
theorem any_take_succ {α : Type} (g : α → Bool) (l : List α) (k : Nat) (h : k < l.length) : (l.take (k + 1)).any g = ((l.take k).any g || g l[k]) := by
  rw [take_succ l k h, List.any_append]; simp
theorem any_hit {α : Type} (g : α → Bool) (l : List α) (k : Nat) (h : k < l.length) (hg : g l[k] = true) : l.any g = true := List.any_eq_true.2 ⟨_, List.getElem_mem h, hg⟩

set_option maxRecDepth 100000 in
set_option maxHeartbeats 8000000 in
theorem uses_any (S : Sys) (hS : Right S) (sb : Nat) (set rule : Int) :
    ∀ (k : Nat) (a : Ask) (w : World), AskRight S a → a.num < k → SplAt w sb S →
      Calls Try.prog 64 #[.pointer (some ⟨sb, 0, none⟩), a.val, .int .i64 set, .int .i64 rule] w fun e w' => e = .returned (.bool (usedF k S a set rule)) ∧ Below w.heap.size w w' := by
  intro k
  induction k with
  | zero => intro a w ha h; have := ha.num; omega
  | succ k ih =>
    intro a w ha hk hs
    have HIH := Lib.hid ih
    clear ih
    have HS := Lib.hid hs
    have HAR := Lib.hid ha
    obtain ⟨-, -, -, -, -, -, hrr⟩ := rule_right hS ha
    have HRR := Lib.hid hrr
    have hfew := hrr.few
    have HTA := Lib.hid (fun (W' : World) (hB : Below w.heap.size w W') => takeApart_any S a 0 sb w W' hB hs hS ha)
    have HUF : Hid (usedF (k + 1) S a set rule = ((decide (a.set = set) && decide ((idxOf S a : Int) = rule)) || (ruleOf S a).pieces.any (usedP (fun b => usedF k S b set rule) S a))) := Lib.hid rfl
    clear hs ha hrr
    unfold Ask.val at HTA
    unfold Ask.val
    obtain ⟨g, hg⟩ : ∃ g, g = usedP (fun b => usedF k S b set rule) S a := ⟨_, rfl⟩
    rw [← hg] at HUF
    have HG := Lib.hid hg
    clear hg
    by_cases hhit : a.set = set ∧ (idxOf S a : Int) = rule
    · have e1 : (a.set == set) = true := by simp [hhit.1]
      have e2 : ((idxOf S a : Int) == rule) = true := by simp [hhit.2]
      have HU : Hid (usedF (k + 1) S a set rule = true) := Lib.hid (by rw [HUF.out]; simp [hhit.1, hhit.2])
      clear hhit
      go_enter Try.func64, Try.ntmps64
      go_wp2_with (go_at_call 88; have q1 : (w.alloc (.cells #[.int .i64 a.num, .int .i64 a.set, .int .i64 a.gen, .int .i64 a.kas] 36)).cell? ⟨w.heap.size, 1, none⟩ = some (.int .i64 a.set) := cell_new rfl; refine (HTA.out _ (by exact bAlloc (Below.refl _ _) _)).mono ?_; rintro e w2 ⟨⟨b, rfl, hpart, -, -⟩, hb⟩; replace q1 := keep hb q1; have HB := Lib.hid (bThen (bAlloc (Below.refl _ _) _) hb); have HPA := Lib.hid hpart; obtain ⟨r0, -, -, -, -, r5, -, -, ⟨pv, r8, hpv⟩, -, r10, -⟩ := hpart; have HPV := Lib.hid hpv; obtain ⟨pa, pcap, rfl, hpl, -⟩ := hpv; unfold most at hpl; have hql := cell_lt q1; have hbl := cell_lt r0; clear hb)
      go_ret
      exact ⟨ret_bool HU.out.symm, HB.out⟩
    · have HU : Hid (usedF (k + 1) S a set rule = (ruleOf S a).pieces.any g) := Lib.hid (HUF.out.trans (or_miss hhit _))
      by_cases h1 : a.set = set
      · have e1 : (a.set == set) = true := by simp [h1]
        have e2 : ((idxOf S a : Int) == rule) = false := by simp; intro h; exact hhit ⟨h1, h⟩
        clear hhit h1
        go_enter Try.func64, Try.ntmps64
        go_wp2_with (go_at_call 88; have q1 : (w.alloc (.cells #[.int .i64 a.num, .int .i64 a.set, .int .i64 a.gen, .int .i64 a.kas] 36)).cell? ⟨w.heap.size, 1, none⟩ = some (.int .i64 a.set) := cell_new rfl; refine (HTA.out _ (by exact bAlloc (Below.refl _ _) _)).mono ?_; rintro e w2 ⟨⟨b, rfl, hpart, -, -⟩, hb⟩; replace q1 := keep hb q1; have HB := Lib.hid (bThen (bAlloc (Below.refl _ _) _) hb); have HPA := Lib.hid hpart; obtain ⟨r0, -, -, -, -, r5, -, -, ⟨pv, r8, hpv⟩, -, r10, -⟩ := hpart; have HPV := Lib.hid hpv; obtain ⟨pa, pcap, rfl, hpl, -⟩ := hpv; unfold most at hpl; have hql := cell_lt q1; have hbl := cell_lt r0; clear hb)
        go_loopw [33] (fun v wr => ∃ j : Nat, j ≤ (ruleOf S a).pieces.length ∧ v = .int .i64 j ∧ Hid (((ruleOf S a).pieces.take j).any g = false) ∧ Hid (Below w2.heap.size w2 wr)) (fun v _ => (ruleOf S a).pieces.length - (intOf v).toNat)
        case atStart => exact ⟨0, Nat.zero_le _, rfl, Lib.hid (by simp), Lib.hid (Below.refl _ _)⟩
        case round =>
          obtain ⟨j, hj, rfl, HNO, HBr⟩ := hrel
          by_cases hlt : j < (ruleOf S a).pieces.length
          · have hne : (ruleOf S a).pieces ≠ [] := by intro h; rw [h] at hlt; simp at hlt
            obtain ⟨pb, po, rfl, hpf⟩ := HPV.out.at hne
            obtain ⟨z0, z1, z2, z3⟩ := hpf j hlt
            replace z0 := keep HBr.out z0
            replace z1 := keep HBr.out z1
            replace z2 := keep HBr.out z2
            replace z3 := keep HBr.out z3
            have hpb := cell_lt z0
            have hok := HRR.out.piece _ (List.getElem_mem hlt)
            have hkind := pce_kind hok
            have HM := Lib.hid (List.getElem_mem hlt)
            have HTK := Lib.hid (any_take_succ g _ j hlt)
            have HHIT := Lib.hid (any_hit g _ j hlt)
            obtain ⟨pc, hpc⟩ : ∃ pc, pc = (ruleOf S a).pieces[j] := ⟨_, rfl⟩
            rw [← hpc] at z0 z1 z2 z3 hok hkind HM HTK HHIT
            clear hpf hne hpc
            replace r10 := keep HBr.out r10
            replace r0 := keep HBr.out r0
            replace hbl := cell_lt r0
            obtain ⟨kind, term, st, below⟩ := pc
            simp only at hkind z0 z2
            rcases hkind with h | h | h | h | h
            · subst h
              have HGP : Hid (g ⟨1, term, st, below⟩ = false) := Lib.hid (by rw [HG.out]; simp [usedP])
              go_wp2_with fail
              go_roundw
              case rel => exact ⟨j + 1, by omega, by go_num, Lib.hid (by rw [HTK.out, HNO.out, HGP.out]; rfl), Lib.hid (bAlloc HBr.out _)⟩
              case measure => simp [intOf]; omega
            · subst h
              have HGP : Hid (g ⟨2, term, st, below⟩ = false) := Lib.hid (by rw [HG.out]; simp [usedP])
              go_wp2_with fail
              go_roundw
              case rel => exact ⟨j + 1, by omega, by go_num, Lib.hid (by rw [HTK.out, HNO.out, HGP.out]; rfl), Lib.hid (bAlloc HBr.out _)⟩
              case measure => simp [intOf]; omega
            · subst h
              have HAQ := Lib.hid (askQuo_right hS HAR.out HM.out rfl)
              have hrec : ∀ W', SplAt W' sb S → Calls Try.prog 64 #[.pointer (some ⟨sb, 0, none⟩), .agg #[.int .i64 (quo (ruleOf S a) a.num), .int .i64 st, .int .i64 (countedGen S (ruleOf S a).pieces a.gen), .int .i64 a.kas], .int .i64 set, .int .i64 rule] W' fun e w' => e = .returned (.bool (usedF k S (askQuo S a st) set rule)) ∧ Below W'.heap.size W' w' := fun W' h => HIH.out (askQuo S a st) W' HAQ.out.1 (by have := HAQ.out.2; simp only at this; omega) h
              have HREC := Lib.hid hrec
              clear hrec
              cases hu : usedF k S (askQuo S a st) set rule
              · have HGP : Hid (g ⟨3, term, st, below⟩ = false) := Lib.hid (by rw [HG.out]; simp [usedP, hu])
                have HUU := Lib.hid hu
                clear hu
                go_wp2_with (first | (go_at_call 89; have hbp := bThen HBr.out (bAlloc (Below.refl wr.heap.size wr) (.cells #[.int .i64 3, .int .i64 term, .int .i64 st, .int .i64 below] 59)); obtain ⟨x0, -, -, x3, x4, -, -, -, ⟨xv, x8, hxv⟩, x9, -, -⟩ := HPA.out.keep hbp; refine (askQuotient_any S a.gen a.kas (quo (ruleOf S a) a.num) st (ruleOf S a).pieces xv b sb _ ((HS.out.keep (bThen HB.out hbp)).1) x0 x9 x3 x4 x8 hxv (fun i h hk => pce_term (HRR.out.piece _ (List.getElem_mem h)) (by simp [hk]))).mono ?_; rintro e w4 ⟨rfl, hb⟩; have HBq := Lib.hid (bThen (bAlloc (Below.refl _ _) _) hb); unfold Ask.val; clear hb hbp x0 x3 x4 x8 hxv x9) | (go_at_call 64; refine (isB (HREC.out _ (by exact HS.out.keep (bThen HB.out (bThen HBr.out HBq.out)))) HUU.out).mono ?_; rintro e w5 ⟨rfl, hb⟩; have HBx := Lib.hid (bThen HBq.out hb); clear hb))
                go_roundw
                case rel => exact ⟨j + 1, by omega, by go_num, Lib.hid (by rw [HTK.out, HNO.out, HGP.out]; rfl), Lib.hid (bThen HBr.out HBx.out)⟩
                case measure => simp [intOf]; omega
              · have HGP : Hid (g ⟨3, term, st, below⟩ = true) := Lib.hid (by rw [HG.out]; simp [usedP, hu])
                have HUU := Lib.hid hu
                clear hu
                go_wp2_with (first | (go_at_call 89; have hbp := bThen HBr.out (bAlloc (Below.refl wr.heap.size wr) (.cells #[.int .i64 3, .int .i64 term, .int .i64 st, .int .i64 below] 59)); obtain ⟨x0, -, -, x3, x4, -, -, -, ⟨xv, x8, hxv⟩, x9, -, -⟩ := HPA.out.keep hbp; refine (askQuotient_any S a.gen a.kas (quo (ruleOf S a) a.num) st (ruleOf S a).pieces xv b sb _ ((HS.out.keep (bThen HB.out hbp)).1) x0 x9 x3 x4 x8 hxv (fun i h hk => pce_term (HRR.out.piece _ (List.getElem_mem h)) (by simp [hk]))).mono ?_; rintro e w4 ⟨rfl, hb⟩; have HBq := Lib.hid (bThen (bAlloc (Below.refl _ _) _) hb); unfold Ask.val; clear hb hbp x0 x3 x4 x8 hxv x9) | (go_at_call 64; refine (isB (HREC.out _ (by exact HS.out.keep (bThen HB.out (bThen HBr.out HBq.out)))) HUU.out).mono ?_; rintro e w5 ⟨rfl, hb⟩; have HBx := Lib.hid (bThen HBq.out hb); clear hb))
                go_ret
                exact ⟨ret_bool (by rw [HU.out, HHIT.out HGP.out]), bThen (bThen HB.out HBr.out) HBx.out⟩
            · subst h
              by_cases hr0 : rst (ruleOf S a) a.num = 0
              · have hrz : (rst (ruleOf S a) a.num == 0) = true := by simp [hr0]
                have hrn : (rst (ruleOf S a) a.num != 0) = false := by simp [hr0]
                have HGP : Hid (g ⟨4, term, st, below⟩ = false) := Lib.hid (by rw [HG.out]; simp [usedP, hr0])
                clear hr0
                go_wp2_with fail
                go_roundw
                case rel => exact ⟨j + 1, by omega, by go_num, Lib.hid (by rw [HTK.out, HNO.out, HGP.out]; rfl), Lib.hid (bAlloc HBr.out _)⟩
                case measure => simp [intOf]; omega
              · have hrz : (rst (ruleOf S a) a.num == 0) = false := by simp [hr0]
                have hrn : (rst (ruleOf S a) a.num != 0) = true := by simp [hr0]
                have HAQ := Lib.hid (askRst_right hS HAR.out HM.out rfl)
                have hrec : ∀ W', SplAt W' sb S → Calls Try.prog 64 #[.pointer (some ⟨sb, 0, none⟩), .agg #[.int .i64 (rst (ruleOf S a) a.num), .int .i64 st, .int .i64 a.gen, .int .i64 a.kas], .int .i64 set, .int .i64 rule] W' fun e w' => e = .returned (.bool (usedF k S (askRst S a st) set rule)) ∧ Below W'.heap.size W' w' := fun W' h => HIH.out (askRst S a st) W' HAQ.out.1 (by have := HAQ.out.2; simp only at this; omega) h
                have HREC := Lib.hid hrec
                clear hrec
                cases hu : usedF k S (askRst S a st) set rule
                · have HGP : Hid (g ⟨4, term, st, below⟩ = false) := Lib.hid (by rw [HG.out]; simp [usedP, hu])
                  have HUU := Lib.hid hu
                  clear hu hr0
                  go_wp2_with (first | (go_at_call 90; have hbp := bThen HBr.out (bAlloc (Below.refl wr.heap.size wr) (.cells #[.int .i64 4, .int .i64 term, .int .i64 st, .int .i64 below] 59)); obtain ⟨-, -, -, x3, x4, -, -, -, -, -, x10, -⟩ := HPA.out.keep hbp; refine (askRest_any a.gen a.kas (rst (ruleOf S a) a.num) st b _ x10 x3 x4).mono ?_; rintro e w4 ⟨rfl, hb⟩; have HBq := Lib.hid (bThen (bAlloc (Below.refl _ _) _) hb); unfold Ask.val; clear hb hbp x3 x4 x10) | (go_at_call 64; refine (isB (HREC.out _ (by exact HS.out.keep (bThen HB.out (bThen HBr.out HBq.out)))) HUU.out).mono ?_; rintro e w5 ⟨rfl, hb⟩; have HBx := Lib.hid (bThen HBq.out hb); clear hb))
                  go_roundw
                  case rel => exact ⟨j + 1, by omega, by go_num, Lib.hid (by rw [HTK.out, HNO.out, HGP.out]; rfl), Lib.hid (bThen HBr.out HBx.out)⟩
                  case measure => simp [intOf]; omega
                · have HGP : Hid (g ⟨4, term, st, below⟩ = true) := Lib.hid (by rw [HG.out]; simp [usedP, hu, hr0])
                  have HUU := Lib.hid hu
                  clear hu hr0
                  go_wp2_with (first | (go_at_call 90; have hbp := bThen HBr.out (bAlloc (Below.refl wr.heap.size wr) (.cells #[.int .i64 4, .int .i64 term, .int .i64 st, .int .i64 below] 59)); obtain ⟨-, -, -, x3, x4, -, -, -, -, -, x10, -⟩ := HPA.out.keep hbp; refine (askRest_any a.gen a.kas (rst (ruleOf S a) a.num) st b _ x10 x3 x4).mono ?_; rintro e w4 ⟨rfl, hb⟩; have HBq := Lib.hid (bThen (bAlloc (Below.refl _ _) _) hb); unfold Ask.val; clear hb hbp x3 x4 x10) | (go_at_call 64; refine (isB (HREC.out _ (by exact HS.out.keep (bThen HB.out (bThen HBr.out HBq.out)))) HUU.out).mono ?_; rintro e w5 ⟨rfl, hb⟩; have HBx := Lib.hid (bThen HBq.out hb); clear hb))
                  go_ret
                  exact ⟨ret_bool (by rw [HU.out, HHIT.out HGP.out]), bThen (bThen HB.out HBr.out) HBx.out⟩
            · subst h
              have HGP : Hid (g ⟨5, term, st, below⟩ = false) := Lib.hid (by rw [HG.out]; simp [usedP])
              go_wp2_with fail
              go_roundw
              case rel => exact ⟨j + 1, by omega, by go_num, Lib.hid (by rw [HTK.out, HNO.out, HGP.out]; rfl), Lib.hid (bAlloc HBr.out _)⟩
              case measure => simp [intOf]; omega
          · obtain rfl : j = (ruleOf S a).pieces.length := by omega
            go_wp2_with fail
            go_ret
            exact ⟨ret_bool (by rw [HU.out]; have := HNO.out; rw [List.take_length] at this; rw [this]), bThen HB.out HBr.out⟩
      · have e1 : (a.set == set) = false := by simp [h1]
        clear hhit h1
        go_enter Try.func64, Try.ntmps64
        go_wp2_with (go_at_call 88; have q1 : (w.alloc (.cells #[.int .i64 a.num, .int .i64 a.set, .int .i64 a.gen, .int .i64 a.kas] 36)).cell? ⟨w.heap.size, 1, none⟩ = some (.int .i64 a.set) := cell_new rfl; refine (HTA.out _ (by exact bAlloc (Below.refl _ _) _)).mono ?_; rintro e w2 ⟨⟨b, rfl, hpart, -, -⟩, hb⟩; replace q1 := keep hb q1; have HB := Lib.hid (bThen (bAlloc (Below.refl _ _) _) hb); have HPA := Lib.hid hpart; obtain ⟨r0, -, -, -, -, r5, -, -, ⟨pv, r8, hpv⟩, -, r10, -⟩ := hpart; have HPV := Lib.hid hpv; obtain ⟨pa, pcap, rfl, hpl, -⟩ := hpv; unfold most at hpl; have hql := cell_lt q1; have hbl := cell_lt r0; clear hb)
        go_loopw [33] (fun v wr => ∃ j : Nat, j ≤ (ruleOf S a).pieces.length ∧ v = .int .i64 j ∧ Hid (((ruleOf S a).pieces.take j).any g = false) ∧ Hid (Below w2.heap.size w2 wr)) (fun v _ => (ruleOf S a).pieces.length - (intOf v).toNat)
        case atStart => exact ⟨0, Nat.zero_le _, rfl, Lib.hid (by simp), Lib.hid (Below.refl _ _)⟩
        case round =>
          obtain ⟨j, hj, rfl, HNO, HBr⟩ := hrel
          by_cases hlt : j < (ruleOf S a).pieces.length
          · have hne : (ruleOf S a).pieces ≠ [] := by intro h; rw [h] at hlt; simp at hlt
            obtain ⟨pb, po, rfl, hpf⟩ := HPV.out.at hne
            obtain ⟨z0, z1, z2, z3⟩ := hpf j hlt
            replace z0 := keep HBr.out z0
            replace z1 := keep HBr.out z1
            replace z2 := keep HBr.out z2
            replace z3 := keep HBr.out z3
            have hpb := cell_lt z0
            have hok := HRR.out.piece _ (List.getElem_mem hlt)
            have hkind := pce_kind hok
            have HM := Lib.hid (List.getElem_mem hlt)
            have HTK := Lib.hid (any_take_succ g _ j hlt)
            have HHIT := Lib.hid (any_hit g _ j hlt)
            obtain ⟨pc, hpc⟩ : ∃ pc, pc = (ruleOf S a).pieces[j] := ⟨_, rfl⟩
            rw [← hpc] at z0 z1 z2 z3 hok hkind HM HTK HHIT
            clear hpf hne hpc
            replace r10 := keep HBr.out r10
            replace r0 := keep HBr.out r0
            replace hbl := cell_lt r0
            obtain ⟨kind, term, st, below⟩ := pc
            simp only at hkind z0 z2
            rcases hkind with h | h | h | h | h
            · subst h
              have HGP : Hid (g ⟨1, term, st, below⟩ = false) := Lib.hid (by rw [HG.out]; simp [usedP])
              go_wp2_with fail
              go_roundw
              case rel => exact ⟨j + 1, by omega, by go_num, Lib.hid (by rw [HTK.out, HNO.out, HGP.out]; rfl), Lib.hid (bAlloc HBr.out _)⟩
              case measure => simp [intOf]; omega
            · subst h
              have HGP : Hid (g ⟨2, term, st, below⟩ = false) := Lib.hid (by rw [HG.out]; simp [usedP])
              go_wp2_with fail
              go_roundw
              case rel => exact ⟨j + 1, by omega, by go_num, Lib.hid (by rw [HTK.out, HNO.out, HGP.out]; rfl), Lib.hid (bAlloc HBr.out _)⟩
              case measure => simp [intOf]; omega
            · subst h
              have HAQ := Lib.hid (askQuo_right hS HAR.out HM.out rfl)
              have hrec : ∀ W', SplAt W' sb S → Calls Try.prog 64 #[.pointer (some ⟨sb, 0, none⟩), .agg #[.int .i64 (quo (ruleOf S a) a.num), .int .i64 st, .int .i64 (countedGen S (ruleOf S a).pieces a.gen), .int .i64 a.kas], .int .i64 set, .int .i64 rule] W' fun e w' => e = .returned (.bool (usedF k S (askQuo S a st) set rule)) ∧ Below W'.heap.size W' w' := fun W' h => HIH.out (askQuo S a st) W' HAQ.out.1 (by have := HAQ.out.2; simp only at this; omega) h
              have HREC := Lib.hid hrec
              clear hrec
              cases hu : usedF k S (askQuo S a st) set rule
              · have HGP : Hid (g ⟨3, term, st, below⟩ = false) := Lib.hid (by rw [HG.out]; simp [usedP, hu])
                have HUU := Lib.hid hu
                clear hu
                go_wp2_with (first | (go_at_call 89; have hbp := bThen HBr.out (bAlloc (Below.refl wr.heap.size wr) (.cells #[.int .i64 3, .int .i64 term, .int .i64 st, .int .i64 below] 59)); obtain ⟨x0, -, -, x3, x4, -, -, -, ⟨xv, x8, hxv⟩, x9, -, -⟩ := HPA.out.keep hbp; refine (askQuotient_any S a.gen a.kas (quo (ruleOf S a) a.num) st (ruleOf S a).pieces xv b sb _ ((HS.out.keep (bThen HB.out hbp)).1) x0 x9 x3 x4 x8 hxv (fun i h hk => pce_term (HRR.out.piece _ (List.getElem_mem h)) (by simp [hk]))).mono ?_; rintro e w4 ⟨rfl, hb⟩; have HBq := Lib.hid (bThen (bAlloc (Below.refl _ _) _) hb); unfold Ask.val; clear hb hbp x0 x3 x4 x8 hxv x9) | (go_at_call 64; refine (isB (HREC.out _ (by exact HS.out.keep (bThen HB.out (bThen HBr.out HBq.out)))) HUU.out).mono ?_; rintro e w5 ⟨rfl, hb⟩; have HBx := Lib.hid (bThen HBq.out hb); clear hb))
                go_roundw
                case rel => exact ⟨j + 1, by omega, by go_num, Lib.hid (by rw [HTK.out, HNO.out, HGP.out]; rfl), Lib.hid (bThen HBr.out HBx.out)⟩
                case measure => simp [intOf]; omega
              · have HGP : Hid (g ⟨3, term, st, below⟩ = true) := Lib.hid (by rw [HG.out]; simp [usedP, hu])
                have HUU := Lib.hid hu
                clear hu
                go_wp2_with (first | (go_at_call 89; have hbp := bThen HBr.out (bAlloc (Below.refl wr.heap.size wr) (.cells #[.int .i64 3, .int .i64 term, .int .i64 st, .int .i64 below] 59)); obtain ⟨x0, -, -, x3, x4, -, -, -, ⟨xv, x8, hxv⟩, x9, -, -⟩ := HPA.out.keep hbp; refine (askQuotient_any S a.gen a.kas (quo (ruleOf S a) a.num) st (ruleOf S a).pieces xv b sb _ ((HS.out.keep (bThen HB.out hbp)).1) x0 x9 x3 x4 x8 hxv (fun i h hk => pce_term (HRR.out.piece _ (List.getElem_mem h)) (by simp [hk]))).mono ?_; rintro e w4 ⟨rfl, hb⟩; have HBq := Lib.hid (bThen (bAlloc (Below.refl _ _) _) hb); unfold Ask.val; clear hb hbp x0 x3 x4 x8 hxv x9) | (go_at_call 64; refine (isB (HREC.out _ (by exact HS.out.keep (bThen HB.out (bThen HBr.out HBq.out)))) HUU.out).mono ?_; rintro e w5 ⟨rfl, hb⟩; have HBx := Lib.hid (bThen HBq.out hb); clear hb))
                go_ret
                exact ⟨ret_bool (by rw [HU.out, HHIT.out HGP.out]), bThen (bThen HB.out HBr.out) HBx.out⟩
            · subst h
              by_cases hr0 : rst (ruleOf S a) a.num = 0
              · have hrz : (rst (ruleOf S a) a.num == 0) = true := by simp [hr0]
                have hrn : (rst (ruleOf S a) a.num != 0) = false := by simp [hr0]
                have HGP : Hid (g ⟨4, term, st, below⟩ = false) := Lib.hid (by rw [HG.out]; simp [usedP, hr0])
                clear hr0
                go_wp2_with fail
                go_roundw
                case rel => exact ⟨j + 1, by omega, by go_num, Lib.hid (by rw [HTK.out, HNO.out, HGP.out]; rfl), Lib.hid (bAlloc HBr.out _)⟩
                case measure => simp [intOf]; omega
              · have hrz : (rst (ruleOf S a) a.num == 0) = false := by simp [hr0]
                have hrn : (rst (ruleOf S a) a.num != 0) = true := by simp [hr0]
                have HAQ := Lib.hid (askRst_right hS HAR.out HM.out rfl)
                have hrec : ∀ W', SplAt W' sb S → Calls Try.prog 64 #[.pointer (some ⟨sb, 0, none⟩), .agg #[.int .i64 (rst (ruleOf S a) a.num), .int .i64 st, .int .i64 a.gen, .int .i64 a.kas], .int .i64 set, .int .i64 rule] W' fun e w' => e = .returned (.bool (usedF k S (askRst S a st) set rule)) ∧ Below W'.heap.size W' w' := fun W' h => HIH.out (askRst S a st) W' HAQ.out.1 (by have := HAQ.out.2; simp only at this; omega) h
                have HREC := Lib.hid hrec
                clear hrec
                cases hu : usedF k S (askRst S a st) set rule
                · have HGP : Hid (g ⟨4, term, st, below⟩ = false) := Lib.hid (by rw [HG.out]; simp [usedP, hu])
                  have HUU := Lib.hid hu
                  clear hu hr0
                  go_wp2_with (first | (go_at_call 90; have hbp := bThen HBr.out (bAlloc (Below.refl wr.heap.size wr) (.cells #[.int .i64 4, .int .i64 term, .int .i64 st, .int .i64 below] 59)); obtain ⟨-, -, -, x3, x4, -, -, -, -, -, x10, -⟩ := HPA.out.keep hbp; refine (askRest_any a.gen a.kas (rst (ruleOf S a) a.num) st b _ x10 x3 x4).mono ?_; rintro e w4 ⟨rfl, hb⟩; have HBq := Lib.hid (bThen (bAlloc (Below.refl _ _) _) hb); unfold Ask.val; clear hb hbp x3 x4 x10) | (go_at_call 64; refine (isB (HREC.out _ (by exact HS.out.keep (bThen HB.out (bThen HBr.out HBq.out)))) HUU.out).mono ?_; rintro e w5 ⟨rfl, hb⟩; have HBx := Lib.hid (bThen HBq.out hb); clear hb))
                  go_roundw
                  case rel => exact ⟨j + 1, by omega, by go_num, Lib.hid (by rw [HTK.out, HNO.out, HGP.out]; rfl), Lib.hid (bThen HBr.out HBx.out)⟩
                  case measure => simp [intOf]; omega
                · have HGP : Hid (g ⟨4, term, st, below⟩ = true) := Lib.hid (by rw [HG.out]; simp [usedP, hu, hr0])
                  have HUU := Lib.hid hu
                  clear hu hr0
                  go_wp2_with (first | (go_at_call 90; have hbp := bThen HBr.out (bAlloc (Below.refl wr.heap.size wr) (.cells #[.int .i64 4, .int .i64 term, .int .i64 st, .int .i64 below] 59)); obtain ⟨-, -, -, x3, x4, -, -, -, -, -, x10, -⟩ := HPA.out.keep hbp; refine (askRest_any a.gen a.kas (rst (ruleOf S a) a.num) st b _ x10 x3 x4).mono ?_; rintro e w4 ⟨rfl, hb⟩; have HBq := Lib.hid (bThen (bAlloc (Below.refl _ _) _) hb); unfold Ask.val; clear hb hbp x3 x4 x10) | (go_at_call 64; refine (isB (HREC.out _ (by exact HS.out.keep (bThen HB.out (bThen HBr.out HBq.out)))) HUU.out).mono ?_; rintro e w5 ⟨rfl, hb⟩; have HBx := Lib.hid (bThen HBq.out hb); clear hb))
                  go_ret
                  exact ⟨ret_bool (by rw [HU.out, HHIT.out HGP.out]), bThen (bThen HB.out HBr.out) HBx.out⟩
            · subst h
              have HGP : Hid (g ⟨5, term, st, below⟩ = false) := Lib.hid (by rw [HG.out]; simp [usedP])
              go_wp2_with fail
              go_roundw
              case rel => exact ⟨j + 1, by omega, by go_num, Lib.hid (by rw [HTK.out, HNO.out, HGP.out]; rfl), Lib.hid (bAlloc HBr.out _)⟩
              case measure => simp [intOf]; omega
          · obtain rfl : j = (ruleOf S a).pieces.length := by omega
            go_wp2_with fail
            go_ret
            exact ⟨ret_bool (by rw [HU.out]; have := HNO.out; rw [List.take_length] at this; rw [this]), bThen HB.out HBr.out⟩
end Go.Proofs.Ytfcopnlpcbbocaa
