/- Contracts of the specification's checks: features, texts, terms, pieces. -/
import Derived.Test.YtfcopnlpcbbocaaH2
set_option linter.unusedSimpArgs false
set_option linter.unusedVariables false
namespace Go.Proofs.Ytfcopnlpcbbocaa
open Go.RowKit

def feat (x n : Int) : Bool := decide (-1 ≤ x) && decide (x < n)
theorem feat_or (x n : Int) (h : 0 ≤ n) : feat x n = orAny x n := by
  unfold feat orAny exst
  rw [Bool.eq_iff_iff]
  simp
  omega
set_option maxHeartbeats 400000 in
theorem feature_any (x n : Int) (w : World) : Calls Try.prog 76 #[.int .i64 x, .int .i64 n] w fun e w' => e = .returned (.bool (feat x n)) ∧ w = w' := by
  by_cases h : -1 ≤ x
  · go_enter Try.func76, Try.ntmps76
    go_wp2
    go_ret
    exact ⟨by simp [feat, h], rfl⟩
  · go_enter Try.func76, Try.ntmps76
    go_wp2
    go_ret
    exact ⟨by simp [feat]; omega, rfl⟩

set_option maxHeartbeats 1000000 in
theorem text_ok_any (t : ByteArray) (w : World) (ht : t.size ≤ most) : Calls Try.prog 77 #[.string t] w fun e w' => e = .returned (.bool (textOk t)) ∧ w = w' := by
  unfold most at ht
  go_enter Try.func77, Try.ntmps77
  go_wp2_with fail
  go_loop [3] (fun i => ∃ k : Nat, k ≤ t.size ∧ i = .int .i64 k ∧ ∀ j (h : j < t.size), j < k → betw ((t[j]).toNat : Int) 33 126 = true) (fun i => t.size - (intOf i).toNat)
  case atStart => exact ⟨0, Nat.zero_le _, rfl, fun j _ h => by omega⟩
  case round =>
    obtain ⟨k, hk, rfl, hall⟩ := hrel
    have HA := Lib.hid hall
    clear hall
    by_cases hlt : k < t.size
    · have HN : Hid (betw ((t[k]).toNat : Int) 33 126 = false → textOk t = false) := Lib.hid fun hx => by
        cases ht' : textOk t
        · rfl
        · rw [((textOk_iff t).1 ht').2 k hlt] at hx
          exact absurd hx (by simp)
      go_wp2_with fail
      all_goals first
        | (go_ret; exact ⟨ret_bool (HN.out (by simp [betw]; omega)).symm, rfl⟩)
        | (go_round
           case rel =>
             refine ⟨k + 1, by omega, by go_num, fun j h h' => ?_⟩
             by_cases e : j = k
             · subst e; simp [betw]; omega
             · exact HA.out j h (by omega)
           case measure => simp [intOf]; omega)
    · have HX : Hid (textOk t = betw t.size 1 30) := Lib.hid (by
        cases hb : betw t.size 1 30
        · simp [textOk, hb]
        · exact (textOk_iff t).2 ⟨hb, fun j h => HA.out j h (by omega)⟩)
      go_wp2
      all_goals
        go_ret
        exact ⟨ret_bool (by rw [HX.out]; simp [betw]; try omega), rfl⟩
end Go.Proofs.Ytfcopnlpcbbocaa
/- Contracts of the specification's checks: terms. -/
namespace Go.Proofs.Ytfcopnlpcbbocaa
open Go.RowKit

set_option maxRecDepth 100000 in
set_option maxHeartbeats 2000000 in
theorem term_any (S : Sys) (t : Term) (vt vp vs fv : Value) (w : World) (hp : SysParts w vt vp vs S) (hv : SliceV w fv 4 FormAt t.forms) (h1 : 0 ≤ S.genders) (h2 : 0 ≤ S.cases) (h3 : 0 ≤ S.classes) :
    Calls Try.prog 45 #[sysVal S vt vp vs, .agg #[.int .i64 t.gen, fv]] w fun e w' => e = .returned (.bool (termOk S t)) ∧ Below w.heap.size w w' := by
  obtain ⟨⟨at_, ct, rfl, -⟩, ⟨ap, cp, rfl, -⟩, ⟨as_, cs, rfl, -⟩⟩ := hp
  obtain ⟨fa, fc, rfl, hfl, hx⟩ := hv
  unfold most at hfl
  unfold sysVal
  have HE : Hid (∀ b : Bool, exst t.gen S.genders = true → t.forms.length ≤ 60 → t.forms.all (formOk S) = b → termOk S t = b) := Lib.hid fun b h h' h'' => by simp [termOk, h, h', h'']
  by_cases hg : exst t.gen S.genders = true ∧ t.forms.length ≤ 60
  · obtain ⟨hg1, hg2⟩ := hg
    have HG := Lib.hid hg1
    simp only [exst, Bool.and_eq_true, decide_eq_true_eq] at hg1
    obtain ⟨hg3, hg4⟩ := hg1
    have hg5 : (t.forms.length : Int) ≤ 60 := by omega
    go_enter Try.func45, Try.ntmps45
    go_wp2_with fail
    generalize hW : World.alloc (World.alloc w _) _ = W1
    have hB1 : Below w.heap.size w W1 := by rw [← hW]; exact bAlloc (bAlloc (Below.refl _ _) _) _
    have s1 : W1.cell? ⟨w.heap.size, 1, none⟩ = some (.int .i64 S.genders) := by rw [← hW]; simp
    have s2 : W1.cell? ⟨w.heap.size, 2, none⟩ = some (.int .i64 S.cases) := by rw [← hW]; simp
    have s3 : W1.cell? ⟨w.heap.size, 3, none⟩ = some (.int .i64 S.classes) := by rw [← hW]; simp
    have t1 : W1.cell? ⟨w.heap.size + 1, 1, none⟩ = some (.slice fa t.forms.length fc) := by rw [← hW]; simp
    clear hW
    go_loopw [5] (fun i wr => ∃ k : Nat, k ≤ t.forms.length ∧ i = .int .i64 k ∧ Hid ((t.forms.take k).all (formOk S) = true) ∧ Below W1.heap.size W1 wr) (fun i _ => t.forms.length - (intOf i).toNat)
    case atStart => exact ⟨0, Nat.zero_le _, rfl, Lib.hid (by simp), Below.refl _ _⟩
    case round =>
      obtain ⟨k, hk, rfl, HA, hB⟩ := hrel
      have t1 := keep hB t1
      have htl := cell_lt t1
      by_cases hlt : k < t.forms.length
      · rcases hx with hnil | ⟨fb, fo, rfl, hf⟩
        · simp [hnil] at hlt
        have HT := Lib.hid (all_take_succ' (formOk S) t.forms k hlt)
        have HN := Lib.hid (all_false' (formOk S) t.forms k hlt)
        obtain ⟨f0, f1, f2, f3, f4⟩ := FormAt.stable _ _ _ _ _ (bThen hB1 hB) (hf k hlt)
        have hfb := cell_lt f0
        have s1 := keep hB s1
        have s2 := keep hB s2
        have s3 := keep hB s3
        have hsl := cell_lt s1
        clear hf
        generalize t.forms[k] = f at *
        have HFO : Hid (formOk S f = (feat f.gen S.genders && feat f.kas S.cases && feat f.cls S.classes && textOk f.txt)) := Lib.hid (by rw [feat_or _ _ h1, feat_or _ _ h2, feat_or _ _ h3]; rfl)
        go_wp2_with (first | (go_at_call 76; refine (feature_any _ _ _).mono ?_; rintro e w' ⟨rfl, rfl⟩) | (go_at_call 77; refine (text_ok_any _ _ f4).mono ?_; rintro e w' ⟨rfl, rfl⟩))
        all_goals first
          | (go_ret; exact ⟨ret_bool (HE.out false HG.out hg2 (HN.out (by rw [HFO.out]; simp_all))).symm, bThen hB1 (bAlloc hB _)⟩)
          | (go_roundw
             case rel => exact ⟨k + 1, by omega, by go_num, Lib.hid (by rw [HT.out, HA.out, HFO.out]; simp_all), bAlloc hB _⟩
             case measure => simp [intOf]; omega)
      · obtain rfl : k = t.forms.length := by omega
        go_wp2_with fail
        go_ret
        exact ⟨ret_bool (HE.out true HG.out hg2 (by have := HA.out; rwa [List.take_length] at this)).symm, bThen hB1 hB⟩
  · have HR : Hid (termOk S t = false) := Lib.hid (by
      unfold termOk
      cases ha : exst t.gen S.genders
      · simp
      · have : ¬ t.forms.length ≤ 60 := fun h => hg ⟨ha, h⟩
        simp [this])
    by_cases hg3 : t.gen < 0
    · go_enter Try.func45, Try.ntmps45
      go_wp2_with fail
      go_ret
      exact ⟨ret_bool HR.out.symm, bAlloc (bAlloc (Below.refl _ _) _) _⟩
    by_cases hg4 : S.genders ≤ t.gen
    · go_enter Try.func45, Try.ntmps45
      go_wp2_with fail
      go_ret
      exact ⟨ret_bool HR.out.symm, bAlloc (bAlloc (Below.refl _ _) _) _⟩
    have hg5 : 60 < (t.forms.length : Int) := by
      by_cases h60 : t.forms.length ≤ 60
      · exact absurd ⟨by simp [exst]; omega, h60⟩ hg
      · omega
    go_enter Try.func45, Try.ntmps45
    go_wp2_with fail
    go_ret
    exact ⟨ret_bool HR.out.symm, bAlloc (bAlloc (Below.refl _ _) _) _⟩
end Go.Proofs.Ytfcopnlpcbbocaa
/- Contracts of the specification's checks: pieces. -/
namespace Go.Proofs.Ytfcopnlpcbbocaa
open Go.RowKit

set_option maxRecDepth 100000 in
set_option maxHeartbeats 4000000 in
theorem piece_ok_any (S : Sys) (r : Rul) (p : Pce) (vt vp vs : Value) (w : World) (hp : SysParts w vt vp vs S) :
    Calls Try.prog 78 #[sysVal S vt vp vs, p.val, .int .i64 r.div] w fun e w' => e = .returned (.bool (pceOk S r p)) ∧ Below w.heap.size w w' := by
  obtain ⟨⟨at_, ct, rfl, hl1, -⟩, ⟨ap, cp, rfl, -⟩, ⟨as_, cs, rfl, hl2, -⟩⟩ := hp
  unfold sysVal Pce.val
  unfold most at hl1 hl2
  obtain ⟨kind, term, set, below⟩ := p
  generalize hd : r.div = d
  simp only
  have HP : Hid (pceOk S r ⟨kind, term, set, below⟩ = (if d = 0 ∧ kind ≠ 1 then false else if kind = 1 ∨ kind = 2 then exst term S.terms.length && decide (set = 0) && decide (below = 0) else if kind = 3 ∨ kind = 4 then exst set S.sets.length && decide (term = 0) && decide (below = 0) else if kind = 5 then exst term S.terms.length && decide (set = 0) && decide (0 ≤ below) else false)) := Lib.hid (by rw [← hd]; rfl)
  generalize pceOk S r ⟨kind, term, set, below⟩ = res at *
  clear hd
  by_cases k1 : kind = 1
  · subst k1
    go_enter Try.func78, Try.ntmps78
    go_wp2_with fail
    all_goals
      go_ret
      exact ⟨ret_bool (by have hh := HP.out; clear HP; simp [exst] at hh; rw [hh, Bool.eq_iff_iff]; simp; try omega), bAlloc (bAlloc (Below.refl _ _) _) _⟩
  by_cases hd0 : d = 0
  · subst hd0
    have HR : Hid (res = false) := Lib.hid (by rw [HP.out]; simp [k1])
    have hk1 : (kind == 1) = false := by simp [k1]
    have hk2 : (kind != 1) = true := by simp [k1]
    clear HP k1
    go_enter Try.func78, Try.ntmps78
    go_wp2_with fail
    all_goals
      go_ret
      exact ⟨ret_bool HR.out.symm, bAlloc (bAlloc (Below.refl _ _) _) _⟩
  have hd1 : (d == 0) = false := by simp [hd0]
  by_cases k2 : kind = 2
  · subst k2
    go_enter Try.func78, Try.ntmps78
    go_wp2_with fail
    all_goals
      go_ret
      exact ⟨ret_bool (by have hh := HP.out; clear HP; simp [exst] at hh; rw [hh, Bool.eq_iff_iff]; simp; try omega), bAlloc (bAlloc (Below.refl _ _) _) _⟩
  by_cases k3 : kind = 3
  · subst k3
    go_enter Try.func78, Try.ntmps78
    go_wp2_with fail
    all_goals
      go_ret
      exact ⟨ret_bool (by have hh := HP.out; clear HP; simp [exst] at hh; rw [hh, Bool.eq_iff_iff]; simp; try omega), bAlloc (bAlloc (Below.refl _ _) _) _⟩
  by_cases k4 : kind = 4
  · subst k4
    go_enter Try.func78, Try.ntmps78
    go_wp2_with fail
    all_goals
      go_ret
      exact ⟨ret_bool (by have hh := HP.out; clear HP; simp [exst] at hh; rw [hh, Bool.eq_iff_iff]; simp; try omega), bAlloc (bAlloc (Below.refl _ _) _) _⟩
  by_cases k5 : kind = 5
  · subst k5
    go_enter Try.func78, Try.ntmps78
    go_wp2_with fail
    all_goals
      go_ret
      exact ⟨ret_bool (by have hh := HP.out; clear HP; simp [exst] at hh; rw [hh, Bool.eq_iff_iff]; simp; try omega), bAlloc (bAlloc (Below.refl _ _) _) _⟩
  have HR : Hid (res = false) := Lib.hid (by rw [HP.out]; simp [hd0, k1, k2, k3, k4, k5])
  have hk1 : (kind == 1) = false := by simp [k1]
  by_cases hlo : kind < 1
  · clear HP hd0 k1 k2 k3 k4 k5
    go_enter Try.func78, Try.ntmps78
    go_wp2_with fail
    all_goals
      go_ret
      exact ⟨ret_bool HR.out.symm, bAlloc (bAlloc (Below.refl _ _) _) _⟩
  · have hhi : 5 < kind := by omega
    clear HP hd0 k1 k2 k3 k4 k5
    go_enter Try.func78, Try.ntmps78
    go_wp2_with fail
    all_goals
      go_ret
      exact ⟨ret_bool HR.out.symm, bAlloc (bAlloc (Below.refl _ _) _) _⟩
end Go.Proofs.Ytfcopnlpcbbocaa
