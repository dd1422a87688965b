/- Contracts of the specification's checks: pieces. -/
import Derived.Test.YtfcopnlpcbbocaaI2
namespace Go.Proofs.Ytfcopnlpcbbocaa
open Go.RowKit

set_option maxRecDepth 100000 in
set_option maxHeartbeats 4000000 in
theorem piece_ok_any (S : Sys) (r : Rul) (p : Pce) (vt vp vs : Value) (w : World) (hp : SysParts w vt vp vs S) :
    Calls Try.prog 78 #[sysVal S vt vp vs, p.val, .int .i64 r.div] w fun e w' => e = .returned (.bool (pceOk S r p)) ∧ Below w.heap.size w w' := by
  obtain ⟨⟨at_, ct, rfl, hl1, -⟩, ⟨ap, cp, rfl, -⟩, ⟨as_, cs, rfl, hl2, -⟩⟩ := hp
  unfold sysVal Pce.val
  unfold most at hl1 hl2
  obtain ⟨kind, term, set, below⟩ := p
  generalize hd : r.div = d
  simp only
  have HP : Hid (pceOk S r ⟨kind, term, set, below⟩ = (if d = 0 ∧ kind ≠ 1 then false else if kind = 1 ∨ kind = 2 then exst term S.terms.length && decide (set = 0) && decide (below = 0) else if kind = 3 ∨ kind = 4 then exst set S.sets.length && decide (term = 0) && decide (below = 0) else if kind = 5 then exst term S.terms.length && decide (set = 0) && decide (0 ≤ below) else false)) := Lib.hid (by rw [← hd]; rfl)
  generalize pceOk S r ⟨kind, term, set, below⟩ = res at *
  clear hd
  by_cases k1 : kind = 1
  · subst k1
    go_enter Try.func78, Try.ntmps78
    go_wp2_with fail
    all_goals
      go_ret
      exact ⟨ret_bool (by have hh := HP.out; clear HP; simp [exst] at hh; rw [hh, Bool.eq_iff_iff]; simp; try omega), bAlloc (bAlloc (Below.refl _ _) _) _⟩
  by_cases hd0 : d = 0
  · subst hd0
    have HR : Hid (res = false) := Lib.hid (by rw [HP.out]; simp [k1])
    have hk1 : (kind == 1) = false := by simp [k1]
    have hk2 : (kind != 1) = true := by simp [k1]
    clear HP k1
    go_enter Try.func78, Try.ntmps78
    go_wp2_with fail
    all_goals
      go_ret
      exact ⟨ret_bool HR.out.symm, bAlloc (bAlloc (Below.refl _ _) _) _⟩
  have hd1 : (d == 0) = false := by simp [hd0]
  by_cases k2 : kind = 2
  · subst k2
    go_enter Try.func78, Try.ntmps78
    go_wp2_with fail
    all_goals
      go_ret
      exact ⟨ret_bool (by have hh := HP.out; clear HP; simp [exst] at hh; rw [hh, Bool.eq_iff_iff]; simp; try omega), bAlloc (bAlloc (Below.refl _ _) _) _⟩
  by_cases k3 : kind = 3
  · subst k3
    go_enter Try.func78, Try.ntmps78
    go_wp2_with fail
    all_goals
      go_ret
      exact ⟨ret_bool (by have hh := HP.out; clear HP; simp [exst] at hh; rw [hh, Bool.eq_iff_iff]; simp; try omega), bAlloc (bAlloc (Below.refl _ _) _) _⟩
  by_cases k4 : kind = 4
  · subst k4
    go_enter Try.func78, Try.ntmps78
    go_wp2_with fail
    all_goals
      go_ret
      exact ⟨ret_bool (by have hh := HP.out; clear HP; simp [exst] at hh; rw [hh, Bool.eq_iff_iff]; simp; try omega), bAlloc (bAlloc (Below.refl _ _) _) _⟩
  by_cases k5 : kind = 5
  · subst k5
    go_enter Try.func78, Try.ntmps78
    go_wp2_with fail
    all_goals
      go_ret
      exact ⟨ret_bool (by have hh := HP.out; clear HP; simp [exst] at hh; rw [hh, Bool.eq_iff_iff]; simp; try omega), bAlloc (bAlloc (Below.refl _ _) _) _⟩
  have HR : Hid (res = false) := Lib.hid (by rw [HP.out]; simp [hd0, k1, k2, k3, k4, k5])
  have hk1 : (kind == 1) = false := by simp [k1]
  by_cases hlo : kind < 1
  · clear HP hd0 k1 k2 k3 k4 k5
    go_enter Try.func78, Try.ntmps78
    go_wp2_with fail
    all_goals
      go_ret
      exact ⟨ret_bool HR.out.symm, bAlloc (bAlloc (Below.refl _ _) _) _⟩
  · have hhi : 5 < kind := by omega
    clear HP hd0 k1 k2 k3 k4 k5
    go_enter Try.func78, Try.ntmps78
    go_wp2_with fail
    all_goals
      go_ret
      exact ⟨ret_bool HR.out.symm, bAlloc (bAlloc (Below.refl _ _) _) _⟩
end Go.Proofs.Ytfcopnlpcbbocaa
