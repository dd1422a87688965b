/- Contracts of the functions that check rules and pieces. -/
import Derived.Test.YtfcopnlpcbbocaaC1
set_option linter.unusedSimpArgs false
set_option linter.unusedVariables false
namespace Go.Proofs.Ytfcopnlpcbbocaa
open Go.RowKit

set_option maxHeartbeats 2000000 in
theorem pieceRight_any (b o : Nat) (S : Sys) (r : Rul) (p : Pce) (vp : Value) (w : World) (hS : SysAt w b o S) :
    Calls Try.prog 102 #[.pointer (some ⟨b, o, none⟩), .agg #[.int .i64 r.base, .int .i64 r.div, vp], p.val] w fun e w' => e = .returned (.bool (pceOk S r p)) ∧ Below w.heap.size w w' := by
  obtain ⟨vt, vq, vs, h0, h1, h2, h3, h4, h5, h6, ⟨at_, ct, rfl, hlt, -⟩, ⟨ap, cp, rfl, hlp, -⟩, ⟨as_, cs, rfl, hls, -⟩⟩ := hS
  have hb := cell_lt h0
  obtain ⟨base, div, pcs⟩ := r
  obtain ⟨kind, term, set, below⟩ := p
  unfold Pce.val
  dsimp only
  by_cases hd : div = 0
  · subst hd
    by_cases hk : kind = 1
    · subst hk
      cases g1 : exst term S.terms.length
      · go_enter Try.func102, Try.ntmps102
        go_wp2_with fail
        (refine wp_region_quiet_lit (by kernel_rfl) (by kernel_rfl) ?_; (repeat (first | go_big_quiet_step ((go_at_call 62; exact toQ (isB (exists_any _ _ _) g1))) | quiet_step ((go_at_call 62; exact toQ (isB (exists_any _ _ _) g1))))); (refine wpQuiet_nil ?_; intro _ hw'; obtain ⟨nq, hw''⟩ := hw'; subst hw''))
        go_wp2
        go_ret
        exact ⟨ret_bool (by (first | (simp [pceOk, *]; done) | (simp at g2; simp [pceOk, *]; try simp_all); try (by_cases hz : below = 0 <;> simp [hz]))), bDrew (bAlloc (bAlloc (Below.refl _ _) _) _) _⟩
      · cases g2 : set == 0
        · go_enter Try.func102, Try.ntmps102
          go_wp2_with fail
          (refine wp_region_quiet_lit (by kernel_rfl) (by kernel_rfl) ?_; (repeat (first | go_big_quiet_step ((go_at_call 62; exact toQ (isB (exists_any _ _ _) g1))) | quiet_step ((go_at_call 62; exact toQ (isB (exists_any _ _ _) g1))))); (refine wpQuiet_nil ?_; intro _ hw'; obtain ⟨nq, hw''⟩ := hw'; subst hw''))
          go_wp2
          go_ret
          exact ⟨ret_bool (by (first | (simp [pceOk, *]; done) | (simp at g2; simp [pceOk, *]; try simp_all); try (by_cases hz : below = 0 <;> simp [hz]))), bDrew (bAlloc (bAlloc (Below.refl _ _) _) _) _⟩
        · go_enter Try.func102, Try.ntmps102
          go_wp2_with fail
          (refine wp_region_quiet_lit (by kernel_rfl) (by kernel_rfl) ?_; (repeat (first | go_big_quiet_step ((go_at_call 62; exact toQ (isB (exists_any _ _ _) g1))) | quiet_step ((go_at_call 62; exact toQ (isB (exists_any _ _ _) g1))))); (refine wpQuiet_nil ?_; intro _ hw'; obtain ⟨nq, hw''⟩ := hw'; subst hw''))
          go_wp2
          go_ret
          exact ⟨ret_bool (by (first | (simp [pceOk, *]; done) | (simp at g2; simp [pceOk, *]; try simp_all); try (by_cases hz : below = 0 <;> simp [hz]))), bDrew (bAlloc (bAlloc (Below.refl _ _) _) _) _⟩
    · go_enter Try.func102, Try.ntmps102
      go_wp2_with fail
      go_ret
      exact ⟨ret_bool (by simp [pceOk, *]), bAlloc (bAlloc (Below.refl _ _) _) _⟩
  · by_cases k1 : kind = 1
    · subst k1
      cases g1 : exst term S.terms.length
      · go_enter Try.func102, Try.ntmps102
        go_wp2_with fail
        (refine wp_region_quiet_lit (by kernel_rfl) (by kernel_rfl) ?_; (repeat (first | go_big_quiet_step ((go_at_call 62; exact toQ (isB (exists_any _ _ _) g1))) | quiet_step ((go_at_call 62; exact toQ (isB (exists_any _ _ _) g1))))); (refine wpQuiet_nil ?_; intro _ hw'; obtain ⟨nq, hw''⟩ := hw'; subst hw''))
        go_wp2
        go_ret
        exact ⟨ret_bool (by (first | (simp [pceOk, *]; done) | (simp at g2; simp [pceOk, *]; try simp_all); try (by_cases hz : below = 0 <;> simp [hz]))), bDrew (bAlloc (bAlloc (Below.refl _ _) _) _) _⟩
      · cases g2 : set == 0
        · go_enter Try.func102, Try.ntmps102
          go_wp2_with fail
          (refine wp_region_quiet_lit (by kernel_rfl) (by kernel_rfl) ?_; (repeat (first | go_big_quiet_step ((go_at_call 62; exact toQ (isB (exists_any _ _ _) g1))) | quiet_step ((go_at_call 62; exact toQ (isB (exists_any _ _ _) g1))))); (refine wpQuiet_nil ?_; intro _ hw'; obtain ⟨nq, hw''⟩ := hw'; subst hw''))
          go_wp2
          go_ret
          exact ⟨ret_bool (by (first | (simp [pceOk, *]; done) | (simp at g2; simp [pceOk, *]; try simp_all); try (by_cases hz : below = 0 <;> simp [hz]))), bDrew (bAlloc (bAlloc (Below.refl _ _) _) _) _⟩
        · go_enter Try.func102, Try.ntmps102
          go_wp2_with fail
          (refine wp_region_quiet_lit (by kernel_rfl) (by kernel_rfl) ?_; (repeat (first | go_big_quiet_step ((go_at_call 62; exact toQ (isB (exists_any _ _ _) g1))) | quiet_step ((go_at_call 62; exact toQ (isB (exists_any _ _ _) g1))))); (refine wpQuiet_nil ?_; intro _ hw'; obtain ⟨nq, hw''⟩ := hw'; subst hw''))
          go_wp2
          go_ret
          exact ⟨ret_bool (by (first | (simp [pceOk, *]; done) | (simp at g2; simp [pceOk, *]; try simp_all); try (by_cases hz : below = 0 <;> simp [hz]))), bDrew (bAlloc (bAlloc (Below.refl _ _) _) _) _⟩
    by_cases k2 : kind = 2
    · subst k2
      cases g1 : exst term S.terms.length
      · go_enter Try.func102, Try.ntmps102
        go_wp2_with fail
        (refine wp_region_quiet_lit (by kernel_rfl) (by kernel_rfl) ?_; (repeat (first | go_big_quiet_step ((go_at_call 62; exact toQ (isB (exists_any _ _ _) g1))) | quiet_step ((go_at_call 62; exact toQ (isB (exists_any _ _ _) g1))))); (refine wpQuiet_nil ?_; intro _ hw'; obtain ⟨nq, hw''⟩ := hw'; subst hw''))
        go_wp2
        go_ret
        exact ⟨ret_bool (by (first | (simp [pceOk, *]; done) | (simp at g2; simp [pceOk, *]; try simp_all); try (by_cases hz : below = 0 <;> simp [hz]))), bDrew (bAlloc (bAlloc (Below.refl _ _) _) _) _⟩
      · cases g2 : set == 0
        · go_enter Try.func102, Try.ntmps102
          go_wp2_with fail
          (refine wp_region_quiet_lit (by kernel_rfl) (by kernel_rfl) ?_; (repeat (first | go_big_quiet_step ((go_at_call 62; exact toQ (isB (exists_any _ _ _) g1))) | quiet_step ((go_at_call 62; exact toQ (isB (exists_any _ _ _) g1))))); (refine wpQuiet_nil ?_; intro _ hw'; obtain ⟨nq, hw''⟩ := hw'; subst hw''))
          go_wp2
          go_ret
          exact ⟨ret_bool (by (first | (simp [pceOk, *]; done) | (simp at g2; simp [pceOk, *]; try simp_all); try (by_cases hz : below = 0 <;> simp [hz]))), bDrew (bAlloc (bAlloc (Below.refl _ _) _) _) _⟩
        · go_enter Try.func102, Try.ntmps102
          go_wp2_with fail
          (refine wp_region_quiet_lit (by kernel_rfl) (by kernel_rfl) ?_; (repeat (first | go_big_quiet_step ((go_at_call 62; exact toQ (isB (exists_any _ _ _) g1))) | quiet_step ((go_at_call 62; exact toQ (isB (exists_any _ _ _) g1))))); (refine wpQuiet_nil ?_; intro _ hw'; obtain ⟨nq, hw''⟩ := hw'; subst hw''))
          go_wp2
          go_ret
          exact ⟨ret_bool (by (first | (simp [pceOk, *]; done) | (simp at g2; simp [pceOk, *]; try simp_all); try (by_cases hz : below = 0 <;> simp [hz]))), bDrew (bAlloc (bAlloc (Below.refl _ _) _) _) _⟩
    by_cases k3 : kind = 3
    · subst k3
      cases g1 : exst set S.sets.length
      · go_enter Try.func102, Try.ntmps102
        go_wp2_with fail
        (refine wp_region_quiet_lit (by kernel_rfl) (by kernel_rfl) ?_; (repeat (first | go_big_quiet_step ((go_at_call 62; exact toQ (isB (exists_any _ _ _) g1))) | quiet_step ((go_at_call 62; exact toQ (isB (exists_any _ _ _) g1))))); (refine wpQuiet_nil ?_; intro _ hw'; obtain ⟨nq, hw''⟩ := hw'; subst hw''))
        go_wp2
        go_ret
        exact ⟨ret_bool (by (first | (simp [pceOk, *]; done) | (simp at g2; simp [pceOk, *]; try simp_all); try (by_cases hz : below = 0 <;> simp [hz]))), bDrew (bAlloc (bAlloc (Below.refl _ _) _) _) _⟩
      · cases g2 : term == 0
        · go_enter Try.func102, Try.ntmps102
          go_wp2_with fail
          (refine wp_region_quiet_lit (by kernel_rfl) (by kernel_rfl) ?_; (repeat (first | go_big_quiet_step ((go_at_call 62; exact toQ (isB (exists_any _ _ _) g1))) | quiet_step ((go_at_call 62; exact toQ (isB (exists_any _ _ _) g1))))); (refine wpQuiet_nil ?_; intro _ hw'; obtain ⟨nq, hw''⟩ := hw'; subst hw''))
          go_wp2
          go_ret
          exact ⟨ret_bool (by (first | (simp [pceOk, *]; done) | (simp at g2; simp [pceOk, *]; try simp_all); try (by_cases hz : below = 0 <;> simp [hz]))), bDrew (bAlloc (bAlloc (Below.refl _ _) _) _) _⟩
        · go_enter Try.func102, Try.ntmps102
          go_wp2_with fail
          (refine wp_region_quiet_lit (by kernel_rfl) (by kernel_rfl) ?_; (repeat (first | go_big_quiet_step ((go_at_call 62; exact toQ (isB (exists_any _ _ _) g1))) | quiet_step ((go_at_call 62; exact toQ (isB (exists_any _ _ _) g1))))); (refine wpQuiet_nil ?_; intro _ hw'; obtain ⟨nq, hw''⟩ := hw'; subst hw''))
          go_wp2
          go_ret
          exact ⟨ret_bool (by (first | (simp [pceOk, *]; done) | (simp at g2; simp [pceOk, *]; try simp_all); try (by_cases hz : below = 0 <;> simp [hz]))), bDrew (bAlloc (bAlloc (Below.refl _ _) _) _) _⟩
    by_cases k4 : kind = 4
    · subst k4
      cases g1 : exst set S.sets.length
      · go_enter Try.func102, Try.ntmps102
        go_wp2_with fail
        (refine wp_region_quiet_lit (by kernel_rfl) (by kernel_rfl) ?_; (repeat (first | go_big_quiet_step ((go_at_call 62; exact toQ (isB (exists_any _ _ _) g1))) | quiet_step ((go_at_call 62; exact toQ (isB (exists_any _ _ _) g1))))); (refine wpQuiet_nil ?_; intro _ hw'; obtain ⟨nq, hw''⟩ := hw'; subst hw''))
        go_wp2
        go_ret
        exact ⟨ret_bool (by (first | (simp [pceOk, *]; done) | (simp at g2; simp [pceOk, *]; try simp_all); try (by_cases hz : below = 0 <;> simp [hz]))), bDrew (bAlloc (bAlloc (Below.refl _ _) _) _) _⟩
      · cases g2 : term == 0
        · go_enter Try.func102, Try.ntmps102
          go_wp2_with fail
          (refine wp_region_quiet_lit (by kernel_rfl) (by kernel_rfl) ?_; (repeat (first | go_big_quiet_step ((go_at_call 62; exact toQ (isB (exists_any _ _ _) g1))) | quiet_step ((go_at_call 62; exact toQ (isB (exists_any _ _ _) g1))))); (refine wpQuiet_nil ?_; intro _ hw'; obtain ⟨nq, hw''⟩ := hw'; subst hw''))
          go_wp2
          go_ret
          exact ⟨ret_bool (by (first | (simp [pceOk, *]; done) | (simp at g2; simp [pceOk, *]; try simp_all); try (by_cases hz : below = 0 <;> simp [hz]))), bDrew (bAlloc (bAlloc (Below.refl _ _) _) _) _⟩
        · go_enter Try.func102, Try.ntmps102
          go_wp2_with fail
          (refine wp_region_quiet_lit (by kernel_rfl) (by kernel_rfl) ?_; (repeat (first | go_big_quiet_step ((go_at_call 62; exact toQ (isB (exists_any _ _ _) g1))) | quiet_step ((go_at_call 62; exact toQ (isB (exists_any _ _ _) g1))))); (refine wpQuiet_nil ?_; intro _ hw'; obtain ⟨nq, hw''⟩ := hw'; subst hw''))
          go_wp2
          go_ret
          exact ⟨ret_bool (by (first | (simp [pceOk, *]; done) | (simp at g2; simp [pceOk, *]; try simp_all); try (by_cases hz : below = 0 <;> simp [hz]))), bDrew (bAlloc (bAlloc (Below.refl _ _) _) _) _⟩
    by_cases k5 : kind = 5
    · subst k5
      cases g1 : exst term S.terms.length
      · go_enter Try.func102, Try.ntmps102
        go_wp2_with fail
        (refine wp_region_quiet_lit (by kernel_rfl) (by kernel_rfl) ?_; (repeat (first | go_big_quiet_step ((go_at_call 62; exact toQ (isB (exists_any _ _ _) g1))) | quiet_step ((go_at_call 62; exact toQ (isB (exists_any _ _ _) g1))))); (refine wpQuiet_nil ?_; intro _ hw'; obtain ⟨nq, hw''⟩ := hw'; subst hw''))
        go_wp2
        go_ret
        exact ⟨ret_bool (by (first | (simp [pceOk, *]; done) | (simp at g2; simp [pceOk, *]; try simp_all); try (by_cases hz : below = 0 <;> simp [hz]))), bDrew (bAlloc (bAlloc (Below.refl _ _) _) _) _⟩
      · cases g2 : set == 0
        · go_enter Try.func102, Try.ntmps102
          go_wp2_with fail
          (refine wp_region_quiet_lit (by kernel_rfl) (by kernel_rfl) ?_; (repeat (first | go_big_quiet_step ((go_at_call 62; exact toQ (isB (exists_any _ _ _) g1))) | quiet_step ((go_at_call 62; exact toQ (isB (exists_any _ _ _) g1))))); (refine wpQuiet_nil ?_; intro _ hw'; obtain ⟨nq, hw''⟩ := hw'; subst hw''))
          go_wp2
          go_ret
          exact ⟨ret_bool (by (first | (simp [pceOk, *]; done) | (simp at g2; simp [pceOk, *]; try simp_all); try (by_cases hz : below = 0 <;> simp [hz]))), bDrew (bAlloc (bAlloc (Below.refl _ _) _) _) _⟩
        · go_enter Try.func102, Try.ntmps102
          go_wp2_with fail
          (refine wp_region_quiet_lit (by kernel_rfl) (by kernel_rfl) ?_; (repeat (first | go_big_quiet_step ((go_at_call 62; exact toQ (isB (exists_any _ _ _) g1))) | quiet_step ((go_at_call 62; exact toQ (isB (exists_any _ _ _) g1))))); (refine wpQuiet_nil ?_; intro _ hw'; obtain ⟨nq, hw''⟩ := hw'; subst hw''))
          go_wp2
          go_ret
          exact ⟨ret_bool (by (first | (simp [pceOk, *]; done) | (simp at g2; simp [pceOk, *]; try simp_all); try (by_cases hz : below = 0 <;> simp [hz]))), bDrew (bAlloc (bAlloc (Below.refl _ _) _) _) _⟩
    go_enter Try.func102, Try.ntmps102
    go_wp2_with fail
    go_ret
    exact ⟨ret_bool (by simp [pceOk, *]), bAlloc (bAlloc (Below.refl _ _) _) _⟩
end Go.Proofs.Ytfcopnlpcbbocaa
