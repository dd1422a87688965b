/- Contracts: how many samples stretches have; a sample of a pulse. -/
import Derived.Test.YtbmbcbknoflpgaaB1
set_option linter.unusedSimpArgs false
set_option linter.unusedVariables false
namespace Go.Proofs.Ytbmbcbknoflpgaa
open Go.RowKit

/-- How many samples stretches have. -/
def smp : List Glo → Int
  | [] => 0
  | g :: l => g.per * g.len + smp l
theorem smp_snoc (l : List Glo) (g : Glo) : smp (l ++ [g]) = smp l + g.per * g.len := by
  induction l with
  | nil => simp [smp]
  | cons x l ih => simp only [List.cons_append, smp, ih]; omega
theorem glo_in {g : Glo} (h : gloOk g = true) : 1 ≤ g.per ∧ g.per ≤ 1000 ∧ 1 ≤ g.len ∧ g.len ≤ 2000 ∧ 0 ≤ g.opn ∧ g.opn ≤ g.len ∧ 0 ≤ g.hgt ∧ g.hgt ≤ 500 := by
  simp only [gloOk, Bool.and_eq_true, betw_iff] at h
  omega
theorem pl_in {g : Glo} (h : gloOk g = true) : 1 ≤ g.per * g.len ∧ g.per * g.len ≤ 2000000 := by
  have hi := glo_in h
  have h1 : g.per * g.len ≤ 1000 * 2000 := Int.mul_le_mul (by omega) (by omega) (by omega) (by omega)
  have h2 : 1 * 1 ≤ g.per * g.len := Int.mul_le_mul (by omega) (by omega) (by omega) (by omega)
  omega
theorem smp_in {l : List Glo} (h : l.all gloOk = true) : (l.length : Int) ≤ smp l ∧ smp l ≤ 2000000 * (l.length : Int) := by
  induction l with
  | nil => simp [smp]
  | cons x l ih =>
    simp only [List.all_cons, Bool.and_eq_true] at h
    have h1 := ih h.2
    have h2 := pl_in h.1
    simp only [smp, List.length_cons]
    omega
theorem all_take {α : Type} {p : α → Bool} {l : List α} (h : l.all p = true) (k : Nat) : (l.take k).all p = true := by
  rw [List.all_eq_true] at h ⊢
  exact fun x hx => h x (List.mem_of_mem_take hx)
set_option maxRecDepth 10000 in
set_option maxHeartbeats 1000000 in
theorem samplesOf_any (l : List Glo) (v : Value) (w : World) (hv : SliceV w v 4 GloAt l) (hl : l.length ≤ 200) (hg : l.all gloOk = true) :
    Calls Try.prog 78 #[v] w fun e w' => e = .returned (.int .i64 (smp l)) ∧ Below w.heap.size w w' := by
  have HV := Lib.hid hv
  have HG := Lib.hid hg
  obtain ⟨a, c, rfl, hl2, -⟩ := hv
  clear hg hl2
  go_enter Try.func78, Try.ntmps78
  go_wp2_with fail
  go_loopw [3, 8] (fun s i wr => ∃ k : Nat, k ≤ l.length ∧ i = .int .i64 k ∧ s = .int .i64 (smp (l.take k)) ∧ Hid (Below w.heap.size w wr)) (fun _ i _ => l.length - (intOf i).toNat)
  case atStart => exact ⟨0, Nat.zero_le _, rfl, rfl, Lib.hid (Below.refl _ _)⟩
  case round =>
    obtain ⟨k, hk, rfl, rfl, HB⟩ := hrel
    by_cases hlt : k < l.length
    · obtain ⟨b, o, rfl, hf⟩ := (HV.out.keep GloAt.stable HB.out).at (by intro h; simp [h] at hlt)
      obtain ⟨k0, k1, k2, k3⟩ := hf k hlt
      have HT : Hid (smp (l.take (k + 1)) = smp (l.take k) + l[k].per * l[k].len) := Lib.hid (by rw [take_succ l k hlt, smp_snoc])
      have hkk : (k : Int) < (l.length : Int) := by omega
      have hp := pl_in (List.all_eq_true.1 HG.out _ (List.getElem_mem hlt))
      have hs := smp_in (all_take HG.out k)
      rw [List.length_take_of_le hk] at hs
      clear hf
      generalize l[k] = x at *
      obtain ⟨xp, xl, xo, xh⟩ := x
      unfold IntAt at k0 k1 k2 k3
      have hkb := cell_lt k0
      simp only at k0 k1 k2 k3 HT hp
      generalize smp (l.take k) = s at *
      obtain ⟨p, hpp⟩ : ∃ p, xp * xl = p := ⟨_, rfl⟩
      rw [hpp] at hp HT
      have u1 : IntKind.i64.wrap (xp * xl) = p := by rw [hpp]; exact IntWalk.i64_in _ (by omega)
      have u2 : IntKind.i64.wrap (s + p) = s + p := IntWalk.i64_in _ (by omega)
      clear hpp
      go_wp2_with fail
      go_roundw
      case rel => exact ⟨k + 1, by omega, by go_num, by rw [HT.out], Lib.hid (bAlloc HB.out _)⟩
      case measure => simp [intOf]; omega
    · obtain rfl : k = l.length := by omega
      rw [List.take_length]
      go_wp2_with fail
      go_ret
      exact ⟨rfl, HB.out⟩
/-- A sample of a period. -/
def pls (g : Glo) (j : Int) : Int := if g.opn ≤ j then 0 else (4 * g.hgt * j * (g.opn - j)).tdiv (g.opn * g.opn)
theorem pls_num {g : Glo} (h : gloOk g = true) {j : Int} (h0 : 0 ≤ j) (h1 : j < g.opn) : 0 ≤ 4 * g.hgt * j ∧ 4 * g.hgt * j ≤ 4000000 ∧ 0 ≤ 4 * g.hgt * j * (g.opn - j) ∧ 4 * g.hgt * j * (g.opn - j) ≤ 8000000000 ∧ 1 ≤ g.opn * g.opn ∧ g.opn * g.opn ≤ 4000000 := by
  have hi := glo_in h
  have a1 : 4 * g.hgt * j ≤ 2000 * 2000 := Int.mul_le_mul (by omega) (by omega) (by omega) (by omega)
  have a2 : 0 ≤ 4 * g.hgt * j := Int.mul_nonneg (by omega) (by omega)
  have a3 : 4 * g.hgt * j * (g.opn - j) ≤ 4000000 * 2000 := Int.mul_le_mul (by omega) (by omega) (by omega) (by omega)
  have a4 : 0 ≤ 4 * g.hgt * j * (g.opn - j) := Int.mul_nonneg a2 (by omega)
  have a5 : g.opn * g.opn ≤ 2000 * 2000 := Int.mul_le_mul (by omega) (by omega) (by omega) (by omega)
  have a6 : 1 * 1 ≤ g.opn * g.opn := Int.mul_le_mul (by omega) (by omega) (by omega) (by omega)
  omega
set_option maxHeartbeats 1000000 in
theorem pulse_any (g : Glo) (j : Int) (w : World) (hg : gloOk g = true) (hj : 0 ≤ j) : Calls Try.prog 103 #[.agg #[.int .i64 g.per, .int .i64 g.len, .int .i64 g.opn, .int .i64 g.hgt], .int .i64 j] w fun e w' => e = .returned (.int .i64 (pls g j)) ∧ Below w.heap.size w w' := by
  have hi := glo_in hg
  by_cases h1 : g.opn ≤ j
  · have hd : pls g j = 0 := by unfold pls; rw [if_pos h1]
    rw [hd]
    clear hd
    obtain ⟨p, l, o, h⟩ := g
    simp only at *
    go_enter Try.func103, Try.ntmps103
    go_wp2
    go_ret
    exact ⟨rfl, bAlloc (Below.refl _ _) _⟩
  · have hn := pls_num hg hj (by omega)
    have hd : pls g j = (4 * g.hgt * j * (g.opn - j)).tdiv (g.opn * g.opn) := by unfold pls; rw [if_neg h1]
    have ht := tdiv64 (a := 4 * g.hgt * j * (g.opn - j)) (b := g.opn * g.opn) (by omega) (by omega)
    rw [← hd] at ht
    obtain ⟨p, l, o, h⟩ := g
    simp only at *
    generalize pls _ j = r at *
    obtain ⟨x, hx⟩ : ∃ x, 4 * h * j = x := ⟨_, rfl⟩
    rw [hx] at hn hd
    obtain ⟨y, hy⟩ : ∃ y, x * (o - j) = y := ⟨_, rfl⟩
    rw [hy] at hn hd
    obtain ⟨z, hz⟩ : ∃ z, o * o = z := ⟨_, rfl⟩
    rw [hz] at hn hd
    have u1 : IntKind.i64.wrap (4 * h) = 4 * h := IntWalk.i64_in _ (by omega)
    have u2 : IntKind.i64.wrap (4 * h * j) = x := by rw [hx]; exact IntWalk.i64_in _ (by omega)
    have u3 : IntKind.i64.wrap (o - j) = o - j := IntWalk.i64_in _ (by omega)
    have u4 : IntKind.i64.wrap (x * (o - j)) = y := by rw [hy]; exact IntWalk.i64_in _ (by omega)
    have u5 : IntKind.i64.wrap (o * o) = z := by rw [hz]; exact IntWalk.i64_in _ (by omega)
    have u6 : ¬ z = 0 := by omega
    have u7 : (z == 0) = false := by simp; omega
    have u8 : y.tdiv z = r := hd.symm
    have u9 : IntKind.i64.wrap r = r := IntWalk.i64_in _ (by omega)
    clear hx hy hz hd hn hi hg
    go_enter Try.func103, Try.ntmps103
    go_wp2
    go_ret
    exact ⟨rfl, bAlloc (Below.refl _ _) _⟩
end Go.Proofs.Ytbmbcbknoflpgaa
