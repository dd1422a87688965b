/- Contracts: sums of squares, mismatches, steps. -/
import Derived.Test.YtbeeddenidfenaaA6
set_option linter.unusedSimpArgs false
set_option linter.unusedVariables false
namespace Go.Proofs.Ytbeeddenidfenaa
open Go.RowKit

/-- The sum of squares. -/
def sqs (l : List Int) : Int := (l.map fun x => x * x).sum
theorem sqs_snoc (l : List Int) (x : Int) : sqs (l ++ [x]) = sqs l + x * x := by simp [sqs]
theorem sqs_in {l : List Int} {B : Int} (h : ∀ x ∈ l, 0 ≤ x * x ∧ x * x ≤ B) : 0 ≤ sqs l ∧ sqs l ≤ l.length * B := by
  induction l with
  | nil => simp [sqs]
  | cons x l ih =>
    have h1 := h x (List.mem_cons_self ..)
    have h2 := ih fun y hy => h y (List.mem_cons_of_mem _ hy)
    have e : sqs (x :: l) = x * x + sqs l := by simp [sqs]
    rw [e, List.length_cons]
    have e2 : ((l.length + 1 : Nat) : Int) * B = l.length * B + B := by rw [Int.natCast_add, Int.add_mul]; simp
    rw [e2]
    omega
theorem mul_in {a b A B : Int} (h1 : -A ≤ a) (h2 : a ≤ A) (h3 : -B ≤ b) (h4 : b ≤ B) : -(A * B) ≤ a * b ∧ a * b ≤ A * B := by
  have h : (a * b).natAbs ≤ (A * B).natAbs := by
    rw [Int.natAbs_mul, Int.natAbs_mul]
    exact Nat.mul_le_mul (by omega) (by omega)
  have h0 : 0 ≤ A * B := Int.mul_nonneg (by omega) (by omega)
  generalize a * b = x at *
  generalize A * B = y at *
  omega
theorem sq_in {x B : Int} (h1 : -B ≤ x) (h2 : x ≤ B) : 0 ≤ x * x ∧ x * x ≤ B * B := by
  refine ⟨?_, (mul_in h1 h2 h1 h2).2⟩
  rcases Int.le_total 0 x with h | h
  · exact Int.mul_nonneg h h
  · have := Int.mul_nonneg (show 0 ≤ -x by omega) (show 0 ≤ -x by omega)
    rwa [Int.neg_mul_neg] at this
/-- Numbers that are differences of samples at most. -/
def Md (l : List Int) : Prop := ∀ x ∈ l, -65535 ≤ x ∧ x ≤ 65535
theorem Sm.md {l : List Int} (h : Sm l) : Md l := fun x hx => by have := h x hx; omega
theorem Sm.drop {l : List Int} (h : Sm l) (i : Nat) : Sm (l.drop i) := fun x hx => h x (List.mem_of_mem_drop hx)
theorem Sm.take {l : List Int} (h : Sm l) (i : Nat) : Sm (l.take i) := fun x hx => h x (List.mem_of_mem_take hx)
theorem diffs_md {x y : List Int} (hx : Sm x) (hy : Sm y) : Md (diffs x y) := by
  intro d hd
  obtain ⟨i, hi, rfl⟩ := List.getElem_of_mem hd
  rw [diffs_get hi]
  have h1 := hx _ (List.getElem_mem (l := x) (n := i) (by unfold diffs at hi; rw [List.length_zipWith] at hi; omega))
  have h2 := hy _ (List.getElem_mem (l := y) (n := i) (by unfold diffs at hi; rw [List.length_zipWith] at hi; omega))
  omega
theorem sqs_md {l : List Int} (h : Md l) : 0 ≤ sqs l ∧ sqs l ≤ l.length * 4294836225 := sqs_in fun x hx => sq_in (h x hx).1 (h x hx).2
theorem Md.take {l : List Int} (h : Md l) (i : Nat) : Md (l.take i) := fun x hx => h x (List.mem_of_mem_take hx)
set_option maxHeartbeats 4000000 in
theorem squares_any (l : List Int) (v : Value) (w : World) (hv : SliceV w v 1 IntAt l) (hl : Md l) (hn : l.length ≤ 1000000) :
    Calls Try.prog 87 #[v] w fun e w' => e = .returned (.int .i64 (sqs l)) ∧ w = w' := by
  have HV := Lib.hid hv
  obtain ⟨a, c, rfl, -⟩ := hv
  have HM := Lib.hid hl
  clear hl
  go_enter Try.func87, Try.ntmps87
  go_wp2_with fail
  go_loopw [3, 8] (fun s i wr => ∃ k : Nat, k ≤ l.length ∧ i = .int .i64 k ∧ s = .int .i64 (sqs (l.take k)) ∧ w = wr) (fun _ i _ => l.length - (intOf i).toNat)
  case atStart => exact ⟨0, Nat.zero_le _, rfl, by simp [sqs], rfl⟩
  case round =>
    obtain ⟨k, hk, rfl, rfl, rfl⟩ := hrel
    by_cases hlt : k < l.length
    · obtain ⟨b, o, rfl, hf⟩ := HV.out.at (by intro h; simp [h] at hlt)
      have k0 := hf k hlt
      unfold IntAt at k0
      rw [Nat.mul_one] at k0
      have hm := HM.out _ (List.getElem_mem hlt)
      have HT : Hid (sqs (l.take (k + 1)) = sqs (l.take k) + l[k] * l[k]) := Lib.hid (by rw [take_succ l k hlt, sqs_snoc])
      have hs := sqs_md (HM.out.take k)
      rw [List.length_take_of_le (by omega)] at hs
      clear hf
      obtain ⟨x, hx⟩ : ∃ x, x = l[k] := ⟨_, rfl⟩
      rw [← hx] at k0 hm HT
      clear hx
      have hq := sq_in (x := x) (B := 65535) (by omega) (by omega)
      obtain ⟨s, hse⟩ : ∃ s, s = sqs (l.take k) := ⟨_, rfl⟩
      rw [← hse] at hs HT ⊢
      clear hse
      have q1 : IntKind.i64.wrap (x * x) = x * x := IntWalk.i64_in _ (by omega)
      have q2 : wrap64 (x * x) = x * x := IntWalk.wrap64_in _ (by omega)
      go_wp2_with fail
      go_roundw
      case rel => exact ⟨k + 1, by omega, by go_num, by rw [HT.out], by first | rfl | trivial⟩
      case measure => simp [intOf]; omega
    · obtain rfl : k = l.length := by omega
      go_wp2_with fail
      go_ret
      exact ⟨ret_int (by rw [List.take_length]), rfl⟩
/-- The mismatch of two parts. -/
def mism (x y : List Int) : Int := sqs (diffs x y)
set_option maxHeartbeats 1000000 in
theorem mismatch_any (x y : List Int) (v u : Value) (w : World) (hv : SliceV w v 1 IntAt x) (hu : SliceV w u 1 IntAt y) (hlen : x.length = y.length) (hx : Sm x) (hy : Sm y) (hn : x.length ≤ 1000000) :
    Calls Try.prog 63 #[v, u] w fun e w' => e = .returned (.int .i64 (mism x y)) ∧ Below w.heap.size w w' := by
  have H := Lib.hid (differences_any x y v u w hv hu hlen hx hy hn)
  have HS := Lib.hid (fun v W h => squares_any (diffs x y) v W h (diffs_md hx hy) (by rw [diffs_len hlen]; exact hn))
  obtain ⟨a, c, rfl, -⟩ := hv
  obtain ⟨b, d, rfl, -⟩ := hu
  clear hlen
  go_enter Try.func63, Try.ntmps63
  go_wp2_with (first
    | (go_at_call 85; refine H.out.mono ?_; rintro e w1 ⟨⟨g, rfl, hg, hs⟩, hb⟩; have HSL := Lib.hid hs; clear hs)
    | (go_at_call 87; refine (HS.out _ _ HSL.out).mono ?_; rintro e w2 ⟨rfl, rfl⟩))
  go_ret
  exact ⟨rfl, hb⟩
end Go.Proofs.Ytbeeddenidfenaa
