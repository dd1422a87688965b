/- Contracts: the numbers up to one, as an iterator. -/
import Derived.Test.YtfcopnlpcbbocaaG1
import Derived.LoopNIn
import Derived.LoopIn
import Derived.Shelf.Abstract
namespace Go.Proofs.Ytfcopnlpcbbocaa
open Go.RowKit Go.Shelf
attribute [local go_sem] Oper.semAt_some

abbrev UpTo (N : Nat) := { n : Nat // n < N }
def upL (N : Nat) : List (UpTo N) := (List.range N).pmap (fun n h => ⟨n, h⟩) (fun _ h => List.mem_range.1 h)
theorem upL_length (N : Nat) : (upL N).length = N := by simp [upL]
theorem upL_get (N k : Nat) (h : k < (upL N).length) : (upL N)[k] = ⟨k, by rw [upL_length] at h; exact h⟩ := by
  simp only [upL, List.getElem_pmap, List.getElem_range]
theorem upL_val (N : Nat) : (upL N).map Subtype.val = List.range N := by
  unfold upL
  rw [List.map_pmap]
  simp
abbrev encN {N : Nat} (x : UpTo N) : Array Value := #[.int .i64 (x.1 : Int)]

set_option maxRecDepth 100000 in
set_option maxHeartbeats 2000000 in
theorem upTo1_says (m last b : Nat) (Kp : World → World → Prop) (w : World) (hl : last ≤ 20000) (hc : w.cell? ⟨b, 0, none⟩ = some (.int .i64 (last : Int))) :
    SaysK m Try.prog 84 #[.pointer (some ⟨b, 0, none⟩)] (encN (N := last + 1)) Kp (upL (last + 1)) w := by
  intro l J Jx W hW hJ hY h0
  have c0 := keep hW hc
  have HY := Lib.hid hY
  have hl1 : (last : Int) ≤ 20000 := by omega
  have hl0 : (0 : Int) ≤ (last : Int) := by omega
  clear hY
  show CallsIn Fence.wide m Try.prog 84 #[.func (.yield l) #[] #[], .pointer (some ⟨b, 0, none⟩)] W _
  refine callsIn_of_wp Try.func84 rfl trivial ?_ rfl
  simp only [Try.ntmps84, List.size_toArray, List.length_cons, List.length_nil, Nat.reduceAdd, Nat.reduceSub, Array.replicate_succ, Array.replicate_zero, List.push_toArray, List.append_toArray, List.nil_append, List.cons_append]
  gi_wp2
  gi_loopw [3, 6] (fun _ i wr => ∃ k : Nat, k ≤ last + 1 ∧ i = .int .i64 k ∧ J ((upL (last + 1)).take k) wr) (fun _ i _ => last + 1 - (intOf i).toNat)
  case atStart => exact ⟨0, Nat.zero_le _, rfl, by simpa using h0⟩
  case round =>
    obtain ⟨k, hk, rfl, hJr⟩ := hrel
    by_cases hlt : k < last + 1
    · have hlen : k < (upL (last + 1)).length := by rw [upL_length]; exact hlt
      have hlti : (k : Int) < (last : Int) + 1 := by omega
      obtain ⟨fn, tmps, assign, body, hy, hR⟩ := yield_any (m - 1) (HY.out _ ⟨k, hlt⟩ wr hJr (by rw [List.length_take]; omega))
      dsimp only [encN] at hy
      have HT : Hid ((upL (last + 1)).take (k + 1) = (upL (last + 1)).take k ++ [⟨k, hlt⟩]) := Lib.hid (by rw [take_succ _ k hlen, upL_get])
      clear h0 hJr
      gi_wp2
      refine ⟨fun h => (by cases h), hR.mono ?_⟩
      rintro e W3 (⟨rfl, hJ3, -⟩ | ⟨rfl, -, hJx⟩)
      · have HJ3 : Hid (J ((upL (last + 1)).take (k + 1)) W3) := Lib.hid (by rw [HT.out]; exact hJ3)
        clear hJ3 hy hR
        gi_wp2
        go_roundw
        case rel => exact ⟨k + 1, by omega, by go_num, HJ3.out⟩
        case measure => simp [intOf]; omega
      · have HJX := Lib.hid hJx
        clear hJx hy hR
        gi_wp2
        refine bodyPost_ret (results_none rfl _ _ _) rfl ?_
        exact ⟨⟨_, rfl⟩, .inr ⟨_, by rw [← HT.out]; exact List.take_prefix _ _, HJX.out⟩⟩
    · obtain rfl : k = last + 1 := by omega
      have HF : Hid (J (upL (last + 1)) wr) := Lib.hid (by rw [List.take_of_length_le (by rw [upL_length]; omega)] at hJr; exact hJr)
      clear hJr
      gi_wp2
      go_end0
      exact ⟨⟨_, rfl⟩, .inl HF.out⟩
end Go.Proofs.Ytfcopnlpcbbocaa
