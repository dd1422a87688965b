/- Contracts: errors of asks, Check, Class. -/
import Derived.Test.YtfcopnlpcbbocaaC8
namespace Go.Proofs.Ytfcopnlpcbbocaa
open Go.RowKit

/-- The error of asks and of systems; a number above the greatest one that is gone through. -/
def scanErr (a : Ask) (Ss : List Sys) : Int := if (Ss.all fun S => askOk S a) then (if 20000 < a.num then 4 else 0) else 2

set_option maxHeartbeats 1000000 in
theorem scanError_any (a : Ask) (Ss : List Sys) (v : Value) (w : World) (hv : SliceV w v 7 SysAt Ss) :
    Calls Try.prog 53 #[a.val, v] w fun e w' => e = .returned (.int .i64 (scanErr a Ss)) ∧ Below w.heap.size w w' := by
  have HV := Lib.hid hv
  obtain ⟨sa, sc, rfl, hl, -⟩ := hv
  unfold Ask.val
  cases g1 : (Ss.all fun S => askOk S a)
  all_goals
    have G1 := Lib.hid g1
    clear g1
    go_enter Try.func53, Try.ntmps53
    go_wp2_with (go_at_call 47; refine (isB (askRight_any a Ss _ _ (by exact HV.out.keep SysAt.stable (bAlloc (Below.refl _ _) _))) G1.out).mono ?_; rintro e w1 ⟨rfl, hb1⟩; have HB1 := bThen (bAlloc (Below.refl _ _) _) hb1; obtain ⟨hc, hf⟩ := bcell hb1)
    all_goals
      go_ret
      exact ⟨ret_int (by simp only [scanErr, G1.out]; first | rfl | (simp; omega)), HB1⟩

set_option maxHeartbeats 1000000 in
theorem Check_any (S : Sys) (vt vp vs : Value) (w : World) (hp : SysParts w vt vp vs S) :
    Calls Try.prog 18 #[sysVal S vt vp vs] w fun e w' => e = .returned (.int .i64 (if sysOk S then 0 else 2)) ∧ Below w.heap.size w w' := by
  have HP := Lib.hid hp
  obtain ⟨⟨at_, ct, rfl, -⟩, ⟨ap, cp, rfl, -⟩, ⟨as_, cs, rfl, -⟩⟩ := hp
  unfold sysVal
  cases g1 : sysOk S
  all_goals
    have G1 := Lib.hid g1
    clear g1
    go_enter Try.func18, Try.ntmps18
    go_wp2_with (go_at_call 42; refine (isB (systemRight_any _ _ S _ (by exact ⟨_, _, _, by simp, by simp, by simp, by simp, by simp, by simp, by simp, HP.out.keep (bAlloc (Below.refl _ _) _)⟩)) G1.out).mono ?_; rintro e w1 ⟨rfl, hb1⟩; have HB1 := bThen (bAlloc (Below.refl _ _) _) hb1)
    go_ret
    exact ⟨ret_int (by simp), HB1⟩

theorem plu_mod (S : Sys) (h : sysOk S = true) : ∀ i (hi : i < S.plurals.length), 1 ≤ S.plurals[i].mod := by
  intro i hi
  simp only [sysOk, Bool.and_eq_true] at h
  have := (List.all_eq_true.1 h.1.2) _ (List.getElem_mem hi)
  simp [pluOk, betw] at this
  omega

def classRes (S : Sys) (n : Int) : Value := if sysOk S = true ∧ 0 ≤ n then .tuple #[.int .i64 (classOf n S.plurals), .int .i64 0] else .tuple #[.int .i64 0, .int .i64 2]
set_option maxHeartbeats 1000000 in
theorem Class_any (S : Sys) (n : Int) (vt vp vs : Value) (w : World) (hp : SysParts w vt vp vs S) :
    Calls Try.prog 16 #[sysVal S vt vp vs, .int .i64 n] w fun e w' => e = .returned (classRes S n) ∧ Below w.heap.size w w' := by
  have HP := Lib.hid hp
  obtain ⟨⟨at_, ct, rfl, -⟩, ⟨ap, cp, rfl, -⟩, ⟨as_, cs, rfl, -⟩⟩ := hp
  unfold sysVal
  cases g1 : sysOk S
  · have G1 := Lib.hid g1
    clear g1
    go_enter Try.func16, Try.ntmps16
    go_wp2_with (go_at_call 42; refine (isB (systemRight_any _ _ S _ (by exact ⟨_, _, _, by simp, by simp, by simp, by simp, by simp, by simp, by simp, HP.out.keep (bAlloc (Below.refl _ _) _)⟩)) G1.out).mono ?_; rintro e w1 ⟨rfl, hb1⟩; have HB1 := bThen (bAlloc (Below.refl _ _) _) hb1)
    go_ret2
    exact ⟨by rw [classRes, if_neg (by rw [G1.out]; simp)]; rfl, HB1⟩
  by_cases hn : 0 ≤ n
  · have hd : decide (n < 0) = false := by simp; omega
    have G1 := Lib.hid g1
    have HM := plu_mod S g1
    clear g1
    go_enter Try.func16, Try.ntmps16
    go_wp2_with (first
      | (go_at_call 42; refine (isB (systemRight_any _ _ S _ (by exact ⟨_, _, _, by simp, by simp, by simp, by simp, by simp, by simp, by simp, HP.out.keep (bAlloc (Below.refl _ _) _)⟩)) G1.out).mono ?_; rintro e w1 ⟨rfl, hb1⟩; have HB1 := bThen (bAlloc (Below.refl _ _) _) hb1; obtain ⟨hc, hf⟩ := bcell hb1)
      | (go_at_call 43; refine (newSpeller_any S _ _ _ _ (by exact HP.out.keep HB1)).mono ?_; rintro e w2 ⟨⟨pb, rfl, hs⟩, hb2⟩; have HB2 := bThen HB1 hb2; obtain ⟨⟨_, _, _, -, -, -, -, -, hs5, -, -, hsp, -⟩, -⟩ := hs; simp only [Nat.zero_add] at hs5)
      | (go_at_call 44; refine (classOf_any _ _ S.plurals _ n _ (by exact hs5) hsp hn HM).mono ?_; rintro e w3 ⟨rfl, hb3⟩; have HB3 := bThen HB2 hb3))
    go_ret2
    exact ⟨by rw [classRes, if_pos ⟨G1.out, hn⟩]; rfl, HB3⟩
  · have hd : decide (n < 0) = true := by simp; omega
    have HN := Lib.hid hn
    clear hn
    have G1 := Lib.hid g1
    clear g1
    go_enter Try.func16, Try.ntmps16
    go_wp2_with (go_at_call 42; refine (isB (systemRight_any _ _ S _ (by exact ⟨_, _, _, by simp, by simp, by simp, by simp, by simp, by simp, by simp, HP.out.keep (bAlloc (Below.refl _ _) _)⟩)) G1.out).mono ?_; rintro e w1 ⟨rfl, hb1⟩; have HB1 := bThen (bAlloc (Below.refl _ _) _) hb1)
    go_ret2
    exact ⟨by rw [classRes, if_neg (fun h => by have := HN.out; have := h.2; omega)]; rfl, HB1⟩
end Go.Proofs.Ytfcopnlpcbbocaa
