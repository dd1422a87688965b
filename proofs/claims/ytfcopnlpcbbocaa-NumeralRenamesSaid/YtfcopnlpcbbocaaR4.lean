/- Contracts of the specification: the words of a number. -/
import Derived.Test.YtfcopnlpcbbocaaR3
set_option linter.unusedSimpArgs false
set_option linter.unusedVariables false
namespace Go.Proofs.Ytfcopnlpcbbocaa
open Go.RowKit

/-- What the specification's spelling hands back. -/
def RefSpelled (S : Sys) (a : Ask) (e : Ending) (w' : World) : Prop :=
  (∃ ad n c ws, e = .returned (.tuple #[.slice ad n c, .bool true]) ∧ Hid (wordsOf S a = some ws ∧ SliceV w' (.slice ad n c) 1 StrAt ws)) ∨ (e = .returned (.tuple #[.slice none 0 0, .bool false]) ∧ Hid (wordsOf S a = none))
def own9 (t : Nat) : Bool := t == 9
theorem texts_take {l : List Item} {k : Nat} (h : k < l.length) : texts (l.take (k + 1)) = texts (l.take k) ++ [.string l[k].1.txt] := by
  unfold texts; rw [take_succ l k h, List.map_append]; rfl

set_option maxRecDepth 100000 in
set_option maxHeartbeats 4000000 in
theorem refSpell_any (S : Sys) (hS : Right S) (a : Ask) (ha : AskRight S a) (vt vp vs : Value) (w : World) (hp : SysParts w vt vp vs S) :
    Calls Try.prog 24 #[sysVal S vt vp vs, a.val] w fun e w' => RefSpelled S a e w' ∧ Below w.heap.size w w' := by
  have HP := Lib.hid hp
  have hnum := ha.num
  have htop := ha.top
  have hfew := items_few hS ha 0
  obtain ⟨i0, hi, hz0, hz1, hz2⟩ := info_parts info9
  have HI := Lib.hid hi
  clear hi
  have hk0 : a.num < ((a.num.toNat + 1 : Nat) : Int) := by omega
  have HC := Lib.hid (fun x hx => refTrace_any S hS (a.num.toNat + 1) a 0 ha hk0 (by omega) (by omega) vt vp vs x hx)
  have HNE : Hid (items S a 0 ≠ []) := Lib.hid (itemsF_ne hS (a.num.toNat + 1) a 0 ha hk0)
  have HWO : Hid (∀ b, (items S a 0).all Prod.snd = b → wordsOf S a = if b = true then some ((items S a 0).map fun x => x.1.txt) else none) := Lib.hid fun b h => by
    subst h; unfold wordsOf saidOf; split <;> simp
  obtain ⟨⟨at_, ct, rfl, -⟩, ⟨ap, cp, rfl, -⟩, ⟨as_, cs, rfl, -⟩⟩ := hp
  unfold sysVal Ask.val at HC
  unfold sysVal Ask.val
  change Hid (∀ x, _ → Calls Try.prog 23 _ x fun e w' => RefTraced (items S a 0) e w' ∧ _) at HC
  generalize hl : items S a 0 = l at *
  clear hl ha
  go_enter Try.func24, Try.ntmps24
  go_wp2_with (go_at_call 23; refine (HC.out _ (by exact HP.out.keep (bAlloc (bAlloc (Below.refl _ _) _) _))).mono ?_; rintro e w1 ⟨hres, hb⟩; rcases hres.shape HNE.out with ⟨cb, co, cc, rfl, HALX, HNEWS⟩ | ⟨ad, cc, rfl, HX2⟩; all_goals (have HB := Lib.hid (bThen (bAlloc (bAlloc (Below.refl _ _) _) _) hb); clear hres hb))
  · go_loopw [8, 9] (fun v i wr => ∃ k : Nat, k ≤ l.length ∧ i = .int .i64 k ∧ Hid (wr.ownsRow w1.heap.size 9 1 v k (texts (l.take k))) ∧ Below w1.heap.size w1 wr) (fun _ i _ => l.length - (intOf i).toNat)
    case atStart => exact ⟨0, Nat.zero_le _, rfl, Lib.hid (by simpa [texts] using World.ownsRow_nil _ _ _ _), Below.refl _ _⟩
    case round =>
      obtain ⟨k, hk, rfl, HROW, hB⟩ := hrel
      by_cases hlt : k < l.length
      · have hg := saids_get l k hlt 0 (by omega)
        rw [Nat.add_zero] at hg
        have c0 := HNEWS.out (k * 6) _ (hg.trans rfl)
        have hadd : (⟨cb, co, none⟩ : Addr).add (k * 6) = ⟨cb, co + k * 6, none⟩ := by unfold Addr.add; split <;> simp_all
        rw [hadd] at c0
        replace c0 := keep hB c0
        have hcl := cell_lt c0
        have HT := Lib.hid (texts_take hlt)
        clear hg hadd
        generalize l[k] = x at *
        have hsz := hB.size
        have HBr := Lib.hid hB
        clear hB
        go_wp2_with (at_builtin; refine wpList_append_lies _ rfl _ _ 37 rfl w1.heap.size 9 i0 (.string ByteArray.empty) 1 16 Try.underlying37 HI.out hz0 hz1 hz2 rfl (by decide) _ _ _ rfl (HROW.out.alloc _) ⟨wr.heap.size, 0, none⟩ 1 1 [.string x.1.txt] rfl rfl (cells_new _ _ _) (by simp [Value.oneCell']) (by omega) (by unfold maxLen; omega) (by omega) (by simp; omega) _ rfl ?_; intro g cap w6 hown hgrow hat6 hlt6; have HU := Lib.hid hown; have HKP := Lib.hid ((Kp.of_below (own := own9) (bAlloc (Below.refl _ _) _) hsz).trans (kp_grown hgrow (HROW.out.alloc _) rfl (by simp; omega))); clear hown hgrow hat6)
        go_roundw
        case rel => exact ⟨k + 1, by omega, by go_num, Lib.hid (by rw [HT.out]; exact HU.out), HBr.out.trans HKP.out.low⟩
        case measure => simp [intOf]; omega
      · obtain rfl : k = l.length := by omega
        obtain ⟨ad, cap, rfl⟩ := ownsRow_slice HROW.out
        go_wp2_with fail
        go_ret2
        refine ⟨.inl ⟨ad, _, cap, _, rfl, Lib.hid ⟨(HWO.out true HALX.out).trans rfl, ?_⟩⟩, bThen HB.out hB⟩
        have := HROW.out
        rw [List.take_length] at this
        exact texts_slice this hfew
  · go_loopw [8, 9] (fun v i wr => v = .slice none 0 0 ∧ i = .int .i64 0 ∧ wr = w1) (fun _ i _ => 0)
    case atStart => exact ⟨rfl, rfl, rfl⟩
    case round =>
      obtain ⟨rfl, rfl, rfl⟩ := hrel
      go_wp2_with fail
      go_ret2
      exact ⟨.inr ⟨rfl, Lib.hid ((HWO.out false HX2.out).trans rfl)⟩, HB.out⟩
end Go.Proofs.Ytfcopnlpcbbocaa
