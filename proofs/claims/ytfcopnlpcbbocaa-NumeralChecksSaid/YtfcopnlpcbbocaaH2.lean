/- Contracts: the chapter's examples hold. -/
import Derived.Test.YtfcopnlpcbbocaaH1
import Derived.KernelRfl
namespace Go.Proofs.Ytfcopnlpcbbocaa
open Go.RowKit

abbrev x242 : List ByteArray := [⟨#[116, 119, 111]⟩, ⟨#[104, 117, 110, 100, 114, 101, 100, 115]⟩, ⟨#[102, 111, 117, 114]⟩, ⟨#[116, 121]⟩, ⟨#[116, 119, 111]⟩]
abbrev x105 : List ByteArray := [⟨#[111, 110, 101]⟩, ⟨#[104, 117, 110, 100, 114, 101, 100]⟩, ⟨#[97, 110, 100]⟩, ⟨#[102, 105, 118, 101]⟩]
abbrev x30 : List ByteArray := [⟨#[116, 104, 114, 101, 101]⟩, ⟨#[116, 121]⟩]
abbrev t30 : List Said := [⟨⟨#[116, 104, 114, 101, 101]⟩, 3, 0, 3, 0, 1⟩, ⟨⟨#[116, 121]⟩, 30, 0, 10, 1, 0⟩]
theorem en_ok : sysOk enS = true := by kernel_rfl
theorem en_ask (n : Int) (h : betw n 0 999 = true) : askOk enS ⟨n, 0, 0, 0⟩ = true := by
  unfold askOk
  rw [en_ok, show enS.top = 999 from rfl, h]
  rfl
theorem en242 : wordsOf enS ⟨242, 0, 0, 0⟩ = some x242 := by kernel_rfl
theorem en105 : wordsOf enS ⟨105, 0, 0, 0⟩ = some x105 := by kernel_rfl
theorem en30 : saidOf enS ⟨30, 0, 0, 0⟩ = some t30 := by kernel_rfl
theorem en99 : readsTo enS ⟨99, 0, 0, 0⟩ (Int.toNat 99) x30 = [30] := by kernel_rfl
theorem enC : classRes enS 1000001 = .tuple #[.int .i64 1, .int .i64 0] := by
  unfold classRes
  rw [if_pos ⟨en_ok, by decide⟩, show classOf 1000001 enS.plurals = 1 by kernel_rfl]
theorem lit_strs (W : World) (l : List ByteArray) (hl : l.length ≤ most) : SliceV (W.alloc (.cells (strs l) 9)) (.slice (some ⟨W.heap.size, 0, none⟩) l.length l.length) 1 StrAt l :=
  ⟨_, l.length, rfl, hl, .inr ⟨W.heap.size, 0, rfl, fun i hi => by
    have := cell_new (V := W) (cs := strs l) (t := 9) (j := 0 + i * 1) (v := .string l[i]) (by simp [hi])
    exact this⟩⟩
theorem lit_ints (W : World) (l : List Int) (hl : l.length ≤ most) : SliceV (W.alloc (.cells (l.map (Value.int .i64)).toArray 3)) (.slice (some ⟨W.heap.size, 0, none⟩) l.length l.length) 1 IntAt l :=
  ⟨_, l.length, rfl, hl, .inr ⟨W.heap.size, 0, rfl, fun i hi => by
    have := cell_new (V := W) (cs := (l.map (Value.int .i64)).toArray) (t := 3) (j := 0 + i * 1) (v := .int .i64 l[i]) (by simp [hi])
    exact this⟩⟩

theorem spell_en {n : Int} {ws : List ByteArray} (hn : betw n 0 999 = true) (hw : wordsOf enS ⟨n, 0, 0, 0⟩ = some ws) (vt vp vs : Value) (W : World) (hp : SysParts W vt vp vs enS) :
    Calls Try.prog 20 #[sysVal enS vt vp vs, .agg #[.int .i64 n, .int .i64 0, .int .i64 0, .int .i64 0]] W fun e w' => (∃ ad cap, e = .returned (.tuple #[.slice ad ws.length cap, .int .i64 0]) ∧ SliceV w' (.slice ad ws.length cap) 1 StrAt ws) ∧ Below W.heap.size W w' := by
  refine (Spell_any enS ⟨n, 0, 0, 0⟩ vt vp vs W hp).mono ?_
  rintro e w' ⟨⟨h, -⟩ | ⟨-, h, -⟩ | ⟨-, xs, v, h, rfl, hs⟩, hb⟩
  · rw [en_ask n hn] at h; cases h
  · rw [hw] at h; cases h
  · rw [hw] at h
    obtain rfl := Option.some.inj h
    obtain ⟨ad, cap, rfl, -⟩ := id hs
    exact ⟨⟨ad, cap, rfl, hs⟩, hb⟩
theorem trace_en (vt vp vs : Value) (W : World) (hp : SysParts W vt vp vs enS) :
    Calls Try.prog 21 #[sysVal enS vt vp vs, .agg #[.int .i64 30, .int .i64 0, .int .i64 0, .int .i64 0]] W fun e w' => (∃ b o cap, e = .returned (.tuple #[.slice (some ⟨b, o, none⟩) 2 cap, .int .i64 0]) ∧ SaidAt w' b (o + 0) ⟨⟨#[116, 104, 114, 101, 101]⟩, 3, 0, 3, 0, 1⟩ ∧ SaidAt w' b (o + 6) ⟨⟨#[116, 121]⟩, 30, 0, 10, 1, 0⟩) ∧ Below W.heap.size W w' := by
  refine (Trace_any enS ⟨30, 0, 0, 0⟩ vt vp vs W hp).mono ?_
  rintro e w' ⟨⟨h, -⟩ | ⟨-, h, -⟩ | ⟨-, xs, v, h, rfl, hs⟩, hb⟩
  · rw [en_ask 30 (by decide)] at h; cases h
  · rw [en30] at h; cases h
  · rw [en30] at h
    obtain rfl := Option.some.inj h
    obtain ⟨ad, cap, rfl, -, hnil | ⟨b, o, rfl, hx⟩⟩ := hs
    · cases hnil
    · exact ⟨⟨b, o, cap, rfl, hx 0 (by decide), hx 1 (by decide)⟩, hb⟩
theorem read_en (vt vp vs vw : Value) (W : World) (hp : SysParts W vt vp vs enS) (hw : SliceV W vw 1 StrAt x30) :
    Calls Try.prog 27 #[sysVal enS vt vp vs, .agg #[.int .i64 99, .int .i64 0, .int .i64 0, .int .i64 0], vw] W fun e w' => (∃ ad cap, e = .returned (.tuple #[.slice ad 1 cap, .int .i64 0]) ∧ SliceV w' (.slice ad 1 cap) 1 IntAt [30]) ∧ Below W.heap.size W w' := by
  refine (Read_any enS ⟨99, 0, 0, 0⟩ x30 vt vp vs vw W hp hw).mono ?_
  have hz : scanErr ⟨99, 0, 0, 0⟩ [enS] = 0 := by
    unfold scanErr
    simp only [List.all_cons, List.all_nil, Bool.and_true]
    rw [if_pos (en_ask 99 (by decide))]
    rfl
  rintro e w' ⟨⟨h, -⟩ | ⟨-, h, -⟩ | ⟨-, -, v, rfl, hs⟩, hb⟩
  · exact absurd hz h
  · rw [show readsTo enS ⟨99, 0, 0, 0⟩ (Ask.num ⟨99, 0, 0, 0⟩).toNat x30 = [30] from en99] at h; cases h
  · rw [show readsTo enS ⟨99, 0, 0, 0⟩ (Ask.num ⟨99, 0, 0, 0⟩).toNat x30 = [30] from en99] at hs
    obtain ⟨ad, cap, rfl, -⟩ := id hs
    exact ⟨⟨ad, cap, rfl, hs⟩, hb⟩
theorem class_en (vt vp vs : Value) (W : World) (hp : SysParts W vt vp vs enS) : Calls Try.prog 16 #[sysVal enS vt vp vs, .int .i64 1000001] W fun e w' => e = .returned (.tuple #[.int .i64 1, .int .i64 0]) ∧ Below W.heap.size W w' := by
  have := Class_any enS 1000001 vt vp vs W hp
  rw [enC] at this
  exact this
theorem same_en {l : List ByteArray} {v u : Value} {W : World} (hv : SliceV W v 1 StrAt l) (hu : SliceV W u 1 StrAt l) : Calls Try.prog 25 #[v, u] W fun e w' => e = .returned (.bool true) ∧ Below W.heap.size W w' :=
  isB (Same_any l l v u W hv hu) (by simp)
theorem numbers_en {l : List Int} {v u : Value} {W : World} (hv : SliceV W v 1 IntAt l) (hu : SliceV W u 1 IntAt l) : Calls Try.prog 29 #[v, u] W fun e w' => e = .returned (.bool true) ∧ Below W.heap.size W w' :=
  isB (Numbers_any l l v u W hv hu) (by simp)
end Go.Proofs.Ytfcopnlpcbbocaa
