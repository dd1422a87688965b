/- Contracts: the speller. -/
import Derived.Test.YtfcopnlpcbbocaaC0
import Derived.Test.YtfcopnlpcbbocaaProg
import Derived.RangeFuncRecord
import Derived.MapKept
import Derived.WideMake
set_option linter.unusedSimpArgs false
set_option linter.unusedVariables false
namespace Go.Proofs.Ytfcopnlpcbbocaa
open Go.RowKit

theorem run_mapUpdate_new {P : Program} {w : World} (mty kt et : TypeId) (d : TypeDesc) (r clock : Nat) (es : Array MapEntry) (k val : Value) (hm : P.underlying mty = some (.map kt et)) (hd : P.underlying kt = some d)
    (hk : MapKept.IsKey d k) (hb : w.heap[r]? = some (.map es clock)) (hf : Instr.findNow d k es.toList 0 = some none) :
    (Instr.mapUpdate mty (.map (some r)) k val).run P w = .ok () (w.putObj r (.map (es.push { key := k, val := val, born := clock }) (clock + 1))) := by
  have hc : (Instr.checkKey false 10000 kt k).run P w = .ok () w := MapKept.run_checkKey hd hk false 9999
  simp [Instr.mapUpdate, run_underlying hm, MapKept.run_getObj_map hb, hc, MapKept.run_findKey hd hf, MapKept.run_setObj_map _ hb, Result.andThen, World.putObj]
theorem run_lookup_hit {P : Program} {w : World} (mty kt et : TypeId) (d : TypeDesc) (r clock i : Nat) (es : Array MapEntry) (k val : Value) (hm : P.underlying mty = some (.map kt et)) (hd : P.underlying kt = some d)
    (hk : MapKept.IsKey d k) (hb : w.heap[r]? = some (.map es clock)) (hf : Instr.findNow d k es.toList 0 = some (some (i, val))) :
    (Instr.lookup mty (.map (some r)) k false).run P w = .ok val w := by
  have hc : ∀ e, (Instr.checkKey e 10000 kt k).run P w = .ok () w := fun e => MapKept.run_checkKey hd hk e 9999
  simp [Instr.lookup, run_underlying hm, MapKept.run_getObj_map hb, hc, MapKept.run_findKey hd hf, Result.andThen]
theorem putObj_at {w : World} {r : Nat} {o o' : Obj} (h : w.heap[r]? = some o) : (w.putObj r o').heap[r]? = some o' := by
  have hlt : r < w.heap.size := (Array.getElem?_eq_some_iff.1 h).1
  simp [World.putObj, hlt]
theorem putObj_put (w : World) (r : Nat) (o o' : Obj) : (w.putObj r o).putObj r o' = w.putObj r o' := by
  simp [World.putObj]
theorem below_putObj {w a : World} (h : Below w.heap.size w a) {r : Nat} (o : Obj) (hr : w.heap.size ≤ r) : Below w.heap.size w (a.putObj r o) :=
  ⟨h.os, h.tape, h.output, by have := h.size; simpa [World.putObj] using this, fun k hk => by
    have e := h.block k hk
    rw [← e]
    simp only [World.putObj]
    rw [Array.getElem?_setIfInBounds_ne (by omega)]⟩

/-- The map of what each kind of piece says. -/
def saysMap : Array MapEntry := #[⟨.int .i64 1, .func (.func 70) #[] #[], 0⟩, ⟨.int .i64 2, .func (.func 71) #[] #[], 1⟩, ⟨.int .i64 3, .func (.func 72) #[] #[], 2⟩, ⟨.int .i64 4, .func (.func 73) #[] #[], 3⟩, ⟨.int .i64 5, .func (.func 74) #[] #[], 4⟩]
/-- A speller in the heap: its system, and the map. -/
def SplAt (w : World) (b : Nat) (S : Sys) : Prop :=
  SysAt w b 0 S ∧ ∃ r, w.cell? ⟨b, 7, none⟩ = some (.map (some r)) ∧ w.heap[r]? = some (.map saysMap 5)
theorem heap_keep {w w' : World} (hB : Below w.heap.size w w') {r : Nat} {o : Obj} (h : w.heap[r]? = some o) : w'.heap[r]? = some o :=
  (hB.block r (Array.getElem?_eq_some_iff.1 h).1).trans h
theorem SplAt.keep {w w' : World} {b : Nat} {S : Sys} (hB : Below w.heap.size w w') (h : SplAt w b S) : SplAt w' b S :=
  ⟨SysAt.stable _ _ _ _ _ hB h.1, let ⟨r, h1, h2⟩ := h.2; ⟨r, Ytfcopnlpcbbocaa.keep hB h1, heap_keep hB h2⟩⟩

set_option maxRecDepth 100000 in
set_option maxHeartbeats 1000000 in
theorem newSpeller_any (S : Sys) (vt vp vs : Value) (w : World) (hp : SysParts w vt vp vs S) :
    Calls Try.prog 43 #[sysVal S vt vp vs] w fun e w' => (∃ b, e = .returned (.pointer (some ⟨b, 0, none⟩)) ∧ SplAt w' b S) ∧ Below w.heap.size w w' := by
  have HP := Lib.hid hp
  obtain ⟨⟨at_, ct, rfl, -⟩, ⟨ap, cp, rfl, -⟩, ⟨as_, cs, rfl, -⟩⟩ := hp
  unfold sysVal
  have hmm := @run_makeMap Try.prog
  go_enter Try.func43, Try.ntmps43
  go_wp2_with fail
  generalize hW : World.alloc (World.alloc w _) _ = W1
  have hB1 : Below w.heap.size w W1 := by rw [← hW]; exact bAlloc (bAlloc (Below.refl _ _) _) _
  have hm1 : W1.heap[w.heap.size + 1]? = some (.map #[] 0) := by rw [← hW]; have := World.alloc_heap_new (World.alloc w (.cells #[Value.int IntKind.i64 S.top, Value.int IntKind.i64 S.genders, Value.int IntKind.i64 S.cases, Value.int IntKind.i64 S.classes, Value.slice at_ S.terms.length ct, Value.slice ap S.plurals.length cp, Value.slice as_ S.sets.length cs] 26)) (.map #[] 0); rwa [World.size_alloc] at this
  clear hW
  have k1 := putObj_at (o' := .map #[⟨.int .i64 1, .func (.func 70) #[] #[], 0⟩] 1) hm1
  have k2 := putObj_at (o' := .map #[⟨.int .i64 1, .func (.func 70) #[] #[], 0⟩, ⟨.int .i64 2, .func (.func 71) #[] #[], 1⟩] 2) hm1
  have k3 := putObj_at (o' := .map #[⟨.int .i64 1, .func (.func 70) #[] #[], 0⟩, ⟨.int .i64 2, .func (.func 71) #[] #[], 1⟩, ⟨.int .i64 3, .func (.func 72) #[] #[], 2⟩] 3) hm1
  have k4 := putObj_at (o' := .map #[⟨.int .i64 1, .func (.func 70) #[] #[], 0⟩, ⟨.int .i64 2, .func (.func 71) #[] #[], 1⟩, ⟨.int .i64 3, .func (.func 72) #[] #[], 2⟩, ⟨.int .i64 4, .func (.func 73) #[] #[], 3⟩] 4) hm1
  have k5 := putObj_at (o' := .map saysMap 5) hm1
  have i1 := run_mapUpdate_new (P := Try.prog) 127 57 124 _ _ _ _ (.int .i64 1) (.func (.func 70) #[] #[]) Try.underlying127 Try.underlying57 (by simp [MapKept.IsKey]) hm1 rfl
  have i2 := run_mapUpdate_new (P := Try.prog) 127 57 124 _ _ _ _ (.int .i64 2) (.func (.func 71) #[] #[]) Try.underlying127 Try.underlying57 (by simp [MapKept.IsKey]) k1 rfl
  have i3 := run_mapUpdate_new (P := Try.prog) 127 57 124 _ _ _ _ (.int .i64 3) (.func (.func 72) #[] #[]) Try.underlying127 Try.underlying57 (by simp [MapKept.IsKey]) k2 rfl
  have i4 := run_mapUpdate_new (P := Try.prog) 127 57 124 _ _ _ _ (.int .i64 4) (.func (.func 73) #[] #[]) Try.underlying127 Try.underlying57 (by simp [MapKept.IsKey]) k3 rfl
  have i5 := run_mapUpdate_new (P := Try.prog) 127 57 124 _ _ _ _ (.int .i64 5) (.func (.func 74) #[] #[]) Try.underlying127 Try.underlying57 (by simp [MapKept.IsKey]) k4 rfl
  simp only [putObj_put, List.push_toArray, List.nil_append, List.cons_append, Nat.zero_add, Nat.reduceAdd] at i1 i2 i3 i4 i5
  clear k1 k2 k3 k4
  rw [i1]
  go_wp2_with fail
  clear i1 i2 i3 i4 i5
  change bodyPost _ _ _ _ _ ((W1.putObj (w.heap.size + 1) (Obj.map saysMap 5)).alloc _)
  have hsz : (W1.putObj (w.heap.size + 1) (Obj.map saysMap 5)).heap.size = W1.heap.size := by simp [World.putObj]
  have hB2 : Below w.heap.size w (W1.putObj (w.heap.size + 1) (Obj.map saysMap 5)) := below_putObj hB1 _ (by omega)
  have hm2 := k5
  generalize W1.putObj (w.heap.size + 1) (Obj.map saysMap 5) = W2 at *
  rw [← hsz]
  go_ret
  refine ⟨⟨_, rfl, ?_, w.heap.size + 1, ?_, ?_⟩, bAlloc hB2 _⟩
  · refine ⟨_, _, _, by simp, by simp, by simp, by simp, by simp, by simp, by simp, HP.out.keep (bAlloc hB2 _)⟩
  · simp
  · exact heap_keep (bAlloc (Below.refl _ _) _) hm2
end Go.Proofs.Ytfcopnlpcbbocaa
