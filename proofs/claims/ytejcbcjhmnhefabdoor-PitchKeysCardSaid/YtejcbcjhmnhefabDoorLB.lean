/- The table of semitones, out of the condition; the lifting of a law. -/
import Derived.Test.YtejcbcjhmnhefabDoorLA
import Derived.Test.YtejcbcjhmnhefabDoorTie
import Derived.Test.YtejcbcjhmnhefabDoorCards
import Derived.SevenTiedAt
set_option linter.unusedSimpArgs false
set_option linter.unusedVariables false
namespace Go.Proofs.YtejcbcjhmnhefabDoor
open Go.ChangeShapes Go.WideShapes Go.RowKit Go.Deep Go.ChangeAt

theorem semi_list : semit = [1048576, 1110928, 1176987, 1246974, 1321123, 1399681, 1482910, 1571089, 1664511, 1763488, 1868350, 1979448, 2097152] := rfl
set_option maxRecDepth 100000 in
theorem of_laid {W : World} (h : laidMetH Tryd.prog laidL W) : Semi W := by
  rw [MakeChecks.laidMetH_plain _ _ _ (by kernel_rfl)] at h
  obtain ⟨ps, ⟨g0, t0, cs0, f0, p0, q0, hg0, ht0, hv0, hd0, _, _⟩, _, _⟩ := h
  obtain rfl := Option.some.inj (gSemi.symm.trans hg0)
  obtain rfl := Option.some.inj (tSemi.symm.trans ht0)
  obtain ⟨xs, m1, hcs, hx1, hlen, hn3, hel⟩ := DataW.trod_array Tryd.underlying90 hd0
  simp only [Prod.mk.injEq] at hx1
  intro i hi
  have h1 := hel i hi
  rw [c3, Nat.mul_one] at h1
  have h2 : xs[i]? = some xs[i] := List.getElem?_eq_getElem (by omega)
  rw [h2] at h1
  obtain ⟨k, e1, e2, _⟩ := DataW.trod_int Tryd.underlying3 h1
  have h3 : cs0.toList[i]? = some (.int .i64 k) := by
    have := congrArg (fun l : List Value => l[0]?) e1
    simpa using this
  have h4 : (xs.map fun x => x.1)[i]? = some (DataW.lit (.int .i64 k)) := by
    rw [List.getElem?_map, h2]
    simp [e2]
  have h5 : (semit.map fun n => (DataW.lit (.int .i64 n) : DataW Unit))[i]? = some (DataW.lit (.int .i64 k)) := by
    have h6 : Rows.laid_declaim_api_Semitones = DataW.agg (semit.map fun n => (DataW.lit (.int .i64 n) : DataW Unit)) := rfl
    rw [h6] at hx1
    have h7 := hx1.1
    injection h7 with h7
    rw [h7]; exact h4
  rw [List.getElem?_map] at h5
  obtain ⟨n, hn, hk⟩ := Option.map_eq_some_iff.1 h5
  injection hk with hk
  injection hk with _ hk
  subst hk
  have h8 : semi i = n := by unfold semi; rw [List.getD, hn]; rfl
  rw [h8]
  have h9 := World.var?_cell gSemi hv0 i
  rw [h9]
  simpa using h3
end Go.Proofs.YtejcbcjhmnhefabDoor
