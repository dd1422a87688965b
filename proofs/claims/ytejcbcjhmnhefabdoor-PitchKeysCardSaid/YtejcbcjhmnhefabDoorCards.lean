/-
  DERIVED. GIVEN WITH THE SEED: THE CARDS: each row of YtejcbcjhmnhefabDoorRows.lean that lists a variable, with what it lists TIED to the program's text (the seventh form; the later family's looks); each row that meets fmt, with fmt's text TOLD by the authors' own Lean function (tested against real Go, not proved from fmt's source: count such statements apart). THE CARD IS WHAT COUNTS. Prove the row's statement (the work); the ties are given (YtejcbcjhmnhefabDoorTie.lean); close each card by the builder's one call (the guide's Derived/Test/ToyasCard.lean, 'card_holds'). Laid BY PROGRAM, IN A SANDBOX (cutbox-door.mjs). By AI agents, Wed Nov 11 2026. No macro, syntax, notation, axiom, sorry.
-/
import Derived.Test.YtejcbcjhmnhefabDoorRows
import GoSem.ClaimSeven
namespace Go.Proofs.YtejcbcjhmnhefabDoor
namespace Rows

/-- THE TIED CARD OF 'declaimlaw05.PitchKeys'. -/
def pitchKeysCard : Claim7 := { stood := { row := pitchKeysRow, standIns := [], harness := (true, "377226681beccd766bcf66be76e8580d9e5aff5270273e5828d43fc3ce1aa862"), looks := false }, kinds := [], alts := [], laidByText := true, laidKinds := [.data], laidTests := true, laidLooks := .later }
def PitchKeysCardSaid : Prop := Claim7.holds Tryd.pinned (.plain (OpenSpec.ofChange pitchKeysSpec)) pitchKeysCard

/-- THE SECOND FORM's CARD OF 'declaimlaw05.PitchKeys'. -/
def pitchKeysUptoCard : Claim7 := { stood := { row := pitchKeysUptoRow, standIns := [], harness := (true, "377226681beccd766bcf66be76e8580d9e5aff5270273e5828d43fc3ce1aa862"), looks := false }, kinds := [], alts := [], laidByText := true, laidKinds := [.data], laidTests := true, laidLooks := .later }
def PitchKeysUptoCardSaid : Prop := Claim7.holds Tryd.pinned (.plain (OpenSpec.upto pitchKeysSpec)) pitchKeysUptoCard
end Rows
end Go.Proofs.YtejcbcjhmnhefabDoor
