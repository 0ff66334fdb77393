/-
  DERIVED. GIVEN WITH THE SEED: THE CARDS: each row of YtibpieomldhomaaGreatDoorRows.lean that lists a variable, with what it lists TIED to the program's text (the seventh form; the later family's looks); each row that meets fmt, with fmt's text TOLD by the authors' own Lean function (tested against real Go, not proved from fmt's source: count such statements apart). THE CARD IS WHAT COUNTS. Prove the row's statement (the work); the ties are given (YtibpieomldhomaaGreatDoorTie.lean); close each card by the builder's one call (the guide's Derived/Test/ToyasCard.lean, 'card_holds'). Laid BY PROGRAM, IN A SANDBOX (cutbox-door.mjs). By AI agents, Wed Nov 11 2026. No macro, syntax, notation, axiom, sorry.
-/
import Derived.Test.YtibpieomldhomaaGreatDoorRows
import GoSem.ClaimSeven
namespace Go.Proofs.YtibpieomldhomaaGreatDoor
namespace Rows

/-- THE TIED CARD OF 'laws.FnPartField'. -/
def fnPartFieldCard : Claim7 := { stood := { row := fnPartFieldRow, standIns := [], harness := (true, "7c2c517261545b75a47baf1f1801a181c3458416e40b1aba96ad6af1c0ce5b32"), looks := true }, kinds := [], alts := [], laidByText := true, laidKinds := [.handle], laidTests := true, laidLooks := .later }
def FnPartFieldCardSaid : Prop := Claim7.holds Tryz.pinned (.plain (OpenSpec.ofChange fnPartFieldSpec)) fnPartFieldCard

/-- THE SECOND FORM's CARD OF 'laws.FnPartField'. -/
def fnPartFieldUptoCard : Claim7 := { stood := { row := fnPartFieldUptoRow, standIns := [], harness := (true, "7c2c517261545b75a47baf1f1801a181c3458416e40b1aba96ad6af1c0ce5b32"), looks := true }, kinds := [], alts := [], laidByText := true, laidKinds := [.handle], laidTests := true, laidLooks := .later }
def FnPartFieldUptoCardSaid : Prop := Claim7.holds Tryz.pinned (.plain (OpenSpec.upto fnPartFieldSpec)) fnPartFieldUptoCard
end Rows
end Go.Proofs.YtibpieomldhomaaGreatDoor
