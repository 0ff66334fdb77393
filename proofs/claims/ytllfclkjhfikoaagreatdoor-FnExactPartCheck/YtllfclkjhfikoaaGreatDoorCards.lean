/-
  DERIVED. GIVEN WITH THE SEED: THE CARDS: each row of YtllfclkjhfikoaaGreatDoorRows.lean that lists a variable, with what it lists TIED to the program's text (the seventh form; the later family's looks); each row that meets fmt, with fmt's text TOLD by the authors' own Lean function (tested against real Go, not proved from fmt's source: count such statements apart). THE CARD IS WHAT COUNTS. Prove the row's statement (the work); the ties are given (YtllfclkjhfikoaaGreatDoorTie.lean); close each card by the builder's one call (the guide's Derived/Test/ToyasCard.lean, 'card_holds'). Laid BY PROGRAM, IN A SANDBOX (cutbox-door.mjs). By AI agents, Wed Nov 11 2026. No macro, syntax, notation, axiom, sorry.
-/
import Derived.Test.YtllfclkjhfikoaaGreatDoorRows
import GoSem.ClaimSeven
namespace Go.Proofs.YtllfclkjhfikoaaGreatDoor
namespace Rows

/-- THE TIED CARD OF 'laws.FnExactPartCheck'. -/
def fnExactPartCheckCard : Claim7 := { stood := { row := fnExactPartCheckRow, standIns := [], harness := (true, "9c474be841138030313ba21135596fa8f5c968cc0c90aaf384be5e140b39c8b1"), looks := true }, kinds := [], alts := [], laidByText := true, laidKinds := [.handle], laidTests := true, laidLooks := .later }
def FnExactPartCheckCardSaid : Prop := Claim7.holds Tryz.pinned (.plain (OpenSpec.ofChange fnExactPartCheckSpec)) fnExactPartCheckCard

/-- THE SECOND FORM's CARD OF 'laws.FnExactPartCheck'. -/
def fnExactPartCheckUptoCard : Claim7 := { stood := { row := fnExactPartCheckUptoRow, standIns := [], harness := (true, "9c474be841138030313ba21135596fa8f5c968cc0c90aaf384be5e140b39c8b1"), looks := true }, kinds := [], alts := [], laidByText := true, laidKinds := [.handle], laidTests := true, laidLooks := .later }
def FnExactPartCheckUptoCardSaid : Prop := Claim7.holds Tryz.pinned (.plain (OpenSpec.upto fnExactPartCheckSpec)) fnExactPartCheckUptoCard
end Rows
end Go.Proofs.YtllfclkjhfikoaaGreatDoor
