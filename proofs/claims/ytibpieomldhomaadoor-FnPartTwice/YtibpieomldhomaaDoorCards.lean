/-
  DERIVED. GIVEN WITH THE SEED: THE CARDS: each row of YtibpieomldhomaaDoorRows.lean that lists a variable, with what it lists TIED to the program's text (the seventh form; the later family's looks); each row that meets fmt, with fmt's text TOLD by the authors' own Lean function (tested against real Go, not proved from fmt's source: count such statements apart). THE CARD IS WHAT COUNTS. Prove the row's statement (the work); the ties are given (YtibpieomldhomaaDoorTie.lean); close each card by the builder's one call (the guide's Derived/Test/ToyasCard.lean, 'card_holds'). Laid BY PROGRAM, IN A SANDBOX (cutbox-door.mjs). By AI agents, Wed Nov 11 2026. No macro, syntax, notation, axiom, sorry.
-/
import Derived.Test.YtibpieomldhomaaDoorRows
import GoSem.ClaimSeven
namespace Go.Proofs.YtibpieomldhomaaDoor
namespace Rows

/-- THE TIED CARD OF 'laws.FnPartTwice'. -/
def fnPartTwiceCard : Claim7 := { stood := { row := fnPartTwiceRow, standIns := [], harness := (true, "cd2bb4077614bfed925fef638ed8273d5378b8e2e8b661bdf6bcf5ab846e2c6a"), looks := true }, kinds := [], alts := [], laidByText := true, laidKinds := [.handle], laidTests := true, laidLooks := .later }
def FnPartTwiceCardSaid : Prop := Claim7.holds Tryd.pinned (.plain (OpenSpec.ofChange fnPartTwiceSpec)) fnPartTwiceCard

/-- THE SECOND FORM's CARD OF 'laws.FnPartTwice'. -/
def fnPartTwiceUptoCard : Claim7 := { stood := { row := fnPartTwiceUptoRow, standIns := [], harness := (true, "cd2bb4077614bfed925fef638ed8273d5378b8e2e8b661bdf6bcf5ab846e2c6a"), looks := true }, kinds := [], alts := [], laidByText := true, laidKinds := [.handle], laidTests := true, laidLooks := .later }
def FnPartTwiceUptoCardSaid : Prop := Claim7.holds Tryd.pinned (.plain (OpenSpec.upto fnPartTwiceSpec)) fnPartTwiceUptoCard
end Rows
end Go.Proofs.YtibpieomldhomaaDoor
