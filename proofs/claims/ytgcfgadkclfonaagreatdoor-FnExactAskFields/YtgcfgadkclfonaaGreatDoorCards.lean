/-
  DERIVED. GIVEN WITH THE SEED: THE CARDS: each row of YtgcfgadkclfonaaGreatDoorRows.lean that lists a variable, with what it lists TIED to the program's text (the seventh form; the later family's looks); each row that meets fmt, with fmt's text TOLD by the authors' own Lean function (tested against real Go, not proved from fmt's source: count such statements apart). THE CARD IS WHAT COUNTS. Prove the row's statement (the work); the ties are given (YtgcfgadkclfonaaGreatDoorTie.lean); close each card by the builder's one call (the guide's Derived/Test/ToyasCard.lean, 'card_holds'). Laid BY PROGRAM, IN A SANDBOX (cutbox-door.mjs). By AI agents, Wed Nov 11 2026. No macro, syntax, notation, axiom, sorry.
-/
import Derived.Test.YtgcfgadkclfonaaGreatDoorRows
import GoSem.ClaimSeven
namespace Go.Proofs.YtgcfgadkclfonaaGreatDoor
namespace Rows

/-- THE TIED CARD OF 'laws.FnExactAskCheck'. -/
def fnExactAskCheckCard : Claim7 := { stood := { row := fnExactAskCheckRow, standIns := [], harness := (true, "971539a9e901ee19584fe97ffa451d639b201042018880eb166ee2d46048567f"), looks := false }, kinds := [], alts := [], laidByText := true, laidKinds := [.data, .data, .data], laidTests := true, laidLooks := .later }
def FnExactAskCheckCardSaid : Prop := Claim7.holds Tryz.pinned (.plain (OpenSpec.ofChange fnExactAskCheckSpec)) fnExactAskCheckCard

/-- THE TIED CARD OF 'laws.FnExactAskCost'. -/
def fnExactAskCostCard : Claim7 := { stood := { row := fnExactAskCostRow, standIns := [], harness := (true, "971539a9e901ee19584fe97ffa451d639b201042018880eb166ee2d46048567f"), looks := false }, kinds := [], alts := [], laidByText := true, laidKinds := [.data, .data, .data], laidTests := true, laidLooks := .later }
def FnExactAskCostCardSaid : Prop := Claim7.holds Tryz.pinned (.plain (OpenSpec.ofChange fnExactAskCostSpec)) fnExactAskCostCard

/-- THE TIED CARD OF 'laws.FnExactAskFields'. -/
def fnExactAskFieldsCard : Claim7 := { stood := { row := fnExactAskFieldsRow, standIns := [], harness := (true, "971539a9e901ee19584fe97ffa451d639b201042018880eb166ee2d46048567f"), looks := false }, kinds := [], alts := [], laidByText := true, laidKinds := [.data, .data, .data], laidTests := true, laidLooks := .later }
def FnExactAskFieldsCardSaid : Prop := Claim7.holds Tryz.pinned (.plain (OpenSpec.ofChange fnExactAskFieldsSpec)) fnExactAskFieldsCard

/-- THE SECOND FORM's CARD OF 'laws.FnExactAskCheck'. -/
def fnExactAskCheckUptoCard : Claim7 := { stood := { row := fnExactAskCheckUptoRow, standIns := [], harness := (true, "971539a9e901ee19584fe97ffa451d639b201042018880eb166ee2d46048567f"), looks := false }, kinds := [], alts := [], laidByText := true, laidKinds := [.data, .data, .data], laidTests := true, laidLooks := .later }
def FnExactAskCheckUptoCardSaid : Prop := Claim7.holds Tryz.pinned (.plain (OpenSpec.upto fnExactAskCheckSpec)) fnExactAskCheckUptoCard

/-- THE SECOND FORM's CARD OF 'laws.FnExactAskCost'. -/
def fnExactAskCostUptoCard : Claim7 := { stood := { row := fnExactAskCostUptoRow, standIns := [], harness := (true, "971539a9e901ee19584fe97ffa451d639b201042018880eb166ee2d46048567f"), looks := false }, kinds := [], alts := [], laidByText := true, laidKinds := [.data, .data, .data], laidTests := true, laidLooks := .later }
def FnExactAskCostUptoCardSaid : Prop := Claim7.holds Tryz.pinned (.plain (OpenSpec.upto fnExactAskCostSpec)) fnExactAskCostUptoCard

/-- THE SECOND FORM's CARD OF 'laws.FnExactAskFields'. -/
def fnExactAskFieldsUptoCard : Claim7 := { stood := { row := fnExactAskFieldsUptoRow, standIns := [], harness := (true, "971539a9e901ee19584fe97ffa451d639b201042018880eb166ee2d46048567f"), looks := false }, kinds := [], alts := [], laidByText := true, laidKinds := [.data, .data, .data], laidTests := true, laidLooks := .later }
def FnExactAskFieldsUptoCardSaid : Prop := Claim7.holds Tryz.pinned (.plain (OpenSpec.upto fnExactAskFieldsSpec)) fnExactAskFieldsUptoCard
end Rows
end Go.Proofs.YtgcfgadkclfonaaGreatDoor
