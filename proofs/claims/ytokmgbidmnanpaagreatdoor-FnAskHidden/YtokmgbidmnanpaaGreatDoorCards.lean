/-
  DERIVED. GIVEN WITH THE SEED: THE CARDS: each row of YtokmgbidmnanpaaGreatDoorRows.lean that lists a variable, with what it lists TIED to the program's text (the seventh form; the later family's looks); each row that meets fmt, with fmt's text TOLD by the authors' own Lean function (tested against real Go, not proved from fmt's source: count such statements apart). THE CARD IS WHAT COUNTS. Prove the row's statement (the work); the ties are given (YtokmgbidmnanpaaGreatDoorTie.lean); close each card by the builder's one call (the guide's Derived/Test/ToyasCard.lean, 'card_holds'). Laid BY PROGRAM, IN A SANDBOX (cutbox-door.mjs). By AI agents, Wed Nov 11 2026. No macro, syntax, notation, axiom, sorry.
-/
import Derived.Test.YtokmgbidmnanpaaGreatDoorRows
import GoSem.ClaimSeven
namespace Go.Proofs.YtokmgbidmnanpaaGreatDoor
namespace Rows

/-- THE TIED CARD OF 'laws.FnAskSize'. -/
def fnAskSizeCard : Claim7 := { stood := { row := fnAskSizeRow, standIns := [], harness := (true, "c283c069695f6fa9e2a9649b16106d9608d28951d8242352e59f612f31e480a5"), looks := false }, kinds := [], alts := [], laidByText := true, laidKinds := [.data, .data, .data], laidTests := true, laidLooks := .later }
def FnAskSizeCardSaid : Prop := Claim7.holds Tryz.pinned (.plain (OpenSpec.ofChange fnAskSizeSpec)) fnAskSizeCard

/-- THE TIED CARD OF 'laws.FnAskWays'. -/
def fnAskWaysCard : Claim7 := { stood := { row := fnAskWaysRow, standIns := [], harness := (true, "c283c069695f6fa9e2a9649b16106d9608d28951d8242352e59f612f31e480a5"), looks := false }, kinds := [], alts := [], laidByText := true, laidKinds := [.data, .data, .data], laidTests := true, laidLooks := .later }
def FnAskWaysCardSaid : Prop := Claim7.holds Tryz.pinned (.plain (OpenSpec.ofChange fnAskWaysSpec)) fnAskWaysCard

/-- THE TIED CARD OF 'laws.FnAskJoin'. -/
def fnAskJoinCard : Claim7 := { stood := { row := fnAskJoinRow, standIns := [], harness := (true, "c283c069695f6fa9e2a9649b16106d9608d28951d8242352e59f612f31e480a5"), looks := false }, kinds := [], alts := [], laidByText := true, laidKinds := [.data, .data, .data], laidTests := true, laidLooks := .later }
def FnAskJoinCardSaid : Prop := Claim7.holds Tryz.pinned (.plain (OpenSpec.ofChange fnAskJoinSpec)) fnAskJoinCard

/-- THE TIED CARD OF 'laws.FnAskFields'. -/
def fnAskFieldsCard : Claim7 := { stood := { row := fnAskFieldsRow, standIns := [], harness := (true, "c283c069695f6fa9e2a9649b16106d9608d28951d8242352e59f612f31e480a5"), looks := false }, kinds := [], alts := [], laidByText := true, laidKinds := [.data, .data, .data], laidTests := true, laidLooks := .later }
def FnAskFieldsCardSaid : Prop := Claim7.holds Tryz.pinned (.plain (OpenSpec.ofChange fnAskFieldsSpec)) fnAskFieldsCard

/-- THE TIED CARD OF 'laws.FnAskHidden'. -/
def fnAskHiddenCard : Claim7 := { stood := { row := fnAskHiddenRow, standIns := [], harness := (true, "c283c069695f6fa9e2a9649b16106d9608d28951d8242352e59f612f31e480a5"), looks := false }, kinds := [], alts := [], laidByText := true, laidKinds := [.data, .data, .data], laidTests := true, laidLooks := .later }
def FnAskHiddenCardSaid : Prop := Claim7.holds Tryz.pinned (.plain (OpenSpec.ofChange fnAskHiddenSpec)) fnAskHiddenCard

/-- THE TIED CARD OF 'laws.FnPartBreaks'. -/
def fnPartBreaksCard : Claim7 := { stood := { row := fnPartBreaksRow, standIns := [], harness := (true, "c283c069695f6fa9e2a9649b16106d9608d28951d8242352e59f612f31e480a5"), looks := false }, kinds := [], alts := [], laidByText := true, laidKinds := [.data, .data, .data], laidTests := true, laidLooks := .later }
def FnPartBreaksCardSaid : Prop := Claim7.holds Tryz.pinned (.plain (OpenSpec.ofChange fnPartBreaksSpec)) fnPartBreaksCard

/-- THE SECOND FORM's CARD OF 'laws.FnAskSize'. -/
def fnAskSizeUptoCard : Claim7 := { stood := { row := fnAskSizeUptoRow, standIns := [], harness := (true, "c283c069695f6fa9e2a9649b16106d9608d28951d8242352e59f612f31e480a5"), looks := false }, kinds := [], alts := [], laidByText := true, laidKinds := [.data, .data, .data], laidTests := true, laidLooks := .later }
def FnAskSizeUptoCardSaid : Prop := Claim7.holds Tryz.pinned (.plain (OpenSpec.upto fnAskSizeSpec)) fnAskSizeUptoCard

/-- THE SECOND FORM's CARD OF 'laws.FnAskWays'. -/
def fnAskWaysUptoCard : Claim7 := { stood := { row := fnAskWaysUptoRow, standIns := [], harness := (true, "c283c069695f6fa9e2a9649b16106d9608d28951d8242352e59f612f31e480a5"), looks := false }, kinds := [], alts := [], laidByText := true, laidKinds := [.data, .data, .data], laidTests := true, laidLooks := .later }
def FnAskWaysUptoCardSaid : Prop := Claim7.holds Tryz.pinned (.plain (OpenSpec.upto fnAskWaysSpec)) fnAskWaysUptoCard

/-- THE SECOND FORM's CARD OF 'laws.FnAskJoin'. -/
def fnAskJoinUptoCard : Claim7 := { stood := { row := fnAskJoinUptoRow, standIns := [], harness := (true, "c283c069695f6fa9e2a9649b16106d9608d28951d8242352e59f612f31e480a5"), looks := false }, kinds := [], alts := [], laidByText := true, laidKinds := [.data, .data, .data], laidTests := true, laidLooks := .later }
def FnAskJoinUptoCardSaid : Prop := Claim7.holds Tryz.pinned (.plain (OpenSpec.upto fnAskJoinSpec)) fnAskJoinUptoCard

/-- THE SECOND FORM's CARD OF 'laws.FnAskFields'. -/
def fnAskFieldsUptoCard : Claim7 := { stood := { row := fnAskFieldsUptoRow, standIns := [], harness := (true, "c283c069695f6fa9e2a9649b16106d9608d28951d8242352e59f612f31e480a5"), looks := false }, kinds := [], alts := [], laidByText := true, laidKinds := [.data, .data, .data], laidTests := true, laidLooks := .later }
def FnAskFieldsUptoCardSaid : Prop := Claim7.holds Tryz.pinned (.plain (OpenSpec.upto fnAskFieldsSpec)) fnAskFieldsUptoCard

/-- THE SECOND FORM's CARD OF 'laws.FnAskHidden'. -/
def fnAskHiddenUptoCard : Claim7 := { stood := { row := fnAskHiddenUptoRow, standIns := [], harness := (true, "c283c069695f6fa9e2a9649b16106d9608d28951d8242352e59f612f31e480a5"), looks := false }, kinds := [], alts := [], laidByText := true, laidKinds := [.data, .data, .data], laidTests := true, laidLooks := .later }
def FnAskHiddenUptoCardSaid : Prop := Claim7.holds Tryz.pinned (.plain (OpenSpec.upto fnAskHiddenSpec)) fnAskHiddenUptoCard

/-- THE SECOND FORM's CARD OF 'laws.FnPartBreaks'. -/
def fnPartBreaksUptoCard : Claim7 := { stood := { row := fnPartBreaksUptoRow, standIns := [], harness := (true, "c283c069695f6fa9e2a9649b16106d9608d28951d8242352e59f612f31e480a5"), looks := false }, kinds := [], alts := [], laidByText := true, laidKinds := [.data, .data, .data], laidTests := true, laidLooks := .later }
def FnPartBreaksUptoCardSaid : Prop := Claim7.holds Tryz.pinned (.plain (OpenSpec.upto fnPartBreaksSpec)) fnPartBreaksUptoCard
end Rows
end Go.Proofs.YtokmgbidmnanpaaGreatDoor
