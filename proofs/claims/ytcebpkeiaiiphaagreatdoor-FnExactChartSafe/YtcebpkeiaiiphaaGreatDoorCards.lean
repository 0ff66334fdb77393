/-
  DERIVED. GIVEN WITH THE SEED: THE CARDS: each row of YtcebpkeiaiiphaaGreatDoorRows.lean that lists a variable, with what it lists TIED to the program's text (the seventh form; the later family's looks); each row that meets fmt, with fmt's text TOLD by the authors' own Lean function (tested against real Go, not proved from fmt's source: count such statements apart). THE CARD IS WHAT COUNTS. Prove the row's statement (the work); the ties are given (YtcebpkeiaiiphaaGreatDoorTie.lean); close each card by the builder's one call (the guide's Derived/Test/ToyasCard.lean, 'card_holds'). Laid BY PROGRAM, IN A SANDBOX (cutbox-door.mjs). By AI agents, Wed Nov 11 2026. No macro, syntax, notation, axiom, sorry.
-/
import Derived.Test.YtcebpkeiaiiphaaGreatDoorRows
import GoSem.ClaimSeven
namespace Go.Proofs.YtcebpkeiaiiphaaGreatDoor
namespace Rows

/-- THE TIED CARD OF 'laws.FnExactReachAll'. -/
def fnExactReachAllCard : Claim7 := { stood := { row := fnExactReachAllRow, standIns := [], harness := (true, "3bd198884140d0af3321361782604bf3642bdda45cb55ca8c1e23152a8736efb"), looks := true }, kinds := [], alts := [], laidByText := true, laidKinds := [.sentinel, .sentinel, .sentinel, .sentinel, .sentinel, .sentinel, .sentinel, .sentinel], laidTests := true, laidLooks := .later }
def FnExactReachAllCardSaid : Prop := Claim7.holds Tryz.pinned (.plain (OpenSpec.ofChange fnExactReachAllSpec)) fnExactReachAllCard

/-- THE TIED CARD OF 'laws.FnExactReachOk'. -/
def fnExactReachOkCard : Claim7 := { stood := { row := fnExactReachOkRow, standIns := [], harness := (true, "3bd198884140d0af3321361782604bf3642bdda45cb55ca8c1e23152a8736efb"), looks := true }, kinds := [], alts := [], laidByText := true, laidKinds := [.sentinel, .sentinel, .sentinel, .sentinel, .sentinel, .sentinel, .sentinel, .sentinel], laidTests := true, laidLooks := .later }
def FnExactReachOkCardSaid : Prop := Claim7.holds Tryz.pinned (.plain (OpenSpec.ofChange fnExactReachOkSpec)) fnExactReachOkCard

/-- THE TIED CARD OF 'laws.FnExactChartMoves'. -/
def fnExactChartMovesCard : Claim7 := { stood := { row := fnExactChartMovesRow, standIns := [], harness := (true, "3bd198884140d0af3321361782604bf3642bdda45cb55ca8c1e23152a8736efb"), looks := true }, kinds := [], alts := [], laidByText := true, laidKinds := [.handle, .sentinel, .sentinel, .sentinel, .sentinel, .sentinel, .sentinel, .sentinel, .sentinel], laidTests := true, laidLooks := .later }
def FnExactChartMovesCardSaid : Prop := Claim7.holds Tryz.pinned (.plain (OpenSpec.ofChange fnExactChartMovesSpec)) fnExactChartMovesCard

/-- THE TIED CARD OF 'laws.FnExactChartSafe'. -/
def fnExactChartSafeCard : Claim7 := { stood := { row := fnExactChartSafeRow, standIns := [], harness := (true, "3bd198884140d0af3321361782604bf3642bdda45cb55ca8c1e23152a8736efb"), looks := true }, kinds := [], alts := [], laidByText := true, laidKinds := [.sentinel, .sentinel, .sentinel, .sentinel, .sentinel, .sentinel, .sentinel, .sentinel], laidTests := true, laidLooks := .later }
def FnExactChartSafeCardSaid : Prop := Claim7.holds Tryz.pinned (.plain (OpenSpec.ofChange fnExactChartSafeSpec)) fnExactChartSafeCard

/-- THE SECOND FORM's CARD OF 'laws.FnExactReachAll'. -/
def fnExactReachAllUptoCard : Claim7 := { stood := { row := fnExactReachAllUptoRow, standIns := [], harness := (true, "3bd198884140d0af3321361782604bf3642bdda45cb55ca8c1e23152a8736efb"), looks := true }, kinds := [], alts := [], laidByText := true, laidKinds := [.sentinel, .sentinel, .sentinel, .sentinel, .sentinel, .sentinel, .sentinel, .sentinel], laidTests := true, laidLooks := .later }
def FnExactReachAllUptoCardSaid : Prop := Claim7.holds Tryz.pinned (.plain (OpenSpec.upto fnExactReachAllSpec)) fnExactReachAllUptoCard

/-- THE SECOND FORM's CARD OF 'laws.FnExactReachOk'. -/
def fnExactReachOkUptoCard : Claim7 := { stood := { row := fnExactReachOkUptoRow, standIns := [], harness := (true, "3bd198884140d0af3321361782604bf3642bdda45cb55ca8c1e23152a8736efb"), looks := true }, kinds := [], alts := [], laidByText := true, laidKinds := [.sentinel, .sentinel, .sentinel, .sentinel, .sentinel, .sentinel, .sentinel, .sentinel], laidTests := true, laidLooks := .later }
def FnExactReachOkUptoCardSaid : Prop := Claim7.holds Tryz.pinned (.plain (OpenSpec.upto fnExactReachOkSpec)) fnExactReachOkUptoCard

/-- THE SECOND FORM's CARD OF 'laws.FnExactChartMoves'. -/
def fnExactChartMovesUptoCard : Claim7 := { stood := { row := fnExactChartMovesUptoRow, standIns := [], harness := (true, "3bd198884140d0af3321361782604bf3642bdda45cb55ca8c1e23152a8736efb"), looks := true }, kinds := [], alts := [], laidByText := true, laidKinds := [.handle, .sentinel, .sentinel, .sentinel, .sentinel, .sentinel, .sentinel, .sentinel, .sentinel], laidTests := true, laidLooks := .later }
def FnExactChartMovesUptoCardSaid : Prop := Claim7.holds Tryz.pinned (.plain (OpenSpec.upto fnExactChartMovesSpec)) fnExactChartMovesUptoCard

/-- THE SECOND FORM's CARD OF 'laws.FnExactChartSafe'. -/
def fnExactChartSafeUptoCard : Claim7 := { stood := { row := fnExactChartSafeUptoRow, standIns := [], harness := (true, "3bd198884140d0af3321361782604bf3642bdda45cb55ca8c1e23152a8736efb"), looks := true }, kinds := [], alts := [], laidByText := true, laidKinds := [.sentinel, .sentinel, .sentinel, .sentinel, .sentinel, .sentinel, .sentinel, .sentinel], laidTests := true, laidLooks := .later }
def FnExactChartSafeUptoCardSaid : Prop := Claim7.holds Tryz.pinned (.plain (OpenSpec.upto fnExactChartSafeSpec)) fnExactChartSafeUptoCard
end Rows
end Go.Proofs.YtcebpkeiaiiphaaGreatDoor
