/-
  What the cards of asks share: the library's table of powers of ten lies as the row lists it; a world that meets the condition.
-/
import Derived.Test.YtmeopghhgpbhpaaDoorAText1
import Derived.Test.YtmeopghhgpbhpaaDoorRows
import Derived.Test.YtmeopghhgpbhpaaDoorCards
import Derived.Test.YtmeopghhgpbhpaaDoorTie
import Derived.ProofKit
import Derived.LaidMore
import Derived.OpenShut
import Derived.Stop.Joined
import Derived.SizedLaws
import Derived.Lib.LaidTab
import Derived.SevenTiedAt
import Derived.ChangeOld
import Derived.JoinedOf
import Derived.Stop.LaidErr
namespace Go.Proofs.YtmeopghhgpbhpaaDoor
set_option linter.unusedSimpArgs false
set_option linter.unusedVariables false
open Go.ChangeShapes Go.WideShapes Go.ChangeAt Go.RowKit

theorem Tryd.own : ownKnob Tryd.prog.godebug = none := by kernel_rfl
theorem Tryd.laidOut : laidOutB Tryd.prog = true := by kernel_rfl
theorem Tryd.gpow : Tryd.prog.globalNamed "internal/strconv.uint64pow10" = some 1 := by kernel_rfl
theorem Tryd.tpow : (Tryd.prog.globals[1]?).map (·.type) = some 114 := by kernel_rfl
theorem Tryd.cpow : Tryd.prog.cellsOf 114 = 20 := by kernel_rfl
theorem Tryd.cu64 : Tryd.prog.cellsOf 107 = 1 := by kernel_rfl

theorem door_met (os : Os) (args : Array Value) : laidMetH Tryd.prog Rows.fnExactAskOkRow.laid ((World.doorLaid Tryd.prog 24 os).forCall (fun _ _ => 0) ⟨#[], args, []⟩).memory :=
  laidMetH_of_parts3 (fuel := 8) (laidMet_of_run' 8 (by kernel_rfl) (by kernel_rfl)) (by kernel_rfl) (by kernel_rfl)
theorem tab_of_laid {W : World} (h : laidMetH Tryd.prog Rows.fnExactAskOkRow.laid W) : Tab W.heap.size W := by
  rw [MakeChecks.laidMetH_plain _ _ _ (by kernel_rfl)] at h
  have h1 : Lib.TabIs Tryd.prog W "internal/strconv.uint64pow10" .u64 Lib.pow10Tab := Lib.tabIs_of_head (rest := []) Tryd.gpow Tryd.tpow Tryd.underlying114 Tryd.underlying107 Tryd.cu64 Tryd.cpow (laidMet.tail (laidMet.tail h))
  exact Lib.tabBelow_of_tabIs h1
end Go.Proofs.YtmeopghhgpbhpaaDoor
