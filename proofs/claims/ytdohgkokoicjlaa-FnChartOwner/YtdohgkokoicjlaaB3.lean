import Derived.Test.YtdohgkokoicjlaaB2
import Derived.BigRegion
import Derived.Deep.RegionWith
set_option linter.unusedSimpArgs false
set_option linter.unusedVariables false
namespace Go.Proofs.Ytdohgkokoicjlaa
open Go.RowKit
end Go.Proofs.Ytdohgkokoicjlaa
