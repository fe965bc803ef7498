/-
  The laws' own copies of trees; two trees alike.
-/
import Derived.Test.YtfcenombphodbaaDoorTree
import Derived.Test.YtfcenombphodbaaDoorRegion3
namespace Go.Proofs.YtfcenombphodbaaDoor
open Go.RowKit
set_option linter.unusedVariables false
set_option maxRecDepth 100000

end Go.Proofs.YtfcenombphodbaaDoor
