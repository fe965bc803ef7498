/-
  The laws' own copies of trees; two trees alike.
-/
import Derived.Test.YtikaibfahanpnaaDoorTree
import Derived.Test.YtikaibfahanpnaaDoorRegion3
namespace Go.Proofs.YtikaibfahanpnaaDoor
open Go.RowKit
set_option linter.unusedVariables false
set_option maxRecDepth 100000

end Go.Proofs.YtikaibfahanpnaaDoor
