/-
  Is a number a part, or a generation: the program.
-/
import Derived.Test.YtbdljoldblpffabBase8
namespace Go.Proofs.Ytbdljoldblpffab
open Go.RowKit
set_option linter.unusedVariables false
set_option maxRecDepth 100000

end Go.Proofs.Ytbdljoldblpffab
