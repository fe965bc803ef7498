/-
  Amounts: what the program answers.
-/
import Derived.Test.YtlemhlioidmanaaLaid
import Derived.Deep.DeepCutAuto
namespace Go.Proofs.Ytlemhlioidmanaa
open Go.RowKit
set_option linter.unusedVariables false


end Go.Proofs.Ytlemhlioidmanaa
