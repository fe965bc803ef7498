/-
  Amounts: what the program answers.
-/
import Derived.Test.YtfgcokcmmcpajabLaid
import Derived.Deep.DeepCutAuto
namespace Go.Proofs.Ytfgcokcmmcpajab
open Go.RowKit
set_option linter.unusedVariables false


end Go.Proofs.Ytfgcokcmmcpajab
