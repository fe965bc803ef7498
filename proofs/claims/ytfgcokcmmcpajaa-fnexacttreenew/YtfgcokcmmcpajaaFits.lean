/-
  Amounts: what the program answers.
-/
import Derived.Test.YtfgcokcmmcpajaaLaid
import Derived.Deep.DeepCutAuto
namespace Go.Proofs.Ytfgcokcmmcpajaa
open Go.RowKit
set_option linter.unusedVariables false


end Go.Proofs.Ytfgcokcmmcpajaa
