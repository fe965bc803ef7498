/-
  Amounts: what the program answers.
-/
import Derived.Test.YtfgcokcmmcpajaaAdd
namespace Go.Proofs.Ytfgcokcmmcpajaa
open Go.RowKit
set_option linter.unusedVariables false


end Go.Proofs.Ytfgcokcmmcpajaa
