/-
  Is a thing right: the model, every kind.
-/
import Derived.Test.YtbdljoldblpffaaGreatOkS1
import Derived.Test.YtbdljoldblpffaaGreatOkS2
import Derived.Test.YtbdljoldblpffaaGreatOkS3
import Derived.Test.YtbdljoldblpffaaGreatOkS4
namespace Go.Proofs.YtbdljoldblpffaaGreat
open Go.RowKit
set_option linter.unusedVariables false
set_option maxRecDepth 100000
set_option linter.unusedSimpArgs false

theorem specObjOk_any (o : Ob) (l d m : Value) (w : World) (hx : Lists w l d m o) (hn : obN o ≤ 1048576) (hf : Fits o) :
    Calls Tryz.prog 76 #[obV o l d m] w fun e w' => e = .returned (.bool (obOk o)) ∧ Below w.heap.size w w' := by
  by_cases h0 : o.kind = 0
  · exact specOk_k0 o l d m w hx hn hf h0
  by_cases h1 : o.kind = 1
  · exact specOk_k1 o l d m w hx hn hf h1
  by_cases h2 : o.kind = 2
  · exact specOk_k2 o l d m w hx hn hf h2
  by_cases h3 : o.kind = 3
  · exact specOk_k3 o l d m w hx hn hf h3
  by_cases h4 : o.kind = 4
  · exact specOk_k4 o l d m w hx hn hf h4
  exact specOk_kx o l d m w hx hn hf h0 h1 h2 h3 h4
end Go.Proofs.YtbdljoldblpffaaGreat
