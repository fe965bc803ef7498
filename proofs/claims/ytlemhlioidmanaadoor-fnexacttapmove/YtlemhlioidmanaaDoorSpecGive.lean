/-
  The model's TreeNew, TreeGive and TreeSplit.
-/
import Derived.Test.YtlemhlioidmanaaDoorSpecBack
namespace Go.Proofs.YtlemhlioidmanaaDoor
open Go.RowKit
set_option linter.unusedVariables false
set_option maxRecDepth 100000

/-- What TreeNew makes. -/
def newT (a b c : Int) : List Re := if amtOk a b c then [⟨true, -1, a, b, c⟩, noRe, noRe, noRe, noRe] else []
/-- What TreeGive answers. -/
def giveOk0 (ts : List Re) (i k : Int) (a b c : Int) : Bool := liveIn ts k && payOk ts i a b c
def giveOf (ts : List Re) (i k : Int) (a b c : Int) : List Re := if giveOk0 ts i k a b c then backOf (payT ts i a b c) k a b c else ts
def giveOk (ts : List Re) (i k : Int) (a b c : Int) : Bool := giveOk0 ts i k a b c && backOk (payT ts i a b c) a b c
theorem payT_length (ts : List Re) (i a b c : Int) : (payT ts i a b c).length = ts.length := by simp [payT]
end Go.Proofs.YtlemhlioidmanaaDoor
