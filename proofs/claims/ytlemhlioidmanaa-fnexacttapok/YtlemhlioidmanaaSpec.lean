/-
  Amounts: what the model answers.
-/
import Derived.Test.YtlemhlioidmanaaAmt
namespace Go.Proofs.Ytlemhlioidmanaa
open Go.RowKit
set_option linter.unusedVariables false


/-- May the two be added? -/
def addOk (a b c d e f : Int) : Bool := amtOk a b c && amtOk d e f && amtOk (a + d) (b + e) (c + f)
/-- Does the first fit into the second? -/
def fitsIn (a b c d e f : Int) : Bool := amtOk a b c && amtOk d e f && (decide (a ≤ d) && decide (b ≤ e) && decide (c ≤ f))
theorem amtOk_true {a b c : Int} (h : amtOk a b c = true) : (0 ≤ a ∧ a ≤ 1000000) ∧ (0 ≤ b ∧ b ≤ 1000000) ∧ 0 ≤ c ∧ c ≤ 1000000 := by
  unfold amtOk numOk at h; simp at h; omega
theorem wrap_near {n : Int} (h0 : -4611686018427387904 ≤ n) (h1 : n < 4611686018427387904) : wrap64 n = n := by unfold wrap64; omega
theorem same_amt (a b c : Int) : (decide (a = a) && decide (b = b) && decide (c = c)) = true := by simp

end Go.Proofs.Ytlemhlioidmanaa
