/-
  The program's TreeBack.
-/
import Derived.Test.YtfgcokcmmcpajabDoorClone
namespace Go.Proofs.YtfgcokcmmcpajabDoor
open Go.RowKit
set_option linter.unusedVariables false
set_option maxRecDepth 100000

theorem live_eq {ts : List Re} (h : treeOk ts = true) (i : Int) : livePl ts i = liveIn ts i := by
  have hl := treeOk_five h
  have e : decide (i < 5) = decide (i ≤ 4) := by
    by_cases h4 : i ≤ 4
    · rw [decide_eq_true h4, decide_eq_true (by omega)]
    · rw [decide_eq_false h4, decide_eq_false (by omega)]
  unfold livePl liveIn
  rw [h, hl]
  simp only [Bool.true_and, Int.cast_ofNat_Int, e]
theorem backOf_length (ts : List Re) (i a b c : Int) : (backOf ts i a b c).length = ts.length := by
  unfold backOf backT; split <;> simp
end Go.Proofs.YtfgcokcmmcpajabDoor
