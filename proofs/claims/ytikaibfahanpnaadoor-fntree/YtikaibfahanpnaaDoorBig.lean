/-
  The law's own 'big'.
-/
import Derived.Test.YtikaibfahanpnaaDoorDraws
namespace Go.Proofs.YtikaibfahanpnaaDoor
open Go.RowKit
set_option linter.unusedVariables false
set_option maxRecDepth 100000

set_option maxHeartbeats 400000 in
theorem big_yes (w : World) (a : Option Addr) (len cap : Nat) (h : (1048576 : Int) < (len : Int)) :
    Calls Tryd.prog 4 #[.slice a len cap] w fun e w' => e = .returned (.bool true) ∧ w = w' := by
  go_enter Tryd.func4, Tryd.ntmps4
  go_wp2
  go_ret
  exact ⟨by simp, rfl⟩
set_option maxHeartbeats 400000 in
theorem big_no (w : World) (a : Option Addr) (len cap : Nat) (h : ¬ (1048576 : Int) < (len : Int)) :
    Calls Tryd.prog 4 #[.slice a len cap] w fun e w' => e = .returned (.bool false) ∧ w = w' := by
  go_enter Tryd.func4, Tryd.ntmps4
  go_wp2
  go_ret
  exact ⟨by simp, rfl⟩
end Go.Proofs.YtikaibfahanpnaaDoor
