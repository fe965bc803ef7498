/-
  The law's own 'big'.
-/
import Derived.Test.YtjceffhogoedaaaDraw2
namespace Go.Proofs.Ytjceffhogoedaaa
open Go.RowKit
set_option linter.unusedVariables false

set_option maxHeartbeats 400000 in
theorem big_yes (w : World) (a : Option Addr) (len cap : Nat) (h : (1048576 : Int) < (len : Int)) :
    Calls Try.prog 8 #[.slice a len cap] w fun e w' => e = .returned (.bool true) ∧ w = w' := by
  go_enter Try.func8, Try.ntmps8
  go_wp2
  go_ret
  exact ⟨by simp, rfl⟩
set_option maxHeartbeats 400000 in
theorem big_no (w : World) (a : Option Addr) (len cap : Nat) (h : ¬ (1048576 : Int) < (len : Int)) :
    Calls Try.prog 8 #[.slice a len cap] w fun e w' => e = .returned (.bool false) ∧ w = w' := by
  go_enter Try.func8, Try.ntmps8
  go_wp2
  go_ret
  exact ⟨by simp, rfl⟩
end Go.Proofs.Ytjceffhogoedaaa
