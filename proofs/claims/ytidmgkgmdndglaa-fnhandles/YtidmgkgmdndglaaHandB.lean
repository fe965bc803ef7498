/-
  Is a number a part, or a generation: the program.
-/
import Derived.Test.YtidmgkgmdndglaaBase8
namespace Go.Proofs.Ytidmgkgmdndglaa
open Go.RowKit
set_option linter.unusedVariables false

theorem isPart_b (k : Int) (w : World) :
    Calls Try.prog 14 #[.int .i64 k] w fun r w' => r = .returned (.bool (inB k 0 2)) ∧ w = w' := by
  by_cases h1 : 0 ≤ k
  · by_cases h2 : k ≤ 2
    · rw [inB_yes h1 (by omega)]
      go_enter Try.func14, Try.ntmps14
      go_wp2
      go_ret
      exact ⟨by simp; try omega, rfl⟩
    · rw [inB_no (by omega)]
      go_enter Try.func14, Try.ntmps14
      go_wp2
      go_ret
      exact ⟨by simp; try omega, rfl⟩
  · rw [inB_no (by omega)]
    go_enter Try.func14, Try.ntmps14
    go_wp2
    go_ret
    exact ⟨by simp; try omega, rfl⟩
theorem isGen_b (k : Int) (w : World) :
    Calls Try.prog 16 #[.int .i64 k] w fun r w' => r = .returned (.bool (inB k 0 999)) ∧ w = w' := by
  by_cases h1 : 0 ≤ k
  · by_cases h2 : k ≤ 999
    · rw [inB_yes h1 (by omega)]
      go_enter Try.func16, Try.ntmps16
      go_wp2
      go_ret
      exact ⟨by simp; try omega, rfl⟩
    · rw [inB_no (by omega)]
      go_enter Try.func16, Try.ntmps16
      go_wp2
      go_ret
      exact ⟨by simp; try omega, rfl⟩
  · rw [inB_no (by omega)]
    go_enter Try.func16, Try.ntmps16
    go_wp2
    go_ret
    exact ⟨by simp; try omega, rfl⟩
end Go.Proofs.Ytidmgkgmdndglaa
