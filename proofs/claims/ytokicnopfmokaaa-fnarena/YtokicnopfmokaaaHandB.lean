/-
  Is a number a part, or a generation: the program.
-/
import Derived.Test.YtokicnopfmokaaaBase8
namespace Go.Proofs.Ytokicnopfmokaaa
open Go.RowKit
set_option linter.unusedVariables false
set_option maxRecDepth 100000

theorem isGen_b (k : Int) (w : World) :
    Calls Try.prog 57 #[.int .i64 k] w fun r w' => r = .returned (.bool (inB k 0 999)) ∧ w = w' := by
  by_cases h1 : 0 ≤ k
  · by_cases h2 : k ≤ 999
    · rw [inB_yes h1 (by omega)]
      go_enter Try.func57, Try.ntmps57
      go_wp2
      go_ret
      exact ⟨by simp; try omega, rfl⟩
    · rw [inB_no (by omega)]
      go_enter Try.func57, Try.ntmps57
      go_wp2
      go_ret
      exact ⟨by simp; try omega, rfl⟩
  · rw [inB_no (by omega)]
    go_enter Try.func57, Try.ntmps57
    go_wp2
    go_ret
    exact ⟨by simp; try omega, rfl⟩
end Go.Proofs.Ytokicnopfmokaaa
