/-
  Handles: what the program answers.
-/
import Derived.Test.YtbdljoldblpffaaGreatHand
import Derived.Test.YtbdljoldblpffaaGreatHandB
namespace Go.Proofs.YtbdljoldblpffaaGreat
open Go.RowKit
set_option linter.unusedVariables false
set_option maxRecDepth 100000

theorem fromTo_b (x lo hi : Int) (w : World) :
    Calls Tryz.prog 56 #[.int .i64 x, .int .i64 lo, .int .i64 hi] w fun e w' => e = .returned (.bool (inB x lo hi)) ∧ w = w' := by
  by_cases h1 : lo ≤ x
  · by_cases h2 : x ≤ hi
    · rw [inB_yes h1 h2]
      go_enter Tryz.func56, Tryz.ntmps56
      go_wp2
      go_ret
      exact ⟨by simp, rfl⟩
    · rw [inB_no (by omega)]
      go_enter Tryz.func56, Tryz.ntmps56
      go_wp2
      go_ret
      exact ⟨by simp, rfl⟩
  · rw [inB_no (by omega)]
    go_enter Tryz.func56, Tryz.ntmps56
    go_wp2
    go_ret
    exact ⟨by simp, rfl⟩
theorem isSlot_b (x : Int) (w : World) :
    Calls Tryz.prog 30 #[.int .i64 x] w fun e w' => e = .returned (.bool (inB x 0 9)) ∧ w = w' := by
  have C := fun w => fromTo_b x 0 9 w
  generalize inB x 0 9 = o at C ⊢
  go_enter Tryz.func30, Tryz.ntmps30
  go_wp2_with fail
  refine (C _).mono ?_
  rintro e w' ⟨rfl, rfl⟩
  go_wp2
  go_ret
  exact ⟨rfl, rfl⟩
theorem isSlotNone_b (x : Int) (w : World) :
    Calls Tryz.prog 134 #[.int .i64 x] w fun e w' => e = .returned (.bool (inB x (-1) 9)) ∧ w = w' := by
  have C := fun w => fromTo_b x (-1) 9 w
  generalize inB x (-1) 9 = o at C ⊢
  go_enter Tryz.func134, Tryz.ntmps134
  go_wp2_with fail
  refine (C _).mono ?_
  rintro e w' ⟨rfl, rfl⟩
  go_wp2
  go_ret
  exact ⟨rfl, rfl⟩
theorem isHandleI_b (x : Int) (w : World) :
    Calls Tryz.prog 143 #[.int .i64 x] w fun e w' => e = .returned (.bool (inB x 0 29999)) ∧ w = w' := by
  have C := fun w => fromTo_b x 0 29999 w
  generalize inB x 0 29999 = o at C ⊢
  go_enter Tryz.func143, Tryz.ntmps143
  go_wp2_with fail
  refine (C _).mono ?_
  rintro e w' ⟨rfl, rfl⟩
  go_wp2
  go_ret
  exact ⟨rfl, rfl⟩
theorem isTime_b (x : Int) (w : World) :
    Calls Tryz.prog 57 #[.int .i64 x] w fun e w' => e = .returned (.bool (inB x 0 1000000)) ∧ w = w' := by
  have C := fun w => fromTo_b x 0 1000000 w
  generalize inB x 0 1000000 = o at C ⊢
  go_enter Tryz.func57, Tryz.ntmps57
  go_wp2_with fail
  refine (C _).mono ?_
  rintro e w' ⟨rfl, rfl⟩
  go_wp2
  go_ret
  exact ⟨rfl, rfl⟩
theorem isWord_b (x : Int) (w : World) :
    Calls Tryz.prog 137 #[.int .i64 x] w fun e w' => e = .returned (.bool (inB x 0 999)) ∧ w = w' := by
  have C := fun w => fromTo_b x 0 999 w
  generalize inB x 0 999 = o at C ⊢
  go_enter Tryz.func137, Tryz.ntmps137
  go_wp2_with fail
  refine (C _).mono ?_
  rintro e w' ⟨rfl, rfl⟩
  go_wp2
  go_ret
  exact ⟨rfl, rfl⟩
end Go.Proofs.YtbdljoldblpffaaGreat
