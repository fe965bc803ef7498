/-
  Handles: what the program answers.
-/
import Derived.Test.YtokicnopfmokaaaHand
import Derived.Test.YtokicnopfmokaaaHandB
namespace Go.Proofs.Ytokicnopfmokaaa
open Go.RowKit
set_option linter.unusedVariables false
set_option maxRecDepth 100000

theorem fromTo_b (x lo hi : Int) (w : World) :
    Calls Try.prog 47 #[.int .i64 x, .int .i64 lo, .int .i64 hi] w fun e w' => e = .returned (.bool (inB x lo hi)) ∧ w = w' := by
  by_cases h1 : lo ≤ x
  · by_cases h2 : x ≤ hi
    · rw [inB_yes h1 h2]
      go_enter Try.func47, Try.ntmps47
      go_wp2
      go_ret
      exact ⟨by simp, rfl⟩
    · rw [inB_no (by omega)]
      go_enter Try.func47, Try.ntmps47
      go_wp2
      go_ret
      exact ⟨by simp, rfl⟩
  · rw [inB_no (by omega)]
    go_enter Try.func47, Try.ntmps47
    go_wp2
    go_ret
    exact ⟨by simp, rfl⟩
theorem isSlot_b (x : Int) (w : World) :
    Calls Try.prog 26 #[.int .i64 x] w fun e w' => e = .returned (.bool (inB x 0 9)) ∧ w = w' := by
  have C := fun w => fromTo_b x 0 9 w
  generalize inB x 0 9 = o at C ⊢
  go_enter Try.func26, Try.ntmps26
  go_wp2_with fail
  refine (C _).mono ?_
  rintro e w' ⟨rfl, rfl⟩
  go_wp2
  go_ret
  exact ⟨rfl, rfl⟩
theorem isSlotNone_b (x : Int) (w : World) :
    Calls Try.prog 92 #[.int .i64 x] w fun e w' => e = .returned (.bool (inB x (-1) 9)) ∧ w = w' := by
  have C := fun w => fromTo_b x (-1) 9 w
  generalize inB x (-1) 9 = o at C ⊢
  go_enter Try.func92, Try.ntmps92
  go_wp2_with fail
  refine (C _).mono ?_
  rintro e w' ⟨rfl, rfl⟩
  go_wp2
  go_ret
  exact ⟨rfl, rfl⟩
theorem isHandleI_b (x : Int) (w : World) :
    Calls Try.prog 29 #[.int .i64 x] w fun e w' => e = .returned (.bool (inB x 0 29999)) ∧ w = w' := by
  have C := fun w => fromTo_b x 0 29999 w
  generalize inB x 0 29999 = o at C ⊢
  go_enter Try.func29, Try.ntmps29
  go_wp2_with fail
  refine (C _).mono ?_
  rintro e w' ⟨rfl, rfl⟩
  go_wp2
  go_ret
  exact ⟨rfl, rfl⟩
theorem isTime_b (x : Int) (w : World) :
    Calls Try.prog 94 #[.int .i64 x] w fun e w' => e = .returned (.bool (inB x 0 1000000)) ∧ w = w' := by
  have C := fun w => fromTo_b x 0 1000000 w
  generalize inB x 0 1000000 = o at C ⊢
  go_enter Try.func94, Try.ntmps94
  go_wp2_with fail
  refine (C _).mono ?_
  rintro e w' ⟨rfl, rfl⟩
  go_wp2
  go_ret
  exact ⟨rfl, rfl⟩
theorem isWord_b (x : Int) (w : World) :
    Calls Try.prog 96 #[.int .i64 x] w fun e w' => e = .returned (.bool (inB x 0 999)) ∧ w = w' := by
  have C := fun w => fromTo_b x 0 999 w
  generalize inB x 0 999 = o at C ⊢
  go_enter Try.func96, Try.ntmps96
  go_wp2_with fail
  refine (C _).mono ?_
  rintro e w' ⟨rfl, rfl⟩
  go_wp2
  go_ret
  exact ⟨rfl, rfl⟩
theorem implHandlePart_any (h : Int) (w : World) :
    Calls Try.prog 30 #[.int .i64 h] w fun e w' => e = .returned (.int .i64 (handlePart h)) ∧ w = w' := by
  have C0 := fun w => isHandleI_b h w
  cases h0 : inB h 0 29999 with
  | false =>
    have e : handlePart h = -1 := by unfold handlePart isHandle; rw [h0]; rfl
    rw [e]
    rw [h0] at C0
    clear e h0
    go_enter Try.func30, Try.ntmps30
    go_wp2_with fail
    refine (C0 _).mono ?_
    rintro e w1 ⟨rfl, rfl⟩
    go_wp2
    go_ret
    exact ⟨rfl, rfl⟩
  | true =>
    have e : handlePart h = h % 3 := by unfold handlePart isHandle; rw [h0]; rfl
    rw [e]
    obtain ⟨b0, b1⟩ := inB_true h0
    rw [h0] at C0
    clear e h0
    go_enter Try.func30, Try.ntmps30
    go_wp2_with fail
    refine (C0 _).mono ?_
    rintro e w1 ⟨rfl, rfl⟩
    go_wp2
    go_ret
    exact ⟨rfl, rfl⟩
theorem implHandleSlot_any (h : Int) (w : World) :
    Calls Try.prog 31 #[.int .i64 h] w fun e w' => e = .returned (.int .i64 (handleSlot h)) ∧ w = w' := by
  have C0 := fun w => isHandleI_b h w
  cases h0 : inB h 0 29999 with
  | false =>
    have e : handleSlot h = -1 := by unfold handleSlot isHandle; rw [h0]; rfl
    rw [e]
    rw [h0] at C0
    clear e h0
    go_enter Try.func31, Try.ntmps31
    go_wp2_with fail
    refine (C0 _).mono ?_
    rintro e w1 ⟨rfl, rfl⟩
    go_wp2
    go_ret
    exact ⟨rfl, rfl⟩
  | true =>
    have e : handleSlot h = h / 3 % 10 := by unfold handleSlot isHandle; rw [h0]; rfl
    rw [e]
    obtain ⟨b0, b1⟩ := inB_true h0
    rw [h0] at C0
    clear e h0
    go_enter Try.func31, Try.ntmps31
    go_wp2_with fail
    refine (C0 _).mono ?_
    rintro e w1 ⟨rfl, rfl⟩
    go_wp2
    go_ret
    exact ⟨rfl, rfl⟩
theorem implHandleGen_any (h : Int) (w : World) :
    Calls Try.prog 32 #[.int .i64 h] w fun e w' => e = .returned (.int .i64 (handleGen h)) ∧ w = w' := by
  have C0 := fun w => isHandleI_b h w
  cases h0 : inB h 0 29999 with
  | false =>
    have e : handleGen h = -1 := by unfold handleGen isHandle; rw [h0]; rfl
    rw [e]
    rw [h0] at C0
    clear e h0
    go_enter Try.func32, Try.ntmps32
    go_wp2_with fail
    refine (C0 _).mono ?_
    rintro e w1 ⟨rfl, rfl⟩
    go_wp2
    go_ret
    exact ⟨rfl, rfl⟩
  | true =>
    have e : handleGen h = h / 3 / 10 := by unfold handleGen isHandle; rw [h0]; rfl
    rw [e]
    obtain ⟨b0, b1⟩ := inB_true h0
    rw [h0] at C0
    clear e h0
    go_enter Try.func32, Try.ntmps32
    go_wp2_with fail
    refine (C0 _).mono ?_
    rintro e w1 ⟨rfl, rfl⟩
    go_wp2
    go_ret
    exact ⟨rfl, rfl⟩
end Go.Proofs.Ytokicnopfmokaaa
