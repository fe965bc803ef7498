/-
  Handles: what the program answers.
-/
import Derived.Test.YtgijpflojffckaaHand
import Derived.Test.YtgijpflojffckaaHandB
namespace Go.Proofs.Ytgijpflojffckaa
open Go.RowKit
set_option linter.unusedVariables false
set_option maxRecDepth 100000

theorem fromTo_b (x lo hi : Int) (w : World) :
    Calls Try.prog 55 #[.int .i64 x, .int .i64 lo, .int .i64 hi] w fun e w' => e = .returned (.bool (inB x lo hi)) ∧ w = w' := by
  by_cases h1 : lo ≤ x
  · by_cases h2 : x ≤ hi
    · rw [inB_yes h1 h2]
      go_enter Try.func55, Try.ntmps55
      go_wp2
      go_ret
      exact ⟨by simp, rfl⟩
    · rw [inB_no (by omega)]
      go_enter Try.func55, Try.ntmps55
      go_wp2
      go_ret
      exact ⟨by simp, rfl⟩
  · rw [inB_no (by omega)]
    go_enter Try.func55, Try.ntmps55
    go_wp2
    go_ret
    exact ⟨by simp, rfl⟩
theorem isSlot_b (x : Int) (w : World) :
    Calls Try.prog 33 #[.int .i64 x] w fun e w' => e = .returned (.bool (inB x 0 9)) ∧ w = w' := by
  have C := fun w => fromTo_b x 0 9 w
  generalize inB x 0 9 = o at C ⊢
  go_enter Try.func33, Try.ntmps33
  go_wp2_with fail
  refine (C _).mono ?_
  rintro e w' ⟨rfl, rfl⟩
  go_wp2
  go_ret
  exact ⟨rfl, rfl⟩
theorem isSlotNone_b (x : Int) (w : World) :
    Calls Try.prog 98 #[.int .i64 x] w fun e w' => e = .returned (.bool (inB x (-1) 9)) ∧ w = w' := by
  have C := fun w => fromTo_b x (-1) 9 w
  generalize inB x (-1) 9 = o at C ⊢
  go_enter Try.func98, Try.ntmps98
  go_wp2_with fail
  refine (C _).mono ?_
  rintro e w' ⟨rfl, rfl⟩
  go_wp2
  go_ret
  exact ⟨rfl, rfl⟩
theorem isHandleI_b (x : Int) (w : World) :
    Calls Try.prog 36 #[.int .i64 x] w fun e w' => e = .returned (.bool (inB x 0 29999)) ∧ w = w' := by
  have C := fun w => fromTo_b x 0 29999 w
  generalize inB x 0 29999 = o at C ⊢
  go_enter Try.func36, Try.ntmps36
  go_wp2_with fail
  refine (C _).mono ?_
  rintro e w' ⟨rfl, rfl⟩
  go_wp2
  go_ret
  exact ⟨rfl, rfl⟩
theorem isTime_b (x : Int) (w : World) :
    Calls Try.prog 100 #[.int .i64 x] w fun e w' => e = .returned (.bool (inB x 0 1000000)) ∧ w = w' := by
  have C := fun w => fromTo_b x 0 1000000 w
  generalize inB x 0 1000000 = o at C ⊢
  go_enter Try.func100, Try.ntmps100
  go_wp2_with fail
  refine (C _).mono ?_
  rintro e w' ⟨rfl, rfl⟩
  go_wp2
  go_ret
  exact ⟨rfl, rfl⟩
theorem isWord_b (x : Int) (w : World) :
    Calls Try.prog 102 #[.int .i64 x] w fun e w' => e = .returned (.bool (inB x 0 999)) ∧ w = w' := by
  have C := fun w => fromTo_b x 0 999 w
  generalize inB x 0 999 = o at C ⊢
  go_enter Try.func102, Try.ntmps102
  go_wp2_with fail
  refine (C _).mono ?_
  rintro e w' ⟨rfl, rfl⟩
  go_wp2
  go_ret
  exact ⟨rfl, rfl⟩
theorem implHandlePart_any (h : Int) (w : World) :
    Calls Try.prog 37 #[.int .i64 h] w fun e w' => e = .returned (.int .i64 (handlePart h)) ∧ w = w' := by
  have C0 := fun w => isHandleI_b h w
  cases h0 : inB h 0 29999 with
  | false =>
    have e : handlePart h = -1 := by unfold handlePart isHandle; rw [h0]; rfl
    rw [e]
    rw [h0] at C0
    clear e h0
    go_enter Try.func37, Try.ntmps37
    go_wp2_with fail
    refine (C0 _).mono ?_
    rintro e w1 ⟨rfl, rfl⟩
    go_wp2
    go_ret
    exact ⟨rfl, rfl⟩
  | true =>
    have e : handlePart h = h % 3 := by unfold handlePart isHandle; rw [h0]; rfl
    rw [e]
    obtain ⟨b0, b1⟩ := inB_true h0
    rw [h0] at C0
    clear e h0
    go_enter Try.func37, Try.ntmps37
    go_wp2_with fail
    refine (C0 _).mono ?_
    rintro e w1 ⟨rfl, rfl⟩
    go_wp2
    go_ret
    exact ⟨rfl, rfl⟩
theorem implHandleSlot_any (h : Int) (w : World) :
    Calls Try.prog 38 #[.int .i64 h] w fun e w' => e = .returned (.int .i64 (handleSlot h)) ∧ w = w' := by
  have C0 := fun w => isHandleI_b h w
  cases h0 : inB h 0 29999 with
  | false =>
    have e : handleSlot h = -1 := by unfold handleSlot isHandle; rw [h0]; rfl
    rw [e]
    rw [h0] at C0
    clear e h0
    go_enter Try.func38, Try.ntmps38
    go_wp2_with fail
    refine (C0 _).mono ?_
    rintro e w1 ⟨rfl, rfl⟩
    go_wp2
    go_ret
    exact ⟨rfl, rfl⟩
  | true =>
    have e : handleSlot h = h / 3 % 10 := by unfold handleSlot isHandle; rw [h0]; rfl
    rw [e]
    obtain ⟨b0, b1⟩ := inB_true h0
    rw [h0] at C0
    clear e h0
    go_enter Try.func38, Try.ntmps38
    go_wp2_with fail
    refine (C0 _).mono ?_
    rintro e w1 ⟨rfl, rfl⟩
    go_wp2
    go_ret
    exact ⟨rfl, rfl⟩
theorem implHandleGen_any (h : Int) (w : World) :
    Calls Try.prog 39 #[.int .i64 h] w fun e w' => e = .returned (.int .i64 (handleGen h)) ∧ w = w' := by
  have C0 := fun w => isHandleI_b h w
  cases h0 : inB h 0 29999 with
  | false =>
    have e : handleGen h = -1 := by unfold handleGen isHandle; rw [h0]; rfl
    rw [e]
    rw [h0] at C0
    clear e h0
    go_enter Try.func39, Try.ntmps39
    go_wp2_with fail
    refine (C0 _).mono ?_
    rintro e w1 ⟨rfl, rfl⟩
    go_wp2
    go_ret
    exact ⟨rfl, rfl⟩
  | true =>
    have e : handleGen h = h / 3 / 10 := by unfold handleGen isHandle; rw [h0]; rfl
    rw [e]
    obtain ⟨b0, b1⟩ := inB_true h0
    rw [h0] at C0
    clear e h0
    go_enter Try.func39, Try.ntmps39
    go_wp2_with fail
    refine (C0 _).mono ?_
    rintro e w1 ⟨rfl, rfl⟩
    go_wp2
    go_ret
    exact ⟨rfl, rfl⟩
end Go.Proofs.Ytgijpflojffckaa
