/-
  Handles: what the program answers.
-/
import Derived.Test.YtidmgkgmdndglaaHand
import Derived.Test.YtidmgkgmdndglaaHandB
namespace Go.Proofs.Ytidmgkgmdndglaa
open Go.RowKit
set_option linter.unusedVariables false

theorem fromTo_b (x lo hi : Int) (w : World) :
    Calls Try.prog 20 #[.int .i64 x, .int .i64 lo, .int .i64 hi] w fun e w' => e = .returned (.bool (inB x lo hi)) ∧ w = w' := by
  by_cases h1 : lo ≤ x
  · by_cases h2 : x ≤ hi
    · rw [inB_yes h1 h2]
      go_enter Try.func20, Try.ntmps20
      go_wp2
      go_ret
      exact ⟨by simp, rfl⟩
    · rw [inB_no (by omega)]
      go_enter Try.func20, Try.ntmps20
      go_wp2
      go_ret
      exact ⟨by simp, rfl⟩
  · rw [inB_no (by omega)]
    go_enter Try.func20, Try.ntmps20
    go_wp2
    go_ret
    exact ⟨by simp, rfl⟩
theorem isSlot_b (x : Int) (w : World) :
    Calls Try.prog 15 #[.int .i64 x] w fun e w' => e = .returned (.bool (inB x 0 9)) ∧ w = w' := by
  have C := fun w => fromTo_b x 0 9 w
  generalize inB x 0 9 = o at C ⊢
  go_enter Try.func15, Try.ntmps15
  go_wp2_with fail
  refine (C _).mono ?_
  rintro e w' ⟨rfl, rfl⟩
  go_wp2
  go_ret
  exact ⟨rfl, rfl⟩
theorem isHandleI_b (x : Int) (w : World) :
    Calls Try.prog 17 #[.int .i64 x] w fun e w' => e = .returned (.bool (inB x 0 29999)) ∧ w = w' := by
  have C := fun w => fromTo_b x 0 29999 w
  generalize inB x 0 29999 = o at C ⊢
  go_enter Try.func17, Try.ntmps17
  go_wp2_with fail
  refine (C _).mono ?_
  rintro e w' ⟨rfl, rfl⟩
  go_wp2
  go_ret
  exact ⟨rfl, rfl⟩
set_option maxHeartbeats 400000 in
theorem implHandleOf_any (p s g : Int) (w : World) :
    Calls Try.prog 6 #[.int .i64 p, .int .i64 s, .int .i64 g] w fun e w' => e = .returned (.int .i64 (handleOf p s g)) ∧ w = w' := by
  have C0 := fun w => isPart_b p w
  have C1 := fun w => isSlot_b s w
  have C2 := fun w => isGen_b g w
  cases h0 : inB p 0 2 with
  | false =>
    have e : handleOf p s g = -1 := by unfold handleOf handleB; rw [h0]; rfl
    rw [e]
    rw [h0] at C0
    clear e h0 C1 C2
    go_enter Try.func6, Try.ntmps6
    go_wp2_with fail
    refine (C0 _).mono ?_
    rintro e w1 ⟨rfl, rfl⟩
    go_wp2
    go_ret
    exact ⟨rfl, rfl⟩
  | true =>
    cases h1 : inB s 0 9 with
    | false =>
      have e : handleOf p s g = -1 := by unfold handleOf handleB; rw [h0, h1]; rfl
      rw [e]
      rw [h0] at C0
      rw [h1] at C1
      clear e h0 h1 C2
      go_enter Try.func6, Try.ntmps6
      go_wp2_with fail
      refine (C0 _).mono ?_
      rintro e w1 ⟨rfl, rfl⟩
      go_wp2_with fail
      refine (C1 _).mono ?_
      rintro e w2 ⟨rfl, rfl⟩
      go_wp2
      go_ret
      exact ⟨rfl, rfl⟩
    | true =>
      cases h2 : inB g 0 999 with
      | false =>
        have e : handleOf p s g = -1 := by unfold handleOf handleB; rw [h0, h1, h2]; rfl
        rw [e]
        rw [h0] at C0
        rw [h1] at C1
        rw [h2] at C2
        clear e h0 h1 h2
        go_enter Try.func6, Try.ntmps6
        go_wp2_with fail
        refine (C0 _).mono ?_
        rintro e w1 ⟨rfl, rfl⟩
        go_wp2_with fail
        refine (C1 _).mono ?_
        rintro e w2 ⟨rfl, rfl⟩
        go_wp2_with fail
        refine (C2 _).mono ?_
        rintro e w3 ⟨rfl, rfl⟩
        go_wp2
        go_ret
        exact ⟨rfl, rfl⟩
      | true =>
        have e : handleOf p s g = (g * 10 + s) * 3 + p := by unfold handleOf handleB; rw [h0, h1, h2]; rfl
        rw [e]
        obtain ⟨b0, b1⟩ := inB_true h0
        obtain ⟨b2, b3⟩ := inB_true h1
        obtain ⟨b4, b5⟩ := inB_true h2
        rw [h0] at C0
        rw [h1] at C1
        rw [h2] at C2
        clear e h0 h1 h2
        go_enter Try.func6, Try.ntmps6
        go_wp2_with fail
        refine (C0 _).mono ?_
        rintro e w1 ⟨rfl, rfl⟩
        go_wp2_with fail
        refine (C1 _).mono ?_
        rintro e w2 ⟨rfl, rfl⟩
        go_wp2_with fail
        refine (C2 _).mono ?_
        rintro e w3 ⟨rfl, rfl⟩
        go_wp2
        go_ret
        exact ⟨rfl, rfl⟩
theorem implHandlePart_any (h : Int) (w : World) :
    Calls Try.prog 7 #[.int .i64 h] w fun e w' => e = .returned (.int .i64 (handlePart h)) ∧ w = w' := by
  have C0 := fun w => isHandleI_b h w
  cases h0 : inB h 0 29999 with
  | false =>
    have e : handlePart h = -1 := by unfold handlePart isHandle; rw [h0]; rfl
    rw [e]
    rw [h0] at C0
    clear e h0
    go_enter Try.func7, Try.ntmps7
    go_wp2_with fail
    refine (C0 _).mono ?_
    rintro e w1 ⟨rfl, rfl⟩
    go_wp2
    go_ret
    exact ⟨rfl, rfl⟩
  | true =>
    have e : handlePart h = h % 3 := by unfold handlePart isHandle; rw [h0]; rfl
    rw [e]
    obtain ⟨b0, b1⟩ := inB_true h0
    rw [h0] at C0
    clear e h0
    go_enter Try.func7, Try.ntmps7
    go_wp2_with fail
    refine (C0 _).mono ?_
    rintro e w1 ⟨rfl, rfl⟩
    go_wp2
    go_ret
    exact ⟨rfl, rfl⟩
theorem implHandleSlot_any (h : Int) (w : World) :
    Calls Try.prog 8 #[.int .i64 h] w fun e w' => e = .returned (.int .i64 (handleSlot h)) ∧ w = w' := by
  have C0 := fun w => isHandleI_b h w
  cases h0 : inB h 0 29999 with
  | false =>
    have e : handleSlot h = -1 := by unfold handleSlot isHandle; rw [h0]; rfl
    rw [e]
    rw [h0] at C0
    clear e h0
    go_enter Try.func8, Try.ntmps8
    go_wp2_with fail
    refine (C0 _).mono ?_
    rintro e w1 ⟨rfl, rfl⟩
    go_wp2
    go_ret
    exact ⟨rfl, rfl⟩
  | true =>
    have e : handleSlot h = h / 3 % 10 := by unfold handleSlot isHandle; rw [h0]; rfl
    rw [e]
    obtain ⟨b0, b1⟩ := inB_true h0
    rw [h0] at C0
    clear e h0
    go_enter Try.func8, Try.ntmps8
    go_wp2_with fail
    refine (C0 _).mono ?_
    rintro e w1 ⟨rfl, rfl⟩
    go_wp2
    go_ret
    exact ⟨rfl, rfl⟩
theorem implHandleGen_any (h : Int) (w : World) :
    Calls Try.prog 9 #[.int .i64 h] w fun e w' => e = .returned (.int .i64 (handleGen h)) ∧ w = w' := by
  have C0 := fun w => isHandleI_b h w
  cases h0 : inB h 0 29999 with
  | false =>
    have e : handleGen h = -1 := by unfold handleGen isHandle; rw [h0]; rfl
    rw [e]
    rw [h0] at C0
    clear e h0
    go_enter Try.func9, Try.ntmps9
    go_wp2_with fail
    refine (C0 _).mono ?_
    rintro e w1 ⟨rfl, rfl⟩
    go_wp2
    go_ret
    exact ⟨rfl, rfl⟩
  | true =>
    have e : handleGen h = h / 3 / 10 := by unfold handleGen isHandle; rw [h0]; rfl
    rw [e]
    obtain ⟨b0, b1⟩ := inB_true h0
    rw [h0] at C0
    clear e h0
    go_enter Try.func9, Try.ntmps9
    go_wp2_with fail
    refine (C0 _).mono ?_
    rintro e w1 ⟨rfl, rfl⟩
    go_wp2
    go_ret
    exact ⟨rfl, rfl⟩
end Go.Proofs.Ytidmgkgmdndglaa
