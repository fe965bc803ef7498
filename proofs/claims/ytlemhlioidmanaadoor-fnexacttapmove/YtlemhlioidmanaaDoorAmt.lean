/-
  Amounts: the small functions of both sides.
-/
import Derived.Test.YtlemhlioidmanaaDoorTree
namespace Go.Proofs.YtlemhlioidmanaaDoor
open Go.RowKit
set_option linter.unusedVariables false
set_option maxRecDepth 100000


/-- Is a number right? -/
def numOk (x : Int) : Bool := decide (0 ≤ x) && decide (x ≤ 1000000)
/-- Is an amount right? -/
def amtOk (a b c : Int) : Bool := numOk a && numOk b && numOk c
/-- Its block, as an amount and as an array. -/
abbrev boxN (a b c : Int) : Obj := .cells #[.int .i64 a, .int .i64 b, .int .i64 c] 75 (0, 0)

theorem numOk_true {x : Int} (h : numOk x = true) : 0 ≤ x ∧ x ≤ 1000000 := by unfold numOk at h; simpa using h
theorem numOk_false {x : Int} (h : numOk x = false) : x < 0 ∨ 1000000 < x := by unfold numOk at h; simp at h; omega
theorem numOk_yes {x : Int} (h0 : 0 ≤ x) (h1 : x ≤ 1000000) : numOk x = true := by unfold numOk; simp; omega
theorem numOk_no {x : Int} (h : x < 0 ∨ 1000000 < x) : numOk x = false := by unfold numOk; simp; omega

theorem l1In_any (x lo hi : Int) (w : World) :
    Calls Tryd.prog 16 #[.int .i64 x, .int .i64 lo, .int .i64 hi] w fun e w' => e = .returned (.bool (decide (lo ≤ x) && decide (x ≤ hi))) ∧ w = w' := by
  by_cases h1 : lo ≤ x
  · by_cases h2 : x ≤ hi
    · go_enter Tryd.func16, Tryd.ntmps16
      go_wp2
      go_ret
      exact ⟨by simp [h1, h2], rfl⟩
    · go_enter Tryd.func16, Tryd.ntmps16
      go_wp2
      go_ret
      exact ⟨by simp [h2], rfl⟩
  · go_enter Tryd.func16, Tryd.ntmps16
    go_wp2
    go_ret
    exact ⟨by simp; omega, rfl⟩
theorem l5In_any (x : Int) (w : World) :
    Calls Tryd.prog 60 #[.int .i64 x] w fun e w' => e = .returned (.bool (numOk x)) ∧ w = w' := by
  have C := l1In_any x 0 1000000 w
  change Calls Tryd.prog 16 #[.int .i64 x, .int .i64 0, .int .i64 1000000] w fun e w' => e = .returned (.bool (numOk x)) ∧ w = w' at C
  generalize numOk x = o at C ⊢
  go_enter Tryd.func60, Tryd.ntmps60
  go_wp2_with fail
  refine C.mono ?_
  rintro e w' ⟨rfl, rfl⟩
  clear C
  go_wp2
  go_ret
  exact ⟨rfl, rfl⟩
theorem specAmtOk_in (a b c : Int) (w : World) :
    Calls Tryd.prog 36 #[amt a b c] w fun e w' => e = .returned (.bool (amtOk a b c)) ∧ w' = w.alloc (boxA a b c) := by
  have C0 := fun w => l5In_any a w
  have C1 := fun w => l5In_any b w
  have C2 := fun w => l5In_any c w
  unfold amtOk
  generalize numOk a = x at C0 ⊢
  generalize numOk b = y at C1 ⊢
  generalize numOk c = z at C2 ⊢
  cases x with
  | false =>
    go_enter Tryd.func36, Tryd.ntmps36
    go_wp2_with (go_at_call 60; refine (C0 _).mono ?_; rintro e w' ⟨rfl, rfl⟩)
    go_ret
    exact ⟨rfl, rfl⟩
  | true =>
    cases y with
    | false =>
      go_enter Tryd.func36, Tryd.ntmps36
      go_wp2_with (go_at_call 60; first | (refine (C0 _).mono ?_; rintro e w' ⟨rfl, rfl⟩) | (refine (C1 _).mono ?_; rintro e w' ⟨rfl, rfl⟩))
      go_ret
      exact ⟨rfl, rfl⟩
    | true =>
      go_enter Tryd.func36, Tryd.ntmps36
      go_wp2_with (go_at_call 60; first | (refine (C0 _).mono ?_; rintro e w' ⟨rfl, rfl⟩) | (refine (C1 _).mono ?_; rintro e w' ⟨rfl, rfl⟩) | (refine (C2 _).mono ?_; rintro e w' ⟨rfl, rfl⟩))
      go_ret
      exact ⟨by simp, rfl⟩
theorem numbersOf_in (a b c : Int) (w : World) :
    Calls Tryd.prog 67 #[amt a b c] w fun e w' => e = .returned (amt a b c) ∧ w' = (w.alloc (boxA a b c)).alloc (boxN a b c) := by
  go_enter Tryd.func67, Tryd.ntmps67
  go_wp2
  go_returns
  exact ⟨rfl, rfl⟩
theorem amtOf_in (a b c : Int) (w : World) :
    Calls Tryd.prog 52 #[amt a b c] w fun e w' => e = .returned (amt a b c) ∧ w' = (w.alloc (boxN a b c)).alloc (boxA a b c) := by
  go_enter Tryd.func52, Tryd.ntmps52
  go_wp2
  go_returns
  exact ⟨rfl, rfl⟩
set_option maxHeartbeats 1000000 in
theorem numbersOk_in (a b c : Int) (w : World) :
    Calls Tryd.prog 66 #[amt a b c] w fun e w' => e = .returned (.bool (amtOk a b c)) ∧ w' = w.alloc (boxN a b c) := by
  obtain ⟨o, ho⟩ : ∃ o, o = amtOk a b c := ⟨_, rfl⟩
  have HO : Hid (o = (numOk a && numOk b && numOk c)) := ho
  rw [← ho]
  clear ho
  by_cases ha : a < 0
  · have h : o = false := by rw [HO.out, numOk_no (x := a) (by omega)]; rfl
    clear HO
    subst h
    go_enter Tryd.func66, Tryd.ntmps66
    go_wp2
    go_rounds 3
    go_ret
    exact ⟨rfl, rfl⟩
  by_cases ha' : 1000000 < a
  · have h : o = false := by rw [HO.out, numOk_no (x := a) (by omega)]; rfl
    clear HO
    subst h
    go_enter Tryd.func66, Tryd.ntmps66
    go_wp2
    go_rounds 3
    go_ret
    exact ⟨rfl, rfl⟩
  by_cases hb : b < 0
  · have h : o = false := by rw [HO.out, numOk_no (x := b) (by omega)]; simp
    clear HO
    subst h
    go_enter Tryd.func66, Tryd.ntmps66
    go_wp2
    go_rounds 3
    go_ret
    exact ⟨rfl, rfl⟩
  by_cases hb' : 1000000 < b
  · have h : o = false := by rw [HO.out, numOk_no (x := b) (by omega)]; simp
    clear HO
    subst h
    go_enter Tryd.func66, Tryd.ntmps66
    go_wp2
    go_rounds 3
    go_ret
    exact ⟨rfl, rfl⟩
  by_cases hc : c < 0
  · have h : o = false := by rw [HO.out, numOk_no (x := c) (by omega)]; simp
    clear HO
    subst h
    go_enter Tryd.func66, Tryd.ntmps66
    go_wp2
    go_rounds 3
    go_ret
    exact ⟨rfl, rfl⟩
  by_cases hc' : 1000000 < c
  · have h : o = false := by rw [HO.out, numOk_no (x := c) (by omega)]; simp
    clear HO
    subst h
    go_enter Tryd.func66, Tryd.ntmps66
    go_wp2
    go_rounds 3
    go_ret
    exact ⟨rfl, rfl⟩
  · have h : o = true := by rw [HO.out, numOk_yes (x := a) (by omega) (by omega), numOk_yes (x := b) (by omega) (by omega), numOk_yes (x := c) (by omega) (by omega)]; rfl
    clear HO
    subst h
    go_enter Tryd.func66, Tryd.ntmps66
    go_wp2
    go_rounds 4
    go_ret
    exact ⟨rfl, rfl⟩
theorem implAmtOk_in (a b c : Int) (w : World) :
    Calls Tryd.prog 48 #[amt a b c] w fun e w' => e = .returned (.bool (amtOk a b c)) ∧ w' = (((w.alloc (boxA a b c)).alloc (boxA a b c)).alloc (boxN a b c)).alloc (boxN a b c) := by
  have C0 := fun w => numbersOf_in a b c w
  have C1 := fun w => numbersOk_in a b c w
  generalize amtOk a b c = o at C1 ⊢
  go_enter Tryd.func48, Tryd.ntmps48
  go_wp2_with (first | (go_at_call 67; refine (C0 _).mono ?_; rintro e w' ⟨rfl, rfl⟩) | (go_at_call 66; refine (C1 _).mono ?_; rintro e w' ⟨rfl, rfl⟩))
  go_ret
  exact ⟨rfl, rfl⟩
end Go.Proofs.YtlemhlioidmanaaDoor
