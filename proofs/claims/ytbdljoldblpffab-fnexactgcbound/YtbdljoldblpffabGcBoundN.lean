/-
  How many ticks a thing that nobody reaches may last: the program and the model.
-/
import Derived.Test.YtbdljoldblpffabHandB
namespace Go.Proofs.Ytbdljoldblpffab
open Go.RowKit
set_option linter.unusedVariables false
set_option maxRecDepth 100000

theorem fromTo_b (x lo hi : Int) (w : World) :
    Calls Try.prog 7 #[.int .i64 x, .int .i64 lo, .int .i64 hi] w fun e w' => e = .returned (.bool (inB x lo hi)) ∧ w = w' := by
  by_cases h1 : lo ≤ x
  · by_cases h2 : x ≤ hi
    · rw [inB_yes h1 h2]
      go_enter Try.func7, Try.ntmps7
      go_wp2
      go_ret
      exact ⟨by simp, rfl⟩
    · rw [inB_no (by omega)]
      go_enter Try.func7, Try.ntmps7
      go_wp2
      go_ret
      exact ⟨by simp, rfl⟩
  · rw [inB_no (by omega)]
    go_enter Try.func7, Try.ntmps7
    go_wp2
    go_ret
    exact ⟨by simp, rfl⟩
/-- The bound for so many steps a tick. -/
def boundOf (z : Int) : Int := if inB z 1 1000 then (41 : Int).tdiv z + 2 else 0
theorem quo_less {z : Int} (h : 1 ≤ z) : 0 ≤ (41 : Int).tdiv z ∧ (41 : Int).tdiv z ≤ 41 := by
  rw [Int.tdiv_eq_ediv_of_nonneg (by omega)]
  exact ⟨Int.ediv_nonneg (by omega) (by omega), Int.ediv_le_self _ (by omega)⟩
theorem quo_more {z : Int} (h : 1 ≤ z) : (42 + z - 1).tdiv z = (41 : Int).tdiv z + 1 := by
  rw [Int.tdiv_eq_ediv_of_nonneg (by omega), Int.tdiv_eq_ediv_of_nonneg (by omega), show 42 + z - 1 = 41 + z * 1 by omega, Int.add_mul_ediv_left _ _ (by omega)]
theorem specGcBound_any (z : Int) (w : World) :
    Calls Try.prog 4 #[.int .i64 z] w fun e w' => e = .returned (.int .i64 (boundOf z)) ∧ w = w' := by
  have C := fun w => l1In_b z 1 1000 w
  by_cases h : inB z 1 1000 = true
  · have hz := inB_true h
    rw [h] at C
    have hq := quo_less hz.1
    have hw : wrap64 ((41 : Int).tdiv z) = (41 : Int).tdiv z := by unfold wrap64; omega
    have hw2 : wrap64 ((41 : Int).tdiv z + 2) = (41 : Int).tdiv z + 2 := by unfold wrap64; omega
    have hz0 : (z == 0) = false := by simp; omega
    have hz1 : ¬ (z = 0) := by omega
    have E : Hid (boundOf z = (41 : Int).tdiv z + 2) := by show _ = _; unfold boundOf; rw [if_pos h]
    generalize boundOf z = b at E ⊢
    go_enter Try.func4, Try.ntmps4
    go_wp2_with fail
    refine (C _).mono ?_
    rintro e w1 ⟨rfl, rfl⟩
    go_wp2
    go_ret
    exact ⟨by rw [E.out]; rfl, rfl⟩
  · have h' : inB z 1 1000 = false := by simpa using h
    rw [h'] at C
    have E : Hid (boundOf z = 0) := by show _ = _; unfold boundOf; rw [h']; rfl
    generalize boundOf z = b at E ⊢
    go_enter Try.func4, Try.ntmps4
    go_wp2_with fail
    refine (C _).mono ?_
    rintro e w1 ⟨rfl, rfl⟩
    go_wp2
    go_ret
    exact ⟨by rw [E.out]; rfl, rfl⟩
theorem implGcBound_any (z : Int) (w : World) :
    Calls Try.prog 5 #[.int .i64 z] w fun e w' => e = .returned (.int .i64 (boundOf z)) ∧ w = w' := by
  have C := fun w => fromTo_b z 1 1000 w
  by_cases h : inB z 1 1000 = true
  · have hz := inB_true h
    rw [h] at C
    have hq := quo_less hz.1
    have hm := quo_more hz.1
    have hw0 : wrap64 (42 + z) = 42 + z := by unfold wrap64; omega
    have hw1 : wrap64 (42 + z - 1) = 42 + z - 1 := by unfold wrap64; omega
    have hw : wrap64 ((42 + z - 1).tdiv z) = (42 + z - 1).tdiv z := by rw [hm]; unfold wrap64; omega
    have hw2 : wrap64 ((42 + z - 1).tdiv z + 1) = (42 + z - 1).tdiv z + 1 := by rw [hm]; unfold wrap64; omega
    have he : (42 + z - 1).tdiv z = (42 + z - 1) / z := Int.tdiv_eq_ediv_of_nonneg (by omega)
    have hw3 : wrap64 ((42 + z - 1) / z + 1) = (42 + z - 1) / z + 1 := by rw [← he]; exact hw2
    have hz0 : (z == 0) = false := by simp; omega
    have hz1 : ¬ (z = 0) := by omega
    have E : Hid (boundOf z = (42 + z - 1) / z + 1) := by show _ = _; rw [← he]; unfold boundOf; rw [if_pos h, hm]; omega
    generalize boundOf z = b at E ⊢
    clear hm he
    go_enter Try.func5, Try.ntmps5
    go_wp2_with fail
    refine (C _).mono ?_
    rintro e w1 ⟨rfl, rfl⟩
    go_wp2
    go_ret
    exact ⟨by rw [E.out]; simp [hw3], rfl⟩
  · have h' : inB z 1 1000 = false := by simpa using h
    rw [h'] at C
    have E : Hid (boundOf z = 0) := by show _ = _; unfold boundOf; rw [h']; rfl
    generalize boundOf z = b at E ⊢
    go_enter Try.func5, Try.ntmps5
    go_wp2_with fail
    refine (C _).mono ?_
    rintro e w1 ⟨rfl, rfl⟩
    go_wp2
    go_ret
    exact ⟨by rw [E.out]; rfl, rfl⟩
end Go.Proofs.Ytbdljoldblpffab
