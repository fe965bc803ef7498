/-
  Amounts: what the model answers.
-/
import Derived.Test.YtlemhlioidmanaaDoorAmt
namespace Go.Proofs.YtlemhlioidmanaaDoor
open Go.RowKit
set_option linter.unusedVariables false
set_option maxRecDepth 100000


/-- May the two be added? -/
def addOk (a b c d e f : Int) : Bool := amtOk a b c && amtOk d e f && amtOk (a + d) (b + e) (c + f)
/-- Does the first fit into the second? -/
def fitsIn (a b c d e f : Int) : Bool := amtOk a b c && amtOk d e f && (decide (a ≤ d) && decide (b ≤ e) && decide (c ≤ f))
theorem amtOk_true {a b c : Int} (h : amtOk a b c = true) : (0 ≤ a ∧ a ≤ 1000000) ∧ (0 ≤ b ∧ b ≤ 1000000) ∧ 0 ≤ c ∧ c ≤ 1000000 := by
  unfold amtOk numOk at h; simp at h; omega
theorem wrap_near {n : Int} (h0 : -4611686018427387904 ≤ n) (h1 : n < 4611686018427387904) : wrap64 n = n := by unfold wrap64; omega
theorem same_amt (a b c : Int) : (decide (a = a) && decide (b = b) && decide (c = c)) = true := by simp

set_option maxHeartbeats 1000000 in
theorem specFits_any (a b c d e f : Int) (w : World) :
    Calls Tryd.prog 61 #[amt a b c, amt d e f] w fun r w' => r = .returned (.bool (fitsIn a b c d e f)) ∧ Below w.heap.size w w' := by
  have C0 := fun w => specAmtOk_in a b c w
  have C1 := fun w => specAmtOk_in d e f w
  unfold fitsIn
  generalize amtOk a b c = x at C0 ⊢
  generalize amtOk d e f = y at C1 ⊢
  cases x with
  | false =>
    simp only [Bool.false_and]
    go_enter Tryd.func61, Tryd.ntmps61
    go_wp2_with fail
    refine (C0 _).mono ?_
    rintro r w' ⟨rfl, rfl⟩
    go_wp2
    go_ret
    exact ⟨rfl, by go_grown⟩
  | true =>
    cases y with
    | false =>
      simp only [Bool.and_false, Bool.false_and]
      go_enter Tryd.func61, Tryd.ntmps61
      go_wp2_with fail
      refine (C0 _).mono ?_
      rintro r w' ⟨rfl, rfl⟩
      go_wp2_with fail
      refine (C1 _).mono ?_
      rintro r w' ⟨rfl, rfl⟩
      go_wp2
      go_ret
      exact ⟨rfl, by go_grown⟩
    | true =>
      obtain ⟨o, ho⟩ : ∃ o, o = (true && true && (decide (a ≤ d) && decide (b ≤ e) && decide (c ≤ f))) := ⟨_, rfl⟩
      rw [← ho]
      by_cases h0 : a ≤ d
      · by_cases h1 : b ≤ e
        · by_cases h2 : c ≤ f
          · have h : o = true := by rw [ho]; simp [h0, h1, h2]
            clear ho
            subst h
            go_enter Tryd.func61, Tryd.ntmps61
            go_wp2_with fail
            refine (C0 _).mono ?_
            rintro r w' ⟨rfl, rfl⟩
            go_wp2_with fail
            refine (C1 _).mono ?_
            rintro r w' ⟨rfl, rfl⟩
            go_wp2
            go_ret
            exact ⟨rfl, by go_grown⟩
          · have h : o = false := by rw [ho]; simp [h2]
            clear ho
            subst h
            go_enter Tryd.func61, Tryd.ntmps61
            go_wp2_with fail
            refine (C0 _).mono ?_
            rintro r w' ⟨rfl, rfl⟩
            go_wp2_with fail
            refine (C1 _).mono ?_
            rintro r w' ⟨rfl, rfl⟩
            go_wp2
            go_ret
            exact ⟨by simp [h2], by go_grown⟩
        · have h : o = false := by rw [ho]; simp [h1]
          clear ho
          subst h
          go_enter Tryd.func61, Tryd.ntmps61
          go_wp2_with fail
          refine (C0 _).mono ?_
          rintro r w' ⟨rfl, rfl⟩
          go_wp2_with fail
          refine (C1 _).mono ?_
          rintro r w' ⟨rfl, rfl⟩
          go_wp2
          go_ret
          exact ⟨rfl, by go_grown⟩
      · have h : o = false := by rw [ho]; simp [h0]
        clear ho
        subst h
        go_enter Tryd.func61, Tryd.ntmps61
        go_wp2_with fail
        refine (C0 _).mono ?_
        rintro r w' ⟨rfl, rfl⟩
        go_wp2_with fail
        refine (C1 _).mono ?_
        rintro r w' ⟨rfl, rfl⟩
        go_wp2
        go_ret
        exact ⟨rfl, by go_grown⟩
set_option maxHeartbeats 1000000 in
theorem specAdd_no (a b c d e f : Int) (w : World) (h : addOk a b c d e f = false) :
    Calls Tryd.prog 39 #[amt a b c, amt d e f] w fun r w' => r = .returned (.tuple #[amt a b c, .bool false]) ∧ Below w.heap.size w w' := by
  have C0 := fun w => specAmtOk_in a b c w
  have C1 := fun w => specAmtOk_in d e f w
  have C2 := fun w => specAmtOk_in (a + d) (b + e) (c + f) w
  unfold addOk at h
  cases hx : amtOk a b c with
  | false =>
    rw [hx] at C0
    clear hx h
    go_enter Tryd.func39, Tryd.ntmps39
    go_wp2_with fail
    refine (C0 _).mono ?_
    rintro r w' ⟨rfl, rfl⟩
    go_wp2
    go_returns
    exact ⟨rfl, by go_grown⟩
  | true =>
    cases hy : amtOk d e f with
    | false =>
      rw [hx] at C0
      rw [hy] at C1
      clear hx hy h
      go_enter Tryd.func39, Tryd.ntmps39
      go_wp2_with fail
      refine (C0 _).mono ?_
      rintro r w' ⟨rfl, rfl⟩
      go_wp2_with fail
      refine (C1 _).mono ?_
      rintro r w' ⟨rfl, rfl⟩
      go_wp2
      go_returns
      exact ⟨rfl, by go_grown⟩
    | true =>
      obtain ⟨p0, p1, p2⟩ := amtOk_true hx
      obtain ⟨q0, q1, q2⟩ := amtOk_true hy
      have hz : amtOk (a + d) (b + e) (c + f) = false := by rw [hx, hy] at h; simpa using h
      have w0 : wrap64 (a + d) = a + d := wrap_near (by omega) (by omega)
      have w1 : wrap64 (b + e) = b + e := wrap_near (by omega) (by omega)
      have w2 : wrap64 (c + f) = c + f := wrap_near (by omega) (by omega)
      rw [hx] at C0
      rw [hy] at C1
      rw [hz] at C2
      clear hx hy h hz p0 p1 p2 q0 q1 q2
      go_enter Tryd.func39, Tryd.ntmps39
      go_wp2_with fail
      refine (C0 _).mono ?_
      rintro r w' ⟨rfl, rfl⟩
      go_wp2_with fail
      refine (C1 _).mono ?_
      rintro r w' ⟨rfl, rfl⟩
      go_wp2_with fail
      refine (C2 _).mono ?_
      rintro r w' ⟨rfl, rfl⟩
      go_wp2
      go_returns
      exact ⟨rfl, by go_grown⟩
set_option maxHeartbeats 1000000 in
theorem specAdd_yes (a b c d e f : Int) (w : World) (h : addOk a b c d e f = true) :
    Calls Tryd.prog 39 #[amt a b c, amt d e f] w fun r w' => r = .returned (.tuple #[amt (a + d) (b + e) (c + f), .bool true]) ∧ Below w.heap.size w w' := by
  have C0 := fun w => specAmtOk_in a b c w
  have C1 := fun w => specAmtOk_in d e f w
  have C2 := fun w => specAmtOk_in (a + d) (b + e) (c + f) w
  unfold addOk at h
  obtain ⟨⟨hx, hy⟩, hz⟩ : (amtOk a b c = true ∧ amtOk d e f = true) ∧ amtOk (a + d) (b + e) (c + f) = true := by simpa using h
  obtain ⟨p0, p1, p2⟩ := amtOk_true hx
  obtain ⟨q0, q1, q2⟩ := amtOk_true hy
  have w0 : wrap64 (a + d) = a + d := wrap_near (by omega) (by omega)
  have w1 : wrap64 (b + e) = b + e := wrap_near (by omega) (by omega)
  have w2 : wrap64 (c + f) = c + f := wrap_near (by omega) (by omega)
  rw [hx] at C0
  rw [hy] at C1
  rw [hz] at C2
  clear hx hy h hz p0 p1 p2 q0 q1 q2
  go_enter Tryd.func39, Tryd.ntmps39
  go_wp2_with fail
  refine (C0 _).mono ?_
  rintro r w' ⟨rfl, rfl⟩
  go_wp2_with fail
  refine (C1 _).mono ?_
  rintro r w' ⟨rfl, rfl⟩
  go_wp2_with fail
  refine (C2 _).mono ?_
  rintro r w' ⟨rfl, rfl⟩
  go_wp2
  go_returns
  exact ⟨rfl, by go_grown⟩
end Go.Proofs.YtlemhlioidmanaaDoor
