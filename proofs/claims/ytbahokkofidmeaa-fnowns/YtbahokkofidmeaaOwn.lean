/-
  When what is owned is right: the document's own answer and the program's.
-/
import Derived.Test.YtbahokkofidmeaaMap
import Derived.Test.YtbahokkofidmeaaLabelOk
import Derived.Deep.QuietTactic
import Derived.BigQuiet
namespace Go.Proofs.Ytbahokkofidmeaa
open Go.RowKit
set_option linter.unusedVariables false

/-- Is what stands at place 'k' a category, and above the one ahead of it? -/
def ownAt (xs : List Int) (k : Nat) : Bool := decide (0 ≤ xs.getD k 0) && decide (xs.getD k 0 ≤ 3) && (decide (k = 0) || decide (xs.getD (k - 1) 0 < xs.getD k 0))
/-- Is what is owned right? -/
def ownOk (xs : List Int) : Bool := (List.range xs.length).all (ownAt xs)
theorem ownOk_yes {xs : List Int} (h : ∀ i, i < xs.length → ownAt xs i = true) : ownOk xs = true := by simp [ownOk]; exact h
theorem ownOk_no {xs : List Int} {k : Nat} (hk : k < xs.length) (h : ownAt xs k = false) : ownOk xs = false := by
  unfold ownOk
  exact List.all_eq_false.2 ⟨k, List.mem_range.2 hk, by simp [h]⟩
theorem ownOk_at {xs : List Int} (h : ownOk xs = true) {i : Nat} (hi : i < xs.length) : ownAt xs i = true := List.all_eq_true.1 h i (List.mem_range.2 hi)
theorem getD_bound {xs : List Int} (hx : ∀ x ∈ xs, Fits64 x) (i : Nat) : Fits64 (xs.getD i 0) := by
  by_cases h : i < xs.length
  · exact hx _ (by simp [List.getD, h])
  · have : xs.getD i 0 = 0 := by simp [List.getD, h]
    rw [this]; unfold Fits64; omega

theorem l1In_quiet (x lo hi : Int) (b : Bool) (hb : (decide (lo ≤ x) && decide (x ≤ hi)) = b) (w : World) :
    Calls Try.prog 52 #[.int .i64 x, .int .i64 lo, .int .i64 hi] w fun e w' => e = .returned (.bool b) ∧ w' = w :=
  (l1In_any x lo hi w).mono fun e w' ⟨h1, h2⟩ => ⟨by rw [h1, hb], h2.symm⟩

set_option maxHeartbeats 400000 in
theorem specOwnOk_any (v : Value) (xs : List Int) (w : World) (hx : IsInts w v xs) (hn : xs.length ≤ 1048576) :
    Calls Try.prog 22 #[v] w fun e w' => e = .returned (.bool (ownOk xs)) ∧ Below w.heap.size w w' := by
  obtain ⟨a, cap, rfl, hcap, hx⟩ := hx
  have HX : Hid (∀ i, i < xs.length → ∃ p, a = some p ∧ w.cell? (p.add i) = some (.int .i64 (xs.getD i 0))) := hx
  clear hx
  go_enter Try.func22, Try.ntmps22
  go_wp2
  go_loopw [3] (fun i wr => ∃ k : Nat, k ≤ xs.length ∧ i = .int .i64 k ∧ Hid (∀ i, i < k → ownAt xs i = true) ∧ Below w.heap.size w wr) (fun i _ => xs.length - (intOf i).toNat)
  case atStart => exact ⟨0, Nat.zero_le _, rfl, fun i hi => absurd hi (Nat.not_lt_zero _), Below.refl _ _⟩
  case round =>
    obtain ⟨k, hk, rfl, hall, hnx⟩ := hrel
    by_cases hlt : k < xs.length
    · obtain ⟨p, rfl, hc⟩ := HX.out k hlt
      have hc1 : wr.cell? (p.add k) = some (.int .i64 (xs.getD k 0)) := (hnx.cell (World.block_lt_of_cell? w _ hc)).trans hc
      clear hc
      have H1 : Hid (ownAt xs k = true → ∀ i, i < k + 1 → ownAt xs i = true) := fun h i hi => by
        by_cases he : i = k
        · rw [he]; exact h
        · exact hall.out i (by omega)
      have H2 : Hid (ownAt xs k = false → ownOk xs = false) := fun h => ownOk_no hlt h
      by_cases ho : lvlOk (xs.getD k 0) = true
      · have C : Hid (∀ w, _) := l1In_quiet (xs.getD k 0) 0 3 true ho
        by_cases hpos : k = 0
        · have H3 : Hid (∀ i, i < k + 1 → ownAt xs i = true) := H1.out (by unfold ownAt; unfold lvlOk at ho; rw [ho]; simp [hpos])
          have hgt : decide (0 < k) = false := by simp; omega
          clear hpos
          obtain ⟨x, hx⟩ : ∃ x, x = xs.getD k 0 := ⟨_, rfl⟩
          rw [← hx] at hc1 C
          clear hx H1 H2 ho hall
          go_wp2
          go_quiet ((go_at_call 52; exact Calls.quiet_of_same (C.out _)))
          go_wp2
          go_roundw
          case rel => exact ⟨k + 1, by omega, by go_num, H3, below_drewN hnx _⟩
          case measure => simp [intOf]; omega
        · obtain ⟨q, hq, hd⟩ := HX.out (k - 1) (by omega)
          cases hq
          have hd1 : wr.cell? (p.add (k - 1)) = some (.int .i64 (xs.getD (k - 1) 0)) := (hnx.cell (World.block_lt_of_cell? w _ hd)).trans hd
          clear hd
          have hgt : decide (0 < k) = true := by simp; omega
          have hkk : IntKind.i64.wrap ((k : Int) - 1) = ((k - 1 : Nat) : Int) := by rw [IntKind.wrap_i64]; omega
          have hkl : k - 1 < xs.length := by omega
          by_cases hle : xs.getD k 0 ≤ xs.getD (k - 1) 0
          · have H3 : Hid (ownOk xs = false) := H2.out (by unfold ownAt; rw [decide_eq_false (show ¬ xs.getD (k - 1) 0 < xs.getD k 0 by omega)]; simp [hpos])
            obtain ⟨x, hx⟩ : ∃ x, x = xs.getD k 0 := ⟨_, rfl⟩
            obtain ⟨y, hy⟩ : ∃ y, y = xs.getD (k - 1) 0 := ⟨_, rfl⟩
            obtain ⟨j, hj⟩ : ∃ j, j = k - 1 := ⟨_, rfl⟩
            rw [← hx] at hc1 C hle
            rw [← hy] at hd1 hle
            rw [← hj] at hd1 hkk hkl
            clear hx H1 H2 ho hall hy hj
            go_wp2
            go_quiet ((go_at_call 52; exact Calls.quiet_of_same (C.out _)))
            go_wp2
            go_ret
            rw [H3.out]
            exact ⟨rfl, below_drewN hnx _⟩
          · have H3 : Hid (∀ i, i < k + 1 → ownAt xs i = true) := H1.out (by unfold ownAt; unfold lvlOk at ho; rw [ho, decide_eq_true (show xs.getD (k - 1) 0 < xs.getD k 0 by omega)]; simp)
            obtain ⟨x, hx⟩ : ∃ x, x = xs.getD k 0 := ⟨_, rfl⟩
            obtain ⟨y, hy⟩ : ∃ y, y = xs.getD (k - 1) 0 := ⟨_, rfl⟩
            obtain ⟨j, hj⟩ : ∃ j, j = k - 1 := ⟨_, rfl⟩
            rw [← hx] at hc1 C hle
            rw [← hy] at hd1 hle
            rw [← hj] at hd1 hkk hkl
            clear hx H1 H2 ho hall hy hj
            go_wp2
            go_quiet ((go_at_call 52; exact Calls.quiet_of_same (C.out _)))
            go_wp2
            go_roundw
            case rel => exact ⟨k + 1, by omega, by go_num, H3, below_drewN hnx _⟩
            case measure => simp [intOf]; omega
      · have ho' : lvlOk (xs.getD k 0) = false := by simpa using ho
        have C : Hid (∀ w, _) := l1In_quiet (xs.getD k 0) 0 3 false ho'
        have H3 : Hid (ownOk xs = false) := H2.out (by unfold ownAt; unfold lvlOk at ho'; rw [ho']; simp)
        obtain ⟨x, hx⟩ : ∃ x, x = xs.getD k 0 := ⟨_, rfl⟩
        rw [← hx] at hc1 C
        clear hx H1 H2 ho ho' hall
        go_wp2
        go_quiet ((go_at_call 52; exact Calls.quiet_of_same (C.out _)))
        go_wp2
        go_ret
        rw [H3.out]
        exact ⟨rfl, below_drewN hnx _⟩
    · obtain rfl : k = xs.length := by omega
      have H1 : Hid (ownOk xs = true) := ownOk_yes hall.out
      clear hall
      go_wp2
      go_ret
      rw [H1.out]
      exact ⟨rfl, hnx⟩
end Go.Proofs.Ytbahokkofidmeaa
