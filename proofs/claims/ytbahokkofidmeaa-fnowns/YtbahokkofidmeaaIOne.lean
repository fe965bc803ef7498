/-
  The program's greater, lesser, oneByOne, slices.Clone and rightOrZero.
-/
import Derived.Test.YtbahokkofidmeaaLvl
namespace Go.Proofs.Ytbahokkofidmeaa
open Go.RowKit
set_option linter.unusedVariables false

set_option maxHeartbeats 400000 in
theorem greater_any (x y : Int) (w : World) :
    Calls Try.prog 45 #[.int .i64 x, .int .i64 y] w fun e w' => e = .returned (.int .i64 (max x y)) ∧ w = w' := by
  have hif : (if x < y then y else x) = max x y := by split <;> omega
  obtain ⟨m, hm⟩ : ∃ m, m = max x y := ⟨_, rfl⟩
  rw [← hm] at hif ⊢
  clear hm
  go_enter Try.func45, Try.ntmps45
  go_wp2
  go_ret
  exact ⟨rfl, rfl⟩

/-- The world of oneByOne: two arrays in boxes, the answer's place, and the array that is filled. -/
def oneW (w : World) (a b c d e f g h : Int) (o : Array Value) : World :=
  (((w.alloc (.cells #[.int .i64 a, .int .i64 b, .int .i64 c, .int .i64 d] 66 (0, 0))).alloc (.cells #[.int .i64 e, .int .i64 f, .int .i64 g, .int .i64 h] 66 (0, 0))).alloc (.cells #[.int .i64 0, .int .i64 0, .int .i64 0, .int .i64 0] 66 (0, 0))).alloc (.cells o 66 (0, 0))
theorem put_top (w : World) (o : Array Value) (n m i : Nat) (v : Value) (hm : m = w.heap.size) : ((w.alloc (.cells o 66 (0, 0))).drewN n).setCell ⟨m, i, none⟩ v = (w.alloc (.cells (o.setIfInBounds i v) 66 (0, 0))).drewN n := by
  have h := World.setCell_alloc_at (w := w) o 66 m i v hm
  rw [← h]
  rfl

def outMax (a b c d e f g h : Int) : Nat → Array Value
  | 0 => #[.int .i64 0, .int .i64 0, .int .i64 0, .int .i64 0]
  | 1 => #[.int .i64 (max a e), .int .i64 0, .int .i64 0, .int .i64 0]
  | 2 => #[.int .i64 (max a e), .int .i64 (max b f), .int .i64 0, .int .i64 0]
  | 3 => #[.int .i64 (max a e), .int .i64 (max b f), .int .i64 (max c g), .int .i64 0]
  | _ => #[.int .i64 (max a e), .int .i64 (max b f), .int .i64 (max c g), .int .i64 (max d h)]

set_option maxHeartbeats 4000000 in
theorem oneByOne_max (a b c d e f g h : Int) (w : World) :
    Calls Try.prog 44 #[arr4 a b c d, arr4 e f g h, .func (.func 45) #[] #[]] w fun x w' => x = .returned (arr4 (max a e) (max b f) (max c g) (max d h)) ∧ Below w.heap.size w w' := by
  go_enter Try.func44, Try.ntmps44
  go_wp2
  go_loopw [8, 9] (fun _ i wr => ∃ (k n : Nat), k ≤ 4 ∧ i = .int .i64 k ∧ wr = (oneW w a b c d e f g h (outMax a b c d e f g h k)).drewN n) (fun _ i _ => 4 - (intOf i).toNat)
  case atStart => exact ⟨0, 0, Nat.zero_le _, rfl, rfl⟩
  case round =>
    obtain ⟨k, n, hk, rfl, rfl⟩ := hrel
    have hcase : k = 0 ∨ k = 1 ∨ k = 2 ∨ k = 3 ∨ k = 4 := by omega
    rcases hcase with rfl | rfl | rfl | rfl | rfl
    · unfold oneW outMax
      go_wp2
      go_region_with (go_at_call 45; refine (greater_any _ _ _).mono ?_; rintro e w' ⟨rfl, rfl⟩)
      all_goals go_wp2
      all_goals refine ⟨⟨1, _, by omega, rfl, put_top _ _ _ _ _ _ (by simp)⟩, by simp [intOf]⟩
    · unfold oneW outMax
      go_wp2
      go_region_with (go_at_call 45; refine (greater_any _ _ _).mono ?_; rintro e w' ⟨rfl, rfl⟩)
      all_goals go_wp2
      all_goals refine ⟨⟨2, _, by omega, rfl, put_top _ _ _ _ _ _ (by simp)⟩, by simp [intOf]⟩
    · unfold oneW outMax
      go_wp2
      go_region_with (go_at_call 45; refine (greater_any _ _ _).mono ?_; rintro e w' ⟨rfl, rfl⟩)
      all_goals go_wp2
      all_goals refine ⟨⟨3, _, by omega, rfl, put_top _ _ _ _ _ _ (by simp)⟩, by simp [intOf]⟩
    · unfold oneW outMax
      go_wp2
      go_region_with (go_at_call 45; refine (greater_any _ _ _).mono ?_; rintro e w' ⟨rfl, rfl⟩)
      all_goals go_wp2
      all_goals refine ⟨⟨4, _, by omega, rfl, put_top _ _ _ _ _ _ (by simp)⟩, by simp [intOf]⟩
    · have HB : Hid (Below w.heap.size w ((oneW w a b c d e f g h (outMax a b c d e f g h 4)).drewN n)) :=
        below_drewN (((((Below.refl _ _).alloc (Nat.le_refl _) _).alloc (by simp) _).alloc (by simp; omega) _).alloc (by simp; omega) _) n
      unfold oneW outMax at HB ⊢
      go_wp2
      refine bodyPost_ret (v := arr4 (max a e) (max b f) (max c g) (max d h)) ?_ rfl ⟨rfl, (((HB.out.setCell (by simp; omega) _).setCell (by simp; omega) _).setCell (by simp; omega) _).setCell (by simp; omega) _⟩
      have hres : Try.f44.results = #[.cell 6 66] := by kernel_rfl
      simp only [results, hres]
      go_simp

def outMin (a b c d e f g h : Int) : Nat → Array Value
  | 0 => #[.int .i64 0, .int .i64 0, .int .i64 0, .int .i64 0]
  | 1 => #[.int .i64 (min a e), .int .i64 0, .int .i64 0, .int .i64 0]
  | 2 => #[.int .i64 (min a e), .int .i64 (min b f), .int .i64 0, .int .i64 0]
  | 3 => #[.int .i64 (min a e), .int .i64 (min b f), .int .i64 (min c g), .int .i64 0]
  | _ => #[.int .i64 (min a e), .int .i64 (min b f), .int .i64 (min c g), .int .i64 (min d h)]

end Go.Proofs.Ytbahokkofidmeaa
