/-
  Plain facts on decimal numerals. No program is named here.
-/
import Derived.WalkKit
import Derived.Lib.ItoaNum
namespace Go.Proofs.YtkjabochhhalhacDoor
open Go.RowKit Go.Lib

/-- What is left of M, and the digits that are told already. -/
def Left10 (M m : Nat) (out : List UInt8) : Prop := (m = 0 ∧ decDigits M = out) ∨ (0 < m ∧ decDigits M = decDigits m ++ out)
theorem left10_start (M : Nat) (h : 0 < M) : Left10 M M [] := .inr ⟨h, by simp⟩
theorem left10_step (M m : Nat) (out : List UInt8) (h : Left10 M m out) (hm : 0 < m) : Left10 M (m / 10) (UInt8.ofNat (48 + m % 10) :: out) := by
  rcases h with ⟨h0, _⟩ | ⟨_, h⟩
  · omega
  · by_cases h10 : m < 10
    · refine .inl ⟨by omega, ?_⟩
      rw [h, decDigits, dif_pos h10, show m % 10 = m by omega]
      rfl
    · refine .inr ⟨by omega, ?_⟩
      rw [h, decDigits, dif_neg h10]
      simp
theorem left10_end (M : Nat) (out : List UInt8) (h : Left10 M 0 out) : out = decDigits M := by
  rcases h with ⟨_, h⟩ | ⟨h, _⟩
  · exact h.symm
  · omega
theorem tdiv_neg10 (m : Nat) : (-(m : Int)).tdiv 10 = -((m / 10 : Nat) : Int) := by rw [Int.neg_tdiv]; rfl
theorem tmod_neg10 (m : Nat) : (-(m : Int)).tmod 10 = -((m % 10 : Nat) : Int) := by rw [Int.neg_tmod]; rfl
theorem cat_bytes (a b : List UInt8) : (⟨a.toArray⟩ : ByteArray) ++ ⟨b.toArray⟩ = ⟨(a ++ b).toArray⟩ := by
  apply ByteArray.ext
  rw [ByteArray.data_append]
  simp
theorem itoa_neg (m : Nat) (h : 0 < m) : itoa (-(m : Int)) = 45 :: decDigits m := by unfold itoa; rw [if_pos (by omega)]; simp
theorem itoa_pos (m : Nat) : itoa (m : Int) = decDigits m := by unfold itoa; rw [if_neg (by omega)]; simp
theorem dd_len : ∀ (k M : Nat), M < 10 ^ (k + 1) → (decDigits M).length ≤ k + 1
  | 0, M, h => by rw [decDigits, dif_pos (by simpa using h)]; simp
  | k + 1, M, h => by
    by_cases h10 : M < 10
    · rw [decDigits, dif_pos h10]; simp
    · have := dd_len k (M / 10) (Nat.div_lt_of_lt_mul (by rw [Nat.pow_succ] at h; omega))
      rw [decDigits, dif_neg h10]; simp; omega
theorem dd_20 (M : Nat) (h : M ≤ 9223372036854775808) : (decDigits M).length ≤ 20 := dd_len 19 M (by omega)
theorem left10_len (M m : Nat) (out : List UInt8) (h : Left10 M m out) : out.length ≤ (decDigits M).length := by
  rcases h with ⟨_, h⟩ | ⟨_, h⟩ <;> rw [h] <;> simp
end Go.Proofs.YtkjabochhhalhacDoor

