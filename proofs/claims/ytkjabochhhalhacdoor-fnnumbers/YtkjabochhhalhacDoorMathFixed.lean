/-
  Plain facts on a number in so many bytes, the highest first. No program is named here.
-/
import Derived.Test.YtkjabochhhalhacDoorMath
namespace Go.Proofs.YtkjabochhhalhacDoor
open Go.RowKit

/-- The lowest k bytes of n, the highest of them first. -/
def fx : Nat → Nat → List UInt8
  | 0, _ => []
  | k + 1, n => fx k (n / 256) ++ [UInt8.ofNat (n % 256)]
theorem fx_length (k : Nat) : ∀ n, (fx k n).length = k := by
  induction k with
  | zero => intro n; rfl
  | succ k ih => intro n; simp [fx, ih]
theorem fx_cons (k : Nat) : ∀ n, fx (k + 1) n = UInt8.ofNat (n / 256 ^ k % 256) :: fx k n := by
  induction k with
  | zero => intro n; simp [fx]
  | succ k ih =>
    intro n
    have h := ih (n / 256)
    rw [fx, h, Nat.div_div_eq_div_mul, ← Nat.pow_succ', show fx (k + 1) n = fx k (n / 256) ++ [UInt8.ofNat (n % 256)] from rfl]
    simp
theorem fx_snoc (k n : Nat) (m : Nat) (h : m / 256 = n) : fx k n ++ [UInt8.ofNat (m % 256)] = fx (k + 1) m := by rw [← h]; rfl
theorem pow_div (n j : Nat) : n / 256 ^ j / 256 = n / 256 ^ (j + 1) := by rw [Nat.div_div_eq_div_mul, ← Nat.pow_succ]
theorem two_pow8 (j : Nat) : 2 ^ (8 * j) = 256 ^ j := by rw [Nat.pow_mul]
end Go.Proofs.YtkjabochhhalhacDoor

