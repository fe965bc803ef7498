/-
  What the law of chapter 1 asks, of the plain functions: what is made of a number is read as it, whatever stands behind. No program is named here.
-/
import Derived.Test.YtkjabochhhalhacDoorMathVar
import Derived.Test.YtkjabochhhalhacDoorMathFixed
import Derived.Test.YtkjabochhhalhacDoorMathHex
import Derived.Test.YtkjabochhhalhacDoorMathRead
namespace Go.Proofs.YtkjabochhhalhacDoor
open Go.RowKit

theorem val_enc (f : Nat) : ∀ n, n < 128 ^ (f + 1) → val (enc f n) = n := by
  induction f with
  | zero =>
    intro n h
    simp at h
    simp only [enc, val, ofNat_toNat n (by omega)]
    omega
  | succ f ih =>
    intro n h
    by_cases hn : n < 128
    · rw [enc_small _ n hn]
      simp only [val, ofNat_toNat n (by omega)]
      omega
    · rw [enc_great f n hn]
      simp only [val, ih (n / 128) (pow128_div n (f + 1) h), ofNat_toNat (128 + n % 128) (by omega)]
      omega
theorem told_enc (n : Nat) (hn : n ≤ 562949953421311) (T : List UInt8) : Told (enc 7 n ++ T) n (enc 7 n).length := by
  have h7 : (128 : Nat) ^ 7 = 562949953421312 := by decide
  have h8 : (128 : Nat) ^ 8 = 72057594037927936 := by decide
  have hl := enc_len 7 n 6 (by omega)
  have hp : 1 ≤ (enc 7 n).length := by
    rcases Nat.lt_or_ge n 128 with h | h
    · rw [enc_small 7 n h]; simp
    · rw [enc_great 6 n (by omega)]; simp
  have ht : (enc 7 n ++ T).take (enc 7 n).length = enc 7 n := List.take_left
  refine .inl ⟨hp, by omega, by simp, ?_, ?_⟩
  · unfold Fits
    rw [ht, val_enc 7 n (by omega)]
  · rw [ht, val_enc 7 n (by omega)]
theorem rd_fx (k : Nat) : ∀ n, n < 256 ^ k → rd (fx k n) = n := by
  induction k with
  | zero => intro n h; simp at h; subst h; rfl
  | succ k ih =>
    intro n h
    have h1 : n / 256 < 256 ^ k := Nat.div_lt_of_lt_mul (by rw [Nat.pow_succ] at h; omega)
    rw [fx, rd_snoc, ih (n / 256) h1, ofNat_toNat _ (by omega)]
    omega
theorem dec9_itoa (n d : Int) (b : Bool) (h : Dec9 (Lib.itoa n) d b) : (n.natAbs < 1000000000 ∧ b = true ∧ d = n) ∨ (1000000000 ≤ n.natAbs ∧ b = false) := by
  rcases h with ⟨rfl, e, hs⟩ | ⟨rfl, rfl, hno⟩
  · have := itoa_inj e
    subst this
    exact .inl ⟨hs, rfl, rfl⟩
  · refine .inr ⟨?_, rfl⟩
    rcases Nat.lt_or_ge n.natAbs 1000000000 with h | h
    · exact absurd rfl (hno n h)
    · exact h
end Go.Proofs.YtkjabochhhalhacDoor
