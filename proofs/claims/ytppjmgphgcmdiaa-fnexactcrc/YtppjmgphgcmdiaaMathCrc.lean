/-
  The sum of a text's bytes, by halves of a byte as by bits.
-/
import Derived.Test.YtppjmgphgcmdiaaRows
import Derived.WalkKit
import Derived.ProofKit
namespace Go.Proofs.Ytppjmgphgcmdiaa
set_option linter.unusedVariables false

/-- One bit of the sum. -/
def crcBit (c : Nat) : Nat := if c % 2 = 1 then (c / 2) ^^^ 2197175160 else c / 2
/-- 'k' bits of it. -/
def crcBits : Nat → Nat → Nat
  | 0, c => c
  | k + 1, c => crcBits k (crcBit c)
/-- A byte. -/
def crcByte (c : Nat) (b : UInt8) : Nat := crcBits 8 (c ^^^ b.toNat)
/-- A text's bytes, from 'c' on. -/
def crcRun (c : Nat) (l : List UInt8) : Nat := l.foldl crcByte c
def crcOf (l : List UInt8) : Int := 4294967295 - (crcRun 4294967295 l : Nat)

theorem crcBit_lt (c : Nat) (h : c < 4294967296) : crcBit c < 4294967296 := by
  unfold crcBit
  split
  · exact Nat.xor_lt_two_pow (n := 32) (by omega) (by omega)
  · omega
theorem crcBits_lt (k c : Nat) (h : c < 4294967296) : crcBits k c < 4294967296 := by
  induction k generalizing c with
  | zero => exact h
  | succ k ih => exact ih _ (crcBit_lt c h)
theorem crcXor_lt (c : Nat) (b : UInt8) (h : c < 4294967296) : c ^^^ b.toNat < 4294967296 :=
  Nat.xor_lt_two_pow (n := 32) h (by have := b.toNat_lt; omega)
theorem crcByte_lt (c : Nat) (b : UInt8) (h : c < 4294967296) : crcByte c b < 4294967296 := crcBits_lt 8 _ (crcXor_lt c b h)
theorem crcRun_lt (l : List UInt8) (c : Nat) (h : c < 4294967296) : crcRun c l < 4294967296 := by
  unfold crcRun
  induction l generalizing c with
  | nil => exact h
  | cons b l ih => exact ih _ (crcByte_lt c b h)
theorem crcRun_snoc (c : Nat) (l : List UInt8) (b : UInt8) : crcRun c (l ++ [b]) = crcByte (crcRun c l) b := by
  unfold crcRun; rw [List.foldl_append]; rfl
theorem crcBits_snoc (k c : Nat) : crcBits (k + 1) c = crcBit (crcBits k c) := by
  induction k generalizing c with
  | zero => rfl
  | succ k ih => rw [crcBits, ih (crcBit c)]; rfl

/-- A bit is additive. -/
theorem crcBit_xor (a b : Nat) : crcBit (a ^^^ b) = crcBit a ^^^ crcBit b := by
  have h2 : (a ^^^ b) / 2 = a / 2 ^^^ b / 2 := by
    have := Nat.xor_div_two_pow (a := a) (b := b) (n := 1)
    simpa using this
  have hm : (a ^^^ b) % 2 = (a % 2 + b % 2) % 2 := by
    have h := Nat.testBit_xor (x := a) (y := b) (i := 0)
    rw [Nat.testBit_zero, Nat.testBit_zero, Nat.testBit_zero] at h
    rcases Nat.mod_two_eq_zero_or_one a with ha | ha <;> rcases Nat.mod_two_eq_zero_or_one b with hb | hb <;> rcases Nat.mod_two_eq_zero_or_one (a ^^^ b) with hc | hc <;> simp [ha, hb, hc] at h ⊢
  unfold crcBit
  rw [h2]
  rcases Nat.mod_two_eq_zero_or_one a with ha | ha <;> rcases Nat.mod_two_eq_zero_or_one b with hb | hb
  · rw [if_neg (by omega), if_neg (by omega), if_neg (by omega)]
  · rw [if_pos (by omega), if_neg (by omega), if_pos (by omega), Nat.xor_assoc]
  · rw [if_pos (by omega), if_pos (by omega), if_neg (by omega), Nat.xor_assoc, Nat.xor_assoc, Nat.xor_comm (b / 2)]
  · rw [if_neg (by omega), if_pos (by omega), if_pos (by omega)]
    rw [Nat.xor_assoc, ← Nat.xor_assoc 2197175160, Nat.xor_comm 2197175160, Nat.xor_assoc, Nat.xor_self, Nat.xor_zero]
theorem crcBits_xor (k a b : Nat) : crcBits k (a ^^^ b) = crcBits k a ^^^ crcBits k b := by
  induction k generalizing a b with
  | zero => rfl
  | succ k ih => rw [crcBits, crcBit_xor, ih]; rfl
/-- Where the low bits are nought they are dropped. -/
theorem crcBits_shift (k c : Nat) : crcBits k (c * 2 ^ k) = c := by
  induction k with
  | zero => simp [crcBits]
  | succ k ih =>
    have e : c * 2 ^ (k + 1) = c * 2 ^ k * 2 := by rw [Nat.pow_succ, Nat.mul_assoc]
    rw [crcBits, crcBit, if_neg (by rw [e]; omega), e, Nat.mul_div_cancel _ (by omega)]
    exact ih
theorem split_low (k c : Nat) : c = (c / 2 ^ k * 2 ^ k) ^^^ (c % 2 ^ k) := by
  apply Nat.eq_of_testBit_eq
  intro i
  rw [Nat.testBit_xor, Nat.testBit_mod_two_pow, Nat.testBit_mul_two_pow, Nat.testBit_div_two_pow]
  by_cases h : i < k
  · have : ¬ k ≤ i := by omega
    simp [h, this]
  · have : k ≤ i := by omega
    simp [h, this]
theorem crcBits_low (k c : Nat) : crcBits k c = (c / 2 ^ k) ^^^ crcBits k (c % 2 ^ k) := by
  conv => lhs; rw [split_low k c]
  rw [crcBits_xor, crcBits_shift]
theorem crcBits_add (j k c : Nat) : crcBits (j + k) c = crcBits k (crcBits j c) := by
  induction j generalizing c with
  | zero => rw [Nat.zero_add]; rfl
  | succ j ih => rw [show j + 1 + k = (j + k) + 1 by omega, crcBits, ih]; rfl
/-- The table of halves of a byte. -/
def crcTab : List Nat := [0, 274646895, 549293790, 820201905, 1098587580, 1361435347, 1640403810, 1905808397, 2197175160, 2460548119, 2722870694, 2987750089, 3280807620, 3553878443, 3811616794, 4084100981]
def crcNib (c : Nat) : Nat := crcTab.getD (c % 16) 0 ^^^ (c / 16)
theorem crcNib_eq (c : Nat) : crcNib c = crcBits 4 c := by
  rw [crcBits_low 4 c, Nat.xor_comm]
  unfold crcNib
  congr 1
  have h : c % 2 ^ 4 < 16 := Nat.mod_lt _ (by decide)
  show crcTab.getD (c % 2 ^ 4) 0 = _
  generalize c % 2 ^ 4 = n at h
  have hall : ∀ n : Fin 16, crcTab.getD n.val 0 = crcBits 4 n.val := by decide
  exact hall ⟨n, h⟩
/-- A byte is two halves. -/
theorem crcByte_nib (c : Nat) (b : UInt8) : crcByte c b = crcNib (crcNib (c ^^^ b.toNat)) := by
  rw [crcNib_eq, crcNib_eq, ← crcBits_add]; rfl
end Go.Proofs.Ytppjmgphgcmdiaa
