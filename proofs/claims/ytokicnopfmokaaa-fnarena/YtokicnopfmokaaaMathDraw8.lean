/-
  The draws as plain functions of the code's bytes: what each answers, and where the cursor stands behind it. No program is named here.
-/
import Derived.Test.YtokicnopfmokaaaMath8
namespace Go.Proofs.Ytokicnopfmokaaa
open Go.RowKit

def hN (h : Int) : Int := wrap64 (wrap64 (h * 6364136223846793005) + 1442695040888963407)
def xI (H : Int) : Int := bits BinOp.and IntKind.i64 (bits BinOp.xor IntKind.i64 (H / 8589934592) (H / 35184372088832)) 255
def xN (H : Int) : Nat := (xI H).toNat
theorem and255_lt (x : Int) : ∃ n : Nat, n < 256 ∧ bits BinOp.and IntKind.i64 x 255 = (n : Int) := by
  have h : bits BinOp.and IntKind.i64 x 255 = IntKind.i64.wrap ((BitVec.ofInt 64 x &&& BitVec.ofInt 64 255).toNat : Int) := rfl
  rw [h, BitVec.toNat_and]
  have e : (BitVec.ofInt 64 255).toNat = 2 ^ 8 - 1 := by decide
  rw [e, Nat.and_two_pow_sub_one_eq_mod]
  exact ⟨_, by omega, wraps_i64 _ (by omega) (by omega)⟩
theorem xI_xN (H : Int) : xI H = (xN H : Int) ∧ xN H < 256 := by
  obtain ⟨n, h1, h2⟩ := and255_lt (bits BinOp.xor IntKind.i64 (H / 8589934592) (H / 35184372088832))
  have : xI H = (n : Int) := h2
  unfold xN
  rw [this]
  exact ⟨by simp, by simpa using h1⟩
theorem and255 (n : Nat) (h : n < 9223372036854775808) : bits BinOp.and IntKind.i64 (n : Int) 255 = ((n % 256 : Nat) : Int) := by
  have := bits_mask .i64 63 (by decide) wraps_i64 8 (by decide) (n : Int) (by omega) (by omega)
  have e : (2 : Int) ^ 8 - 1 = 255 := by decide
  rw [e] at this
  rw [this]
  simp

/-- Where a cursor stands: the place of the next byte, and the mixed number. -/
structure Pos where
  i : Nat
  h : Int
def byteV (len : Nat) (cb : Nat → Nat) (p : Pos) : Nat := if p.i < len then (xN (hN p.h) + cb p.i) % 256 else xN (hN p.h)
def byteP (len : Nat) (p : Pos) : Pos := if p.i < len then ⟨p.i + 1, hN p.h⟩ else ⟨p.i, hN p.h⟩
theorem byteV_lt (len : Nat) (cb : Nat → Nat) (p : Pos) : byteV len cb p < 256 := by
  unfold byteV
  split
  · omega
  · exact (xI_xN _).2
theorem byteP_le (len : Nat) (p : Pos) (h : p.i ≤ len) : (byteP len p).i ≤ len := by
  unfold byteP
  split <;> simp only [] <;> omega
def belowV (len : Nat) (cb : Nat → Nat) (n : Nat) (p : Pos) : Nat :=
  if n ≤ 256 then byteV len cb p % n
  else (byteV len cb p * 16777216 + byteV len cb (byteP len p) * 65536 + byteV len cb (byteP len (byteP len p)) * 256 + byteV len cb (byteP len (byteP len (byteP len p)))) % n
def belowP (len : Nat) (n : Nat) (p : Pos) : Pos := if n ≤ 256 then byteP len p else byteP len (byteP len (byteP len (byteP len p)))
theorem belowV_lt (len : Nat) (cb : Nat → Nat) (n : Nat) (p : Pos) (h : 0 < n) : belowV len cb n p < n := by
  unfold belowV; split <;> exact Nat.mod_lt _ h
theorem belowP_le (len n : Nat) (p : Pos) (h : p.i ≤ len) : (belowP len n p).i ≤ len := by
  unfold belowP
  split
  · exact byteP_le _ _ h
  · exact byteP_le _ _ (byteP_le _ _ (byteP_le _ _ (byteP_le _ _ h)))
end Go.Proofs.Ytokicnopfmokaaa
