/-
  Plain facts on bytes and numbers, for the laws of chapter 1 (no program is named here): what a row of bytes reads as, and that '|' and '&' on small numbers are plain sums and remainders. No conditions but those that each theorem names.
-/
import Derived.Test.YtokicnopfmokaaaBase8
import Derived.WalkKit
import Derived.Laws.BitsLemmas
import Derived.Laws.CopyOwn
namespace Go.Proofs.Ytokicnopfmokaaa
open Go.RowKit

theorem wraps_i64 : ∀ n : Int, 0 ≤ n → n < 2 ^ 63 → IntKind.i64.wrap n = n := by
  intro n h0 h1
  simp [IntKind.wrap, IntKind.bits, IntKind.signed] at *
  split <;> omega
def rd (l : List UInt8) : Nat := l.foldl (fun n b => n * 256 + b.toNat) 0
theorem rd_snoc (l : List UInt8) (b : UInt8) : rd (l ++ [b]) = rd l * 256 + b.toNat := by simp [rd]
theorem rd_lt (l : List UInt8) : rd l < 256 ^ l.length := by
  suffices h : ∀ m : List UInt8, rd m.reverse < 256 ^ m.length by
    have := h l.reverse; simpa using this
  intro m
  induction m with
  | nil => simp [rd]
  | cons b m ih =>
    rw [List.reverse_cons, rd_snoc, List.length_cons, Nat.pow_succ]
    have := b.toNat_lt
    omega
theorem take_snoc (s : ByteArray) (k : Nat) (h : k < s.size) : s.data.toList.take (k + 1) = s.data.toList.take k ++ [s[k]] := by
  rw [List.take_succ_eq_append_getElem (by simpa using h)]; rfl
theorem rd_small (l : List UInt8) (k : Nat) (hk : k ≤ 6) (h : l.length ≤ k) : rd l < 281474976710656 := by
  have h1 := rd_lt l
  have h2 : 256 ^ l.length ≤ 256 ^ 6 := Nat.pow_le_pow_right (by omega) (by omega)
  have h3 : (256 : Nat) ^ 6 = 281474976710656 := by decide
  omega
theorem or8 (n b : Nat) (hn : n < 281474976710656) (hb : b < 256) : bits BinOp.or IntKind.i64 ((n : Int) * 256) (wrap64 (b : Int)) = ((n * 256 + b : Nat) : Int) := by
  rw [wrap64_id _ (by omega) (by omega)]
  rw [bits_join .i64 63 (by decide) wraps_i64 8 _ _ (by omega) (by omega) (by omega) (by omega) (by omega) (by omega)]
  omega
/-- A row that is filled from its head on: the bytes 'acc', then f noughts. -/
def bcells (l : List UInt8) : List Value := l.map fun b => .int .u8 (b.toNat : Int)
def rowOf (acc : List UInt8) (f : Nat) : List Value := bcells acc ++ List.replicate f (.int .u8 0)
theorem bcells_append (a b : List UInt8) : bcells (a ++ b) = bcells a ++ bcells b := by simp [bcells]
theorem bcells_length (a : List UInt8) : (bcells a).length = a.length := by simp [bcells]
theorem rowOf_length (acc : List UInt8) (f : Nat) : (rowOf acc f).length = acc.length + f := by simp [rowOf, bcells]
theorem rowOf_splice (acc new : List UInt8) (f : Nat) : splice (rowOf acc (f + new.length)) acc.length (bcells new) = rowOf (acc ++ new) f := by
  unfold splice rowOf
  have h1 : (bcells acc).length = acc.length := bcells_length acc
  rw [List.take_append_of_le_length (by omega), List.take_of_length_le (by omega), bcells_length, List.drop_append, h1, List.drop_of_length_le (by omega), bcells_append]
  simp
theorem rowOf_get (acc : List UInt8) (f j : Nat) (h : j < acc.length) : (rowOf acc f)[j]? = some (.int .u8 (acc[j].toNat : Int)) := by
  unfold rowOf
  rw [List.getElem?_append_left (by rw [bcells_length]; omega)]
  simp [bcells, h]
theorem bcells_one (new : List UInt8) : ∀ v ∈ bcells new, v.oneCell' = true := by
  intro v hv
  simp [bcells] at hv
  obtain ⟨b, _, rfl⟩ := hv
  rfl

/-- The bytes of a number, seven bits to a byte, the lowest first. -/
def enc : Nat → Nat → List UInt8
  | 0, n => [UInt8.ofNat n]
  | f + 1, n => if n < 128 then [UInt8.ofNat n] else UInt8.ofNat (128 + n % 128) :: enc f (n / 128)
theorem enc_small (f n : Nat) (h : n < 128) : enc f n = [UInt8.ofNat n] := by cases f <;> simp [enc, h]
theorem enc_great (f n : Nat) (h : ¬ n < 128) : enc (f + 1) n = UInt8.ofNat (128 + n % 128) :: enc f (n / 128) := by simp [enc, h]
theorem enc_step (acc : List UInt8) (f n : Nat) (h : ¬ n < 128) (l : List UInt8) (hl : acc ++ enc (f + 1) n = l) : (acc ++ [UInt8.ofNat (128 + n % 128)]) ++ enc f (n / 128) = l := by
  rw [← hl, enc_great f n h]; simp
theorem enc_stop (acc : List UInt8) (f n : Nat) (h : n < 128) (l : List UInt8) (hl : acc ++ enc f n = l) : acc ++ [UInt8.ofNat n] = l := by
  rw [← hl, enc_small f n h]
theorem pow128_div (m f : Nat) (h : m < 128 ^ (f + 1)) : m / 128 < 128 ^ f := by
  rw [Nat.pow_succ] at h
  exact Nat.div_lt_of_lt_mul (by omega)
theorem pow128_pos (m f : Nat) (h : m < 128 ^ f) (hm : 127 < m) : ∃ g, f = g + 2 := by
  match f, h with
  | 0, h => simp at h; omega
  | 1, h => simp at h; omega
  | g + 2, _ => exact ⟨g, rfl⟩
theorem ofNat_toNat (n : Nat) (h : n < 256) : (UInt8.ofNat n).toNat = n := by simp; omega
theorem and127 (m : Nat) (h : m < 9223372036854775808) : bits BinOp.and IntKind.i64 (m : Int) 127 = ((m % 128 : Nat) : Int) := by
  have := bits_mask .i64 63 (by decide) wraps_i64 7 (by decide) (m : Int) (by omega) (by omega)
  have e : (2 : Int) ^ 7 - 1 = 127 := by decide
  rw [e] at this
  rw [this]
  simp
theorem or128 (m : Nat) (h : m < 128) : bits BinOp.or IntKind.i64 (m : Int) 128 = ((128 + m : Nat) : Int) := by
  have e : bits BinOp.or IntKind.i64 (m : Int) 128 = bits BinOp.or IntKind.i64 128 (m : Int) := by
    unfold bits
    first | (simp only []; rw [BitVec.or_comm]) | (simp [BitVec.or_comm])
  rw [e, bits_join .i64 63 (by decide) wraps_i64 7 _ _ (by omega) (by omega) (by omega) (by omega) (by omega) (by omega)]
  omega
end Go.Proofs.Ytokicnopfmokaaa

