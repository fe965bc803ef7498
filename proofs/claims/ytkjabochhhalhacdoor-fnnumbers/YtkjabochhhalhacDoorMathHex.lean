/-
  Plain facts on hex digits: the digit of a number below 16, the number of a digit, the bytes of which a row of digits is made. No program is named here.
-/
import Derived.Test.YtkjabochhhalhacDoorMath
namespace Go.Proofs.YtkjabochhhalhacDoor
open Go.RowKit

/-- The digit of a number below 16, as a byte. -/
def hexd (k : Nat) : UInt8 := if k < 10 then UInt8.ofNat (48 + k) else UInt8.ofNat (87 + k)
def hexs : List UInt8 → List UInt8
  | [] => []
  | b :: l => hexd (b.toNat / 16) :: hexd (b.toNat % 16) :: hexs l
theorem hexlit (x : Nat) (hx : x < 16) (i : Nat) (hi : i = x) (h : i < (ByteArray.mk #[48, 49, 50, 51, 52, 53, 54, 55, 56, 57, 97, 98, 99, 100, 101, 102]).size) :
    (ByteArray.mk #[48, 49, 50, 51, 52, 53, 54, 55, 56, 57, 97, 98, 99, 100, 101, 102])[i] = hexd x := by
  subst hi
  obtain rfl | rfl | rfl | rfl | rfl | rfl | rfl | rfl | rfl | rfl | rfl | rfl | rfl | rfl | rfl | rfl : i = 0 ∨ i = 1 ∨ i = 2 ∨ i = 3 ∨ i = 4 ∨ i = 5 ∨ i = 6 ∨ i = 7 ∨ i = 8 ∨ i = 9 ∨ i = 10 ∨ i = 11 ∨ i = 12 ∨ i = 13 ∨ i = 14 ∨ i = 15 := by omega
  all_goals rfl
theorem hexvs (B : Nat) (hB : B < 256) (p1 : ((B : Int) / 16).toNat < (ByteArray.mk #[48, 49, 50, 51, 52, 53, 54, 55, 56, 57, 97, 98, 99, 100, 101, 102]).size) (p2 : ((B : Int) % 16).toNat < (ByteArray.mk #[48, 49, 50, 51, 52, 53, 54, 55, 56, 57, 97, 98, 99, 100, 101, 102]).size) :
    #[Value.int IntKind.u8 ((ByteArray.mk #[48, 49, 50, 51, 52, 53, 54, 55, 56, 57, 97, 98, 99, 100, 101, 102])[((B : Int) / 16).toNat].toNat : Nat), Value.int IntKind.u8 ((ByteArray.mk #[48, 49, 50, 51, 52, 53, 54, 55, 56, 57, 97, 98, 99, 100, 101, 102])[((B : Int) % 16).toNat].toNat : Nat)] = (bcells [hexd (B / 16), hexd (B % 16)]).toArray := by
  rw [hexlit (B / 16) (by omega) _ (by omega) p1, hexlit (B % 16) (by omega) _ (by omega) p2]
  rfl
theorem hexs_append (a b : List UInt8) : hexs (a ++ b) = hexs a ++ hexs b := by
  induction a with
  | nil => rfl
  | cons c a ih => simp [hexs, ih]
theorem hexs_length (a : List UInt8) : (hexs a).length = 2 * a.length := by
  induction a with
  | nil => rfl
  | cons c a ih => simp [hexs, ih]; omega
theorem hexs_step (s : ByteArray) (k : Nat) (hk : k < s.size) (B : Nat) (hB : B = s[k].toNat) (acc : List UInt8) (h : acc = hexs (s.data.toList.take k)) : acc ++ [hexd (B / 16), hexd (B % 16)] = hexs (s.data.toList.take (k + 1)) := by
  rw [take_snoc s k hk, hexs_append, ← h, hB]; rfl

/-- The number of a digit, or -1. -/
def hexv (b : Nat) : Int := if 48 ≤ b ∧ b ≤ 57 then (b : Int) - 48 else if 97 ≤ b ∧ b ≤ 102 then (b : Int) - 87 else -1
theorem hexv_lt (b : Nat) : -1 ≤ hexv b ∧ hexv b < 16 := by unfold hexv; (repeat' split) <;> omega
theorem hexd_toNat (k : Nat) (h : k < 16) : (hexd k).toNat = if k < 10 then 48 + k else 87 + k := by
  unfold hexd; split <;> rw [ofNat_toNat _ (by omega)]
theorem hexv_hexd (k : Nat) (h : k < 16) : hexv (hexd k).toNat = k := by
  rw [hexd_toNat k h]; unfold hexv; split <;> (repeat' split) <;> omega
theorem hexv_none (b : Nat) (h : ∀ j, j < 16 → (hexd j).toNat ≠ b) : hexv b = -1 := by
  unfold hexv
  split
  · have := h (b - 48) (by omega); rw [hexd_toNat _ (by omega)] at this; split at this <;> omega
  · split
    · have := h (b - 87) (by omega); rw [hexd_toNat _ (by omega)] at this; split at this <;> omega
    · rfl
def unhex : List UInt8 → Option (List UInt8)
  | [] => some []
  | [_] => none
  | a :: b :: l => if hexv a.toNat < 0 ∨ hexv b.toNat < 0 then none else (unhex l).map (UInt8.ofNat (16 * (hexv a.toNat).toNat + (hexv b.toNat).toNat) :: ·)
theorem unhex_append : ∀ (l m acc : List UInt8), unhex l = some acc → unhex (l ++ m) = (unhex m).map (acc ++ ·)
  | [], m, acc, h => by simp [unhex] at h; subst h; simp
  | [_], m, acc, h => by simp [unhex] at h
  | a :: b :: l, m, acc, h => by
    simp only [unhex] at h
    by_cases hc : hexv a.toNat < 0 ∨ hexv b.toNat < 0
    · rw [if_pos hc] at h; cases h
    · rw [if_neg hc] at h
      obtain ⟨acc', h', rfl⟩ := Option.map_eq_some_iff.1 h
      have ih := unhex_append l m acc' h'
      simp only [List.cons_append, unhex, if_neg hc, ih, Option.map_map]
      rfl
theorem unhex_odd : ∀ (l : List UInt8), l.length % 2 = 1 → unhex l = none
  | [], h => by simp at h
  | [_], _ => rfl
  | a :: b :: l, h => by
    have ih := unhex_odd l (by simp at h; omega)
    simp only [unhex, ih]; split <;> rfl
theorem unhex_hexs : ∀ l : List UInt8, unhex (hexs l) = some l
  | [] => rfl
  | b :: l => by
    have hb := b.toNat_lt
    simp only [hexs, unhex, hexv_hexd _ (show b.toNat / 16 < 16 by omega), hexv_hexd _ (show b.toNat % 16 < 16 by omega), unhex_hexs l]
    rw [if_neg (by omega)]
    simp only [Option.map_some, Int.toNat_natCast]
    rw [show 16 * (b.toNat / 16) + b.toNat % 16 = b.toNat by omega]
    simp
theorem two_more (s : ByteArray) (J : Nat) (h : J + 1 < s.size) : s.data.toList.drop J = s[J] :: s[J + 1] :: s.data.toList.drop (J + 2) := by
  rw [List.drop_eq_getElem_cons (by simp; omega), List.drop_eq_getElem_cons (by simp; omega)]
  rfl
/-- What the loop comes to: a pair that is no hex ends it; else one byte more. -/
theorem unhex_bad (s : ByteArray) (J : Nat) (h : J + 1 < s.size) (acc : List UInt8) (ha : unhex (s.data.toList.take J) = some acc) (hb : hexv s[J].toNat < 0 ∨ hexv s[J + 1].toNat < 0) : unhex s.data.toList = none := by
  rw [← List.take_append_drop J s.data.toList, unhex_append _ _ _ ha, two_more s J h]
  simp only [unhex, if_pos hb]
  rfl
theorem unhex_more (s : ByteArray) (J : Nat) (h : J + 1 < s.size) (acc : List UInt8) (ha : unhex (s.data.toList.take J) = some acc) (hb : ¬ (hexv s[J].toNat < 0 ∨ hexv s[J + 1].toNat < 0)) :
    unhex (s.data.toList.take (J + 2)) = some (acc ++ [UInt8.ofNat (16 * (hexv s[J].toNat).toNat + (hexv s[J + 1].toNat).toNat)]) := by
  have e : s.data.toList.take (J + 2) = s.data.toList.take J ++ [s[J], s[J + 1]] := by
    rw [take_snoc s (J + 1) h, take_snoc s J (by omega)]
    simp
  rw [e, unhex_append _ _ _ ha]
  simp only [unhex, if_neg hb]
  rfl
def unhexL (l : List UInt8) : List UInt8 := (unhex l).getD []
def unhexB (l : List UInt8) : Bool := (unhex l).isSome
theorem unhex_none {l : List UInt8} (h : unhex l = none) : unhexL l = [] ∧ unhexB l = false := by simp [unhexL, unhexB, h]
theorem unhex_some {l acc : List UInt8} (h : unhex l = some acc) : unhexL l = acc ∧ unhexB l = true := by simp [unhexL, unhexB, h]
end Go.Proofs.YtkjabochhhalhacDoor

