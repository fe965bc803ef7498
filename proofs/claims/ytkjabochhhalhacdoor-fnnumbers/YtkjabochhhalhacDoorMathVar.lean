/-
  Plain facts on the bytes that Var makes: each but the last is 128 or more, the last is less; which rows of bytes are a number's. No program is named here.
-/
import Derived.Test.YtkjabochhhalhacDoorMath
namespace Go.Proofs.YtkjabochhhalhacDoor
open Go.RowKit

def val : List UInt8 → Nat
  | [] => 0
  | b :: l => b.toNat % 128 + 128 * val l
theorem val_snoc (l : List UInt8) (b : UInt8) : val (l ++ [b]) = val l + 128 ^ l.length * (b.toNat % 128) := by
  induction l with
  | nil => simp [val]
  | cons c l ih => simp only [List.cons_append, val, ih, List.length_cons, Nat.pow_succ, Nat.mul_add, Nat.mul_comm _ 128, Nat.mul_assoc]; omega
theorem val_lt (l : List UInt8) : val l < 128 ^ l.length := by
  induction l with
  | nil => simp [val]
  | cons c l ih => simp only [val, List.length_cons, Nat.pow_succ]; omega
theorem pow128_le (j : Nat) (h : j ≤ 7) : 128 ^ j ≤ 562949953421312 := by
  have h1 : (128 : Nat) ^ j ≤ 128 ^ 7 := Nat.pow_le_pow_right (by omega) h
  have h2 : (128 : Nat) ^ 7 = 562949953421312 := by decide
  omega
theorem val_small (l : List UInt8) (h : l.length ≤ 7) : val l ≤ 562949953421311 := by
  have h1 := val_lt l
  have h2 := pow128_le l.length h
  omega
theorem enc_init (f : Nat) : ∀ (n i : Nat), i + 1 < (enc f n).length → ∃ b, (enc f n)[i]? = some b ∧ 128 ≤ b.toNat := by
  induction f with
  | zero => intro n i h; simp [enc] at h
  | succ f ih =>
    intro n i h
    by_cases hn : n < 128
    · rw [enc_small _ n hn] at h; simp at h
    · rw [enc_great f n hn] at h ⊢
      cases i with
      | zero => exact ⟨UInt8.ofNat (128 + n % 128), rfl, by rw [ofNat_toNat _ (by omega)]; omega⟩
      | succ i =>
        simp only [List.length_cons] at h
        obtain ⟨b, hb, hb'⟩ := ih (n / 128) i (by omega)
        exact ⟨b, by simpa using hb, hb'⟩
theorem enc_last (f : Nat) : ∀ (n : Nat), n < 128 ^ (f + 1) → ∃ b, (enc f n)[(enc f n).length - 1]? = some b ∧ b.toNat < 128 := by
  induction f with
  | zero => intro n h; simp at h; exact ⟨UInt8.ofNat n, by simp [enc], by rw [ofNat_toNat _ (by omega)]; omega⟩
  | succ f ih =>
    intro n h
    by_cases hn : n < 128
    · rw [enc_small _ n hn]; exact ⟨UInt8.ofNat n, by simp, by rw [ofNat_toNat _ (by omega)]; omega⟩
    · rw [enc_great f n hn]
      obtain ⟨b, hb, hb'⟩ := ih (n / 128) (pow128_div n (f + 1) h)
      refine ⟨b, ?_, hb'⟩
      have hp : 0 < (enc f (n / 128)).length := by cases f <;> (simp only [enc]; try split) <;> simp
      rw [List.length_cons, Nat.add_sub_cancel, show (enc f (n / 128)).length = ((enc f (n / 128)).length - 1) + 1 by omega, List.getElem?_cons_succ]
      exact hb
theorem enc_len (f : Nat) : ∀ (n j : Nat), n < 128 ^ (j + 1) → (enc f n).length ≤ j + 1 := by
  induction f with
  | zero => intro n j h; simp [enc]
  | succ f ih =>
    intro n j h
    by_cases hn : n < 128
    · rw [enc_small _ n hn]; simp
    · rw [enc_great f n hn]
      cases j with
      | zero => simp at h; omega
      | succ j => have := ih (n / 128) j (pow128_div n (j + 1) h); simp; omega
/-- The last byte is less than 128 and not nought, all others are 128 or more. -/
def fine : List UInt8 → Prop
  | [] => False
  | [b] => b.toNat < 128 ∧ b.toNat ≠ 0
  | b :: c :: l => 128 ≤ b.toNat ∧ fine (c :: l)
theorem fine_pos : ∀ l, fine l → 0 < val l
  | [], h => by simp [fine] at h
  | [b], h => by simp only [fine] at h; simp only [val]; omega
  | b :: c :: l, h => by have := fine_pos (c :: l) h.2; simp only [val] at *; omega
theorem fine_enc : ∀ (l : List UInt8) (f : Nat), fine l → l.length ≤ f + 1 → enc f (val l) = l
  | [], _, h, _ => by simp [fine] at h
  | [b], f, h, _ => by
    simp only [fine] at h
    have e : val [b] = b.toNat := by simp only [val]; omega
    rw [e, enc_small f _ h.1]; simp
  | b :: c :: l, f, h, hl => by
    have hp := fine_pos (c :: l) h.2
    have hb := b.toNat_lt
    have hb1 : 128 ≤ b.toNat := h.1
    have e : val (b :: c :: l) = b.toNat % 128 + 128 * val (c :: l) := rfl
    obtain ⟨g, rfl⟩ : ∃ g, f = g + 1 := ⟨f - 1, by simp at hl; omega⟩
    rw [e, enc_great g _ (by omega)]
    have e1 : (b.toNat % 128 + 128 * val (c :: l)) / 128 = val (c :: l) := by omega
    have e2 : 128 + (b.toNat % 128 + 128 * val (c :: l)) % 128 = b.toNat := by omega
    rw [e1, e2, fine_enc (c :: l) g h.2 (by simp at hl ⊢; omega)]
    simp
theorem fine_of (l : List UInt8) (b : UInt8) (hb : b.toNat < 128) (hb0 : b.toNat ≠ 0) (h : ∀ i (hi : i < l.length), 128 ≤ l[i].toNat) : fine (l ++ [b]) := by
  induction l with
  | nil => exact ⟨hb, hb0⟩
  | cons c l ih =>
    have h1 := ih (fun i hi => h (i + 1) (by simpa using hi))
    have h2 := h 0 (by simp)
    cases l with
    | nil => exact ⟨h2, h1⟩
    | cons d l => exact ⟨h2, h1⟩

/-- 'Var of what the first k bytes say is just these bytes'. -/
def Fits (l : List UInt8) (k : Nat) : Prop := enc 7 (val (l.take k)) = l.take k
theorem val_pow (l : List UInt8) (k : Nat) (hk : k ≤ 7) : val (l.take k) < 128 ^ (7 + 1) := by
  have h1 := val_small (l.take k) (by simp; omega)
  have h2 : (128 : Nat) ^ 8 = 72057594037927936 := by decide
  omega
theorem not_fits_open (l : List UInt8) (k : Nat) (hk : k < 7) (hl : k < l.length) (h : 128 ≤ l[k].toNat) : ¬ Fits l (k + 1) := by
  intro hf
  obtain ⟨b, hb, hb'⟩ := enc_last 7 (val (l.take (k + 1))) (val_pow l (k + 1) (by omega))
  rw [hf] at hb
  simp only [List.length_take, Nat.min_eq_left (show k + 1 ≤ l.length by omega), Nat.add_sub_cancel] at hb
  rw [List.getElem?_take_of_lt (by omega), List.getElem?_eq_getElem hl] at hb
  simp at hb
  subst hb
  omega
theorem not_fits_behind (l : List UInt8) (j k : Nat) (hjk : j + 1 < k) (hl : k ≤ l.length) (h : (l[j]'(by omega)).toNat < 128) : ¬ Fits l k := by
  intro hf
  have hlen : (l.take k).length = k := by simp; omega
  obtain ⟨b, hb, hb'⟩ := enc_init 7 (val (l.take k)) j (by rw [hf, hlen]; omega)
  rw [hf, List.getElem?_take_of_lt (by omega), List.getElem?_eq_getElem (by omega)] at hb
  simp at hb
  rw [hb] at h
  omega
theorem take_one_more (l : List UInt8) (k : Nat) (hl : k < l.length) : l.take (k + 1) = l.take k ++ [l[k]] := List.take_succ_eq_append_getElem hl
theorem fits_stop (l : List UInt8) (k : Nat) (hk : k < 7) (hl : k < l.length) (h : l[k].toNat < 128) (h0 : l[k].toNat ≠ 0 ∨ k = 0) (hi : ∀ i (hi : i < k), 128 ≤ (l[i]'(by omega)).toNat) : Fits l (k + 1) := by
  unfold Fits
  by_cases hz : l[k].toNat = 0
  · have hk0 : k = 0 := by omega
    subst hk0
    rw [take_one_more l 0 hl]
    have e : val (l.take 0 ++ [l[0]]) = 0 := by simp [val, hz]
    rw [e, enc_small 7 0 (by omega)]
    have : l[0] = 0 := by apply UInt8.toNat_inj.1; simpa using hz
    simp [this]
  · rw [take_one_more l k hl]
    refine fine_enc _ 7 (fine_of _ _ h hz ?_) (by simp; omega)
    intro i hi'
    rw [List.getElem_take]
    exact hi i (by simp at hi'; omega)
theorem not_fits_nought (l : List UInt8) (k : Nat) (hk : k < 7) (hl : k < l.length) (h : l[k].toNat = 0) (h0 : 0 < k) : ¬ Fits l (k + 1) := by
  intro hf
  unfold Fits at hf
  have hv : val (l.take (k + 1)) = val (l.take k) := by rw [take_one_more l k hl, val_snoc, h]; simp
  have h1 := val_lt (l.take k)
  have h2 : (l.take k).length = k := by simp; omega
  rw [h2] at h1
  obtain ⟨j, rfl⟩ : ∃ j, k = j + 1 := ⟨k - 1, by omega⟩
  have h3 := enc_len 7 (val (l.take (j + 1))) j h1
  rw [← hv, hf] at h3
  simp at h3
  omega

/-- What ReadVar tells: the one beginning that fits, or noughts where none does. -/
def Told (l : List UInt8) (n k : Nat) : Prop :=
  (1 ≤ k ∧ k ≤ 7 ∧ k ≤ l.length ∧ Fits l k ∧ n = val (l.take k)) ∨ (k = 0 ∧ n = 0 ∧ ∀ j, 1 ≤ j → j ≤ 7 → j ≤ l.length → ¬ Fits l j)
theorem fits_one (l : List UInt8) (j k : Nat) (h1 : 1 ≤ j) (hjk : j < k) (h7 : k ≤ 7) (hl : k ≤ l.length) (hj : Fits l j) (hk : Fits l k) : False := by
  obtain ⟨i, rfl⟩ : ∃ i, j = i + 1 := ⟨j - 1, by omega⟩
  by_cases hb : 128 ≤ (l[i]'(by omega)).toNat
  · exact not_fits_open l i (by omega) (by omega) hb hj
  · exact not_fits_behind l i k hjk hl (by omega) hk
theorem told_one (l : List UInt8) (n k n' k' : Nat) (h : Told l n k) (h' : Told l n' k') : n = n' ∧ k = k' := by
  rcases h with ⟨a1, a2, a3, a4, a5⟩ | ⟨a1, a2, a3⟩
  · rcases h' with ⟨b1, b2, b3, b4, b5⟩ | ⟨b1, b2, b3⟩
    · rcases Nat.lt_trichotomy k k' with hlt | rfl | hlt
      · exact (fits_one l k k' a1 hlt b2 b3 a4 b4).elim
      · exact ⟨by rw [a5, b5], rfl⟩
      · exact (fits_one l k' k b1 hlt a2 a3 b4 a4).elim
    · exact (b3 k a1 a2 a3 a4).elim
  · rcases h' with ⟨b1, b2, b3, b4, b5⟩ | ⟨b1, b2, b3⟩
    · exact (a3 k' b1 b2 b3 b4).elim
    · exact ⟨by omega, by omega⟩
/-- All bytes ahead of place k are 128 or more. -/
def Opens (l : List UInt8) (k : Nat) : Prop := ∀ j, j < k → 128 ≤ (l.getD j 0).toNat
theorem Opens.at {l : List UInt8} {k : Nat} (h : Opens l k) (j : Nat) (hj : j < k) (hl : j < l.length) : 128 ≤ l[j].toNat := by
  have := h j hj
  simpa [hl] using this
theorem Opens.succ {l : List UInt8} {k : Nat} (h : Opens l k) (hl : k < l.length) (hb : 128 ≤ l[k].toNat) : Opens l (k + 1) := by
  intro j hj
  by_cases e : j = k
  · subst e; simpa [hl] using hb
  · exact h j (by omega)
theorem told_nought (l : List UInt8) (k : Nat) (hk : k < 7) (hl : k < l.length) (ho : Opens l k) (h0 : l[k].toNat = 0) (hp : 0 < k) : Told l 0 0 := by
  refine .inr ⟨rfl, rfl, ?_⟩
  intro j h1 h7 hjl
  obtain ⟨i, rfl⟩ : ∃ i, j = i + 1 := ⟨j - 1, by omega⟩
  rcases Nat.lt_trichotomy i k with h | rfl | h
  · exact not_fits_open l i (by omega) (by omega) (ho.at i h (by omega))
  · exact not_fits_nought l i hk hl h0 hp
  · exact not_fits_behind l k (i + 1) (by omega) hjl (by omega)
theorem told_at (l : List UInt8) (k : Nat) (hk : k < 7) (hl : k < l.length) (ho : Opens l k) (hb : l[k].toNat < 128) (h0 : l[k].toNat ≠ 0 ∨ k = 0) : Told l (val (l.take (k + 1))) (k + 1) :=
  .inl ⟨by omega, by omega, by omega, fits_stop l k hk hl hb h0 (fun i hi => ho.at i hi (by omega)), rfl⟩
theorem told_end (l : List UInt8) (k : Nat) (ho : Opens l k) (hT : k = 7 ∨ k = l.length) : Told l 0 0 := by
  refine .inr ⟨rfl, rfl, ?_⟩
  intro j h1 h7 hjl
  obtain ⟨i, rfl⟩ : ∃ i, j = i + 1 := ⟨j - 1, by omega⟩
  exact not_fits_open l i (by omega) (by omega) (ho.at i (by omega) (by omega))
theorem bits_or_comm (k : IntKind) (a b : Int) : bits BinOp.or k a b = bits BinOp.or k b a := by
  unfold bits
  first | (simp only []; rw [BitVec.or_comm]) | (simp [BitVec.or_comm])
theorem orShift (v B k : Nat) (hk : k < 7) (hv : v < 128 ^ k) (hB : B < 256) :
    bits BinOp.or IntKind.i64 (v : Int) (wrap64 (bits BinOp.and IntKind.i64 (B : Int) 127 * 2 ^ (7 * k))) = ((v + 128 ^ k * (B % 128) : Nat) : Int) := by
  rw [and127 B (by omega), bits_or_comm]
  obtain rfl | rfl | rfl | rfl | rfl | rfl | rfl : k = 0 ∨ k = 1 ∨ k = 2 ∨ k = 3 ∨ k = 4 ∨ k = 5 ∨ k = 6 := by omega
  all_goals
    simp only [Nat.reduceMul, Nat.reducePow, Int.reducePow] at *
    rw [wrap64_id _ (by omega) (by omega)]
  · rw [bits_join .i64 63 (by decide) wraps_i64 0 _ _ (by omega) (by omega) (by omega) (by omega) (by omega) (by omega)]; omega
  · rw [bits_join .i64 63 (by decide) wraps_i64 7 _ _ (by omega) (by omega) (by omega) (by omega) (by omega) (by omega)]; omega
  · rw [bits_join .i64 63 (by decide) wraps_i64 14 _ _ (by omega) (by omega) (by omega) (by omega) (by omega) (by omega)]; omega
  · rw [bits_join .i64 63 (by decide) wraps_i64 21 _ _ (by omega) (by omega) (by omega) (by omega) (by omega) (by omega)]; omega
  · rw [bits_join .i64 63 (by decide) wraps_i64 28 _ _ (by omega) (by omega) (by omega) (by omega) (by omega) (by omega)]; omega
  · rw [bits_join .i64 63 (by decide) wraps_i64 35 _ _ (by omega) (by omega) (by omega) (by omega) (by omega) (by omega)]; omega
  · rw [bits_join .i64 63 (by decide) wraps_i64 42 _ _ (by omega) (by omega) (by omega) (by omega) (by omega) (by omega)]; omega
theorem orTake (l : List UInt8) (k : Nat) (hk : k < 7) (hl : k < l.length) (B : Nat) (hB : B = l[k].toNat) :
    bits BinOp.or IntKind.i64 (val (l.take k) : Nat) (wrap64 (bits BinOp.and IntKind.i64 (B : Int) 127 * 2 ^ (7 * k))) = ((val (l.take (k + 1)) : Nat) : Int) := by
  have h1 : (l.take k).length = k := by simp; omega
  have h2 := val_lt (l.take k)
  rw [h1] at h2
  rw [orShift _ B k hk h2 (by rw [hB]; exact l[k].toNat_lt), take_one_more l k hl, val_snoc, h1, hB]
end Go.Proofs.YtkjabochhhalhacDoor

