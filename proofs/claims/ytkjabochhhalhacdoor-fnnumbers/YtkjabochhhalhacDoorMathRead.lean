/-
  Plain facts on reading a decimal numeral. No program is named here.
-/
import Derived.Test.YtkjabochhhalhacDoorMathDec
import Derived.Lib.Atoi
namespace Go.Proofs.YtkjabochhhalhacDoor
open Go.RowKit Go.Lib

/-- One byte more: a digit counts, another byte does not. -/
def stepD (p : Nat × Nat) (b : UInt8) : Nat × Nat := if 48 ≤ b.toNat ∧ b.toNat ≤ 57 then (p.1 * 10 + (b.toNat - 48), p.2 + 1) else p
def scan (l : List UInt8) : Nat × Nat := l.foldl stepD (0, 0)
theorem scan_snoc (l : List UInt8) (b : UInt8) : scan (l ++ [b]) = stepD (scan l) b := by simp [scan]
theorem digit_byte (d : Nat) (h : d < 10) : (UInt8.ofNat (48 + d)).toNat = 48 + d := by simp; omega
theorem step_digit (p : Nat × Nat) (d : Nat) (h : d < 10) : stepD p (UInt8.ofNat (48 + d)) = (p.1 * 10 + d, p.2 + 1) := by
  unfold stepD
  rw [digit_byte d h, if_pos (by omega)]
  simp
theorem scan_digits (M : Nat) : scan (decDigits M) = (M, (decDigits M).length) := by
  induction M using Nat.strongRecOn with
  | _ M ih =>
    by_cases h : M < 10
    · rw [decDigits, dif_pos h]
      show stepD (0, 0) _ = _
      rw [step_digit _ _ h]; simp
    · rw [decDigits, dif_neg h, scan_snoc, ih (M / 10) (by omega), step_digit _ _ (by omega)]
      simp
      omega
theorem scan_minus (l : List UInt8) : scan (45 :: l) = scan l := by
  show List.foldl stepD (stepD (0, 0) 45) l = _
  have : stepD (0, 0) 45 = (0, 0) := by unfold stepD; rw [if_neg (by decide)]
  rw [this]; rfl
theorem itoa_cases (m : Int) : (m < 0 ∧ itoa m = 45 :: decDigits m.natAbs) ∨ (0 ≤ m ∧ itoa m = decDigits m.natAbs) := by
  unfold itoa
  by_cases h : m < 0
  · exact .inl ⟨h, if_pos h⟩
  · refine .inr ⟨by omega, ?_⟩
    rw [if_neg h, show m.toNat = m.natAbs by omega]
theorem scan_itoa (m : Int) : scan (itoa m) = (m.natAbs, (decDigits m.natAbs).length) := by
  rcases itoa_cases m with ⟨_, h⟩ | ⟨_, h⟩
  · rw [h, scan_minus, scan_digits]
  · rw [h, scan_digits]
theorem dd_head (M : Nat) : ∃ b l, decDigits M = b :: l ∧ 48 ≤ b.toNat ∧ b.toNat ≤ 57 := by
  induction M using Nat.strongRecOn with
  | _ M ih =>
    by_cases h : M < 10
    · rw [decDigits, dif_pos h]
      exact ⟨_, [], rfl, by rw [digit_byte _ h]; omega, by rw [digit_byte _ h]; omega⟩
    · obtain ⟨b, l, e, h1, h2⟩ := ih (M / 10) (by omega)
      rw [decDigits, dif_neg h, e]
      exact ⟨b, _, rfl, h1, h2⟩
theorem dd_small : ∀ (k M : Nat), (decDigits M).length ≤ k + 1 → M < 10 ^ (k + 1)
  | 0, M, h => by
    by_cases h10 : M < 10
    · simpa using h10
    · rw [decDigits, dif_neg h10] at h
      obtain ⟨b, l, e, _⟩ := dd_head (M / 10)
      rw [e] at h; simp at h
  | k + 1, M, h => by
    by_cases h10 : M < 10
    · exact Nat.lt_of_lt_of_le h10 (by have : 10 ^ 1 ≤ 10 ^ (k + 1 + 1) := Nat.pow_le_pow_right (by omega) (by omega)
                                       simpa using this)
    · rw [decDigits, dif_neg h10] at h
      have := dd_small k (M / 10) (by simp at h; omega)
      rw [Nat.pow_succ]; omega
/-- The sign that the first byte gives. -/
def sg (l : List UInt8) (N : Nat) : Int := if l.head? = some 45 then -(N : Int) else N
theorem sg_itoa (m : Int) : sg (itoa m) m.natAbs = m := by
  unfold sg
  rcases itoa_cases m with ⟨hm, h⟩ | ⟨hm, h⟩
  · rw [h]; simp; omega
  · obtain ⟨b, l, e, h1, _⟩ := dd_head m.natAbs
    rw [h, e, if_neg]
    · omega
    · intro hb
      simp at hb
      rw [hb] at h1
      exact absurd h1 (by decide)
/-- What ReadDec tells. -/
def Dec9 (l : List UInt8) (n : Int) (b : Bool) : Prop :=
  (b = true ∧ itoa n = l ∧ n.natAbs < 1000000000) ∨ (b = false ∧ n = 0 ∧ ∀ m : Int, m.natAbs < 1000000000 → itoa m ≠ l)
theorem itoa_inj {m n : Int} (h : itoa m = itoa n) : m = n := by
  have h1 := scan_itoa m
  rw [h, scan_itoa n] at h1
  have h2 : n.natAbs = m.natAbs := by simpa using congrArg Prod.fst h1
  rw [← sg_itoa m, ← sg_itoa n, h, h2]
theorem dec9_one {l : List UInt8} {n n' : Int} {b b' : Bool} (h : Dec9 l n b) (h' : Dec9 l n' b') : n = n' ∧ b = b' := by
  rcases h with ⟨rfl, e, hs⟩ | ⟨rfl, rfl, hno⟩
  · rcases h' with ⟨rfl, e', _⟩ | ⟨rfl, rfl, hno'⟩
    · exact ⟨itoa_inj (e.trans e'.symm), rfl⟩
    · exact absurd e (hno' n hs)
  · rcases h' with ⟨rfl, e', hs'⟩ | ⟨rfl, rfl, _⟩
    · exact absurd e' (hno n' hs')
    · exact ⟨rfl, rfl⟩
theorem len9 (m : Int) (h : m.natAbs < 1000000000) : (decDigits m.natAbs).length ≤ 9 := dd_len 8 _ (by omega)
theorem itoa_len (m : Int) (h : m.natAbs < 1000000000) : (itoa m).length ≤ 10 := by
  have := len9 m h
  rcases itoa_cases m with ⟨_, e⟩ | ⟨_, e⟩ <;> rw [e] <;> simp <;> omega
theorem dec9_long (l : List UInt8) (h : 10 < l.length) : Dec9 l 0 false := by
  refine .inr ⟨rfl, rfl, fun m hm e => ?_⟩
  have := itoa_len m hm
  rw [e] at this; omega
theorem dec9_many (l : List UInt8) (N K : Nat) (hs : scan (l.take 11) = (N, K)) (hK : 9 < K) : Dec9 l 0 false := by
  refine .inr ⟨rfl, rfl, fun m hm e => ?_⟩
  have h1 := itoa_len m hm
  rw [e] at h1
  rw [List.take_of_length_le (by omega), ← e, scan_itoa] at hs
  have h2 := len9 m hm
  have h3 : (decDigits m.natAbs).length = K := by simpa using congrArg Prod.snd hs
  omega
theorem dec9_other (l : List UInt8) (N K : Nat) (hs : scan (l.take 11) = (N, K)) (h : itoa (sg l N) ≠ l) : Dec9 l 0 false := by
  refine .inr ⟨rfl, rfl, fun m hm e => ?_⟩
  have h1 := itoa_len m hm
  rw [e] at h1
  rw [List.take_of_length_le (by omega), ← e, scan_itoa] at hs
  have h3 : m.natAbs = N := by simpa using congrArg Prod.fst hs
  rw [← h3, ← e, sg_itoa] at h
  exact h rfl
theorem dec9_yes (l : List UInt8) (N K : Nat) (hs : scan (l.take 11) = (N, K)) (hK : K ≤ 9) (hl : l.length ≤ 10) (n : Int) (h : itoa n = l) : Dec9 l n true := by
  refine .inl ⟨rfl, h, ?_⟩
  rw [List.take_of_length_le (by omega), ← h, scan_itoa] at hs
  have h3 : (decDigits n.natAbs).length = K := by simpa using congrArg Prod.snd hs
  have := dd_small 8 n.natAbs (by omega)
  omega
theorem scan_take (l : List UInt8) (i : Nat) (hi : i < l.length) : scan (l.take (i + 1)) = stepD (scan (l.take i)) l[i] := by
  rw [List.take_succ_eq_append_getElem hi, scan_snoc]
theorem scan_bound (l : List UInt8) : (scan l).1 < 10 ^ l.length ∧ (scan l).2 ≤ l.length := by
  suffices h : ∀ m : List UInt8, (scan m.reverse).1 < 10 ^ m.length ∧ (scan m.reverse).2 ≤ m.length by
    have := h l.reverse; simpa using this
  intro m
  induction m with
  | nil => simp [scan]
  | cons b m ih =>
    rw [List.reverse_cons, scan_snoc, List.length_cons, Nat.pow_succ]
    have hb := b.toNat_lt
    unfold stepD
    split
    · exact ⟨by show _ * 10 + _ < _; omega, by show _ + 1 ≤ _; omega⟩
    · exact ⟨by omega, by omega⟩
theorem decFrom_snoc : ∀ (l : List UInt8) (acc n d : Nat) (b : UInt8), decFrom acc l = some n → digitVal b = some d → decFrom acc (l ++ [b]) = some (n * 10 + d)
  | [], acc, n, d, b, h, hd => by simp only [decFrom, Option.some.injEq] at h; subst h; simp [decFrom, hd]
  | a :: t, acc, n, d, b, h, hd => by
    simp only [List.cons_append, decFrom] at h ⊢
    cases ha : digitVal a with
    | none => simp [ha] at h
    | some e => simp only [ha] at h ⊢; exact decFrom_snoc t _ n d b h hd
theorem digitVal_digit (d : Nat) (h : d < 10) : digitVal (UInt8.ofNat (48 + d)) = some d := by
  unfold digitVal
  rw [digit_byte d h, if_pos (by omega)]
  simp
theorem decFrom_digits (M : Nat) : decFrom 0 (decDigits M) = some M := by
  induction M using Nat.strongRecOn with
  | _ M ih =>
    by_cases h : M < 10
    · rw [decDigits, dif_pos h]
      simp only [decFrom, digitVal_digit M h]
      simp
    · rw [decDigits, dif_neg h, decFrom_snoc _ _ _ _ _ (ih (M / 10) (by omega)) (digitVal_digit _ (by omega))]
      congr 1; omega
theorem atoi_itoa (m : Int) : atoi (itoa m) = some m := by
  obtain ⟨b, l, e, h1, h2⟩ := dd_head m.natAbs
  have hd := decFrom_digits m.natAbs
  rcases itoa_cases m with ⟨hm, h⟩ | ⟨hm, h⟩
  · rw [h]
    have : decNat (decDigits m.natAbs) = some m.natAbs := by unfold decNat; rw [if_neg (by rw [e]; simp)]; exact hd
    simp only [atoi, this]
    simp
    omega
  · rw [h]
    have : decNat (decDigits m.natAbs) = some m.natAbs := by unfold decNat; rw [if_neg (by rw [e]; simp)]; exact hd
    rw [e] at this ⊢
    have n1 : (b == 45) = false := by rw [beq_eq_false_iff_ne]; intro hb; rw [hb] at h1; exact absurd h1 (by decide)
    have n2 : (b == 43) = false := by rw [beq_eq_false_iff_ne]; intro hb; rw [hb] at h1; exact absurd h1 (by decide)
    simp only [atoi, n1, n2, this]
    simp
    omega
theorem dec9_none (l : List UInt8) (h : atoi l = none) : Dec9 l 0 false := .inr ⟨rfl, rfl, fun m _ e => by rw [← e, atoi_itoa] at h; cases h⟩
theorem dec9_ne (l : List UInt8) (n : Int) (h : atoi l = some n) (hn : itoa n ≠ l) : Dec9 l 0 false := .inr ⟨rfl, rfl, fun m _ e => by
  rw [← e, atoi_itoa] at h
  obtain rfl := Option.some.inj h
  exact hn e⟩
theorem dec9_wide (l : List UInt8) (n : Int) (h : itoa n = l) (hn : 9 < (decDigits n.natAbs).length) : Dec9 l 0 false := .inr ⟨rfl, rfl, fun m hm e => by
  obtain rfl : m = n := itoa_inj (e.trans h.symm)
  have := len9 m hm
  omega⟩
theorem dec9_here (l : List UInt8) (n : Int) (h : itoa n = l) (hn : (decDigits n.natAbs).length ≤ 9) : Dec9 l n true := .inl ⟨rfl, h, by
  have := dd_small 8 n.natAbs (by omega)
  omega⟩
end Go.Proofs.YtkjabochhhalhacDoor

