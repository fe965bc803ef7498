/-
  FnNumbers: what is made of a number is read as it, whatever stands behind; no other text is read.
-/
import Derived.Test.YtkjabochhhalhacDoorDraw5
import Derived.Test.YtkjabochhhalhacDoorMathNumbers
import Derived.Test.YtkjabochhhalhacDoorReadVar
import Derived.Test.YtkjabochhhalhacDoorFixed
import Derived.Test.YtkjabochhhalhacDoorHex
import Derived.Test.YtkjabochhhalhacDoorUnhex
import Derived.Test.YtkjabochhhalhacDoorReadDec
namespace Go.Proofs.YtkjabochhhalhacDoor
open Go.RowKit
set_option linter.unusedVariables false

def fixS (n : Int) : ByteArray := if 0 ≤ n then ⟨(fixedOf 7 n.toNat).toArray⟩ else ⟨#[]⟩
theorem implFixed7_any (n : Int) (w : World) (h : n ≤ 9223372036854775807) : Calls Tryd.prog 9 #[.int .i64 n, .int .i64 7] w fun e w' => e = .returned (.string (fixS n)) ∧ Below w.heap.size w w' := by
  unfold fixS
  by_cases h0 : 0 ≤ n
  · rw [if_pos h0]
    obtain ⟨N, rfl⟩ := Int.eq_ofNat_of_zero_le h0
    exact implFixed_any N 7 w (by omega) (by omega) (by omega)
  · rw [if_neg h0]
    refine (implFixed_no n 7 w (by omega)).mono ?_
    rintro e w' ⟨rfl, rfl⟩
    exact ⟨rfl, Below.refl _ _⟩
theorem readFixed7_any (s : ByteArray) (w : World) (hs : s.size ≤ 1048576) : Calls Tryd.prog 10 #[.string s, .int .i64 7] w fun e w' => ∃ (y : Int) (b : Bool), e = .returned (.tuple #[.int .i64 y, .bool b]) ∧ (7 ≤ s.size → b = true ∧ y = (rd (s.data.toList.take 7) : Nat)) ∧ w' = w := by
  by_cases h : 7 ≤ s.size
  · refine (implReadFixed_yes s 7 w hs (by omega) (by omega) h).mono ?_
    rintro e w' ⟨rfl, rfl⟩
    exact ⟨_, true, rfl, fun _ => ⟨rfl, rfl⟩, rfl⟩
  · refine (implReadFixed_no s 7 w hs (by omega)).mono ?_
    rintro e w' ⟨rfl, rfl⟩
    exact ⟨_, false, rfl, fun h' => absurd h' h, rfl⟩

/-- What is read behind a number's bytes. -/
theorem told_var (n : Int) (T : ByteArray) (x k : Nat) (h : Told (varS n ++ T).data.toList x k) (h0 : 0 ≤ n) (h1 : n ≤ 562949953421311) : (x : Int) = n ∧ k = (varS n).size := by
  have e : varS n = ⟨(enc 7 n.toNat).toArray⟩ := if_pos ⟨h0, h1⟩
  rw [e] at h ⊢
  have h2 : (⟨(enc 7 n.toNat).toArray⟩ ++ T : ByteArray).data.toList = enc 7 n.toNat ++ T.data.toList := by rw [ByteArray.data_append]; simp
  rw [h2] at h
  obtain ⟨e1, e2⟩ := told_one _ _ _ _ _ h (told_enc n.toNat (by omega) T.data.toList)
  refine ⟨by omega, ?_⟩
  rw [e2]; simp [ByteArray.size]

/-- The contracts of the law's callees, at what the code draws: a number n, a text T behind it, a text R. -/
structure Setting (a : Option Addr) (len cap : Nat) (cb : Nat → Nat) (n : Int) (T R S F Dn Hx : ByteArray) : Prop where
  small : len ≤ 1048576
  sizeT : T.size ≤ 40
  sizeR : R.size ≤ 27
  sizeS : S.size ≤ 8
  sizeF : F.size ≤ 7
  drawVar : ∀ w, Code0 w a len cb → Calls Tryd.prog 5 #[.slice a len cap] w fun e w' => e = .returned (.int .i64 n) ∧ Below w.heap.size w w'
  drawHex : ∀ w, Code0 w a len cb → Calls Tryd.prog 6 #[.slice a len cap] w fun e w' => e = .returned (.string T) ∧ Below w.heap.size w w'
  drawRead : ∀ w, Code0 w a len cb → Calls Tryd.prog 15 #[.slice a len cap] w fun e w' => e = .returned (.string R) ∧ Below w.heap.size w w'
  var : ∀ w, Calls Tryd.prog 7 #[.int .i64 n] w fun e w' => e = .returned (.string S) ∧ Below w.heap.size w w'
  fixed : ∀ w, Calls Tryd.prog 9 #[.int .i64 n, .int .i64 7] w fun e w' => e = .returned (.string F) ∧ Below w.heap.size w w'
  dec : ∀ w, Pow w → Calls Tryd.prog 12 #[.int .i64 n] w fun e w' => e = .returned (.string Dn) ∧ Below w.heap.size w w'
  hex : ∀ w, Calls Tryd.prog 14 #[.string T] w fun e w' => e = .returned (.string Hx) ∧ Below w.heap.size w w'
  unhex : ∀ w, Calls Tryd.prog 13 #[.string Hx] w fun e w' => e = .returned (.tuple #[.string T, .bool true]) ∧ Below w.heap.size w w'
/-- What ReadVar tells of R fits: nothing, or a beginning of which Var makes just that. -/
theorem readR (R : ByteArray) (hR : R.size ≤ 27) (w : World) : Calls Tryd.prog 8 #[.string R] w fun e w' => ∃ z j : Nat, e = .returned (.tuple #[.int .i64 z, .int .i64 j]) ∧ (j = 0 ∨ (0 < j ∧ j ≤ R.size ∧ varS z = R.extract 0 j)) ∧ w' = w := by
  refine (implReadVar_any R w (by omega)).mono ?_
  rintro e w' ⟨z, j, rfl, ht, rfl⟩
  refine ⟨z, j, rfl, ?_, rfl⟩
  rcases ht with ⟨h1, h7, hl, hf, hz⟩ | ⟨h0, _, _⟩
  · refine .inr ⟨by omega, by simpa using hl, ?_⟩
    have hs := val_small (R.data.toList.take j) (by simp; omega)
    have e1 : varS (z : Int) = ⟨(enc 7 z).toArray⟩ := if_pos ⟨by omega, by omega⟩
    rw [e1, hz, hf]
    apply ByteArray.ext
    apply Array.toList_inj.1
    rw [Lib.extract_data]
    simp
  · exact .inl h0
theorem readDecN (n : Int) (Dn : ByteArray) (hD : Dn = ⟨(Lib.itoa n).toArray⟩) (hn : -9223372036854775808 ≤ n ∧ n ≤ 9223372036854775807) (w : World) (hp : Pow w) (he : ErrVar w) :
    Calls Tryd.prog 11 #[.string Dn] w fun e w' => ∃ (d : Int) (b : Bool), e = .returned (.tuple #[.int .i64 d, .bool b]) ∧ ((n.natAbs < 1000000000 ∧ b = true ∧ d = n) ∨ (1000000000 ≤ n.natAbs ∧ b = false)) ∧ Below w.heap.size w w' := by
  have hl : (Lib.itoa n).length ≤ 21 := by
    have := dd_20 n.natAbs (by omega)
    rcases itoa_cases n with ⟨_, e⟩ | ⟨_, e⟩ <;> rw [e] <;> simp <;> omega
  have hsz : Dn.size ≤ 1048576 := by rw [hD]; simp [ByteArray.size]; omega
  refine (implReadDec_any Dn w hsz hp he).mono ?_
  rintro e w' ⟨d, b, rfl, hd, hb⟩
  rw [hD] at hd
  exact ⟨d, b, rfl, dec9_itoa n d b (by simpa using hd), hb⟩
end Go.Proofs.YtkjabochhhalhacDoor
