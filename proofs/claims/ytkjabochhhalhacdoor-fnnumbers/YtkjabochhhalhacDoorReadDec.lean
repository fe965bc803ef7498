/-
  ReadDec answers as its model at every text of at most 1048576 bytes, which is all that the law asks.
-/
import Derived.Test.YtkjabochhhalhacDoorDec
import Derived.Test.YtkjabochhhalhacDoorMathRead
import Derived.Lib.Strings
import Derived.Lib.AtoiBound
import Derived.Lib.AtoiErrMem
import Derived.Deep.DeepWitnessRowRef
namespace Go.Proofs.YtkjabochhhalhacDoor
open Go.ChangeShapes Go.WideShapes Go.ChangeAt Go.RowKit Go.Lib
open Go.ChangeMaps (open_string shut_string)
set_option linter.unusedVariables false

/-- The loop's two numbers, as they stand behind i bytes. -/
def At (l : List UInt8) (i N K : Nat) : Prop := scan (l.take i) = (N, K)
theorem At.digit {l : List UInt8} {i N K : Nat} (h : At l i N K) (hi : i < l.length) (B : Nat) (hB : B = l[i].toNat) (h1 : 48 ≤ B) (h2 : B ≤ 57) : At l (i + 1) (N * 10 + (B - 48)) (K + 1) := by
  unfold At at *
  rw [scan_take l i hi, h, stepD, if_pos (by omega), hB]
theorem At.other {l : List UInt8} {i N K : Nat} (h : At l i N K) (hi : i < l.length) (B : Nat) (hB : B = l[i].toNat) (h1 : B < 48 ∨ 57 < B) : At l (i + 1) N K := by
  unfold At at *
  rw [scan_take l i hi, h, stepD, if_neg (by omega)]
theorem At.bound {l : List UInt8} {i N K : Nat} (h : At l i N K) (hi : i ≤ 11) : N < 100000000000 ∧ K ≤ 11 := by
  have hb := scan_bound (l.take i)
  rw [h] at hb
  have h1 : (l.take i).length ≤ 11 := by simp; omega
  have h2 : 10 ^ (l.take i).length ≤ 10 ^ 11 := Nat.pow_le_pow_right (by omega) h1
  have h3 : (10 : Nat) ^ 11 = 100000000000 := by decide
  exact ⟨by have := hb.1; simp only [] at this; omega, by have := hb.2; simp only [] at this; omega⟩
theorem At.whole {l : List UInt8} {i N K : Nat} (h : At l i N K) (hi : i = 11 ∨ i = l.length) (h11 : i ≤ 11) : scan (l.take 11) = (N, K) := by
  rcases hi with rfl | rfl
  · exact h
  · rw [List.take_of_length_le h11, ← h, List.take_of_length_le (Nat.le_refl _)]

/-- What both come to: an answer that Dec9 lets, nothing old turned. -/
def Answer (l : List UInt8) (w : World) (e : Ending) (w' : World) : Prop := ∃ (n : Int) (b : Bool), e = .returned (.tuple #[.int .i64 n, .bool b]) ∧ Dec9 l n b ∧ Below w.heap.size w w'
theorem answer_mk {l : List UInt8} {w w' : World} {e : Ending} (n : Int) (b : Bool) (he : e = .returned (.tuple #[.int .i64 n, .bool b])) (hd : Dec9 l n b) (hb : Below w.heap.size w w') : Answer l w e w' := ⟨n, b, he, hd, hb⟩

/-- A text with as many digits as its number has: what 'digits' counts. -/
def digs (n : Int) : Nat := (decDigits n.natAbs).length
theorem itoa_size (n : Int) : (n < 0 ∧ (itoa n).length = digs n + 1) ∨ (0 ≤ n ∧ (itoa n).length = digs n) := by
  rcases itoa_cases n with ⟨h, e⟩ | ⟨h, e⟩
  · exact .inl ⟨h, by rw [e]; rfl⟩
  · exact .inr ⟨h, by rw [e]; rfl⟩

set_option maxHeartbeats 400000 in
theorem digits_any (n : Int) (w : World) (h0 : -9223372036854775808 ≤ n) (h1 : n ≤ 9223372036854775807) (hp : Pow w) :
    Calls Tryd.prog 21 #[.int .i64 n] w fun e w' => e = .returned (.int .i64 (digs n : Nat)) ∧ Below w.heap.size w w' := by
  obtain ⟨s, hs⟩ : ∃ s : ByteArray, s = ⟨(itoa n).toArray⟩ := ⟨_, rfl⟩
  have hl : s.size = (itoa n).length := by rw [hs]; simp [ByteArray.size]
  have h20 : digs n ≤ 20 := dd_20 _ (by omega)
  have c := implDec_any n w h0 h1 hp
  rw [← hs] at c
  obtain ⟨D, hD⟩ : ∃ D, D = digs n := ⟨_, rfl⟩
  rw [← hD] at h20 ⊢
  rcases itoa_size n with ⟨hn, e⟩ | ⟨hn, e⟩
  · have hsz : (s.size : Int) = (D : Int) + 1 := by rw [hl, e, hD]; simp
    clear hs hp hD hl e
    go_enter Tryd.func21, Tryd.ntmps21
    go_wp2_with fail
    refine c.mono ?_
    rintro e w' ⟨rfl, hb⟩
    clear c
    go_wp2
    go_ret
    exact ⟨by go_num, hb⟩
  · have hsz : (s.size : Int) = (D : Int) := by rw [hl, e, hD]
    clear hs hp hD hl e
    go_enter Tryd.func21, Tryd.ntmps21
    go_wp2_with fail
    refine c.mono ?_
    rintro e w' ⟨rfl, hb⟩
    clear c
    go_wp2
    go_ret
    exact ⟨rfl, hb⟩

set_option maxHeartbeats 400000 in
theorem implReadDec_long (s : ByteArray) (w : World) (hs : s.size ≤ 1048576) (hl : 10 < s.size) :
    Calls Tryd.prog 11 #[.string s] w fun e w' => Answer s.data.toList w e w' := by
  have HD : Hid (Dec9 s.data.toList 0 false) := dec9_long _ (by simpa using hl)
  go_enter Tryd.func11, Tryd.ntmps11
  go_wp2_with fail
  go_ret2
  exact answer_mk 0 false rfl HD.out (Below.refl _ _)

set_option maxHeartbeats 400000 in
theorem implReadDec_err (s : ByteArray) (w : World) (hl : s.size ≤ 10) (h : atoi s.data.toList = none) (ev : Value) (hv : w.cell? ⟨0, 0, none⟩ = some ev) (hev : ev = .nilIface ∨ ∃ te pe, ev = .iface te pe) :
    Calls Tryd.prog 11 #[.string s] w fun e w' => Answer s.data.toList w e w' := by
  have HD : Hid (Dec9 s.data.toList 0 false) := dec9_none _ h
  have c := Tryd.strconv_Atoi_err s (by omega) h ev w hv hev
  clear h hev hv
  go_enter Tryd.func11, Tryd.ntmps11
  go_wp2_with fail
  refine c.mono ?_
  rintro e w1 ⟨Nb, rfl, _, _, hb1⟩
  clear c
  go_wp2_with fail
  go_ret2
  exact answer_mk 0 false rfl HD.out hb1

set_option maxHeartbeats 400000 in
theorem implReadDec_num (s : ByteArray) (n : Int) (w : World) (hl : s.size ≤ 10) (h : atoi s.data.toList = some n) (hp : Pow w) :
    Calls Tryd.prog 11 #[.string s] w fun e w' => Answer s.data.toList w e w' := by
  have hb := atoi_bound h (by have : s.data.toList.length = s.size := by simp
                              omega)
  have c := Tryd.strconv_Atoi s n (by omega) h w
  obtain ⟨E, hE⟩ : ∃ E : ByteArray, E = ⟨(itoa n).toArray⟩ := ⟨_, rfl⟩
  obtain ⟨D, hD⟩ : ∃ D, D = digs n := ⟨_, rfl⟩
  have hD20 : D ≤ 20 := by rw [hD]; exact dd_20 _ (by omega)
  have c2 := fun w hp => implDec_any n w (by omega) (by omega) hp
  have c3 := fun w hp => digits_any n w (by omega) (by omega) hp
  simp only [← hE] at c2
  simp only [← hD] at c3
  have C2 : Hid (∀ w, Pow w → Calls Tryd.prog 12 #[.int .i64 n] w fun e w' => e = .returned (.string E) ∧ Below w.heap.size w w') := c2
  have C3 : Hid (∀ w, Pow w → Calls Tryd.prog 21 #[.int .i64 n] w fun e w' => e = .returned (.int .i64 (D : Nat)) ∧ Below w.heap.size w w') := c3
  have HP : Hid (Pow w) := hp
  have fin : ((E.toList == s.toList) = false ∧ Dec9 s.data.toList 0 false) ∨ ((E.toList == s.toList) = true ∧ ((9 < D ∧ Dec9 s.data.toList 0 false) ∨ (D ≤ 9 ∧ Dec9 s.data.toList n true))) := by
    rw [Lib.toList_data, Lib.toList_data, hE, hD]
    by_cases he : itoa n = s.data.toList
    · refine .inr ⟨by simp [he], ?_⟩
      by_cases h9 : 9 < digs n
      · exact .inl ⟨h9, dec9_wide _ n he h9⟩
      · exact .inr ⟨by omega, dec9_here _ n he (by unfold digs at h9; omega)⟩
    · exact .inl ⟨by simp [he], dec9_ne _ n h he⟩
  clear c2 c3 hp hE hD h
  rcases fin with ⟨hq, hd⟩ | ⟨hq, ⟨h9, hd⟩ | ⟨h9, hd⟩⟩
  · have HD : Hid (Dec9 s.data.toList 0 false) := hd
    clear hd C3
    go_enter Tryd.func11, Tryd.ntmps11
    go_wp2_with fail
    refine c.mono ?_
    rintro e w1 ⟨rfl, tt, hw1⟩
    have hb1 : Below w.heap.size w w1 := by rw [hw1]; exact bytesWorld_below w 5 tt
    clear c hw1
    go_wp2_with fail
    refine (C2.out w1 (HP.out.on hb1)).mono ?_
    rintro e w2 ⟨rfl, hb2⟩
    have hb12 : Below w.heap.size w w2 := hb1.trans (hb2.mono hb1.size)
    clear C2 hb1 hb2
    go_wp2_with fail
    go_ret2
    exact answer_mk 0 false rfl HD.out hb12
  · have HD : Hid (Dec9 s.data.toList 0 false) := hd
    clear hd
    go_enter Tryd.func11, Tryd.ntmps11
    go_wp2_with fail
    refine c.mono ?_
    rintro e w1 ⟨rfl, tt, hw1⟩
    have hb1 : Below w.heap.size w w1 := by rw [hw1]; exact bytesWorld_below w 5 tt
    clear c hw1
    go_wp2_with fail
    refine (C2.out w1 (HP.out.on hb1)).mono ?_
    rintro e w2 ⟨rfl, hb2⟩
    have hb12 : Below w.heap.size w w2 := hb1.trans (hb2.mono hb1.size)
    clear C2 hb1 hb2
    go_wp2_with fail
    refine (C3.out w2 (HP.out.on hb12)).mono ?_
    rintro e w3 ⟨rfl, hb3⟩
    have hb13 : Below w.heap.size w w3 := hb12.trans (hb3.mono hb12.size)
    clear C3 HP hb12 hb3
    go_wp2
    go_ret2
    exact answer_mk 0 false rfl HD.out hb13
  · have HD : Hid (Dec9 s.data.toList n true) := hd
    clear hd
    go_enter Tryd.func11, Tryd.ntmps11
    go_wp2_with fail
    refine c.mono ?_
    rintro e w1 ⟨rfl, tt, hw1⟩
    have hb1 : Below w.heap.size w w1 := by rw [hw1]; exact bytesWorld_below w 5 tt
    clear c hw1
    go_wp2_with fail
    refine (C2.out w1 (HP.out.on hb1)).mono ?_
    rintro e w2 ⟨rfl, hb2⟩
    have hb12 : Below w.heap.size w w2 := hb1.trans (hb2.mono hb1.size)
    clear C2 hb1 hb2
    go_wp2_with fail
    refine (C3.out w2 (HP.out.on hb12)).mono ?_
    rintro e w3 ⟨rfl, hb3⟩
    have hb13 : Below w.heap.size w w3 := hb12.trans (hb3.mono hb12.size)
    clear C3 HP hb12 hb3
    go_wp2
    go_ret2
    exact answer_mk n true rfl HD.out hb13

/-- The variable of the first error holds some interface value. -/
def ErrVar (w : World) : Prop := ∃ ev, w.cell? ⟨0, 0, none⟩ = some ev ∧ (ev = .nilIface ∨ ∃ te pe, ev = .iface te pe)
theorem implReadDec_any (s : ByteArray) (w : World) (hs : s.size ≤ 1048576) (hp : Pow w) (he : ErrVar w) :
    Calls Tryd.prog 11 #[.string s] w fun e w' => Answer s.data.toList w e w' := by
  by_cases hl : 10 < s.size
  · exact implReadDec_long s w hs hl
  · cases h : atoi s.data.toList with
    | none =>
      obtain ⟨ev, hv, hev⟩ := he
      exact implReadDec_err s w (by omega) h ev hv hev
    | some n => exact implReadDec_num s n w (by omega) h hp
theorem ErrVar.on {w w' : World} (h : ErrVar w) (hb : Below w.heap.size w w') : ErrVar w' := by
  obtain ⟨ev, hv, hev⟩ := h
  have h0 : 0 < w.heap.size := by
    rcases Nat.eq_zero_or_pos w.heap.size with h | h
    · have : w.heap[0]? = none := by rw [Array.getElem?_eq_none]; omega
      simp [World.cell?, this] at hv
    · exact h
  exact ⟨ev, by rw [hb.cell (p := ⟨0, 0, none⟩) h0]; exact hv, hev⟩

end Go.Proofs.YtkjabochhhalhacDoor

