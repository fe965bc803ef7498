/-
  The draws of chapter 1's law, last part: a number, a text and a text for ReadVar, each a function of the code's bytes alone.
-/
import Derived.Test.YtkjabochhhalhacDoorDraw4
namespace Go.Proofs.YtkjabochhhalhacDoor
open Go.RowKit
set_option linter.unusedVariables false

def varS (n : Int) : ByteArray := if 0 ≤ n ∧ n ≤ 562949953421311 then ⟨(enc 7 n.toNat).toArray⟩ else ⟨#[]⟩
theorem enc_length_le (f n : Nat) : (enc f n).length ≤ f + 1 := by
  induction f generalizing n with
  | zero => simp [enc]
  | succ f ih =>
    simp only [enc]
    split
    · simp
    · have := ih (n / 128); simp; omega
theorem varS_size (n : Int) : (varS n).size ≤ 8 := by
  unfold varS
  split
  · have := enc_length_le 7 n.toNat
    simpa [ByteArray.size] using this
  · simp [ByteArray.size]
theorem specVar_any (n : Int) (w : World) : Calls Tryd.prog 24 #[.int .i64 n] w fun e w' => e = .returned (.string (varS n)) ∧ Below w.heap.size w w' := by
  unfold varS
  by_cases h : 0 ≤ n ∧ n ≤ 562949953421311
  · rw [if_pos h]
    obtain ⟨N, rfl⟩ := Int.eq_ofNat_of_zero_le h.1
    exact specVar_yes N w (by omega)
  · rw [if_neg h]
    refine (specVar_no n w (by omega)).mono ?_
    rintro e w' ⟨rfl, rfl⟩
    exact ⟨rfl, Below.refl _ _⟩
theorem implVar_any (n : Int) (w : World) : Calls Tryd.prog 7 #[.int .i64 n] w fun e w' => e = .returned (.string (varS n)) ∧ Below w.heap.size w w' := by
  unfold varS
  by_cases h : 0 ≤ n ∧ n ≤ 562949953421311
  · rw [if_pos h]
    obtain ⟨N, rfl⟩ := Int.eq_ofNat_of_zero_le h.1
    exact implVar_yes N w (by omega)
  · rw [if_neg h]
    refine (implVar_no n w (by omega)).mono ?_
    rintro e w' ⟨rfl, rfl⟩
    exact ⟨rfl, Below.refl _ _⟩
theorem below_grown {w w1 w2 : World} (h : Below w.heap.size w w1) (hg : w1.grownBy w2 (some w.heap.size)) : Below w.heap.size w w2 :=
  h.grown hg h.size (fun k hk => by simp at hk; omega)
/-- A cursor lives on where only new memory is made. -/
theorem Cur.below {w w1 : World} {g len cap : Nat} {a : Option Addr} {cb : Nat → Nat} {p : Pos} (h : Cur w g a len cap cb p) (hb : Below w.heap.size w w1) : Cur w1 g a len cap cb p :=
  ⟨h.code.on ⟨hb.os, hb.tape, hb.output, hb.size, fun k hk _ => hb.block k hk⟩, h.le, by rw [hb.block g (lt_of_block h.obj)]; exact h.obj⟩

set_option maxHeartbeats 400000 in
theorem drawVar_any (w : World) (a : Option Addr) (len cap : Nat) (cb : Nat → Nat) (hc : Code0 w a len cb) :
    Calls Tryd.prog 5 #[.slice a len cap] w fun e w' => e = .returned (.int .i64 (numV len cb (start cb len))) ∧ Below w.heap.size w w' := by
  have c := new_any w a len cap cb hc
  have c1 := fun w1 h1 => num_any w1 w.heap.size len cap a cb (start cb len) h1
  generalize numV len cb (start cb len) = n at *
  generalize numP len cb (start cb len) = q at *
  generalize start cb len = p at *
  have C1 : Hid (∀ w1, Cur w1 w.heap.size a len cap cb p → _) := c1
  clear hc c1
  go_enter Tryd.func5, Tryd.ntmps5
  go_wp2_with fail
  refine c.mono ?_
  rintro e w1 ⟨rfl, hc1, hb1⟩
  have HC : Hid (Cur w1 w.heap.size a len cap cb p) := hc1
  clear c hc1
  go_wp2_with fail
  refine (C1.out w1 HC.out).mono ?_
  rintro e w2 ⟨rfl, hc2, hg2⟩
  clear C1 HC hc2
  go_wp2
  go_ret
  exact ⟨rfl, below_grown hb1 hg2⟩

set_option maxHeartbeats 400000 in
theorem drawHex_any (w : World) (a : Option Addr) (len cap : Nat) (cb : Nat → Nat) (hc : Code0 w a len cb) :
    Calls Tryd.prog 6 #[.slice a len cap] w fun e w' => e = .returned (.string ⟨(textV len cb 40 (start cb len)).toArray⟩) ∧ Below w.heap.size w w' := by
  have c := new_any w a len cap cb hc
  have c1 := fun w1 h1 => text_any w1 w.heap.size len cap 40 a cb (start cb len) h1 (by omega)
  generalize (⟨(textV len cb 40 (start cb len)).toArray⟩ : ByteArray) = n at *
  generalize textP len cb 40 (start cb len) = q at *
  generalize start cb len = p at *
  have C1 : Hid (∀ w1, Cur w1 w.heap.size a len cap cb p → _) := c1
  clear hc c1
  go_enter Tryd.func6, Tryd.ntmps6
  go_wp2_with fail
  refine c.mono ?_
  rintro e w1 ⟨rfl, hc1, hb1⟩
  have HC : Hid (Cur w1 w.heap.size a len cap cb p) := hc1
  clear c hc1
  go_wp2_with fail
  refine (C1.out w1 HC.out).mono ?_
  rintro e w2 ⟨rfl, hc2, hg2⟩
  clear C1 HC hc2
  go_wp2
  go_ret
  exact ⟨rfl, below_grown hb1 hg2⟩

/-- The text that is drawn for ReadVar. -/
def drv0 (len : Nat) (cb : Nat → Nat) : ByteArray := varS (numV len cb (start cb len)) ++ ⟨(textV len cb 4 (numP len cb (start cb len))).toArray⟩
def drv (len : Nat) (cb : Nat → Nat) : ByteArray :=
  if belowV len cb 4 (textP len cb 4 (numP len cb (start cb len))) = 0 then spoilV len cb (drv0 len cb) (belowP len 4 (textP len cb 4 (numP len cb (start cb len)))) else drv0 len cb
theorem drv0_size (len : Nat) (cb : Nat → Nat) : (drv0 len cb).size ≤ 12 := by
  unfold drv0
  rw [ByteArray.size_append]
  have h1 := varS_size (numV len cb (start cb len))
  have h2 := textV_length len cb 4 (numP len cb (start cb len))
  have h3 : (⟨(textV len cb 4 (numP len cb (start cb len))).toArray⟩ : ByteArray).size = (textV len cb 4 (numP len cb (start cb len))).length := by simp [ByteArray.size]
  omega
theorem ext_size (s : ByteArray) (a b : Nat) : (s.extract a b).size ≤ s.size := by rw [ByteArray.size_extract]; omega
theorem spoilV_size (len : Nat) (cb : Nat → Nat) (s : ByteArray) (p : Pos) : (spoilV len cb s p).size ≤ 2 * s.size + 3 := by
  unfold spoilV
  have e := ext_size s
  have one : ∀ b : UInt8, (⟨#[b]⟩ : ByteArray).size = 1 := fun _ => rfl
  split
  · have h2 := textV_length len cb 3 p
    have h3 : (⟨(textV len cb 3 p).toArray⟩ : ByteArray).size = (textV len cb 3 p).length := by simp [ByteArray.size]
    omega
  · split
    · rw [ByteArray.size_append]
      have h1 := e 0 (belowV len cb s.size p)
      have h2 := e (belowV len cb s.size p + 1) s.size
      omega
    · split
      · rw [ByteArray.size_append, ByteArray.size_append, one]
        have h1 := e 0 (belowV len cb s.size p)
        have h2 := e (belowV len cb s.size p) s.size
        omega
      · split
        · have h1 := e 0 (belowV len cb s.size p)
          omega
        · rw [ByteArray.size_append, ByteArray.size_append, one]
          have h1 := e 0 (belowV len cb s.size p)
          have h2 := e (belowV len cb s.size p + 1) s.size
          omega
theorem drv_size (len : Nat) (cb : Nat → Nat) : (drv len cb).size ≤ 27 := by
  have h := drv0_size len cb
  unfold drv
  split
  · have := spoilV_size len cb (drv0 len cb) (belowP len 4 (textP len cb 4 (numP len cb (start cb len))))
    omega
  · omega

set_option maxHeartbeats 1000000 in
theorem drawReadVar_any (w : World) (a : Option Addr) (len cap : Nat) (cb : Nat → Nat) (hc : Code0 w a len cb) :
    Calls Tryd.prog 15 #[.slice a len cap] w fun e w' => e = .returned (.string (drv len cb)) ∧ Below w.heap.size w w' := by
  have c := new_any w a len cap cb hc
  have c1 := fun w1 h1 => num_any w1 w.heap.size len cap a cb (start cb len) h1
  have c2 := fun w1 => specVar_any (numV len cb (start cb len)) w1
  have c3 := fun w1 h1 => text_any w1 w.heap.size len cap 4 a cb (numP len cb (start cb len)) h1 (by omega)
  have c4 := fun w1 h1 => once_any w1 w.heap.size len cap 4 a cb (textP len cb 4 (numP len cb (start cb len))) h1 (by omega) (by omega)
  have c5 := fun w1 h1 => spoil_any w1 w.heap.size len cap a cb (belowP len 4 (textP len cb 4 (numP len cb (start cb len)))) h1 (drv0 len cb) (by have := drv0_size len cb; omega)
  have hsz : (varS (numV len cb (start cb len))).size + (⟨(textV len cb 4 (numP len cb (start cb len))).toArray⟩ : ByteArray).size ≤ 12 := by
    have := drv0_size len cb
    unfold drv0 at this
    rwa [ByteArray.size_append] at this
  have hS : Hid (drv0 len cb = varS (numV len cb (start cb len)) ++ ⟨(textV len cb 4 (numP len cb (start cb len))).toArray⟩) := rfl
  unfold drv
  generalize spoilV len cb (drv0 len cb) (belowP len 4 (textP len cb 4 (numP len cb (start cb len)))) = sp at *
  generalize belowP len 4 (textP len cb 4 (numP len cb (start cb len))) = q4 at *
  generalize belowV len cb 4 (textP len cb 4 (numP len cb (start cb len))) = v at *
  generalize textP len cb 4 (numP len cb (start cb len)) = q3 at *
  generalize (⟨(textV len cb 4 (numP len cb (start cb len))).toArray⟩ : ByteArray) = t at *
  generalize varS (numV len cb (start cb len)) = s0 at *
  generalize numP len cb (start cb len) = q2 at *
  generalize numV len cb (start cb len) = n at *
  generalize start cb len = p at *
  generalize drv0 len cb = S at *
  have C1 : Hid (∀ w1, Cur w1 w.heap.size a len cap cb p → _) := c1
  have C2 : Hid (∀ w1, _) := c2
  have C3 : Hid (∀ w1, Cur w1 w.heap.size a len cap cb q2 → _) := c3
  have C4 : Hid (∀ w1, Cur w1 w.heap.size a len cap cb q3 → _) := c4
  have C5 : Hid (∀ w1, Cur w1 w.heap.size a len cap cb q4 → _) := c5
  clear hc c1 c2 c3 c4 c5
  have hb1 : s0.size ≤ 12 := by omega
  have hb2 : t.size ≤ 12 := by omega
  have rest : ∀ b, b = ((v : Int) == 0) → Calls Tryd.prog 15 #[.slice a len cap] w fun e w' => e = .returned (.string (if v = 0 then sp else S)) ∧ Below w.heap.size w w' := by
    intro b hb
    cases b
    · have hv : ¬ v = 0 := by intro h; rw [h] at hb; simp at hb
      rw [if_neg hv]
      rw [← hb] at C4
      clear hb hv C5
      go_enter Tryd.func15, Tryd.ntmps15
      go_wp2_with fail
      refine c.mono ?_
      rintro e w1 ⟨rfl, hc1, hn1⟩
      have HC : Hid (Cur w1 w.heap.size a len cap cb p) := hc1
      clear c hc1
      go_wp2_with fail
      refine (C1.out w1 HC.out).mono ?_
      rintro e w2 ⟨rfl, hc2, hg2⟩
      have HC2 : Hid (Cur w2 w.heap.size a len cap cb q2) := hc2
      have hn2 := below_grown hn1 hg2
      clear C1 HC hc2 hg2 hn1
      go_wp2_with fail
      refine (C2.out w2).mono ?_
      rintro e w3 ⟨rfl, hb3⟩
      have HC3 : Hid (Cur w3 w.heap.size a len cap cb q2) := HC2.out.below hb3
      have hn3 := hn2.trans (hb3.mono hn2.size)
      clear C2 HC2 hb3 hn2
      go_wp2_with fail
      refine (C3.out w3 HC3.out).mono ?_
      rintro e w4 ⟨rfl, hc4, hg4⟩
      have HC4 : Hid (Cur w4 w.heap.size a len cap cb q3) := hc4
      have hn4 := below_grown hn3 hg4
      clear C3 HC3 hc4 hg4 hn3
      go_wp2_with fail
      refine (C4.out w4 HC4.out).mono ?_
      rintro e w5 ⟨rfl, hc5, hg5⟩
      have HC5 : Hid (Cur w5 w.heap.size a len cap cb q4) := hc5
      have hn5 := below_grown hn4 hg5
      clear C4 HC4 hc5 hg5 hn4
      go_wp2_with fail
      go_ret
      rw [hS.out]
      exact ⟨rfl, hn5⟩
    · have hv : v = 0 := by have := hb.symm; simpa using this
      rw [if_pos hv]
      rw [← hb] at C4
      clear hb hv
      go_enter Tryd.func15, Tryd.ntmps15
      go_wp2_with fail
      refine c.mono ?_
      rintro e w1 ⟨rfl, hc1, hn1⟩
      have HC : Hid (Cur w1 w.heap.size a len cap cb p) := hc1
      clear c hc1
      go_wp2_with fail
      refine (C1.out w1 HC.out).mono ?_
      rintro e w2 ⟨rfl, hc2, hg2⟩
      have HC2 : Hid (Cur w2 w.heap.size a len cap cb q2) := hc2
      have hn2 := below_grown hn1 hg2
      clear C1 HC hc2 hg2 hn1
      go_wp2_with fail
      refine (C2.out w2).mono ?_
      rintro e w3 ⟨rfl, hb3⟩
      have HC3 : Hid (Cur w3 w.heap.size a len cap cb q2) := HC2.out.below hb3
      have hn3 := hn2.trans (hb3.mono hn2.size)
      clear C2 HC2 hb3 hn2
      go_wp2_with fail
      refine (C3.out w3 HC3.out).mono ?_
      rintro e w4 ⟨rfl, hc4, hg4⟩
      have HC4 : Hid (Cur w4 w.heap.size a len cap cb q3) := hc4
      have hn4 := below_grown hn3 hg4
      clear C3 HC3 hc4 hg4 hn3
      go_wp2_with fail
      refine (C4.out w4 HC4.out).mono ?_
      rintro e w5 ⟨rfl, hc5, hg5⟩
      have HC5 : Hid (Cur w5 w.heap.size a len cap cb q4) := hc5
      have hn5 := below_grown hn4 hg5
      clear C4 HC4 hc5 hg5 hn4
      go_wp2_with fail
      rw [← hS.out]
      refine (C5.out w5 HC5.out).mono ?_
      rintro e w6 ⟨rfl, hg6⟩
      have hn6 := below_grown hn5 hg6
      clear C5 HC5 hg6 hn5
      go_wp2
      go_ret
      exact ⟨rfl, hn6⟩
  exact rest _ rfl
end Go.Proofs.YtkjabochhhalhacDoor
