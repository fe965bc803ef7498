/-
  ReadDec answers as its model at every text of at most 1048576 bytes, which is all that the law asks.
-/
import Derived.Test.YtkjabochhhalhaiDoorDec
import Derived.Test.YtkjabochhhalhaiDoorMathRead
import Derived.Lib.Strings
import Derived.Lib.AtoiBound
import Derived.Lib.AtoiErrMem
import Derived.Deep.DeepWitnessRowRef
namespace Go.Proofs.YtkjabochhhalhaiDoor
open Go.ChangeShapes Go.WideShapes Go.ChangeAt Go.RowKit Go.Lib
open Go.ChangeMaps (open_string shut_string)
set_option linter.unusedVariables false

/-- The loop's two numbers, as they stand behind i bytes. -/
def At (l : List UInt8) (i N K : Nat) : Prop := scan (l.take i) = (N, K)
theorem At.digit {l : List UInt8} {i N K : Nat} (h : At l i N K) (hi : i < l.length) (B : Nat) (hB : B = l[i].toNat) (h1 : 48 ≤ B) (h2 : B ≤ 57) : At l (i + 1) (N * 10 + (B - 48)) (K + 1) := by
  unfold At at *
  rw [scan_take l i hi, h, stepD, if_pos (by omega), hB]
theorem At.other {l : List UInt8} {i N K : Nat} (h : At l i N K) (hi : i < l.length) (B : Nat) (hB : B = l[i].toNat) (h1 : B < 48 ∨ 57 < B) : At l (i + 1) N K := by
  unfold At at *
  rw [scan_take l i hi, h, stepD, if_neg (by omega)]
theorem At.bound {l : List UInt8} {i N K : Nat} (h : At l i N K) (hi : i ≤ 11) : N < 100000000000 ∧ K ≤ 11 := by
  have hb := scan_bound (l.take i)
  rw [h] at hb
  have h1 : (l.take i).length ≤ 11 := by simp; omega
  have h2 : 10 ^ (l.take i).length ≤ 10 ^ 11 := Nat.pow_le_pow_right (by omega) h1
  have h3 : (10 : Nat) ^ 11 = 100000000000 := by decide
  exact ⟨by have := hb.1; simp only [] at this; omega, by have := hb.2; simp only [] at this; omega⟩
theorem At.whole {l : List UInt8} {i N K : Nat} (h : At l i N K) (hi : i = 11 ∨ i = l.length) (h11 : i ≤ 11) : scan (l.take 11) = (N, K) := by
  rcases hi with rfl | rfl
  · exact h
  · rw [List.take_of_length_le h11, ← h, List.take_of_length_le (Nat.le_refl _)]

/-- What both come to: an answer that Dec9 lets, nothing old turned. -/
def Answer (l : List UInt8) (w : World) (e : Ending) (w' : World) : Prop := ∃ (n : Int) (b : Bool), e = .returned (.tuple #[.int .i64 n, .bool b]) ∧ Dec9 l n b ∧ Below w.heap.size w w'
theorem answer_mk {l : List UInt8} {w w' : World} {e : Ending} (n : Int) (b : Bool) (he : e = .returned (.tuple #[.int .i64 n, .bool b])) (hd : Dec9 l n b) (hb : Below w.heap.size w w') : Answer l w e w' := ⟨n, b, he, hd, hb⟩

set_option maxRecDepth 100000 in
set_option maxHeartbeats 1000000 in
theorem specReadDec_any (s : ByteArray) (w : World) (hs : s.size ≤ 1048576) :
    Calls Tryd.prog 7 #[.string s] w fun e w' => Answer s.data.toList w e w' := by
  go_enter Tryd.func7, Tryd.ntmps7
  go_wp2
  go_loop [4, 5, 6] (fun n k i => ∃ I N K : Nat, I ≤ 11 ∧ I ≤ s.size ∧ i = .int .i64 I ∧ n = .int .i64 N ∧ k = .int .i64 K ∧ N < 100000000000 ∧ K ≤ 11 ∧ Hid (At s.data.toList I N K)) (fun _ _ i => 11 - (RowKit.intOf i).toNat)
  case atStart => exact ⟨0, 0, 0, by omega, by omega, rfl, rfl, rfl, by omega, by omega, rfl⟩
  case round =>
    obtain ⟨I, N, K, hI, hIs, rfl, rfl, rfl, hN, hK, hA⟩ := hrel
    by_cases hlt : I < s.size ∧ I < 11
    · obtain ⟨hlt1, hlt2⟩ := hlt
      have hIl : I < s.data.toList.length := by simpa using hlt1
      obtain ⟨B, hB⟩ : ∃ B : Nat, B = s[I].toNat := ⟨_, rfl⟩
      have hB2 : B < 256 := by rw [hB]; exact s[I].toNat_lt
      have hB0 : ((s[I].toNat : Nat) : Int) = (B : Int) := by rw [hB]
      have HB : Hid (B = s.data.toList[I].toNat) := hB
      clear hB
      by_cases hd : 48 ≤ B ∧ B ≤ 57
      · obtain ⟨hd1, hd2⟩ := hd
        have HA := At.digit hA.out hIl B HB.out hd1 hd2
        have hbd := At.bound HA (by omega)
        have HA' : Hid _ := HA
        clear hA HA
        go_wp2
        refine ⟨⟨I + 1, N * 10 + (B - 48), K + 1, by omega, by omega, by go_num, ?_, by go_num, hbd.1, hbd.2, HA'.out⟩, by simp [RowKit.intOf]; omega⟩
        go_num
      · have HA := At.other hA.out hIl B HB.out (by omega)
        have HA' : Hid _ := HA
        clear hA HA
        by_cases hd1 : B < 48
        · go_wp2
          refine ⟨⟨I + 1, N, K, by omega, by omega, by go_num, rfl, rfl, hN, hK, HA'.out⟩, by simp [RowKit.intOf]; omega⟩
        · have hd2 : 57 < B := by omega
          go_wp2
          refine ⟨⟨I + 1, N, K, by omega, by omega, by go_num, rfl, rfl, hN, hK, HA'.out⟩, by simp [RowKit.intOf]; omega⟩
    · have HW : Hid (scan (s.data.toList.take 11) = (N, K)) := At.whole hA.out (by simp; omega) (by omega)
      clear hA
      by_cases hbig : 9 < K ∨ 10 < s.size
      · have HD : Hid (Dec9 s.data.toList 0 false) := by
          rcases hbig with h | h
          · exact dec9_many _ N K HW.out h
          · exact dec9_long _ (by simpa using h)
        clear HW
        by_cases hIs' : I = s.size
        · subst hIs'
          rcases hbig with h | h
          · go_wp2
            all_goals
              go_ret2
              exact answer_mk 0 false rfl HD.out (Below.refl _ _)
          · go_wp2
            all_goals
              go_ret2
              exact answer_mk 0 false rfl HD.out (Below.refl _ _)
        · obtain rfl : I = 11 := by omega
          have h1 : 11 < s.size := by omega
          go_wp2
          all_goals
            go_ret2
            exact answer_mk 0 false rfl HD.out (Below.refl _ _)
      · have hK9 : K ≤ 9 := by omega
        have hs10 : s.size ≤ 10 := by omega
        obtain rfl : I = s.size := by omega
        have hl10 : s.data.toList.length ≤ 10 := by simpa using hs10
        have fin : ∀ (z : Int), z = sg s.data.toList N → ∃ E : ByteArray, (∀ w, Calls Tryd.prog 5 #[.int .i64 z] w fun e w' => e = .returned (.string E) ∧ Below w.heap.size w w') ∧
            (((E.toList == s.toList) = true ∧ Dec9 s.data.toList z true) ∨ ((E.toList == s.toList) = false ∧ Dec9 s.data.toList 0 false)) := by
          intro z hz
          have hzb : -9223372036854775808 ≤ z ∧ z ≤ 9223372036854775807 := by rw [hz]; unfold sg; split <;> omega
          refine ⟨⟨(itoa z).toArray⟩, fun w => specDec_any z w hzb.1 hzb.2, ?_⟩
          rw [Lib.toList_data, Lib.toList_data]
          by_cases he : itoa z = s.data.toList
          · exact .inl ⟨by simp [he], dec9_yes _ N K HW.out hK9 hl10 z he⟩
          · exact .inr ⟨by simp [he], dec9_other _ N K HW.out (by rw [← hz]; exact he)⟩
        clear hbig HW hlt
        have FIN : Hid _ := fin
        clear fin
        by_cases h0 : s.size = 0
        · have hz : (N : Int) = sg s.data.toList N := by
            have : s.data.toList = [] := List.eq_nil_of_length_eq_zero (by simpa using h0)
            rw [this]; rfl
          obtain ⟨E, hC, hE⟩ := FIN.out _ hz
          have HC : Hid _ := hC
          have h0' : s.size ≤ 0 := by omega
          clear hz FIN hC h0
          rcases hE with ⟨hq, hD⟩ | ⟨hq, hD⟩
          · have HD : Hid (Dec9 s.data.toList (N : Int) true) := hD
            clear hD
            go_wp2_with fail
            refine (HC.out _).mono ?_
            rintro e w1 ⟨rfl, hb1⟩
            clear HC
            go_wp2
            go_ret2
            exact answer_mk _ true rfl HD.out hb1
          · have HD : Hid (Dec9 s.data.toList 0 false) := hD
            clear hD
            go_wp2_with fail
            refine (HC.out _).mono ?_
            rintro e w1 ⟨rfl, hb1⟩
            clear HC
            go_wp2
            go_ret2
            exact answer_mk 0 false rfl HD.out hb1
        · have h0' : 0 < s.size := by omega
          obtain ⟨b, l, hbl⟩ : ∃ b l, s.data.toList = b :: l := by
            cases h : s.data.toList with
            | nil => exact absurd (show s.size = 0 by have := congrArg List.length h; simpa using this) h0
            | cons b l => exact ⟨b, l, rfl⟩
          have hs0 : s[0] = b := by
            have h1 : s.data.toList[0]? = some s[0] := by rw [List.getElem?_eq_getElem (by simpa using h0')]; rfl
            rw [hbl] at h1
            simpa using h1.symm
          by_cases hm : b = 45
          · have hz : -(N : Int) = sg s.data.toList N := by rw [hbl, hm]; simp [sg]
            have hq0 : (((s[0]).toNat : Int) == 45) = true := by rw [hs0, hm]; rfl
            obtain ⟨E, hC, hE⟩ := FIN.out _ hz
            have HC : Hid (∀ w, Calls Tryd.prog 5 #[.int .i64 (-(N : Int))] w fun e w' => e = .returned (.string E) ∧ Below w.heap.size w w') := hC
            clear hz FIN hC h0 hbl hs0 hm
            rcases hE with ⟨hq, hD⟩ | ⟨hq, hD⟩
            · have HD : Hid (Dec9 s.data.toList (-(N : Int)) true) := hD
              clear hD
              go_wp2_with fail
              refine (HC.out _).mono ?_
              rintro e w1 ⟨rfl, hb1⟩
              clear HC
              go_wp2
              go_ret2
              exact answer_mk _ true rfl HD.out hb1
            · have HD : Hid (Dec9 s.data.toList 0 false) := hD
              clear hD
              go_wp2_with fail
              refine (HC.out _).mono ?_
              rintro e w1 ⟨rfl, hb1⟩
              clear HC
              go_wp2
              go_ret2
              exact answer_mk 0 false rfl HD.out hb1
          · have hz : (N : Int) = sg s.data.toList N := by rw [hbl]; unfold sg; rw [if_neg (by simpa using hm)]
            have hq0 : (((s[0]).toNat : Int) == 45) = false := by
              rw [hs0, beq_eq_false_iff_ne]
              intro h
              exact hm (UInt8.toNat_inj.1 (by have : b.toNat = 45 := by omega
                                              rw [this]; rfl))
            obtain ⟨E, hC, hE⟩ := FIN.out _ hz
            have HC : Hid (∀ w, Calls Tryd.prog 5 #[.int .i64 (N : Int)] w fun e w' => e = .returned (.string E) ∧ Below w.heap.size w w') := hC
            clear hz FIN hC h0 hbl hs0 hm
            rcases hE with ⟨hq, hD⟩ | ⟨hq, hD⟩
            · have HD : Hid (Dec9 s.data.toList (N : Int) true) := hD
              clear hD
              go_wp2_with fail
              refine (HC.out _).mono ?_
              rintro e w1 ⟨rfl, hb1⟩
              clear HC
              go_wp2
              go_ret2
              exact answer_mk _ true rfl HD.out hb1
            · have HD : Hid (Dec9 s.data.toList 0 false) := hD
              clear hD
              go_wp2_with fail
              refine (HC.out _).mono ?_
              rintro e w1 ⟨rfl, hb1⟩
              clear HC
              go_wp2
              go_ret2
              exact answer_mk 0 false rfl HD.out hb1

/-- A text with as many digits as its number has: what 'digits' counts. -/
def digs (n : Int) : Nat := (decDigits n.natAbs).length
theorem itoa_size (n : Int) : (n < 0 ∧ (itoa n).length = digs n + 1) ∨ (0 ≤ n ∧ (itoa n).length = digs n) := by
  rcases itoa_cases n with ⟨h, e⟩ | ⟨h, e⟩
  · exact .inl ⟨h, by rw [e]; rfl⟩
  · exact .inr ⟨h, by rw [e]; rfl⟩

set_option maxHeartbeats 400000 in
theorem digits_any (n : Int) (w : World) (h0 : -9223372036854775808 ≤ n) (h1 : n ≤ 9223372036854775807) (hp : Pow w) :
    Calls Tryd.prog 11 #[.int .i64 n] w fun e w' => e = .returned (.int .i64 (digs n : Nat)) ∧ Below w.heap.size w w' := by
  obtain ⟨s, hs⟩ : ∃ s : ByteArray, s = ⟨(itoa n).toArray⟩ := ⟨_, rfl⟩
  have hl : s.size = (itoa n).length := by rw [hs]; simp [ByteArray.size]
  have h20 : digs n ≤ 20 := dd_20 _ (by omega)
  have c := implDec_any n w h0 h1 hp
  rw [← hs] at c
  obtain ⟨D, hD⟩ : ∃ D, D = digs n := ⟨_, rfl⟩
  rw [← hD] at h20 ⊢
  rcases itoa_size n with ⟨hn, e⟩ | ⟨hn, e⟩
  · have hsz : (s.size : Int) = (D : Int) + 1 := by rw [hl, e, hD]; simp
    clear hs hp hD hl e
    go_enter Tryd.func11, Tryd.ntmps11
    go_wp2_with fail
    refine c.mono ?_
    rintro e w' ⟨rfl, hb⟩
    clear c
    go_wp2
    go_ret
    exact ⟨by go_num, hb⟩
  · have hsz : (s.size : Int) = (D : Int) := by rw [hl, e, hD]
    clear hs hp hD hl e
    go_enter Tryd.func11, Tryd.ntmps11
    go_wp2_with fail
    refine c.mono ?_
    rintro e w' ⟨rfl, hb⟩
    clear c
    go_wp2
    go_ret
    exact ⟨rfl, hb⟩

set_option maxHeartbeats 400000 in
theorem implReadDec_long (s : ByteArray) (w : World) (hs : s.size ≤ 1048576) (hl : 10 < s.size) :
    Calls Tryd.prog 8 #[.string s] w fun e w' => Answer s.data.toList w e w' := by
  have HD : Hid (Dec9 s.data.toList 0 false) := dec9_long _ (by simpa using hl)
  go_enter Tryd.func8, Tryd.ntmps8
  go_wp2_with fail
  go_ret2
  exact answer_mk 0 false rfl HD.out (Below.refl _ _)

set_option maxHeartbeats 400000 in
theorem implReadDec_err (s : ByteArray) (w : World) (hl : s.size ≤ 10) (h : atoi s.data.toList = none) (ev : Value) (hv : w.cell? ⟨0, 0, none⟩ = some ev) (hev : ev = .nilIface ∨ ∃ te pe, ev = .iface te pe) :
    Calls Tryd.prog 8 #[.string s] w fun e w' => Answer s.data.toList w e w' := by
  have HD : Hid (Dec9 s.data.toList 0 false) := dec9_none _ h
  have c := Tryd.strconv_Atoi_err s (by omega) h ev w hv hev
  clear h hev hv
  go_enter Tryd.func8, Tryd.ntmps8
  go_wp2_with fail
  refine c.mono ?_
  rintro e w1 ⟨Nb, rfl, _, _, hb1⟩
  clear c
  go_wp2_with fail
  go_ret2
  exact answer_mk 0 false rfl HD.out hb1

set_option maxHeartbeats 400000 in
theorem implReadDec_num (s : ByteArray) (n : Int) (w : World) (hl : s.size ≤ 10) (h : atoi s.data.toList = some n) (hp : Pow w) :
    Calls Tryd.prog 8 #[.string s] w fun e w' => Answer s.data.toList w e w' := by
  have hb := atoi_bound h (by have : s.data.toList.length = s.size := by simp
                              omega)
  have c := Tryd.strconv_Atoi s n (by omega) h w
  obtain ⟨E, hE⟩ : ∃ E : ByteArray, E = ⟨(itoa n).toArray⟩ := ⟨_, rfl⟩
  obtain ⟨D, hD⟩ : ∃ D, D = digs n := ⟨_, rfl⟩
  have hD20 : D ≤ 20 := by rw [hD]; exact dd_20 _ (by omega)
  have c2 := fun w hp => implDec_any n w (by omega) (by omega) hp
  have c3 := fun w hp => digits_any n w (by omega) (by omega) hp
  simp only [← hE] at c2
  simp only [← hD] at c3
  have C2 : Hid (∀ w, Pow w → Calls Tryd.prog 6 #[.int .i64 n] w fun e w' => e = .returned (.string E) ∧ Below w.heap.size w w') := c2
  have C3 : Hid (∀ w, Pow w → Calls Tryd.prog 11 #[.int .i64 n] w fun e w' => e = .returned (.int .i64 (D : Nat)) ∧ Below w.heap.size w w') := c3
  have HP : Hid (Pow w) := hp
  have fin : ((E.toList == s.toList) = false ∧ Dec9 s.data.toList 0 false) ∨ ((E.toList == s.toList) = true ∧ ((9 < D ∧ Dec9 s.data.toList 0 false) ∨ (D ≤ 9 ∧ Dec9 s.data.toList n true))) := by
    rw [Lib.toList_data, Lib.toList_data, hE, hD]
    by_cases he : itoa n = s.data.toList
    · refine .inr ⟨by simp [he], ?_⟩
      by_cases h9 : 9 < digs n
      · exact .inl ⟨h9, dec9_wide _ n he h9⟩
      · exact .inr ⟨by omega, dec9_here _ n he (by unfold digs at h9; omega)⟩
    · exact .inl ⟨by simp [he], dec9_ne _ n h he⟩
  clear c2 c3 hp hE hD h
  rcases fin with ⟨hq, hd⟩ | ⟨hq, ⟨h9, hd⟩ | ⟨h9, hd⟩⟩
  · have HD : Hid (Dec9 s.data.toList 0 false) := hd
    clear hd C3
    go_enter Tryd.func8, Tryd.ntmps8
    go_wp2_with fail
    refine c.mono ?_
    rintro e w1 ⟨rfl, tt, hw1⟩
    have hb1 : Below w.heap.size w w1 := by rw [hw1]; exact bytesWorld_below w 5 tt
    clear c hw1
    go_wp2_with fail
    refine (C2.out w1 (HP.out.on hb1)).mono ?_
    rintro e w2 ⟨rfl, hb2⟩
    have hb12 : Below w.heap.size w w2 := hb1.trans (hb2.mono hb1.size)
    clear C2 hb1 hb2
    go_wp2_with fail
    go_ret2
    exact answer_mk 0 false rfl HD.out hb12
  · have HD : Hid (Dec9 s.data.toList 0 false) := hd
    clear hd
    go_enter Tryd.func8, Tryd.ntmps8
    go_wp2_with fail
    refine c.mono ?_
    rintro e w1 ⟨rfl, tt, hw1⟩
    have hb1 : Below w.heap.size w w1 := by rw [hw1]; exact bytesWorld_below w 5 tt
    clear c hw1
    go_wp2_with fail
    refine (C2.out w1 (HP.out.on hb1)).mono ?_
    rintro e w2 ⟨rfl, hb2⟩
    have hb12 : Below w.heap.size w w2 := hb1.trans (hb2.mono hb1.size)
    clear C2 hb1 hb2
    go_wp2_with fail
    refine (C3.out w2 (HP.out.on hb12)).mono ?_
    rintro e w3 ⟨rfl, hb3⟩
    have hb13 : Below w.heap.size w w3 := hb12.trans (hb3.mono hb12.size)
    clear C3 HP hb12 hb3
    go_wp2
    go_ret2
    exact answer_mk 0 false rfl HD.out hb13
  · have HD : Hid (Dec9 s.data.toList n true) := hd
    clear hd
    go_enter Tryd.func8, Tryd.ntmps8
    go_wp2_with fail
    refine c.mono ?_
    rintro e w1 ⟨rfl, tt, hw1⟩
    have hb1 : Below w.heap.size w w1 := by rw [hw1]; exact bytesWorld_below w 5 tt
    clear c hw1
    go_wp2_with fail
    refine (C2.out w1 (HP.out.on hb1)).mono ?_
    rintro e w2 ⟨rfl, hb2⟩
    have hb12 : Below w.heap.size w w2 := hb1.trans (hb2.mono hb1.size)
    clear C2 hb1 hb2
    go_wp2_with fail
    refine (C3.out w2 (HP.out.on hb12)).mono ?_
    rintro e w3 ⟨rfl, hb3⟩
    have hb13 : Below w.heap.size w w3 := hb12.trans (hb3.mono hb12.size)
    clear C3 HP hb12 hb3
    go_wp2
    go_ret2
    exact answer_mk n true rfl HD.out hb13

/-- The variable of the first error holds some interface value. -/
def ErrVar (w : World) : Prop := ∃ ev, w.cell? ⟨0, 0, none⟩ = some ev ∧ (ev = .nilIface ∨ ∃ te pe, ev = .iface te pe)
theorem implReadDec_any (s : ByteArray) (w : World) (hs : s.size ≤ 1048576) (hp : Pow w) (he : ErrVar w) :
    Calls Tryd.prog 8 #[.string s] w fun e w' => Answer s.data.toList w e w' := by
  by_cases hl : 10 < s.size
  · exact implReadDec_long s w hs hl
  · cases h : atoi s.data.toList with
    | none =>
      obtain ⟨ev, hv, hev⟩ := he
      exact implReadDec_err s w (by omega) h ev hv hev
    | some n => exact implReadDec_num s n w (by omega) h hp
theorem ErrVar.on {w w' : World} (h : ErrVar w) (hb : Below w.heap.size w w') : ErrVar w' := by
  obtain ⟨ev, hv, hev⟩ := h
  have h0 : 0 < w.heap.size := by
    rcases Nat.eq_zero_or_pos w.heap.size with h | h
    · have : w.heap[0]? = none := by rw [Array.getElem?_eq_none]; omega
      simp [World.cell?, this] at hv
    · exact h
  exact ⟨ev, by rw [hb.cell (p := ⟨0, 0, none⟩) h0]; exact hv, hev⟩

set_option maxHeartbeats 400000 in
theorem walkReadDec (a0 : ByteArray) (w0 : a0.size ≤ maxLen) (w : World) (hp : Pow w) (he : ErrVar w) :
    Calls Tryd.prog 4 #[.string a0] w fun e w' => e = .returned (.bool true) ∧ Below w.heap.size w w' := by
  unfold maxLen at w0
  by_cases hbig : 1048576 < a0.size
  · clear hp he
    go_enter Tryd.func4, Tryd.ntmps4
    go_wp2_with fail
    go_ret
    exact ⟨rfl, Below.refl _ _⟩
  · have hs : a0.size ≤ 1048576 := by omega
    have HP : Hid (Pow w) := hp
    have HE : Hid (ErrVar w) := he
    clear hp he
    go_enter Tryd.func4, Tryd.ntmps4
    go_wp2_with fail
    refine (specReadDec_any a0 w hs).mono ?_
    rintro e w1 ⟨n, b, rfl, hd, hb⟩
    have HD : Hid (Dec9 a0.data.toList n b) := hd
    clear hd
    go_wp2_with fail
    refine (implReadDec_any a0 w1 hs (HP.out.on hb) (HE.out.on hb)).mono ?_
    rintro e w2 ⟨n', b', rfl, hd', hb'⟩
    obtain ⟨rfl, rfl⟩ := dec9_one HD.out hd'
    clear hd' HD HP HE
    go_wp2
    go_ret
    exact ⟨rfl, hb.trans (hb'.mono hb.size)⟩

namespace ReadDec
theorem gES : Tryd.prog.globalNamed "strconv.ErrSyntax" = some 0 := by kernel_rfl
theorem gESType : (Tryd.prog.globals[0]?).map (·.type) = some 29 := by kernel_rfl
theorem cells63 : Tryd.prog.cellsOf 63 = 1 := by kernel_rfl
theorem cells9 : Tryd.prog.cellsOf 9 = 1 := by kernel_rfl
theorem star : "*" ++ "errors.errorString" = "*errors.errorString" := by decide
theorem row61 (u : TypeId) (h : Tryd.prog.typeName? 3 u = some "*errors.errorString") : u = 61 :=
  typeName_ptr_named (nm := "errors.errorString") (by rw [star]; kernel_rfl) (by kernel_rfl) (by decide) u (by rw [star]; exact h)
theorem err_of {W : World} {rest : List (String × DataW Unit)} (h : laidMet Tryd.prog (("strconv.ErrSyntax", Rows.laid_strconv_ErrSyntax) :: rest) W) : ErrVar W := by
  obtain ⟨a0, s0, hv0, -, -, -⟩ := laid_sentinel h gES gESType Tryd.underlying29 row61 Tryd.underlying61 Tryd.underlying63 rfl rfl Tryd.underlying9 cells63 cells9
  exact ⟨_, by have h0 := World.var?_cell gES hv0 0; simpa using h0, .inr ⟨_, _, rfl⟩⟩

theorem contract (H : Type) (enc : TypeId × Value → H) (W : World) (base : Nat) (args : Array Value) (ds gs : List (DataW H)) (before : List MemPlace)
    (hval : ∀ (j : Nat) t v, Tryd.f4.params[j]? = some t → args[j]? = some v → Value.okWide Tryd.prog W .any base t v)
    (hW : DataW.Whole enc Tryd.prog Tryd.f4.params.toList Rows.fnExactReadDecSpec.vars false W args.toList ds gs before) (hL : laidMetH Tryd.prog Rows.fnExactReadDecRow.laid W) :
    Calls Tryd.prog 4 args W fun e W' => ∃ v, e = .returned v ∧ Rows.fnExactReadDecSpec.post enc Tryd.prog Tryd.f4 false true false false W args v W' := by
  have hW' := hW
  obtain ⟨p, q, hA0, hV, rfl, hfz, hnd⟩ := hW
  have hA : DataW.TrodAll enc Tryd.prog W 0 (fun _ => true) true Tryd.f4.params.toList args.toList ds p := hA0
  rw [Tryd.params4] at hA hval
  obtain ⟨v0, vs0, d0, ds0, p0, q0, hargs, rfl, rfl, h0, r0⟩ := trodAll_cons hA
  obtain ⟨rfl, rfl, rfl⟩ := trodAll_nil r0
  obtain rfl : args = #[v0] := by cases args; simp_all
  obtain ⟨rfl, rfl⟩ := trodVars_none hV
  obtain ⟨a0, rfl, rfl, rfl, w0⟩ := open_string Tryd.underlying9 (hval 0 9 v0 rfl rfl) h0
  clear hA0
  simp only [List.append_nil] at hW'
  have hL' : laidMet Tryd.prog Rows.fnExactReadDecRow.laid W := hL
  have hL2 := laidMet.tail (laidMet.tail hL')
  refine (walkReadDec a0 w0 W (Dec.pow_of hL2) (err_of (laidMet.tail (laidMet.tail hL2)))).mono fun e W' ⟨he, bel⟩ => ?_
  subst he
  exact ⟨_, rfl, _, _, _, [], _, [], hW', (trodAll_cons_mk (shut_bool Tryd.underlying4 _) trodAll_mk0), (trodAll_cons_mk (shut_string Tryd.underlying9 w0) trodAll_mk0), rfl, bel.frame _, fun h => by cases h⟩

/-- What the witness's world is made of: a world, two errors' texts behind it at n, each listed variable holding what its initialiser lays. -/
def laidIn (h : World) (n : Nat) : World :=
  { h with heap := ((((h.heap.modify 2 (Dec.setTab Dec.tabPow)).modify 3 (Dec.setTab Dec.tab32)).modify 4 (Dec.setTab Dec.tab64)).modify 0 (Dec.setTab #[.iface 61 (.pointer (some ⟨n, 0, none⟩))])).modify 1 (Dec.setTab #[.iface 61 (.pointer (some ⟨n + 1, 0, none⟩))]) }
theorem laid_met (os : Os) : laidMet Tryd.prog Rows.fnExactReadDecRow.laid ((laidIn (World.holding Tryd.prog os ⟨#[.cells #[.string ⟨#[105, 110, 118, 97, 108, 105, 100, 32, 115, 121, 110, 116, 97, 120]⟩] 63, .cells #[.string ⟨#[118, 97, 108, 117, 101, 32, 111, 117, 116, 32, 111, 102, 32, 114, 97, 110, 103, 101]⟩] 63], #[], []⟩) (World.settled Tryd.prog os).heap.size).forCall (fun _ _ => 0) ⟨#[], #[.string ByteArray.empty], []⟩).memory :=
  laidMet_of_run' 8 (by kernel_rfl) (by kernel_rfl)
theorem reads (os : Os) {H : Type} (enc : TypeId × Value → H) : ∃ places, DataW.whole enc Tryd.prog ((laidIn (World.holding Tryd.prog os ⟨#[.cells #[.string ⟨#[105, 110, 118, 97, 108, 105, 100, 32, 115, 121, 110, 116, 97, 120]⟩] 63, .cells #[.string ⟨#[118, 97, 108, 117, 101, 32, 111, 117, 116, 32, 111, 102, 32, 114, 97, 110, 103, 101]⟩] 63], #[], []⟩) (World.settled Tryd.prog os).heap.size).forCall (fun _ _ => 0) ⟨#[], #[.string ByteArray.empty], []⟩).memory Tryd.f4.params.toList Rows.fnExactReadDecSpec.vars false #[Value.string ByteArray.empty].toList 8 = some ([.lit (.string [])], [], places) :=
  ⟨[], by kernel_rfl⟩

set_option maxRecDepth 100000 in
theorem lifted (os : Os) (started : os.Started) (H : Type) (enc : TypeId × Value → H) (F : Stop.Interp) :
    ReturnsInHanded {} Tryd.checked os 4 .any ((OpenSpec.ofChange Rows.fnExactReadDecSpec).preRow enc Tryd.prog Tryd.f4 Rows.fnExactReadDecRow.domain false Rows.fnExactReadDecRow.laid) (((OpenSpec.ofChange Rows.fnExactReadDecSpec).at F).post enc Tryd.prog Tryd.f4 false true false false) := by
  obtain ⟨places, hx⟩ := reads os enc
  refine returnsInHanded_of_row (C := Tryd.checked) (s := OpenSpec.ofChange Rows.fnExactReadDecSpec) Dec.own started (by kernel_rfl) Tryd.func4
    (witness_row_atRef (enc := enc) (C := Tryd.checked) false (laidIn (World.holding Tryd.prog os ⟨#[.cells #[.string ⟨#[105, 110, 118, 97, 108, 105, 100, 32, 115, 121, 110, 116, 97, 120]⟩] 63, .cells #[.string ⟨#[118, 97, 108, 117, 101, 32, 111, 117, 116, 32, 111, 102, 32, 114, 97, 110, 103, 101]⟩] 63], #[], []⟩) (World.settled Tryd.prog os).heap.size) #[.string ByteArray.empty] rfl (by kernel_rfl) (by kernel_rfl) (by kernel_rfl)
      (OpenSpec.preRow_of_cond 8 hx (by kernel_rfl) (fun k hk => by cases hk) (by kernel_rfl) (laid_met os))) ?_
  intro W base args ds gs before hval hW _ _ _ hL _ _
  exact contract H enc W base args ds gs before hval hW hL

theorem said : Rows.FnExactReadDecSaid :=
  OpenClaim.holds_of_cond 4 Tryd.f4 rfl rfl rfl rfl rfl rfl rfl ⟨rfl, rfl, rfl, rfl, rfl⟩ rfl rfl rfl rfl rfl (by kernel_rfl) Tryd.func4 (by kernel_rfl)
    (of_decide_eq_true (by kernel_rfl)) (by unfold Func.isWrapper; first | (rw [if_pos (by decide +kernel)]; kernel_rfl) | (rw [if_neg (by decide +kernel)]; exact ⟨rfl, rfl⟩))
    (fun os started H enc _ F => by rw [OpenClaim.pre_eq_preRow]; exact lifted os started H enc F)

/-- No parameter wants a stand-in; the program's own looks are off. -/
theorem plain (f : FuncId) (fn : Func) (hf : Tryd.pinned.checked.prog.funcNamed "loop.example/g01287/laws.FnExactReadDec" = some f) (hfn : Tryd.pinned.checked.prog.funcs[f]? = some fn) :
    true = Tryd.pinned.checked.prog.looks [] ∧ ∀ (j : Nat) t, fn.params[j]? = some t → Tryd.pinned.checked.prog.wantsStandIn t = false := by
  obtain rfl : f = 4 := Option.some.inj ((show Tryd.prog.funcNamed "loop.example/g01287/laws.FnExactReadDec" = some 4 by kernel_rfl).symm.trans hf) |>.symm
  obtain rfl : fn = Tryd.f4 := (Option.some.inj (Tryd.func4.symm.trans hfn)).symm
  refine ⟨by kernel_rfl, fun j t ht => ?_⟩
  rw [Tryd.params4] at ht
  obtain rfl : t = 9 := by simpa using Array.mem_of_getElem? ht
  exact (show Tryd.prog.wantsStandIn 9 = false by kernel_rfl)
end ReadDec
theorem readDec_card : Rows.FnExactReadDecCardSaid :=
  Claim7.holds_tied_plain_at .later [] _ _ _ _ ReadDec.said (fun _ h => by cases h) (by kernel_rfl) (fun _ h => by cases h) fnExactReadDec_row_tie rfl ⟨rfl, rfl⟩ (by kernel_rfl) rfl ReadDec.plain (by kernel_rfl)
#print axioms readDec_card
end Go.Proofs.YtkjabochhhalhaiDoor
