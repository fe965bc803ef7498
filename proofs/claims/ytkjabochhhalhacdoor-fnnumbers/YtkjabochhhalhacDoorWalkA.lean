/-
  The law of chapter 1 walked, a case of the number each: what is made of a number is read as it, whatever stands behind; no other text is read.
-/
import Derived.Test.YtkjabochhhalhacDoorNumbers
namespace Go.Proofs.YtkjabochhhalhacDoor
open Go.RowKit
set_option linter.unusedVariables false

set_option maxRecDepth 100000 in
set_option maxHeartbeats 4000000 in
theorem numbers_c1 (w : World) (a : Option Addr) (len cap : Nat) (cb : Nat → Nat) (n : Int) (T R S F Dn Hx : ByteArray) (st : Setting a len cap cb n T R S F Dn Hx) (hc : Code0 w a len cb) (hp : Pow w) (he : ErrVar w) (h1 : 0 ≤ n) (h2 : n < 1000000000)
    (rv : ∀ w, Calls Tryd.prog 8 #[.string (S ++ T)] w fun e w' => e = .returned (.tuple #[.int .i64 n, .int .i64 S.size]) ∧ w' = w) (hSe : S.toList.isEmpty = false)
    (rf : ∀ w, Calls Tryd.prog 10 #[.string (F ++ T), .int .i64 7] w fun e w' => e = .returned (.tuple #[.int .i64 n, .bool true]) ∧ w' = w) (hFe : F.toList.isEmpty = false) (hF7 : (F.size : Int) = 7)
    (rd : ∀ w, Pow w → ErrVar w → Calls Tryd.prog 11 #[.string Dn] w fun e w' => e = .returned (.tuple #[.int .i64 n, .bool true]) ∧ Below w.heap.size w w') :
    Calls Tryd.prog 3 #[.slice a len cap] w fun e w' => e = .returned (.bool true) ∧ Below w.heap.size w w' := by
  have hl := st.small
  have hTs := st.sizeT
  have hRs := st.sizeR
  have hSs := st.sizeS
  have hFs := st.sizeF
  have ST : Hid (Setting a len cap cb n T R S F Dn Hx) := st
  have HC0 : Hid (Code0 w a len cb) := hc
  have HP : Hid (Pow w) := hp
  have HE : Hid (ErrVar w) := he
  have RV : Hid (∀ w, _) := rv
  have RF : Hid (∀ w, _) := rf
  have RD : Hid (∀ w, Pow w → ErrVar w → _) := rd
  clear st hc hp he rv rf rd
  go_enter Tryd.func3, Tryd.ntmps3
  go_wp2_with (go_at_call 4; go_in)
  refine (ST.out.drawVar w HC0.out).mono ?_
  rintro e w1 ⟨rfl, hb⟩
  have n1 : Below w.heap.size w w1 := hb
  clear hb
  go_wp2_with fail
  refine (ST.out.drawHex w1 (HC0.out.on n1)).mono ?_
  rintro e w2 ⟨rfl, hb⟩
  have n2 : Below w.heap.size w w2 := n1.trans (hb.mono n1.size)
  clear hb n1
  go_wp2_with fail
  refine (ST.out.var w2).mono ?_
  rintro e w3 ⟨rfl, hb⟩
  have n3 : Below w.heap.size w w3 := n2.trans (hb.mono n2.size)
  clear hb n2
  go_wp2_with fail
  refine (RV.out w3).mono ?_
  rintro e w4 ⟨rfl, rfl⟩
  clear RV
  go_wp2_with fail
  refine (ST.out.fixed w4).mono ?_
  rintro e w5 ⟨rfl, hb⟩
  have n5 : Below w.heap.size w w5 := n3.trans (hb.mono n3.size)
  clear hb n3
  go_wp2_with fail
  refine (RF.out w5).mono ?_
  rintro e w6 ⟨rfl, rfl⟩
  clear RF
  go_wp2_with fail
  refine (ST.out.dec w6 (HP.out.on n5)).mono ?_
  rintro e w7 ⟨rfl, hb⟩
  have n7 : Below w.heap.size w w7 := n5.trans (hb.mono n5.size)
  clear hb n5
  go_wp2_with fail
  refine (RD.out w7 (HP.out.on n7) (HE.out.on n7)).mono ?_
  rintro e w8 ⟨rfl, hb⟩
  have n8 : Below w.heap.size w w8 := n7.trans (hb.mono n7.size)
  clear hb n7 RD HP HE
  go_wp2_with fail
  refine (ST.out.hex w8).mono ?_
  rintro e w9 ⟨rfl, hb⟩
  have n9 : Below w.heap.size w w9 := n8.trans (hb.mono n8.size)
  clear hb n8
  go_wp2_with fail
  refine (ST.out.unhex w9).mono ?_
  rintro e w10 ⟨rfl, hb⟩
  have n10 : Below w.heap.size w w10 := n9.trans (hb.mono n9.size)
  clear hb n9
  go_wp2_with fail
  refine (ST.out.drawRead w10 (HC0.out.on n10)).mono ?_
  rintro e w11 ⟨rfl, hb⟩
  have n11 : Below w.heap.size w w11 := n10.trans (hb.mono n10.size)
  clear hb n10
  go_wp2_with fail
  refine (readR R hRs w11).mono ?_
  rintro e w12 ⟨z, j, rfl, hz, rfl⟩
  rcases hz with rfl | ⟨hj0, hjR, hV⟩
  · go_wp2
    go_ret
    exact ⟨rfl, n11⟩
  · have hq : ((j : Int) == 0) = false := by rw [beq_eq_false_iff_ne]; omega
    have HV : Hid (∀ w, Calls Tryd.prog 7 #[.int .i64 (z : Nat)] w fun e w' => e = .returned (.string (R.extract 0 j)) ∧ Below w.heap.size w w') := by intro w; rw [← hV]; exact implVar_any z w
    clear hV
    go_wp2_with fail
    refine (ST.out.drawRead w12 (HC0.out.on n11)).mono ?_
    rintro e w13 ⟨rfl, hb⟩
    have n13 : Below w.heap.size w w13 := n11.trans (hb.mono n11.size)
    clear hb n11
    go_wp2_with fail
    refine (HV.out w13).mono ?_
    rintro e w14 ⟨rfl, hb⟩
    have n14 : Below w.heap.size w w14 := n13.trans (hb.mono n13.size)
    clear hb n13
    go_wp2_with fail
    refine (ST.out.drawRead w14 (HC0.out.on n14)).mono ?_
    rintro e w15 ⟨rfl, hb⟩
    have n15 : Below w.heap.size w w15 := n14.trans (hb.mono n14.size)
    clear hb n14 ST HC0
    go_wp2
    go_ret
    exact ⟨rfl, n15⟩

end Go.Proofs.YtkjabochhhalhacDoor
