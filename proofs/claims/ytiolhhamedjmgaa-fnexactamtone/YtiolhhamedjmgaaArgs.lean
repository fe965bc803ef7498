/-
  Amounts that came in; the laws of AmtOk and AmtOne.
-/
import Derived.Test.YtiolhhamedjmgaaISub
import Derived.OpenShut
import Derived.ShutString
import Derived.ChangeOld
import Derived.Below
import Derived.Deep.Strs
namespace Go.Proofs.Ytiolhhamedjmgaa
open Go.ChangeShapes Go.WideShapes Go.ChangeAt Go.RowKit
set_option linter.unusedVariables false

theorem own : ownKnob Try.prog.godebug = none := by kernel_rfl
theorem laidOut : laidOutB Try.prog = true := by kernel_rfl
theorem cells36 : Try.prog.cellsOf 36 = 3 := by kernel_rfl
theorem cells3 : Try.prog.cellsOf 3 = 1 := by kernel_rfl
theorem under36 : ∃ f0 f1 f2 : Field, Try.prog.underlying 36 = some (.struct #[f0, f1, f2]) ∧ f0.offset = 0 ∧ f1.offset = 1 ∧ f2.offset = 2 ∧ f0.type = 3 ∧ f1.type = 3 ∧ f2.type = 3 := ⟨_, _, _, Try.underlying36, rfl, rfl, rfl, rfl, rfl, rfl⟩
theorem open_int64 {H : Type} {enc : TypeId × Value → H} {W : World} {base b0 : Nat} {spare : Nat → Bool} {held : Bool} {v : Value} {d : DataW H} {p : List MemPlace}
    (hv : Value.okWide Try.prog W .any b0 3 v) (h : DataW.Trod enc Try.prog W base spare held 3 v d p) : ∃ n, v = .int .i64 n ∧ True := by
  obtain ⟨n, rfl, _, _, hw⟩ := open_int Try.underlying3 hv h
  exact ⟨n, rfl, trivial⟩
theorem open_amt {H : Type} {enc : TypeId × Value → H} {W : World} {base : Nat} {spare : Nat → Bool} {held : Bool} {v : Value} {d : DataW H} {p : List MemPlace}
    (hv : Value.okWide Try.prog W .any base 36 v) (h : DataW.Trod enc Try.prog W 0 spare held 36 v d p) : ∃ a b c, v = amt a b c := by
  obtain ⟨f0, f1, f2, hu, o0, o1, o2, t0, t1, t2⟩ := under36
  obtain ⟨cs, rfl, hcs⟩ := okWide_struct hu hv
  rw [cells36] at hcs
  obtain ⟨x, y, z, rfl⟩ : ∃ x y z, cs = #[x, y, z] := by
    match cs, hcs with
    | ⟨[x, y, z]⟩, _ => exact ⟨x, y, z, rfl⟩
  obtain ⟨fuel, hf⟩ := h
  obtain ⟨y0, y1, y2, m, hy, hlen, h0, h1, h2⟩ := Go.Deep.trod_struct3 hu hf
  rw [t0, o0, cells3] at h0
  rw [t1, o1, cells3] at h1
  rw [t2, o2, cells3] at h2
  obtain ⟨a, ha, _⟩ := DataW.trod_int Try.underlying3 h0
  obtain ⟨b, hb, _⟩ := DataW.trod_int Try.underlying3 h1
  obtain ⟨c, hc, _⟩ := DataW.trod_int Try.underlying3 h2
  have ea : x = .int .i64 a := by simpa [Value.cells] using ha
  have eb : y = .int .i64 b := by simpa [Value.cells] using hb
  have ec : z = .int .i64 c := by simpa [Value.cells] using hc
  exact ⟨a, b, c, by rw [ea, eb, ec]⟩
theorem walkOk (a b c : Int) (w : World) :
    Calls Try.prog 4 #[amt a b c] w fun e w' => e = .returned (.bool true) ∧ Below w.heap.size w w' := by
  have CT := fun w => toAmt_any a b c w
  have CS := fun w => specAmtOk_in a b c w
  have CI := fun w => implAmtOk_in a b c w
  generalize amtOk a b c = o at CS CI
  have hne : (o != o) = false := by simp
  have HB0 : Hid (Below w.heap.size w (w.alloc (.cells #[.int .i64 a, .int .i64 b, .int .i64 c] 36 (0, 0)))) := (Below.refl _ _).alloc (Nat.le_refl _) _
  have HX0 : Hid (Box3 (w.alloc (.cells #[.int .i64 a, .int .i64 b, .int .i64 c] 36 (0, 0))) w.heap.size 36 a b c) := ⟨heap_alloc_new w _⟩
  go_enter Try.func4, Try.ntmps4
  go_wp2_with fail
  refine (CT _).mono ?_
  rintro e w1 ⟨rfl, hb⟩
  have HX1 : Hid (Box3 w1 w.heap.size 36 a b c) := HX0.out.on hb (by simp)
  have HB1 : Hid (Below w.heap.size w w1) := HB0.out.trans (hb.mono HB0.out.size)
  clear hb HX0 HB0
  go_wp2_with fail
  refine (CS _).mono ?_
  rintro e w2 ⟨rfl, hw⟩
  have hb : Below w1.heap.size w1 w2 := by rw [hw]; go_grown
  have HX2 : Hid (Box3 w2 w.heap.size 36 a b c) := HX1.out.on hb (lt_of_block HX1.out.at')
  have HB2 : Hid (Below w.heap.size w w2) := HB1.out.trans (hb.mono HB1.out.size)
  clear hb hw HX1 HB1
  have k0 := HX2.out.c0
  have k1 := HX2.out.c1
  have k2 := HX2.out.c2
  go_wp2_with fail
  refine (CT _).mono ?_
  rintro e w3 ⟨rfl, hb⟩
  have HB3 : Hid (Below w.heap.size w w3) := HB2.out.trans (hb.mono HB2.out.size)
  clear hb HX2 HB2 k0 k1 k2
  go_wp2_with fail
  refine (CI _).mono ?_
  rintro e w4 ⟨rfl, hw⟩
  have hb : Below w3.heap.size w3 w4 := by rw [hw]; go_grown
  have HB4 : Hid (Below w.heap.size w w4) := HB3.out.trans (hb.mono HB3.out.size)
  clear hb hw HB3
  go_wp2
  go_ret
  exact ⟨rfl, HB4.out⟩
set_option maxHeartbeats 1000000 in
theorem walkOne (k n : Int) (w : World) :
    Calls Try.prog 8 #[.int .i64 k, .int .i64 n] w fun e w' => e = .returned (.bool true) ∧ Below w.heap.size w w' := by
  obtain ⟨x, y, z, hv⟩ : ∃ x y z, oneOf k n = amt x y z := by
    unfold oneOf
    by_cases h0 : k = 0
    · exact ⟨n, 0, 0, by simp [h0]⟩
    by_cases h1 : k = 1
    · exact ⟨0, n, 0, by simp [h1]⟩
    by_cases h2 : k = 2
    · exact ⟨0, 0, n, by simp [h2]⟩
    · exact ⟨0, 0, 0, by simp [h0, h1, h2]⟩
  have CS := fun w => specOne_any k n w
  have CI := fun w => implOne_any k n w
  have CE := fun w => eqAmt_same x y z w
  rw [hv] at CS CI
  clear hv
  go_enter Try.func8, Try.ntmps8
  go_wp2_with fail
  refine (CS _).mono ?_
  rintro e w1 ⟨rfl, hb⟩
  have HB1 : Hid (Below w.heap.size w w1) := hb
  have HX : Hid (Box3 (w1.alloc (boxA x y z)) w1.heap.size 25 x y z) := ⟨heap_alloc_new w1 _⟩
  have HB2 : Hid (Below w.heap.size w (w1.alloc (boxA x y z))) := HB1.out.alloc HB1.out.size _
  clear hb HB1
  go_wp2_with fail
  refine (CI _).mono ?_
  rintro e w2 ⟨rfl, hb⟩
  have HX2 : Hid (Box3 w2 w1.heap.size 25 x y z) := HX.out.on hb (by simp)
  have HB3 : Hid (Below w.heap.size w w2) := HB2.out.trans (hb.mono HB2.out.size)
  have HX3 : Hid (Box3 (w2.alloc (boxA x y z)) w1.heap.size 25 x y z) := HX2.out.on ((Below.refl _ _).alloc (Nat.le_refl _) _) (lt_of_block HX2.out.at')
  have k0 := HX3.out.c0
  have k1 := HX3.out.c1
  have k2 := HX3.out.c2
  clear hb HX HX2 HX3 HB2
  go_wp2_with fail
  refine (CE _).mono ?_
  rintro e w4 ⟨rfl, hb⟩
  have HB4 : Hid (Below w.heap.size w w4) := (HB3.out.alloc HB3.out.size _).trans (hb.mono (by have := HB3.out.size; simp; omega))
  clear hb HB3
  go_wp2
  go_ret
  exact ⟨rfl, HB4.out⟩
end Go.Proofs.Ytiolhhamedjmgaa
