/-
  A label that came in: what is read of it.
-/
import Derived.Test.YtbahokkofidmeaaLvl
import Derived.OpenShut
import Derived.ShutString
import Derived.ChangeOld
import Derived.Below
namespace Go.Proofs.Ytbahokkofidmeaa
open Go.ChangeShapes Go.WideShapes Go.ChangeAt Go.RowKit
set_option linter.unusedVariables false

set_option maxHeartbeats 400000 in
theorem szIntS_wide (a : Option Addr) (n cap : Nat) (left : Int) (w : World) (h0 : 0 ≤ left) (h1 : left ≤ 1048576) (hn : n ≤ 9223372036854775807) :
    Calls Try.prog 53 #[.slice a n cap, .int .i64 left] w fun e w' => e = .returned (.int .i64 (szOf left n)) ∧ w = w' := by
  by_cases h : (n : Int) ≤ left
  · rw [szOf_yes h]
    have hw : wrap64 (left - n) = left - n := by unfold wrap64; omega
    go_enter Try.func53, Try.ntmps53
    go_wp2
    go_ret
    exact ⟨rfl, rfl⟩
  · rw [szOf_no h]
    have hw : wrap64 (left - n) = left - n := by unfold wrap64; omega
    go_enter Try.func53, Try.ntmps53
    go_wp2
    go_ret
    exact ⟨rfl, rfl⟩

set_option maxHeartbeats 400000 in
theorem szLabel_wide (a : Option Addr) (n cap : Nat) (left : Int) (w : World) (h0 : 0 ≤ left) (h1 : left ≤ 1048576) (hn : n ≤ 9223372036854775807) :
    Calls Try.prog 25 #[.agg #[.slice a n cap], .int .i64 left] w fun e w' => e = .returned (.int .i64 (szOf left n)) ∧ Below w.heap.size w w' := by
  have C := fun w => szIntS_wide a n cap left w h0 h1 hn
  by_cases h : (n : Int) ≤ left
  · rw [szOf_yes h] at C ⊢
    have hb : Below w.heap.size w (w.alloc (.cells #[.slice a n cap] 44 (0, 0))) := (Below.refl _ _).alloc (Nat.le_refl _) _
    go_enter Try.func25, Try.ntmps25
    go_wp2_with (go_at_call 53; refine (C _).mono ?_; rintro e w' ⟨rfl, rfl⟩)
    go_ret
    exact ⟨rfl, hb⟩
  · rw [szOf_no h] at C ⊢
    have hb : Below w.heap.size w (w.alloc (.cells #[.slice a n cap] 44 (0, 0))) := (Below.refl _ _).alloc (Nat.le_refl _) _
    go_enter Try.func25, Try.ntmps25
    go_wp2_with (go_at_call 53; refine (C _).mono ?_; rintro e w' ⟨rfl, rfl⟩)
    go_ret
    exact ⟨rfl, hb⟩

theorem own : ownKnob Try.prog.godebug = none := by kernel_rfl
theorem laidOut : laidOutB Try.prog = true := by kernel_rfl
theorem cells37 : Try.prog.cellsOf 44 = 1 := by kernel_rfl
theorem cells24 : Try.prog.cellsOf 24 = 1 := by kernel_rfl

theorem open_label {H : Type} {enc : TypeId × Value → H} {W : World} {base : Nat} {spare : Nat → Bool} {held : Bool} {v : Value} {d : DataW H} {p : List MemPlace}
    (hv : Value.okWide Try.prog W .any base 44 v) (h : DataW.Trod enc Try.prog W 0 spare held 44 v d p) :
    ∃ a n cap xs, v = .agg #[.slice a n cap] ∧ IsInts W (.slice a n cap) xs ∧ n = xs.length ∧ n ≤ maxLen := by
  obtain ⟨cs, rfl, hcs⟩ := okWide_struct Try.underlying44 hv
  rw [cells37] at hcs
  obtain ⟨c, rfl⟩ : ∃ c, cs = #[c] := by
    match cs, hcs with
    | ⟨[c]⟩, _ => exact ⟨c, rfl⟩
  obtain ⟨fuel, hf⟩ := h
  obtain ⟨y0, m, hy, hlen, hfield⟩ := trod_struct1 Try.underlying44 hf
  rcases open_ints Try.underlying24 Try.underlying3 (by kernel_rfl) hfield with ⟨hc, _⟩ | ⟨x, l, cp, zs, hc, _, hl, hm, hz, _, hcell, hwz⟩
  · have e : c = .slice none 0 0 := by simpa [cells24, Value.cells] using hc
    subst e
    exact ⟨none, 0, 0, [], rfl, ⟨none, 0, rfl, Nat.le_refl _, fun i hi => absurd hi (by simp)⟩, rfl, Nat.zero_le _⟩
  · have e : c = .slice (some x) l cp := by simpa [cells24, Value.cells] using hc
    subst e
    have hlz : l ≤ zs.length := by rw [hz]; split <;> omega
    have hl2 : (zs.take l).length = l := by simp; omega
    refine ⟨some x, l, cp, zs.take l, rfl, ⟨some x, cp, by rw [hl2], by rw [hl2]; exact hl, fun i hi => ⟨x, rfl, ?_⟩⟩, hl2.symm, by omega⟩
    rw [hl2] at hi
    rw [hcell i (by omega)]
    simp [List.getD, hi]

end Go.Proofs.Ytbahokkofidmeaa
