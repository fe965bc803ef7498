/-
  The law of OwnOk: what the program answers is what the model answers, whatever is owned.
-/
import Derived.Test.YtbahokkofidmeaaOwned
import Derived.Test.YtbahokkofidmeaaReadS
namespace Go.Proofs.Ytbahokkofidmeaa
open Go.ChangeShapes Go.WideShapes Go.ChangeAt Go.RowKit
set_option linter.unusedVariables false

set_option maxHeartbeats 1000000 in
theorem walkOwnOk (a : Option Addr) (n cap : Nat) (xs : List Int) (w : World) (hx : IsInts w (.slice a n cap) xs) (hn : n = xs.length) (hm : n ≤ maxLen) :
    Calls Try.prog 5 #[.slice a n cap] w fun e w' => e = .returned (.bool true) ∧ Below w.heap.size w w' := by
  unfold maxLen at hm
  by_cases h : (1048576 : Int) < n
  · clear hx
    go_enter Try.func5, Try.ntmps5
    go_wp2
    go_ret
    exact ⟨rfl, Below.refl _ _⟩
  · have CT : Hid (∀ w', Below w.heap.size w w' → _) := fun w' (hb : Below w.heap.size w w') => toIntS_any (.slice a n cap) xs w' (hx.on hb) (by omega)
    have cs := fun v w' (hi : IsInts w' v xs) => specOwnOk_any v xs w' hi (by omega)
    have ci := fun v w' (hi : IsInts w' v xs) => implOwnOk_any v xs w' hi (by omega)
    have ce := fun v u w' (hi : IsInts w' v xs) (hj : IsInts w' u xs) => eqIntS_any v u xs xs w' hi hj (by omega)
    generalize ownOk xs = o at cs ci
    simp only [sameInts_refl] at ce
    have CS : Hid (∀ v w', IsInts w' v xs → _) := cs
    have CI : Hid (∀ v w', IsInts w' v xs → _) := ci
    have CE : Hid (∀ v u w', IsInts w' v xs → IsInts w' u xs → _) := ce
    have hne : (o != o) = false := by simp
    clear cs ci ce hx hn
    go_enter Try.func5, Try.ntmps5
    go_wp2_with fail
    refine (CT.out w (Below.refl _ _)).mono ?_
    rintro e w1 ⟨rfl, hr, hb1⟩
    have HB1 : Hid (Below w.heap.size w w1) := hb1
    have HI : Hid (IsInts w1 _ xs) := hr.ints
    clear hr hb1
    go_wp2_with fail
    refine (CS.out _ _ HI.out).mono ?_
    rintro e w2 ⟨rfl, hb2⟩
    have HB2 : Hid (Below w.heap.size w w2) := HB1.out.more hb2 HB1.out.size
    clear hb2 HB1 HI CS
    go_wp2_with fail
    refine (CT.out _ HB2.out).mono ?_
    rintro e w3 ⟨rfl, hr, hb3⟩
    have HB3 : Hid (Below w.heap.size w w3) := HB2.out.more hb3 HB2.out.size
    have HI3 : Hid (IsInts w3 (.slice (some ⟨w2.heap.size, 0, none⟩) xs.length xs.length) xs) := hr.ints
    clear hr hb3 HB2
    go_wp2_with fail
    refine (CI.out _ _ HI3.out).mono ?_
    rintro e w4 ⟨rfl, hb4⟩
    have HB4 : Hid (Below w.heap.size w w4) := HB3.out.more hb4 HB3.out.size
    have HI4 : Hid (IsInts w4 (.slice (some ⟨w2.heap.size, 0, none⟩) xs.length xs.length) xs) := HI3.out.on hb4
    clear hb4 HB3 HI3 CI
    go_wp2_with fail
    refine (CT.out _ HB4.out).mono ?_
    rintro e w5 ⟨rfl, hr, hb5⟩
    have HB5 : Hid (Below w.heap.size w w5) := HB4.out.more hb5 HB4.out.size
    have HI5 : Hid (IsInts w5 (.slice (some ⟨w2.heap.size, 0, none⟩) xs.length xs.length) xs) := HI4.out.on hb5
    have HJ5 : Hid (IsInts w5 (.slice (some ⟨w4.heap.size, 0, none⟩) xs.length xs.length) xs) := hr.ints
    clear hr hb5 HB4 HI4
    go_wp2_with fail
    refine (CE.out _ _ _ HI5.out HJ5.out).mono ?_
    rintro e w6 ⟨rfl, hb6⟩
    have HB6 : Hid (Below w.heap.size w w6) := HB5.out.more hb6 HB5.out.size
    clear hb6 HB5 HI5 HJ5
    go_wp2
    go_ret
    exact ⟨rfl, HB6.out⟩

namespace OwnOk
set_option maxRecDepth 100000 in
theorem lifted (os : Os) (started : os.Started) (H : Type) (enc : TypeId × Value → H) :
    ReturnsInHanded {} Try.checked os 5 .any (Rows.fnExactOwnOkSpec.pre6 enc Try.prog Try.f5 Rows.fnExactOwnOkRow.domain false) (Rows.fnExactOwnOkSpec.post enc Try.prog Try.f5 false true false false) := by
  refine returnsInHanded_of_change (C := Try.checked) own started (by kernel_rfl) Try.func5
    (ChangeSpec.witness6 (enc := enc) (C := Try.checked) false ⟨#[], #[.slice none 0 0], []⟩ 8 (by kernel_rfl) (by kernel_rfl) (by kernel_rfl) (by kernel_rfl)) ?_
  intro W base args ds gs before hval0 hW hcnd _
  have hval : ∀ (j : Nat) t v, Try.f5.params[j]? = some t → args[j]? = some v → Value.okWide Try.prog W .any base t v := hval0
  have hW' := hW
  obtain ⟨p, q, hA0, hV, rfl, hfz, hnd⟩ := hW
  have hA : DataW.TrodAll enc Try.prog W 0 (fun _ => true) true Try.f5.params.toList args.toList ds p := hA0
  rw [Try.params5] at hA hval
  obtain ⟨v0, vs0, d0, ds0, p0, q0, hargs, rfl, rfl, h0, r0⟩ := trodAll_cons hA
  obtain ⟨rfl, rfl, rfl⟩ := trodAll_nil r0
  obtain rfl : args = #[v0] := by cases args; simp_all
  obtain ⟨rfl, rfl⟩ := trodVars_none hV
  obtain ⟨a0, n0, c0, xs0, rfl, i0, e0, m0⟩ := open_intS (hval 0 24 v0 rfl rfl) h0
  have k0 := h0
  have lt0 : ∀ x ∈ p0, x.block < W.heap.size := by obtain ⟨m, hm⟩ := k0; exact DataW.trod_lt m _ _ _ hm
  clear hA0 hval0
  refine (walkOwnOk a0 n0 c0 xs0 W i0 e0 m0).mono fun e W' ⟨he, bel⟩ => ?_
  subst he
  exact ⟨_, rfl, _, _, _, [], _, [], hW', trodAll_mk1 (shut_bool Try.underlying4 _), (trodAll_cons_mk (Below.trod laidOut (by kernel_rfl) (of_decide_eq_true (by kernel_rfl)) k0 bel lt0) trodAll_mk0), rfl, bel.frame _, fun h => by cases h⟩

theorem over : Rows.fnExactOwnOkRow.holds Try.pinned (OpenSpec.ofChange Rows.fnExactOwnOkSpec) :=
  OpenClaim.holds_of_wide 5 Try.f5 rfl rfl rfl rfl rfl rfl rfl ⟨rfl, rfl, rfl, rfl, rfl⟩ rfl rfl rfl rfl rfl (by kernel_rfl) Try.func5 (by kernel_rfl)
    (of_decide_eq_true (by kernel_rfl)) (by unfold Func.isWrapper; first | (rw [if_pos (by decide +kernel)]; kernel_rfl) | (rw [if_neg (by decide +kernel)]; exact ⟨rfl, rfl⟩))
    (fun os started H enc _ => lifted os started H enc)
end OwnOk
theorem ownOk_holds : Rows.FnExactOwnOkSaid := OwnOk.over
#print axioms ownOk_holds
end Go.Proofs.Ytbahokkofidmeaa
