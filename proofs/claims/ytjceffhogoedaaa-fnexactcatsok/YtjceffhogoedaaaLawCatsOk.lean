/-
  The law of CatsOk: what the program answers is what the model answers, at every table.
-/
import Derived.Test.YtjceffhogoedaaaFind
import Derived.Test.YtjceffhogoedaaaReadC
namespace Go.Proofs.Ytjceffhogoedaaa
open Go.ChangeShapes Go.WideShapes Go.ChangeAt Go.RowKit
set_option linter.unusedVariables false

set_option maxHeartbeats 1000000 in
theorem walkCatsOk (a : Option Addr) (n cap : Nat) (cs : List (Int × Bool)) (w : World) (hx : IsCats w (.slice a n cap) cs) (hn : n = cs.length) (hm : n ≤ maxLen) :
    Calls Try.prog 4 #[.slice a n cap] w fun e w' => e = .returned (.bool true) ∧ Below w.heap.size w w' := by
  unfold maxLen at hm
  have C := szCatS_any a n cap 1048576 w (by omega) (by omega) (by omega)
  by_cases h : (n : Int) ≤ 1048576
  · rw [szOf_yes h] at C
    have hl : ¬ ((1048576 : Int) - n < 0) := by omega
    have ct := fun w' (hb : Below w.heap.size w w') => toCatS_any (.slice a n cap) cs w' (hx.on hb) (by omega)
    have cs' := fun v w' (hi : IsCats w' v cs) => (specCatsOk_any v cs w' hi (by omega)).mono fun e w'' ⟨h1, h2⟩ => show e = Ending.returned (.bool (catsOk cs)) ∧ Below w'.heap.size w' w'' from ⟨h1, by rw [h2]; exact Below.refl _ _⟩
    have ci := fun v w' (hi : IsCats w' v cs) => implCatsOk_any v cs w' hi (by omega)
    have ce := fun v u w' (hi : IsCats w' v cs) (hj : IsCats w' u cs) => eqCatS_same v u cs w' hi hj (by omega)
    generalize catsOk cs = o at cs' ci
    have CT : Hid (∀ w', Below w.heap.size w w' → _) := ct
    have CS : Hid (∀ v w', IsCats w' v cs → _) := cs'
    have CI : Hid (∀ v w', IsCats w' v cs → _) := ci
    have CE : Hid (∀ v u w', IsCats w' v cs → IsCats w' u cs → _) := ce
    have hne : (o != o) = false := by simp
    clear ct cs' ci ce hx hn h
    go_enter Try.func4, Try.ntmps4
    go_wp2_with fail
    refine C.mono ?_
    rintro e w0 ⟨rfl, rfl⟩
    clear C
    go_wp2_with fail
    refine (CT.out _ (Below.refl _ _)).mono ?_
    rintro e w1 ⟨rfl, hr, hb1⟩
    have HB1 : Hid (Below w.heap.size w w1) := hb1
    have HI : Hid (IsCats w1 _ cs) := hr.cats
    clear hr hb1
    go_wp2_with fail
    refine (CS.out _ _ HI.out).mono ?_
    rintro e w2 ⟨rfl, hb2⟩
    have HB2 : Hid (Below w.heap.size w w2) := HB1.out.more hb2 HB1.out.size
    clear hb2 HB1 HI CS
    go_wp2_with fail
    refine (CT.out _ HB2.out).mono ?_
    rintro e w3 ⟨rfl, hr, hb3⟩
    have HB3 : Hid (Below w.heap.size w w3) := HB2.out.more hb3 HB2.out.size
    have HI3 : Hid (IsCats w3 (.slice (some ⟨w2.heap.size, 0, none⟩) cs.length cs.length) cs) := hr.cats
    clear hr hb3 HB2
    go_wp2_with fail
    refine (CI.out _ _ HI3.out).mono ?_
    rintro e w4 ⟨rfl, hb4⟩
    have HB4 : Hid (Below w.heap.size w w4) := HB3.out.more hb4 HB3.out.size
    have HI4 : Hid (IsCats w4 (.slice (some ⟨w2.heap.size, 0, none⟩) cs.length cs.length) cs) := HI3.out.on hb4
    clear hb4 HB3 HI3 CI
    go_wp2_with fail
    refine (CT.out _ HB4.out).mono ?_
    rintro e w5 ⟨rfl, hr, hb5⟩
    have HB5 : Hid (Below w.heap.size w w5) := HB4.out.more hb5 HB4.out.size
    have HI5 : Hid (IsCats w5 (.slice (some ⟨w2.heap.size, 0, none⟩) cs.length cs.length) cs) := HI4.out.on hb5
    have HJ5 : Hid (IsCats w5 (.slice (some ⟨w4.heap.size, 0, none⟩) cs.length cs.length) cs) := hr.cats
    clear hr hb5 HB4 HI4
    go_wp2_with fail
    refine (CE.out _ _ _ HI5.out HJ5.out).mono ?_
    rintro e w6 ⟨rfl, hb6⟩
    have HB6 : Hid (Below w.heap.size w w6) := HB5.out.more hb6 HB5.out.size
    clear hb6 HB5 HI5 HJ5
    go_wp2
    go_ret
    exact ⟨rfl, HB6.out⟩
  · rw [szOf_no h] at C
    clear hx hn
    go_enter Try.func4, Try.ntmps4
    go_wp2_with fail
    refine C.mono ?_
    rintro e w0 ⟨rfl, rfl⟩
    clear C
    go_wp2
    go_ret
    exact ⟨rfl, Below.refl _ _⟩

namespace CatsOk
set_option maxRecDepth 100000 in
theorem lifted (os : Os) (started : os.Started) (H : Type) (enc : TypeId × Value → H) :
    ReturnsInHanded {} Try.checked os 4 .any (Rows.fnExactCatsOkSpec.pre6 enc Try.prog Try.f4 Rows.fnExactCatsOkRow.domain false) (Rows.fnExactCatsOkSpec.post enc Try.prog Try.f4 false true false false) := by
  refine returnsInHanded_of_change (C := Try.checked) own started (by kernel_rfl) Try.func4
    (ChangeSpec.witness6 (enc := enc) (C := Try.checked) false ⟨#[], #[.slice none 0 0], []⟩ 8 (by kernel_rfl) (by kernel_rfl) (by kernel_rfl) (by kernel_rfl)) ?_
  intro W base args ds gs before hval0 hW hcnd _
  have hval : ∀ (j : Nat) t v, Try.f4.params[j]? = some t → args[j]? = some v → Value.okWide Try.prog W .any base t v := hval0
  have hW' := hW
  obtain ⟨p, q, hA0, hV, rfl, hfz, hnd⟩ := hW
  have hA : DataW.TrodAll enc Try.prog W 0 (fun _ => true) true Try.f4.params.toList args.toList ds p := hA0
  rw [Try.params4] at hA hval
  obtain ⟨v0, vs0, d0, ds0, p0, q0, hargs, rfl, rfl, h0, r0⟩ := trodAll_cons hA
  obtain ⟨rfl, rfl, rfl⟩ := trodAll_nil r0
  obtain rfl : args = #[v0] := by cases args; simp_all
  obtain ⟨rfl, rfl⟩ := trodVars_none hV
  obtain ⟨a0, n0, c0, xs0, rfl, i0, e0, m0⟩ := open_cats (hval 0 32 v0 rfl rfl) h0
  have k0 := h0
  have lt0 : ∀ x ∈ p0, x.block < W.heap.size := by obtain ⟨m, hm⟩ := k0; exact DataW.trod_lt m _ _ _ hm
  clear hA0 hval0
  refine (walkCatsOk a0 n0 c0 xs0 W i0 e0 m0).mono fun e W' ⟨he, bel⟩ => ?_
  subst he
  exact ⟨_, rfl, _, _, _, [], _, [], hW', trodAll_mk1 (shut_bool Try.underlying4 _), (trodAll_cons_mk (Below.trod laidOut (by kernel_rfl) (of_decide_eq_true (by kernel_rfl)) k0 bel lt0) trodAll_mk0), rfl, bel.frame _, fun h => by cases h⟩

theorem over : Rows.fnExactCatsOkRow.holds Try.pinned (OpenSpec.ofChange Rows.fnExactCatsOkSpec) :=
  OpenClaim.holds_of_wide 4 Try.f4 rfl rfl rfl rfl rfl rfl rfl ⟨rfl, rfl, rfl, rfl, rfl⟩ rfl rfl rfl rfl rfl (by kernel_rfl) Try.func4 (by kernel_rfl)
    (of_decide_eq_true (by kernel_rfl)) (by unfold Func.isWrapper; first | (rw [if_pos (by decide +kernel)]; kernel_rfl) | (rw [if_neg (by decide +kernel)]; exact ⟨rfl, rfl⟩))
    (fun os started H enc _ => lifted os started H enc)
end CatsOk
theorem catsOk_holds : Rows.FnExactCatsOkSaid := CatsOk.over
#print axioms catsOk_holds
end Go.Proofs.Ytjceffhogoedaaa
