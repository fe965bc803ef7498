/-
  The law of TreeSum: what the program answers is what the model answers, at every tree; it writes into none.
-/
import Derived.Test.YtfgcokcmmcpajaaReadT
namespace Go.Proofs.Ytfgcokcmmcpajaa
open Go.ChangeShapes Go.WideShapes Go.ChangeAt Go.RowKit
set_option linter.unusedVariables false

namespace LTreeSum
set_option maxHeartbeats 400000 in
theorem small (a : Option Addr) (n cap : Nat) (ts : List Re) (w : World) (hx : IsTree w (.slice a n cap) ts) (hn : n = ts.length) (h : (n : Int) ≤ 1048576) :
    Calls Try.prog 5 #[.slice a n cap] w fun e w' => e = .returned (.bool true) ∧ Below w.heap.size w w' := by
  have C := szResS_any a n cap 1048576 w (by omega) (by omega) (by omega)
  rw [szOf_yes h] at C
  have hl : ¬ ((1048576 : Int) - n < 0) := by omega
  have ct := fun w' (hb : Below w.heap.size w w') => toResS_any (.slice a n cap) ts w' (hx.on hb) (by omega)
  have cS := fun v w' (hi : IsTree w' v ts) => specTreeSum_any v ts w' hi (by omega)
  have cI := fun v w' (hi : IsTree w' v ts) => implTreeSum_any v ts w' hi (by omega)
  generalize sumT Re.a ts = x at cS cI
  generalize sumT Re.b ts = y at cS cI
  generalize sumT Re.c ts = z at cS cI
  have ce := fun v u w' (hi : IsTree w' v ts) (hj : IsTree w' u ts) => eqResS_same v u ts w' hi hj (by omega)
  have CT : Hid (∀ w', Below w.heap.size w w' → _) := ct
  have CS : Hid (∀ v w', IsTree w' v ts → _) := cS
  have CI : Hid (∀ v w', IsTree w' v ts → _) := cI
  have CE : Hid (∀ v u w', IsTree w' v ts → IsTree w' u ts → _) := ce
  have CA := fun w => eqAmt_in x y z w
  clear ct cS cI ce hx hn h
  go_enter Try.func5, Try.ntmps5
  go_wp2_with fail
  refine C.mono ?_
  rintro e w0 ⟨rfl, rfl⟩
  clear C
  go_wp2_with fail
  refine (CT.out _ (Below.refl _ _)).mono ?_
  rintro e w1 ⟨rfl, hr, hb1⟩
  have HB1 : Hid (Below w.heap.size w w1) := hb1
  have HI : Hid (IsTree w1 (.slice (some ⟨w.heap.size, 0, none⟩) ts.length ts.length) ts) := hr.tree
  clear hr hb1
  go_wp2_with fail
  refine (CS.out _ _ HI.out).mono ?_
  rintro e w2 ⟨rfl, hb2⟩
  have HB2 : Hid (Below w.heap.size w (w2.alloc (boxA x y z))) := below_more (below_more HB1.out hb2) (below_alloc _ _)
  have HW2 : Hid (Box3 (w2.alloc (boxA x y z)) w2.heap.size 33 x y z) := ⟨heap_alloc_new w2 _⟩
  clear hb2 HB1 HI CS
  go_wp2_with fail
  obtain ⟨v2, hv2⟩ : ∃ v, v = w2.alloc (boxA x y z) := ⟨_, rfl⟩
  rw [← hv2] at HB2 HW2 ⊢
  clear hv2
  refine (CT.out _ HB2.out).mono ?_
  rintro e w3 ⟨rfl, hr, hb3⟩
  have HX3 : Hid (IsTree w3 (.slice (some ⟨v2.heap.size, 0, none⟩) ts.length ts.length) ts) := hr.tree
  have HB3 : Hid (Below w.heap.size w w3) := below_more HB2.out hb3
  have HW3 := hid_of (box_on HW2.out hb3)
  clear hr hb3 HB2 HW2
  go_wp2_with fail
  refine (CI.out _ _ HX3.out).mono ?_
  rintro e w4 ⟨rfl, hb4⟩
  have hb4' : Below w3.heap.size w3 (w4.alloc (boxA x y z)) := below_more hb4 (below_alloc _ _)
  have HX4 := hid_of (HX3.out.on hb4')
  have HB4 : Hid (Below w.heap.size w (w4.alloc (boxA x y z))) := below_more HB3.out hb4'
  have HW4 := hid_of (box_on HW3.out hb4')
  have k0 := HW4.out.c0
  have k1 := HW4.out.c1
  have k2 := HW4.out.c2
  clear hb4 hb4' HX3 HB3 CI HW3
  go_wp2_with fail
  refine (CA _).mono ?_
  rintro e w4' ⟨rfl, hw4⟩
  have hb4 : Below (w4.alloc (boxA x y z)).heap.size (w4.alloc (boxA x y z)) w4' := by rw [hw4]; go_grown
  have HX5 := hid_of (HX4.out.on hb4)
  have HB5 : Hid (Below w.heap.size w w4') := below_more HB4.out hb4
  clear hb4 hw4 HX4 HB4 CA HW4 k0 k1 k2
  go_wp2_with fail
  refine (CT.out _ HB5.out).mono ?_
  rintro e w5 ⟨rfl, hr, hb5⟩
  have HX6 := hid_of (HX5.out.on hb5)
  have HY6 : Hid (IsTree w5 (.slice (some ⟨w4'.heap.size, 0, none⟩) ts.length ts.length) ts) := hr.tree
  have HB6 : Hid (Below w.heap.size w w5) := below_more HB5.out hb5
  clear hr hb5 HX5 HB5
  go_wp2_with fail
  refine (CE.out _ _ _ HX6.out HY6.out).mono ?_
  rintro e w6 ⟨rfl, hb6⟩
  have HB7 : Hid (Below w.heap.size w w6) := below_more HB6.out hb6
  clear hb6
  go_wp2
  go_ret
  exact ⟨rfl, HB7.out⟩
theorem big (a : Option Addr) (n cap : Nat) (w : World) (hm : n ≤ 9223372036854775807) (h : ¬ (n : Int) ≤ 1048576) :
    Calls Try.prog 5 #[.slice a n cap] w fun e w' => e = .returned (.bool true) ∧ Below w.heap.size w w' := by
  have C := fun w => szResS_any a n cap 1048576 w (by omega) (by omega) hm
  rw [szOf_no h] at C
  go_enter Try.func5, Try.ntmps5
  go_wp2_with fail
  refine (C _).mono ?_
  rintro e w0 ⟨rfl, rfl⟩
  clear C
  go_wp2
  go_ret
  exact ⟨rfl, by go_grown⟩
end LTreeSum
theorem walkTreeSum (a : Option Addr) (n cap : Nat) (ts : List Re) (w : World) (hx : IsTree w (.slice a n cap) ts) (hn : n = ts.length) (hm : n ≤ maxLen) :
    Calls Try.prog 5 #[.slice a n cap] w fun e w' => e = .returned (.bool true) ∧ Below w.heap.size w w' := by
  unfold maxLen at hm
  by_cases h : (n : Int) ≤ 1048576
  · exact LTreeSum.small a n cap ts  w hx hn h
  · exact LTreeSum.big a n cap  w (by omega) h
namespace TreeSum
set_option maxRecDepth 100000 in
theorem lifted (os : Os) (started : os.Started) (H : Type) (enc : TypeId × Value → H) :
    ReturnsInHanded {} Try.checked os 5 .any (Rows.fnExactTreeSumSpec.pre6 enc Try.prog Try.f5 Rows.fnExactTreeSumRow.domain false) (Rows.fnExactTreeSumSpec.post enc Try.prog Try.f5 false true false false) := by
  refine returnsInHanded_of_change (C := Try.checked) own started (by kernel_rfl) Try.func5
    (ChangeSpec.witness6 (enc := enc) (C := Try.checked) false ⟨#[], #[.slice none 0 0], []⟩ 8 (by kernel_rfl) (by kernel_rfl) (by kernel_rfl) (by kernel_rfl)) ?_
  intro W base args ds gs before hval0 hW hcnd _
  have hval : ∀ (j : Nat) t v, Try.f5.params[j]? = some t → args[j]? = some v → Value.okWide Try.prog W .any base t v := hval0
  have hW' := hW
  obtain ⟨p, q, hA0, hV, rfl, hfz, hnd⟩ := hW
  have hA : DataW.TrodAll enc Try.prog W 0 (fun _ => true) true Try.f5.params.toList args.toList ds p := hA0
  rw [Try.params5] at hA hval
  obtain ⟨v0, vs0, d0, ds0, p0, q0, hargs, rfl, rfl, h0, r0⟩ := trodAll_cons hA
  obtain ⟨rfl, rfl, rfl⟩ := trodAll_nil r0
  obtain rfl : args = #[v0] := by cases args; simp_all
  obtain ⟨rfl, rfl⟩ := trodVars_none hV
  obtain ⟨a0, n0, c0, xs0, rfl, i0, e0, m0⟩ := open_tree (hval 0 22 v0 rfl rfl) h0
  have k0 := h0
  have lt0 : ∀ x ∈ p0, x.block < W.heap.size := by obtain ⟨m, hm⟩ := k0; exact DataW.trod_lt m _ _ _ hm
  clear hA0 hval0
  refine (walkTreeSum a0 n0 c0 xs0 W i0 e0 m0).mono fun e W' ⟨he, bel⟩ => ?_
  subst he
  exact ⟨_, rfl, _, _, _, [], _, [], hW', trodAll_mk1 (shut_bool Try.underlying4 _), (trodAll_cons_mk (Below.trod laidOut (by kernel_rfl) (of_decide_eq_true (by kernel_rfl)) k0 bel lt0) trodAll_mk0), rfl, bel.frame _, fun h => by cases h⟩

theorem over : Rows.fnExactTreeSumRow.holds Try.pinned (OpenSpec.ofChange Rows.fnExactTreeSumSpec) :=
  OpenClaim.holds_of_wide 5 Try.f5 rfl rfl rfl rfl rfl rfl rfl ⟨rfl, rfl, rfl, rfl, rfl⟩ rfl rfl rfl rfl rfl (by kernel_rfl) Try.func5 (by kernel_rfl)
    (of_decide_eq_true (by kernel_rfl)) (by unfold Func.isWrapper; first | (rw [if_pos (by decide +kernel)]; kernel_rfl) | (rw [if_neg (by decide +kernel)]; exact ⟨rfl, rfl⟩))
    (fun os started H enc _ => lifted os started H enc)
end TreeSum
theorem treeSum_holds : Rows.FnExactTreeSumSaid := TreeSum.over
#print axioms treeSum_holds
end Go.Proofs.Ytfgcokcmmcpajaa
