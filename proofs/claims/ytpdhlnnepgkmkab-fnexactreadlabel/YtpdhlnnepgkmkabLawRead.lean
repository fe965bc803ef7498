/-
  The law of ReadLabel: what the program reads is what the model reads, of every text; an answer shares no memory with another one. No condition.
-/
import Derived.Test.YtpdhlnnepgkmkabRead
import Derived.Test.YtpdhlnnepgkmkabReads
namespace Go.Proofs.Ytpdhlnnepgkmkab
open Go.ChangeShapes Go.WideShapes Go.ChangeAt Go.RowKit
open Go.ChangeMaps (open_string shut_string)
set_option linter.unusedVariables false

theorem bgrown {w wr w' : World} {row : Option Nat} (h : Below w.heap.size w wr) (hg : wr.grownBy w' row) (hk : ∀ k, row = some k → w.heap.size ≤ k) : Below w.heap.size w w' := h.grown hg h.size hk
theorem readOf_length (s : ByteArray) : (rightOf (readVals s)).length ≤ 4 := by
  by_cases h : labelOk (readVals s) = true
  · rw [rightOf_yes h, labelOk_four h]; exact Nat.le_refl _
  · rw [rightOf_no (by simpa using h)]; simp

set_option maxHeartbeats 400000 in
theorem lawRead_big (s : ByteArray) (w : World) (hs : (1048576 : Int) < (s.size : Int)) :
    Calls Try.prog 5 #[.string s] w fun e w' => e = .returned (.bool true) ∧ Below w.heap.size w w' := by
  go_enter Try.func5, Try.ntmps5
  go_wp2
  go_ret
  exact ⟨rfl, Below.refl _ _⟩

set_option maxRecDepth 100000 in
set_option maxHeartbeats 2000000 in
theorem lawRead_small (s : ByteArray) (w : World) (hs : s.size ≤ 1048576) :
    Calls Try.prog 5 #[.string s] w fun e w' => e = .returned (.bool true) ∧ Below w.heap.size w w' := by
  have c1 := fun w' => specRead_any s w' hs
  have c2 := fun w' => implRead_any s w'
  have hj4 := readOf_length s
  generalize rightOf (readVals s) = js at c1 c2 hj4
  generalize labelOk (readVals s) = o at c1 c2
  have hne : (o != o) = false := by simp
  have hsz : ¬ (1048576 : Int) < (s.size : Int) := by omega
  have C1 := c1 w
  have C2 : Hid (∀ w', _) := c2
  have ce := fun v u w' (hi : IsInts w' v js) (hj : IsInts w' u js) => eqLabel_any v u js js w' hi hj (by omega)
  have ch := fun v w' (hi : IsInts w' v (upFrom 1 js.length)) => heldLabel_up v js.length 1 w' hi (by omega) (by omega) (by omega)
  simp only [sameInts_refl] at ce
  have CE : Hid (∀ v u w', IsInts w' v js → IsInts w' u js → _) := ce
  have CH : Hid (∀ v w', IsInts w' v (upFrom 1 js.length) → _) := ch
  have hk2 : ¬ ((1 : Int) + (js.length : Int) < 0) := by omega
  have hk3 : ((1 : Int) + (js.length : Int) != (1 : Int) + (js.length : Int)) = false := by simp
  have Hj : Hid (js.length ≤ 4) := hj4
  clear c1 c2 ce ch hj4
  go_enter Try.func5, Try.ntmps5
  go_wp2_with fail
  refine C1.mono ?_
  rintro e w1 ⟨r3, rfl, hown, hb1⟩
  have HB1 : Hid (Below w.heap.size w (w1.alloc (.cells #[r3] 24 (0, 0)))) := hb1.trans ((below_alloc w1 _).mono hb1.size)
  have HO1 : Hid (OwnR w1.heap.size r3 js w.heap.size w1.heap.size (w1.alloc (.cells #[r3] 24 (0, 0)))) := ownR_new hown (Nat.le_refl _)
  have HQ1 : Hid (w.heap.size ≤ w1.heap.size) := hb1.size
  obtain ⟨a3, n3, q3, rfl⟩ := own_shape hown
  clear C1 hown hb1
  go_wp2_with fail
  refine (C2.out _).mono ?_
  rintro e w2 ⟨r4, rfl, hown, hb2⟩
  have HB2 : Hid (Below w.heap.size w (w2.alloc (.cells #[r4] 24 (0, 0)))) := (HB1.out.trans (hb2.mono HB1.out.size)).trans ((below_alloc w2 _).mono (HB1.out.trans (hb2.mono HB1.out.size)).size)
  have HO2 : Hid (OwnR w1.heap.size (.slice a3 n3 q3) js w.heap.size w1.heap.size (w2.alloc (.cells #[r4] 24 (0, 0)))) := (HO1.out.on hb2).alloc _
  have HG2 : Hid (OwnR w2.heap.size r4 js (w1.heap.size + 1) w2.heap.size (w2.alloc (.cells #[r4] 24 (0, 0)))) := ownR_new hown HO1.out.lt
  have k2 : w2.cell? ⟨w1.heap.size, 0, none⟩ = some (.slice a3 n3 q3) := (HO1.out.on hb2).cell
  have t2 : w1.heap.size < w2.heap.size := World.block_lt_of_cell? w2 _ k2
  obtain ⟨a4, n4, q4, rfl⟩ := own_shape hown
  clear hown hb2 HB1 HO1
  go_wp2_with fail
  refine (CE.out _ _ _ HG2.out.ints HO2.out.ints).mono ?_
  rintro e w3 ⟨rfl, hb3⟩
  have HB3 : Hid (Below w.heap.size w w3) := HB2.out.trans (hb3.mono HB2.out.size)
  have HO3 : Hid (OwnR w1.heap.size (.slice a3 n3 q3) js w.heap.size w1.heap.size w3) := HO2.out.on hb3
  have HG3 : Hid (OwnR w2.heap.size (.slice a4 n4 q4) js (w1.heap.size + 1) w2.heap.size w3) := HG2.out.on hb3
  have k3 := HG3.out.cell
  clear hb3 HB2 HO2 HG2 k2
  go_wp2_with fail
  refine (mark_boxed HG3.out (Nat.le_refl _) 1 (by have := Hj.out; omega) (by omega) (by omega)).mono ?_
  rintro e w4 ⟨row, rfl, hgr, hrow, hA⟩
  have HB4 : Hid (Below w.heap.size w w4) := bgrown HB3.out hgr fun k e => by have := hrow k e; have := HQ1.out; omega
  have HO4 : Hid (OwnR w1.heap.size (.slice a3 n3 q3) js w.heap.size w1.heap.size w4) := HO3.out.by' hgr fun k e => by have := hrow k e; omega
  have HG4 : Hid (OwnR w2.heap.size (.slice a4 n4 q4) (upFrom 1 js.length) (w1.heap.size + 1) w2.heap.size w4) := hA
  have k4 := HG4.out.cell
  clear hgr hrow hA HB3 HO3 HG3 k3
  go_wp2_with fail
  refine (CH.out _ _ HG4.out.ints).mono ?_
  rintro e w5 ⟨rfl, hb5⟩
  have HB5 : Hid (Below w.heap.size w w5) := HB4.out.trans (hb5.mono HB4.out.size)
  have HO5 : Hid (OwnR w1.heap.size (.slice a3 n3 q3) js w.heap.size w1.heap.size w5) := HO4.out.on hb5
  have HG5 : Hid (OwnR w2.heap.size (.slice a4 n4 q4) (upFrom 1 js.length) (w1.heap.size + 1) w2.heap.size w5) := HG4.out.on hb5
  clear hb5 HB4 HO4 HG4 k4
  go_wp2_with fail
  refine (C2.out _).mono ?_
  rintro e w6 ⟨r7, rfl, hown, hb6⟩
  have HB6 : Hid (Below w.heap.size w (w6.alloc (.cells #[r7] 24 (0, 0)))) := (HB5.out.trans (hb6.mono HB5.out.size)).trans ((below_alloc w6 _).mono (HB5.out.trans (hb6.mono HB5.out.size)).size)
  have HO6 : Hid (OwnR w1.heap.size (.slice a3 n3 q3) js w.heap.size w1.heap.size (w6.alloc (.cells #[r7] 24 (0, 0)))) := (HO5.out.on hb6).alloc _
  have HG6 : Hid (OwnR w2.heap.size (.slice a4 n4 q4) (upFrom 1 js.length) (w1.heap.size + 1) w2.heap.size (w6.alloc (.cells #[r7] 24 (0, 0)))) := (HG5.out.on hb6).alloc _
  have HN6 : Hid (OwnR w6.heap.size r7 js w5.heap.size w6.heap.size (w6.alloc (.cells #[r7] 24 (0, 0)))) := ownR_new hown (Nat.le_refl _)
  have k6 : w6.cell? ⟨w1.heap.size, 0, none⟩ = some (.slice a3 n3 q3) := (HO5.out.on hb6).cell
  have t6 : w1.heap.size < w6.heap.size := World.block_lt_of_cell? w6 _ k6
  obtain ⟨a7, n7, q7, rfl⟩ := own_shape hown
  clear hown hb6 HB5 HO5 HG5 C2
  go_wp2_with fail
  refine (CE.out _ _ _ HN6.out.ints HO6.out.ints).mono ?_
  rintro e w7 ⟨rfl, hb7⟩
  have HB7 : Hid (Below w.heap.size w w7) := HB6.out.trans (hb7.mono HB6.out.size)
  have HG7 : Hid (OwnR w2.heap.size (.slice a4 n4 q4) (upFrom 1 js.length) (w1.heap.size + 1) w2.heap.size w7) := HG6.out.on hb7
  have k7 := HG7.out.cell
  clear hb7 HB6 HO6 HG6 HN6 k6
  go_wp2_with fail
  refine (CH.out _ _ HG7.out.ints).mono ?_
  rintro e w8 ⟨rfl, hb8⟩
  have HB8 : Hid (Below w.heap.size w w8) := HB7.out.trans (hb8.mono HB7.out.size)
  clear hb8 HB7 HG7 k7
  go_wp2
  go_ret
  exact ⟨rfl, HB8.out⟩

theorem walkRead (s : ByteArray) (w0 : s.size ≤ maxLen) (w : World) :
    Calls Try.prog 5 #[.string s] w fun e w' => e = .returned (.bool true) ∧ Below w.heap.size w w' := by
  by_cases h : s.size ≤ 1048576
  · exact lawRead_small s w h
  · exact lawRead_big s w (by omega)

namespace ReadLabel

set_option maxRecDepth 100000 in
theorem lifted (os : Os) (started : os.Started) (H : Type) (enc : TypeId × Value → H) :
    ReturnsInHanded {} Try.checked os 5 .any (Rows.fnExactReadLabelSpec.pre6 enc Try.prog Try.f5 Rows.fnExactReadLabelRow.domain false) (Rows.fnExactReadLabelSpec.post enc Try.prog Try.f5 false true false false) := by
  refine returnsInHanded_of_change (C := Try.checked) own started (by kernel_rfl) Try.func5
    (ChangeSpec.witness6 (enc := enc) (C := Try.checked) false ⟨#[], #[.string ByteArray.empty], []⟩ 8 (by kernel_rfl) (by kernel_rfl) (by kernel_rfl) (by kernel_rfl)) ?_
  intro W base args ds gs before hval0 hW hcnd _
  have hval : ∀ (j : Nat) t v, Try.f5.params[j]? = some t → args[j]? = some v → Value.okWide Try.prog W .any base t v := hval0
  have hW' := hW
  obtain ⟨p, q, hA0, hV, rfl, hfz, hnd⟩ := hW
  have hA : DataW.TrodAll enc Try.prog W 0 (fun _ => true) true Try.f5.params.toList args.toList ds p := hA0
  rw [Try.params5] at hA hval
  obtain ⟨v0, vs0, d0, ds0, p0, q0, hargs, rfl, rfl, h0, r0⟩ := trodAll_cons hA
  obtain ⟨rfl, rfl, rfl⟩ := trodAll_nil r0
  obtain rfl : args = #[v0] := by cases args; simp_all
  obtain ⟨rfl, rfl⟩ := trodVars_none hV
  obtain ⟨a0, rfl, rfl, rfl, w0⟩ := open_string Try.underlying9 (hval 0 9 v0 rfl rfl) h0
  clear hA0 hval0
  simp only [List.append_nil] at hW'
  refine (walkRead a0 w0 W).mono fun e W' ⟨he, bel⟩ => ?_
  subst he
  exact ⟨_, rfl, _, _, _, [], _, [], hW', (trodAll_cons_mk (shut_bool Try.underlying4 _) trodAll_mk0), (trodAll_cons_mk (shut_string Try.underlying9 w0) trodAll_mk0), rfl, bel.frame _, fun h => by cases h⟩

theorem over : Rows.fnExactReadLabelRow.holds Try.pinned (OpenSpec.ofChange Rows.fnExactReadLabelSpec) :=
  OpenClaim.holds_of_wide 5 Try.f5 rfl rfl rfl rfl rfl rfl rfl ⟨rfl, rfl, rfl, rfl, rfl⟩ rfl rfl rfl rfl rfl (by kernel_rfl) Try.func5 (by kernel_rfl)
    (of_decide_eq_true (by kernel_rfl)) (by unfold Func.isWrapper; first | (rw [if_pos (by decide +kernel)]; kernel_rfl) | (rw [if_neg (by decide +kernel)]; exact ⟨rfl, rfl⟩))
    (fun os started H enc _ => lifted os started H enc)



end ReadLabel
theorem readLabel_holds : Rows.FnExactReadLabelSaid := ReadLabel.over
#print axioms readLabel_holds
end Go.Proofs.Ytpdhlnnepgkmkab
