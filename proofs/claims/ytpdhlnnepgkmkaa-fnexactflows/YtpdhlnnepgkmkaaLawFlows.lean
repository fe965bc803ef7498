/-
  The law of Flows: what the program answers is what the model answers, at every two labels.
-/
import Derived.Test.YtpdhlnnepgkmkaaTwo
import Derived.Test.YtpdhlnnepgkmkaaIFlows
namespace Go.Proofs.Ytpdhlnnepgkmkaa
open Go.ChangeShapes Go.WideShapes Go.ChangeAt Go.RowKit
set_option linter.unusedVariables false

set_option maxHeartbeats 400000 in
theorem lawFlows_big (a : Option Addr) (n cap : Nat) (b : Option Addr) (m cap2 : Nat) (w : World) (hn : n ≤ 9223372036854775807) (hbig : ¬ (n : Int) ≤ 1048576) :
    Calls Try.prog 6 #[.agg #[.slice a n cap], .agg #[.slice b m cap2]] w fun e w' => e = .returned (.bool true) ∧ Below w.heap.size w w' := by
  have C := szLabel_wide a n cap 1048576 (twoW w (.slice a n cap) (.slice b m cap2)) (by omega) (by omega) hn
  rw [szOf_no hbig] at C
  have HT : Hid (Two w (.slice a n cap) (.slice b m cap2) (twoW w (.slice a n cap) (.slice b m cap2))) := twoW_two _ _ _
  go_enter Try.func6, Try.ntmps6
  go_wp2_with fail
  refine C.mono ?_
  rintro e w1 ⟨rfl, hb1⟩
  clear C
  have HT1 : Hid (Two w (.slice a n cap) (.slice b m cap2) w1) := HT.out.on hb1
  clear hb1 HT
  go_wp2
  go_ret
  exact ⟨rfl, HT1.out.below⟩

set_option maxHeartbeats 400000 in
theorem lawFlows_sum (a : Option Addr) (n cap : Nat) (b : Option Addr) (m cap2 : Nat) (w : World) (hm : m ≤ 9223372036854775807) (hsm : (n : Int) ≤ 1048576) (hbig : ¬ (m : Int) ≤ 1048576 - n) :
    Calls Try.prog 6 #[.agg #[.slice a n cap], .agg #[.slice b m cap2]] w fun e w' => e = .returned (.bool true) ∧ Below w.heap.size w w' := by
  have C := szLabel_wide a n cap 1048576 (twoW w (.slice a n cap) (.slice b m cap2)) (by omega) (by omega) (by omega)
  rw [szOf_yes hsm] at C
  have c2 := fun w' => szLabel_wide b m cap2 (1048576 - n) w' (by omega) (by omega) hm
  simp only [szOf_no hbig] at c2
  have C2 : Hid (∀ w', _) := c2
  have HT : Hid (Two w (.slice a n cap) (.slice b m cap2) (twoW w (.slice a n cap) (.slice b m cap2))) := twoW_two _ _ _
  have hl : ¬ ((1048576 : Int) - n < 0) := by omega
  clear c2
  go_enter Try.func6, Try.ntmps6
  go_wp2_with fail
  refine C.mono ?_
  rintro e w1 ⟨rfl, hb1⟩
  clear C
  have HT1 : Hid (Two w (.slice a n cap) (.slice b m cap2) w1) := HT.out.on hb1
  have k1 := HT1.out.c1
  clear hb1 HT
  go_wp2_with fail
  refine (C2.out _).mono ?_
  rintro e w2 ⟨rfl, hb2⟩
  have HT2 : Hid (Two w (.slice a n cap) (.slice b m cap2) w2) := HT1.out.on hb2
  clear hb2 HT1 C2 k1
  go_wp2
  go_ret
  exact ⟨rfl, HT2.out.below⟩

set_option maxHeartbeats 4000000 in
theorem lawFlows_small (a : Option Addr) (n cap : Nat) (xs : List Int) (b : Option Addr) (m cap2 : Nat) (ys : List Int) (w : World) (hx : IsInts w (.slice a n cap) xs) (hn : n = xs.length) (hy : IsInts w (.slice b m cap2) ys) (hm : m = ys.length) (hsm : (n : Int) ≤ 1048576) (hsm2 : (m : Int) ≤ 1048576 - n) :
    Calls Try.prog 6 #[.agg #[.slice a n cap], .agg #[.slice b m cap2]] w fun e w' => e = .returned (.bool true) ∧ Below w.heap.size w w' := by
  have C := szLabel_wide a n cap 1048576 (twoW w (.slice a n cap) (.slice b m cap2)) (by omega) (by omega) (by omega)
  rw [szOf_yes hsm] at C
  have c2 := fun w' => szLabel_wide b m cap2 (1048576 - n) w' (by omega) (by omega) (by omega)
  simp only [szOf_yes hsm2] at c2
  have hl : ¬ ((1048576 : Int) - n < 0) := by omega
  have hl2 : ¬ ((1048576 : Int) - n - m < 0) := by omega
  have ct := fun w' (hb : Below w.heap.size w w') => toLabel_any (.slice a n cap) xs w' (hx.on hb) (by omega)
  have cu := fun w' (hb : Below w.heap.size w w') => toLabel_any (.slice b m cap2) ys w' (hy.on hb) (by omega)
  have cs := fun v u w' (hi : IsInts w' v xs) (hj : IsInts w' u ys) => specFlows_any v u xs ys w' hi hj (by omega) (by omega)
  have ci := fun v u w' (hi : IsInts w' v xs) (hj : IsInts w' u ys) => implFlows_any v u xs ys w' hi hj 
  have ce := fun v u w' (hi : IsInts w' v xs) (hj : IsInts w' u xs) => eqLabel_any v u xs xs w' hi hj (by omega)
  have cf := fun v u w' (hi : IsInts w' v ys) (hj : IsInts w' u ys) => eqLabel_any v u ys ys w' hi hj (by omega)
  generalize flowsTo xs ys = o at cs ci
  simp only [sameInts_refl] at ce cf
  have C2 : Hid (∀ w', _) := c2
  have CT : Hid (∀ w', Below w.heap.size w w' → _) := ct
  have CU : Hid (∀ w', Below w.heap.size w w' → _) := cu
  have CS : Hid (∀ v u w', IsInts w' v xs → IsInts w' u ys → _) := cs
  have CI : Hid (∀ v u w', IsInts w' v xs → IsInts w' u ys → _) := ci
  have CE : Hid (∀ v u w', IsInts w' v xs → IsInts w' u xs → _) := ce
  have CF : Hid (∀ v u w', IsInts w' v ys → IsInts w' u ys → _) := cf
  have HT : Hid (Two w (.slice a n cap) (.slice b m cap2) (twoW w (.slice a n cap) (.slice b m cap2))) := twoW_two _ _ _
  obtain ⟨l, hle⟩ : ∃ l, l = (1048576 : Int) - n := ⟨_, rfl⟩
  rw [← hle] at C C2 hl hl2
  obtain ⟨l2, hle2⟩ : ∃ l2, l2 = l - m := ⟨_, rfl⟩
  rw [← hle2] at C2 hl2
  have hne : (o != o) = false := by simp
  clear c2 ct cu cs ci ce cf hx hy hn hm hsm hsm2 hle hle2
  go_enter Try.func6, Try.ntmps6
  go_wp2_with fail
  refine C.mono ?_
  rintro e w1 ⟨rfl, hb1⟩
  clear C
  have HT1 : Hid (Two w (.slice a n cap) (.slice b m cap2) w1) := HT.out.on hb1
  have k1 := HT1.out.c1
  clear hb1 HT
  go_wp2_with fail
  refine (C2.out _).mono ?_
  rintro e w2 ⟨rfl, hb2⟩
  have HT2 : Hid (Two w (.slice a n cap) (.slice b m cap2) w2) := HT1.out.on hb2
  have k2 := HT2.out.c0
  have j2 := HT2.out.c1
  clear hb2 HT1 C2 k1
  go_upto_region 8 with fail
  go_cut [6] (fun s6 wx => s6 = .bool o ∧ Hid (Two w (.slice a n cap) (.slice b m cap2) wx))
  case first =>
    go_region_with (first
      | (go_at_call_of 22 (Value.slice a n cap); refine (CT.out _ HT2.out.drew.below).mono ?_; rintro e w3 ⟨g1, rfl, hg1, hr1, hb3⟩; have HT3 : Hid (Two w (.slice a n cap) (.slice b m cap2) w3) := HT2.out.drew.on hb3; have HI1 : Hid (IsInts w3 (.slice (some ⟨g1, 0, none⟩) xs.length xs.length) xs) := hr1.ints2; have j3 := HT3.out.c1; clear hg1 hr1 hb3)
      | (go_at_call_of 22 (Value.slice b m cap2); refine (CU.out _ HT3.out.below).mono ?_; rintro e w4 ⟨g2, rfl, hg2, hr2, hb4⟩; have HT4 : Hid (Two w (.slice a n cap) (.slice b m cap2) w4) := HT3.out.on hb4; have HI2 : Hid (IsInts w4 (.slice (some ⟨g2, 0, none⟩) ys.length ys.length) ys) := hr2.ints2; have HI3 : Hid (IsInts w4 (.slice (some ⟨g1, 0, none⟩) xs.length xs.length) xs) := HI1.out.on hb4; clear hg2 hr2 hb4)
      | (go_at_call 26; refine (CS.out _ _ _ HI3.out HI2.out).mono ?_; rintro e w5 ⟨rfl, hb5⟩; have HT5 : Hid (Two w (.slice a n cap) (.slice b m cap2) w5) := HT4.out.on hb5; clear hb5))
    all_goals (go_wp2_with fail; go_meet; exact ⟨rfl, HT5⟩)
  case rest =>
  obtain ⟨rfl, HT3⟩ := hcut
  rename_i wx
  clear HT2 k2 j2 CS
  have k3 := HT3.out.c0
  go_wp2_with fail
  refine (CT.out _ HT3.out.below).mono ?_
  rintro e w4 ⟨g1, rfl, hg1, hr1, hb4⟩
  have HT4 : Hid (Two w (.slice a n cap) (.slice b m cap2) (w4.alloc (.cells #[.slice (some ⟨g1, 0, none⟩) xs.length xs.length] 26 (0, 0)))) := (HT3.out.on hb4).alloc _
  have HL4 : Hid (Lab w4.heap.size (.slice (some ⟨g1, 0, none⟩) xs.length xs.length) xs (w4.alloc (.cells #[.slice (some ⟨g1, 0, none⟩) xs.length xs.length] 26 (0, 0)))) := lab_new hr1.ints2
  have k4 : w4.cell? ⟨w.heap.size + 1, 0, none⟩ = some (.slice b m cap2) := (HT3.out.on hb4).c1
  have t4 : w.heap.size + 1 < w4.heap.size := World.block_lt_of_cell? w4 _ k4
  clear hb4 hr1 hg1 HT3 k3
  go_wp2_with fail
  refine (CU.out _ HT4.out.below).mono ?_
  rintro e w5 ⟨g2, rfl, hg2, hr2, hb5⟩
  have HT5 : Hid (Two w (.slice a n cap) (.slice b m cap2) (w5.alloc (.cells #[.slice (some ⟨g2, 0, none⟩) ys.length ys.length] 26 (0, 0)))) := (HT4.out.on hb5).alloc _
  have HL5 : Hid (Lab w4.heap.size (.slice (some ⟨g1, 0, none⟩) xs.length xs.length) xs (w5.alloc (.cells #[.slice (some ⟨g2, 0, none⟩) ys.length ys.length] 26 (0, 0)))) := (HL4.out.on hb5).on (below_alloc _ _)
  have HM5 : Hid (Lab w5.heap.size (.slice (some ⟨g2, 0, none⟩) ys.length ys.length) ys (w5.alloc (.cells #[.slice (some ⟨g2, 0, none⟩) ys.length ys.length] 26 (0, 0)))) := lab_new hr2.ints2
  have k5 : w5.cell? ⟨w4.heap.size, 0, none⟩ = some (.slice (some ⟨g1, 0, none⟩) xs.length xs.length) := (HL4.out.on hb5).cell
  have t5 : w4.heap.size < w5.heap.size := World.block_lt_of_cell? w5 _ k5
  clear hb5 hr2 hg2 HT4 HL4 k4
  go_wp2_with fail
  refine (CI.out _ _ _ HL5.out.ints HM5.out.ints).mono ?_
  rintro e w6 ⟨rfl, hb6⟩
  have HT6 : Hid (Two w (.slice a n cap) (.slice b m cap2) w6) := HT5.out.on hb6
  have HL6 : Hid (Lab w4.heap.size (.slice (some ⟨g1, 0, none⟩) xs.length xs.length) xs w6) := HL5.out.on hb6
  have HM6 : Hid (Lab w5.heap.size (.slice (some ⟨g2, 0, none⟩) ys.length ys.length) ys w6) := HM5.out.on hb6
  have k6 := HT6.out.c0
  have j6 := HL6.out.cell
  clear hb6 HT5 HL5 HM5 k5 CI
  go_upto_region 14 with fail
  go_cut [39] (fun s39 wx => s39 = .bool false ∧ Hid (Two w (.slice a n cap) (.slice b m cap2) wx) ∧ Hid (Lab w5.heap.size (.slice (some ⟨g2, 0, none⟩) ys.length ys.length) ys wx))
  case first =>
    go_region_with (first
      | (go_at_call 22; refine (CT.out _ HT6.out.drew.below).mono ?_; rintro e w7 ⟨g3, rfl, hg3, hr3, hb7⟩; have HT7 : Hid (Two w (.slice a n cap) (.slice b m cap2) w7) := HT6.out.drew.on hb7; have HL7 : Hid (Lab w4.heap.size (.slice (some ⟨g1, 0, none⟩) xs.length xs.length) xs w7) := HL6.out.drew.on hb7; have HM7 : Hid (Lab w5.heap.size (.slice (some ⟨g2, 0, none⟩) ys.length ys.length) ys w7) := HM6.out.drew.on hb7; have HI7 : Hid (IsInts w7 (.slice (some ⟨g3, 0, none⟩) xs.length xs.length) xs) := hr3.ints2; have j7 := HL7.out.cell; clear hg3 hr3 hb7)
      | (go_at_call 24; refine (CE.out _ _ _ HL7.out.ints HI7.out).mono ?_; rintro e w8 ⟨rfl, hb8⟩; have HT8 : Hid (Two w (.slice a n cap) (.slice b m cap2) w8) := HT7.out.on hb8; have HM8 : Hid (Lab w5.heap.size (.slice (some ⟨g2, 0, none⟩) ys.length ys.length) ys w8) := HM7.out.on hb8; clear hb8))
    all_goals (go_wp2_with fail; go_meet; exact ⟨rfl, HT8, HM8⟩)
  case rest =>
  obtain ⟨rfl, HT7, HM7⟩ := hcut
  rename_i wy
  clear HT6 HL6 HM6 k6 j6 CE CT
  have k7 := HT7.out.c1
  have j7 := HM7.out.cell
  go_wp2_with fail
  go_region_with (first
    | (go_at_call 22; refine (CU.out _ HT7.out.drew.below).mono ?_; rintro e w8 ⟨g3, rfl, hg3, hr3, hb8⟩; have HT8 : Hid (Two w (.slice a n cap) (.slice b m cap2) w8) := HT7.out.drew.on hb8; have HM8 : Hid (Lab w5.heap.size (.slice (some ⟨g2, 0, none⟩) ys.length ys.length) ys w8) := HM7.out.drew.on hb8; have HI8 : Hid (IsInts w8 (.slice (some ⟨g3, 0, none⟩) ys.length ys.length) ys) := hr3.ints2; have j8 := HM8.out.cell; clear hg3 hr3 hb8)
    | (go_at_call 24; refine (CF.out _ _ _ HM8.out.ints HI8.out).mono ?_; rintro e w9 ⟨rfl, hb9⟩; have HT9 : Hid (Two w (.slice a n cap) (.slice b m cap2) w9) := HT8.out.on hb9; clear hb9))
  all_goals go_wp2
  all_goals go_ret
  all_goals exact ⟨rfl, HT9.out.below⟩

theorem walkFlows (a : Option Addr) (n cap : Nat) (xs : List Int) (b : Option Addr) (m cap2 : Nat) (ys : List Int) (w : World) (hx : IsInts w (.slice a n cap) xs) (hn : n = xs.length) (hm : n ≤ maxLen) (hy : IsInts w (.slice b m cap2) ys) (hn2 : m = ys.length) (hm2 : m ≤ maxLen) :
    Calls Try.prog 6 #[.agg #[.slice a n cap], .agg #[.slice b m cap2]] w fun e w' => e = .returned (.bool true) ∧ Below w.heap.size w w' := by
  unfold maxLen at hm hm2
  by_cases h : (n : Int) ≤ 1048576
  · by_cases h2 : (m : Int) ≤ 1048576 - n
    · exact lawFlows_small a n cap xs b m cap2 ys w hx hn hy hn2 h h2
    · exact lawFlows_sum a n cap b m cap2 w (by omega) h h2
  · exact lawFlows_big a n cap b m cap2 w (by omega) h

namespace Flows
set_option maxRecDepth 100000 in
theorem lifted (os : Os) (started : os.Started) (H : Type) (enc : TypeId × Value → H) :
    ReturnsInHanded {} Try.checked os 6 .any (Rows.fnExactFlowsSpec.pre6 enc Try.prog Try.f6 Rows.fnExactFlowsRow.domain false) (Rows.fnExactFlowsSpec.post enc Try.prog Try.f6 false true false false) := by
  refine returnsInHanded_of_change (C := Try.checked) own started (by kernel_rfl) Try.func6
    (ChangeSpec.witness6 (enc := enc) (C := Try.checked) false ⟨#[], #[.agg #[.slice none 0 0], .agg #[.slice none 0 0]], []⟩ 8 (by kernel_rfl) (by kernel_rfl) (by kernel_rfl) (by kernel_rfl)) ?_
  intro W base args ds gs before hval0 hW hcnd _
  have hval : ∀ (j : Nat) t v, Try.f6.params[j]? = some t → args[j]? = some v → Value.okWide Try.prog W .any base t v := hval0
  have hW' := hW
  obtain ⟨p, q, hA0, hV, rfl, hfz, hnd⟩ := hW
  have hA : DataW.TrodAll enc Try.prog W 0 (fun _ => true) true Try.f6.params.toList args.toList ds p := hA0
  rw [Try.params6] at hA hval
  obtain ⟨v0, vs0, d0, ds0, p0, q0, hargs, rfl, rfl, h0, r0⟩ := trodAll_cons hA
  obtain ⟨v1, vs1, d1, ds1, p1, q1, hargs1, rfl, rfl, h1, r1⟩ := trodAll_cons r0
  obtain ⟨rfl, rfl, rfl⟩ := trodAll_nil r1
  obtain rfl : args = #[v0, v1] := by cases args; simp_all
  obtain ⟨rfl, rfl⟩ := trodVars_none hV
  obtain ⟨a0, n0, c0, xs0, rfl, i0, e0, m0⟩ := open_label (hval 0 37 v0 rfl rfl) h0
  obtain ⟨a1, n1, c1, xs1, rfl, i1, e1, m1⟩ := open_label (hval 1 37 v1 rfl rfl) h1
  have k0 := h0
  have k1 := h1
  have lt1 : ∀ x ∈ p1, x.block < W.heap.size := by obtain ⟨m, hm⟩ := k1; exact DataW.trod_lt m _ _ _ hm
  have lt0 : ∀ x ∈ p0, x.block < W.heap.size := by obtain ⟨m, hm⟩ := k0; exact DataW.trod_lt m _ _ _ hm
  clear hA0 hval0
  refine (walkFlows a0 n0 c0 xs0 a1 n1 c1 xs1 W i0 e0 m0 i1 e1 m1).mono fun e W' ⟨he, bel⟩ => ?_
  subst he
  exact ⟨_, rfl, _, _, _, [], _, [], hW', trodAll_mk1 (shut_bool Try.underlying4 _), (trodAll_cons_mk (Below.trod laidOut (by kernel_rfl) (of_decide_eq_true (by kernel_rfl)) k0 bel lt0) (trodAll_cons_mk (Below.trod laidOut (by kernel_rfl) (of_decide_eq_true (by kernel_rfl)) k1 bel lt1) trodAll_mk0)), rfl, bel.frame _, fun h => by cases h⟩

theorem over : Rows.fnExactFlowsRow.holds Try.pinned (OpenSpec.ofChange Rows.fnExactFlowsSpec) :=
  OpenClaim.holds_of_wide 6 Try.f6 rfl rfl rfl rfl rfl rfl rfl ⟨rfl, rfl, rfl, rfl, rfl⟩ rfl rfl rfl rfl rfl (by kernel_rfl) Try.func6 (by kernel_rfl)
    (of_decide_eq_true (by kernel_rfl)) (by unfold Func.isWrapper; first | (rw [if_pos (by decide +kernel)]; kernel_rfl) | (rw [if_neg (by decide +kernel)]; exact ⟨rfl, rfl⟩))
    (fun os started H enc _ => lifted os started H enc)
end Flows
theorem flows_holds : Rows.FnExactFlowsSaid := Flows.over
#print axioms flows_holds
end Go.Proofs.Ytpdhlnnepgkmkaa
