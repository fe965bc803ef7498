/-
  The law of Meet, proved for every two labels: what the program makes is what the model makes; the arguments are left alone; no answer shares memory with an argument or another answer. No condition.
-/
import Derived.Test.YtpdhlnnepgkmkaaCoreMeet
namespace Go.Proofs.Ytpdhlnnepgkmkaa
open Go.ChangeShapes Go.WideShapes Go.ChangeAt Go.RowKit
set_option linter.unusedVariables false

set_option maxHeartbeats 400000 in
theorem lawMeet_big (a : Option Addr) (n cap : Nat) (b : Option Addr) (m cap2 : Nat) (w : World) (hn : n ≤ 9223372036854775807) (hbig : ¬ (n : Int) ≤ 1048576) :
    Calls Try.prog 8 #[.agg #[.slice a n cap], .agg #[.slice b m cap2]] w fun e w' => e = .returned (.bool true) ∧ Below w.heap.size w w' := by
  have C := szLabel_wide a n cap 1048576 (twoW w (.slice a n cap) (.slice b m cap2)) (by omega) (by omega) hn
  rw [szOf_no hbig] at C
  have HT : Hid (Two w (.slice a n cap) (.slice b m cap2) (twoW w (.slice a n cap) (.slice b m cap2))) := twoW_two _ _ _
  go_enter Try.func8, Try.ntmps8
  go_wp2_with fail
  refine C.mono ?_
  rintro e w1 ⟨rfl, hb1⟩
  clear C
  have HT1 : Hid (Two w (.slice a n cap) (.slice b m cap2) w1) := HT.out.on hb1
  clear hb1 HT
  go_wp2
  go_ret
  exact ⟨rfl, HT1.out.below⟩

set_option maxHeartbeats 400000 in
theorem lawMeet_sum (a : Option Addr) (n cap : Nat) (b : Option Addr) (m cap2 : Nat) (w : World) (hm : m ≤ 9223372036854775807) (hsm : (n : Int) ≤ 1048576) (hbig : ¬ (m : Int) ≤ 1048576 - n) :
    Calls Try.prog 8 #[.agg #[.slice a n cap], .agg #[.slice b m cap2]] w fun e w' => e = .returned (.bool true) ∧ Below w.heap.size w w' := by
  have C := szLabel_wide a n cap 1048576 (twoW w (.slice a n cap) (.slice b m cap2)) (by omega) (by omega) (by omega)
  rw [szOf_yes hsm] at C
  have c2 := fun w' => szLabel_wide b m cap2 (1048576 - n) w' (by omega) (by omega) hm
  simp only [szOf_no hbig] at c2
  have C2 : Hid (∀ w', _) := c2
  have HT : Hid (Two w (.slice a n cap) (.slice b m cap2) (twoW w (.slice a n cap) (.slice b m cap2))) := twoW_two _ _ _
  have hl : ¬ ((1048576 : Int) - n < 0) := by omega
  clear c2
  go_enter Try.func8, Try.ntmps8
  go_wp2_with fail
  refine C.mono ?_
  rintro e w1 ⟨rfl, hb1⟩
  clear C
  have HT1 : Hid (Two w (.slice a n cap) (.slice b m cap2) w1) := HT.out.on hb1
  have k1 := HT1.out.c1
  clear hb1 HT
  go_wp2_with fail
  refine (C2.out _).mono ?_
  rintro e w2 ⟨rfl, hb2⟩
  have HT2 : Hid (Two w (.slice a n cap) (.slice b m cap2) w2) := HT1.out.on hb2
  clear hb2 HT1 C2 k1
  go_wp2
  go_ret
  exact ⟨rfl, HT2.out.below⟩

theorem walkMeet (a : Option Addr) (n cap : Nat) (xs : List Int) (b : Option Addr) (m cap2 : Nat) (ys : List Int) (w : World) (hx : IsInts w (.slice a n cap) xs) (hn : n = xs.length) (hm : n ≤ maxLen) (hy : IsInts w (.slice b m cap2) ys) (hn2 : m = ys.length) (hm2 : m ≤ maxLen) :
    Calls Try.prog 8 #[.agg #[.slice a n cap], .agg #[.slice b m cap2]] w fun e w' => e = .returned (.bool true) ∧ Below w.heap.size w w' := by
  unfold maxLen at hm hm2
  by_cases h : (n : Int) ≤ 1048576
  · by_cases h2 : (m : Int) ≤ 1048576 - n
    · refine lawMeet_core (.slice a n cap) (.slice b m cap2) xs ys (1048576 - n) (1048576 - n - m) w (by omega) (by omega) hx hy (by omega) (by omega) (fun w' => ?_) (fun w' => ?_)
      · have C := szLabel_wide a n cap 1048576 w' (by omega) (by omega) (by omega)
        rw [szOf_yes h] at C
        exact C
      · have C := szLabel_wide b m cap2 (1048576 - n) w' (by omega) (by omega) (by omega)
        rw [szOf_yes h2] at C
        exact C
    · exact lawMeet_sum a n cap b m cap2 w (by omega) h h2
  · exact lawMeet_big a n cap b m cap2 w (by omega) h

namespace Meet
set_option maxRecDepth 100000 in
theorem lifted (os : Os) (started : os.Started) (H : Type) (enc : TypeId × Value → H) :
    ReturnsInHanded {} Try.checked os 8 .any (Rows.fnExactMeetSpec.pre6 enc Try.prog Try.f8 Rows.fnExactMeetRow.domain false) (Rows.fnExactMeetSpec.post enc Try.prog Try.f8 false true false false) := by
  refine returnsInHanded_of_change (C := Try.checked) own started (by kernel_rfl) Try.func8
    (ChangeSpec.witness6 (enc := enc) (C := Try.checked) false ⟨#[], #[.agg #[.slice none 0 0], .agg #[.slice none 0 0]], []⟩ 8 (by kernel_rfl) (by kernel_rfl) (by kernel_rfl) (by kernel_rfl)) ?_
  intro W base args ds gs before hval0 hW hcnd _
  have hval : ∀ (j : Nat) t v, Try.f8.params[j]? = some t → args[j]? = some v → Value.okWide Try.prog W .any base t v := hval0
  have hW' := hW
  obtain ⟨p, q, hA0, hV, rfl, hfz, hnd⟩ := hW
  have hA : DataW.TrodAll enc Try.prog W 0 (fun _ => true) true Try.f8.params.toList args.toList ds p := hA0
  rw [Try.params8] at hA hval
  obtain ⟨v0, vs0, d0, ds0, p0, q0, hargs, rfl, rfl, h0, r0⟩ := trodAll_cons hA
  obtain ⟨v1, vs1, d1, ds1, p1, q1, hargs1, rfl, rfl, h1, r1⟩ := trodAll_cons r0
  obtain ⟨rfl, rfl, rfl⟩ := trodAll_nil r1
  obtain rfl : args = #[v0, v1] := by cases args; simp_all
  obtain ⟨rfl, rfl⟩ := trodVars_none hV
  obtain ⟨a0, n0, c0, xs0, rfl, i0, e0, m0⟩ := open_label (hval 0 37 v0 rfl rfl) h0
  obtain ⟨a1, n1, c1, xs1, rfl, i1, e1, m1⟩ := open_label (hval 1 37 v1 rfl rfl) h1
  have k0 := h0
  have k1 := h1
  have lt1 : ∀ x ∈ p1, x.block < W.heap.size := by obtain ⟨m, hm⟩ := k1; exact DataW.trod_lt m _ _ _ hm
  have lt0 : ∀ x ∈ p0, x.block < W.heap.size := by obtain ⟨m, hm⟩ := k0; exact DataW.trod_lt m _ _ _ hm
  clear hA0 hval0
  refine (walkMeet a0 n0 c0 xs0 a1 n1 c1 xs1 W i0 e0 m0 i1 e1 m1).mono fun e W' ⟨he, bel⟩ => ?_
  subst he
  exact ⟨_, rfl, _, _, _, [], _, [], hW', trodAll_mk1 (shut_bool Try.underlying4 _), (trodAll_cons_mk (Below.trod laidOut (by kernel_rfl) (of_decide_eq_true (by kernel_rfl)) k0 bel lt0) (trodAll_cons_mk (Below.trod laidOut (by kernel_rfl) (of_decide_eq_true (by kernel_rfl)) k1 bel lt1) trodAll_mk0)), rfl, bel.frame _, fun h => by cases h⟩

theorem over : Rows.fnExactMeetRow.holds Try.pinned (OpenSpec.ofChange Rows.fnExactMeetSpec) :=
  OpenClaim.holds_of_wide 8 Try.f8 rfl rfl rfl rfl rfl rfl rfl ⟨rfl, rfl, rfl, rfl, rfl⟩ rfl rfl rfl rfl rfl (by kernel_rfl) Try.func8 (by kernel_rfl)
    (of_decide_eq_true (by kernel_rfl)) (by unfold Func.isWrapper; first | (rw [if_pos (by decide +kernel)]; kernel_rfl) | (rw [if_neg (by decide +kernel)]; exact ⟨rfl, rfl⟩))
    (fun os started H enc _ => lifted os started H enc)
end Meet
theorem meet_holds : Rows.FnExactMeetSaid := Meet.over
#print axioms meet_holds
end Go.Proofs.Ytpdhlnnepgkmkaa
