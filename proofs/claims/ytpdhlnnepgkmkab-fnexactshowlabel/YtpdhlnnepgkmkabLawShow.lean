/-
  The law of ShowLabel: what the program answers is what the model answers, at every label.
-/
import Derived.Test.YtpdhlnnepgkmkabShow
import Derived.Test.YtpdhlnnepgkmkabReads
namespace Go.Proofs.Ytpdhlnnepgkmkab
open Go.ChangeShapes Go.WideShapes Go.ChangeAt Go.RowKit
set_option linter.unusedVariables false

theorem keep {w w' : World} {b : Nat} {o : Obj} (h : w.heap[b]? = some o) (hb : Below w.heap.size w w') : w'.heap[b]? = some o := by
  rw [hb.block b (lt_of_block h)]; exact h
theorem kcell {w : World} {b : Nat} {t : TypeId} {v : Value} (h : w.heap[b]? = some (.cells #[v] t (0, 0))) : w.cell? ⟨b, 0, none⟩ = some v := by simp [World.cell?, h]
theorem RowAt.ints {w : World} {g : Nat} {xs : List Int} (h : RowAt w g xs) : IsInts w (.slice (some ⟨g, 0, none⟩) xs.length xs.length) xs :=
  ⟨_, _, rfl, Nat.le_refl _, fun i hi => ⟨_, rfl, by rw [add_head]; exact h.cell i hi⟩⟩
theorem _root_.Go.RowKit.Below.more {w w1 w2 : World} {s : Nat} (h : Below s w w1) (h2 : Below w1.heap.size w1 w2) (hs : s ≤ w1.heap.size) : Below s w w2 := h.trans (h2.mono hs)

set_option maxHeartbeats 400000 in
theorem lawShow_big (a : Option Addr) (n cap : Nat) (w : World) (hm : n ≤ 9223372036854775807) (hbig : ¬ (n : Int) ≤ 1048576) :
    Calls Try.prog 4 #[.agg #[.slice a n cap]] w fun e w' => e = .returned (.bool true) ∧ Below w.heap.size w w' := by
  have hb : Below w.heap.size w (w.alloc (.cells #[.slice a n cap] 29 (0, 0))) := (Below.refl _ _).alloc (Nat.le_refl _) _
  have C := szLabel_wide a n cap 1048576 (w.alloc (.cells #[.slice a n cap] 29 (0, 0))) (by omega) (by omega) hm
  rw [szOf_no hbig] at C
  have HB : Hid (Below w.heap.size w (w.alloc (.cells #[.slice a n cap] 29 (0, 0)))) := hb
  clear hb
  go_enter Try.func4, Try.ntmps4
  go_wp2_with fail
  refine C.mono ?_
  rintro e w1 ⟨rfl, hb1⟩
  clear C
  have HB1 : Hid (Below w.heap.size w w1) := HB.out.more hb1 (by simp)
  clear hb1 HB
  go_wp2
  go_ret
  exact ⟨rfl, HB1.out⟩

set_option maxHeartbeats 1000000 in
theorem lawShow_small (a : Option Addr) (n cap : Nat) (xs : List Int) (w : World) (hx : IsInts w (.slice a n cap) xs) (hn : n = xs.length) (hsm : (n : Int) ≤ 1048576) :
    Calls Try.prog 4 #[.agg #[.slice a n cap]] w fun e w' => e = .returned (.bool true) ∧ Below w.heap.size w w' := by
  have hb : Below w.heap.size w (w.alloc (.cells #[.slice a n cap] 29 (0, 0))) := (Below.refl _ _).alloc (Nat.le_refl _) _
  have hk : (w.alloc (.cells #[.slice a n cap] 29 (0, 0))).heap[w.heap.size]? = some (.cells #[.slice a n cap] 29 (0, 0)) := heap_alloc_new w _
  have C := szLabel_wide a n cap 1048576 (w.alloc (.cells #[.slice a n cap] 29 (0, 0))) (by omega) (by omega) (by omega)
  rw [szOf_yes hsm] at C
  have ct := fun w' (hb : Below w.heap.size w w') => toLabel_any (.slice a n cap) xs w' (hx.on hb) (by omega)
  have CT : Hid (∀ w', Below w.heap.size w w' → _) := ct
  have cs := fun v w' (hi : IsInts w' v xs) => specShow_any v xs w' hi (by omega)
  have ci := fun v w' (hi : IsInts w' v xs) => implShow_any v xs w' hi
  have ce := fun v u w' (hi : IsInts w' v xs) (hj : IsInts w' u xs) => eqLabel_any v u xs xs w' hi hj (by omega)
  generalize showOf xs = o at cs ci
  simp only [sameInts_refl] at ce
  have CS : Hid (∀ v w', IsInts w' v xs → _) := cs
  have CI : Hid (∀ v w', IsInts w' v xs → _) := ci
  have CE : Hid (∀ v u w', IsInts w' v xs → IsInts w' u xs → _) := ce
  have HB : Hid (Below w.heap.size w (w.alloc (.cells #[.slice a n cap] 29 (0, 0)))) := hb
  have HK : Hid ((w.alloc (.cells #[.slice a n cap] 29 (0, 0))).heap[w.heap.size]? = some (.cells #[.slice a n cap] 29 (0, 0))) := hk
  have hl : ¬ ((1048576 : Int) - n < 0) := by omega
  obtain ⟨l, hle⟩ : ∃ l, l = (1048576 : Int) - n := ⟨_, rfl⟩
  rw [← hle] at C hl
  clear hb hk ct cs ci ce hx hn hsm hle
  go_enter Try.func4, Try.ntmps4
  go_wp2_with fail
  refine C.mono ?_
  rintro e w1 ⟨rfl, hb1⟩
  clear C
  have HB1 : Hid (Below w.heap.size w w1) := HB.out.more hb1 (by simp)
  have HK1 : Hid (w1.heap[w.heap.size]? = some (.cells #[.slice a n cap] 29 (0, 0))) := keep HK.out hb1
  have k1 := kcell HK1.out
  clear hb1 HB HK
  go_wp2_with fail
  refine (CT.out _ HB1.out).mono ?_
  rintro e w2 ⟨g1, rfl, hg1, hr1, hb2⟩
  have HB2 : Hid (Below w.heap.size w w2) := HB1.out.more hb2 HB1.out.size
  have HK2 : Hid (w2.heap[w.heap.size]? = some (.cells #[.slice a n cap] 29 (0, 0))) := keep HK1.out hb2
  have HI : Hid (IsInts w2 (.slice (some ⟨g1, 0, none⟩) xs.length xs.length) xs) := hr1.ints
  clear hb2 HB1 HK1 k1 hr1 hg1
  go_wp2_with fail
  refine (CS.out _ _ HI.out).mono ?_
  rintro e w3 ⟨rfl, hb3⟩
  have HB3 : Hid (Below w.heap.size w w3) := HB2.out.more hb3 HB2.out.size
  have HK3 : Hid (w3.heap[w.heap.size]? = some (.cells #[.slice a n cap] 29 (0, 0))) := keep HK2.out hb3
  have k3 := kcell HK3.out
  clear hb3 HB2 HK2 HI CS
  go_wp2_with fail
  refine (CT.out _ HB3.out).mono ?_
  rintro e w4 ⟨g2, rfl, hg2, hr2, hb4⟩
  have HB4 : Hid (Below w.heap.size w (w4.alloc (.cells #[.slice (some ⟨g2, 0, none⟩) xs.length xs.length] 24 (0, 0)))) := (HB3.out.more hb4 HB3.out.size).alloc (by have := (HB3.out.more hb4 HB3.out.size).size; exact this) _
  have HK4 : Hid ((w4.alloc (.cells #[.slice (some ⟨g2, 0, none⟩) xs.length xs.length] 24 (0, 0))).heap[w.heap.size]? = some (.cells #[.slice a n cap] 29 (0, 0))) := keep (keep HK3.out hb4) ((Below.refl _ _).alloc (Nat.le_refl _) _)
  have HX4 : Hid ((w4.alloc (.cells #[.slice (some ⟨g2, 0, none⟩) xs.length xs.length] 24 (0, 0))).heap[w4.heap.size]? = some (.cells #[.slice (some ⟨g2, 0, none⟩) xs.length xs.length] 24 (0, 0))) := heap_alloc_new w4 _
  have HR4 : Hid (IsInts (w4.alloc (.cells #[.slice (some ⟨g2, 0, none⟩) xs.length xs.length] 24 (0, 0))) (.slice (some ⟨g2, 0, none⟩) xs.length xs.length) xs) := hr2.ints.on ((Below.refl _ _).alloc (Nat.le_refl _) _)
  clear hb4 HB3 HK3 k3 hr2 hg2
  go_wp2_with fail
  refine (CI.out _ _ HR4.out).mono ?_
  rintro e w5 ⟨rfl, hb5⟩
  have HB5 : Hid (Below w.heap.size w w5) := HB4.out.more hb5 HB4.out.size
  have HK5 : Hid (w5.heap[w.heap.size]? = some (.cells #[.slice a n cap] 29 (0, 0))) := keep HK4.out hb5
  have HX5 : Hid (w5.heap[w4.heap.size]? = some (.cells #[.slice (some ⟨g2, 0, none⟩) xs.length xs.length] 24 (0, 0))) := keep HX4.out hb5
  have HR5 : Hid (IsInts w5 (.slice (some ⟨g2, 0, none⟩) xs.length xs.length) xs) := HR4.out.on hb5
  have k5 := kcell HK5.out
  have x5 := kcell HX5.out
  clear hb5 HB4 HK4 HX4 HR4 CI
  have hne : (o.toList != o.toList) = false := by simp
  go_wp2_with fail
  go_region_with (first
    | (go_at_call 13; refine (CT.out _ HB5.out.drew).mono ?_; rintro e w6 ⟨g3, rfl, hg3, hr3, hb6⟩; have HB6 : Hid (Below w.heap.size w w6) := HB5.out.drew.more hb6 HB5.out.drew.size; have x6 := kcell (keep (show w5.drew.heap[w4.heap.size]? = _ from HX5.out) hb6); have HI6 : Hid (IsInts w6 (.slice (some ⟨g3, 0, none⟩) xs.length xs.length) xs) := hr3.ints; have HJ6 : Hid (IsInts w6 (.slice (some ⟨g2, 0, none⟩) xs.length xs.length) xs) := IsInts.on (w := w5.drew) HR5.out hb6; clear hg3 hr3 hb6)
    | (go_at_call 8; refine (CE.out _ _ _ HJ6.out HI6.out).mono ?_; rintro e w7 ⟨rfl, hb7⟩; have HB7 : Hid (Below w.heap.size w w7) := HB6.out.more hb7 HB6.out.size; clear hb7))
  all_goals go_wp2
  all_goals go_ret
  all_goals exact ⟨rfl, HB7.out⟩

theorem walkShowLabel (a : Option Addr) (n cap : Nat) (xs : List Int) (w : World) (hx : IsInts w (.slice a n cap) xs) (hn : n = xs.length) (hm : n ≤ maxLen) :
    Calls Try.prog 4 #[.agg #[.slice a n cap]] w fun e w' => e = .returned (.bool true) ∧ Below w.heap.size w w' := by
  unfold maxLen at hm
  by_cases h : (n : Int) ≤ 1048576
  · exact lawShow_small a n cap xs w hx hn h
  · exact lawShow_big a n cap w (by omega) h

namespace ShowLabel
set_option maxRecDepth 100000 in
theorem lifted (os : Os) (started : os.Started) (H : Type) (enc : TypeId × Value → H) :
    ReturnsInHanded {} Try.checked os 4 .any (Rows.fnExactShowLabelSpec.pre6 enc Try.prog Try.f4 Rows.fnExactShowLabelRow.domain false) (Rows.fnExactShowLabelSpec.post enc Try.prog Try.f4 false true false false) := by
  refine returnsInHanded_of_change (C := Try.checked) own started (by kernel_rfl) Try.func4
    (ChangeSpec.witness6 (enc := enc) (C := Try.checked) false ⟨#[], #[.agg #[.slice none 0 0]], []⟩ 8 (by kernel_rfl) (by kernel_rfl) (by kernel_rfl) (by kernel_rfl)) ?_
  intro W base args ds gs before hval0 hW hcnd _
  have hval : ∀ (j : Nat) t v, Try.f4.params[j]? = some t → args[j]? = some v → Value.okWide Try.prog W .any base t v := hval0
  have hW' := hW
  obtain ⟨p, q, hA0, hV, rfl, hfz, hnd⟩ := hW
  have hA : DataW.TrodAll enc Try.prog W 0 (fun _ => true) true Try.f4.params.toList args.toList ds p := hA0
  rw [Try.params4] at hA hval
  obtain ⟨v0, vs0, d0, ds0, p0, q0, hargs, rfl, rfl, h0, r0⟩ := trodAll_cons hA
  obtain ⟨rfl, rfl, rfl⟩ := trodAll_nil r0
  obtain rfl : args = #[v0] := by cases args; simp_all
  obtain ⟨rfl, rfl⟩ := trodVars_none hV
  obtain ⟨a0, n0, c0, xs0, rfl, i0, e0, m0⟩ := open_label (hval 0 29 v0 rfl rfl) h0
  have k0 := h0
  have lt0 : ∀ x ∈ p0, x.block < W.heap.size := by obtain ⟨m, hm⟩ := k0; exact DataW.trod_lt m _ _ _ hm
  clear hA0 hval0
  refine (walkShowLabel a0 n0 c0 xs0 W i0 e0 m0).mono fun e W' ⟨he, bel⟩ => ?_
  subst he
  exact ⟨_, rfl, _, _, _, [], _, [], hW', trodAll_mk1 (shut_bool Try.underlying4 _), (trodAll_cons_mk (Below.trod laidOut (by kernel_rfl) (of_decide_eq_true (by kernel_rfl)) k0 bel lt0) trodAll_mk0), rfl, bel.frame _, fun h => by cases h⟩

theorem over : Rows.fnExactShowLabelRow.holds Try.pinned (OpenSpec.ofChange Rows.fnExactShowLabelSpec) :=
  OpenClaim.holds_of_wide 4 Try.f4 rfl rfl rfl rfl rfl rfl rfl ⟨rfl, rfl, rfl, rfl, rfl⟩ rfl rfl rfl rfl rfl (by kernel_rfl) Try.func4 (by kernel_rfl)
    (of_decide_eq_true (by kernel_rfl)) (by unfold Func.isWrapper; first | (rw [if_pos (by decide +kernel)]; kernel_rfl) | (rw [if_neg (by decide +kernel)]; exact ⟨rfl, rfl⟩))
    (fun os started H enc _ => lifted os started H enc)
end ShowLabel
theorem showLabel_holds : Rows.FnExactShowLabelSaid := ShowLabel.over
#print axioms showLabel_holds
end Go.Proofs.Ytpdhlnnepgkmkab
