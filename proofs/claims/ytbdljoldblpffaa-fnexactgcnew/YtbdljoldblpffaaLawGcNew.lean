/-
  The law of GcNew: the program answers as the model, and its answer owns its memory.
-/
import Derived.Test.YtbdljoldblpffaaReadH
import Derived.Test.YtbdljoldblpffaaGcM
namespace Go.Proofs.Ytbdljoldblpffaa
open Go.ChangeShapes Go.WideShapes Go.ChangeAt Go.RowKit
set_option linter.unusedVariables false
set_option maxRecDepth 100000

/-- What a collector knows at first, in a box of the law. -/
structure NewG (w : World) (l h b : Nat) (g : Nat) (xs : List Int) (wz : World) : Prop where
  base : Below w.heap.size w wz
  box : wz.heap[b]? = some (boxG 0 0 0 (.slice (some ⟨g, 0, none⟩) 1 1))
  own : OwnI l h wz (.slice (some ⟨g, 0, none⟩) 1 1) xs
  low : w.heap.size ≤ l
  lh : l ≤ h
  mid : h ≤ b
theorem NewG.on {w : World} {l h b g : Nat} {xs : List Int} {wz w' : World} (H : NewG w l h b g xs wz) (hb : Below wz.heap.size wz w') : NewG w l h b g xs w' := ⟨below_more H.base hb, keep H.box hb, ownI_on H.own hb, H.low, H.lh, H.mid⟩
theorem NewG.turned {w : World} {l h b g : Nat} {xs : List Int} {l2 h2 : Nat} {wz w' : World} (H : NewG w l h b g xs wz) (ht : Turned8 l2 h2 wz w') (hd : b < l2) (hl : h ≤ l2) : NewG w l h b g xs w' := ⟨ht.below _ _ (by have := H.low; have := H.lh; omega) H.base, ht.block _ _ H.box (by omega), ownI_turned H.own ht (.inl hl), H.low, H.lh, H.mid⟩
theorem NewG.made {w w1 w2 : World} {g : Nat} (hb : Below w.heap.size w w1) (ho : OwnI w1.heap.size w2.heap.size w2 (.slice (some ⟨g, 0, none⟩) 1 1) [0]) (hb2 : Below w1.heap.size w1 w2) : NewG w w1.heap.size w2.heap.size w2.heap.size g [0] (w2.alloc (boxG 0 0 0 (.slice (some ⟨g, 0, none⟩) 1 1))) :=
  ⟨(below_more hb hb2).trans ((below_alloc w2 _).mono (by have := hb.size; have := hb2.size; omega)), heap_alloc_new w2 _, ownI_on ho (below_alloc w2 _), hb.size, hb2.size, Nat.le_refl _⟩
set_option maxHeartbeats 4000000 in
theorem walkGcNew (w : World) :
    Calls Try.prog 3 #[] w fun e w' => e = .returned (.bool true) ∧ Below w.heap.size w w' := by
  have HI : Hid (∀ w', Calls Try.prog 6 #[] w' fun e w'' => (∃ g, e = .returned (gcV 0 0 0 (.slice (some ⟨g, 0, none⟩) 1 1)) ∧ OwnI w'.heap.size w''.heap.size w'' (.slice (some ⟨g, 0, none⟩) 1 1) [0]) ∧ Below w'.heap.size w' w'') := fun w' => implGcNew_any w'
  have HE : Hid (∀ g u w', IsInts w' (.slice (some ⟨g, 0, none⟩) 1 1) [0] → IsInts w' (.slice (some ⟨u, 0, none⟩) 1 1) [0] → Calls Try.prog 7 #[gcV 0 0 0 (.slice (some ⟨g, 0, none⟩) 1 1), gcV 0 0 0 (.slice (some ⟨u, 0, none⟩) 1 1)] w' fun e w'' => e = .returned (.bool true) ∧ Below w'.heap.size w' w'') := fun g u w' h1 h2 => eqGc_same 0 0 0 _ _ [0] w' h1 h2 (by decide)
  have HM : Hid (∀ l h g w', OwnI l h w' (.slice (some ⟨g, 0, none⟩) 1 1) [0] → l ≤ w'.heap.size → Calls Try.prog 8 #[gcV 0 0 0 (.slice (some ⟨g, 0, none⟩) 1 1), .int .i64 1] w' fun e w'' => e = .returned (.int .i64 2) ∧ OwnI l h w'' (.slice (some ⟨g, 0, none⟩) 1 1) (upFrom 1 1) ∧ Turned8 l h w' w'') := fun l h g w' h1 h2 => markGc_own l h 0 0 0 _ [0] 1 w' h1 (by decide) (by decide) (by decide) h2
  have HH : Hid (∀ g w', IsInts w' (.slice (some ⟨g, 0, none⟩) 1 1) (upFrom 1 1) → Calls Try.prog 9 #[gcV 0 0 0 (.slice (some ⟨g, 0, none⟩) 1 1), .int .i64 1] w' fun e w'' => e = .returned (.int .i64 2) ∧ Below w'.heap.size w' w'') := fun g w' h1 => heldGc_up 0 0 0 _ 1 1 w' h1 (by decide) (by decide) (by decide)
  go_enter Try.func3, Try.ntmps3
  go_wp2_with fail
  refine (specGcNew_any _).mono ?_
  rintro e w1 ⟨⟨g1, rfl, ho⟩, hb⟩
  have H1 := hid_of (NewG.made (Below.refl _ w) ho hb)
  clear ho hb
  go_wp2_with fail
  refine (HI.out _).mono ?_
  rintro e w2 ⟨⟨g2, rfl, ho⟩, hb⟩
  have H2 := hid_of (NewG.made H1.out.base ho hb)
  have H1' := hid_of ((H1.out.on hb).on (below_alloc w2 (boxG 0 0 0 (.slice (some ⟨g2, 0, none⟩) 1 1))))
  have HZ : Hid (w1.heap.size < (w1.alloc (boxG 0 0 0 (.slice (some ⟨g1, 0, none⟩) 1 1))).heap.size) := by show _ < _; simp
  clear ho hb H1
  obtain ⟨k0, k1, k2, k3⟩ := cells4 H1'.out.box
  obtain ⟨m0, m1, m2, m3⟩ := cells4 H2.out.box
  obtain ⟨W2, hW2⟩ : ∃ W2, W2 = w2.alloc (boxG 0 0 0 (.slice (some ⟨g2, 0, none⟩) 1 1)) := ⟨_, rfl⟩
  obtain ⟨l2, hl2⟩ : ∃ l2, l2 = (w1.alloc (boxG 0 0 0 (.slice (some ⟨g1, 0, none⟩) 1 1))).heap.size := ⟨_, rfl⟩
  go_wp2_with fail
  rw [← hW2] at H2 H1' k0 k1 k2 k3 m0 m1 m2 m3 ⊢
  rw [← hl2] at H2 HZ
  obtain ⟨b1, hb1⟩ : ∃ b1, b1 = w1.heap.size := ⟨_, rfl⟩
  obtain ⟨b2, hb2⟩ : ∃ b2, b2 = w2.heap.size := ⟨_, rfl⟩
  rw [← hb1] at H1' HZ ⊢
  rw [← hb2] at H2 ⊢
  clear hW2 hl2 hb1 hb2 k0 k1 k2 k3 m0 m1 m2 m3
  refine (HE.out _ _ _ H2.out.own.ints H1'.out.own.ints).mono ?_
  rintro e w3 ⟨rfl, hb⟩
  have H13 := hid_of (H1'.out.on hb)
  have H23 := hid_of (H2.out.on hb)
  clear hb H1' H2
  obtain ⟨k00, k01, k02, k03⟩ := cells4 H13.out.box
  obtain ⟨k10, k11, k12, k13⟩ := cells4 H23.out.box
  go_wp2_with fail
  refine (HM.out _ _ _ _ H23.out.own (by have := H23.out.mid; have := lt_of_block H23.out.box; have := H23.out.low; have := H13.out.base.size; have h := H23.out.own.blk (g := g2) (by simp [Go.Proofs.Ytbdljoldblpffaa.blk]); omega)).mono ?_
  rintro e w4 ⟨rfl, ho, ht⟩
  have H14 := hid_of (H13.out.turned ht HZ.out (by have := H13.out.mid; have := HZ.out; omega))
  have H24 : Hid (NewG w l2 b2 b2 g2 (upFrom 1 1) w4) := ⟨ht.below _ _ H23.out.low H23.out.base, ht.block _ _ H23.out.box (by omega), ho, H23.out.low, H23.out.lh, Nat.le_refl _⟩
  clear k00 k01 k02 k03 k10 k11 k12 k13
  clear ho ht H13 H23 HM
  obtain ⟨k00, k01, k02, k03⟩ := cells4 H14.out.box
  obtain ⟨k10, k11, k12, k13⟩ := cells4 H24.out.box
  go_wp2_with fail
  refine (HH.out _ _ H24.out.own.ints).mono ?_
  rintro e w5 ⟨rfl, hb⟩
  have H15 := hid_of (H14.out.on hb)
  have H25 := hid_of (H24.out.on hb)
  clear k00 k01 k02 k03 k10 k11 k12 k13
  clear hb H14 H24
  go_wp2_with fail
  refine (HI.out _).mono ?_
  rintro e w6 ⟨⟨g3, rfl, ho⟩, hb⟩
  have H3 := hid_of (NewG.made H15.out.base ho hb)
  have H16 := hid_of ((H15.out.on hb).on (below_alloc w6 (boxG 0 0 0 (.slice (some ⟨g3, 0, none⟩) 1 1))))
  have H26 := hid_of ((H25.out.on hb).on (below_alloc w6 (boxG 0 0 0 (.slice (some ⟨g3, 0, none⟩) 1 1))))
  clear ho hb H15 H25
  obtain ⟨k00, k01, k02, k03⟩ := cells4 H16.out.box
  obtain ⟨k10, k11, k12, k13⟩ := cells4 H3.out.box
  go_wp2_with fail
  refine (HE.out _ _ _ H3.out.own.ints H16.out.own.ints).mono ?_
  rintro e w7 ⟨rfl, hb⟩
  have H27 := hid_of (H26.out.on hb)
  clear k00 k01 k02 k03 k10 k11 k12 k13
  clear hb H16 H26 H3
  obtain ⟨k00, k01, k02, k03⟩ := cells4 H27.out.box
  go_wp2_with fail
  refine (HH.out _ _ H27.out.own.ints).mono ?_
  rintro e w8 ⟨rfl, hb⟩
  have H28 := hid_of (H27.out.on hb)
  clear hb H27
  go_wp2
  go_ret
  exact ⟨rfl, H28.out.base⟩
namespace GcNew
set_option maxRecDepth 100000 in
theorem lifted (os : Os) (started : os.Started) (H : Type) (enc : TypeId × Value → H) :
    ReturnsInHanded {} Try.checked os 3 .any (Rows.fnExactGcNewSpec.pre6 enc Try.prog Try.f3 Rows.fnExactGcNewRow.domain false) (Rows.fnExactGcNewSpec.post enc Try.prog Try.f3 false true false false) := by
  refine returnsInHanded_of_change (C := Try.checked) own started (by kernel_rfl) Try.func3
    (ChangeSpec.witness6 (enc := enc) (C := Try.checked) false ⟨#[], #[], []⟩ 8 (by kernel_rfl) (by kernel_rfl) (by kernel_rfl) (by kernel_rfl)) ?_
  intro W base args ds gs before hval0 hW hcnd _
  have hval : ∀ (j : Nat) t v, Try.f3.params[j]? = some t → args[j]? = some v → Value.okWide Try.prog W .any base t v := hval0
  have hW' := hW
  obtain ⟨p, q, hA0, hV, rfl, hfz, hnd⟩ := hW
  have hA : DataW.TrodAll enc Try.prog W 0 (fun _ => true) true Try.f3.params.toList args.toList ds p := hA0
  rw [Try.params3] at hA hval
  obtain ⟨ha, rfl, rfl⟩ := trodAll_nil hA
  obtain rfl : args = #[] := by cases args; simp_all
  obtain ⟨rfl, rfl⟩ := trodVars_none hV
  clear hA0 hval0
  refine (walkGcNew  W ).mono fun e W' ⟨he, bel⟩ => ?_
  subst he
  exact ⟨_, rfl, _, _, _, [], _, [], hW', trodAll_mk1 (shut_bool Try.underlying4 _), trodAll_mk0, rfl, bel.frame _, fun h => by cases h⟩

theorem over : Rows.fnExactGcNewRow.holds Try.pinned (OpenSpec.ofChange Rows.fnExactGcNewSpec) :=
  OpenClaim.holds_of_wide 3 Try.f3 rfl rfl rfl rfl rfl rfl rfl ⟨rfl, rfl, rfl, rfl, rfl⟩ rfl rfl rfl rfl rfl (by kernel_rfl) Try.func3 (by kernel_rfl)
    (of_decide_eq_true (by kernel_rfl)) (by unfold Func.isWrapper; first | (rw [if_pos (by decide +kernel)]; kernel_rfl) | (rw [if_neg (by decide +kernel)]; exact ⟨rfl, rfl⟩))
    (fun os started H enc _ => lifted os started H enc)
end GcNew
theorem gcNew_holds : Rows.FnExactGcNewSaid := GcNew.over
#print axioms gcNew_holds
end Go.Proofs.Ytbdljoldblpffaa
