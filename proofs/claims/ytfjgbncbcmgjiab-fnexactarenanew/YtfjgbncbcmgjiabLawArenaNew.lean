/-
  The law of ArenaNew: the program answers as the model, and its answer owns its memory, behind another call too.
-/
import Derived.Test.YtfjgbncbcmgjiabNew8
namespace Go.Proofs.Ytfjgbncbcmgjiab
open Go.ChangeShapes Go.WideShapes Go.ChangeAt Go.RowKit
set_option linter.unusedVariables false

theorem own_arena {os : List Ob} {g n c : Nat} {fs : List El} {rest : List Value} {lo hi : Nat} {w : World} (he : arOf fs = os) (hn : n = os.length) (h : OwnA g c fs rest lo hi w) : IsArena w (.slice (some ⟨g, 0, none⟩) n c) os := by
  have e := h.arena
  have e2 : fs.length = n := by rw [hn, ← he, arOf_length]
  rw [he, e2] at e
  exact e
theorem newA_small : (∀ i, obN (obAt newA i) ≤ 1048576) ∧ newA.length = 10 ∧ arN newA = 2 := by
  have h : arN newA = 2 := by decide
  exact ⟨fun i => Nat.le_trans (obAt_le newA i) (by rw [h]; decide), rfl, h⟩
set_option maxHeartbeats 8000000 in
theorem walkArenaNew (w : World) :
    Calls Try.prog 3 #[] w fun e w' => e = .returned (.bool true) ∧ Below w.heap.size w w' := by
  have CS := specNew_any w
  have HI : Hid (∀ w, Calls Try.prog 8 #[] w fun e w' => ArenaAns newA w e w') := implNew_any
  have HQ : Hid (∀ v u w', IsArena w' v newA → IsArena w' u newA → Calls Try.prog 9 #[v, u] w' fun e w'' => e = .returned (.bool true) ∧ Below w'.heap.size w' w'') := fun v u w' h1 h2 => eqObjS_same v u newA w' h1 h2 (by decide) newA_small.1
  have HM : Hid (∀ g c fs rest lo hi w', arOf fs = newA → OwnA g c fs rest lo hi w' → Calls Try.prog 10 #[.slice (some ⟨g, 0, none⟩) 10 c, .int .i64 1] w' fun e w'' => e = .returned (.int .i64 (1 + stepS newA)) ∧ (∃ fs', arOf fs' = upArena 1 newA ∧ OwnA g c fs' rest lo hi w'') ∧ Turned8 lo hi w' w'') := fun g c fs rest lo hi w' h1 h2 => by
    have hl : fs.length = 10 := by have e := congrArg List.length h1; rw [arOf_length] at e; exact e
    have e := markObjS_own g c 10 fs rest lo hi w' h2 hl.symm (by rw [h1, newA_small.2.2]; decide)
    rw [h1] at e
    exact e
  have HH : Hid (∀ v w', IsArena w' v (upArena 1 newA) → Calls Try.prog 11 #[v, .int .i64 1] w' fun e w'' => e = .returned (.int .i64 (1 + stepS newA)) ∧ w' = w'') := fun v w' h => heldObjS_up v newA w' h (by rw [newA_small.2.2]; decide)
  have hsn := (stepS_bound newA).1
  have hN : newA.length = 10 := rfl
  have hU : (upArena 1 newA).length = 10 := by rw [upArena_length]; rfl
  unfold ArenaAns at CS HI
  rw [hN] at CS HI
  have HU := hid_of hU
  generalize stepS newA = z at HM HH hsn
  have hz : ¬ (1 + z < 0) := by omega
  have hzz : ((1 + z) != (1 + z)) = false := by simp
  clear hN hU
  go_enter Try.func3, Try.ntmps3
  go_wp2_with fail
  refine CS.mono ?_
  rintro e w1 ⟨ga, ca, fa, ra, rfl, hea, hoa, hb⟩
  have HB1 := hid_of hb
  have HA1 := hid_of (show arOf fa = newA ∧ OwnA ga ca fa ra w.heap.size w1.heap.size w1 from ⟨hea, hoa⟩)
  clear CS hb hea hoa
  go_wp2_with fail
  refine (HI.out _).mono ?_
  rintro e w2 ⟨gb, cb, fb, rb, rfl, heb, hob, hb⟩
  have HB2 := hid_of (below_more HB1.out hb)
  have HA2 := hid_of (show arOf fa = newA ∧ OwnA ga ca fa ra w.heap.size w1.heap.size w2 from ⟨HA1.out.1, HA1.out.2.on hb⟩)
  have HG2 := hid_of (show arOf fb = newA ∧ OwnA gb cb fb rb w1.heap.size w2.heap.size w2 from ⟨heb, hob⟩)
  have HZ : Hid (w.heap.size ≤ w1.heap.size) := HB1.out.size
  clear HB1 HA1 hb heb hob
  go_wp2_with fail
  refine (HQ.out _ _ _ (own_arena HG2.out.1 rfl HG2.out.2) (own_arena HA2.out.1 rfl HA2.out.2)).mono ?_
  rintro e w3 ⟨rfl, hb⟩
  have HB3 := hid_of (below_more HB2.out hb)
  have HA3 := hid_of (show arOf fa = newA ∧ OwnA ga ca fa ra w.heap.size w1.heap.size w3 from ⟨HA2.out.1, HA2.out.2.on hb⟩)
  have HG3 := hid_of (show arOf fb = newA ∧ OwnA gb cb fb rb w1.heap.size w2.heap.size w3 from ⟨HG2.out.1, HG2.out.2.on hb⟩)
  clear HB2 HA2 HG2 hb
  go_wp2_with fail
  refine (HM.out _ _ _ _ _ _ _ HG3.out.1 HG3.out.2).mono ?_
  rintro e w4 ⟨rfl, ⟨fc, hec, hoc⟩, ht⟩
  have HB4 : Hid (Below w.heap.size w w4) := ht.below _ _ HZ.out HB3.out
  have HA4 := hid_of (show arOf fa = newA ∧ OwnA ga ca fa ra w.heap.size w1.heap.size w4 from ⟨HA3.out.1, HA3.out.2.turned ht (.inl (Nat.le_refl _))⟩)
  have HG4 := hid_of (show arOf fc = upArena 1 newA ∧ OwnA gb cb fc rb w1.heap.size w2.heap.size w4 from ⟨hec, hoc⟩)
  clear HB3 HA3 HG3 hec hoc ht
  go_wp2_with fail
  refine (HH.out _ _ (own_arena HG4.out.1 HU.out.symm HG4.out.2)).mono ?_
  rintro e w5 ⟨rfl, rfl⟩
  go_wp2_with fail
  refine (HI.out _).mono ?_
  rintro e w6 ⟨gd, cd, fd, rd, rfl, hed, hod, hb⟩
  have HB6 := hid_of (below_more HB4.out hb)
  have HA6 := hid_of (show arOf fa = newA ∧ OwnA ga ca fa ra w.heap.size w1.heap.size w6 from ⟨HA4.out.1, HA4.out.2.on hb⟩)
  have HG6 := hid_of (show arOf fc = upArena 1 newA ∧ OwnA gb cb fc rb w1.heap.size w2.heap.size w6 from ⟨HG4.out.1, HG4.out.2.on hb⟩)
  have HD6 := hid_of (own_arena hed rfl hod)
  clear HB4 HA4 HG4 hb hed hod
  go_wp2_with fail
  refine (HQ.out _ _ _ HD6.out (own_arena HA6.out.1 rfl HA6.out.2)).mono ?_
  rintro e w7 ⟨rfl, hb⟩
  have HB7 := hid_of (below_more HB6.out hb)
  have HG7 := hid_of (own_arena HG6.out.1 HU.out.symm (HG6.out.2.on hb))
  clear HB6 HA6 HG6 HD6 hb
  go_wp2_with fail
  refine (HH.out _ _ HG7.out).mono ?_
  rintro e w8 ⟨rfl, rfl⟩
  go_wp2
  go_ret
  exact ⟨rfl, HB7.out⟩
namespace ArenaNew
set_option maxRecDepth 100000 in
theorem lifted (os : Os) (started : os.Started) (H : Type) (enc : TypeId × Value → H) :
    ReturnsInHanded {} Try.checked os 3 .any (Rows.fnExactArenaNewSpec.pre6 enc Try.prog Try.f3 Rows.fnExactArenaNewRow.domain false) (Rows.fnExactArenaNewSpec.post enc Try.prog Try.f3 false true false false) := by
  refine returnsInHanded_of_change (C := Try.checked) own started (by kernel_rfl) Try.func3
    (ChangeSpec.witness6 (enc := enc) (C := Try.checked) false ⟨#[], #[], []⟩ 8 (by kernel_rfl) (by kernel_rfl) (by kernel_rfl) (by kernel_rfl)) ?_
  intro W base args ds gs before hval0 hW hcnd _
  have hW' := hW
  obtain ⟨p, q, hA0, hV, rfl, hfz, hnd⟩ := hW
  have hA : DataW.TrodAll enc Try.prog W 0 (fun _ => true) true Try.f3.params.toList args.toList ds p := hA0
  rw [Try.params3] at hA
  obtain ⟨ha, rfl, rfl⟩ := trodAll_nil hA
  obtain rfl : args = #[] := by cases args; simp_all
  obtain ⟨rfl, rfl⟩ := trodVars_none hV
  clear hA0 hval0
  refine (walkArenaNew W).mono fun e W' ⟨he, bel⟩ => ?_
  subst he
  exact ⟨_, rfl, _, _, _, [], _, [], hW', trodAll_mk1 (shut_bool Try.underlying4 _), trodAll_mk0, rfl, bel.frame _, fun h => by cases h⟩

theorem over : Rows.fnExactArenaNewRow.holds Try.pinned (OpenSpec.ofChange Rows.fnExactArenaNewSpec) :=
  OpenClaim.holds_of_wide 3 Try.f3 rfl rfl rfl rfl rfl rfl rfl ⟨rfl, rfl, rfl, rfl, rfl⟩ rfl rfl rfl rfl rfl (by kernel_rfl) Try.func3 (by kernel_rfl)
    (of_decide_eq_true (by kernel_rfl)) (by unfold Func.isWrapper; first | (rw [if_pos (by decide +kernel)]; kernel_rfl) | (rw [if_neg (by decide +kernel)]; exact ⟨rfl, rfl⟩))
    (fun os started H enc _ => lifted os started H enc)
end ArenaNew
theorem arenaNew_holds : Rows.FnExactArenaNewSaid := ArenaNew.over
#print axioms arenaNew_holds
end Go.Proofs.Ytfjgbncbcmgjiab
