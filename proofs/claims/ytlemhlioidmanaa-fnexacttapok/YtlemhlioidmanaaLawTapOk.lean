/-
  The law of TapOk: at every tap the program answers as the model, with no condition.
-/
import Derived.Test.YtlemhlioidmanaaReadP
namespace Go.Proofs.Ytlemhlioidmanaa
open Go.ChangeShapes Go.WideShapes Go.ChangeAt Go.RowKit
set_option linter.unusedVariables false

theorem walkTapOk (r p q h k t : Int) (w : World) :
    Calls Try.prog 3 #[tapV r p q h k t] w fun e w' => e = .returned (.bool true) ∧ Below w.heap.size w w' := by
  have CT := fun w => toTap_any r p q h k t w
  have CS := fun w => specTapOk_any r p q h k t w
  have CI := fun w => implTapOk_any r p q h k t w
  obtain ⟨o, ho⟩ : ∃ o, o = tapOk r p q h k t := ⟨_, rfl⟩
  rw [← ho] at CS CI
  clear ho
  have hne : (o != o) = false := by simp
  have hb0 : Below w.heap.size w (w.alloc (boxTL r p q h k t)) := below_alloc w _
  have HB0 : Hid (Below w.heap.size w (w.alloc (boxTL r p q h k t))) := hb0
  have HT0 : Hid ((w.alloc (boxTL r p q h k t)).heap[w.heap.size]? = some (boxTL r p q h k t)) := heap_alloc_new w _
  clear hb0
  go_enter Try.func3, Try.ntmps3
  go_wp2_with fail
  refine (CT _).mono ?_
  rintro e w1 ⟨rfl, hb⟩
  have HB1 := hid_of (below_more HB0.out hb)
  have HT1 := hid_of (keep HT0.out hb)
  clear HB0 HT0 hb
  go_wp2_with fail
  refine (CS _).mono ?_
  rintro e w2 ⟨rfl, hb⟩
  have HB2 := hid_of (below_more HB1.out hb)
  have HT2 := hid_of (keep HT1.out hb)
  clear HB1 HT1 hb
  have c0 : w2.cell? ⟨w.heap.size, 0, none⟩ = some (.int .i64 r) := by simp [World.cell?, HT2.out]
  have c1 : w2.cell? ⟨w.heap.size, 1, none⟩ = some (.int .i64 p) := by simp [World.cell?, HT2.out]
  have c2 : w2.cell? ⟨w.heap.size, 2, none⟩ = some (.int .i64 q) := by simp [World.cell?, HT2.out]
  have c3 : w2.cell? ⟨w.heap.size, 3, none⟩ = some (.int .i64 h) := by simp [World.cell?, HT2.out]
  have c4 : w2.cell? ⟨w.heap.size, 4, none⟩ = some (.int .i64 k) := by simp [World.cell?, HT2.out]
  have c5 : w2.cell? ⟨w.heap.size, 5, none⟩ = some (.int .i64 t) := by simp [World.cell?, HT2.out]
  go_wp2_with fail
  refine (CT _).mono ?_
  rintro e w3 ⟨rfl, hb⟩
  have HB3 := hid_of (below_more HB2.out hb)
  clear HB2 hb c0 c1 c2 c3 c4 c5
  go_wp2_with fail
  refine (CI _).mono ?_
  rintro e w4 ⟨rfl, hb⟩
  have HB4 := hid_of (below_more HB3.out hb)
  clear HB3 hb
  go_wp2
  go_ret
  exact ⟨rfl, HB4.out⟩
namespace TapOk
set_option maxRecDepth 100000 in
theorem lifted (os : Os) (started : os.Started) (H : Type) (enc : TypeId × Value → H) :
    ReturnsInHanded {} Try.checked os 3 .any (Rows.fnExactTapOkSpec.pre6 enc Try.prog Try.f3 Rows.fnExactTapOkRow.domain false) (Rows.fnExactTapOkSpec.post enc Try.prog Try.f3 false true false false) := by
  refine returnsInHanded_of_change (C := Try.checked) own started (by kernel_rfl) Try.func3
    (ChangeSpec.witness6 (enc := enc) (C := Try.checked) false ⟨#[], #[.agg #[.int .i64 0, .int .i64 0, .int .i64 0, .int .i64 0, .int .i64 0, .int .i64 0]], []⟩ 8 (by kernel_rfl) (by kernel_rfl) (by kernel_rfl) (by kernel_rfl)) ?_
  intro W base args ds gs before hval0 hW hcnd _
  have hval : ∀ (j : Nat) t v, Try.f3.params[j]? = some t → args[j]? = some v → Value.okWide Try.prog W .any base t v := hval0
  have hW' := hW
  obtain ⟨p, q, hA0, hV, rfl, hfz, hnd⟩ := hW
  have hA : DataW.TrodAll enc Try.prog W 0 (fun _ => true) true Try.f3.params.toList args.toList ds p := hA0
  rw [Try.params3] at hA hval
  obtain ⟨v0, vs0, d0, ds0, p0, q0, hargs, rfl, rfl, h0, r0⟩ := trodAll_cons hA
  obtain ⟨rfl, rfl, rfl⟩ := trodAll_nil r0
  obtain rfl : args = #[v0] := by cases args; simp_all
  obtain ⟨rfl, rfl⟩ := trodVars_none hV
  obtain ⟨r0, u0, q0, w0, y0, x0, rfl⟩ := open_tap (hval 0 23 v0 rfl rfl) h0
  have k0 := h0
  have lt0 : ∀ x ∈ p0, x.block < W.heap.size := by obtain ⟨m, hm⟩ := k0; exact DataW.trod_lt m _ _ _ hm
  clear hA0 hval0
  refine (walkTapOk r0 u0 q0 w0 y0 x0 W ).mono fun e W' ⟨he, bel⟩ => ?_
  subst he
  exact ⟨_, rfl, _, _, _, [], _, [], hW', trodAll_mk1 (shut_bool Try.underlying4 _), (trodAll_cons_mk (Below.trod laidOut (by kernel_rfl) (of_decide_eq_true (by kernel_rfl)) k0 bel lt0) trodAll_mk0), rfl, bel.frame _, fun h => by cases h⟩

theorem over : Rows.fnExactTapOkRow.holds Try.pinned (OpenSpec.ofChange Rows.fnExactTapOkSpec) :=
  OpenClaim.holds_of_wide 3 Try.f3 rfl rfl rfl rfl rfl rfl rfl ⟨rfl, rfl, rfl, rfl, rfl⟩ rfl rfl rfl rfl rfl (by kernel_rfl) Try.func3 (by kernel_rfl)
    (of_decide_eq_true (by kernel_rfl)) (by unfold Func.isWrapper; first | (rw [if_pos (by decide +kernel)]; kernel_rfl) | (rw [if_neg (by decide +kernel)]; exact ⟨rfl, rfl⟩))
    (fun os started H enc _ => lifted os started H enc)
end TapOk
theorem tapOk_holds : Rows.FnExactTapOkSaid := TapOk.over
#print axioms tapOk_holds
end Go.Proofs.Ytlemhlioidmanaa
