/-
  The law of TreeNew: what the program answers is what the model answers, at every amount; its answer owns its memory.
-/
import Derived.Test.YtfgcokcmmcpajaaCallR
namespace Go.Proofs.Ytfgcokcmmcpajaa
open Go.ChangeShapes Go.WideShapes Go.ChangeAt Go.RowKit
set_option linter.unusedVariables false

namespace LTreeNew
theorem markT_nil (k0 : Int) (w : World) :
    Calls Try.prog 14 #[.slice none 0 0, .int .i64 k0] w fun e w' => e = .returned (.int .i64 k0) ∧ w = w' := by
  go_enter Try.func14, Try.ntmps14
  go_wp2
  refine wp_loop_rounds 1 ?_
  rw [rounds_succ]
  go_wp2
  go_ret
  exact ⟨rfl, rfl⟩
theorem isTree_nil (w : World) : IsTree w (.slice none 0 0) [] := ⟨none, 0, rfl, Nat.le_refl _, fun i hi => absurd hi (by simp)⟩
set_option maxRecDepth 100000 in
set_option maxHeartbeats 4000000 in
theorem no (x y u : Int) (w : World) (hok : amtOk x y u = false) :
    Calls Try.prog 4 #[amt x y u] w fun e w' => e = .returned (.bool true) ∧ Below w.heap.size w w' := by
  have cS := fun w => specNew_any x y u w
  have cI := fun w => implNew_no x y u w hok
  have e1 : newT x y u = [] := by simp [newT, hok]
  rw [e1, hok] at cS
  have CA := fun w => toAmt_any x y u w
  have CS : Hid (∀ w, _) := cS
  have CI : Hid (∀ w, _) := cI
  have CQ : Hid (∀ v u w', IsTree w' v [] → IsTree w' u [] → _) := fun v u w' (hi : IsTree w' v []) (hj : IsTree w' u []) => eqResS_same v u [] w' hi hj (by simp)
  have CM : Hid (∀ w, _) := fun w => markT_nil 1 w
  have CH : Hid (∀ w' : World, _) := fun w' => heldT_up (.slice none 0 0) 0 1 w' (isTree_nil w') (by omega) (by omega) (by omega)
  have HB0 : Hid (Below w.heap.size w (w.alloc (boxL x y u))) := below_alloc w _
  have HL0 : Hid (Box3 (w.alloc (boxL x y u)) w.heap.size 30 x y u) := ⟨heap_alloc_new w _⟩
  clear cS cI e1 hok
  go_enter Try.func4, Try.ntmps4
  go_wp2_with fail
  refine (CA _).mono ?_
  rintro e w1 ⟨rfl, hb⟩
  have HB1 := hid_of (below_more HB0.out hb)
  have HL1 := hid_of (box_on HL0.out hb)
  clear hb HB0 HL0
  go_wp2_with fail
  refine (CS.out _).mono ?_
  rintro e w2 ⟨gS, cS, rS, rfl, hS, hb⟩
  have HB2 := hid_of (below_more HB1.out hb)
  have HL2 := hid_of (box_on HL1.out hb)
  have HS2 := hid_of hS
  clear hb HB1 HL1 hS CS
  have k0 := HL2.out.c0
  have k1 := HL2.out.c1
  have k2 := HL2.out.c2
  go_wp2_with fail
  refine (CA _).mono ?_
  rintro e w3 ⟨rfl, hb⟩
  have HB3 := hid_of (below_more HB2.out hb)
  have HL3 := hid_of (box_on HL2.out hb)
  have HS3 := hid_of (HS2.out.on hb)
  clear hb HB2 HL2 HS2 k0 k1 k2
  go_wp2_with fail
  refine (CI.out _).mono ?_
  rintro e w4 ⟨rfl, hb⟩
  have HB4 := hid_of (below_more HB3.out hb)
  have HL4 := hid_of (box_on HL3.out hb)
  have HS4 := hid_of (HS3.out.on hb)
  clear hb HB3 HL3 HS3
  go_wp2_with fail
  refine (CQ.out _ _ _ (isTree_nil _) HS4.out.tree).mono ?_
  rintro e w5 ⟨rfl, hb⟩
  have HB5 := hid_of (below_more HB4.out hb)
  have HL5 := hid_of (box_on HL4.out hb)
  have HS5 := hid_of (HS4.out.on hb)
  clear hb HB4 HL4 HS4
  go_wp2_with fail
  refine (CM.out _).mono ?_
  rintro e w6 ⟨rfl, hw6⟩
  subst hw6
  go_wp2_with fail
  refine (CH.out _).mono ?_
  rintro e w7 ⟨rfl, hw7⟩
  subst hw7
  have k0 := HL5.out.c0
  have k1 := HL5.out.c1
  have k2 := HL5.out.c2
  go_wp2_with fail
  refine (CA _).mono ?_
  rintro e w8 ⟨rfl, hb⟩
  have HB8 := hid_of (below_more HB5.out hb)
  have HS8 := hid_of (HS5.out.on hb)
  clear hb HB5 HL5 HS5 k0 k1 k2
  go_wp2_with fail
  refine (CI.out _).mono ?_
  rintro e w9 ⟨rfl, hb⟩
  have HB9 := hid_of (below_more HB8.out hb)
  have HS9 := hid_of (HS8.out.on hb)
  clear hb HB8 HS8
  go_wp2_with fail
  refine (CQ.out _ _ _ (isTree_nil _) HS9.out.tree).mono ?_
  rintro e wA ⟨rfl, hb⟩
  have HBA := hid_of (below_more HB9.out hb)
  clear hb HB9 HS9
  go_wp2_with fail
  refine (CH.out _).mono ?_
  rintro e wB ⟨rfl, hwB⟩
  subst hwB
  go_wp2
  go_ret
  exact ⟨rfl, HBA.out⟩
set_option maxRecDepth 100000 in
set_option maxHeartbeats 4000000 in
theorem yes (x y u : Int) (w : World) (hok : amtOk x y u = true) :
    Calls Try.prog 4 #[amt x y u] w fun e w' => e = .returned (.bool true) ∧ Below w.heap.size w w' := by
  have cS := fun w => specNew_any x y u w
  have cI := fun w => implNew_yes x y u w hok
  have e1 : newT x y u = [⟨true, -1, x, y, u⟩, noRe, noRe, noRe, noRe] := by simp [newT, hok]
  rw [e1, hok] at cS
  have e2 : (5 : Nat) = ([⟨true, -1, x, y, u⟩, noRe, noRe, noRe, noRe] : List Re).length := rfl
  obtain ⟨ns, hns⟩ : ∃ ns : List Re, ns = [⟨true, -1, x, y, u⟩, noRe, noRe, noRe, noRe] := ⟨_, rfl⟩
  have cI' := fun w => (cI w).mono fun e w'' h => h.form e2
  rw [← hns] at cS cI'
  have hnl : ns.length ≤ 1048576 := by rw [hns]; simp
  have CA := fun w => toAmt_any x y u w
  have CS : Hid (∀ w, _) := cS
  have CI : Hid (∀ w, _) := cI'
  have CQ : Hid (∀ v u w', IsTree w' v ns → IsTree w' u ns → _) := fun v u w' (hi : IsTree w' v ns) (hj : IsTree w' u ns) => eqResS_same v u ns w' hi hj hnl
  have HNL := hid_of hnl
  have HB0 : Hid (Below w.heap.size w (w.alloc (boxL x y u))) := below_alloc w _
  have HL0 : Hid (Box3 (w.alloc (boxL x y u)) w.heap.size 30 x y u) := ⟨heap_alloc_new w _⟩
  have HLO : Hid (w.heap.size < (w.alloc (boxL x y u)).heap.size) := by show _ < _; simp
  clear cS cI cI' e1 e2 hok hns hnl
  go_enter Try.func4, Try.ntmps4
  go_wp2_with fail
  obtain ⟨V0, hV0⟩ : ∃ v, v = w.alloc (boxL x y u) := ⟨_, rfl⟩
  rw [← hV0] at HB0 HL0 HLO ⊢
  clear hV0
  refine (CA _).mono ?_
  rintro e w1 ⟨rfl, hb⟩
  have HB1 := hid_of (below_more HB0.out hb)
  have HL1 := hid_of (box_on HL0.out hb)
  have HSZ : Hid (V0.heap.size ≤ w1.heap.size) := hb.size
  clear hb HL0
  go_wp2_with fail
  refine (CS.out _).mono ?_
  rintro e w2 ⟨gS, cS, rS, rfl, hS, hb⟩
  have HN2 : Hid (NN true w V0.heap.size gS cS ns rS w2.heap.size x y u w2) := ⟨hS.lower HSZ.out, fun _ => box_on HL1.out hb, below_more HB1.out hb, HB0.out.size, fun _ => HLO.out⟩
  clear hb HB1 HL1 hS CS HB0
  have k0 := (HN2.out.l rfl).c0
  have k1 := (HN2.out.l rfl).c1
  have k2 := (HN2.out.l rfl).c2
  go_wp2_with fail
  refine (CA _).mono ?_
  rintro e w3 ⟨rfl, hb⟩
  have HN3 := hid_of (HN2.out.on hb)
  have HS3 : Hid (w2.heap.size ≤ w3.heap.size) := hb.size
  clear hb HN2 k0 k1 k2
  go_wp2_with fail
  refine (CI.out _).mono ?_
  rintro e w4 ⟨gR, cR, rR, rfl, hR, hb⟩
  have HN4 := hid_of (HN3.out.on hb)
  have HR4 : Hid (OwnT gR cR ns rR w2.heap.size w4.heap.size w4) := hR.lower HS3.out
  clear hb HN3 hR
  go_wp2_with fail
  refine (CQ.out _ _ _ HR4.out.tree HN4.out.s.tree).mono ?_
  rintro e w5 ⟨rfl, hb⟩
  have HN5 := hid_of (HN4.out.on hb)
  have HR5 := hid_of (HR4.out.on hb)
  clear hb HN4 HR4
  go_wp2_with fail
  refine (markT_own _ _ _ _ _ _ 1 _ HR5.out HNL.out (by omega) (by omega)).mono ?_
  rintro e wA ⟨rfl, hxA, hgA⟩
  have HRA : Hid (OwnT gR cR (upTree 1 ns.length) rR w2.heap.size w4.heap.size wA) := hxA
  have HNA := hid_of (HN5.out.behind hgA HR5.out.lo)
  have hp2 : ¬ ((1 : Int) + 5 * (ns.length : Int) < 0) := by omega
  have hne9 : (((1 : Int) + 5 * (ns.length : Int)) != (1 + 5 * (ns.length : Int))) = false := by simp
  have CH : Hid (∀ w', IsTree w' (.slice (some ⟨gR, 0, none⟩) ns.length cR) (upTree 1 ns.length) → _) := fun w' h => heldT_up (.slice (some ⟨gR, 0, none⟩) ns.length cR) ns.length 1 w' h HNL.out (by omega) (by omega)
  clear hxA hgA HR5 HN5
  go_wp2_with fail
  refine (CH.out _ (heldOwn HRA.out)).mono ?_
  rintro e wB ⟨rfl, hwB⟩
  subst hwB
  have k0 := (HNA.out.l rfl).c0
  have k1 := (HNA.out.l rfl).c1
  have k2 := (HNA.out.l rfl).c2
  go_wp2_with fail
  refine (CA _).mono ?_
  rintro e wC ⟨rfl, hb⟩
  have HNC := hid_of (HNA.out.on hb)
  have HRC := hid_of (HRA.out.on hb)
  clear hb HNA HRA k0 k1 k2
  go_wp2_with fail
  refine (CI.out _).mono ?_
  rintro e wD ⟨gH, cH, rH, rfl, hH, hb⟩
  have HND := hid_of (HNC.out.on hb)
  have HRD := hid_of (HRC.out.on hb)
  have HHD := hid_of hH.tree
  clear hb HNC HRC hH
  go_wp2_with fail
  refine (CQ.out _ _ _ HHD.out HND.out.s.tree).mono ?_
  rintro e wE ⟨rfl, hb⟩
  have HRE := hid_of (HRD.out.on hb)
  have HNE := hid_of (HND.out.on hb)
  clear hb HRD HND HHD
  go_wp2_with fail
  refine (CH.out _ (heldOwn HRE.out)).mono ?_
  rintro e wF ⟨rfl, hwF⟩
  subst hwF
  go_wp2
  go_ret
  exact ⟨rfl, HNE.out.below⟩
end LTreeNew
theorem walkTreeNew (x y u : Int) (w : World) :
    Calls Try.prog 4 #[amt x y u] w fun e w' => e = .returned (.bool true) ∧ Below w.heap.size w w' := by
  cases hok : amtOk x y u with
  | false => exact LTreeNew.no x y u w hok
  | true => exact LTreeNew.yes x y u w hok
namespace TreeNew
set_option maxRecDepth 100000 in
theorem lifted (os : Os) (started : os.Started) (H : Type) (enc : TypeId × Value → H) :
    ReturnsInHanded {} Try.checked os 4 .any (Rows.fnExactTreeNewSpec.pre6 enc Try.prog Try.f4 Rows.fnExactTreeNewRow.domain false) (Rows.fnExactTreeNewSpec.post enc Try.prog Try.f4 false true false false) := by
  refine returnsInHanded_of_change (C := Try.checked) own started (by kernel_rfl) Try.func4
    (ChangeSpec.witness6 (enc := enc) (C := Try.checked) false ⟨#[], #[.agg #[.int .i64 0, .int .i64 0, .int .i64 0]], []⟩ 8 (by kernel_rfl) (by kernel_rfl) (by kernel_rfl) (by kernel_rfl)) ?_
  intro W base args ds gs before hval0 hW hcnd _
  have hval : ∀ (j : Nat) t v, Try.f4.params[j]? = some t → args[j]? = some v → Value.okWide Try.prog W .any base t v := hval0
  have hW' := hW
  obtain ⟨p, q, hA0, hV, rfl, hfz, hnd⟩ := hW
  have hA : DataW.TrodAll enc Try.prog W 0 (fun _ => true) true Try.f4.params.toList args.toList ds p := hA0
  rw [Try.params4] at hA hval
  obtain ⟨v0, vs0, d0, ds0, p0, q0, hargs, rfl, rfl, h0, r0⟩ := trodAll_cons hA
  obtain ⟨rfl, rfl, rfl⟩ := trodAll_nil r0
  obtain rfl : args = #[v0] := by cases args; simp_all
  obtain ⟨rfl, rfl⟩ := trodVars_none hV
  obtain ⟨a0, b0, c0, rfl⟩ := open_amt (hval 0 30 v0 rfl rfl) h0
  have k0 := h0
  have lt0 : ∀ x ∈ p0, x.block < W.heap.size := by obtain ⟨m, hm⟩ := k0; exact DataW.trod_lt m _ _ _ hm
  clear hA0 hval0
  refine (walkTreeNew a0 b0 c0 W ).mono fun e W' ⟨he, bel⟩ => ?_
  subst he
  exact ⟨_, rfl, _, _, _, [], _, [], hW', trodAll_mk1 (shut_bool Try.underlying4 _), (trodAll_cons_mk (Below.trod laidOut (by kernel_rfl) (of_decide_eq_true (by kernel_rfl)) k0 bel lt0) trodAll_mk0), rfl, bel.frame _, fun h => by cases h⟩

theorem over : Rows.fnExactTreeNewRow.holds Try.pinned (OpenSpec.ofChange Rows.fnExactTreeNewSpec) :=
  OpenClaim.holds_of_wide 4 Try.f4 rfl rfl rfl rfl rfl rfl rfl ⟨rfl, rfl, rfl, rfl, rfl⟩ rfl rfl rfl rfl rfl (by kernel_rfl) Try.func4 (by kernel_rfl)
    (of_decide_eq_true (by kernel_rfl)) (by unfold Func.isWrapper; first | (rw [if_pos (by decide +kernel)]; kernel_rfl) | (rw [if_neg (by decide +kernel)]; exact ⟨rfl, rfl⟩))
    (fun os started H enc _ => lifted os started H enc)
end TreeNew
theorem treeNew_holds : Rows.FnExactTreeNewSaid := TreeNew.over
#print axioms treeNew_holds
end Go.Proofs.Ytfgcokcmmcpajaa
