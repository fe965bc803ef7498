/-
  The law of TreeDrop: what the program answers is what the model answers, at every argument; it writes into none, and its answer owns its memory.
-/
import Derived.Test.YtfgcokcmmcpajabCallR
import Derived.Test.YtfgcokcmmcpajabIDrop
namespace Go.Proofs.Ytfgcokcmmcpajab
open Go.ChangeShapes Go.WideShapes Go.ChangeAt Go.RowKit
set_option linter.unusedVariables false

namespace LTreeDrop
set_option maxRecDepth 100000 in
set_option maxHeartbeats 4000000 in
theorem small (a : Option Addr) (n cap : Nat) (ts : List Re) (z0 : Int) (w : World) (hx : IsTree w (.slice a n cap) ts) (hn : n = ts.length) (h : (n : Int) ≤ 1048576) :
    Calls Try.prog 4 #[.slice a n cap, .int .i64 z0] w fun e w' => e = .returned (.bool true) ∧ Below w.heap.size w w' := by
  have C := fun w => szResS_any a n cap 1048576 w (by omega) (by omega) (by omega)
  rw [szOf_yes h] at C
  have hl : ¬ ((1048576 : Int) - n < 0) := by omega
  have ct := fun w' (hb : Below w.heap.size w w') => toResS_any (.slice a n cap) ts w' (hx.on hb) (by omega)
  have cS := fun p cap w' (hi : IsTree w' (.slice (some p) ts.length cap) ts) => (specDrop_any p cap ts z0 w' hi (by omega)).mono fun e w'' h => h.form (by rw [dropOf_length])
  have cI := fun p cap w' (hi : IsTree w' (.slice (some p) ts.length cap) ts) => (implDrop_any p cap ts z0 w' hi (by omega)).mono fun e w'' h => h.form (by rw [dropOf_length])
  have hns : (dropOf ts z0).length ≤ 1048576 := by rw [dropOf_length]; omega
  generalize dropOf ts z0 = ns at cS cI hns
  generalize dropOk ts z0 = o at cS cI
  have ce := fun v u w' (hi : IsTree w' v ts) (hj : IsTree w' u ts) => eqResS_same v u ts w' hi hj (by omega)
  have cn := fun v u w' (hi : IsTree w' v ns) (hj : IsTree w' u ns) => eqResS_same v u ns w' hi hj hns
  have CT : Hid (∀ w', Below w.heap.size w w' → _) := ct
  have CS : Hid (∀ p cap w', IsTree w' (.slice (some p) ts.length cap) ts → _) := cS
  have CI : Hid (∀ p cap w', IsTree w' (.slice (some p) ts.length cap) ts → _) := cI
  have CE : Hid (∀ v u w', IsTree w' v ts → IsTree w' u ts → _) := ce
  have CQ : Hid (∀ v u w', IsTree w' v ns → IsTree w' u ns → _) := cn
  have HNL : Hid (ts.length ≤ 1048576 ∧ ns.length ≤ 1048576) := ⟨by omega, hns⟩
  have hb1 : (o != o) = false := by simp
  clear ct cS cI ce cn hx hn h hns
  go_enter Try.func4, Try.ntmps4
  go_wp2_with fail
  refine (C _).mono ?_
  rintro e w0 ⟨rfl, rfl⟩
  clear C
  go_wp2_with fail
  refine (CT.out _ (Below.refl _ _)).mono ?_
  rintro e w1 ⟨rfl, hr, hb1'⟩
  have HB1 : Hid (Below w.heap.size w w1) := hb1'
  have HI : Hid (IsTree w1 (.slice (some ⟨w.heap.size, 0, none⟩) ts.length ts.length) ts) := hr.tree
  clear hr hb1'
  go_wp2_with fail
  refine (CS.out _ _ _ HI.out).mono ?_
  rintro e w2 ⟨gS, cS, rS, rfl, hS, hb2'⟩
  have HN2 : Hid (NN false w w.heap.size gS cS ns rS w2.heap.size 0 0 0 w2) := ⟨hS.lower HB1.out.size, fun e => by (cases e), below_more HB1.out hb2', Nat.le_refl _, fun e => by (cases e)⟩
  clear hS hb2' HB1 HI CS
  go_wp2_with fail
  refine (CT.out _ HN2.out.below).mono ?_
  rintro e w3 ⟨rfl, hr, hb⟩
  have HN3 := hid_of (HN2.out.on hb)
  have HX3 : Hid (OwnT w2.heap.size ts.length ts [] w2.heap.size w3.heap.size w3) := hr.own (Nat.le_refl _) (lt_of_block hr)
  clear hr hb HN2
  go_wp2_with fail
  refine (CI.out _ _ _ HX3.out.tree).mono ?_
  rintro e w4 ⟨gR, cR, rR, rfl, hR, hb⟩
  have HR4 : Hid (OwnT gR cR ns rR w3.heap.size w4.heap.size w4) := hR
  have HN4 := hid_of (HN3.out.on hb)
  have HX4 := hid_of (HX3.out.on hb)
  clear hR hb HN3 HX3
  go_wp2_with fail
  refine (CQ.out _ _ _ HR4.out.tree HN4.out.s.tree).mono ?_
  rintro e w5 ⟨rfl, hb⟩
  have HR5 := hid_of (HR4.out.on hb)
  have HN5 := hid_of (HN4.out.on hb)
  have HX5 := hid_of (HX4.out.on hb)
  clear hb HR4 HN4 HX4
  go_wp2_with fail
  refine (CT.out _ HN5.out.below).mono ?_
  rintro e w6 ⟨rfl, hr, hb⟩
  have HI6 := hid_of hr.tree
  clear hr
  have HR6 := hid_of (HR5.out.on hb)
  have HN6 := hid_of (HN5.out.on hb)
  have HX6 := hid_of (HX5.out.on hb)
  clear hb HR5 HN5 HX5
  go_wp2_with fail
  refine (CE.out _ _ _ HX6.out.tree HI6.out).mono ?_
  rintro e w7 ⟨rfl, hb⟩
  have HR7 := hid_of (HR6.out.on hb)
  have HN7 := hid_of (HN6.out.on hb)
  have HX7 := hid_of (HX6.out.on hb)
  clear hb HR6 HN6 HX6
  clear HI6 CE
  go_wp2_with fail
  refine (markT_own _ _ _ _ _ _ 1 _ HX7.out HNL.out.1 (by omega) (by omega)).mono ?_
  rintro e w8 ⟨rfl, hx8, hg8⟩
  have HR8 : Hid (OwnT gR cR ns rR w3.heap.size w4.heap.size w8) := HR7.out.by' hg8 fun k e => by cases e; left; exact HX7.out.hi
  have HN8 := hid_of (HN7.out.behind hg8 (Nat.le_refl _))
  have hp1 : ¬ ((1 : Int) + 5 * (ts.length : Int) < 0) := by omega
  have HX87 : Hid (w2.heap.size < w3.heap.size) := HX7.out.hi
  clear hx8 hg8 HR7 HN7 HX7
  go_wp2_with fail
  refine (CQ.out _ _ _ HR8.out.tree HN8.out.s.tree).mono ?_
  rintro e w9 ⟨rfl, hb⟩
  have HR9 := hid_of (HR8.out.on hb)
  have HN9 := hid_of (HN8.out.on hb)
  clear hb HR8 HN8
  go_wp2_with fail
  refine (markT_own _ _ _ _ _ _ 1 _ HR9.out HNL.out.2 (by omega) (by omega)).mono ?_
  rintro e wA ⟨rfl, hxA, hgA⟩
  have HRA : Hid (OwnT gR cR (upTree 1 ns.length) rR w3.heap.size w4.heap.size wA) := hxA
  have HNA := hid_of (HN9.out.behind hgA (by have := HR9.out.lo; have := HX87.out; omega))
  have hp2 : ¬ ((1 : Int) + 5 * (ns.length : Int) < 0) := by omega
  have hne9 : (((1 : Int) + 5 * (ns.length : Int)) != (1 + 5 * (ns.length : Int))) = false := by simp
  have CH : Hid (∀ w', IsTree w' (.slice (some ⟨gR, 0, none⟩) ns.length cR) (upTree 1 ns.length) → _) := fun w' h => heldT_up (.slice (some ⟨gR, 0, none⟩) ns.length cR) ns.length 1 w' h HNL.out.2 (by omega) (by omega)
  clear hxA hgA HR9 HN9
  go_wp2_with fail
  refine (CH.out _ (heldOwn HRA.out)).mono ?_
  rintro e wB ⟨rfl, hwB⟩
  subst hwB
  go_wp2_with fail
  refine (CT.out _ HNA.out.below).mono ?_
  rintro e wC ⟨rfl, hr, hb⟩
  have HRC := hid_of (HRA.out.on hb)
  have HNC := hid_of (HNA.out.on hb)
  have HIC := hid_of hr.tree
  clear hr hb HRA HNA
  go_wp2_with fail
  refine (CI.out _ _ _ HIC.out).mono ?_
  rintro e wD ⟨gH, cH, rH, rfl, hH, hb⟩
  have HRD := hid_of (HRC.out.on hb)
  have HND := hid_of (HNC.out.on hb)
  have HHD := hid_of hH.tree
  clear hH hb HRC HNC HIC
  go_wp2_with fail
  refine (CQ.out _ _ _ HHD.out HND.out.s.tree).mono ?_
  rintro e wE ⟨rfl, hb⟩
  have HRE := hid_of (HRD.out.on hb)
  have HNE := hid_of (HND.out.on hb)
  clear hb HRD HND HHD
  go_wp2_with fail
  refine (CH.out _ (heldOwn HRE.out)).mono ?_
  rintro e wF ⟨rfl, hwF⟩
  subst hwF
  go_wp2
  go_ret
  exact ⟨rfl, HNE.out.below⟩
theorem big (a : Option Addr) (n cap : Nat) (z0 : Int) (w : World) (hm : n ≤ 9223372036854775807) (h : ¬ (n : Int) ≤ 1048576) :
    Calls Try.prog 4 #[.slice a n cap, .int .i64 z0] w fun e w' => e = .returned (.bool true) ∧ Below w.heap.size w w' := by
  have C := fun w => szResS_any a n cap 1048576 w (by omega) (by omega) hm
  rw [szOf_no h] at C
  go_enter Try.func4, Try.ntmps4
  go_wp2_with fail
  refine (C _).mono ?_
  rintro e w0 ⟨rfl, rfl⟩
  clear C
  go_wp2
  go_ret
  exact ⟨rfl, by go_grown⟩
end LTreeDrop
theorem walkTreeDrop (a : Option Addr) (n cap : Nat) (ts : List Re) (z0 : Int) (w : World) (hx : IsTree w (.slice a n cap) ts) (hn : n = ts.length) (hm : n ≤ maxLen) :
    Calls Try.prog 4 #[.slice a n cap, .int .i64 z0] w fun e w' => e = .returned (.bool true) ∧ Below w.heap.size w w' := by
  unfold maxLen at hm
  by_cases h : (n : Int) ≤ 1048576
  · exact LTreeDrop.small a n cap ts z0 w hx hn h
  · exact LTreeDrop.big a n cap z0 w (by omega) h
namespace TreeDrop
set_option maxRecDepth 100000 in
theorem lifted (os : Os) (started : os.Started) (H : Type) (enc : TypeId × Value → H) :
    ReturnsInHanded {} Try.checked os 4 .any (Rows.fnExactTreeDropSpec.pre6 enc Try.prog Try.f4 Rows.fnExactTreeDropRow.domain false) (Rows.fnExactTreeDropSpec.post enc Try.prog Try.f4 false true false false) := by
  refine returnsInHanded_of_change (C := Try.checked) own started (by kernel_rfl) Try.func4
    (ChangeSpec.witness6 (enc := enc) (C := Try.checked) false ⟨#[], #[.slice none 0 0, .int .i64 0], []⟩ 8 (by kernel_rfl) (by kernel_rfl) (by kernel_rfl) (by kernel_rfl)) ?_
  intro W base args ds gs before hval0 hW hcnd _
  have hval : ∀ (j : Nat) t v, Try.f4.params[j]? = some t → args[j]? = some v → Value.okWide Try.prog W .any base t v := hval0
  have hW' := hW
  obtain ⟨p, q, hA0, hV, rfl, hfz, hnd⟩ := hW
  have hA : DataW.TrodAll enc Try.prog W 0 (fun _ => true) true Try.f4.params.toList args.toList ds p := hA0
  rw [Try.params4] at hA hval
  obtain ⟨v0, vs0, d0, ds0, p0, q0, hargs, rfl, rfl, h0, r0⟩ := trodAll_cons hA
  obtain ⟨v1, vs1, d1, ds1, p1, q1, hargs1, rfl, rfl, h1, r1⟩ := trodAll_cons r0
  obtain ⟨rfl, rfl, rfl⟩ := trodAll_nil r1
  obtain rfl : args = #[v0, v1] := by cases args; simp_all
  obtain ⟨rfl, rfl⟩ := trodVars_none hV
  obtain ⟨a0, n0, c0, xs0, rfl, i0, e0, m0⟩ := open_tree (hval 0 22 v0 rfl rfl) h0
  have k0 := h0
  have lt0 : ∀ x ∈ p0, x.block < W.heap.size := by obtain ⟨m, hm⟩ := k0; exact DataW.trod_lt m _ _ _ hm
  obtain ⟨z1, rfl, f1⟩ := open_int64 (hval 1 3 v1 rfl rfl) h1
  have k1 := h1
  have lt1 : ∀ x ∈ p1, x.block < W.heap.size := by obtain ⟨m, hm⟩ := k1; exact DataW.trod_lt m _ _ _ hm
  clear hA0 hval0
  refine (walkTreeDrop a0 n0 c0 xs0 z1 W i0 e0 m0).mono fun e W' ⟨he, bel⟩ => ?_
  subst he
  exact ⟨_, rfl, _, _, _, [], _, [], hW', trodAll_mk1 (shut_bool Try.underlying4 _), (trodAll_cons_mk (Below.trod laidOut (by kernel_rfl) (of_decide_eq_true (by kernel_rfl)) k0 bel lt0) (trodAll_cons_mk (Below.trod laidOut (by kernel_rfl) (of_decide_eq_true (by kernel_rfl)) k1 bel lt1) trodAll_mk0)), rfl, bel.frame _, fun h => by cases h⟩

theorem over : Rows.fnExactTreeDropRow.holds Try.pinned (OpenSpec.ofChange Rows.fnExactTreeDropSpec) :=
  OpenClaim.holds_of_wide 4 Try.f4 rfl rfl rfl rfl rfl rfl rfl ⟨rfl, rfl, rfl, rfl, rfl⟩ rfl rfl rfl rfl rfl (by kernel_rfl) Try.func4 (by kernel_rfl)
    (of_decide_eq_true (by kernel_rfl)) (by unfold Func.isWrapper; first | (rw [if_pos (by decide +kernel)]; kernel_rfl) | (rw [if_neg (by decide +kernel)]; exact ⟨rfl, rfl⟩))
    (fun os started H enc _ => lifted os started H enc)
end TreeDrop
theorem treeDrop_holds : Rows.FnExactTreeDropSaid := TreeDrop.over
#print axioms treeDrop_holds
end Go.Proofs.Ytfgcokcmmcpajab
