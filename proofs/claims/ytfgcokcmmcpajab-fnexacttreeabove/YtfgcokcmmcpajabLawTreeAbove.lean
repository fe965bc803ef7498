/-
  The law of TreeAbove: what the program answers is what the model answers, at every argument; it writes into none, and its answer owns its memory.
-/
import Derived.Test.YtfgcokcmmcpajabCallR
import Derived.Test.YtfgcokcmmcpajabAbove
namespace Go.Proofs.Ytfgcokcmmcpajab
open Go.ChangeShapes Go.WideShapes Go.ChangeAt Go.RowKit
set_option linter.unusedVariables false

namespace LTreeAbove
/-- A list of ints that is owned, and where it lies. -/
structure OwnI (v : Value) (xs : List Int) (lo hi : Nat) (w : World) : Prop where
  ints : IsInts w v xs
  mem : xs = [] ∨ ∃ g cap rest, v = .slice (some ⟨g, 0, none⟩) xs.length cap ∧ RowIn w g xs rest ∧ xs.length ≤ cap ∧ lo ≤ g ∧ g < hi
theorem RowIn.ints {w : World} {g cap : Nat} {xs : List Int} {rest : List Value} (h : RowIn w g xs rest) (hc : xs.length ≤ cap) : IsInts w (.slice (some ⟨g, 0, none⟩) xs.length cap) xs :=
  ⟨_, _, rfl, hc, fun i hi => ⟨_, rfl, by rw [add_head]; exact h.cell i hi⟩⟩
theorem ints_nil {w w' : World} {v : Value} (h : IsInts w v []) : IsInts w' v [] := by
  obtain ⟨a, cap, hv, hc, _⟩ := h
  exact ⟨a, cap, hv, hc, fun i hi => absurd hi (by simp)⟩
theorem OwnI.on {v : Value} {xs : List Int} {lo hi : Nat} {w w' : World} (h : OwnI v xs lo hi w) (hb : Below w.heap.size w w') : OwnI v xs lo hi w' := by
  refine ⟨h.ints.on hb, ?_⟩
  rcases h.mem with h0 | ⟨g, cap, rest, hv, hr, hc, h1, h2⟩
  · exact .inl h0
  · exact .inr ⟨g, cap, rest, hv, keep hr hb, hc, h1, h2⟩
theorem OwnI.by' {v : Value} {xs : List Int} {lo hi : Nat} {w w' : World} {row : Option Nat} (h : OwnI v xs lo hi w) (hg : w.grownBy w' row) (hk : ∀ k, row = some k → k < lo ∨ hi ≤ k) : OwnI v xs lo hi w' := by
  rcases h.mem with h0 | ⟨g, cap, rest, hv, hr, hc, h1, h2⟩
  · subst h0; exact ⟨ints_nil h.ints, .inl rfl⟩
  · have hr' : RowIn w' g xs rest := grown_kept hg hr (fun e => by have := hk g e; omega)
    exact ⟨by rw [hv]; exact RowIn.ints hr' hc, .inr ⟨g, cap, rest, hv, hr', hc, h1, h2⟩⟩
theorem ownI_of {w : World} {base : Nat} {v : Value} {xs : List Int} (h : w.ownsRow base 3 1 v xs.length (icells xs)) : OwnI v xs base w.heap.size w := by
  refine ⟨isInts_own h, ?_⟩
  by_cases h0 : xs = []
  · exact .inl h0
  · right
    obtain ⟨g, cap, rest, hv, hb, hc, _, _, hr⟩ := rowIn_own h (by cases xs with | nil => exact absurd rfl h0 | cons x xs => simp)
    exact ⟨g, cap, rest, hv, hr, hc, hb, lt_of_block hr⟩
theorem markI_nil (a : Option Addr) (cap : Nat) (k0 : Int) (w : World) :
    Calls Try.prog 19 #[.slice a 0 cap, .int .i64 k0] w fun e w' => e = .returned (.int .i64 k0) ∧ w = w' := by
  go_enter Try.func19, Try.ntmps19
  go_wp2
  refine wp_loop_rounds 1 ?_
  rw [rounds_succ]
  go_wp2
  go_ret
  exact ⟨rfl, rfl⟩
theorem markI_own (v : Value) (xs : List Int) (lo hi : Nat) (w : World) (h : OwnI v xs lo hi w) (hn : xs.length ≤ 5) :
    Calls Try.prog 19 #[v, .int .i64 1] w fun e w' => e = .returned (.int .i64 (1 + xs.length)) ∧ OwnI v (upFrom 1 xs.length) lo hi w' ∧ ∃ row, w.grownBy w' row ∧ ∀ k, row = some k → lo ≤ k ∧ k < hi := by
  rcases h.mem with h0 | ⟨g, cap, rest, rfl, hr, hc, h1, h2⟩
  · subst h0
    obtain ⟨a, cap, rfl, _, _⟩ := id h.ints
    refine (markI_nil a cap 1 w).mono fun e w' ⟨he, hw⟩ => ?_
    subst hw
    exact ⟨by rw [he]; rfl, ⟨h.ints, .inl rfl⟩, none, World.grownBy.refl _ _, fun k e => by cases e⟩
  · refine (markIntS_row g cap xs rest 1 w hr hc (by omega) (by omega) (by omega)).mono fun e w' ⟨he, hr', hg⟩ => ?_
    have hl := upFrom_length 1 xs.length
    have hi' : IsInts w' (.slice (some ⟨g, 0, none⟩) xs.length cap) (upFrom 1 xs.length) := by
      have := RowIn.ints (cap := cap) hr' (by rw [hl]; exact hc)
      rw [hl] at this
      exact this
    exact ⟨he, ⟨hi', .inr ⟨g, cap, rest, by rw [hl], hr', by rw [hl]; exact hc, h1, h2⟩⟩, some g, hg, fun k e => by cases e; exact ⟨h1, h2⟩⟩
/-- What the law keeps. -/
structure NI (w : World) (vS : Value) (xs : List Int) (h1 : Nat) (wr : World) : Prop where
  s : OwnI vS xs w.heap.size h1 wr
  below : Below w.heap.size w wr
  r : w.heap.size ≤ h1
theorem NI.on {w : World} {vS : Value} {xs : List Int} {h1 : Nat} {wr w' : World} (h : NI w vS xs h1 wr) (hb : Below wr.heap.size wr w') : NI w vS xs h1 w' := ⟨h.s.on hb, below_more h.below hb, h.r⟩
theorem NI.behind {w : World} {vS : Value} {xs : List Int} {h1 : Nat} {wr w' : World} {row : Option Nat} (h : NI w vS xs h1 wr) (hg : wr.grownBy w' row) (hk : ∀ k, row = some k → h1 ≤ k) : NI w vS xs h1 w' :=
  ⟨h.s.by' hg fun k e => .inr (hk k e), h.below.grown hg h.below.size fun k e => Nat.le_trans h.r (hk k e), h.r⟩
set_option maxRecDepth 100000 in
set_option maxHeartbeats 4000000 in
theorem small (a : Option Addr) (n cap : Nat) (ts : List Re) (z0 : Int) (w : World) (hx : IsTree w (.slice a n cap) ts) (hn : n = ts.length) (h : (n : Int) ≤ 1048576) :
    Calls Try.prog 5 #[.slice a n cap, .int .i64 z0] w fun e w' => e = .returned (.bool true) ∧ Below w.heap.size w w' := by
  have C := fun w => szResS_any a n cap 1048576 w (by omega) (by omega) (by omega)
  rw [szOf_yes h] at C
  have hl : ¬ ((1048576 : Int) - n < 0) := by omega
  have ct := fun w' (hb : Below w.heap.size w w') => toResS_any (.slice a n cap) ts w' (hx.on hb) (by omega)
  have cS := fun v w' (hi : IsTree w' v ts) => specAbove_any v ts z0 w' hi (by omega)
  have cI := fun v w' (hi : IsTree w' v ts) => implAbove_any v ts z0 w' hi (by omega)
  have hns := aboveOf_length ts z0
  generalize aboveOf ts z0 = xs at cS cI hns
  have CT : Hid (∀ w', Below w.heap.size w w' → _) := ct
  have CS : Hid (∀ v w', IsTree w' v ts → _) := cS
  have CI : Hid (∀ v w', IsTree w' v ts → _) := cI
  have CE : Hid (∀ v u w', IsTree w' v ts → IsTree w' u ts → _) := fun v u w' (hi : IsTree w' v ts) (hj : IsTree w' u ts) => eqResS_same v u ts w' hi hj (by omega)
  have CQ : Hid (∀ v u w', IsInts w' v xs → IsInts w' u xs → Calls Try.prog 18 #[v, u] w' fun e w'' => e = .returned (.bool true) ∧ Below w'.heap.size w' w'') := fun v u w' (hi : IsInts w' v xs) (hj : IsInts w' u xs) => by
    have := eqIntS_any v u xs xs w' hi hj (by omega)
    rw [sameInts_refl] at this
    exact this
  have HNL : Hid (ts.length ≤ 1048576 ∧ xs.length ≤ 5) := ⟨by omega, hns⟩
  clear ct cS cI hx hn h hns
  go_enter Try.func5, Try.ntmps5
  go_wp2_with fail
  refine (C _).mono ?_
  rintro e w0 ⟨rfl, rfl⟩
  clear C
  go_wp2_with fail
  refine (CT.out _ (Below.refl _ _)).mono ?_
  rintro e w1 ⟨rfl, hr, hb⟩
  have HB1 := hid_of hb
  have HI := hid_of hr.tree
  clear hr hb
  go_wp2_with fail
  refine (CS.out _ _ HI.out).mono ?_
  rintro e w2 ⟨vS, rfl, hS, hb⟩
  have HN2 : Hid (NI w vS xs w2.heap.size w2) := ⟨by have := ownI_of hS; exact ⟨this.ints, by rcases this.mem with h0 | ⟨g, cap, rest, hv, hr, hc, h1, h2⟩; exact .inl h0; exact .inr ⟨g, cap, rest, hv, hr, hc, Nat.le_trans HB1.out.size h1, h2⟩⟩, below_more HB1.out hb, (below_more HB1.out hb).size⟩
  clear hS hb HB1 HI CS
  go_wp2_with fail
  refine (CT.out _ HN2.out.below).mono ?_
  rintro e w3 ⟨rfl, hr, hb⟩
  have HN3 := hid_of (HN2.out.on hb)
  have HX3 : Hid (OwnT w2.heap.size ts.length ts [] w2.heap.size w3.heap.size w3) := hr.own (Nat.le_refl _) (lt_of_block hr)
  clear hr hb HN2
  go_wp2_with fail
  refine (CI.out _ _ HX3.out.tree).mono ?_
  rintro e w4 ⟨vR, rfl, hR, hb⟩
  have HR4 : Hid (OwnI vR xs w3.heap.size w4.heap.size w4) := ownI_of hR
  have HN4 := hid_of (HN3.out.on hb)
  have HX4 := hid_of (HX3.out.on hb)
  clear hR hb HN3 HX3
  go_wp2_with fail
  refine (CQ.out _ _ _ HR4.out.ints HN4.out.s.ints).mono ?_
  rintro e w5 ⟨rfl, hb⟩
  have HR5 := hid_of (HR4.out.on hb)
  have HN5 := hid_of (HN4.out.on hb)
  have HX5 := hid_of (HX4.out.on hb)
  clear hb HR4 HN4 HX4
  go_wp2_with fail
  refine (CT.out _ HN5.out.below).mono ?_
  rintro e w6 ⟨rfl, hr, hb⟩
  have HI6 := hid_of hr.tree
  have HR6 := hid_of (HR5.out.on hb)
  have HN6 := hid_of (HN5.out.on hb)
  have HX6 := hid_of (HX5.out.on hb)
  clear hr hb HR5 HN5 HX5
  go_wp2_with fail
  refine (CE.out _ _ _ HX6.out.tree HI6.out).mono ?_
  rintro e w7 ⟨rfl, hb⟩
  have HR7 := hid_of (HR6.out.on hb)
  have HN7 := hid_of (HN6.out.on hb)
  have HX7 := hid_of (HX6.out.on hb)
  clear hb HR6 HN6 HX6 HI6 CE
  go_wp2_with fail
  refine (markT_own _ _ _ _ _ _ 1 _ HX7.out HNL.out.1 (by omega) (by omega)).mono ?_
  rintro e w8 ⟨rfl, hx8, hg8⟩
  have HR8 := hid_of (HR7.out.by' hg8 fun k e => by cases e; left; exact HX7.out.hi)
  have HN8 := hid_of (HN7.out.behind hg8 fun k e => by cases e; exact Nat.le_refl _)
  have hp1 : ¬ ((1 : Int) + 5 * (ts.length : Int) < 0) := by omega
  have HX87 : Hid (w2.heap.size < w3.heap.size) := HX7.out.hi
  clear hx8 hg8 HR7 HN7 HX7
  go_wp2_with fail
  refine (CQ.out _ _ _ HR8.out.ints HN8.out.s.ints).mono ?_
  rintro e w9 ⟨rfl, hb⟩
  have HR9 := hid_of (HR8.out.on hb)
  have HN9 := hid_of (HN8.out.on hb)
  clear hb HR8 HN8
  go_wp2_with fail
  refine (markI_own _ _ _ _ _ HR9.out HNL.out.2).mono ?_
  rintro e wA ⟨rfl, hxA, row, hgA, hrow⟩
  have HRA := hid_of hxA
  have HNA := hid_of (HN9.out.behind hgA fun k e => by have := (hrow k e).1; have := HX87.out; omega)
  have hp2 : ¬ ((1 : Int) + (xs.length : Int) < 0) := by omega
  have hne9 : (((1 : Int) + (xs.length : Int)) != (1 + (xs.length : Int))) = false := by simp
  have CH : Hid (∀ w', IsInts w' vR (upFrom 1 xs.length) → _) := fun w' h => heldIntS_up vR xs.length 1 w' h (by have := HNL.out.2; omega) (by omega) (by omega)
  clear hxA hgA HR9 HN9 hrow
  go_wp2_with fail
  refine (CH.out _ HRA.out.ints).mono ?_
  rintro e wB ⟨rfl, hwB⟩
  subst hwB
  go_wp2_with fail
  refine (CT.out _ HNA.out.below).mono ?_
  rintro e wC ⟨rfl, hr, hb⟩
  have HRC := hid_of (HRA.out.on hb)
  have HNC := hid_of (HNA.out.on hb)
  have HIC := hid_of hr.tree
  clear hr hb HRA HNA
  go_wp2_with fail
  refine (CI.out _ _ HIC.out).mono ?_
  rintro e wD ⟨vH, rfl, hH, hb⟩
  have HRD := hid_of (HRC.out.on hb)
  have HND := hid_of (HNC.out.on hb)
  have HHD := hid_of (ownI_of hH).ints
  clear hH hb HRC HNC HIC
  go_wp2_with fail
  refine (CQ.out _ _ _ HHD.out HND.out.s.ints).mono ?_
  rintro e wE ⟨rfl, hb⟩
  have HRE := hid_of (HRD.out.on hb)
  have HNE := hid_of (HND.out.on hb)
  clear hb HRD HND HHD
  go_wp2_with fail
  refine (CH.out _ HRE.out.ints).mono ?_
  rintro e wF ⟨rfl, hwF⟩
  subst hwF
  go_wp2
  go_ret
  exact ⟨rfl, HNE.out.below⟩
theorem big (a : Option Addr) (n cap : Nat) (z0 : Int) (w : World) (hm : n ≤ 9223372036854775807) (h : ¬ (n : Int) ≤ 1048576) :
    Calls Try.prog 5 #[.slice a n cap, .int .i64 z0] w fun e w' => e = .returned (.bool true) ∧ Below w.heap.size w w' := by
  have C := fun w => szResS_any a n cap 1048576 w (by omega) (by omega) hm
  rw [szOf_no h] at C
  go_enter Try.func5, Try.ntmps5
  go_wp2_with fail
  refine (C _).mono ?_
  rintro e w0 ⟨rfl, rfl⟩
  clear C
  go_wp2
  go_ret
  exact ⟨rfl, by go_grown⟩
end LTreeAbove
theorem walkTreeAbove (a : Option Addr) (n cap : Nat) (ts : List Re) (z0 : Int) (w : World) (hx : IsTree w (.slice a n cap) ts) (hn : n = ts.length) (hm : n ≤ maxLen) :
    Calls Try.prog 5 #[.slice a n cap, .int .i64 z0] w fun e w' => e = .returned (.bool true) ∧ Below w.heap.size w w' := by
  unfold maxLen at hm
  by_cases h : (n : Int) ≤ 1048576
  · exact LTreeAbove.small a n cap ts z0 w hx hn h
  · exact LTreeAbove.big a n cap z0 w (by omega) h
namespace TreeAbove
set_option maxRecDepth 100000 in
theorem lifted (os : Os) (started : os.Started) (H : Type) (enc : TypeId × Value → H) :
    ReturnsInHanded {} Try.checked os 5 .any (Rows.fnExactTreeAboveSpec.pre6 enc Try.prog Try.f5 Rows.fnExactTreeAboveRow.domain false) (Rows.fnExactTreeAboveSpec.post enc Try.prog Try.f5 false true false false) := by
  refine returnsInHanded_of_change (C := Try.checked) own started (by kernel_rfl) Try.func5
    (ChangeSpec.witness6 (enc := enc) (C := Try.checked) false ⟨#[], #[.slice none 0 0, .int .i64 0], []⟩ 8 (by kernel_rfl) (by kernel_rfl) (by kernel_rfl) (by kernel_rfl)) ?_
  intro W base args ds gs before hval0 hW hcnd _
  have hval : ∀ (j : Nat) t v, Try.f5.params[j]? = some t → args[j]? = some v → Value.okWide Try.prog W .any base t v := hval0
  have hW' := hW
  obtain ⟨p, q, hA0, hV, rfl, hfz, hnd⟩ := hW
  have hA : DataW.TrodAll enc Try.prog W 0 (fun _ => true) true Try.f5.params.toList args.toList ds p := hA0
  rw [Try.params5] at hA hval
  obtain ⟨v0, vs0, d0, ds0, p0, q0, hargs, rfl, rfl, h0, r0⟩ := trodAll_cons hA
  obtain ⟨v1, vs1, d1, ds1, p1, q1, hargs1, rfl, rfl, h1, r1⟩ := trodAll_cons r0
  obtain ⟨rfl, rfl, rfl⟩ := trodAll_nil r1
  obtain rfl : args = #[v0, v1] := by cases args; simp_all
  obtain ⟨rfl, rfl⟩ := trodVars_none hV
  obtain ⟨a0, n0, c0, xs0, rfl, i0, e0, m0⟩ := open_tree (hval 0 22 v0 rfl rfl) h0
  have k0 := h0
  have lt0 : ∀ x ∈ p0, x.block < W.heap.size := by obtain ⟨m, hm⟩ := k0; exact DataW.trod_lt m _ _ _ hm
  obtain ⟨z1, rfl, f1⟩ := open_int64 (hval 1 3 v1 rfl rfl) h1
  have k1 := h1
  have lt1 : ∀ x ∈ p1, x.block < W.heap.size := by obtain ⟨m, hm⟩ := k1; exact DataW.trod_lt m _ _ _ hm
  clear hA0 hval0
  refine (walkTreeAbove a0 n0 c0 xs0 z1 W i0 e0 m0).mono fun e W' ⟨he, bel⟩ => ?_
  subst he
  exact ⟨_, rfl, _, _, _, [], _, [], hW', trodAll_mk1 (shut_bool Try.underlying4 _), (trodAll_cons_mk (Below.trod laidOut (by kernel_rfl) (of_decide_eq_true (by kernel_rfl)) k0 bel lt0) (trodAll_cons_mk (Below.trod laidOut (by kernel_rfl) (of_decide_eq_true (by kernel_rfl)) k1 bel lt1) trodAll_mk0)), rfl, bel.frame _, fun h => by cases h⟩

theorem over : Rows.fnExactTreeAboveRow.holds Try.pinned (OpenSpec.ofChange Rows.fnExactTreeAboveSpec) :=
  OpenClaim.holds_of_wide 5 Try.f5 rfl rfl rfl rfl rfl rfl rfl ⟨rfl, rfl, rfl, rfl, rfl⟩ rfl rfl rfl rfl rfl (by kernel_rfl) Try.func5 (by kernel_rfl)
    (of_decide_eq_true (by kernel_rfl)) (by unfold Func.isWrapper; first | (rw [if_pos (by decide +kernel)]; kernel_rfl) | (rw [if_neg (by decide +kernel)]; exact ⟨rfl, rfl⟩))
    (fun os started H enc _ => lifted os started H enc)
end TreeAbove
theorem treeAbove_holds : Rows.FnExactTreeAboveSaid := TreeAbove.over
#print axioms treeAbove_holds
end Go.Proofs.Ytfgcokcmmcpajab
