/-
  The law of GoodSlot: at every list of things and every three numbers the program answers as the model; it writes into none of them.
-/
import Derived.Test.YtglpfgachcoheabCopy8
import Derived.Test.YtglpfgachcoheabReadO
import Derived.Test.YtglpfgachcoheabGood9
namespace Go.Proofs.Ytglpfgachcoheab
open Go.ChangeShapes Go.WideShapes Go.ChangeAt Go.RowKit
set_option linter.unusedVariables false
set_option maxRecDepth 100000

namespace LGood
set_option maxHeartbeats 4000000 in
theorem small (a : Option Addr) (n cap : Nat) (os : List Ob) (now part h0 : Int) (w : World) (hx : IsArena w (.slice a n cap) os) (hn : n = os.length) (hf : ∀ i, Sound8 (obAt os i)) (h : ((os.length : Int) + arN os) ≤ 1048576) :
    Calls Try.prog 3 #[.slice a n cap, .int .i64 now, .int .i64 part, .int .i64 h0] w fun e w' => e = .returned (.bool true) ∧ Below w.heap.size w w' := by
  have hs := small8 (os := os) (by omega)
  have hl : os.length ≤ 1048576 := by omega
  have C := szObjS_any _ os 1048576 w hx (by omega) (by omega) (by omega) (wide8 hf)
  rw [szA_yes h] at C
  have HT : Hid (∀ w', Below w.heap.size w w' → Calls Try.prog 6 #[.slice a n cap] w' fun e w'' => ∃ g, e = .returned (.slice (some ⟨g, 0, none⟩) n n) ∧ IsArena w'' (.slice (some ⟨g, 0, none⟩) n n) os ∧ Below w'.heap.size w' w'') := fun w' hb =>
    (toObjS_is _ os w' (hx.on hb) hl hs).mono fun e w'' h => by
      obtain ⟨g, h1, ⟨fs, h2, h3⟩, h4⟩ := h
      rw [hn]
      exact ⟨g, h1, own_is h2 h3, h4⟩
  have HO : Hid (∀ v w', IsArena w' v os → Calls Try.prog 5 #[v, .int .i64 now, .int .i64 part, .int .i64 h0] w' fun e w'' => e = .returned (.int .i64 (goodOf os now part h0)) ∧ Below w'.heap.size w' w'') := fun v w' h => specGood_any v os now part h0 w' h hl hs (fun i => (hf i).fits)
  have HI : Hid (∀ v w', IsArena w' v os → Calls Try.prog 7 #[v, .int .i64 now, .int .i64 part, .int .i64 h0] w' fun e w'' => e = .returned (.int .i64 (goodOf os now part h0)) ∧ Below w'.heap.size w' w'') := fun v w' h => implGood_any v os now part h0 w' h hl hs
  have HQ : Hid (∀ v u w', IsArena w' v os → IsArena w' u os → Calls Try.prog 8 #[v, u] w' fun e w'' => e = .returned (.bool true) ∧ Below w'.heap.size w' w'') := fun v u w' h1 h2 => eqObjS_same v u os w' h1 h2 hl hs
  generalize goodOf os now part h0 = r at HO HI
  have hnn : ¬ (1048576 - (os.length : Int) - (arN os : Int) < 0) := by omega
  have hrr : (r != r) = false := by simp
  clear hx hn hf h hs hl
  go_enter Try.func3, Try.ntmps3
  go_wp2_with fail
  refine C.mono ?_
  rintro e w1 ⟨rfl, hb⟩
  have HB1 : Hid (Below w.heap.size w w1) := hb
  clear C hb
  go_wp2_with fail
  refine (HT.out _ HB1.out).mono ?_
  rintro e w2 ⟨g2, rfl, hi, hb⟩
  have HB2 := hid_of (below_more HB1.out hb)
  have HI2 := hid_of hi
  clear HB1 hb hi
  go_wp2_with fail
  refine (HO.out _ _ HI2.out).mono ?_
  rintro e w3 ⟨rfl, hb⟩
  have HB3 := hid_of (below_more HB2.out hb)
  clear HB2 HI2 hb HO
  go_wp2_with fail
  refine (HT.out _ HB3.out).mono ?_
  rintro e w4 ⟨g4, rfl, hi, hb⟩
  have HB4 := hid_of (below_more HB3.out hb)
  have HI4 := hid_of hi
  clear HB3 hb hi
  go_wp2_with fail
  refine (HI.out _ _ HI4.out).mono ?_
  rintro e w5 ⟨rfl, hb⟩
  have HB5 := hid_of (below_more HB4.out hb)
  have HI5 := hid_of (HI4.out.on hb)
  clear HB4 HI4 hb HI
  go_wp2_with fail
  refine (HT.out _ HB5.out).mono ?_
  rintro e w6 ⟨g6, rfl, hi, hb⟩
  have HB6 := hid_of (below_more HB5.out hb)
  have HI6 := hid_of (HI5.out.on hb)
  have HJ6 := hid_of hi
  clear HB5 HI5 hb hi
  go_wp2_with fail
  refine (HQ.out _ _ _ HI6.out HJ6.out).mono ?_
  rintro e w7 ⟨rfl, hb⟩
  have HB7 := hid_of (below_more HB6.out hb)
  clear HB6 hb
  go_wp2
  go_ret
  exact ⟨rfl, HB7.out⟩
set_option maxHeartbeats 1000000 in
theorem big (a : Option Addr) (n cap : Nat) (os : List Ob) (now part h0 : Int) (w : World) (hx : IsArena w (.slice a n cap) os) (hn : n = os.length) (hm : n ≤ maxLen) (hf : ∀ i, Sound8 (obAt os i)) (h : ¬ ((os.length : Int) + arN os) ≤ 1048576) :
    Calls Try.prog 3 #[.slice a n cap, .int .i64 now, .int .i64 part, .int .i64 h0] w fun e w' => e = .returned (.bool true) ∧ Below w.heap.size w w' := by
  unfold maxLen at hm
  have C := szObjS_any _ os 1048576 w hx (by omega) (by omega) (by omega) (wide8 hf)
  rw [szA_no h] at C
  clear hx hn hm hf h
  go_enter Try.func3, Try.ntmps3
  go_wp2_with fail
  refine C.mono ?_
  rintro e w0 ⟨rfl, hb⟩
  clear C
  go_wp2
  go_ret
  exact ⟨rfl, hb⟩
end LGood
theorem walkGoodSlot (a : Option Addr) (n cap : Nat) (os : List Ob) (now part h0 : Int) (w : World) (hx : IsArena w (.slice a n cap) os) (hn : n = os.length) (hm : n ≤ maxLen) (hf : ∀ i, Sound8 (obAt os i)) :
    Calls Try.prog 3 #[.slice a n cap, .int .i64 now, .int .i64 part, .int .i64 h0] w fun e w' => e = .returned (.bool true) ∧ Below w.heap.size w w' := by
  by_cases h : ((os.length : Int) + arN os) ≤ 1048576
  · exact LGood.small a n cap os now part h0 w hx hn hf h
  · exact LGood.big a n cap os now part h0 w hx hn hm hf h
namespace GoodSlot
set_option maxRecDepth 100000 in
theorem lifted (os : Os) (started : os.Started) (H : Type) (enc : TypeId × Value → H) :
    ReturnsInHanded {} Try.checked os 3 .any (Rows.fnExactGoodSlotSpec.pre6 enc Try.prog Try.f3 Rows.fnExactGoodSlotRow.domain false) (Rows.fnExactGoodSlotSpec.post enc Try.prog Try.f3 false true false false) := by
  refine returnsInHanded_of_change (C := Try.checked) own started (by kernel_rfl) Try.func3
    (ChangeSpec.witness6 (enc := enc) (C := Try.checked) false ⟨#[], #[.slice none 0 0, .int .i64 0, .int .i64 0, .int .i64 0], []⟩ 8 (by kernel_rfl) (by kernel_rfl) (by kernel_rfl) (by kernel_rfl)) ?_
  intro W base args ds gs before hval0 hW hcnd _
  have hval : ∀ (j : Nat) t v, Try.f3.params[j]? = some t → args[j]? = some v → Value.okWide Try.prog W .any base t v := hval0
  have hW' := hW
  obtain ⟨p, q, hA0, hV, rfl, hfz, hnd⟩ := hW
  have hA : DataW.TrodAll enc Try.prog W 0 (fun _ => true) true Try.f3.params.toList args.toList ds p := hA0
  rw [Try.params3] at hA hval
  obtain ⟨v0, vs0, d0, ds0, p0, q0, hargs, rfl, rfl, h0, r0⟩ := trodAll_cons hA
  obtain ⟨v1, vs1, d1, ds1, p1, q1, hargs1, rfl, rfl, h1, r1⟩ := trodAll_cons r0
  obtain ⟨v2, vs2, d2, ds2, p2, q2, hargs2, rfl, rfl, h2, r2⟩ := trodAll_cons r1
  obtain ⟨v3, vs3, d3, ds3, p3, q3, hargs3, rfl, rfl, h3, r3⟩ := trodAll_cons r2
  obtain ⟨rfl, rfl, rfl⟩ := trodAll_nil r3
  obtain rfl : args = #[v0, v1, v2, v3] := by cases args; simp_all
  obtain ⟨rfl, rfl⟩ := trodVars_none hV
  obtain ⟨a0, n0, c0, xs0, rfl, i0, e0, m0, g0⟩ := open_arena (hval 0 22 v0 rfl rfl) h0
  have k0 := h0
  have lt0 : ∀ x ∈ p0, x.block < W.heap.size := by obtain ⟨m, hm⟩ := k0; exact DataW.trod_lt m _ _ _ hm
  obtain ⟨z1, rfl, f1⟩ := open_int64 (hval 1 3 v1 rfl rfl) h1
  have k1 := h1
  have lt1 : ∀ x ∈ p1, x.block < W.heap.size := by obtain ⟨m, hm⟩ := k1; exact DataW.trod_lt m _ _ _ hm
  obtain ⟨z2, rfl, f2⟩ := open_int64 (hval 2 3 v2 rfl rfl) h2
  have k2 := h2
  have lt2 : ∀ x ∈ p2, x.block < W.heap.size := by obtain ⟨m, hm⟩ := k2; exact DataW.trod_lt m _ _ _ hm
  obtain ⟨z3, rfl, f3⟩ := open_int64 (hval 3 3 v3 rfl rfl) h3
  have k3 := h3
  have lt3 : ∀ x ∈ p3, x.block < W.heap.size := by obtain ⟨m, hm⟩ := k3; exact DataW.trod_lt m _ _ _ hm
  clear hA0 hval0
  refine (walkGoodSlot a0 n0 c0 xs0 z1 z2 z3 W i0 e0 m0 g0).mono fun e W' ⟨he, bel⟩ => ?_
  subst he
  exact ⟨_, rfl, _, _, _, [], _, [], hW', trodAll_mk1 (shut_bool Try.underlying4 _), (trodAll_cons_mk (Below.trod laidOut (by kernel_rfl) (of_decide_eq_true (by kernel_rfl)) k0 bel lt0) (trodAll_cons_mk (Below.trod laidOut (by kernel_rfl) (of_decide_eq_true (by kernel_rfl)) k1 bel lt1) (trodAll_cons_mk (Below.trod laidOut (by kernel_rfl) (of_decide_eq_true (by kernel_rfl)) k2 bel lt2) (trodAll_cons_mk (Below.trod laidOut (by kernel_rfl) (of_decide_eq_true (by kernel_rfl)) k3 bel lt3) trodAll_mk0)))), rfl, bel.frame _, fun h => by cases h⟩

theorem over : Rows.fnExactGoodSlotRow.holds Try.pinned (OpenSpec.ofChange Rows.fnExactGoodSlotSpec) :=
  OpenClaim.holds_of_wide 3 Try.f3 rfl rfl rfl rfl rfl rfl rfl ⟨rfl, rfl, rfl, rfl, rfl⟩ rfl rfl rfl rfl rfl (by kernel_rfl) Try.func3 (by kernel_rfl)
    (of_decide_eq_true (by kernel_rfl)) (by unfold Func.isWrapper; first | (rw [if_pos (by decide +kernel)]; kernel_rfl) | (rw [if_neg (by decide +kernel)]; exact ⟨rfl, rfl⟩))
    (fun os started H enc _ => lifted os started H enc)
end GoodSlot
theorem goodSlot_holds : Rows.FnExactGoodSlotSaid := GoodSlot.over
#print axioms goodSlot_holds
end Go.Proofs.Ytglpfgachcoheab
