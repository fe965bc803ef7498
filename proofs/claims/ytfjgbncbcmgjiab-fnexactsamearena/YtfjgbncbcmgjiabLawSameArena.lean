/-
  The law of SameArena: at every two lists of things the program answers as the model; it writes into neither of them.
-/
import Derived.Test.YtfjgbncbcmgjiabCopy8
import Derived.Test.YtfjgbncbcmgjiabSameA
namespace Go.Proofs.Ytfjgbncbcmgjiab
open Go.ChangeShapes Go.WideShapes Go.ChangeAt Go.RowKit
set_option linter.unusedVariables false

namespace LSame
set_option maxHeartbeats 8000000 in
theorem small (a : Option Addr) (n cap : Nat) (os : List Ob) (b : Option Addr) (nb capb : Nat) (ts : List Ob) (w : World) (hx : IsArena w (.slice a n cap) os) (hn : n = os.length) (hf : ∀ i, Sound8 (obAt os i)) (hy : IsArena w (.slice b nb capb) ts) (hnb : nb = ts.length) (hfb : ∀ i, Sound8 (obAt ts i)) (h : ((os.length : Int) + arN os) ≤ 1048576) (hb2 : ((ts.length : Int) + arN ts) ≤ 1048576 - os.length - arN os) :
    Calls Try.prog 6 #[.slice a n cap, .slice b nb capb] w fun e w' => e = .returned (.bool true) ∧ Below w.heap.size w w' := by
  have hs := small8 (os := os) (by omega)
  have hl : os.length ≤ 1048576 := by omega
  have hsb := small8 (os := ts) (by omega)
  have hlb : ts.length ≤ 1048576 := by omega
  have C := szObjS_any _ os 1048576 w hx (by omega) (by omega) (by omega) (wide8 hf)
  rw [szA_yes h] at C
  have C2 : Hid (∀ w', Below w.heap.size w w' → Calls Try.prog 12 #[.slice b nb capb, .int .i64 (1048576 - os.length - arN os)] w' fun e w'' => e = .returned (.int .i64 (1048576 - os.length - arN os - ts.length - arN ts)) ∧ Below w'.heap.size w' w'') := fun w' hb => by
    have e := szObjS_any _ ts (1048576 - os.length - arN os) w' (hy.on hb) (by omega) (by omega) (by omega) (wide8 hfb)
    rw [szA_yes hb2] at e
    exact e
  have HT : Hid (∀ w', Below w.heap.size w w' → Calls Try.prog 15 #[.slice a n cap] w' fun e w'' => ∃ g, e = .returned (.slice (some ⟨g, 0, none⟩) n n) ∧ IsArena w'' (.slice (some ⟨g, 0, none⟩) n n) os ∧ Below w'.heap.size w' w'') := fun w' hb =>
    (toObjS_is _ os w' (hx.on hb) hl hs).mono fun e w'' h => by
      obtain ⟨g, h1, ⟨fs, h2, h3⟩, h4⟩ := h
      rw [hn]
      exact ⟨g, h1, own_is h2 h3, h4⟩
  have HU : Hid (∀ w', Below w.heap.size w w' → Calls Try.prog 15 #[.slice b nb capb] w' fun e w'' => ∃ g, e = .returned (.slice (some ⟨g, 0, none⟩) nb nb) ∧ IsArena w'' (.slice (some ⟨g, 0, none⟩) nb nb) ts ∧ Below w'.heap.size w' w'') := fun w' hb =>
    (toObjS_is _ ts w' (hy.on hb) hlb hsb).mono fun e w'' h => by
      obtain ⟨g, h1, ⟨fs, h2, h3⟩, h4⟩ := h
      rw [hnb]
      exact ⟨g, h1, own_is h2 h3, h4⟩
  have HO : Hid (∀ v u w', IsArena w' v os → IsArena w' u ts → Calls Try.prog 22 #[v, u] w' fun e w'' => e = .returned (.bool (sameA os ts)) ∧ Below w'.heap.size w' w'') := fun v u w' h1 h2 => specSameA_any v u os ts w' h1 h2 hl hs
  have HI : Hid (∀ v u w', IsArena w' v os → IsArena w' u ts → Calls Try.prog 23 #[v, u] w' fun e w'' => e = .returned (.bool (sameA os ts)) ∧ Below w'.heap.size w' w'') := fun v u w' h1 h2 => implSameA_any v u os ts w' h1 h2 hl hs
  have HQ : Hid (∀ v u w', IsArena w' v os → IsArena w' u os → Calls Try.prog 9 #[v, u] w' fun e w'' => e = .returned (.bool true) ∧ Below w'.heap.size w' w'') := fun v u w' h1 h2 => eqObjS_same v u os w' h1 h2 hl hs
  have HP : Hid (∀ v u w', IsArena w' v ts → IsArena w' u ts → Calls Try.prog 9 #[v, u] w' fun e w'' => e = .returned (.bool true) ∧ Below w'.heap.size w' w'') := fun v u w' h1 h2 => eqObjS_same v u ts w' h1 h2 hlb hsb
  generalize sameA os ts = r at HO HI
  have hnn : ¬ (1048576 - (os.length : Int) - (arN os : Int) < 0) := by omega
  have hnn2 : ¬ (1048576 - (os.length : Int) - (arN os : Int) - (ts.length : Int) - (arN ts : Int) < 0) := by omega
  have hrr : (r != r) = false := by simp
  generalize (1048576 - (os.length : Int) - (arN os : Int) - (ts.length : Int) - (arN ts : Int)) = z2 at C2 hnn2
  generalize (1048576 - (os.length : Int) - (arN os : Int)) = z1 at C C2 hnn
  clear hx hn hf h hs hl hy hnb hfb hb2 hsb hlb
  go_enter Try.func6, Try.ntmps6
  go_wp2_with fail
  refine C.mono ?_
  rintro e w0 ⟨rfl, hb⟩
  have HB0 : Hid (Below w.heap.size w w0) := hb
  clear C hb
  go_wp2_with fail
  refine (C2.out _ HB0.out).mono ?_
  rintro e w1 ⟨rfl, hb⟩
  have HB1 := hid_of (below_more HB0.out hb)
  clear C2 hb HB0
  go_wp2_with fail
  refine (HT.out _ HB1.out).mono ?_
  rintro e w2 ⟨g2, rfl, hi, hb⟩
  have HB2 := hid_of (below_more HB1.out hb)
  have HI2 := hid_of hi
  clear HB1 hb hi
  go_wp2_with fail
  refine (HU.out _ HB2.out).mono ?_
  rintro e w3 ⟨g3, rfl, hi, hb⟩
  have HB3 := hid_of (below_more HB2.out hb)
  have HI3 := hid_of (HI2.out.on hb)
  have HJ3 := hid_of hi
  clear HB2 HI2 hb hi
  go_wp2_with fail
  refine (HO.out _ _ _ HI3.out HJ3.out).mono ?_
  rintro e w4 ⟨rfl, hb⟩
  have HB4 := hid_of (below_more HB3.out hb)
  clear HB3 HI3 HJ3 hb HO
  go_wp2_with fail
  refine (HT.out _ HB4.out).mono ?_
  rintro e w5 ⟨g5, rfl, hi, hb⟩
  have HB5 := hid_of (below_more HB4.out hb)
  have HI5 := hid_of hi
  clear HB4 hb hi
  go_wp2_with fail
  refine (HU.out _ HB5.out).mono ?_
  rintro e w6 ⟨g6, rfl, hi, hb⟩
  have HB6 := hid_of (below_more HB5.out hb)
  have HI6 := hid_of (HI5.out.on hb)
  have HJ6 := hid_of hi
  clear HB5 HI5 hb hi
  go_wp2_with fail
  refine (HI.out _ _ _ HI6.out HJ6.out).mono ?_
  rintro e w7 ⟨rfl, hb⟩
  have HB7 := hid_of (below_more HB6.out hb)
  have HI7 := hid_of (HI6.out.on hb)
  have HJ7 := hid_of (HJ6.out.on hb)
  clear HB6 HI6 HJ6 hb HI
  go_wp2_with fail
  refine (HT.out _ HB7.out).mono ?_
  rintro e w8 ⟨g8, rfl, hi, hb⟩
  have HB8 := hid_of (below_more HB7.out hb)
  have HI8 := hid_of (HI7.out.on hb)
  have HJ8 := hid_of (HJ7.out.on hb)
  have HK8 := hid_of hi
  clear HB7 HI7 HJ7 hb hi
  go_wp2_with fail
  refine (HQ.out _ _ _ HI8.out HK8.out).mono ?_
  rintro e w9 ⟨rfl, hb⟩
  have HB9 := hid_of (below_more HB8.out hb)
  have HJ9 := hid_of (HJ8.out.on hb)
  clear HB8 HI8 HJ8 HK8 hb
  go_wp2_with fail
  refine (HU.out _ HB9.out).mono ?_
  rintro e w10 ⟨g10, rfl, hi, hb⟩
  have HB10 := hid_of (below_more HB9.out hb)
  have HJ10 := hid_of (HJ9.out.on hb)
  have HK10 := hid_of hi
  clear HB9 HJ9 hb hi
  go_wp2_with fail
  refine (HP.out _ _ _ HJ10.out HK10.out).mono ?_
  rintro e w11 ⟨rfl, hb⟩
  have HB11 := hid_of (below_more HB10.out hb)
  clear HB10 hb
  go_wp2
  go_ret
  exact ⟨rfl, HB11.out⟩
set_option maxHeartbeats 1000000 in
theorem big1 (a : Option Addr) (n cap : Nat) (os : List Ob) (v : Value) (w : World) (hx : IsArena w (.slice a n cap) os) (hl : os.length ≤ maxLen) (hf : ∀ i, Sound8 (obAt os i)) (h : ¬ ((os.length : Int) + arN os) ≤ 1048576) :
    Calls Try.prog 6 #[.slice a n cap, v] w fun e w' => e = .returned (.bool true) ∧ Below w.heap.size w w' := by
  unfold maxLen at hl
  have C := szObjS_any _ os 1048576 w hx (by omega) (by omega) (by omega) (wide8 hf)
  rw [szA_no h] at C
  clear hx hl hf h
  go_enter Try.func6, Try.ntmps6
  go_wp2_with fail
  refine C.mono ?_
  rintro e w0 ⟨rfl, hb⟩
  clear C
  go_wp2
  go_ret
  exact ⟨rfl, hb⟩
set_option maxHeartbeats 1000000 in
theorem big2 (a : Option Addr) (n cap : Nat) (os : List Ob) (b : Option Addr) (nb capb : Nat) (ts : List Ob) (w : World) (hx : IsArena w (.slice a n cap) os) (hf : ∀ i, Sound8 (obAt os i)) (hy : IsArena w (.slice b nb capb) ts) (hl : ts.length ≤ maxLen) (hfb : ∀ i, Sound8 (obAt ts i)) (h : ((os.length : Int) + arN os) ≤ 1048576) (hb2 : ¬ ((ts.length : Int) + arN ts) ≤ 1048576 - os.length - arN os) :
    Calls Try.prog 6 #[.slice a n cap, .slice b nb capb] w fun e w' => e = .returned (.bool true) ∧ Below w.heap.size w w' := by
  unfold maxLen at hl
  have C := szObjS_any _ os 1048576 w hx (by omega) (by omega) (by omega) (wide8 hf)
  rw [szA_yes h] at C
  have C2 : Hid (∀ w', Below w.heap.size w w' → Calls Try.prog 12 #[.slice b nb capb, .int .i64 (1048576 - os.length - arN os)] w' fun e w'' => e = .returned (.int .i64 (-1)) ∧ Below w'.heap.size w' w'') := fun w' hb => by
    have e := szObjS_any _ ts (1048576 - os.length - arN os) w' (hy.on hb) (by omega) (by omega) (by omega) (wide8 hfb)
    rw [szA_no hb2] at e
    exact e
  have hnn : ¬ (1048576 - (os.length : Int) - (arN os : Int) < 0) := by omega
  generalize (1048576 - (os.length : Int) - (arN os : Int)) = z1 at C C2 hnn
  clear hx hy hl hf hfb h hb2
  go_enter Try.func6, Try.ntmps6
  go_wp2_with fail
  refine C.mono ?_
  rintro e w0 ⟨rfl, hb⟩
  have HB0 : Hid (Below w.heap.size w w0) := hb
  clear C hb
  go_wp2_with fail
  refine (C2.out _ HB0.out).mono ?_
  rintro e w1 ⟨rfl, hb⟩
  have HB1 := hid_of (below_more HB0.out hb)
  clear C2 hb HB0
  go_wp2
  go_ret
  exact ⟨rfl, HB1.out⟩
end LSame
theorem walkSameArena (a : Option Addr) (n cap : Nat) (os : List Ob) (b : Option Addr) (nb capb : Nat) (ts : List Ob) (w : World) (hx : IsArena w (.slice a n cap) os) (hn : n = os.length) (hm : n ≤ maxLen) (hf : ∀ i, Sound8 (obAt os i)) (hy : IsArena w (.slice b nb capb) ts) (hnb : nb = ts.length) (hmb : nb ≤ maxLen) (hfb : ∀ i, Sound8 (obAt ts i)) :
    Calls Try.prog 6 #[.slice a n cap, .slice b nb capb] w fun e w' => e = .returned (.bool true) ∧ Below w.heap.size w w' := by
  by_cases h : ((os.length : Int) + arN os) ≤ 1048576
  · by_cases hb2 : ((ts.length : Int) + arN ts) ≤ 1048576 - os.length - arN os
    · exact LSame.small a n cap os b nb capb ts w hx hn hf hy hnb hfb h hb2
    · exact LSame.big2 a n cap os b nb capb ts w hx hf hy (by omega) hfb h hb2
  · exact LSame.big1 a n cap os _ w hx (by omega) hf h
namespace SameArena
set_option maxRecDepth 100000 in
theorem lifted (os : Os) (started : os.Started) (H : Type) (enc : TypeId × Value → H) :
    ReturnsInHanded {} Try.checked os 6 .any (Rows.fnExactSameArenaSpec.pre6 enc Try.prog Try.f6 Rows.fnExactSameArenaRow.domain false) (Rows.fnExactSameArenaSpec.post enc Try.prog Try.f6 false true false false) := by
  refine returnsInHanded_of_change (C := Try.checked) own started (by kernel_rfl) Try.func6
    (ChangeSpec.witness6 (enc := enc) (C := Try.checked) false ⟨#[], #[.slice none 0 0, .slice none 0 0], []⟩ 8 (by kernel_rfl) (by kernel_rfl) (by kernel_rfl) (by kernel_rfl)) ?_
  intro W base args ds gs before hval0 hW hcnd _
  have hval : ∀ (j : Nat) t v, Try.f6.params[j]? = some t → args[j]? = some v → Value.okWide Try.prog W .any base t v := hval0
  have hW' := hW
  obtain ⟨p, q, hA0, hV, rfl, hfz, hnd⟩ := hW
  have hA : DataW.TrodAll enc Try.prog W 0 (fun _ => true) true Try.f6.params.toList args.toList ds p := hA0
  rw [Try.params6] at hA hval
  obtain ⟨v0, vs0, d0, ds0, p0, q0, hargs, rfl, rfl, h0, r0⟩ := trodAll_cons hA
  obtain ⟨v1, vs1, d1, ds1, p1, q1, hargs1, rfl, rfl, h1, r1⟩ := trodAll_cons r0
  obtain ⟨rfl, rfl, rfl⟩ := trodAll_nil r1
  obtain rfl : args = #[v0, v1] := by cases args; simp_all
  obtain ⟨rfl, rfl⟩ := trodVars_none hV
  obtain ⟨a0, n0, c0, xs0, rfl, i0, e0, m0, g0⟩ := open_arena (hval 0 27 v0 rfl rfl) h0
  have k0 := h0
  have lt0 : ∀ x ∈ p0, x.block < W.heap.size := by obtain ⟨m, hm⟩ := k0; exact DataW.trod_lt m _ _ _ hm
  obtain ⟨a1, n1, c1, xs1, rfl, i1, e1, m1, g1⟩ := open_arena (hval 1 27 v1 rfl rfl) h1
  have k1 := h1
  have lt1 : ∀ x ∈ p1, x.block < W.heap.size := by obtain ⟨m, hm⟩ := k1; exact DataW.trod_lt m _ _ _ hm
  clear hA0 hval0
  refine (walkSameArena a0 n0 c0 xs0 a1 n1 c1 xs1 W i0 e0 m0 g0 i1 e1 m1 g1).mono fun e W' ⟨he, bel⟩ => ?_
  subst he
  exact ⟨_, rfl, _, _, _, [], _, [], hW', trodAll_mk1 (shut_bool Try.underlying4 _), (trodAll_cons_mk (Below.trod laidOut (by kernel_rfl) (of_decide_eq_true (by kernel_rfl)) k0 bel lt0) (trodAll_cons_mk (Below.trod laidOut (by kernel_rfl) (of_decide_eq_true (by kernel_rfl)) k1 bel lt1) trodAll_mk0)), rfl, bel.frame _, fun h => by cases h⟩

theorem over : Rows.fnExactSameArenaRow.holds Try.pinned (OpenSpec.ofChange Rows.fnExactSameArenaSpec) :=
  OpenClaim.holds_of_wide 6 Try.f6 rfl rfl rfl rfl rfl rfl rfl ⟨rfl, rfl, rfl, rfl, rfl⟩ rfl rfl rfl rfl rfl (by kernel_rfl) Try.func6 (by kernel_rfl)
    (of_decide_eq_true (by kernel_rfl)) (by unfold Func.isWrapper; first | (rw [if_pos (by decide +kernel)]; kernel_rfl) | (rw [if_neg (by decide +kernel)]; exact ⟨rfl, rfl⟩))
    (fun os started H enc _ => lifted os started H enc)
end SameArena
theorem sameArena_holds : Rows.FnExactSameArenaSaid := SameArena.over
#print axioms sameArena_holds
end Go.Proofs.Ytfjgbncbcmgjiab
