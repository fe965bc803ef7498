/-
  The law of ArenaOk: at every list of things the program answers as the model; it writes into none of them.
-/
import Derived.Test.YtfjgbncbcmgjiaaCopy8
import Derived.Test.YtfjgbncbcmgjiaaArOkS
namespace Go.Proofs.Ytfjgbncbcmgjiaa
open Go.ChangeShapes Go.WideShapes Go.ChangeAt Go.RowKit
set_option linter.unusedVariables false

namespace LArOk
set_option maxHeartbeats 4000000 in
theorem small (a : Option Addr) (n cap : Nat) (os : List Ob) (w : World) (hx : IsArena w (.slice a n cap) os) (hn : n = os.length) (hf : ∀ i, Sound8 (obAt os i)) (h : ((os.length : Int) + arN os) ≤ 1048576) :
    Calls Try.prog 8 #[.slice a n cap] w fun e w' => e = .returned (.bool true) ∧ Below w.heap.size w w' := by
  have hs := small8 (os := os) (by omega)
  have hl : os.length ≤ 1048576 := by omega
  have C := szObjS_any _ os 1048576 w hx (by omega) (by omega) (by omega) (wide8 hf)
  rw [szA_yes h] at C
  have HT : Hid (∀ w', Below w.heap.size w w' → Calls Try.prog 24 #[.slice a n cap] w' fun e w'' => ∃ g, e = .returned (.slice (some ⟨g, 0, none⟩) n n) ∧ IsArena w'' (.slice (some ⟨g, 0, none⟩) n n) os ∧ Below w'.heap.size w' w'') := fun w' hb =>
    (toObjS_is _ os w' (hx.on hb) hl hs).mono fun e w'' h => by
      obtain ⟨g, h1, ⟨fs, h2, h3⟩, h4⟩ := h
      rw [hn]
      exact ⟨g, h1, own_is h2 h3, h4⟩
  have HO : Hid (∀ v w', IsArena w' v os → Calls Try.prog 23 #[v] w' fun e w'' => e = .returned (.bool (arenaOk os)) ∧ Below w'.heap.size w' w'') := fun v w' h => specArenaOk_any v os w' h hl hs (fun i => (hf i).fits)
  have HI : Hid (∀ v w', IsArena w' v os → Calls Try.prog 25 #[v] w' fun e w'' => e = .returned (.bool (arenaOk os)) ∧ Below w'.heap.size w' w'') := fun v w' h => implArenaOk_any v os w' h hl hs
  have HQ : Hid (∀ v u w', IsArena w' v os → IsArena w' u os → Calls Try.prog 26 #[v, u] w' fun e w'' => e = .returned (.bool true) ∧ Below w'.heap.size w' w'') := fun v u w' h1 h2 => eqObjS_same v u os w' h1 h2 hl hs
  generalize arenaOk os = r at HO HI
  have hnn : ¬ (1048576 - (os.length : Int) - (arN os : Int) < 0) := by omega
  have hrr : (r != r) = false := by simp
  clear hx hn hf h hs hl
  go_enter Try.func8, Try.ntmps8
  go_wp2_with fail
  refine C.mono ?_
  rintro e w1 ⟨rfl, hb⟩
  have HB1 : Hid (Below w.heap.size w w1) := hb
  clear C hb
  go_wp2_with fail
  refine (HT.out _ HB1.out).mono ?_
  rintro e w2 ⟨g2, rfl, hi, hb⟩
  have HB2 := hid_of (below_more HB1.out hb)
  have HI2 := hid_of hi
  clear HB1 hb hi
  go_wp2_with fail
  refine (HO.out _ _ HI2.out).mono ?_
  rintro e w3 ⟨rfl, hb⟩
  have HB3 := hid_of (below_more HB2.out hb)
  clear HB2 HI2 hb HO
  go_wp2_with fail
  refine (HT.out _ HB3.out).mono ?_
  rintro e w4 ⟨g4, rfl, hi, hb⟩
  have HB4 := hid_of (below_more HB3.out hb)
  have HI4 := hid_of hi
  clear HB3 hb hi
  go_wp2_with fail
  refine (HI.out _ _ HI4.out).mono ?_
  rintro e w5 ⟨rfl, hb⟩
  have HB5 := hid_of (below_more HB4.out hb)
  have HI5 := hid_of (HI4.out.on hb)
  clear HB4 HI4 hb HI
  go_wp2_with fail
  refine (HT.out _ HB5.out).mono ?_
  rintro e w6 ⟨g6, rfl, hi, hb⟩
  have HB6 := hid_of (below_more HB5.out hb)
  have HI6 := hid_of (HI5.out.on hb)
  have HJ6 := hid_of hi
  clear HB5 HI5 hb hi
  go_wp2_with fail
  refine (HQ.out _ _ _ HI6.out HJ6.out).mono ?_
  rintro e w7 ⟨rfl, hb⟩
  have HB7 := hid_of (below_more HB6.out hb)
  clear HB6 hb
  go_wp2
  go_ret
  exact ⟨rfl, HB7.out⟩
set_option maxHeartbeats 1000000 in
theorem big (a : Option Addr) (n cap : Nat) (os : List Ob) (w : World) (hx : IsArena w (.slice a n cap) os) (hn : n = os.length) (hm : n ≤ maxLen) (hf : ∀ i, Sound8 (obAt os i)) (h : ¬ ((os.length : Int) + arN os) ≤ 1048576) :
    Calls Try.prog 8 #[.slice a n cap] w fun e w' => e = .returned (.bool true) ∧ Below w.heap.size w w' := by
  unfold maxLen at hm
  have C := szObjS_any _ os 1048576 w hx (by omega) (by omega) (by omega) (wide8 hf)
  rw [szA_no h] at C
  clear hx hn hm hf h
  go_enter Try.func8, Try.ntmps8
  go_wp2_with fail
  refine C.mono ?_
  rintro e w0 ⟨rfl, hb⟩
  clear C
  go_wp2
  go_ret
  exact ⟨rfl, hb⟩
end LArOk
theorem walkArenaOk (a : Option Addr) (n cap : Nat) (os : List Ob) (w : World) (hx : IsArena w (.slice a n cap) os) (hn : n = os.length) (hm : n ≤ maxLen) (hf : ∀ i, Sound8 (obAt os i)) :
    Calls Try.prog 8 #[.slice a n cap] w fun e w' => e = .returned (.bool true) ∧ Below w.heap.size w w' := by
  by_cases h : ((os.length : Int) + arN os) ≤ 1048576
  · exact LArOk.small a n cap os w hx hn hf h
  · exact LArOk.big a n cap os w hx hn hm hf h
namespace ArenaOk
set_option maxRecDepth 100000 in
theorem lifted (os : Os) (started : os.Started) (H : Type) (enc : TypeId × Value → H) :
    ReturnsInHanded {} Try.checked os 8 .any (Rows.fnExactArenaOkSpec.pre6 enc Try.prog Try.f8 Rows.fnExactArenaOkRow.domain false) (Rows.fnExactArenaOkSpec.post enc Try.prog Try.f8 false true false false) := by
  refine returnsInHanded_of_change (C := Try.checked) own started (by kernel_rfl) Try.func8
    (ChangeSpec.witness6 (enc := enc) (C := Try.checked) false ⟨#[], #[.slice none 0 0], []⟩ 8 (by kernel_rfl) (by kernel_rfl) (by kernel_rfl) (by kernel_rfl)) ?_
  intro W base args ds gs before hval0 hW hcnd _
  have hval : ∀ (j : Nat) t v, Try.f8.params[j]? = some t → args[j]? = some v → Value.okWide Try.prog W .any base t v := hval0
  have hW' := hW
  obtain ⟨p, q, hA0, hV, rfl, hfz, hnd⟩ := hW
  have hA : DataW.TrodAll enc Try.prog W 0 (fun _ => true) true Try.f8.params.toList args.toList ds p := hA0
  rw [Try.params8] at hA hval
  obtain ⟨v0, vs0, d0, ds0, p0, q0, hargs, rfl, rfl, h0, r0⟩ := trodAll_cons hA
  obtain ⟨rfl, rfl, rfl⟩ := trodAll_nil r0
  obtain rfl : args = #[v0] := by cases args; simp_all
  obtain ⟨rfl, rfl⟩ := trodVars_none hV
  obtain ⟨a0, n0, c0, xs0, rfl, i0, e0, m0, g0⟩ := open_arena (hval 0 38 v0 rfl rfl) h0
  have k0 := h0
  have lt0 : ∀ x ∈ p0, x.block < W.heap.size := by obtain ⟨m, hm⟩ := k0; exact DataW.trod_lt m _ _ _ hm
  clear hA0 hval0
  refine (walkArenaOk a0 n0 c0 xs0 W i0 e0 m0 g0).mono fun e W' ⟨he, bel⟩ => ?_
  subst he
  exact ⟨_, rfl, _, _, _, [], _, [], hW', trodAll_mk1 (shut_bool Try.underlying4 _), (trodAll_cons_mk (Below.trod laidOut (by kernel_rfl) (of_decide_eq_true (by kernel_rfl)) k0 bel lt0) trodAll_mk0), rfl, bel.frame _, fun h => by cases h⟩

theorem over : Rows.fnExactArenaOkRow.holds Try.pinned (OpenSpec.ofChange Rows.fnExactArenaOkSpec) :=
  OpenClaim.holds_of_wide 8 Try.f8 rfl rfl rfl rfl rfl rfl rfl ⟨rfl, rfl, rfl, rfl, rfl⟩ rfl rfl rfl rfl rfl (by kernel_rfl) Try.func8 (by kernel_rfl)
    (of_decide_eq_true (by kernel_rfl)) (by unfold Func.isWrapper; first | (rw [if_pos (by decide +kernel)]; kernel_rfl) | (rw [if_neg (by decide +kernel)]; exact ⟨rfl, rfl⟩))
    (fun os started H enc _ => lifted os started H enc)
end ArenaOk
theorem arenaOk_holds : Rows.FnExactArenaOkSaid := ArenaOk.over
#print axioms arenaOk_holds
end Go.Proofs.Ytfjgbncbcmgjiaa
