/-
  The law of Garbage: the program answers as the model; it writes into nothing that it was given, and its answer owns its memory.
-/
import Derived.Test.YtglpfgachcoheaaFin9
import Derived.Test.YtglpfgachcoheaaReadO
namespace Go.Proofs.Ytglpfgachcoheaa
open Go.ChangeShapes Go.WideShapes Go.ChangeAt Go.RowKit
set_option linter.unusedVariables false
set_option maxRecDepth 100000

namespace LGarbage
set_option maxHeartbeats 8000000 in
theorem small (a : Option Addr) (n cap : Nat) (os : List Ob) (z : Int) (w : World) (hx : IsArena w (.slice a n cap) os) (hn : n = os.length) (hf : ∀ i, Sound8 (obAt os i)) (h : ((os.length : Int) + arN os) ≤ 1048576) :
    Calls Try.prog 8 #[.slice a n cap, .int .i64 z] w fun e w' => e = .returned (.bool true) ∧ Below w.heap.size w w' := by
  have hs := small8 (os := os) (by omega)
  have hl : os.length ≤ 1048576 := by omega
  have C := szObjS_any _ os 1048576 w hx (by omega) (by omega) (by omega) (wide8 hf)
  rw [szA_yes h] at C
  have HT : Hid (∀ w', Below w.heap.size w w' → Calls Try.prog 12 #[.slice a n cap] w' fun e w'' => ∃ g, e = .returned (.slice (some ⟨g, 0, none⟩) n n) ∧ (∃ fs, arOf fs = os ∧ OwnA g n fs [] w'.heap.size w''.heap.size w'') ∧ Below w'.heap.size w' w'') := fun w' hb => by
    have e := toObjS_is _ os w' (hx.on hb) hl hs
    rw [← hn] at e
    exact e
  obtain ⟨es, hes0⟩ : ∃ es, es = garbAns os z := ⟨_, rfl⟩
  have hes : es.length ≤ 1048576 := by rw [hes0]; exact garbAns_len os z
  have HO : Hid (∀ v w', IsArena w' v os → Calls Try.prog 34 #[v, .int .i64 z] w' fun e w'' => ∃ u, e = .returned u ∧ OwnI w'.heap.size w''.heap.size w'' u es ∧ Below w'.heap.size w' w'') := fun v w' h => by rw [hes0]; exact (specGarb_any v os z w' h hl hs (fun i => (hf i).fits)).mono fun e w'' ⟨u, he, ho, hb⟩ => ⟨u, he, ints_own ho, hb⟩
  have HI : Hid (∀ v w', IsArena w' v os → Calls Try.prog 35 #[v, .int .i64 z] w' fun e w'' => ∃ u, e = .returned u ∧ OwnI w'.heap.size w''.heap.size w'' u es ∧ Below w'.heap.size w' w'') := fun v w' h => by rw [hes0]; exact (implGarb_any v os z w' h hl hs).mono fun e w'' ⟨u, he, ho, hb⟩ => ⟨u, he, ints_own ho, hb⟩
  have HQ : Hid (∀ v u w', IsArena w' v os → IsArena w' u os → Calls Try.prog 15 #[v, u] w' fun e w'' => e = .returned (.bool true) ∧ Below w'.heap.size w' w'') := fun v u w' h1 h2 => eqObjS_same v u os w' h1 h2 hl hs
  have HE : Hid (∀ v u w', IsInts w' v es → IsInts w' u es → Calls Try.prog 26 #[v, u] w' fun e w'' => e = .returned (.bool true) ∧ Below w'.heap.size w' w'') := fun v u w' h1 h2 => (eqIntS_any v u es es w' h1 h2 hes).mono fun e w'' h => by rw [sameInts_refl] at h; exact h
  have HM : Hid (∀ g fs lo hi w', arOf fs = os → OwnA g n fs [] lo hi w' → Calls Try.prog 17 #[.slice (some ⟨g, 0, none⟩) n n, .int .i64 1] w' fun e w'' => e = .returned (.int .i64 (1 + stepS os)) ∧ Turned8 lo hi w' w'') := fun g fs lo hi w' h1 h2 => by
    have hfl : fs.length = n := by rw [hn, ← h1, arOf_length]
    have e := markObjS_own g n n fs [] lo hi w' h2 hfl.symm (by rw [h1, hn]; exact h)
    rw [h1] at e
    exact e.mono fun e w'' h => ⟨h.1, h.2.2⟩
  have HMR : Hid (∀ lo hi v w', OwnI lo hi w' v es → Calls Try.prog 27 #[v, .int .i64 1] w' fun e w'' => e = .returned (.int .i64 (1 + es.length)) ∧ OwnI lo hi w'' v (upFrom 1 es.length) ∧ Touch (Go.Proofs.Ytglpfgachcoheaa.blk v) w' w'') := fun lo hi v w' h => markI_own lo hi v es 1 w' h hes (by omega) (by omega)
  have HH : Hid (∀ v w', IsInts w' v (upFrom 1 es.length) → Calls Try.prog 28 #[v, .int .i64 1] w' fun e w'' => e = .returned (.int .i64 (1 + es.length)) ∧ w' = w'') := fun v w' h => heldIntS_up v es.length 1 w' h hes (by omega) (by omega)
  have hsn := (stepS_bound os).1
  obtain ⟨zs, hzs⟩ : ∃ zs, zs = 1 + stepS os := ⟨_, rfl⟩
  have hz : ¬ (zs < 0) := by omega
  obtain ⟨zl, hzl⟩ : ∃ zl : Int, zl = 1 + (es.length : Int) := ⟨_, rfl⟩
  have hz2 : ¬ (zl < 0) := by omega
  rw [← hzs] at HM
  rw [← hzl] at HMR HH
  have hzz : (zl != zl) = false := by simp
  have hnn : ¬ (1048576 - (os.length : Int) - (arN os : Int) < 0) := by omega
  have HNE : Hid (n = os.length) := hn
  clear hx hn hf h hs hl hes0 hes hsn hzs hzl
  go_enter Try.func8, Try.ntmps8
  go_wp2_with fail
  refine C.mono ?_
  rintro e w1 ⟨rfl, hb⟩
  have HB1 : Hid (Below w.heap.size w w1) := hb
  clear C hb
  go_wp2_with fail
  refine (HT.out _ HB1.out).mono ?_
  rintro e w2 ⟨g2, rfl, ⟨f2, hf2, ho2⟩, hb⟩
  have HB2 := hid_of (below_more HB1.out hb)
  have HI2 : Hid (IsArena w2 (.slice (some ⟨g2, 0, none⟩) n n) os) := by rw [HNE.out] at ho2 ⊢; exact own_is hf2 ho2
  clear HB1 hb hf2 ho2
  go_wp2_with fail
  refine (HO.out _ _ HI2.out).mono ?_
  rintro e w3 ⟨v3, rfl, ho3, hb⟩
  have HB3 := hid_of (below_more HB2.out hb)
  have HA3 := hid_of (show OwnI w2.heap.size w3.heap.size w3 v3 es ∧ w.heap.size ≤ w2.heap.size from ⟨ho3, HB2.out.size⟩)
  clear HB2 HI2 hb HO ho3
  go_wp2_with fail
  refine (HT.out _ HB3.out).mono ?_
  rintro e w4 ⟨g4, rfl, ⟨f4, hf4, ho4⟩, hb⟩
  have HB4 := hid_of (below_more HB3.out hb)
  have HA4 := hid_of (HA3.out.1.on8 hb)
  have HX4 := hid_of (show arOf f4 = os ∧ OwnA g4 n f4 [] w3.heap.size w4.heap.size w4 from ⟨hf4, ho4⟩)
  have HZ : Hid (w.heap.size ≤ w3.heap.size ∧ w3.heap.size ≤ w4.heap.size) := ⟨HB3.out.size, hb.size⟩
  clear HB3 HA3 hb hf4 ho4
  have HOI : Hid (∀ fs lo hi wz, arOf fs = os → OwnA g4 n fs [] lo hi wz → IsArena wz (.slice (some ⟨g4, 0, none⟩) n n) os) := fun fs lo hi wz h1 h2 => by have e := own_is h1 h2; rw [← HNE.out] at e; exact e
  go_wp2_with fail
  refine (HI.out _ _ (HOI.out _ _ _ _ HX4.out.1 HX4.out.2)).mono ?_
  rintro e w5 ⟨v5, rfl, ho5, hb⟩
  have HB5 := hid_of (below_more HB4.out hb)
  have HA5 := hid_of (HA4.out.on8 hb)
  have HX5 := hid_of (show arOf f4 = os ∧ OwnA g4 n f4 [] w3.heap.size w4.heap.size w5 from ⟨HX4.out.1, HX4.out.2.on hb⟩)
  have HG5 := hid_of (show OwnI w4.heap.size w5.heap.size w5 v5 es from ho5)
  clear HB4 HA4 HX4 hb ho5
  go_wp2_with fail
  refine (HE.out _ _ _ HG5.out.ints HA5.out.ints).mono ?_
  rintro e w6 ⟨rfl, hb⟩
  have HB6 := hid_of (below_more HB5.out hb)
  have HA6 := hid_of (HA5.out.on8 hb)
  have HX6 := hid_of (show arOf f4 = os ∧ OwnA g4 n f4 [] w3.heap.size w4.heap.size w6 from ⟨HX5.out.1, HX5.out.2.on hb⟩)
  have HG6 := hid_of (HG5.out.on8 hb)
  clear HB5 HA5 HX5 HG5 hb
  go_wp2_with fail
  refine (HT.out _ HB6.out).mono ?_
  rintro e w7 ⟨g7, rfl, ⟨f7, hf7, ho7⟩, hb⟩
  have HB7 := hid_of (below_more HB6.out hb)
  have HA7 := hid_of (HA6.out.on8 hb)
  have HX7 := hid_of (show arOf f4 = os ∧ OwnA g4 n f4 [] w3.heap.size w4.heap.size w7 from ⟨HX6.out.1, HX6.out.2.on hb⟩)
  have HG7 := hid_of (HG6.out.on8 hb)
  have HJ7 : Hid (IsArena w7 (.slice (some ⟨g7, 0, none⟩) n n) os) := by rw [HNE.out] at ho7 ⊢; exact own_is hf7 ho7
  clear HB6 HA6 HX6 HG6 hb hf7 ho7
  go_wp2_with fail
  refine (HQ.out _ _ _ (HOI.out _ _ _ _ HX7.out.1 HX7.out.2) HJ7.out).mono ?_
  rintro e w8 ⟨rfl, hb⟩
  have HB8 := hid_of (below_more HB7.out hb)
  have HA8 := hid_of (HA7.out.on8 hb)
  have HX8 := hid_of (show arOf f4 = os ∧ OwnA g4 n f4 [] w3.heap.size w4.heap.size w8 from ⟨HX7.out.1, HX7.out.2.on hb⟩)
  have HG8 := hid_of (HG7.out.on8 hb)
  clear HB7 HA7 HX7 HG7 HJ7 hb
  go_wp2_with fail
  refine (HM.out _ _ _ _ _ HX8.out.1 HX8.out.2).mono ?_
  rintro e w9 ⟨rfl, ht⟩
  have HB9 : Hid (Below w.heap.size w w9) := ht.below _ _ HZ.out.1 HB8.out
  have HA9 := hid_of (HA8.out.turned ht (.inl (Nat.le_refl _)))
  have HG9 := hid_of (HG8.out.turned ht (.inr (Nat.le_refl _)))
  clear HB8 HA8 HX8 HG8 ht HM
  go_wp2_with fail
  refine (HE.out _ _ _ HG9.out.ints HA9.out.ints).mono ?_
  rintro e w10 ⟨rfl, hb⟩
  have HB10 := hid_of (below_more HB9.out hb)
  have HA10 := hid_of (HA9.out.on8 hb)
  have HG10 := hid_of (HG9.out.on8 hb)
  clear HB9 HA9 HG9 hb
  go_wp2_with fail
  refine (HMR.out _ _ _ _ HG10.out).mono ?_
  rintro e w11 ⟨rfl, ho11, ht⟩
  have HB11 : Hid (Below w.heap.size w w11) := ht.below _ _ (fun b hb => by have e1 := (HG10.out.blk hb).1; have := HZ.out; omega) HB10.out
  have HA11 := hid_of (HA10.out.touched HG10.out ht (.inl HZ.out.2))
  have HG11 := hid_of ho11
  clear HB10 HA10 HG10 ho11 ht HMR
  go_wp2_with fail
  refine (HH.out _ _ HG11.out.ints).mono ?_
  rintro e w12 ⟨rfl, rfl⟩
  go_wp2_with fail
  refine (HT.out _ HB11.out).mono ?_
  rintro e w13 ⟨g13, rfl, ⟨f13, hf13, ho13⟩, hb⟩
  have HB13 := hid_of (below_more HB11.out hb)
  have HA13 := hid_of (HA11.out.on8 hb)
  have HG13 := hid_of (HG11.out.on8 hb)
  have HJ13 : Hid (IsArena w13 (.slice (some ⟨g13, 0, none⟩) n n) os) := by rw [HNE.out] at ho13 ⊢; exact own_is hf13 ho13
  clear HB11 HA11 HG11 hb hf13 ho13
  go_wp2_with fail
  refine (HI.out _ _ HJ13.out).mono ?_
  rintro e w14 ⟨v14, rfl, ho14, hb⟩
  have HB14 := hid_of (below_more HB13.out hb)
  have HA14 := hid_of (HA13.out.on8 hb)
  have HG14 := hid_of (HG13.out.on8 hb)
  have HD14 := hid_of ho14.ints
  clear HB13 HA13 HG13 HJ13 hb ho14
  go_wp2_with fail
  refine (HE.out _ _ _ HD14.out HA14.out.ints).mono ?_
  rintro e w15 ⟨rfl, hb⟩
  have HB15 := hid_of (below_more HB14.out hb)
  have HG15 := hid_of (HG14.out.on8 hb)
  clear HB14 HA14 HG14 HD14 hb
  go_wp2_with fail
  refine (HH.out _ _ HG15.out.ints).mono ?_
  rintro e w16 ⟨rfl, rfl⟩
  go_wp2
  go_ret
  exact ⟨rfl, HB15.out⟩
set_option maxHeartbeats 1000000 in
theorem big (a : Option Addr) (n cap : Nat) (os : List Ob) (z : Int) (w : World) (hx : IsArena w (.slice a n cap) os) (hn : n = os.length) (hm : n ≤ maxLen) (hf : ∀ i, Sound8 (obAt os i)) (h : ¬ ((os.length : Int) + arN os) ≤ 1048576) :
    Calls Try.prog 8 #[.slice a n cap, .int .i64 z] w fun e w' => e = .returned (.bool true) ∧ Below w.heap.size w w' := by
  unfold maxLen at hm
  have C := szObjS_any _ os 1048576 w hx (by omega) (by omega) (by omega) (wide8 hf)
  rw [szA_no h] at C
  clear hx hn hm hf h
  go_enter Try.func8, Try.ntmps8
  go_wp2_with fail
  refine C.mono ?_
  rintro e w0 ⟨rfl, hb⟩
  clear C
  go_wp2
  go_ret
  exact ⟨rfl, hb⟩
end LGarbage
theorem walkGarbage (a : Option Addr) (n cap : Nat) (os : List Ob) (z : Int) (w : World) (hx : IsArena w (.slice a n cap) os) (hn : n = os.length) (hm : n ≤ maxLen) (hf : ∀ i, Sound8 (obAt os i)) :
    Calls Try.prog 8 #[.slice a n cap, .int .i64 z] w fun e w' => e = .returned (.bool true) ∧ Below w.heap.size w w' := by
  by_cases h : ((os.length : Int) + arN os) ≤ 1048576
  · exact LGarbage.small a n cap os z w hx hn hf h
  · exact LGarbage.big a n cap os z w hx hn hm hf h
namespace Garbage
set_option maxRecDepth 100000 in
theorem lifted (os : Os) (started : os.Started) (H : Type) (enc : TypeId × Value → H) :
    ReturnsInHanded {} Try.checked os 8 .any (Rows.fnExactGarbageSpec.pre6 enc Try.prog Try.f8 Rows.fnExactGarbageRow.domain false) (Rows.fnExactGarbageSpec.post enc Try.prog Try.f8 false true false false) := by
  refine returnsInHanded_of_change (C := Try.checked) own started (by kernel_rfl) Try.func8
    (ChangeSpec.witness6 (enc := enc) (C := Try.checked) false ⟨#[], #[.slice none 0 0, .int .i64 0], []⟩ 8 (by kernel_rfl) (by kernel_rfl) (by kernel_rfl) (by kernel_rfl)) ?_
  intro W base args ds gs before hval0 hW hcnd _
  have hval : ∀ (j : Nat) t v, Try.f8.params[j]? = some t → args[j]? = some v → Value.okWide Try.prog W .any base t v := hval0
  have hW' := hW
  obtain ⟨p, q, hA0, hV, rfl, hfz, hnd⟩ := hW
  have hA : DataW.TrodAll enc Try.prog W 0 (fun _ => true) true Try.f8.params.toList args.toList ds p := hA0
  rw [Try.params8] at hA hval
  obtain ⟨v0, vs0, d0, ds0, p0, q0, hargs, rfl, rfl, h0, r0⟩ := trodAll_cons hA
  obtain ⟨v1, vs1, d1, ds1, p1, q1, hargs1, rfl, rfl, h1, r1⟩ := trodAll_cons r0
  obtain ⟨rfl, rfl, rfl⟩ := trodAll_nil r1
  obtain rfl : args = #[v0, v1] := by cases args; simp_all
  obtain ⟨rfl, rfl⟩ := trodVars_none hV
  obtain ⟨a0, n0, c0, xs0, rfl, i0, e0, m0, g0⟩ := open_arena (hval 0 22 v0 rfl rfl) h0
  have k0 := h0
  have lt0 : ∀ x ∈ p0, x.block < W.heap.size := by obtain ⟨m, hm⟩ := k0; exact DataW.trod_lt m _ _ _ hm
  obtain ⟨z1, rfl, f1⟩ := open_int64 (hval 1 3 v1 rfl rfl) h1
  have k1 := h1
  have lt1 : ∀ x ∈ p1, x.block < W.heap.size := by obtain ⟨m, hm⟩ := k1; exact DataW.trod_lt m _ _ _ hm
  clear hA0 hval0
  refine (walkGarbage a0 n0 c0 xs0 z1 W i0 e0 m0 g0).mono fun e W' ⟨he, bel⟩ => ?_
  subst he
  exact ⟨_, rfl, _, _, _, [], _, [], hW', trodAll_mk1 (shut_bool Try.underlying4 _), (trodAll_cons_mk (Below.trod laidOut (by kernel_rfl) (of_decide_eq_true (by kernel_rfl)) k0 bel lt0) (trodAll_cons_mk (Below.trod laidOut (by kernel_rfl) (of_decide_eq_true (by kernel_rfl)) k1 bel lt1) trodAll_mk0)), rfl, bel.frame _, fun h => by cases h⟩

theorem over : Rows.fnExactGarbageRow.holds Try.pinned (OpenSpec.ofChange Rows.fnExactGarbageSpec) :=
  OpenClaim.holds_of_wide 8 Try.f8 rfl rfl rfl rfl rfl rfl rfl ⟨rfl, rfl, rfl, rfl, rfl⟩ rfl rfl rfl rfl rfl (by kernel_rfl) Try.func8 (by kernel_rfl)
    (of_decide_eq_true (by kernel_rfl)) (by unfold Func.isWrapper; first | (rw [if_pos (by decide +kernel)]; kernel_rfl) | (rw [if_neg (by decide +kernel)]; exact ⟨rfl, rfl⟩))
    (fun os started H enc _ => lifted os started H enc)
end Garbage
theorem garbage_holds : Rows.FnExactGarbageSaid := Garbage.over
#print axioms garbage_holds
end Go.Proofs.Ytglpfgachcoheaa
