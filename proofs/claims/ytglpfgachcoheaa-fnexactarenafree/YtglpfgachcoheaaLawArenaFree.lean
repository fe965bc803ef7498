/-
  The law of ArenaFree: the program answers as the model; it writes into nothing that it was given, and its answer owns its memory.
-/
import Derived.Test.YtglpfgachcoheaaHeldA
import Derived.Test.YtglpfgachcoheaaCopy8
import Derived.Test.YtglpfgachcoheaaReadO
import Derived.Test.YtglpfgachcoheaaSFree9
namespace Go.Proofs.Ytglpfgachcoheaa
open Go.ChangeShapes Go.WideShapes Go.ChangeAt Go.RowKit
set_option linter.unusedVariables false
set_option maxRecDepth 100000

theorem OwnA.turnedBy {g cap : Nat} {es : List El} {rest : List Value} {lo hi l0 h0 : Nat} {w w' : World} (h : OwnA g cap es rest lo hi w) (ht : Turned8 l0 h0 w w') (hd : hi ≤ l0 ∨ h0 ≤ lo) : OwnA g cap es rest lo hi w' :=
  ⟨ht.block _ _ h.at' (by have := h.lo; have := h.hi; omega), h.cap, h.lo, h.hi, fun i hi' => (h.own i hi').move (fun b x h1 h2 hx => ht.block _ _ hx (by omega)) (Nat.le_refl _) (Nat.le_refl _), h.ne, h.apart⟩
theorem own_arena9 {os : List Ob} {g n c : Nat} {fs : List El} {rest : List Value} {lo hi : Nat} {w : World} (he : arOf fs = os) (hn : n = os.length) (h : OwnA g c fs rest lo hi w) : IsArena w (.slice (some ⟨g, 0, none⟩) n c) os := by
  have e := h.arena
  have e2 : fs.length = n := by rw [hn, ← he, arOf_length]
  rw [he, e2] at e
  exact e
theorem freeOf_length (os : List Ob) (i : Int) : (freeOf os i).length = os.length := by unfold freeOf; split <;> simp
theorem arN_un (z : Int) : ∀ os : List Ob, arN (os.map (unO z)) = arN os
  | [] => rfl
  | o :: os => by rw [List.map_cons, arN_cons, arN_cons, arN_un z os]; simp [obN, unO]
theorem freeOf_arN (os : List Ob) (i : Int) : arN (freeOf os i) ≤ arN os := by
  unfold freeOf
  split
  · rw [arN_un]; exact arN_new _ _ _
  · exact Nat.le_refl _
namespace LArenaFree
set_option maxHeartbeats 8000000 in
theorem small (a : Option Addr) (n cap : Nat) (os : List Ob) (z : Int) (w : World) (hx : IsArena w (.slice a n cap) os) (hn : n = os.length) (hf : ∀ i, Sound8 (obAt os i)) (h : ((os.length : Int) + arN os) ≤ 1048576) :
    Calls Try.prog 4 #[.slice a n cap, .int .i64 z] w fun e w' => e = .returned (.bool true) ∧ Below w.heap.size w w' := by
  have hs := small8 (os := os) (by omega)
  have hl : os.length ≤ 1048576 := by omega
  have C := szObjS_any _ os 1048576 w hx (by omega) (by omega) (by omega) (wide8 hf)
  rw [szA_yes (by omega)] at C
  have HT : Hid (∀ w', Below w.heap.size w w' → Calls Try.prog 12 #[.slice a n cap] w' fun e w'' => ∃ g, e = .returned (.slice (some ⟨g, 0, none⟩) n n) ∧ (∃ fs, arOf fs = os ∧ OwnA g n fs [] w'.heap.size w''.heap.size w'') ∧ Below w'.heap.size w' w'') := fun w' hb => by
    have e := toObjS_is _ os w' (hx.on hb) hl hs
    rw [← hn] at e
    exact e
  obtain ⟨rs, hrs0⟩ : ∃ rs, rs = freeOf os z := ⟨_, rfl⟩
  obtain ⟨rb, hrb0⟩ : ∃ rb, rb = freeB os z := ⟨_, rfl⟩
  have hrl : n = rs.length := by rw [hrs0, freeOf_length]; exact hn
  have hra : (n : Int) + arN rs ≤ 1048576 := by have := freeOf_arN os z; rw [← hrs0] at this; omega
  have hrsm : Small8 rs := small8 (by omega)
  have HO : Hid (∀ v w', IsArena w' v os → Calls Try.prog 20 #[v, .int .i64 z] w' fun e w'' => ∃ g c fs rest, e = .returned (.tuple #[.slice (some ⟨g, 0, none⟩) n c, .bool rb]) ∧ arOf fs = rs ∧ OwnA g c fs rest w'.heap.size w''.heap.size w'' ∧ Below w'.heap.size w' w'') := fun v w' h => by rw [hrl, hrs0, hrb0]; exact specFree_any v os z w' h hl hs (fun i => (hf i).fits)
  have HI : Hid (∀ g c w', IsArena w' (.slice (some ⟨g, 0, none⟩) n c) os → Calls Try.prog 21 #[.slice (some ⟨g, 0, none⟩) n c, .int .i64 z] w' fun e w'' => ∃ g c fs rest, e = .returned (.tuple #[.slice (some ⟨g, 0, none⟩) n c, .bool rb]) ∧ arOf fs = rs ∧ OwnA g c fs rest w'.heap.size w''.heap.size w'' ∧ Below w'.heap.size w' w'') := fun g c w' h' => by
    have e : n = rs.length := hrl
    have h2 := h'
    rw [hn] at h2 ⊢
    have e2 := implFree_any ⟨g, 0, none⟩ c os z w' h2 hl hs h
    unfold FreeAns at e2
    rw [← hrs0, ← hrb0, ← e, hn] at e2
    exact e2
  have HQ : Hid (∀ v u w', IsArena w' v os → IsArena w' u os → Calls Try.prog 15 #[v, u] w' fun e w'' => e = .returned (.bool true) ∧ Below w'.heap.size w' w'') := fun v u w' h1 h2 => eqObjS_same v u os w' h1 h2 hl hs
  have HE : Hid (∀ v u w', IsArena w' v rs → IsArena w' u rs → Calls Try.prog 15 #[v, u] w' fun e w'' => e = .returned (.bool true) ∧ Below w'.heap.size w' w'') := fun v u w' h1 h2 => eqObjS_same v u rs w' h1 h2 (by omega) hrsm
  have HM : Hid (∀ g fs lo hi w', arOf fs = os → OwnA g n fs [] lo hi w' → Calls Try.prog 17 #[.slice (some ⟨g, 0, none⟩) n n, .int .i64 1] w' fun e w'' => e = .returned (.int .i64 (1 + stepS os)) ∧ Turned8 lo hi w' w'') := fun g fs lo hi w' h1 h2 => by
    have hfl : fs.length = n := by rw [hn, ← h1, arOf_length]
    have e := markObjS_own g n n fs [] lo hi w' h2 hfl.symm (by rw [h1, hn]; omega)
    rw [h1] at e
    exact e.mono fun e w'' h => ⟨h.1, h.2.2⟩
  have HMR : Hid (∀ g c fs rest lo hi w', arOf fs = rs → OwnA g c fs rest lo hi w' → Calls Try.prog 17 #[.slice (some ⟨g, 0, none⟩) n c, .int .i64 1] w' fun e w'' => e = .returned (.int .i64 (1 + stepS rs)) ∧ (∃ fs', arOf fs' = upArena 1 rs ∧ OwnA g c fs' rest lo hi w'') ∧ Turned8 lo hi w' w'') := fun g c fs rest lo hi w' h1 h2 => by
    have hfl : fs.length = n := by rw [hrl, ← h1, arOf_length]
    have e := markObjS_own g c n fs rest lo hi w' h2 hfl.symm (by rw [h1]; exact hra)
    rw [h1] at e
    exact e
  have HH : Hid (∀ v w', IsArena w' v (upArena 1 rs) → Calls Try.prog 19 #[v, .int .i64 1] w' fun e w'' => e = .returned (.int .i64 (1 + stepS rs)) ∧ w' = w'') := fun v w' h => heldObjS_up v rs w' h (by omega)
  have hsn := (stepS_bound os).1
  have hsr := (stepS_bound rs).1
  obtain ⟨zs, hzs⟩ : ∃ zs, zs = 1 + stepS os := ⟨_, rfl⟩
  have hz : ¬ (zs < 0) := by omega
  obtain ⟨zl, hzl⟩ : ∃ zl : Int, zl = 1 + stepS rs := ⟨_, rfl⟩
  have hz2 : ¬ (zl < 0) := by omega
  rw [← hzs] at HM
  rw [← hzl] at HMR HH
  have hzz : (zl != zl) = false := by simp
  have hbb : (rb != rb) = false := by simp
  have hnn : ¬ (1048576 - (os.length : Int) - (arN os : Int) < 0) := by omega
  have HNE : Hid (n = os.length) := hn
  have HRL : Hid (n = rs.length) := hrl
  have HUL : Hid (n = (upArena 1 rs).length) := by show _ = _; rw [upArena_length]; exact hrl
  clear hx hn hf h hs hl hrs0 hrb0 hrl hra hrsm hsn hsr hzs hzl
  go_enter Try.func4, Try.ntmps4
  go_wp2_with fail
  refine C.mono ?_
  rintro e w1 ⟨rfl, hb⟩
  have HB1 : Hid (Below w.heap.size w w1) := hb
  clear C hb
  go_wp2_with fail
  refine (HT.out _ HB1.out).mono ?_
  rintro e w2 ⟨g2, rfl, ⟨f2, hf2, ho2⟩, hb⟩
  have HB2 := hid_of (below_more HB1.out hb)
  have HI2 : Hid (IsArena w2 (.slice (some ⟨g2, 0, none⟩) n n) os) := by rw [HNE.out] at ho2 ⊢; exact own_is hf2 ho2
  clear HB1 hb hf2 ho2
  go_wp2_with fail
  refine (HO.out _ _ HI2.out).mono ?_
  rintro e w3 ⟨ga, ca, fa, ra, rfl, hea, hoa, hb⟩
  have HB3 := hid_of (below_more HB2.out hb)
  have HA3 := hid_of (show arOf fa = rs ∧ OwnA ga ca fa ra w2.heap.size w3.heap.size w3 from ⟨hea, hoa⟩)
  clear HB2 HI2 hb HO hea hoa
  go_wp2_with fail
  refine (HT.out _ HB3.out).mono ?_
  rintro e w4 ⟨g4, rfl, ⟨f4, hf4, ho4⟩, hb⟩
  have HB4 := hid_of (below_more HB3.out hb)
  have HA4 := hid_of (show arOf fa = rs ∧ OwnA ga ca fa ra w2.heap.size w3.heap.size w4 from ⟨HA3.out.1, HA3.out.2.on hb⟩)
  have HX4 := hid_of (show arOf f4 = os ∧ OwnA g4 n f4 [] w3.heap.size w4.heap.size w4 from ⟨hf4, ho4⟩)
  have HZ : Hid (w.heap.size ≤ w3.heap.size ∧ w3.heap.size ≤ w4.heap.size) := ⟨HB3.out.size, hb.size⟩
  clear HB3 HA3 hb hf4 ho4
  go_wp2_with fail
  refine (HI.out _ _ _ (own_arena9 HX4.out.1 HNE.out HX4.out.2)).mono ?_
  rintro e w5 ⟨gb, cb, fb, rb2, rfl, heb, hob, hb⟩
  have HB5 := hid_of (below_more HB4.out hb)
  have HA5 := hid_of (show arOf fa = rs ∧ OwnA ga ca fa ra w2.heap.size w3.heap.size w5 from ⟨HA4.out.1, HA4.out.2.on hb⟩)
  have HX5 := hid_of (show arOf f4 = os ∧ OwnA g4 n f4 [] w3.heap.size w4.heap.size w5 from ⟨HX4.out.1, HX4.out.2.on hb⟩)
  have HG5 := hid_of (show arOf fb = rs ∧ OwnA gb cb fb rb2 w4.heap.size w5.heap.size w5 from ⟨heb, hob⟩)
  have HZ2 : Hid (w.heap.size ≤ w4.heap.size) := HB4.out.size
  clear HB4 HA4 HX4 hb heb hob
  go_wp2_with fail
  refine (HE.out _ _ _ (own_arena9 HG5.out.1 HRL.out HG5.out.2) (own_arena9 HA5.out.1 HRL.out HA5.out.2)).mono ?_
  rintro e w6 ⟨rfl, hb⟩
  have HB6 := hid_of (below_more HB5.out hb)
  have HA6 := hid_of (show arOf fa = rs ∧ OwnA ga ca fa ra w2.heap.size w3.heap.size w6 from ⟨HA5.out.1, HA5.out.2.on hb⟩)
  have HX6 := hid_of (show arOf f4 = os ∧ OwnA g4 n f4 [] w3.heap.size w4.heap.size w6 from ⟨HX5.out.1, HX5.out.2.on hb⟩)
  have HG6 := hid_of (show arOf fb = rs ∧ OwnA gb cb fb rb2 w4.heap.size w5.heap.size w6 from ⟨HG5.out.1, HG5.out.2.on hb⟩)
  clear HB5 HA5 HX5 HG5 hb
  go_wp2_with fail
  refine (HT.out _ HB6.out).mono ?_
  rintro e w7 ⟨g7, rfl, ⟨f7, hf7, ho7⟩, hb⟩
  have HB7 := hid_of (below_more HB6.out hb)
  have HA7 := hid_of (show arOf fa = rs ∧ OwnA ga ca fa ra w2.heap.size w3.heap.size w7 from ⟨HA6.out.1, HA6.out.2.on hb⟩)
  have HX7 := hid_of (show arOf f4 = os ∧ OwnA g4 n f4 [] w3.heap.size w4.heap.size w7 from ⟨HX6.out.1, HX6.out.2.on hb⟩)
  have HG7 := hid_of (show arOf fb = rs ∧ OwnA gb cb fb rb2 w4.heap.size w5.heap.size w7 from ⟨HG6.out.1, HG6.out.2.on hb⟩)
  have HJ7 : Hid (IsArena w7 (.slice (some ⟨g7, 0, none⟩) n n) os) := by rw [HNE.out] at ho7 ⊢; exact own_is hf7 ho7
  clear HB6 HA6 HX6 HG6 hb hf7 ho7
  go_wp2_with fail
  refine (HQ.out _ _ _ (own_arena9 HX7.out.1 HNE.out HX7.out.2) HJ7.out).mono ?_
  rintro e w8 ⟨rfl, hb⟩
  have HB8 := hid_of (below_more HB7.out hb)
  have HA8 := hid_of (show arOf fa = rs ∧ OwnA ga ca fa ra w2.heap.size w3.heap.size w8 from ⟨HA7.out.1, HA7.out.2.on hb⟩)
  have HX8 := hid_of (show arOf f4 = os ∧ OwnA g4 n f4 [] w3.heap.size w4.heap.size w8 from ⟨HX7.out.1, HX7.out.2.on hb⟩)
  have HG8 := hid_of (show arOf fb = rs ∧ OwnA gb cb fb rb2 w4.heap.size w5.heap.size w8 from ⟨HG7.out.1, HG7.out.2.on hb⟩)
  clear HB7 HA7 HX7 HG7 HJ7 hb
  go_wp2_with fail
  refine (HM.out _ _ _ _ _ HX8.out.1 HX8.out.2).mono ?_
  rintro e w9 ⟨rfl, ht⟩
  have HB9 : Hid (Below w.heap.size w w9) := ht.below _ _ HZ.out.1 HB8.out
  have HA9 := hid_of (show arOf fa = rs ∧ OwnA ga ca fa ra w2.heap.size w3.heap.size w9 from ⟨HA8.out.1, HA8.out.2.turnedBy ht (.inl (Nat.le_refl _))⟩)
  have HG9 := hid_of (show arOf fb = rs ∧ OwnA gb cb fb rb2 w4.heap.size w5.heap.size w9 from ⟨HG8.out.1, HG8.out.2.turnedBy ht (.inr (Nat.le_refl _))⟩)
  clear HB8 HA8 HX8 HG8 ht HM
  go_wp2_with fail
  refine (HE.out _ _ _ (own_arena9 HG9.out.1 HRL.out HG9.out.2) (own_arena9 HA9.out.1 HRL.out HA9.out.2)).mono ?_
  rintro e w10 ⟨rfl, hb⟩
  have HB10 := hid_of (below_more HB9.out hb)
  have HA10 := hid_of (show arOf fa = rs ∧ OwnA ga ca fa ra w2.heap.size w3.heap.size w10 from ⟨HA9.out.1, HA9.out.2.on hb⟩)
  have HG10 := hid_of (show arOf fb = rs ∧ OwnA gb cb fb rb2 w4.heap.size w5.heap.size w10 from ⟨HG9.out.1, HG9.out.2.on hb⟩)
  clear HB9 HA9 HG9 hb
  go_wp2_with fail
  refine (HMR.out _ _ _ _ _ _ _ HG10.out.1 HG10.out.2).mono ?_
  rintro e w11 ⟨rfl, ⟨fc, hec, hoc⟩, ht⟩
  have HB11 : Hid (Below w.heap.size w w11) := ht.below _ _ HZ2.out HB10.out
  have HA11 := hid_of (show arOf fa = rs ∧ OwnA ga ca fa ra w2.heap.size w3.heap.size w11 from ⟨HA10.out.1, HA10.out.2.turnedBy ht (.inl HZ.out.2)⟩)
  have HG11 := hid_of (own_arena9 hec HUL.out hoc)
  clear HB10 HA10 HG10 hec hoc ht HMR
  go_wp2_with fail
  refine (HH.out _ _ HG11.out).mono ?_
  rintro e w12 ⟨rfl, rfl⟩
  go_wp2_with fail
  refine (HT.out _ HB11.out).mono ?_
  rintro e w13 ⟨g13, rfl, ⟨f13, hf13, ho13⟩, hb⟩
  have HB13 := hid_of (below_more HB11.out hb)
  have HA13 := hid_of (show arOf fa = rs ∧ OwnA ga ca fa ra w2.heap.size w3.heap.size w13 from ⟨HA11.out.1, HA11.out.2.on hb⟩)
  have HG13 := hid_of (HG11.out.on hb)
  have HJ13 := hid_of (show IsArena w13 (.slice (some ⟨g13, 0, none⟩) n n) os from own_arena9 hf13 HNE.out ho13)
  clear HB11 HA11 HG11 hb hf13 ho13
  go_wp2_with fail
  refine (HI.out _ _ _ HJ13.out).mono ?_
  rintro e w14 ⟨gd, cd, fd, rd, rfl, hed, hod, hb⟩
  have HB14 := hid_of (below_more HB13.out hb)
  have HA14 := hid_of (show arOf fa = rs ∧ OwnA ga ca fa ra w2.heap.size w3.heap.size w14 from ⟨HA13.out.1, HA13.out.2.on hb⟩)
  have HG14 := hid_of (HG13.out.on hb)
  have HD14 := hid_of (own_arena9 hed HRL.out hod)
  clear HB13 HA13 HG13 HJ13 hb hed hod
  go_wp2_with fail
  refine (HE.out _ _ _ HD14.out (own_arena9 HA14.out.1 HRL.out HA14.out.2)).mono ?_
  rintro e w15 ⟨rfl, hb⟩
  have HB15 := hid_of (below_more HB14.out hb)
  have HG15 := hid_of (HG14.out.on hb)
  clear HB14 HA14 HG14 HD14 hb
  go_wp2_with fail
  refine (HH.out _ _ HG15.out).mono ?_
  rintro e w16 ⟨rfl, rfl⟩
  go_wp2
  go_ret
  exact ⟨rfl, HB15.out⟩
set_option maxHeartbeats 1000000 in
theorem big (a : Option Addr) (n cap : Nat) (os : List Ob) (z : Int) (w : World) (hx : IsArena w (.slice a n cap) os) (hn : n = os.length) (hm : n ≤ maxLen) (hf : ∀ i, Sound8 (obAt os i)) (h : ¬ ((os.length : Int) + arN os) ≤ 1048576) :
    Calls Try.prog 4 #[.slice a n cap, .int .i64 z] w fun e w' => e = .returned (.bool true) ∧ Below w.heap.size w w' := by
  unfold maxLen at hm
  have C := szObjS_any _ os 1048576 w hx (by omega) (by omega) (by omega) (wide8 hf)
  rw [szA_no h] at C
  clear hx hn hm hf h
  go_enter Try.func4, Try.ntmps4
  go_wp2_with fail
  refine C.mono ?_
  rintro e w0 ⟨rfl, hb⟩
  clear C
  go_wp2
  go_ret
  exact ⟨rfl, hb⟩
end LArenaFree
theorem walkArenaFree (a : Option Addr) (n cap : Nat) (os : List Ob) (z : Int) (w : World) (hx : IsArena w (.slice a n cap) os) (hn : n = os.length) (hm : n ≤ maxLen) (hf : ∀ i, Sound8 (obAt os i)) :
    Calls Try.prog 4 #[.slice a n cap, .int .i64 z] w fun e w' => e = .returned (.bool true) ∧ Below w.heap.size w w' := by
  by_cases h : ((os.length : Int) + arN os) ≤ 1048576
  · exact LArenaFree.small a n cap os z w hx hn hf h
  · exact LArenaFree.big a n cap os z w hx hn hm hf h
namespace ArenaFree
set_option maxRecDepth 100000 in
theorem lifted (os : Os) (started : os.Started) (H : Type) (enc : TypeId × Value → H) :
    ReturnsInHanded {} Try.checked os 4 .any (Rows.fnExactArenaFreeSpec.pre6 enc Try.prog Try.f4 Rows.fnExactArenaFreeRow.domain false) (Rows.fnExactArenaFreeSpec.post enc Try.prog Try.f4 false true false false) := by
  refine returnsInHanded_of_change (C := Try.checked) own started (by kernel_rfl) Try.func4
    (ChangeSpec.witness6 (enc := enc) (C := Try.checked) false ⟨#[], #[.slice none 0 0, .int .i64 0], []⟩ 8 (by kernel_rfl) (by kernel_rfl) (by kernel_rfl) (by kernel_rfl)) ?_
  intro W base args ds gs before hval0 hW hcnd _
  have hval : ∀ (j : Nat) t v, Try.f4.params[j]? = some t → args[j]? = some v → Value.okWide Try.prog W .any base t v := hval0
  have hW' := hW
  obtain ⟨p, q, hA0, hV, rfl, hfz, hnd⟩ := hW
  have hA : DataW.TrodAll enc Try.prog W 0 (fun _ => true) true Try.f4.params.toList args.toList ds p := hA0
  rw [Try.params4] at hA hval
  obtain ⟨v0, vs0, d0, ds0, p0, q0, hargs, rfl, rfl, h0, r0⟩ := trodAll_cons hA
  obtain ⟨v1, vs1, d1, ds1, p1, q1, hargs1, rfl, rfl, h1, r1⟩ := trodAll_cons r0
  obtain ⟨rfl, rfl, rfl⟩ := trodAll_nil r1
  obtain rfl : args = #[v0, v1] := by cases args; simp_all
  obtain ⟨rfl, rfl⟩ := trodVars_none hV
  obtain ⟨a0, n0, c0, xs0, rfl, i0, e0, m0, g0⟩ := open_arena (hval 0 22 v0 rfl rfl) h0
  have k0 := h0
  have lt0 : ∀ x ∈ p0, x.block < W.heap.size := by obtain ⟨m, hm⟩ := k0; exact DataW.trod_lt m _ _ _ hm
  obtain ⟨z1, rfl, f1⟩ := open_int64 (hval 1 3 v1 rfl rfl) h1
  have k1 := h1
  have lt1 : ∀ x ∈ p1, x.block < W.heap.size := by obtain ⟨m, hm⟩ := k1; exact DataW.trod_lt m _ _ _ hm
  clear hA0 hval0
  refine (walkArenaFree a0 n0 c0 xs0 z1 W i0 e0 m0 g0).mono fun e W' ⟨he, bel⟩ => ?_
  subst he
  exact ⟨_, rfl, _, _, _, [], _, [], hW', trodAll_mk1 (shut_bool Try.underlying4 _), (trodAll_cons_mk (Below.trod laidOut (by kernel_rfl) (of_decide_eq_true (by kernel_rfl)) k0 bel lt0) (trodAll_cons_mk (Below.trod laidOut (by kernel_rfl) (of_decide_eq_true (by kernel_rfl)) k1 bel lt1) trodAll_mk0)), rfl, bel.frame _, fun h => by cases h⟩

theorem over : Rows.fnExactArenaFreeRow.holds Try.pinned (OpenSpec.ofChange Rows.fnExactArenaFreeSpec) :=
  OpenClaim.holds_of_wide 4 Try.f4 rfl rfl rfl rfl rfl rfl rfl ⟨rfl, rfl, rfl, rfl, rfl⟩ rfl rfl rfl rfl rfl (by kernel_rfl) Try.func4 (by kernel_rfl)
    (of_decide_eq_true (by kernel_rfl)) (by unfold Func.isWrapper; first | (rw [if_pos (by decide +kernel)]; kernel_rfl) | (rw [if_neg (by decide +kernel)]; exact ⟨rfl, rfl⟩))
    (fun os started H enc _ => lifted os started H enc)
end ArenaFree
theorem arenaFree_holds : Rows.FnExactArenaFreeSaid := ArenaFree.over
#print axioms arenaFree_holds
end Go.Proofs.Ytglpfgachcoheaa
