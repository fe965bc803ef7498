/-
  The law of GcSafe: at every heap and time the program answers as the model; it writes into nothing that it was given.
-/
import Derived.Test.YtbdljoldblpffaaGreatLawHB
import Derived.Test.YtbdljoldblpffaaGreatSafe10
namespace Go.Proofs.YtbdljoldblpffaaGreat
open Go.ChangeShapes Go.WideShapes Go.ChangeAt Go.RowKit
set_option linter.unusedVariables false
set_option maxRecDepth 100000

namespace LGcSafe
set_option maxHeartbeats 8000000 in
theorem small (a : Value) (p t r : Int) (g : Value) (os : List Ob) (xs : List Int) (z : Int) (w : World) (ha : IsArena w a os) (hx : IsInts w g xs) (hm : os.length ≤ maxLen) (hn : xs.length ≤ maxLen) (hf : ∀ i, Sound8 (obAt os i)) (hr : -9223372036854775808 ≤ r ∧ r ≤ 9223372036854775807) (ht : -9223372036854775808 ≤ t ∧ t ≤ 9223372036854775807) (hz : -9223372036854775808 ≤ z ∧ z ≤ 9223372036854775807) (h : hpN os xs ≤ 1048576) :
    Calls Tryz.prog 6 #[hpV a p t r g, .int .i64 z] w fun e w' => e = .returned (.bool true) ∧ Below w.heap.size w w' := by
  have hs := small8 (os := os) (by unfold hpN at h; omega)
  have hl : os.length ≤ 1048576 := by unfold hpN at h; omega
  have hxl : xs.length ≤ 1048576 := by unfold hpN at h; omega
  unfold maxLen at hm hn
  have HC : Hid (∀ w', Below w.heap.size w w' → Calls Tryz.prog 7 #[hpV a p t r g, .int .i64 1048576] w' fun e w'' => e = .returned (.int .i64 (1048576 - (hpN os xs : Int))) ∧ Below w'.heap.size w' w'') := fun w' hb => by
    have e := szHeap_any a p t r g os xs 1048576 w' (ha.on hb) (hx.on hb) (by omega) (by omega) (by omega) (wide8 hf) (by omega)
    rw [szOf_yes (by omega)] at e
    exact e
  have HT : Hid (∀ w', Below w.heap.size w w' → Calls Tryz.prog 9 #[hpV a p t r g] w' fun e w'' => (∃ u, e = .returned u ∧ LikeH p t r os xs u w'') ∧ Below w'.heap.size w' w'') := fun w' hb => toHeap_like a p t r g os xs w' (ha.on hb) (hx.on hb) hl hs hxl
  have HS : Hid (∀ w', Below w.heap.size w w' → Calls Tryz.prog 9 #[hpV a p t r g] w' fun e w'' => (∃ b u : Nat, e = .returned (hpV (.slice (some ⟨b, 0, none⟩) os.length os.length) p t r (.slice (some ⟨u, 0, none⟩) xs.length xs.length)) ∧ IsArena w'' (.slice (some ⟨b, 0, none⟩) os.length os.length) os ∧ IsInts w'' (.slice (some ⟨u, 0, none⟩) xs.length xs.length) xs) ∧ Below w'.heap.size w' w'') := fun w' hb => toHeap_some a p t r g os xs w' (ha.on hb) (hx.on hb) hl hs hxl
  have HO : Hid (∀ (b u : Nat) w', IsArena w' (.slice (some ⟨b, 0, none⟩) os.length os.length) os → IsInts w' (.slice (some ⟨u, 0, none⟩) xs.length xs.length) xs → Calls Tryz.prog 18 #[hpV (.slice (some ⟨b, 0, none⟩) os.length os.length) p t r (.slice (some ⟨u, 0, none⟩) xs.length xs.length), .int .i64 z] w' fun e w'' => e = .returned (.bool (safeOk os p t r xs z)) ∧ Below w'.heap.size w' w'') := fun b u w' h1 h2 => specSafe_any ⟨b, 0, none⟩ os.length p t r (some ⟨u, 0, none⟩) xs.length os xs z w' h1 h2 hl hs (fun i => (hf i).fits) hxl
  have HI : Hid (∀ (b u : Nat) w', IsArena w' (.slice (some ⟨b, 0, none⟩) os.length os.length) os → IsInts w' (.slice (some ⟨u, 0, none⟩) xs.length xs.length) xs → Calls Tryz.prog 19 #[hpV (.slice (some ⟨b, 0, none⟩) os.length os.length) p t r (.slice (some ⟨u, 0, none⟩) xs.length xs.length), .int .i64 z] w' fun e w'' => e = .returned (.bool (safeOk os p t r xs z)) ∧ Below w'.heap.size w' w'') := fun b u w' h1 h2 => implSafe_any ⟨b, 0, none⟩ os.length p t r _ os xs z w' h1 h2 hl hs hxl
  have HQ : Hid (∀ A B G U w', IsArena w' A os → IsArena w' B os → IsInts w' G xs → IsInts w' U xs → Calls Tryz.prog 11 #[hpV A p t r G, hpV B p t r U] w' fun e w'' => e = .returned (.bool true) ∧ Below w'.heap.size w' w'') := fun A B G U w' h1 h2 h3 h4 => eqHeap_same A B p t r G U os xs w' h1 h2 h3 h4 hl hs hxl
  have hnn : ¬ (1048576 - (hpN os xs : Int) < 0) := by omega
  have HV : Hid ((w.alloc (boxHL a p t r g)).heap[w.heap.size]? = some (boxHL a p t r g)) := heap_alloc_new w _
  generalize safeOk os p t r xs z = o at HO HI
  have hoo : (o != o) = false := by simp
  obtain ⟨aa, ca, rfl, _, _⟩ := id ha
  obtain ⟨ag, cg, rfl, _, _⟩ := id hx
  clear ha hx hm hn hf hs hl hxl h hr ht
  go_enter Tryz.func6, Tryz.ntmps6
  go_wp2_with fail
  refine (HC.out _ (by go_grown)).mono ?_
  rintro e w1 ⟨rfl, hb⟩
  have HB1 : Hid (Below w.heap.size w w1) := below_more (by go_grown) hb
  have HV1 := hid_of (keep HV.out hb)
  obtain ⟨k0, k1, k2, k3, k4⟩ := cells5 HV1.out
  clear hb HC HV
  go_wp2_with fail
  refine (HS.out _ HB1.out).mono ?_
  rintro e w2 ⟨⟨gb2, gu2, rfl, hA2, hG2⟩, hb⟩
  have HB2 := hid_of (below_more HB1.out hb)
  have HV2 := hid_of (keep HV1.out hb)
  have HI2 := hid_of (And.intro hA2 hG2)
  clear hA2 hG2
  clear hb HB1 HV1 k0 k1 k2 k3 k4
  go_wp2_with fail
  refine (HO.out _ _ _ HI2.out.1 HI2.out.2).mono ?_
  rintro e w3 ⟨rfl, hb⟩
  have HB3 := hid_of (below_more HB2.out hb)
  have HV3 := hid_of (keep HV2.out hb)
  obtain ⟨k0, k1, k2, k3, k4⟩ := cells5 HV3.out
  clear hb HB2 HV2 HI2 HO
  go_wp2_with fail
  refine (HS.out _ HB3.out).mono ?_
  rintro e w4 ⟨⟨gb4, gu4, rfl, hA4, hG4⟩, hb⟩
  have HB4 := hid_of (below_more HB3.out hb)
  have HV4 := hid_of (keep HV3.out hb)
  have HI4 := hid_of (And.intro hA4 hG4)
  clear hA4 hG4
  clear hb HB3 HV3 k0 k1 k2 k3 k4
  go_wp2_with fail
  have hal := below_alloc w4 (boxH (.slice (some ⟨gb4, 0, none⟩) os.length os.length) p t r (.slice (some ⟨gu4, 0, none⟩) xs.length xs.length))
  have HX4 : Hid (AtX w (.slice aa os.length ca) (.slice ag xs.length cg) p t r w4.heap.size (.slice (some ⟨gb4, 0, none⟩) os.length os.length) (.slice (some ⟨gu4, 0, none⟩) xs.length xs.length) os xs (w4.alloc (boxH (.slice (some ⟨gb4, 0, none⟩) os.length os.length) p t r (.slice (some ⟨gu4, 0, none⟩) xs.length xs.length)))) := ⟨below_more HB4.out hal, keep HV4.out hal, heap_alloc_new w4 _, HI4.out.1.on hal, HI4.out.2.on hal⟩
  clear hal HB4 HV4 HI4
  refine (HI.out _ _ _ HX4.out.ar HX4.out.gr).mono ?_
  rintro e w5 ⟨rfl, hb⟩
  have HX5 := hid_of (HX4.out.on hb)
  clear hb HX4 HI
  obtain ⟨X, hX⟩ : ∃ X, X = w4.heap.size := ⟨_, rfl⟩
  rw [← hX] at HX5 ⊢
  clear hX
  go_wp2_with fail
  refine wp_region_whole (by kernel_rfl) (by kernel_rfl) (by kernel_rfl) (by kernel_rfl) (Flat (AtX w (.slice aa os.length ca) (.slice ag xs.length cg) p t r X (.slice (some ⟨gb4, 0, none⟩) os.length os.length) (.slice (some ⟨gu4, 0, none⟩) xs.length xs.length) os xs) (gEq (LikeH p t r os xs) [hpV (.slice (some ⟨gb4, 0, none⟩) os.length os.length) p t r (.slice (some ⟨gu4, 0, none⟩) xs.length xs.length), hpV (.slice aa os.length ca) p t r (.slice ag xs.length cg), undef, .bool true, .bool false])) (flat_start (HX5.out.on (below_draw _))) ?_ ?_
  · refine ⟨?_, ?_, ?_, ?_, ?_, trivial⟩
    · intro b0 us wz L hslot hoth hLi hR hcl hdo K hK
      have s7 : b0.tmps.getD 7 undef = .pointer (some ⟨X, 0, none⟩) := hoth 7 (by rfl)
      obtain ⟨k0, k1, k2, k3, k4⟩ := cells5 hR.1.box
      clear hslot hoth hdo hcl hLi
      refine guard_none (by rfl) ?_
      go_simp
      exact hK _ _ (flat_mark (hR.1) (fun _ _ h => h) hR.2 ⟨fun h => absurd h (by decide), fun _ => rfl⟩)
    · intro b0 us wz L hslot hoth hLi hR hcl hdo K hK
      have s2 : b0.tmps.getD 2 undef = .pointer (some ⟨w.heap.size, 0, none⟩) := hoth 2 (by rfl)
      obtain ⟨k0, k1, k2, k3, k4⟩ := cells5 hR.1.arg
      clear hslot hoth hdo hcl hLi
      refine guard_none (by rfl) ?_
      go_simp
      exact hK _ _ (flat_mark (hR.1) (fun _ _ h => h) hR.2 ⟨fun h => absurd h (by decide), fun _ => rfl⟩)
    · intro b0 us wz L hslot hoth hLi hR hcl hdo K hK
      have s27 : b0.tmps.getD 27 undef = hpV (.slice aa os.length ca) p t r (.slice ag xs.length cg) := (hslot 1 27 (by rfl)).trans ((hR.2 1 (done_at hdo 1 (by rfl))).2 (by decide))
      clear hslot hoth hdo hcl hLi
      refine guard_none (by rfl) ?_
      go_simp
      refine (HT.out _ hR.1.base).mono ?_
      rintro e w' ⟨⟨u, rfl, hu⟩, hb⟩
      exact hK _ _ (flat_mark (hR.1.on hb) (gEq_on (fun _ h => h.on hb) _) hR.2 ⟨fun _ => hu, fun h => absurd rfl h⟩)
    · intro b0 us wz L hslot hoth hLi hR hcl hdo K hK
      obtain ⟨A2, G2, hu, hA2, hG2⟩ := (hR.2 2 (done_at hdo 2 (by rfl))).1 rfl
      have s26 : b0.tmps.getD 26 undef = hpV (.slice (some ⟨gb4, 0, none⟩) os.length os.length) p t r (.slice (some ⟨gu4, 0, none⟩) xs.length xs.length) := (hslot 0 26 (by rfl)).trans ((hR.2 0 (done_at hdo 0 (by rfl))).2 (by decide))
      have s28 : b0.tmps.getD 28 undef = hpV A2 p t r G2 := (hslot 2 28 (by rfl)).trans hu
      clear hslot hoth hdo hcl hLi
      refine guard_none (by rfl) ?_
      go_simp
      refine (HQ.out _ _ _ _ _ hR.1.ar hA2 hR.1.gr hG2).mono ?_
      rintro e w' ⟨rfl, hb⟩
      exact hK _ _ (flat_mark (hR.1.on hb) (gEq_on (fun _ h => h.on hb) _) hR.2 ⟨fun h => absurd h (by decide), fun _ => rfl⟩)
    · intro b0 us wz L hslot hoth hLi hR hcl hdo K hK
      have s29 : b0.tmps.getD 29 undef = .bool true := (hslot 3 29 (by rfl)).trans ((hR.2 3 (done_at hdo 3 (by rfl))).2 (by decide))
      clear hslot hoth hdo hcl hLi
      refine guard_none (by rfl) ?_
      go_simp
      exact hK _ _ (flat_mark (hR.1) (fun _ _ h => h) hR.2 ⟨fun h => absurd h (by decide), fun _ => rfl⟩)
  · intro us wn L hall hR a' ha'
    have g0 : us 0 = hpV (.slice (some ⟨gb4, 0, none⟩) os.length os.length) p t r (.slice (some ⟨gu4, 0, none⟩) xs.length xs.length) := (hR.2 0 (hall 0 (by decide))).2 (by decide)
    have g1 : us 1 = hpV (.slice aa os.length ca) p t r (.slice ag xs.length cg) := (hR.2 1 (hall 1 (by decide))).2 (by decide)
    obtain ⟨A2, G2, g2, _, _⟩ := (hR.2 2 (hall 2 (by decide))).1 rfl
    have g3 : us 3 = .bool true := (hR.2 3 (hall 3 (by decide))).2 (by decide)
    have g4 : us 4 = .bool false := (hR.2 4 (hall 4 (by decide))).2 (by decide)
    have HX := hid_of hR.1
    clear hR hall
    simp only [putAll, g0, g1, g2, g3, g4] at ha'
    subst ha'
    go_frame
    go_wp2
    go_ret
    exact ⟨rfl, HX.out.base⟩
set_option maxHeartbeats 2000000 in
theorem big (a : Value) (p t r : Int) (g : Value) (os : List Ob) (xs : List Int) (z : Int) (w : World) (ha : IsArena w a os) (hx : IsInts w g xs) (hm : os.length ≤ maxLen) (hn : xs.length ≤ maxLen) (hf : ∀ i, Sound8 (obAt os i)) (hr : -9223372036854775808 ≤ r ∧ r ≤ 9223372036854775807) (ht : -9223372036854775808 ≤ t ∧ t ≤ 9223372036854775807) (hz : -9223372036854775808 ≤ z ∧ z ≤ 9223372036854775807) (h : ¬ hpN os xs ≤ 1048576) :
    Calls Tryz.prog 6 #[hpV a p t r g, .int .i64 z] w fun e w' => e = .returned (.bool true) ∧ Below w.heap.size w w' := by
  unfold maxLen at hm hn
  have HC : Hid (∀ w', Below w.heap.size w w' → Calls Tryz.prog 7 #[hpV a p t r g, .int .i64 1048576] w' fun e w'' => e = .returned (.int .i64 (-1)) ∧ Below w'.heap.size w' w'') := fun w' hb => by
    have e := szHeap_any a p t r g os xs 1048576 w' (ha.on hb) (hx.on hb) (by omega) (by omega) (by omega) (wide8 hf) (by omega)
    rw [szOf_no (by omega)] at e
    exact e
  obtain ⟨aa, ca, rfl, _, _⟩ := id ha
  obtain ⟨ag, cg, rfl, _, _⟩ := id hx
  clear ha hx hm hn hf h hr ht
  go_enter Tryz.func6, Tryz.ntmps6
  go_wp2_with fail
  refine (HC.out _ (by go_grown)).mono ?_
  rintro e w1 ⟨rfl, hb⟩
  have HB1 : Hid (Below w.heap.size w w1) := below_more (by go_grown) hb
  clear hb HC
  go_wp2
  go_ret
  exact ⟨rfl, HB1.out⟩
end LGcSafe
theorem walkGcSafe (a : Value) (p t r : Int) (g : Value) (os : List Ob) (xs : List Int) (z : Int) (w : World) (ha : IsArena w a os) (hx : IsInts w g xs) (hm : os.length ≤ maxLen) (hn : xs.length ≤ maxLen) (hf : ∀ i, Sound8 (obAt os i)) (hr : -9223372036854775808 ≤ r ∧ r ≤ 9223372036854775807) (ht : -9223372036854775808 ≤ t ∧ t ≤ 9223372036854775807) (hz : -9223372036854775808 ≤ z ∧ z ≤ 9223372036854775807) :
    Calls Tryz.prog 6 #[hpV a p t r g, .int .i64 z] w fun e w' => e = .returned (.bool true) ∧ Below w.heap.size w w' := by
  by_cases h : hpN os xs ≤ 1048576
  · exact LGcSafe.small a p t r g os xs z w ha hx hm hn hf hr ht hz h
  · exact LGcSafe.big a p t r g os xs z w ha hx hm hn hf hr ht hz h
namespace GcSafe
set_option maxRecDepth 100000 in
theorem lifted (os : Os) (started : os.Started) (H : Type) (enc : TypeId × Value → H) :
    ReturnsInHanded {} Tryz.checked os 6 .any (Rows.fnExactGcSafeSpec.pre6 enc Tryz.prog Tryz.f6 Rows.fnExactGcSafeRow.domain false) (Rows.fnExactGcSafeSpec.post enc Tryz.prog Tryz.f6 false true false false) := by
  refine returnsInHanded_of_change (C := Tryz.checked) own started (by kernel_rfl) Tryz.func6
    (ChangeSpec.witness6 (enc := enc) (C := Tryz.checked) false ⟨#[], #[.agg #[.slice none 0 0, .int .i64 0, .int .i64 0, .int .i64 0, .slice none 0 0], .int .i64 0], []⟩ 8 (by kernel_rfl) (by kernel_rfl) (by kernel_rfl) (by kernel_rfl)) ?_
  intro W base args ds gs before hval0 hW hcnd _
  have hval : ∀ (j : Nat) t v, Tryz.f6.params[j]? = some t → args[j]? = some v → Value.okWide Tryz.prog W .any base t v := hval0
  have hW' := hW
  obtain ⟨p, q, hA0, hV, rfl, hfz, hnd⟩ := hW
  have hA : DataW.TrodAll enc Tryz.prog W 0 (fun _ => true) true Tryz.f6.params.toList args.toList ds p := hA0
  rw [Tryz.params6] at hA hval
  obtain ⟨v0, vs0, d0, ds0, p0, q0, hargs, rfl, rfl, h0, r0⟩ := trodAll_cons hA
  obtain ⟨v1, vs1, d1, ds1, p1, q1, hargs1, rfl, rfl, h1, r1⟩ := trodAll_cons r0
  obtain ⟨rfl, rfl, rfl⟩ := trodAll_nil r1
  obtain rfl : args = #[v0, v1] := by cases args; simp_all
  obtain ⟨rfl, rfl⟩ := trodVars_none hV
  obtain ⟨a0, x0, t0, y0, g0, os0, xs0, rfl, i0, j0, m0, n0, f0, e0, b0⟩ := open_heap (hval 0 27 v0 rfl rfl) h0
  have k0 := h0
  have lt0 : ∀ x ∈ p0, x.block < W.heap.size := by obtain ⟨m, hm⟩ := k0; exact DataW.trod_lt m _ _ _ hm
  obtain ⟨z1, rfl, f1⟩ := open_int64 (hval 1 3 v1 rfl rfl) h1
  have k1 := h1
  have lt1 : ∀ x ∈ p1, x.block < W.heap.size := by obtain ⟨m, hm⟩ := k1; exact DataW.trod_lt m _ _ _ hm
  clear hA0 hval0
  refine (walkGcSafe a0 x0 t0 y0 g0 os0 xs0 z1 W i0 j0 m0 n0 f0 e0 b0 f1).mono fun e W' ⟨he, bel⟩ => ?_
  subst he
  exact ⟨_, rfl, _, _, _, [], _, [], hW', trodAll_mk1 (shut_bool Tryz.underlying4 _), (trodAll_cons_mk (Below.trod laidOut (by kernel_rfl) (of_decide_eq_true (by kernel_rfl)) k0 bel lt0) (trodAll_cons_mk (Below.trod laidOut (by kernel_rfl) (of_decide_eq_true (by kernel_rfl)) k1 bel lt1) trodAll_mk0)), rfl, bel.frame _, fun h => by cases h⟩

theorem over : Rows.fnExactGcSafeRow.holds Tryz.pinned (OpenSpec.ofChange Rows.fnExactGcSafeSpec) :=
  OpenClaim.holds_of_wide 6 Tryz.f6 rfl rfl rfl rfl rfl rfl rfl ⟨rfl, rfl, rfl, rfl, rfl⟩ rfl rfl rfl rfl rfl (by kernel_rfl) Tryz.func6 (by kernel_rfl)
    (of_decide_eq_true (by kernel_rfl)) (by unfold Func.isWrapper; first | (rw [if_pos (by decide +kernel)]; kernel_rfl) | (rw [if_neg (by decide +kernel)]; exact ⟨rfl, rfl⟩))
    (fun os started H enc _ => lifted os started H enc)
end GcSafe
theorem gcSafe_holds : Rows.FnExactGcSafeSaid := GcSafe.over
#print axioms gcSafe_holds
end Go.Proofs.YtbdljoldblpffaaGreat
