/-
  The law of TapFlow: at every tap and every amount the program answers as the model, with no condition.
-/
import Derived.Test.YtlemhlioidmanaaReadP
import Derived.Test.YtlemhlioidmanaaFlow
import Derived.Test.YtlemhlioidmanaaCallR
namespace Go.Proofs.Ytlemhlioidmanaa
open Go.ChangeShapes Go.WideShapes Go.ChangeAt Go.RowKit
set_option linter.unusedVariables false

/-- A tap of the laws' own, in its block. -/
structure TapL (w : World) (g : Nat) (r p q h k t : Int) : Prop where
  at' : w.heap[g]? = some (boxTL r p q h k t)
theorem TapL.on {w w' : World} {g : Nat} {r p q h k t : Int} (x : TapL w g r p q h k t) (hb : Below w.heap.size w w') : TapL w' g r p q h k t := ⟨keep x.at' hb⟩
theorem TapL.c0 {w : World} {g : Nat} {r p q h k t : Int} (x : TapL w g r p q h k t) : w.cell? ⟨g, 0, none⟩ = some (.int .i64 r) := by simp [World.cell?, x.at']
theorem TapL.c1 {w : World} {g : Nat} {r p q h k t : Int} (x : TapL w g r p q h k t) : w.cell? ⟨g, 1, none⟩ = some (.int .i64 p) := by simp [World.cell?, x.at']
theorem TapL.c2 {w : World} {g : Nat} {r p q h k t : Int} (x : TapL w g r p q h k t) : w.cell? ⟨g, 2, none⟩ = some (.int .i64 q) := by simp [World.cell?, x.at']
theorem TapL.c3 {w : World} {g : Nat} {r p q h k t : Int} (x : TapL w g r p q h k t) : w.cell? ⟨g, 3, none⟩ = some (.int .i64 h) := by simp [World.cell?, x.at']
theorem TapL.c4 {w : World} {g : Nat} {r p q h k t : Int} (x : TapL w g r p q h k t) : w.cell? ⟨g, 4, none⟩ = some (.int .i64 k) := by simp [World.cell?, x.at']
theorem TapL.c5 {w : World} {g : Nat} {r p q h k t : Int} (x : TapL w g r p q h k t) : w.cell? ⟨g, 5, none⟩ = some (.int .i64 t) := by simp [World.cell?, x.at']
set_option maxHeartbeats 2000000 in
theorem walkTapFlow (r p q h k t a b c : Int) (w : World) :
    Calls Try.prog 4 #[tapV r p q h k t, amt a b c] w fun e w' => e = .returned (.bool true) ∧ Below w.heap.size w w' := by
  have CT := fun w => toTap_any r p q h k t w
  have CA := fun w => toAmt_any a b c w
  have CS := fun w => specFlow_any r p q h k t a b c w
  have CI := fun w => implFlow_any r p q h k t a b c w
  obtain ⟨n, hn⟩ : ∃ n, n = flowOf r p q h k t a b c := ⟨_, rfl⟩
  rw [← hn] at CS CI
  clear hn
  have hne : (n != n) = false := by simp
  have hb0 : Below w.heap.size w ((w.alloc (boxTL r p q h k t)).alloc (boxL a b c)) := by go_grown
  have HB0 : Hid (Below w.heap.size w ((w.alloc (boxTL r p q h k t)).alloc (boxL a b c))) := hb0
  have HT0 : Hid (TapL ((w.alloc (boxTL r p q h k t)).alloc (boxL a b c)) w.heap.size r p q h k t) := (⟨heap_alloc_new w _⟩ : TapL (w.alloc (boxTL r p q h k t)) w.heap.size r p q h k t).on (below_alloc _ _)
  have HA0 : Hid (Box3 ((w.alloc (boxTL r p q h k t)).alloc (boxL a b c)) (w.heap.size + 1) 29 a b c) := ⟨by have e := heap_alloc_new (w.alloc (boxTL r p q h k t)) (boxL a b c); rw [World.size_alloc] at e; exact e⟩
  clear hb0
  go_enter Try.func4, Try.ntmps4
  go_wp2_with fail
  obtain ⟨V, hV⟩ : ∃ V, V = ((w.alloc (boxTL r p q h k t)).alloc (boxL a b c)) := ⟨_, rfl⟩
  rw [← hV] at HB0 HT0 HA0 ⊢
  clear hV
  refine wp_region_whole (by kernel_rfl) (by kernel_rfl) (by kernel_rfl) (by kernel_rfl) (Flat (fun wz => Below w.heap.size w wz ∧ TapL wz w.heap.size r p q h k t ∧ Box3 wz (w.heap.size + 1) 29 a b c) (gVals [tapV r p q h k t, tapV r p q h k t, amt a b c, amt a b c, .int .i64 n, .int .i64 n])) (flat_start ⟨HB0.out.drew, HT0.out.on (below_draw _), box_on HA0.out (below_draw _)⟩) ?_ ?_
  · refine ⟨?_, ?_, ?_, ?_, ?_, ?_, trivial⟩
    · intro b0 us wz L hslot hoth hLi hR hcl hdo K hK
      have s2 : b0.tmps.getD 2 undef = .pointer (some ⟨w.heap.size, 0, none⟩) := hoth 2 (by rfl)
      have t0 := (hR.1.2.1).c0
      have t1 := (hR.1.2.1).c1
      have t2 := (hR.1.2.1).c2
      have t3 := (hR.1.2.1).c3
      have t4 := (hR.1.2.1).c4
      have t5 := (hR.1.2.1).c5
      clear hslot hoth hdo hcl hLi
      refine guard_none (by rfl) ?_
      go_simp
      exact hK _ _ (flat_mark (hR.1) (fun _ _ h => h) hR.2 rfl)
    · intro b0 us wz L hslot hoth hLi hR hcl hdo K hK
      have s7 : b0.tmps.getD 7 undef = tapV r p q h k t := (hslot 0 7 (by rfl)).trans (hR.2 0 (done_at hdo 0 (by rfl)))
      clear hslot hoth hdo hcl hLi
      refine guard_none (by rfl) ?_
      go_simp
      refine (CT wz).mono ?_
      rintro e w' ⟨rfl, hb⟩
      exact hK _ _ (flat_mark ⟨below_more hR.1.1 hb, hR.1.2.1.on hb, box_on hR.1.2.2 hb⟩ (fun _ _ h => h) hR.2 rfl)
    · intro b0 us wz L hslot hoth hLi hR hcl hdo K hK
      have s3 : b0.tmps.getD 3 undef = .pointer (some ⟨w.heap.size + 1, 0, none⟩) := hoth 3 (by rfl)
      have a0 := (hR.1.2.2).c0
      have a1 := (hR.1.2.2).c1
      have a2 := (hR.1.2.2).c2
      clear hslot hoth hdo hcl hLi
      refine guard_none (by rfl) ?_
      go_simp
      exact hK _ _ (flat_mark (hR.1) (fun _ _ h => h) hR.2 rfl)
    · intro b0 us wz L hslot hoth hLi hR hcl hdo K hK
      have s9 : b0.tmps.getD 9 undef = amt a b c := (hslot 2 9 (by rfl)).trans (hR.2 2 (done_at hdo 2 (by rfl)))
      clear hslot hoth hdo hcl hLi
      refine guard_none (by rfl) ?_
      go_simp
      refine (CA wz).mono ?_
      rintro e w' ⟨rfl, hb⟩
      exact hK _ _ (flat_mark ⟨below_more hR.1.1 hb, hR.1.2.1.on hb, box_on hR.1.2.2 hb⟩ (fun _ _ h => h) hR.2 rfl)
    · intro b0 us wz L hslot hoth hLi hR hcl hdo K hK
      have s8 : b0.tmps.getD 8 undef = tapV r p q h k t := (hslot 1 8 (by rfl)).trans (hR.2 1 (done_at hdo 1 (by rfl)))
      have s10 : b0.tmps.getD 10 undef = amt a b c := (hslot 3 10 (by rfl)).trans (hR.2 3 (done_at hdo 3 (by rfl)))
      clear hslot hoth hdo hcl hLi
      refine guard_none (by rfl) ?_
      go_simp
      refine (CS wz).mono ?_
      rintro e w' ⟨rfl, hb⟩
      exact hK _ _ (flat_mark ⟨below_more hR.1.1 hb, hR.1.2.1.on hb, box_on hR.1.2.2 hb⟩ (fun _ _ h => h) hR.2 rfl)
    · intro b0 us wz L hslot hoth hLi hR hcl hdo K hK
      have s11 : b0.tmps.getD 11 undef = .int .i64 n := (hslot 4 11 (by rfl)).trans (hR.2 4 (done_at hdo 4 (by rfl)))
      clear hslot hoth hdo hcl hLi
      refine guard_none (by rfl) ?_
      go_simp
      exact hK _ _ (flat_mark (hR.1) (fun _ _ h => h) hR.2 rfl)
  · intro us wn L hall hR a' ha'
    have g0 : us 0 = tapV r p q h k t := hR.2 0 (hall 0 (by decide))
    have g1 : us 1 = tapV r p q h k t := hR.2 1 (hall 1 (by decide))
    have g2 : us 2 = amt a b c := hR.2 2 (hall 2 (by decide))
    have g3 : us 3 = amt a b c := hR.2 3 (hall 3 (by decide))
    have g4 : us 4 = .int .i64 n := hR.2 4 (hall 4 (by decide))
    have g5 : us 5 = .int .i64 n := hR.2 5 (hall 5 (by decide))
    have HE := hid_of hR.1
    clear hR hall
    simp only [putAll, g0, g1, g2, g3, g4, g5] at ha'
    subst ha'
    go_frame
    clear HB0 HT0 HA0
    have HF := HE
    clear HE
    repeat (first | (with_reducible refine halt_region (id := 2) ?_) | go_values | go_skip | go_guarded | go_step | go_upon | go_back)
    unfold Halt0
    refine wp_region_whole (by kernel_rfl) (by kernel_rfl) (by kernel_rfl) (by kernel_rfl) (Flat (fun wz => Below w.heap.size w wz ∧ TapL wz w.heap.size r p q h k t ∧ Box3 wz (w.heap.size + 1) 29 a b c) (gVals [tapV r p q h k t, tapV r p q h k t, amt a b c, amt a b c, .int .i64 n, .int .i64 n])) (flat_start ⟨HF.out.1.drew, HF.out.2.1.on (below_draw _), box_on HF.out.2.2 (below_draw _)⟩) ?_ ?_
    · refine ⟨?_, ?_, ?_, ?_, ?_, ?_, trivial⟩
      · intro b0 us wz L hslot hoth hLi hR hcl hdo K hK
        have s2 : b0.tmps.getD 2 undef = .pointer (some ⟨w.heap.size, 0, none⟩) := hoth 2 (by rfl)
        have t0 := (hR.1.2.1).c0
        have t1 := (hR.1.2.1).c1
        have t2 := (hR.1.2.1).c2
        have t3 := (hR.1.2.1).c3
        have t4 := (hR.1.2.1).c4
        have t5 := (hR.1.2.1).c5
        clear hslot hoth hdo hcl hLi
        refine guard_none (by rfl) ?_
        go_simp
        exact hK _ _ (flat_mark (hR.1) (fun _ _ h => h) hR.2 rfl)
      · intro b0 us wz L hslot hoth hLi hR hcl hdo K hK
        have s12 : b0.tmps.getD 12 undef = tapV r p q h k t := (hslot 0 12 (by rfl)).trans (hR.2 0 (done_at hdo 0 (by rfl)))
        clear hslot hoth hdo hcl hLi
        refine guard_none (by rfl) ?_
        go_simp
        refine (CT wz).mono ?_
        rintro e w' ⟨rfl, hb⟩
        exact hK _ _ (flat_mark ⟨below_more hR.1.1 hb, hR.1.2.1.on hb, box_on hR.1.2.2 hb⟩ (fun _ _ h => h) hR.2 rfl)
      · intro b0 us wz L hslot hoth hLi hR hcl hdo K hK
        have s3 : b0.tmps.getD 3 undef = .pointer (some ⟨w.heap.size + 1, 0, none⟩) := hoth 3 (by rfl)
        have a0 := (hR.1.2.2).c0
        have a1 := (hR.1.2.2).c1
        have a2 := (hR.1.2.2).c2
        clear hslot hoth hdo hcl hLi
        refine guard_none (by rfl) ?_
        go_simp
        exact hK _ _ (flat_mark (hR.1) (fun _ _ h => h) hR.2 rfl)
      · intro b0 us wz L hslot hoth hLi hR hcl hdo K hK
        have s14 : b0.tmps.getD 14 undef = amt a b c := (hslot 2 14 (by rfl)).trans (hR.2 2 (done_at hdo 2 (by rfl)))
        clear hslot hoth hdo hcl hLi
        refine guard_none (by rfl) ?_
        go_simp
        refine (CA wz).mono ?_
        rintro e w' ⟨rfl, hb⟩
        exact hK _ _ (flat_mark ⟨below_more hR.1.1 hb, hR.1.2.1.on hb, box_on hR.1.2.2 hb⟩ (fun _ _ h => h) hR.2 rfl)
      · intro b0 us wz L hslot hoth hLi hR hcl hdo K hK
        have s13 : b0.tmps.getD 13 undef = tapV r p q h k t := (hslot 1 13 (by rfl)).trans (hR.2 1 (done_at hdo 1 (by rfl)))
        have s15 : b0.tmps.getD 15 undef = amt a b c := (hslot 3 15 (by rfl)).trans (hR.2 3 (done_at hdo 3 (by rfl)))
        clear hslot hoth hdo hcl hLi
        refine guard_none (by rfl) ?_
        go_simp
        refine (CI wz).mono ?_
        rintro e w' ⟨rfl, hb⟩
        exact hK _ _ (flat_mark ⟨below_more hR.1.1 hb, hR.1.2.1.on hb, box_on hR.1.2.2 hb⟩ (fun _ _ h => h) hR.2 rfl)
      · intro b0 us wz L hslot hoth hLi hR hcl hdo K hK
        have s16 : b0.tmps.getD 16 undef = .int .i64 n := (hslot 4 16 (by rfl)).trans (hR.2 4 (done_at hdo 4 (by rfl)))
        clear hslot hoth hdo hcl hLi
        refine guard_none (by rfl) ?_
        go_simp
        exact hK _ _ (flat_mark (hR.1) (fun _ _ h => h) hR.2 rfl)
    · intro us wn L hall hR a' ha'
      have g0 : us 0 = tapV r p q h k t := hR.2 0 (hall 0 (by decide))
      have g1 : us 1 = tapV r p q h k t := hR.2 1 (hall 1 (by decide))
      have g2 : us 2 = amt a b c := hR.2 2 (hall 2 (by decide))
      have g3 : us 3 = amt a b c := hR.2 3 (hall 3 (by decide))
      have g4 : us 4 = .int .i64 n := hR.2 4 (hall 4 (by decide))
      have g5 : us 5 = .int .i64 n := hR.2 5 (hall 5 (by decide))
      have HE := hid_of hR.1
      clear hR hall
      simp only [putAll, g0, g1, g2, g3, g4, g5] at ha'
      subst ha'
      go_frame
      go_wp2
      go_ret
      exact ⟨rfl, HE.out.1⟩
namespace TapFlow
set_option maxRecDepth 100000 in
theorem lifted (os : Os) (started : os.Started) (H : Type) (enc : TypeId × Value → H) :
    ReturnsInHanded {} Try.checked os 4 .any (Rows.fnExactTapFlowSpec.pre6 enc Try.prog Try.f4 Rows.fnExactTapFlowRow.domain false) (Rows.fnExactTapFlowSpec.post enc Try.prog Try.f4 false true false false) := by
  refine returnsInHanded_of_change (C := Try.checked) own started (by kernel_rfl) Try.func4
    (ChangeSpec.witness6 (enc := enc) (C := Try.checked) false ⟨#[], #[.agg #[.int .i64 0, .int .i64 0, .int .i64 0, .int .i64 0, .int .i64 0, .int .i64 0], .agg #[.int .i64 0, .int .i64 0, .int .i64 0]], []⟩ 8 (by kernel_rfl) (by kernel_rfl) (by kernel_rfl) (by kernel_rfl)) ?_
  intro W base args ds gs before hval0 hW hcnd _
  have hval : ∀ (j : Nat) t v, Try.f4.params[j]? = some t → args[j]? = some v → Value.okWide Try.prog W .any base t v := hval0
  have hW' := hW
  obtain ⟨p, q, hA0, hV, rfl, hfz, hnd⟩ := hW
  have hA : DataW.TrodAll enc Try.prog W 0 (fun _ => true) true Try.f4.params.toList args.toList ds p := hA0
  rw [Try.params4] at hA hval
  obtain ⟨v0, vs0, d0, ds0, p0, q0, hargs, rfl, rfl, h0, r0⟩ := trodAll_cons hA
  obtain ⟨v1, vs1, d1, ds1, p1, q1, hargs1, rfl, rfl, h1, r1⟩ := trodAll_cons r0
  obtain ⟨rfl, rfl, rfl⟩ := trodAll_nil r1
  obtain rfl : args = #[v0, v1] := by cases args; simp_all
  obtain ⟨rfl, rfl⟩ := trodVars_none hV
  obtain ⟨r0, u0, q0, w0, y0, x0, rfl⟩ := open_tap (hval 0 23 v0 rfl rfl) h0
  have k0 := h0
  have lt0 : ∀ x ∈ p0, x.block < W.heap.size := by obtain ⟨m, hm⟩ := k0; exact DataW.trod_lt m _ _ _ hm
  obtain ⟨a1, b1, c1, rfl⟩ := open_amt (hval 1 29 v1 rfl rfl) h1
  have k1 := h1
  have lt1 : ∀ x ∈ p1, x.block < W.heap.size := by obtain ⟨m, hm⟩ := k1; exact DataW.trod_lt m _ _ _ hm
  clear hA0 hval0
  refine (walkTapFlow r0 u0 q0 w0 y0 x0 a1 b1 c1 W ).mono fun e W' ⟨he, bel⟩ => ?_
  subst he
  exact ⟨_, rfl, _, _, _, [], _, [], hW', trodAll_mk1 (shut_bool Try.underlying4 _), (trodAll_cons_mk (Below.trod laidOut (by kernel_rfl) (of_decide_eq_true (by kernel_rfl)) k0 bel lt0) (trodAll_cons_mk (Below.trod laidOut (by kernel_rfl) (of_decide_eq_true (by kernel_rfl)) k1 bel lt1) trodAll_mk0)), rfl, bel.frame _, fun h => by cases h⟩

theorem over : Rows.fnExactTapFlowRow.holds Try.pinned (OpenSpec.ofChange Rows.fnExactTapFlowSpec) :=
  OpenClaim.holds_of_wide 4 Try.f4 rfl rfl rfl rfl rfl rfl rfl ⟨rfl, rfl, rfl, rfl, rfl⟩ rfl rfl rfl rfl rfl (by kernel_rfl) Try.func4 (by kernel_rfl)
    (of_decide_eq_true (by kernel_rfl)) (by unfold Func.isWrapper; first | (rw [if_pos (by decide +kernel)]; kernel_rfl) | (rw [if_neg (by decide +kernel)]; exact ⟨rfl, rfl⟩))
    (fun os started H enc _ => lifted os started H enc)
end TapFlow
theorem tapFlow_holds : Rows.FnExactTapFlowSaid := TapFlow.over
#print axioms tapFlow_holds
end Go.Proofs.Ytlemhlioidmanaa
