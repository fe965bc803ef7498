/-
  The law of AmtPart: at every amount and every number the program answers as the model, with no condition.
-/
import Derived.Test.YtiolhhamedjmgabRows
import Derived.WalkKit
import Derived.WalkSpells
import Derived.WalkLawsBesides
import Derived.Outline
import Derived.ProofKit
import Derived.Laws.ResultCell
import Derived.BigQuiet
import Derived.WalkSmall
import Derived.Handy
import Derived.OpenShut
import Derived.ShutString
import Derived.ChangeOld
import Derived.Below
import Derived.Deep.Strs
namespace Go.Proofs.Ytiolhhamedjmgab
open Go.ChangeShapes Go.WideShapes Go.ChangeAt Go.RowKit
set_option linter.unusedVariables false

/-- Three numbers. -/
abbrev amt (a b c : Int) : Value := .agg #[.int .i64 a, .int .i64 b, .int .i64 c]
/-- Its block, as an amount and as an array. -/
abbrev boxA (a b c : Int) : Obj := .cells #[.int .i64 a, .int .i64 b, .int .i64 c] 25 (0, 0)
abbrev boxN (a b c : Int) : Obj := .cells #[.int .i64 a, .int .i64 b, .int .i64 c] 29 (0, 0)

theorem hid_of {p : Prop} (h : p) : Hid p := h
/-- Three numbers in a block. -/
structure Box3 (w : World) (g : Nat) (t : TypeId) (a b c : Int) : Prop where
  at' : w.heap[g]? = some (.cells #[.int .i64 a, .int .i64 b, .int .i64 c] t (0, 0))
theorem Box3.c0 {w : World} {g : Nat} {t : TypeId} {a b c : Int} (h : Box3 w g t a b c) : w.cell? ⟨g, 0, none⟩ = some (.int .i64 a) := by simp [World.cell?, h.at']
theorem Box3.c1 {w : World} {g : Nat} {t : TypeId} {a b c : Int} (h : Box3 w g t a b c) : w.cell? ⟨g, 1, none⟩ = some (.int .i64 b) := by simp [World.cell?, h.at']
theorem Box3.c2 {w : World} {g : Nat} {t : TypeId} {a b c : Int} (h : Box3 w g t a b c) : w.cell? ⟨g, 2, none⟩ = some (.int .i64 c) := by simp [World.cell?, h.at']
theorem Box3.f0 {w : World} {g : Nat} {t : TypeId} {a b c : Int} (h : Box3 w g t a b c) (i : Nat) : w.frozen? ⟨g, i, none⟩ = false := by simp [World.frozen?, h.at']
theorem Box3.on {w w' : World} {g : Nat} {t : TypeId} {a b c : Int} (h : Box3 w g t a b c) {B : Nat} (hb : Below B w w') (hg : g < B) : Box3 w' g t a b c := ⟨by rw [hb.block g hg]; exact h.at'⟩

theorem isRes_any (k : Int) (w : World) :
    Calls Try.prog 7 #[.int .i64 k] w fun r w' => r = .returned (.bool (decide (0 ≤ k) && decide (k < 3))) ∧ w = w' := by
  by_cases h1 : 0 ≤ k
  · by_cases h2 : k < 3
    · go_enter Try.func7, Try.ntmps7
      go_wp2
      go_ret
      exact ⟨by simp [h1, h2], rfl⟩
    · go_enter Try.func7, Try.ntmps7
      go_wp2
      go_ret
      exact ⟨by simp [h2], rfl⟩
  · go_enter Try.func7, Try.ntmps7
    go_wp2
    go_ret
    exact ⟨by simp; omega, rfl⟩
theorem numbersOf_in (a b c : Int) (w : World) :
    Calls Try.prog 8 #[amt a b c] w fun e w' => e = .returned (amt a b c) ∧ w' = (w.alloc (boxA a b c)).alloc (boxN a b c) := by
  go_enter Try.func8, Try.ntmps8
  go_wp2
  go_returns
  exact ⟨rfl, rfl⟩
theorem toAmt_any (a b c : Int) (w : World) :
    Calls Try.prog 5 #[amt a b c] w fun e w' => e = .returned (amt a b c) ∧ Below w.heap.size w w' := by
  go_enter Try.func5, Try.ntmps5
  go_wp2
  go_returns
  exact ⟨rfl, by go_grown⟩
theorem index3_0 (a b c : Int) (w : World) : (Instr.index 29 (amt a b c) (.int .i64 0)).run Try.prog w = .ok (.int .i64 a) w := by kernel_rfl
theorem index3_1 (a b c : Int) (w : World) : (Instr.index 29 (amt a b c) (.int .i64 1)).run Try.prog w = .ok (.int .i64 b) w := by kernel_rfl
theorem index3_2 (a b c : Int) (w : World) : (Instr.index 29 (amt a b c) (.int .i64 2)).run Try.prog w = .ok (.int .i64 c) w := by kernel_rfl
/-- AmtPart of a right place. -/
theorem implPart_any (a b c k x : Int) (w : World) (h : (k = 0 ∧ x = a) ∨ (k = 1 ∧ x = b) ∨ (k = 2 ∧ x = c)) :
    Calls Try.prog 6 #[amt a b c, .int .i64 k] w fun r w' => r = .returned (.int .i64 x) ∧ Below w.heap.size w w' := by
  have C0 := fun w => isRes_any k w
  have C1 := fun w => numbersOf_in a b c w
  have i0 := index3_0 a b c
  have i1 := index3_1 a b c
  have i2 := index3_2 a b c
  rcases h with ⟨rfl, rfl⟩ | ⟨rfl, rfl⟩ | ⟨rfl, rfl⟩
  all_goals
    go_enter Try.func6, Try.ntmps6
    go_wp2_with fail
    refine (C0 _).mono ?_
    rintro r w1 ⟨rfl, rfl⟩
    go_wp2_with fail
    refine (C1 _).mono ?_
    rintro r w1 ⟨rfl, rfl⟩
    go_wp2
    go_returns
    exact ⟨rfl, by go_grown⟩
/-- AmtPart of no place. -/
theorem implPart_no (a b c k : Int) (w : World) (h : k < 0 ∨ 2 < k) :
    Calls Try.prog 6 #[amt a b c, .int .i64 k] w fun r w' => r = .returned (.int .i64 0) ∧ Below w.heap.size w w' := by
  have C0 := fun w => isRes_any k w
  have hf : (decide (0 ≤ k) && decide (k < 3)) = false := by simp; omega
  rw [hf] at C0
  clear h hf
  go_enter Try.func6, Try.ntmps6
  go_wp2_with fail
  refine (C0 _).mono ?_
  rintro r w1 ⟨rfl, rfl⟩
  go_wp2
  go_returns
  exact ⟨rfl, by go_grown⟩
theorem own : ownKnob Try.prog.godebug = none := by kernel_rfl
theorem laidOut : laidOutB Try.prog = true := by kernel_rfl
theorem cells23 : Try.prog.cellsOf 23 = 3 := by kernel_rfl
theorem cells3 : Try.prog.cellsOf 3 = 1 := by kernel_rfl
theorem under23 : ∃ f0 f1 f2 : Field, Try.prog.underlying 23 = some (.struct #[f0, f1, f2]) ∧ f0.offset = 0 ∧ f1.offset = 1 ∧ f2.offset = 2 ∧ f0.type = 3 ∧ f1.type = 3 ∧ f2.type = 3 := ⟨_, _, _, Try.underlying23, rfl, rfl, rfl, rfl, rfl, rfl⟩
theorem open_int64 {H : Type} {enc : TypeId × Value → H} {W : World} {base b0 : Nat} {spare : Nat → Bool} {held : Bool} {v : Value} {d : DataW H} {p : List MemPlace}
    (hv : Value.okWide Try.prog W .any b0 3 v) (h : DataW.Trod enc Try.prog W base spare held 3 v d p) : ∃ n, v = .int .i64 n ∧ True := by
  obtain ⟨n, rfl, _, _, hw⟩ := open_int Try.underlying3 hv h
  exact ⟨n, rfl, trivial⟩
theorem open_amt {H : Type} {enc : TypeId × Value → H} {W : World} {base : Nat} {spare : Nat → Bool} {held : Bool} {v : Value} {d : DataW H} {p : List MemPlace}
    (hv : Value.okWide Try.prog W .any base 23 v) (h : DataW.Trod enc Try.prog W 0 spare held 23 v d p) : ∃ a b c, v = amt a b c := by
  obtain ⟨f0, f1, f2, hu, o0, o1, o2, t0, t1, t2⟩ := under23
  obtain ⟨cs, rfl, hcs⟩ := okWide_struct hu hv
  rw [cells23] at hcs
  obtain ⟨x, y, z, rfl⟩ : ∃ x y z, cs = #[x, y, z] := by
    match cs, hcs with
    | ⟨[x, y, z]⟩, _ => exact ⟨x, y, z, rfl⟩
  obtain ⟨fuel, hf⟩ := h
  obtain ⟨y0, y1, y2, m, hy, hlen, h0, h1, h2⟩ := Go.Deep.trod_struct3 hu hf
  rw [t0, o0, cells3] at h0
  rw [t1, o1, cells3] at h1
  rw [t2, o2, cells3] at h2
  obtain ⟨a, ha, _⟩ := DataW.trod_int Try.underlying3 h0
  obtain ⟨b, hb, _⟩ := DataW.trod_int Try.underlying3 h1
  obtain ⟨c, hc, _⟩ := DataW.trod_int Try.underlying3 h2
  have ea : x = .int .i64 a := by simpa [Value.cells] using ha
  have eb : y = .int .i64 b := by simpa [Value.cells] using hb
  have ec : z = .int .i64 c := by simpa [Value.cells] using hc
  exact ⟨a, b, c, by rw [ea, eb, ec]⟩
/-- The model's AmtPart of a right place, and of no place. -/
theorem specPart_any (a b c k x : Int) (w : World) (h : (k = 0 ∧ x = a) ∨ (k = 1 ∧ x = b) ∨ (k = 2 ∧ x = c)) :
    Calls Try.prog 4 #[amt a b c, .int .i64 k] w fun r w' => r = .returned (.int .i64 x) ∧ Below w.heap.size w w' := by
  rcases h with ⟨rfl, rfl⟩ | ⟨rfl, rfl⟩ | ⟨rfl, rfl⟩
  all_goals
    go_enter Try.func4, Try.ntmps4
    go_wp2
    go_returns
    exact ⟨rfl, by go_grown⟩
theorem specPart_no (a b c k : Int) (w : World) (h0 : ¬ k = 0) (h1 : ¬ k = 1) (h2 : ¬ k = 2) :
    Calls Try.prog 4 #[amt a b c, .int .i64 k] w fun r w' => r = .returned (.int .i64 0) ∧ Below w.heap.size w w' := by
  go_enter Try.func4, Try.ntmps4
  go_wp2
  go_returns
  exact ⟨rfl, by go_grown⟩
set_option maxHeartbeats 1000000 in
theorem walkPart (a b c k : Int) (w : World) :
    Calls Try.prog 3 #[amt a b c, .int .i64 k] w fun e w' => e = .returned (.bool true) ∧ Below w.heap.size w w' := by
  have hx : ∃ x : Int, (∀ w, Calls Try.prog 4 #[amt a b c, .int .i64 k] w fun r w' => r = .returned (.int .i64 x) ∧ Below w.heap.size w w') ∧ (∀ w, Calls Try.prog 6 #[amt a b c, .int .i64 k] w fun r w' => r = .returned (.int .i64 x) ∧ Below w.heap.size w w') := by
    by_cases h0 : k = 0
    · exact ⟨a, fun w => specPart_any a b c k a w (.inl ⟨h0, rfl⟩), fun w => implPart_any a b c k a w (.inl ⟨h0, rfl⟩)⟩
    by_cases h1 : k = 1
    · exact ⟨b, fun w => specPart_any a b c k b w (.inr (.inl ⟨h1, rfl⟩)), fun w => implPart_any a b c k b w (.inr (.inl ⟨h1, rfl⟩))⟩
    by_cases h2 : k = 2
    · exact ⟨c, fun w => specPart_any a b c k c w (.inr (.inr ⟨h2, rfl⟩)), fun w => implPart_any a b c k c w (.inr (.inr ⟨h2, rfl⟩))⟩
    · exact ⟨0, fun w => specPart_no a b c k w h0 h1 h2, fun w => implPart_no a b c k w (by omega)⟩
  obtain ⟨x, CS, CI⟩ := hx
  have CT := fun w => toAmt_any a b c w
  have HB0 : Hid (Below w.heap.size w (w.alloc (.cells #[.int .i64 a, .int .i64 b, .int .i64 c] 23 (0, 0)))) := (Below.refl _ _).alloc (Nat.le_refl _) _
  have HX0 : Hid (Box3 (w.alloc (.cells #[.int .i64 a, .int .i64 b, .int .i64 c] 23 (0, 0))) w.heap.size 23 a b c) := ⟨heap_alloc_new w _⟩
  go_enter Try.func3, Try.ntmps3
  go_wp2_with fail
  refine (CT _).mono ?_
  rintro e w1 ⟨rfl, hb⟩
  have HX1 : Hid (Box3 w1 w.heap.size 23 a b c) := HX0.out.on hb (by simp)
  have HB1 : Hid (Below w.heap.size w w1) := HB0.out.trans (hb.mono HB0.out.size)
  clear hb HX0 HB0
  go_wp2_with fail
  refine (CS _).mono ?_
  rintro e w2 ⟨rfl, hb⟩
  have HX2 : Hid (Box3 w2 w.heap.size 23 a b c) := HX1.out.on hb (lt_of_block HX1.out.at')
  have HB2 : Hid (Below w.heap.size w w2) := HB1.out.trans (hb.mono HB1.out.size)
  clear hb HX1 HB1
  have k0 := HX2.out.c0
  have k1 := HX2.out.c1
  have k2 := HX2.out.c2
  go_wp2_with fail
  refine (CT _).mono ?_
  rintro e w3 ⟨rfl, hb⟩
  have HB3 : Hid (Below w.heap.size w w3) := HB2.out.trans (hb.mono HB2.out.size)
  clear hb HX2 HB2 k0 k1 k2
  go_wp2_with fail
  refine (CI _).mono ?_
  rintro e w4 ⟨rfl, hb⟩
  have HB4 : Hid (Below w.heap.size w w4) := HB3.out.trans (hb.mono HB3.out.size)
  clear hb HB3
  go_wp2
  go_ret
  exact ⟨rfl, HB4.out⟩
namespace AmtPart
set_option maxRecDepth 100000 in
theorem lifted (os : Os) (started : os.Started) (H : Type) (enc : TypeId × Value → H) :
    ReturnsInHanded {} Try.checked os 3 .any (Rows.fnExactAmtPartSpec.pre6 enc Try.prog Try.f3 Rows.fnExactAmtPartRow.domain false) (Rows.fnExactAmtPartSpec.post enc Try.prog Try.f3 false true false false) := by
  refine returnsInHanded_of_change (C := Try.checked) own started (by kernel_rfl) Try.func3
    (ChangeSpec.witness6 (enc := enc) (C := Try.checked) false ⟨#[], #[.agg #[.int .i64 0, .int .i64 0, .int .i64 0], .int .i64 0], []⟩ 8 (by kernel_rfl) (by kernel_rfl) (by kernel_rfl) (by kernel_rfl)) ?_
  intro W base args ds gs before hval0 hW hcnd _
  have hval : ∀ (j : Nat) t v, Try.f3.params[j]? = some t → args[j]? = some v → Value.okWide Try.prog W .any base t v := hval0
  have hW' := hW
  obtain ⟨p, q, hA0, hV, rfl, hfz, hnd⟩ := hW
  have hA : DataW.TrodAll enc Try.prog W 0 (fun _ => true) true Try.f3.params.toList args.toList ds p := hA0
  rw [Try.params3] at hA hval
  obtain ⟨v0, vs0, d0, ds0, p0, q0, hargs, rfl, rfl, h0, r0⟩ := trodAll_cons hA
  obtain ⟨v1, vs1, d1, ds1, p1, q1, hargs1, rfl, rfl, h1, r1⟩ := trodAll_cons r0
  obtain ⟨rfl, rfl, rfl⟩ := trodAll_nil r1
  obtain rfl : args = #[v0, v1] := by cases args; simp_all
  obtain ⟨rfl, rfl⟩ := trodVars_none hV
  obtain ⟨a0, b0, c0, rfl⟩ := open_amt (hval 0 23 v0 rfl rfl) h0
  have k0 := h0
  have lt0 : ∀ x ∈ p0, x.block < W.heap.size := by obtain ⟨m, hm⟩ := k0; exact DataW.trod_lt m _ _ _ hm
  obtain ⟨z1, rfl, _⟩ := open_int64 (hval 1 3 v1 rfl rfl) h1
  have k1 := h1
  have lt1 : ∀ x ∈ p1, x.block < W.heap.size := by obtain ⟨m, hm⟩ := k1; exact DataW.trod_lt m _ _ _ hm
  clear hA0 hval0
  refine (walkPart a0 b0 c0 z1 W).mono fun e W' ⟨he, bel⟩ => ?_
  subst he
  exact ⟨_, rfl, _, _, _, [], _, [], hW', trodAll_mk1 (shut_bool Try.underlying4 _), (trodAll_cons_mk (Below.trod laidOut (by kernel_rfl) (of_decide_eq_true (by kernel_rfl)) k0 bel lt0) (trodAll_cons_mk (Below.trod laidOut (by kernel_rfl) (of_decide_eq_true (by kernel_rfl)) k1 bel lt1) trodAll_mk0)), rfl, bel.frame _, fun h => by cases h⟩

theorem over : Rows.fnExactAmtPartRow.holds Try.pinned (OpenSpec.ofChange Rows.fnExactAmtPartSpec) :=
  OpenClaim.holds_of_wide 3 Try.f3 rfl rfl rfl rfl rfl rfl rfl ⟨rfl, rfl, rfl, rfl, rfl⟩ rfl rfl rfl rfl rfl (by kernel_rfl) Try.func3 (by kernel_rfl)
    (of_decide_eq_true (by kernel_rfl)) (by unfold Func.isWrapper; first | (rw [if_pos (by decide +kernel)]; kernel_rfl) | (rw [if_neg (by decide +kernel)]; exact ⟨rfl, rfl⟩))
    (fun os started H enc _ => lifted os started H enc)
end AmtPart
theorem amtPart_holds : Rows.FnExactAmtPartSaid := AmtPart.over
#print axioms amtPart_holds
end Go.Proofs.Ytiolhhamedjmgab
