/-
  The law of FlowsFor: what the program answers is what the model answers, at every two labels, whatever is owned.
-/
import Derived.Test.YtbahokkofidmeaaIFor
import Derived.Test.YtbahokkofidmeaaSFor
import Derived.Test.YtbahokkofidmeaaKeep
namespace Go.Proofs.Ytbahokkofidmeaa
open Go.ChangeShapes Go.WideShapes Go.ChangeAt Go.RowKit
set_option linter.unusedVariables false

/-- What each operation of the first statement yields. -/
def gSpec (o va vb : Value) (own xs ys : List Int) (ans : Bool) : Nat → Value → World → Prop
  | 0, u, _ => u = o
  | 1, u, w => IsInts w u own
  | 2, u, _ => u = .agg #[va]
  | 3, u, w => ∃ r, u = .agg #[r] ∧ IsInts w r xs
  | 4, u, _ => u = .agg #[vb]
  | 5, u, w => ∃ r, u = .agg #[r] ∧ IsInts w r ys
  | _, u, _ => u = .bool ans
theorem gSpec_on {o va vb : Value} {own xs ys : List Int} {ans : Bool} {w w' : World} (hb : Below w.heap.size w w') : ∀ j u, gSpec o va vb own xs ys ans j u w → gSpec o va vb own xs ys ans j u w'
  | 0, _, h => h
  | 1, _, h => IsInts.on h hb
  | 2, _, h => h
  | 3, _, ⟨r, h1, h2⟩ => ⟨r, h1, h2.on hb⟩
  | 4, _, h => h
  | 5, _, ⟨r, h1, h2⟩ => ⟨r, h1, h2.on hb⟩
  | _ + 6, _, h => h
theorem all8 {p : Nat → Prop} (h0 : p 0) (h1 : p 1) (h2 : p 2) (h3 : p 3) (h4 : p 4) (h5 : p 5) (h6 : p 6) (h7 : p 7) : ∀ i, i < 8 → p i
  | 0, _ => h0 | 1, _ => h1 | 2, _ => h2 | 3, _ => h3 | 4, _ => h4 | 5, _ => h5 | 6, _ => h6 | 7, _ => h7
  | _ + 8, h => absurd h (by omega)

/-- What a law of two labels keeps: its arguments, and its copies in boxes. -/
structure Law3 (w : World) (va vb : Value) (b1 : Nat) (x1 : Value) (xs : List Int) (b2 : Nat) (x2 : Value) (ys : List Int) (wr : World) : Prop where
  two : Two w va vb wr
  l1 : Lab b1 x1 xs wr
  l2 : Lab b2 x2 ys wr
theorem Law3.on {w : World} {va vb : Value} {b1 : Nat} {x1 : Value} {xs : List Int} {b2 : Nat} {x2 : Value} {ys : List Int} {wr w' : World} (h : Law3 w va vb b1 x1 xs b2 x2 ys wr) (hb : Below wr.heap.size wr w') : Law3 w va vb b1 x1 xs b2 x2 ys w' := ⟨h.two.on hb, h.l1.on hb, h.l2.on hb⟩
theorem Law3.drew {w : World} {va vb : Value} {b1 : Nat} {x1 : Value} {xs : List Int} {b2 : Nat} {x2 : Value} {ys : List Int} {wr : World} (h : Law3 w va vb b1 x1 xs b2 x2 ys wr) : Law3 w va vb b1 x1 xs b2 x2 ys wr.drew := h.on (below_draw wr)
/-- What each operation of a comparison yields. -/
def gEq (x v : Value) (xs : List Int) : Nat → Value → World → Prop
  | 0, u, _ => u = .agg #[x]
  | 1, u, _ => u = .agg #[v]
  | 2, u, w => ∃ r, u = .agg #[r] ∧ IsInts w r xs
  | 3, u, _ => u = .bool true
  | _, u, _ => u = .bool false
theorem gEq_on {x v : Value} {xs : List Int} {w w' : World} (hb : Below w.heap.size w w') : ∀ j u, gEq x v xs j u w → gEq x v xs j u w'
  | 0, _, h => h
  | 1, _, h => h
  | 2, _, ⟨r, h1, h2⟩ => ⟨r, h1, h2.on hb⟩
  | 3, _, h => h
  | _ + 4, _, h => h

set_option maxHeartbeats 1000000 in
theorem lawFlowsFor_small (a0 a1 a2 : Option Addr) (n0 c0 n1 c1 n2 c2 : Nat) (own xs ys : List Int) (w : World) (i0 : IsInts w (.slice a0 n0 c0) own) (i1 : IsInts w (.slice a1 n1 c1) xs) (i2 : IsInts w (.slice a2 n2 c2) ys)
    (e0 : n0 = own.length) (e1 : n1 = xs.length) (e2 : n2 = ys.length) (s0 : ¬ (1048576 : Int) < n0) (s1 : (n1 : Int) ≤ 1048576) (s2 : (n2 : Int) ≤ 1048576 - n1) :
    Calls Try.prog 6 #[.slice a0 n0 c0, .agg #[.slice a1 n1 c1], .agg #[.slice a2 n2 c2]] w fun e w' => e = .returned (.bool true) ∧ Below w.heap.size w w' := by
  have T0 := twoW_two w (.slice a1 n1 c1) (.slice a2 n2 c2)
  have C1 := szLabel_wide a1 n1 c1 1048576 (twoW w (.slice a1 n1 c1) (.slice a2 n2 c2)) (by omega) (by omega) (by omega)
  have C2 : Hid (∀ w, _) := fun w => szLabel_wide a2 n2 c2 (1048576 - n1) w (by omega) (by omega) (by omega)
  rw [szOf_yes s1] at C1
  rw [szOf_yes s2] at C2
  have l1 : ¬ (1048576 : Int) - n1 < 0 := by omega
  have l2 : ¬ (1048576 : Int) - n1 - n2 < 0 := by omega
  have ct0 := fun w' (hb : Below w.heap.size w w') => toIntS_any (.slice a0 n0 c0) own w' (i0.on hb) (by omega)
  have ct1 := fun w' (hb : Below w.heap.size w w') => toLabel_any (.slice a1 n1 c1) xs w' (i1.on hb) (by omega)
  have ct2 := fun w' (hb : Below w.heap.size w w') => toLabel_any (.slice a2 n2 c2) ys w' (i2.on hb) (by omega)
  have cs := fun o v u w' h1 h2 h3 => specFlowsFor_any o v u own xs ys w' h1 h2 h3 (by omega) (by omega) (by omega)
  have ci := fun o v u w' h1 h2 h3 => implFlowsFor_any o v u own xs ys w' h1 h2 h3 (by omega)
  have ce0 := fun v u w' h1 h2 => eqIntS_any v u own own w' h1 h2 (by omega)
  have ce1 := fun v u w' h1 h2 => eqLabel_any v u xs xs w' h1 h2 (by omega)
  have ce2 := fun v u w' h1 h2 => eqLabel_any v u ys ys w' h1 h2 (by omega)
  simp only [sameInts_refl] at ce0 ce1 ce2
  obtain ⟨ans, hans⟩ : ∃ b, b = flowsFor own xs ys := ⟨_, rfl⟩
  rw [← hans] at cs ci
  have CT0 : Hid (∀ w', Below w.heap.size w w' → _) := ct0
  have CT1 : Hid (∀ w', Below w.heap.size w w' → _) := ct1
  have CT2 : Hid (∀ w', Below w.heap.size w w' → _) := ct2
  have CS : Hid (∀ o v u w', IsInts w' o own → IsInts w' v xs → IsInts w' u ys → _) := cs
  have CI : Hid (∀ o v u w', IsInts w' o own → IsInts w' v xs → IsInts w' u ys → _) := ci
  have CE0 : Hid (∀ v u w', IsInts w' v own → IsInts w' u own → _) := ce0
  have CE1 : Hid (∀ v u w', IsInts w' v xs → IsInts w' u xs → _) := ce1
  have CE2 : Hid (∀ v u w', IsInts w' v ys → IsInts w' u ys → _) := ce2
  obtain ⟨va, hva⟩ : ∃ v, v = Value.slice a1 n1 c1 := ⟨_, rfl⟩
  obtain ⟨vb, hvb⟩ : ∃ v, v = Value.slice a2 n2 c2 := ⟨_, rfl⟩
  have HT0 : Hid (Two w (.slice a1 n1 c1) (.slice a2 n2 c2) (twoW w (.slice a1 n1 c1) (.slice a2 n2 c2))) := T0
  clear T0 ct0 ct1 ct2 cs ci ce0 ce1 ce2 i0 i1 i2 e0 e1 e2 hans s1 s2 hva hvb
  go_enter Try.func6, Try.ntmps6
  go_wp2_with fail
  refine C1.mono ?_
  rintro e w1 ⟨rfl, hb1⟩
  have HT1 : Hid (Two w (.slice a1 n1 c1) (.slice a2 n2 c2) w1) := HT0.out.on hb1
  have q1 := HT1.out.c1
  clear C1 hb1 HT0
  go_wp2_with fail
  refine (C2.out _).mono ?_
  rintro e w2 ⟨rfl, hb2⟩
  have HT2 : Hid (Two w (.slice a1 n1 c1) (.slice a2 n2 c2) w2) := HT1.out.on hb2
  clear C2 hb2 HT1 q1
  go_wp2_with fail
  refine wp_region_all (by kernel_rfl) (by kernel_rfl) (by kernel_rfl) (Two w (.slice a1 n1 c1) (.slice a2 n2 c2)) (gSpec (.slice a0 n0 c0) (.slice a1 n1 c1) (.slice a2 n2 c2) own xs ys ans) HT2.out.drew ?_ ?_
  · refine ⟨?_, ?_, ?_, ?_, ?_, ?_, ?_, ?_, trivial⟩
    · intro us w3 hB hdeps K hK
      clear hdeps
      simp only [putAll]
      go_simp
      exact hK _ _ hB (fun _ _ h => h) rfl _ (by simp only [putAll]; go_simp)
    · intro us w3 hB hdeps K hK
      have g0 : us 0 = .slice a0 n0 c0 := hdeps.1 rfl
      clear hdeps
      simp only [putAll]
      go_simp
      have C := CT0.out _ hB.below
      refine C.mono ?_
      rintro e w4 ⟨rfl, hr, hb⟩
      exact hK _ _ (hB.on hb) (gSpec_on hb) hr.ints _ (by simp only [putAll]; go_simp)
    · intro us w3 hB hdeps K hK
      have q := hB.c0
      clear hdeps
      simp only [putAll]
      go_simp
      exact hK _ _ hB (fun _ _ h => h) rfl _ (by simp only [putAll]; go_simp)
    · intro us w3 hB hdeps K hK
      have g0 : us 2 = .agg #[.slice a1 n1 c1] := hdeps.1 rfl
      clear hdeps
      simp only [putAll]
      go_simp
      have C := CT1.out _ hB.below
      refine C.mono ?_
      rintro e w4 ⟨g, rfl, hg, hr, hb⟩
      exact hK _ _ (hB.on hb) (gSpec_on hb) ⟨_, rfl, hr.ints⟩ _ (by simp only [putAll]; go_simp)
    · intro us w3 hB hdeps K hK
      have q := hB.c1
      clear hdeps
      simp only [putAll]
      go_simp
      exact hK _ _ hB (fun _ _ h => h) rfl _ (by simp only [putAll]; go_simp)
    · intro us w3 hB hdeps K hK
      have g0 : us 4 = .agg #[.slice a2 n2 c2] := hdeps.1 rfl
      clear hdeps
      simp only [putAll]
      go_simp
      have C := CT2.out _ hB.below
      refine C.mono ?_
      rintro e w4 ⟨g, rfl, hg, hr, hb⟩
      exact hK _ _ (hB.on hb) (gSpec_on hb) ⟨_, rfl, hr.ints⟩ _ (by simp only [putAll]; go_simp)
    · intro us w3 hB hdeps K hK
      have g1 : IsInts w3 (us 1) own := hdeps.1 rfl
      obtain ⟨r3, g3, i3⟩ : ∃ r, us 3 = .agg #[r] ∧ IsInts w3 r xs := hdeps.2.1 rfl
      obtain ⟨r5, g5, i5⟩ : ∃ r, us 5 = .agg #[r] ∧ IsInts w3 r ys := hdeps.2.2.1 rfl
      clear hdeps
      simp only [putAll]
      go_simp
      have C := CS.out _ _ _ _ g1 i3 i5
      refine C.mono ?_
      rintro e w4 ⟨rfl, hb⟩
      exact hK _ _ (hB.on hb) (gSpec_on hb) rfl _ (by simp only [putAll]; go_simp)
    · intro us w3 hB hdeps K hK
      have g6 : us 6 = .bool ans := hdeps.1 rfl
      clear hdeps
      simp only [putAll]
      go_simp
      exact hK _ _ hB (fun _ _ h => h) g6 _ (by simp only [putAll]; go_simp)
  · intro us w3 hB hG a' ha'
    have g7 : us 7 = .bool ans := hG 7 (by decide)
    clear hG
    simp only [putAll, g7] at ha'
    subst ha'
    go_frame
    have HT3 : Hid (Two w (.slice a1 n1 c1) (.slice a2 n2 c2) w3) := hB
    clear hB HT2
    go_wp2_with fail
    refine (CT0.out _ HT3.out.below).mono ?_
    rintro e w4 ⟨rfl, hr4, hb4⟩
    have HT4 : Hid (Two w (.slice a1 n1 c1) (.slice a2 n2 c2) w4) := HT3.out.on hb4
    obtain ⟨x0, hx0⟩ : ∃ v, v = Value.slice (some ⟨w3.heap.size, 0, none⟩) own.length own.length := ⟨_, rfl⟩
    have HI4 : Hid (IsInts w4 x0 own) := by show IsInts _ _ _; rw [hx0]; exact hr4.ints
    rw [← hx0]
    have q4 := HT4.out.c0
    clear hr4 hb4 HT3 hx0
    go_wp2_with fail
    refine (CT1.out _ HT4.out.below).mono ?_
    rintro e w5 ⟨g5, rfl, hg5, hr5, hb5⟩
    have i5 := hr5.ints
    have HT5 : Hid (Two w (.slice a1 n1 c1) (.slice a2 n2 c2) (w5.alloc (.cells #[.slice (some ⟨g5, 0, none⟩) xs.length xs.length] 26 (0, 0)))) := (HT4.out.on hb5).on (below_alloc _ _)
    have HI5 : Hid (IsInts (w5.alloc (.cells #[.slice (some ⟨g5, 0, none⟩) xs.length xs.length] 26 (0, 0))) x0 own) := (HI4.out.on hb5).on (below_alloc _ _)
    have HL5 : Hid (Lab w5.heap.size (.slice (some ⟨g5, 0, none⟩) xs.length xs.length) xs (w5.alloc (.cells #[.slice (some ⟨g5, 0, none⟩) xs.length xs.length] 26 (0, 0)))) := lab_new i5
    have q5 := HT5.out.c1
    clear hr5 hb5 HT4 HI4 q4 i5 hg5
    go_wp2_with fail
    refine (CT2.out _ HT5.out.below).mono ?_
    rintro e w6 ⟨g6, rfl, hg6, hr6, hb6⟩
    have i6 := hr6.ints
    have hbA : Below w6.heap.size w6 (w6.alloc (.cells #[.slice (some ⟨g6, 0, none⟩) ys.length ys.length] 26 (0, 0))) := below_alloc _ _
    have HB6 : Hid (Law3 w (.slice a1 n1 c1) (.slice a2 n2 c2) w5.heap.size (.slice (some ⟨g5, 0, none⟩) xs.length xs.length) xs w6.heap.size (.slice (some ⟨g6, 0, none⟩) ys.length ys.length) ys (w6.alloc (.cells #[.slice (some ⟨g6, 0, none⟩) ys.length ys.length] 26 (0, 0)))) := ⟨(HT5.out.on hb6).on hbA, (HL5.out.on hb6).on hbA, lab_new i6⟩
    have HI6 : Hid (IsInts (w6.alloc (.cells #[.slice (some ⟨g6, 0, none⟩) ys.length ys.length] 26 (0, 0))) x0 own) := (HI5.out.on hb6).on hbA
    have q6 := HB6.out.l1.cell
    have lt6 := (HL5.out.on hb6).lt
    have q6' := (HL5.out.on hb6).cell
    clear hr6 hb6 HT5 HI5 HL5 q5 i6 hg6 hbA
    go_wp2_with fail
    refine (CI.out _ _ _ _ HI6.out HB6.out.l1.ints HB6.out.l2.ints).mono ?_
    rintro e w7 ⟨rfl, hb7⟩
    have HB7 : Hid (Law3 w (.slice a1 n1 c1) (.slice a2 n2 c2) w5.heap.size (.slice (some ⟨g5, 0, none⟩) xs.length xs.length) xs w6.heap.size (.slice (some ⟨g6, 0, none⟩) ys.length ys.length) ys w7) := HB6.out.on hb7
    have HI7 : Hid (IsInts w7 x0 own) := HI6.out.on hb7
    have hne : (ans != ans) = false := by simp
    clear hb7 HB6 HI6 q6 q6' lt6 CI CS
    go_wp2_with fail
    refine (CT0.out _ HB7.out.two.below).mono ?_
    rintro e w8 ⟨rfl, hr8, hb8⟩
    have HB8 : Hid (Law3 w (.slice a1 n1 c1) (.slice a2 n2 c2) w5.heap.size (.slice (some ⟨g5, 0, none⟩) xs.length xs.length) xs w6.heap.size (.slice (some ⟨g6, 0, none⟩) ys.length ys.length) ys w8) := HB7.out.on hb8
    have HI8 : Hid (IsInts w8 x0 own) := HI7.out.on hb8
    have HJ8 : Hid (IsInts w8 (.slice (some ⟨w7.heap.size, 0, none⟩) own.length own.length) own) := hr8.ints
    clear hr8 hb8 HB7 HI7 CT0
    go_wp2_with fail
    refine (CE0.out _ _ _ HI8.out HJ8.out).mono ?_
    rintro e w9 ⟨rfl, hb9⟩
    have HB9 : Hid (Law3 w (.slice a1 n1 c1) (.slice a2 n2 c2) w5.heap.size (.slice (some ⟨g5, 0, none⟩) xs.length xs.length) xs w6.heap.size (.slice (some ⟨g6, 0, none⟩) ys.length ys.length) ys w9) := HB8.out.on hb9
    clear hb9 HB8 HI8 HJ8 CE0
    go_wp2_with fail
    refine wp_region_all (by kernel_rfl) (by kernel_rfl) (by kernel_rfl) (Law3 w (.slice a1 n1 c1) (.slice a2 n2 c2) w5.heap.size (.slice (some ⟨g5, 0, none⟩) xs.length xs.length) xs w6.heap.size (.slice (some ⟨g6, 0, none⟩) ys.length ys.length) ys) (gEq ((.slice (some ⟨g5, 0, none⟩) xs.length xs.length)) (.slice a1 n1 c1) xs) HB9.out.drew ?_ ?_
    · refine ⟨?_, ?_, ?_, ?_, ?_, trivial⟩
      · intro us wz hB hdeps K hK
        have q := hB.l1.cell
        clear hdeps
        simp only [putAll]
        go_simp
        exact hK _ _ hB (fun _ _ h => h) rfl _ (by simp only [putAll]; go_simp)
      · intro us wz hB hdeps K hK
        have q := hB.two.c0
        clear hdeps
        simp only [putAll]
        go_simp
        exact hK _ _ hB (fun _ _ h => h) rfl _ (by simp only [putAll]; go_simp)
      · intro us wz hB hdeps K hK
        have g0 : us 1 = .agg #[.slice a1 n1 c1] := hdeps.1 rfl
        clear hdeps
        simp only [putAll]
        go_simp
        refine (CT1.out _ hB.two.below).mono ?_
        rintro e wy ⟨g, rfl, hg, hr, hb⟩
        exact hK _ _ (hB.on hb) (gEq_on hb) ⟨_, rfl, hr.ints⟩ _ (by simp only [putAll]; go_simp)
      · intro us wz hB hdeps K hK
        have g0 : us 0 = .agg #[.slice (some ⟨g5, 0, none⟩) xs.length xs.length] := hdeps.1 rfl
        obtain ⟨r2, g2, i2⟩ : ∃ r, us 2 = .agg #[r] ∧ IsInts wz r xs := hdeps.2.1 rfl
        clear hdeps
        simp only [putAll]
        go_simp
        refine (CE1.out _ _ _ hB.l1.ints i2).mono ?_
        rintro e wy ⟨rfl, hb⟩
        exact hK _ _ (hB.on hb) (gEq_on hb) rfl _ (by simp only [putAll]; go_simp)
      · intro us wz hB hdeps K hK
        have g0 : us 3 = .bool true := hdeps.1 rfl
        clear hdeps
        simp only [putAll]
        go_simp
        exact hK _ _ hB (fun _ _ h => h) rfl _ (by simp only [putAll]; go_simp)
    · intro us wa hB hG a' ha'
      have g4 : us 4 = .bool false := hG 4 (by decide)
      clear hG
      simp only [putAll, g4] at ha'
      subst ha'
      go_frame
      have HBa : Hid (Law3 w (.slice a1 n1 c1) (.slice a2 n2 c2) w5.heap.size (.slice (some ⟨g5, 0, none⟩) xs.length xs.length) xs w6.heap.size (.slice (some ⟨g6, 0, none⟩) ys.length ys.length) ys wa) := hB
      clear hB HB9 CE1 CT1
      go_wp2_with fail
      refine wp_region_all (by kernel_rfl) (by kernel_rfl) (by kernel_rfl) (Law3 w (.slice a1 n1 c1) (.slice a2 n2 c2) w5.heap.size (.slice (some ⟨g5, 0, none⟩) xs.length xs.length) xs w6.heap.size (.slice (some ⟨g6, 0, none⟩) ys.length ys.length) ys) (gEq ((.slice (some ⟨g6, 0, none⟩) ys.length ys.length)) (.slice a2 n2 c2) ys) HBa.out.drew ?_ ?_
      · refine ⟨?_, ?_, ?_, ?_, ?_, trivial⟩
        · intro us wz hB hdeps K hK
          have q := hB.l2.cell
          clear hdeps
          simp only [putAll]
          go_simp
          exact hK _ _ hB (fun _ _ h => h) rfl _ (by simp only [putAll]; go_simp)
        · intro us wz hB hdeps K hK
          have q := hB.two.c1
          clear hdeps
          simp only [putAll]
          go_simp
          exact hK _ _ hB (fun _ _ h => h) rfl _ (by simp only [putAll]; go_simp)
        · intro us wz hB hdeps K hK
          have g0 : us 1 = .agg #[.slice a2 n2 c2] := hdeps.1 rfl
          clear hdeps
          simp only [putAll]
          go_simp
          refine (CT2.out _ hB.two.below).mono ?_
          rintro e wy ⟨g, rfl, hg, hr, hb⟩
          exact hK _ _ (hB.on hb) (gEq_on hb) ⟨_, rfl, hr.ints⟩ _ (by simp only [putAll]; go_simp)
        · intro us wz hB hdeps K hK
          have g0 : us 0 = .agg #[.slice (some ⟨g6, 0, none⟩) ys.length ys.length] := hdeps.1 rfl
          obtain ⟨r2, g2, i2⟩ : ∃ r, us 2 = .agg #[r] ∧ IsInts wz r ys := hdeps.2.1 rfl
          clear hdeps
          simp only [putAll]
          go_simp
          refine (CE2.out _ _ _ hB.l2.ints i2).mono ?_
          rintro e wy ⟨rfl, hb⟩
          exact hK _ _ (hB.on hb) (gEq_on hb) rfl _ (by simp only [putAll]; go_simp)
        · intro us wz hB hdeps K hK
          have g0 : us 3 = .bool true := hdeps.1 rfl
          clear hdeps
          simp only [putAll]
          go_simp
          exact hK _ _ hB (fun _ _ h => h) rfl _ (by simp only [putAll]; go_simp)
      · intro us wb hB hG a' ha'
        have g4 : us 4 = .bool false := hG 4 (by decide)
        clear hG
        simp only [putAll, g4] at ha'
        subst ha'
        go_frame
        have HBb : Hid (Below w.heap.size w wb) := hB.two.below
        clear hB HBa
        go_wp2
        go_ret
        exact ⟨rfl, HBb.out⟩

set_option maxHeartbeats 1000000 in
theorem lawFlowsFor_big (a0 a1 a2 : Option Addr) (n0 c0 n1 c1 n2 c2 : Nat) (w : World) (m0 : n0 ≤ 9223372036854775807) (m1 : n1 ≤ 9223372036854775807) (m2 : n2 ≤ 9223372036854775807) (h : ¬ (¬ (1048576 : Int) < n0 ∧ (n1 : Int) ≤ 1048576 ∧ (n2 : Int) ≤ 1048576 - n1)) :
    Calls Try.prog 6 #[.slice a0 n0 c0, .agg #[.slice a1 n1 c1], .agg #[.slice a2 n2 c2]] w fun e w' => e = .returned (.bool true) ∧ Below w.heap.size w w' := by
  have T0 := twoW_two w (.slice a1 n1 c1) (.slice a2 n2 c2)
  have HT0 : Hid (Two w (.slice a1 n1 c1) (.slice a2 n2 c2) (twoW w (.slice a1 n1 c1) (.slice a2 n2 c2))) := T0
  clear T0
  by_cases s0 : (1048576 : Int) < n0
  · clear h
    go_enter Try.func6, Try.ntmps6
    go_wp2
    go_ret
    exact ⟨rfl, HT0.out.below⟩
  · have C1 := szLabel_wide a1 n1 c1 1048576 (twoW w (.slice a1 n1 c1) (.slice a2 n2 c2)) (by omega) (by omega) m1
    by_cases s1 : (n1 : Int) ≤ 1048576
    · have s2 : ¬ (n2 : Int) ≤ 1048576 - n1 := fun hh => h ⟨s0, s1, hh⟩
      have C2 : Hid (∀ w, _) := fun w => szLabel_wide a2 n2 c2 (1048576 - n1) w (by omega) (by omega) m2
      rw [szOf_yes s1] at C1
      rw [szOf_no s2] at C2
      have l1 : ¬ (1048576 : Int) - n1 < 0 := by omega
      clear h s1 s2
      go_enter Try.func6, Try.ntmps6
      go_wp2_with fail
      refine C1.mono ?_
      rintro e w1 ⟨rfl, hb1⟩
      have HT1 : Hid (Two w (.slice a1 n1 c1) (.slice a2 n2 c2) w1) := HT0.out.on hb1
      have q1 := HT1.out.c1
      clear C1 hb1 HT0
      go_wp2_with fail
      refine (C2.out _).mono ?_
      rintro e w2 ⟨rfl, hb2⟩
      have HT2 : Hid (Two w (.slice a1 n1 c1) (.slice a2 n2 c2) w2) := HT1.out.on hb2
      clear C2 hb2 HT1 q1
      go_wp2
      go_ret
      exact ⟨rfl, HT2.out.below⟩
    · rw [szOf_no s1] at C1
      clear h s1
      go_enter Try.func6, Try.ntmps6
      go_wp2_with fail
      refine C1.mono ?_
      rintro e w1 ⟨rfl, hb1⟩
      have HT1 : Hid (Two w (.slice a1 n1 c1) (.slice a2 n2 c2) w1) := HT0.out.on hb1
      clear C1 hb1 HT0
      go_wp2
      go_ret
      exact ⟨rfl, HT1.out.below⟩

theorem walkFlowsFor (a0 : Option Addr) (n0 c0 : Nat) (own : List Int) (a1 : Option Addr) (n1 c1 : Nat) (xs : List Int) (a2 : Option Addr) (n2 c2 : Nat) (ys : List Int) (w : World) (i0 : IsInts w (.slice a0 n0 c0) own) (e0 : n0 = own.length) (m0 : n0 ≤ maxLen) (i1 : IsInts w (.slice a1 n1 c1) xs) (e1 : n1 = xs.length) (m1 : n1 ≤ maxLen) (i2 : IsInts w (.slice a2 n2 c2) ys) (e2 : n2 = ys.length) (m2 : n2 ≤ maxLen) :
    Calls Try.prog 6 #[.slice a0 n0 c0, .agg #[.slice a1 n1 c1], .agg #[.slice a2 n2 c2]] w fun e w' => e = .returned (.bool true) ∧ Below w.heap.size w w' := by
  unfold maxLen at m0 m1 m2
  by_cases h : ¬ (1048576 : Int) < n0 ∧ (n1 : Int) ≤ 1048576 ∧ (n2 : Int) ≤ 1048576 - n1
  · exact lawFlowsFor_small a0 a1 a2 n0 c0 n1 c1 n2 c2 own xs ys w i0 i1 i2 e0 e1 e2 h.1 h.2.1 h.2.2
  · exact lawFlowsFor_big a0 a1 a2 n0 c0 n1 c1 n2 c2 w (by omega) (by omega) (by omega) h

namespace FlowsFor
set_option maxRecDepth 100000 in
theorem lifted (os : Os) (started : os.Started) (H : Type) (enc : TypeId × Value → H) :
    ReturnsInHanded {} Try.checked os 6 .any (Rows.fnExactFlowsForSpec.pre6 enc Try.prog Try.f6 Rows.fnExactFlowsForRow.domain false) (Rows.fnExactFlowsForSpec.post enc Try.prog Try.f6 false true false false) := by
  refine returnsInHanded_of_change (C := Try.checked) own started (by kernel_rfl) Try.func6
    (ChangeSpec.witness6 (enc := enc) (C := Try.checked) false ⟨#[], #[.slice none 0 0, .agg #[.slice none 0 0], .agg #[.slice none 0 0]], []⟩ 8 (by kernel_rfl) (by kernel_rfl) (by kernel_rfl) (by kernel_rfl)) ?_
  intro W base args ds gs before hval0 hW hcnd _
  have hval : ∀ (j : Nat) t v, Try.f6.params[j]? = some t → args[j]? = some v → Value.okWide Try.prog W .any base t v := hval0
  have hW' := hW
  obtain ⟨p, q, hA0, hV, rfl, hfz, hnd⟩ := hW
  have hA : DataW.TrodAll enc Try.prog W 0 (fun _ => true) true Try.f6.params.toList args.toList ds p := hA0
  rw [Try.params6] at hA hval
  obtain ⟨v0, vs0, d0, ds0, p0, q0, hargs, rfl, rfl, h0, r0⟩ := trodAll_cons hA
  obtain ⟨v1, vs1, d1, ds1, p1, q1, hargs1, rfl, rfl, h1, r1⟩ := trodAll_cons r0
  obtain ⟨v2, vs2, d2, ds2, p2, q2, hargs2, rfl, rfl, h2, r2⟩ := trodAll_cons r1
  obtain ⟨rfl, rfl, rfl⟩ := trodAll_nil r2
  obtain rfl : args = #[v0, v1, v2] := by cases args; simp_all
  obtain ⟨rfl, rfl⟩ := trodVars_none hV
  obtain ⟨a0, n0, c0, xs0, rfl, i0, e0, m0⟩ := open_intS (hval 0 24 v0 rfl rfl) h0
  obtain ⟨a1, n1, c1, xs1, rfl, i1, e1, m1⟩ := open_label (hval 1 44 v1 rfl rfl) h1
  obtain ⟨a2, n2, c2, xs2, rfl, i2, e2, m2⟩ := open_label (hval 2 44 v2 rfl rfl) h2
  have k0 := h0
  have lt0 : ∀ x ∈ p0, x.block < W.heap.size := by obtain ⟨m, hm⟩ := k0; exact DataW.trod_lt m _ _ _ hm
  have k1 := h1
  have lt1 : ∀ x ∈ p1, x.block < W.heap.size := by obtain ⟨m, hm⟩ := k1; exact DataW.trod_lt m _ _ _ hm
  have k2 := h2
  have lt2 : ∀ x ∈ p2, x.block < W.heap.size := by obtain ⟨m, hm⟩ := k2; exact DataW.trod_lt m _ _ _ hm
  clear hA0 hval0
  refine (walkFlowsFor a0 n0 c0 xs0 a1 n1 c1 xs1 a2 n2 c2 xs2 W i0 e0 m0 i1 e1 m1 i2 e2 m2).mono fun e W' ⟨he, bel⟩ => ?_
  subst he
  exact ⟨_, rfl, _, _, _, [], _, [], hW', trodAll_mk1 (shut_bool Try.underlying4 _), (trodAll_cons_mk (Below.trod laidOut (by kernel_rfl) (of_decide_eq_true (by kernel_rfl)) k0 bel lt0) (trodAll_cons_mk (Below.trod laidOut (by kernel_rfl) (of_decide_eq_true (by kernel_rfl)) k1 bel lt1) (trodAll_cons_mk (Below.trod laidOut (by kernel_rfl) (of_decide_eq_true (by kernel_rfl)) k2 bel lt2) trodAll_mk0))), rfl, bel.frame _, fun h => by cases h⟩

theorem over : Rows.fnExactFlowsForRow.holds Try.pinned (OpenSpec.ofChange Rows.fnExactFlowsForSpec) :=
  OpenClaim.holds_of_wide 6 Try.f6 rfl rfl rfl rfl rfl rfl rfl ⟨rfl, rfl, rfl, rfl, rfl⟩ rfl rfl rfl rfl rfl (by kernel_rfl) Try.func6 (by kernel_rfl)
    (of_decide_eq_true (by kernel_rfl)) (by unfold Func.isWrapper; first | (rw [if_pos (by decide +kernel)]; kernel_rfl) | (rw [if_neg (by decide +kernel)]; exact ⟨rfl, rfl⟩))
    (fun os started H enc _ => lifted os started H enc)
end FlowsFor
theorem flowsFor_holds : Rows.FnExactFlowsForSaid := FlowsFor.over
#print axioms flowsFor_holds
end Go.Proofs.Ytbahokkofidmeaa
