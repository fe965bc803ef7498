/-
  The law of Needs: what the program answers is what the model answers, at every two labels, whatever is owned; no memory is shared.
-/
import Derived.Test.YtbahokkofidmeaaLawFlowsFor
import Derived.Test.YtbahokkofidmeaaOwnV
namespace Go.Proofs.Ytbahokkofidmeaa
open Go.ChangeShapes Go.WideShapes Go.ChangeAt Go.RowKit
set_option linter.unusedVariables false

def gNeed (o va vb : Value) (own xs ys ns : List Int) (lo : Nat) : Nat → Value → World → Prop
  | 0, u, _ => u = o
  | 1, u, w => IsInts w u own
  | 2, u, _ => u = .agg #[va]
  | 3, u, w => ∃ r, u = .agg #[r] ∧ IsInts w r xs
  | 4, u, _ => u = .agg #[vb]
  | 5, u, w => ∃ r, u = .agg #[r] ∧ IsInts w r ys
  | _, u, w => w.ownsRow lo 3 1 u ns.length (icells ns)
theorem gNeed_on {o va vb : Value} {own xs ys ns : List Int} {lo : Nat} {w w' : World} (hb : Below w.heap.size w w') : ∀ j u, gNeed o va vb own xs ys ns lo j u w → gNeed o va vb own xs ys ns lo j u w'
  | 0, _, h => h
  | 1, _, h => IsInts.on h hb
  | 2, _, h => h
  | 3, _, ⟨r, h1, h2⟩ => ⟨r, h1, h2.on hb⟩
  | 4, _, h => h
  | 5, _, ⟨r, h1, h2⟩ => ⟨r, h1, h2.on hb⟩
  | _ + 6, _, h => own_on h hb
/-- .. and the program's answer besides. -/
structure NeedR (w : World) (va vb S : Value) (ns : List Int) (h1 : Nat) (x0 : Value) (own : List Int) (h2 : Nat) (x1 : Value) (xs : List Int) (h3 : Nat) (x2 : Value) (ys : List Int) (h4 : Nat) (R : Value) (rs : List Int) (h5 : Nat) (wr : World) : Prop where
  n : NeedW w va vb S ns h1 x0 own h2 x1 xs h3 x2 ys h4 wr
  r : OwnV R rs (h4 + 1) h5 wr
theorem NeedR.on {w : World} {va vb S : Value} {ns : List Int} {h1 : Nat} {x0 : Value} {own : List Int} {h2 : Nat} {x1 : Value} {xs : List Int} {h3 : Nat} {x2 : Value} {ys : List Int} {h4 : Nat} {R : Value} {rs : List Int} {h5 : Nat} {wr w' : World} (h : NeedR w va vb S ns h1 x0 own h2 x1 xs h3 x2 ys h4 R rs h5 wr) (hb : Below wr.heap.size wr w') : NeedR w va vb S ns h1 x0 own h2 x1 xs h3 x2 ys h4 R rs h5 w' := ⟨h.n.on hb, h.r.on hb⟩
theorem NeedR.drew {w : World} {va vb S : Value} {ns : List Int} {h1 : Nat} {x0 : Value} {own : List Int} {h2 : Nat} {x1 : Value} {xs : List Int} {h3 : Nat} {x2 : Value} {ys : List Int} {h4 : Nat} {R : Value} {rs : List Int} {h5 : Nat} {wr : World} (h : NeedR w va vb S ns h1 x0 own h2 x1 xs h3 x2 ys h4 R rs h5 wr) : NeedR w va vb S ns h1 x0 own h2 x1 xs h3 x2 ys h4 R rs h5 wr.drew := h.on (below_draw wr)
theorem Two.size {w wr : World} {v u : Value} (h : Two w v u wr) : w.heap.size + 1 + 1 ≤ wr.heap.size := lt_of_block h.b1

set_option maxHeartbeats 2000000 in
theorem lawNeeds_small (a0 a1 a2 : Option Addr) (n0 c0 n1 c1 n2 c2 : Nat) (own xs ys : List Int) (w : World) (i0 : IsInts w (.slice a0 n0 c0) own) (i1 : IsInts w (.slice a1 n1 c1) xs) (i2 : IsInts w (.slice a2 n2 c2) ys)
    (e0 : n0 = own.length) (e1 : n1 = xs.length) (e2 : n2 = ys.length) (s0 : ¬ (1048576 : Int) < n0) (s1 : (n1 : Int) ≤ 1048576) (s2 : (n2 : Int) ≤ 1048576 - n1) :
    Calls Try.prog 7 #[.slice a0 n0 c0, .agg #[.slice a1 n1 c1], .agg #[.slice a2 n2 c2]] w fun e w' => e = .returned (.bool true) ∧ Below w.heap.size w w' := by
  have T0 := twoW_two w (.slice a1 n1 c1) (.slice a2 n2 c2)
  have C1 := szLabel_wide a1 n1 c1 1048576 (twoW w (.slice a1 n1 c1) (.slice a2 n2 c2)) (by omega) (by omega) (by omega)
  have C2 : Hid (∀ w, _) := fun w => szLabel_wide a2 n2 c2 (1048576 - n1) w (by omega) (by omega) (by omega)
  rw [szOf_yes s1] at C1
  rw [szOf_yes s2] at C2
  have l1 : ¬ (1048576 : Int) - n1 < 0 := by omega
  have l2 : ¬ (1048576 : Int) - n1 - n2 < 0 := by omega
  have ct0 := fun w' (hb : Below w.heap.size w w') => toIntS_any (.slice a0 n0 c0) own w' (i0.on hb) (by omega)
  have ct1 := fun w' (hb : Below w.heap.size w w') => toLabel_any (.slice a1 n1 c1) xs w' (i1.on hb) (by omega)
  have ct2 := fun w' (hb : Below w.heap.size w w') => toLabel_any (.slice a2 n2 c2) ys w' (i2.on hb) (by omega)
  have cs := fun o v u w' h1 h2 h3 => specNeeds_any o v u own xs ys w' h1 h2 h3 (by omega) (by omega) (by omega)
  have ci := fun o v u w' h1 h2 h3 => implNeeds_any o v u own xs ys w' h1 h2 h3 (by omega)
  have hns : (needsOf own xs ys).length ≤ 1048576 := by
    unfold needsOf; split
    · exact Nat.le_trans (needTo_length xs ys 4) (by omega)
    · simp
  generalize needsOf own xs ys = ns at cs ci hns
  have ce0 := fun v u w' h1 h2 => eqIntS_any v u own own w' h1 h2 (by omega)
  have cen := fun v u w' h1 h2 => eqIntS_any v u ns ns w' h1 h2 hns
  have ce1 := fun v u w' h1 h2 => eqLabel_any v u xs xs w' h1 h2 (by omega)
  have ce2 := fun v u w' h1 h2 => eqLabel_any v u ys ys w' h1 h2 (by omega)
  simp only [sameInts_refl] at ce0 ce1 ce2 cen
  have CT0 : Hid (∀ w', Below w.heap.size w w' → _) := ct0
  have CT1 : Hid (∀ w', Below w.heap.size w w' → _) := ct1
  have CT2 : Hid (∀ w', Below w.heap.size w w' → _) := ct2
  have CS : Hid (∀ o v u w', IsInts w' o own → IsInts w' v xs → IsInts w' u ys → _) := cs
  have CI : Hid (∀ o v u w', IsInts w' o own → IsInts w' v xs → IsInts w' u ys → _) := ci
  have CE0 : Hid (∀ v u w', IsInts w' v own → IsInts w' u own → _) := ce0
  have CEN : Hid (∀ v u w', IsInts w' v ns → IsInts w' u ns → _) := cen
  have CE1 : Hid (∀ v u w', IsInts w' v xs → IsInts w' u xs → _) := ce1
  have CE2 : Hid (∀ v u w', IsInts w' v ys → IsInts w' u ys → _) := ce2
  have HN : Hid (own.length ≤ 1048576 ∧ xs.length ≤ 1048576 ∧ ys.length ≤ 1048576 ∧ ns.length ≤ 1048576) := ⟨by omega, by omega, by omega, hns⟩
  have HT0 : Hid (Two w (.slice a1 n1 c1) (.slice a2 n2 c2) (twoW w (.slice a1 n1 c1) (.slice a2 n2 c2))) := T0
  clear T0 ct0 ct1 ct2 cs ci ce0 ce1 ce2 cen i0 i1 i2 e0 e1 e2 s1 s2 hns
  go_enter Try.func7, Try.ntmps7
  go_wp2_with fail
  refine C1.mono ?_
  rintro e w1 ⟨rfl, hb1⟩
  have HT1 : Hid (Two w (.slice a1 n1 c1) (.slice a2 n2 c2) w1) := HT0.out.on hb1
  have q1 := HT1.out.c1
  clear C1 hb1 HT0
  go_wp2_with fail
  refine (C2.out _).mono ?_
  rintro e w2 ⟨rfl, hb2⟩
  have HT2 : Hid (Two w (.slice a1 n1 c1) (.slice a2 n2 c2) w2) := HT1.out.on hb2
  clear C2 hb2 HT1 q1
  go_wp2_with fail
  refine wp_region_all (by kernel_rfl) (by kernel_rfl) (by kernel_rfl) (Two w (.slice a1 n1 c1) (.slice a2 n2 c2)) (gNeed (.slice a0 n0 c0) (.slice a1 n1 c1) (.slice a2 n2 c2) own xs ys ns (w.heap.size + 1 + 1)) HT2.out.drew ?_ ?_
  · refine ⟨?_, ?_, ?_, ?_, ?_, ?_, ?_, ?_, trivial⟩
    · intro us wz hB hdeps K hK
      clear hdeps
      simp only [putAll]
      go_simp
      exact hK _ _ hB (fun _ _ h => h) rfl _ (by simp only [putAll]; go_simp)
    · intro us wz hB hdeps K hK
      have g0 : us 0 = .slice a0 n0 c0 := hdeps.1 rfl
      clear hdeps
      simp only [putAll]
      go_simp
      refine (CT0.out _ hB.below).mono ?_
      rintro e wy ⟨rfl, hr, hb⟩
      exact hK _ _ (hB.on hb) (gNeed_on hb) hr.ints _ (by simp only [putAll]; go_simp)
    · intro us wz hB hdeps K hK
      have q := hB.c0
      clear hdeps
      simp only [putAll]
      go_simp
      exact hK _ _ hB (fun _ _ h => h) rfl _ (by simp only [putAll]; go_simp)
    · intro us wz hB hdeps K hK
      have g0 : us 2 = .agg #[.slice a1 n1 c1] := hdeps.1 rfl
      clear hdeps
      simp only [putAll]
      go_simp
      refine (CT1.out _ hB.below).mono ?_
      rintro e wy ⟨g, rfl, hg, hr, hb⟩
      exact hK _ _ (hB.on hb) (gNeed_on hb) ⟨_, rfl, hr.ints⟩ _ (by simp only [putAll]; go_simp)
    · intro us wz hB hdeps K hK
      have q := hB.c1
      clear hdeps
      simp only [putAll]
      go_simp
      exact hK _ _ hB (fun _ _ h => h) rfl _ (by simp only [putAll]; go_simp)
    · intro us wz hB hdeps K hK
      have g0 : us 4 = .agg #[.slice a2 n2 c2] := hdeps.1 rfl
      clear hdeps
      simp only [putAll]
      go_simp
      refine (CT2.out _ hB.below).mono ?_
      rintro e wy ⟨g, rfl, hg, hr, hb⟩
      exact hK _ _ (hB.on hb) (gNeed_on hb) ⟨_, rfl, hr.ints⟩ _ (by simp only [putAll]; go_simp)
    · intro us wz hB hdeps K hK
      have g1 : IsInts wz (us 1) own := hdeps.1 rfl
      obtain ⟨r3, g3, i3⟩ : ∃ r, us 3 = .agg #[r] ∧ IsInts wz r xs := hdeps.2.1 rfl
      obtain ⟨r5, g5, i5⟩ : ∃ r, us 5 = .agg #[r] ∧ IsInts wz r ys := hdeps.2.2.1 rfl
      have hsz := hB.size
      clear hdeps
      simp only [putAll]
      go_simp
      refine (CS.out _ _ _ _ g1 i3 i5).mono ?_
      rintro e wy ⟨r, rfl, hr, hb⟩
      exact hK _ _ (hB.on hb) (gNeed_on hb) (own_from2 hr (by omega)) _ (by simp only [putAll]; go_simp)
    · intro us wz hB hdeps K hK
      have g6 : World.ownsRow wz (w.heap.size + 1 + 1) 3 1 (us 6) ns.length (icells ns) := hdeps.1 rfl
      clear hdeps
      simp only [putAll]
      go_simp
      exact hK _ _ hB (fun _ _ h => h) g6 _ (by simp only [putAll]; go_simp)
  · intro us w3 hB hG a' ha'
    have g7 : World.ownsRow w3 (w.heap.size + 1 + 1) 3 1 (us 7) ns.length (icells ns) := hG 7 (by decide)
    clear hG
    obtain ⟨S, hS⟩ : ∃ S, us 7 = S := ⟨_, rfl⟩
    rw [hS] at g7
    simp only [putAll, hS] at ha'
    subst ha'
    go_frame
    have HT3 : Hid (Two w (.slice a1 n1 c1) (.slice a2 n2 c2) w3) := hB
    have HS3 : Hid (OwnV S ns (w.heap.size + 1 + 1) w3.heap.size w3) := ownV_new g7 (Nat.le_refl _)
    have sz3 : w.heap.size + 1 + 1 ≤ w3.heap.size := hB.size
    clear hB HT2 g7 hS CS
    go_wp2_with fail
    refine (CT0.out _ HT3.out.below).mono ?_
    rintro e w4 ⟨rfl, hr4, hb4⟩
    have HT4 : Hid (Two w (.slice a1 n1 c1) (.slice a2 n2 c2) w4) := HT3.out.on hb4
    have HS4 : Hid (OwnV S ns (w.heap.size + 1 + 1) w3.heap.size w4) := HS3.out.on hb4
    have HO4 : Hid (OwnV (.slice (some ⟨w3.heap.size, 0, none⟩) own.length own.length) own w3.heap.size w4.heap.size w4) := ownV_new (hr4.own2 (Nat.le_refl _) HN.out.1) (Nat.le_refl _)
    have sz4 : w3.heap.size ≤ w4.heap.size := hb4.size
    have q4 := HT4.out.c0
    clear hr4 hb4 HT3 HS3
    go_wp2_with fail
    refine (CT1.out _ HT4.out.below).mono ?_
    rintro e w5 ⟨g5, rfl, hg5, hr5, hb5⟩
    have hbx : Below w5.heap.size w5 (w5.alloc (.cells #[.slice (some ⟨g5, 0, none⟩) xs.length xs.length] 26 (0, 0))) := below_alloc _ _
    have HT5 : Hid (Two w (.slice a1 n1 c1) (.slice a2 n2 c2) (w5.alloc (.cells #[.slice (some ⟨g5, 0, none⟩) xs.length xs.length] 26 (0, 0)))) := (HT4.out.on hb5).on hbx
    have HS5 : Hid (OwnV S ns (w.heap.size + 1 + 1) w3.heap.size (w5.alloc (.cells #[.slice (some ⟨g5, 0, none⟩) xs.length xs.length] 26 (0, 0)))) := (HS4.out.on hb5).on hbx
    have HO5 : Hid (OwnV (.slice (some ⟨w3.heap.size, 0, none⟩) own.length own.length) own w3.heap.size w4.heap.size (w5.alloc (.cells #[.slice (some ⟨g5, 0, none⟩) xs.length xs.length] 26 (0, 0)))) := (HO4.out.on hb5).on hbx
    have HR5 : Hid (OwnR w5.heap.size (.slice (some ⟨g5, 0, none⟩) xs.length xs.length) xs w4.heap.size w5.heap.size (w5.alloc (.cells #[.slice (some ⟨g5, 0, none⟩) xs.length xs.length] 26 (0, 0)))) := ownR_new (hr5.own2 hg5 HN.out.2.1) (Nat.le_refl _)
    have sz5 : w4.heap.size ≤ w5.heap.size := hb5.size
    have q5 := HT5.out.c1
    clear hr5 hb5 HT4 HS4 HO4 q4 hg5 hbx
    go_wp2_with fail
    refine (CT2.out _ HT5.out.below).mono ?_
    rintro e w6 ⟨g6, rfl, hg6, hr6, hb6⟩
    have hbx : Below w6.heap.size w6 (w6.alloc (.cells #[.slice (some ⟨g6, 0, none⟩) ys.length ys.length] 26 (0, 0))) := below_alloc _ _
    have sz6 : w5.heap.size + 1 ≤ w6.heap.size := by have := hb6.size; simpa using this
    have HB6 : Hid (NeedW w (.slice a1 n1 c1) (.slice a2 n2 c2) S ns w3.heap.size (.slice (some ⟨w3.heap.size, 0, none⟩) own.length own.length) own w4.heap.size (.slice (some ⟨g5, 0, none⟩) xs.length xs.length) xs w5.heap.size (.slice (some ⟨g6, 0, none⟩) ys.length ys.length) ys w6.heap.size (w6.alloc (.cells #[.slice (some ⟨g6, 0, none⟩) ys.length ys.length] 26 (0, 0)))) :=
      ⟨(HT5.out.on hb6).on hbx, (HS5.out.on hb6).on hbx, (HO5.out.on hb6).on hbx, (HR5.out.on hb6).on hbx, ownR_new (hr6.own2 (by simpa using hg6) HN.out.2.2.1) (Nat.le_refl _), sz3, sz4, sz5, sz6⟩
    have q6 := HB6.out.o1.cell
    have lt6 := (HR5.out.on hb6).lt
    have q6' := (HR5.out.on hb6).cell
    clear hr6 hb6 HT5 HS5 HO5 HR5 q5 hg6 hbx
    go_wp2_with fail
    refine (CI.out _ _ _ _ HB6.out.o0.ints HB6.out.o1.ints HB6.out.o2.ints).mono ?_
    rintro e w7 ⟨R, rfl, hr7, hb7⟩
    have HB7 : Hid (NeedR w (.slice a1 n1 c1) (.slice a2 n2 c2) S ns w3.heap.size (.slice (some ⟨w3.heap.size, 0, none⟩) own.length own.length) own w4.heap.size (.slice (some ⟨g5, 0, none⟩) xs.length xs.length) xs w5.heap.size (.slice (some ⟨g6, 0, none⟩) ys.length ys.length) ys w6.heap.size R ns w7.heap.size w7) := ⟨HB6.out.on hb7, ownV_new hr7 (by simp)⟩
    clear hb7 HB6 q6 q6' lt6 hr7 sz3 sz4 sz5 sz6
    go_wp2_with fail
    refine (CEN.out _ _ _ HB7.out.r.ints HB7.out.n.s.ints).mono ?_
    rintro e w8 ⟨rfl, hb8⟩
    have HB8 : Hid (NeedR w (.slice a1 n1 c1) (.slice a2 n2 c2) S ns w3.heap.size (.slice (some ⟨w3.heap.size, 0, none⟩) own.length own.length) own w4.heap.size (.slice (some ⟨g5, 0, none⟩) xs.length xs.length) xs w5.heap.size (.slice (some ⟨g6, 0, none⟩) ys.length ys.length) ys w6.heap.size R ns w7.heap.size w8) := HB7.out.on hb8
    clear hb8 HB7
    go_wp2_with fail
    refine (CT0.out _ HB8.out.n.two.below).mono ?_
    rintro e w9 ⟨rfl, hr9, hb9⟩
    have HB9 : Hid (NeedR w (.slice a1 n1 c1) (.slice a2 n2 c2) S ns w3.heap.size (.slice (some ⟨w3.heap.size, 0, none⟩) own.length own.length) own w4.heap.size (.slice (some ⟨g5, 0, none⟩) xs.length xs.length) xs w5.heap.size (.slice (some ⟨g6, 0, none⟩) ys.length ys.length) ys w6.heap.size R ns w7.heap.size w9) := HB8.out.on hb9
    have HJ9 := hr9.ints
    clear hr9 hb9 HB8
    go_wp2_with fail
    refine (CE0.out _ _ _ HB9.out.n.o0.ints HJ9).mono ?_
    rintro e wA ⟨rfl, hbA⟩
    have HBA : Hid (NeedR w (.slice a1 n1 c1) (.slice a2 n2 c2) S ns w3.heap.size (.slice (some ⟨w3.heap.size, 0, none⟩) own.length own.length) own w4.heap.size (.slice (some ⟨g5, 0, none⟩) xs.length xs.length) xs w5.heap.size (.slice (some ⟨g6, 0, none⟩) ys.length ys.length) ys w6.heap.size R ns w7.heap.size wA) := HB9.out.on hbA
    clear hbA HB9 HJ9 CE0
    go_wp2_with fail
    refine wp_region_all (by kernel_rfl) (by kernel_rfl) (by kernel_rfl) (NeedR w (.slice a1 n1 c1) (.slice a2 n2 c2) S ns w3.heap.size (.slice (some ⟨w3.heap.size, 0, none⟩) own.length own.length) own w4.heap.size (.slice (some ⟨g5, 0, none⟩) xs.length xs.length) xs w5.heap.size (.slice (some ⟨g6, 0, none⟩) ys.length ys.length) ys w6.heap.size R ns w7.heap.size) (gEq (.slice (some ⟨g5, 0, none⟩) xs.length xs.length) (.slice a1 n1 c1) xs) HBA.out.drew ?_ ?_
    · refine ⟨?_, ?_, ?_, ?_, ?_, trivial⟩
      · intro us wz hB hdeps K hK
        have q := hB.n.o1.cell
        clear hdeps
        simp only [putAll]
        go_simp
        exact hK _ _ hB (fun _ _ h => h) rfl _ (by simp only [putAll]; go_simp)
      · intro us wz hB hdeps K hK
        have q := hB.n.two.c0
        clear hdeps
        simp only [putAll]
        go_simp
        exact hK _ _ hB (fun _ _ h => h) rfl _ (by simp only [putAll]; go_simp)
      · intro us wz hB hdeps K hK
        have g0 : us 1 = .agg #[.slice a1 n1 c1] := hdeps.1 rfl
        clear hdeps
        simp only [putAll]
        go_simp
        refine (CT1.out _ hB.n.two.below).mono ?_
        rintro e wy ⟨g, rfl, hg, hr, hb⟩
        exact hK _ _ (hB.on hb) (gEq_on hb) ⟨_, rfl, hr.ints⟩ _ (by simp only [putAll]; go_simp)
      · intro us wz hB hdeps K hK
        have g0 : us 0 = .agg #[.slice (some ⟨g5, 0, none⟩) xs.length xs.length] := hdeps.1 rfl
        obtain ⟨r2, g2, i2⟩ : ∃ r, us 2 = .agg #[r] ∧ IsInts wz r xs := hdeps.2.1 rfl
        clear hdeps
        simp only [putAll]
        go_simp
        refine (CE1.out _ _ _ hB.n.o1.ints i2).mono ?_
        rintro e wy ⟨rfl, hb⟩
        exact hK _ _ (hB.on hb) (gEq_on hb) rfl _ (by simp only [putAll]; go_simp)
      · intro us wz hB hdeps K hK
        have g0 : us 3 = .bool true := hdeps.1 rfl
        clear hdeps
        simp only [putAll]
        go_simp
        exact hK _ _ hB (fun _ _ h => h) rfl _ (by simp only [putAll]; go_simp)
    · intro us wB hB hG a' ha'
      have g4 : us 4 = .bool false := hG 4 (by decide)
      clear hG
      simp only [putAll, g4] at ha'
      subst ha'
      go_frame
      have HBB : Hid (NeedR w (.slice a1 n1 c1) (.slice a2 n2 c2) S ns w3.heap.size (.slice (some ⟨w3.heap.size, 0, none⟩) own.length own.length) own w4.heap.size (.slice (some ⟨g5, 0, none⟩) xs.length xs.length) xs w5.heap.size (.slice (some ⟨g6, 0, none⟩) ys.length ys.length) ys w6.heap.size R ns w7.heap.size wB) := hB
      clear hB HBA CE1
      go_wp2_with fail
      refine wp_region_all (by kernel_rfl) (by kernel_rfl) (by kernel_rfl) (NeedR w (.slice a1 n1 c1) (.slice a2 n2 c2) S ns w3.heap.size (.slice (some ⟨w3.heap.size, 0, none⟩) own.length own.length) own w4.heap.size (.slice (some ⟨g5, 0, none⟩) xs.length xs.length) xs w5.heap.size (.slice (some ⟨g6, 0, none⟩) ys.length ys.length) ys w6.heap.size R ns w7.heap.size) (gEq (.slice (some ⟨g6, 0, none⟩) ys.length ys.length) (.slice a2 n2 c2) ys) HBB.out.drew ?_ ?_
      · refine ⟨?_, ?_, ?_, ?_, ?_, trivial⟩
        · intro us wz hB hdeps K hK
          have q := hB.n.o2.cell
          clear hdeps
          simp only [putAll]
          go_simp
          exact hK _ _ hB (fun _ _ h => h) rfl _ (by simp only [putAll]; go_simp)
        · intro us wz hB hdeps K hK
          have q := hB.n.two.c1
          clear hdeps
          simp only [putAll]
          go_simp
          exact hK _ _ hB (fun _ _ h => h) rfl _ (by simp only [putAll]; go_simp)
        · intro us wz hB hdeps K hK
          have g0 : us 1 = .agg #[.slice a2 n2 c2] := hdeps.1 rfl
          clear hdeps
          simp only [putAll]
          go_simp
          refine (CT2.out _ hB.n.two.below).mono ?_
          rintro e wy ⟨g, rfl, hg, hr, hb⟩
          exact hK _ _ (hB.on hb) (gEq_on hb) ⟨_, rfl, hr.ints⟩ _ (by simp only [putAll]; go_simp)
        · intro us wz hB hdeps K hK
          have g0 : us 0 = .agg #[.slice (some ⟨g6, 0, none⟩) ys.length ys.length] := hdeps.1 rfl
          obtain ⟨r2, g2, i2⟩ : ∃ r, us 2 = .agg #[r] ∧ IsInts wz r ys := hdeps.2.1 rfl
          clear hdeps
          simp only [putAll]
          go_simp
          refine (CE2.out _ _ _ hB.n.o2.ints i2).mono ?_
          rintro e wy ⟨rfl, hb⟩
          exact hK _ _ (hB.on hb) (gEq_on hb) rfl _ (by simp only [putAll]; go_simp)
        · intro us wz hB hdeps K hK
          have g0 : us 3 = .bool true := hdeps.1 rfl
          clear hdeps
          simp only [putAll]
          go_simp
          exact hK _ _ hB (fun _ _ h => h) rfl _ (by simp only [putAll]; go_simp)
      · intro us wC hB hG a' ha'
        have g4 : us 4 = .bool false := hG 4 (by decide)
        clear hG
        simp only [putAll, g4] at ha'
        subst ha'
        go_frame
        have HBC : Hid (NeedR w (.slice a1 n1 c1) (.slice a2 n2 c2) S ns w3.heap.size (.slice (some ⟨w3.heap.size, 0, none⟩) own.length own.length) own w4.heap.size (.slice (some ⟨g5, 0, none⟩) xs.length xs.length) xs w5.heap.size (.slice (some ⟨g6, 0, none⟩) ys.length ys.length) ys w6.heap.size R ns w7.heap.size wC) := hB
        clear hB HBB CE2
        go_wp2_with fail
        refine (mark_V HBC.out.n.o0 1 HN.out.1 (by omega) (by omega)).mono ?_
        rintro e wD ⟨row, rfl, hg, hk, ho⟩
        have HBD : Hid (NeedR w (.slice a1 n1 c1) (.slice a2 n2 c2) S ns w3.heap.size (.slice (some ⟨w3.heap.size, 0, none⟩) own.length own.length) (upFrom 1 own.length) w4.heap.size (.slice (some ⟨g5, 0, none⟩) xs.length xs.length) xs w5.heap.size (.slice (some ⟨g6, 0, none⟩) ys.length ys.length) ys w6.heap.size R ns w7.heap.size wD) := ⟨HBC.out.n.mark0 hg hk ho, HBC.out.r.by' hg fun k e => by have := hk k e; have := HBC.out.n.r3; have := HBC.out.n.r4; omega⟩
        have qD := HBD.out.n.o1.cell
        clear hg hk ho HBC
        go_wp2_with fail
        refine (mark_boxed HBD.out.n.o1 (Nat.le_refl _) (1 + own.length) HN.out.2.1 (by omega) (by have := HN.out.1; omega)).mono ?_
        rintro e wE ⟨row, rfl, hg, hk, ho⟩
        have HBE : Hid (NeedR w (.slice a1 n1 c1) (.slice a2 n2 c2) S ns w3.heap.size (.slice (some ⟨w3.heap.size, 0, none⟩) own.length own.length) (upFrom 1 own.length) w4.heap.size (.slice (some ⟨g5, 0, none⟩) xs.length xs.length) (upFrom (1 + own.length) xs.length) w5.heap.size (.slice (some ⟨g6, 0, none⟩) ys.length ys.length) ys w6.heap.size R ns w7.heap.size wE) := ⟨HBD.out.n.mark1 hg hk ho, HBD.out.r.by' hg fun k e => by have := hk k e; have := HBD.out.n.r4; omega⟩
        have qE := HBE.out.n.o2.cell
        clear hg hk ho HBD qD
        go_wp2_with fail
        refine (mark_boxed HBE.out.n.o2 (Nat.le_refl _) (1 + own.length + xs.length) HN.out.2.2.1 (by omega) (by have := HN.out; omega)).mono ?_
        rintro e wF ⟨row, rfl, hg, hk, ho⟩
        have HBF : Hid (NeedR w (.slice a1 n1 c1) (.slice a2 n2 c2) S ns w3.heap.size (.slice (some ⟨w3.heap.size, 0, none⟩) own.length own.length) (upFrom 1 own.length) w4.heap.size (.slice (some ⟨g5, 0, none⟩) xs.length xs.length) (upFrom (1 + own.length) xs.length) w5.heap.size (.slice (some ⟨g6, 0, none⟩) ys.length ys.length) (upFrom (1 + own.length + xs.length) ys.length) w6.heap.size R ns w7.heap.size wF) := ⟨HBE.out.n.mark2 hg hk ho, HBE.out.r.by' hg fun k e => by have := hk k e; omega⟩
        have hpos : ¬ ((1 : Int) + own.length + xs.length + ys.length < 0) := by omega
        clear hg hk ho HBE qE
        go_wp2_with fail
        refine (CEN.out _ _ _ HBF.out.r.ints HBF.out.n.s.ints).mono ?_
        rintro e wG ⟨rfl, hbG⟩
        have HBG : Hid (NeedR w (.slice a1 n1 c1) (.slice a2 n2 c2) S ns w3.heap.size (.slice (some ⟨w3.heap.size, 0, none⟩) own.length own.length) (upFrom 1 own.length) w4.heap.size (.slice (some ⟨g5, 0, none⟩) xs.length xs.length) (upFrom (1 + own.length) xs.length) w5.heap.size (.slice (some ⟨g6, 0, none⟩) ys.length ys.length) (upFrom (1 + own.length + xs.length) ys.length) w6.heap.size R ns w7.heap.size wG) := HBF.out.on hbG
        clear hbG HBF
        go_wp2_with fail
        refine (mark_V HBG.out.r 1 HN.out.2.2.2 (by omega) (by omega)).mono ?_
        rintro e wH ⟨row, rfl, hg, hk, ho⟩
        have HBH : Hid (NeedR w (.slice a1 n1 c1) (.slice a2 n2 c2) S ns w3.heap.size (.slice (some ⟨w3.heap.size, 0, none⟩) own.length own.length) (upFrom 1 own.length) w4.heap.size (.slice (some ⟨g5, 0, none⟩) xs.length xs.length) (upFrom (1 + own.length) xs.length) w5.heap.size (.slice (some ⟨g6, 0, none⟩) ys.length ys.length) (upFrom (1 + own.length + xs.length) ys.length) w6.heap.size R (upFrom 1 ns.length) w7.heap.size wH) := ⟨HBG.out.n.behind hg fun k e => (hk k e).1, ho⟩
        clear hg hk ho HBG
        have hmp : ¬ ((1 : Int) + ns.length < 0) := by omega
        have hmn : (((1 : Int) + ns.length) != (1 + ns.length)) = false := by simp
        have CH : Hid (∀ w', IsInts w' R (upFrom 1 ns.length) → Calls Try.prog 31 #[R, .int .i64 1] w' fun e w'' => e = .returned (.int .i64 (1 + ns.length)) ∧ w' = w'') := fun w' h => heldIntS_up R ns.length 1 w' h HN.out.2.2.2 (by omega) (by omega)
        go_wp2_with fail
        refine (CH.out _ HBH.out.r.ints).mono ?_
        rintro e wI ⟨rfl, rfl⟩
        go_wp2_with fail
        refine wp_region_all (by kernel_rfl) (by kernel_rfl) (by kernel_rfl) (NeedR w (.slice a1 n1 c1) (.slice a2 n2 c2) S ns w3.heap.size (.slice (some ⟨w3.heap.size, 0, none⟩) own.length own.length) (upFrom 1 own.length) w4.heap.size (.slice (some ⟨g5, 0, none⟩) xs.length xs.length) (upFrom (1 + own.length) xs.length) w5.heap.size (.slice (some ⟨g6, 0, none⟩) ys.length ys.length) (upFrom (1 + own.length + xs.length) ys.length) w6.heap.size R (upFrom 1 ns.length) w7.heap.size) (gNeed (.slice a0 n0 c0) (.slice a1 n1 c1) (.slice a2 n2 c2) own xs ys ns (w.heap.size + 1 + 1)) HBH.out.drew ?_ ?_
        · refine ⟨?_, ?_, ?_, ?_, ?_, ?_, ?_, ?_, trivial⟩
          · intro us wz hB hdeps K hK
            clear hdeps
            simp only [putAll]
            go_simp
            exact hK _ _ hB (fun _ _ h => h) rfl _ (by simp only [putAll]; go_simp)
          · intro us wz hB hdeps K hK
            have g0 : us 0 = .slice a0 n0 c0 := hdeps.1 rfl
            clear hdeps
            simp only [putAll]
            go_simp
            refine (CT0.out _ hB.n.two.below).mono ?_
            rintro e wy ⟨rfl, hr, hb⟩
            exact hK _ _ (hB.on hb) (gNeed_on hb) hr.ints _ (by simp only [putAll]; go_simp)
          · intro us wz hB hdeps K hK
            have q := hB.n.two.c0
            clear hdeps
            simp only [putAll]
            go_simp
            exact hK _ _ hB (fun _ _ h => h) rfl _ (by simp only [putAll]; go_simp)
          · intro us wz hB hdeps K hK
            have g0 : us 2 = .agg #[.slice a1 n1 c1] := hdeps.1 rfl
            clear hdeps
            simp only [putAll]
            go_simp
            refine (CT1.out _ hB.n.two.below).mono ?_
            rintro e wy ⟨g, rfl, hg, hr, hb⟩
            exact hK _ _ (hB.on hb) (gNeed_on hb) ⟨_, rfl, hr.ints⟩ _ (by simp only [putAll]; go_simp)
          · intro us wz hB hdeps K hK
            have q := hB.n.two.c1
            clear hdeps
            simp only [putAll]
            go_simp
            exact hK _ _ hB (fun _ _ h => h) rfl _ (by simp only [putAll]; go_simp)
          · intro us wz hB hdeps K hK
            have g0 : us 4 = .agg #[.slice a2 n2 c2] := hdeps.1 rfl
            clear hdeps
            simp only [putAll]
            go_simp
            refine (CT2.out _ hB.n.two.below).mono ?_
            rintro e wy ⟨g, rfl, hg, hr, hb⟩
            exact hK _ _ (hB.on hb) (gNeed_on hb) ⟨_, rfl, hr.ints⟩ _ (by simp only [putAll]; go_simp)
          · intro us wz hB hdeps K hK
            have g1 : IsInts wz (us 1) own := hdeps.1 rfl
            obtain ⟨r3, g3, i3⟩ : ∃ r, us 3 = .agg #[r] ∧ IsInts wz r xs := hdeps.2.1 rfl
            obtain ⟨r5, g5, i5⟩ : ∃ r, us 5 = .agg #[r] ∧ IsInts wz r ys := hdeps.2.2.1 rfl
            have hsz := hB.n.two.size
            clear hdeps
            simp only [putAll]
            go_simp
            refine (CI.out _ _ _ _ g1 i3 i5).mono ?_
            rintro e wy ⟨r, rfl, hr, hb⟩
            exact hK _ _ (hB.on hb) (gNeed_on hb) (own_from2 hr (by omega)) _ (by simp only [putAll]; go_simp)
          · intro us wz hB hdeps K hK
            have g6 : World.ownsRow wz (w.heap.size + 1 + 1) 3 1 (us 6) ns.length (icells ns) := hdeps.1 rfl
            clear hdeps
            simp only [putAll]
            go_simp
            exact hK _ _ hB (fun _ _ h => h) g6 _ (by simp only [putAll]; go_simp)
        · intro us wJ hB hG a' ha'
          have g7 : World.ownsRow wJ (w.heap.size + 1 + 1) 3 1 (us 7) ns.length (icells ns) := hG 7 (by decide)
          clear hG
          obtain ⟨H, hS⟩ : ∃ S, us 7 = S := ⟨_, rfl⟩
          rw [hS] at g7
          simp only [putAll, hS] at ha'
          subst ha'
          go_frame
          have HBJ : Hid (NeedR w (.slice a1 n1 c1) (.slice a2 n2 c2) S ns w3.heap.size (.slice (some ⟨w3.heap.size, 0, none⟩) own.length own.length) (upFrom 1 own.length) w4.heap.size (.slice (some ⟨g5, 0, none⟩) xs.length xs.length) (upFrom (1 + own.length) xs.length) w5.heap.size (.slice (some ⟨g6, 0, none⟩) ys.length ys.length) (upFrom (1 + own.length + xs.length) ys.length) w6.heap.size R (upFrom 1 ns.length) w7.heap.size wJ) := hB
          have HIJ : Hid (IsInts wJ H ns) := isInts_own g7
          clear hB HBH g7 hS CI
          go_wp2_with fail
          refine (CEN.out _ _ _ HIJ.out HBJ.out.n.s.ints).mono ?_
          rintro e wK ⟨rfl, hbK⟩
          have HBK : Hid (NeedR w (.slice a1 n1 c1) (.slice a2 n2 c2) S ns w3.heap.size (.slice (some ⟨w3.heap.size, 0, none⟩) own.length own.length) (upFrom 1 own.length) w4.heap.size (.slice (some ⟨g5, 0, none⟩) xs.length xs.length) (upFrom (1 + own.length) xs.length) w5.heap.size (.slice (some ⟨g6, 0, none⟩) ys.length ys.length) (upFrom (1 + own.length + xs.length) ys.length) w6.heap.size R (upFrom 1 ns.length) w7.heap.size wK) := HBJ.out.on hbK
          clear hbK HBJ HIJ
          go_wp2_with fail
          refine (CH.out _ HBK.out.r.ints).mono ?_
          rintro e wL ⟨rfl, rfl⟩
          go_wp2
          go_ret
          exact ⟨rfl, HBK.out.n.two.below⟩

set_option maxHeartbeats 1000000 in
theorem lawNeeds_big (a0 a1 a2 : Option Addr) (n0 c0 n1 c1 n2 c2 : Nat) (w : World) (m0 : n0 ≤ 9223372036854775807) (m1 : n1 ≤ 9223372036854775807) (m2 : n2 ≤ 9223372036854775807) (h : ¬ (¬ (1048576 : Int) < n0 ∧ (n1 : Int) ≤ 1048576 ∧ (n2 : Int) ≤ 1048576 - n1)) :
    Calls Try.prog 7 #[.slice a0 n0 c0, .agg #[.slice a1 n1 c1], .agg #[.slice a2 n2 c2]] w fun e w' => e = .returned (.bool true) ∧ Below w.heap.size w w' := by
  have T0 := twoW_two w (.slice a1 n1 c1) (.slice a2 n2 c2)
  have HT0 : Hid (Two w (.slice a1 n1 c1) (.slice a2 n2 c2) (twoW w (.slice a1 n1 c1) (.slice a2 n2 c2))) := T0
  clear T0
  by_cases s0 : (1048576 : Int) < n0
  · clear h
    go_enter Try.func7, Try.ntmps7
    go_wp2
    go_ret
    exact ⟨rfl, HT0.out.below⟩
  · have C1 := szLabel_wide a1 n1 c1 1048576 (twoW w (.slice a1 n1 c1) (.slice a2 n2 c2)) (by omega) (by omega) m1
    by_cases s1 : (n1 : Int) ≤ 1048576
    · have s2 : ¬ (n2 : Int) ≤ 1048576 - n1 := fun hh => h ⟨s0, s1, hh⟩
      have C2 : Hid (∀ w, _) := fun w => szLabel_wide a2 n2 c2 (1048576 - n1) w (by omega) (by omega) m2
      rw [szOf_yes s1] at C1
      rw [szOf_no s2] at C2
      have l1 : ¬ (1048576 : Int) - n1 < 0 := by omega
      clear h s1 s2
      go_enter Try.func7, Try.ntmps7
      go_wp2_with fail
      refine C1.mono ?_
      rintro e w1 ⟨rfl, hb1⟩
      have HT1 : Hid (Two w (.slice a1 n1 c1) (.slice a2 n2 c2) w1) := HT0.out.on hb1
      have q1 := HT1.out.c1
      clear C1 hb1 HT0
      go_wp2_with fail
      refine (C2.out _).mono ?_
      rintro e w2 ⟨rfl, hb2⟩
      have HT2 : Hid (Two w (.slice a1 n1 c1) (.slice a2 n2 c2) w2) := HT1.out.on hb2
      clear C2 hb2 HT1 q1
      go_wp2
      go_ret
      exact ⟨rfl, HT2.out.below⟩
    · rw [szOf_no s1] at C1
      clear h s1
      go_enter Try.func7, Try.ntmps7
      go_wp2_with fail
      refine C1.mono ?_
      rintro e w1 ⟨rfl, hb1⟩
      have HT1 : Hid (Two w (.slice a1 n1 c1) (.slice a2 n2 c2) w1) := HT0.out.on hb1
      clear C1 hb1 HT0
      go_wp2
      go_ret
      exact ⟨rfl, HT1.out.below⟩

theorem walkNeeds (a0 : Option Addr) (n0 c0 : Nat) (own : List Int) (a1 : Option Addr) (n1 c1 : Nat) (xs : List Int) (a2 : Option Addr) (n2 c2 : Nat) (ys : List Int) (w : World) (i0 : IsInts w (.slice a0 n0 c0) own) (e0 : n0 = own.length) (m0 : n0 ≤ maxLen) (i1 : IsInts w (.slice a1 n1 c1) xs) (e1 : n1 = xs.length) (m1 : n1 ≤ maxLen) (i2 : IsInts w (.slice a2 n2 c2) ys) (e2 : n2 = ys.length) (m2 : n2 ≤ maxLen) :
    Calls Try.prog 7 #[.slice a0 n0 c0, .agg #[.slice a1 n1 c1], .agg #[.slice a2 n2 c2]] w fun e w' => e = .returned (.bool true) ∧ Below w.heap.size w w' := by
  unfold maxLen at m0 m1 m2
  by_cases h : ¬ (1048576 : Int) < n0 ∧ (n1 : Int) ≤ 1048576 ∧ (n2 : Int) ≤ 1048576 - n1
  · exact lawNeeds_small a0 a1 a2 n0 c0 n1 c1 n2 c2 own xs ys w i0 i1 i2 e0 e1 e2 h.1 h.2.1 h.2.2
  · exact lawNeeds_big a0 a1 a2 n0 c0 n1 c1 n2 c2 w (by omega) (by omega) (by omega) h

namespace Needs
set_option maxRecDepth 100000 in
theorem lifted (os : Os) (started : os.Started) (H : Type) (enc : TypeId × Value → H) :
    ReturnsInHanded {} Try.checked os 7 .any (Rows.fnExactNeedsSpec.pre6 enc Try.prog Try.f7 Rows.fnExactNeedsRow.domain false) (Rows.fnExactNeedsSpec.post enc Try.prog Try.f7 false true false false) := by
  refine returnsInHanded_of_change (C := Try.checked) own started (by kernel_rfl) Try.func7
    (ChangeSpec.witness6 (enc := enc) (C := Try.checked) false ⟨#[], #[.slice none 0 0, .agg #[.slice none 0 0], .agg #[.slice none 0 0]], []⟩ 8 (by kernel_rfl) (by kernel_rfl) (by kernel_rfl) (by kernel_rfl)) ?_
  intro W base args ds gs before hval0 hW hcnd _
  have hval : ∀ (j : Nat) t v, Try.f7.params[j]? = some t → args[j]? = some v → Value.okWide Try.prog W .any base t v := hval0
  have hW' := hW
  obtain ⟨p, q, hA0, hV, rfl, hfz, hnd⟩ := hW
  have hA : DataW.TrodAll enc Try.prog W 0 (fun _ => true) true Try.f7.params.toList args.toList ds p := hA0
  rw [Try.params7] at hA hval
  obtain ⟨v0, vs0, d0, ds0, p0, q0, hargs, rfl, rfl, h0, r0⟩ := trodAll_cons hA
  obtain ⟨v1, vs1, d1, ds1, p1, q1, hargs1, rfl, rfl, h1, r1⟩ := trodAll_cons r0
  obtain ⟨v2, vs2, d2, ds2, p2, q2, hargs2, rfl, rfl, h2, r2⟩ := trodAll_cons r1
  obtain ⟨rfl, rfl, rfl⟩ := trodAll_nil r2
  obtain rfl : args = #[v0, v1, v2] := by cases args; simp_all
  obtain ⟨rfl, rfl⟩ := trodVars_none hV
  obtain ⟨a0, n0, c0, xs0, rfl, i0, e0, m0⟩ := open_intS (hval 0 24 v0 rfl rfl) h0
  obtain ⟨a1, n1, c1, xs1, rfl, i1, e1, m1⟩ := open_label (hval 1 44 v1 rfl rfl) h1
  obtain ⟨a2, n2, c2, xs2, rfl, i2, e2, m2⟩ := open_label (hval 2 44 v2 rfl rfl) h2
  have k0 := h0
  have lt0 : ∀ x ∈ p0, x.block < W.heap.size := by obtain ⟨m, hm⟩ := k0; exact DataW.trod_lt m _ _ _ hm
  have k1 := h1
  have lt1 : ∀ x ∈ p1, x.block < W.heap.size := by obtain ⟨m, hm⟩ := k1; exact DataW.trod_lt m _ _ _ hm
  have k2 := h2
  have lt2 : ∀ x ∈ p2, x.block < W.heap.size := by obtain ⟨m, hm⟩ := k2; exact DataW.trod_lt m _ _ _ hm
  clear hA0 hval0
  refine (walkNeeds a0 n0 c0 xs0 a1 n1 c1 xs1 a2 n2 c2 xs2 W i0 e0 m0 i1 e1 m1 i2 e2 m2).mono fun e W' ⟨he, bel⟩ => ?_
  subst he
  exact ⟨_, rfl, _, _, _, [], _, [], hW', trodAll_mk1 (shut_bool Try.underlying4 _), (trodAll_cons_mk (Below.trod laidOut (by kernel_rfl) (of_decide_eq_true (by kernel_rfl)) k0 bel lt0) (trodAll_cons_mk (Below.trod laidOut (by kernel_rfl) (of_decide_eq_true (by kernel_rfl)) k1 bel lt1) (trodAll_cons_mk (Below.trod laidOut (by kernel_rfl) (of_decide_eq_true (by kernel_rfl)) k2 bel lt2) trodAll_mk0))), rfl, bel.frame _, fun h => by cases h⟩

theorem over : Rows.fnExactNeedsRow.holds Try.pinned (OpenSpec.ofChange Rows.fnExactNeedsSpec) :=
  OpenClaim.holds_of_wide 7 Try.f7 rfl rfl rfl rfl rfl rfl rfl ⟨rfl, rfl, rfl, rfl, rfl⟩ rfl rfl rfl rfl rfl (by kernel_rfl) Try.func7 (by kernel_rfl)
    (of_decide_eq_true (by kernel_rfl)) (by unfold Func.isWrapper; first | (rw [if_pos (by decide +kernel)]; kernel_rfl) | (rw [if_neg (by decide +kernel)]; exact ⟨rfl, rfl⟩))
    (fun os started H enc _ => lifted os started H enc)
end Needs
theorem needs_holds : Rows.FnExactNeedsSaid := Needs.over
#print axioms needs_holds
end Go.Proofs.Ytbahokkofidmeaa
