/-
  Promise 5's law at every code that is not too long: it answers true.
-/
import Derived.Test.YtiolhhamedjmgaaDrawG
import Derived.Test.YtiolhhamedjmgaaBig
import Derived.Test.YtiolhhamedjmgaaAdd
import Derived.Test.YtiolhhamedjmgaaISub
import Derived.Test.YtiolhhamedjmgaaOne
import Derived.Laws.StructEq
namespace Go.Proofs.Ytiolhhamedjmgaa
open Go.RowKit
set_option linter.unusedVariables false

theorem two_in (w1 : World) (a b c d e f : Int) : Box3 ((w1.alloc (boxA a b c)).alloc (boxA d e f)) w1.heap.size 25 a b c ∧ Box3 ((w1.alloc (boxA a b c)).alloc (boxA d e f)) (w1.heap.size + 1) 25 d e f := by
  have h := heap_alloc_new (w1.alloc (boxA a b c)) (boxA d e f)
  rw [show (w1.alloc (boxA a b c)).heap.size = w1.heap.size + 1 by simp] at h
  exact ⟨⟨by rw [heap_alloc_old _ _ (by simp)]; exact heap_alloc_new w1 _⟩, ⟨h⟩⟩
theorem below_two (w1 : World) (a b c d e f : Int) : Below w1.heap.size w1 ((w1.alloc (boxA a b c)).alloc (boxA d e f)) := ((Below.refl _ _).alloc (Nat.le_refl _) _).alloc (by simp) _
theorem box_on {w w' : World} {g : Nat} {t : TypeId} {a b c : Int} (h : Box3 w g t a b c) (hb : Below w.heap.size w w') : Box3 w' g t a b c := h.on hb (lt_of_block h.at')
theorem below_more {w w1 w2 : World} (h : Below w.heap.size w w1) (hb : Below w1.heap.size w1 w2) : Below w.heap.size w w2 := h.trans (hb.mono h.size)
/-- The two amounts in boxes, and that nothing old is touched. -/
structure TwoA (w : World) (B : Nat) (a b c d e f : Int) (wz : World) : Prop where
  x : Box3 wz B 25 a b c
  y : Box3 wz (B + 1) 25 d e f
  below : Below w.heap.size w wz
theorem TwoA.on {w : World} {B : Nat} {a b c d e f : Int} {wz w' : World} (h : TwoA w B a b c d e f wz) (hb : Below wz.heap.size wz w') : TwoA w B a b c d e f w' := ⟨box_on h.x hb, box_on h.y hb, below_more h.below hb⟩
/-- What is left when what fits is taken away, and what was added. -/
theorem back_add {a b c d e f : Int} (h : fitsIn d e f a b c = true) (w : World) : Calls Try.prog 11 #[amt (a - d) (b - e) (c - f), amt d e f] w fun r w' => r = .returned (.tuple #[amt a b c, .bool true]) ∧ Below w.heap.size w w' := by
  obtain ⟨⟨hx, hy⟩, h1⟩ : (amtOk d e f = true ∧ amtOk a b c = true) ∧ ((d ≤ a ∧ e ≤ b) ∧ f ≤ c) := by unfold fitsIn at h; simpa using h
  have u := amtOk_true hx
  have v := amtOk_true hy
  have hz : amtOk (a - d) (b - e) (c - f) = true := by unfold amtOk; rw [numOk_yes (by omega) (by omega), numOk_yes (by omega) (by omega), numOk_yes (by omega) (by omega)]; rfl
  have e1 : a - d + d = a := by omega
  have e2 : b - e + e = b := by omega
  have e3 : c - f + f = c := by omega
  have hq : addOk (a - d) (b - e) (c - f) d e f = true := by unfold addOk; rw [e1, e2, e3, hx, hy, hz]; rfl
  have C := implAdd_yes (a - d) (b - e) (c - f) d e f w hq
  rw [e1, e2, e3] at C
  exact C
theorem left_ok {a b c d e f : Int} (h : fitsIn d e f a b c = true) : amtOk (a - d) (b - e) (c - f) = true := by
  obtain ⟨⟨hx, hy⟩, h1⟩ : (amtOk d e f = true ∧ amtOk a b c = true) ∧ ((d ≤ a ∧ e ≤ b) ∧ f ≤ c) := by unfold fitsIn at h; simpa using h
  have u := amtOk_true hx
  have v := amtOk_true hy
  unfold amtOk; rw [numOk_yes (by omega) (by omega), numOk_yes (by omega) (by omega), numOk_yes (by omega) (by omega)]; rfl
theorem sum_ok {a b c d e f : Int} (h : addOk a b c d e f = true) : amtOk (a + d) (b + e) (c + f) = true := by
  unfold addOk at h; simp at h; exact h.2
theorem back_sub {a b c d e f : Int} (h : addOk a b c d e f = true) (w : World) : Calls Try.prog 12 #[amt (a + d) (b + e) (c + f), amt d e f] w fun r w' => r = .returned (.tuple #[amt a b c, .bool true]) ∧ Below w.heap.size w w' := by
  obtain ⟨⟨hx, hy⟩, hz⟩ : (amtOk a b c = true ∧ amtOk d e f = true) ∧ amtOk (a + d) (b + e) (c + f) = true := by unfold addOk at h; simpa using h
  have u := amtOk_true hx
  have e1 : a + d - d = a := by omega
  have e2 : b + e - e = b := by omega
  have e3 : c + f - f = c := by omega
  have hq : fitsIn d e f (a + d) (b + e) (c + f) = true := by unfold fitsIn; rw [hy, hz]; simp; omega
  have C := implSub_yes (a + d) (b + e) (c + f) d e f w hq
  rw [e1, e2, e3] at C
  exact C
/-- The part of one amount. -/
def partV (k n : Int) : Int := if 0 ≤ k ∧ k ≤ 2 then n else 0
theorem part_one (k n : Int) (w : World) : Calls Try.prog 16 #[oneOf k n, .int .i64 k] w fun r w' => r = .returned (.int .i64 (partV k n)) ∧ Below w.heap.size w w' := by
  by_cases h0 : k = 0
  · subst h0; exact implPart_any n 0 0 0 n w (.inl ⟨rfl, rfl⟩)
  by_cases h1 : k = 1
  · subst h1; exact implPart_any 0 n 0 1 n w (.inr (.inl ⟨rfl, rfl⟩))
  by_cases h2 : k = 2
  · subst h2; exact implPart_any 0 0 n 2 n w (.inr (.inr ⟨rfl, rfl⟩))
  have e1 : oneOf k n = amt 0 0 0 := by simp [oneOf, h0, h1, h2]
  have e2 : partV k n = 0 := if_neg (by omega)
  rw [e1, e2]
  exact implPart_no 0 0 0 k w (by omega)
theorem oneOf_amt (k n : Int) : ∃ p q r : Int, oneOf k n = amt p q r := by
  unfold oneOf
  split
  · exact ⟨_, _, _, rfl⟩
  split
  · exact ⟨_, _, _, rfl⟩
  split
  · exact ⟨_, _, _, rfl⟩
  · exact ⟨_, _, _, rfl⟩

set_option maxRecDepth 100000 in
set_option maxHeartbeats 8000000 in
theorem lawAmts_small (w : World) (ad : Option Addr) (len cap : Nat) (cb : Nat → Nat) (hc : Code0 w ad len cb) :
    Calls Try.prog 3 #[.slice ad len cap] w fun e w' => e = .returned (.bool true) ∧ Below w.heap.size w w' := by
  have C0 := big_no w ad len cap (by have := hc.small; omega)
  have C1 := drawFits_any w ad len cap cb hc
  have HC : Hid (Code0 w ad len cb) := hc
  clear hc
  go_enter Try.func3, Try.ntmps3
  go_wp2_with fail
  refine C0.mono ?_
  rintro r0 w0 ⟨rfl, rfl⟩
  clear C0
  go_wp2_with fail
  refine C1.mono ?_
  rintro r0 w0 ⟨a, b, c, d, e, f, rfl, hb1⟩
  clear C1
  have HT : Hid (TwoA w w0.heap.size a b c d e f ((w0.alloc (boxA a b c)).alloc (boxA d e f))) := ⟨(two_in w0 a b c d e f).1, (two_in w0 a b c d e f).2, below_more hb1 (below_two w0 a b c d e f)⟩
  clear hb1
  rcases Bool.eq_false_or_eq_true (addOk a b c d e f) with hadd | hadd
  · rcases Bool.eq_false_or_eq_true (fitsIn d e f a b c) with hsub | hsub
    · have C2 := fun w => implAdd_yes a b c d e f w hadd
      have C3 := fun w => implSub_yes a b c d e f w hsub
      have C4 := fun w => implFits_any d e f a b c w
      rw [hsub] at C4
      have C5 := fun w => back_add hsub w
      have C6 := fun w => specAmtOk_in (a - d) (b - e) (c - f) w
      rw [left_ok hsub] at C6
      obtain ⟨x, hx⟩ : ∃ x, x = a - d := ⟨_, rfl⟩
      obtain ⟨y, hy⟩ : ∃ y, y = b - e := ⟨_, rfl⟩
      obtain ⟨z, hz⟩ : ∃ z, z = c - f := ⟨_, rfl⟩
      rw [← hx, ← hy, ← hz] at C3 C5 C6
      clear hx hy hz
      have C7 := fun w => back_sub hadd w
      have C8 := fun w => specAmtOk_in (a + d) (b + e) (c + f) w
      rw [sum_ok hadd] at C8
      obtain ⟨p, hp⟩ : ∃ p, p = a + d := ⟨_, rfl⟩
      obtain ⟨q, hq⟩ : ∃ q, q = b + e := ⟨_, rfl⟩
      obtain ⟨r, hr⟩ : ∃ r, r = c + f := ⟨_, rfl⟩
      rw [← hp, ← hq, ← hr] at C2 C7 C8
      clear hp hq hr
      clear hadd hsub
      have k0 := HT.out.x.c0
      have k1 := HT.out.x.c1
      have k2 := HT.out.x.c2
      have m0 := HT.out.y.c0
      have m1 := HT.out.y.c1
      have m2 := HT.out.y.c2
      go_wp2_with fail
      refine (C2 _).mono ?_
      rintro r0 w2 ⟨rfl, hb⟩
      clear k0 k1 k2 m0 m1 m2
      have HS : Hid (Box3 (w2.alloc (boxA p q r)) w2.heap.size 25 p q r) := ⟨heap_alloc_new w2 _⟩
      have HT2 : Hid (TwoA w w0.heap.size a b c d e f (w2.alloc (boxA p q r))) := (HT.out.on hb).on (below_alloc w2 _)
      clear HT hb C2
      have k0 := HT2.out.x.c0
      have k1 := HT2.out.x.c1
      have k2 := HT2.out.x.c2
      have m0 := HT2.out.y.c0
      have m1 := HT2.out.y.c1
      have m2 := HT2.out.y.c2
      go_wp2_with fail
      refine (C3 _).mono ?_
      rintro r0 w3 ⟨rfl, hb⟩
      clear k0 k1 k2 m0 m1 m2
      have HD : Hid (Box3 (w3.alloc (boxA x y z)) w3.heap.size 25 x y z) := ⟨heap_alloc_new w3 _⟩
      have HS3 : Hid (Box3 (w3.alloc (boxA x y z)) w2.heap.size 25 p q r) := box_on (box_on HS.out hb) (below_alloc w3 _)
      have HT3 : Hid (TwoA w w0.heap.size a b c d e f (w3.alloc (boxA x y z))) := (HT2.out.on hb).on (below_alloc w3 _)
      clear HS HT2 hb C3
      have k0 := HT3.out.x.c0
      have k1 := HT3.out.x.c1
      have k2 := HT3.out.x.c2
      have m0 := HT3.out.y.c0
      have m1 := HT3.out.y.c1
      have m2 := HT3.out.y.c2
      go_wp2_with fail
      refine (C4 _).mono ?_
      rintro r0 w4 ⟨rfl, hb⟩
      clear k0 k1 k2 m0 m1 m2
      have HD4 : Hid (Box3 w4 w3.heap.size 25 x y z) := box_on HD.out hb
      have HS4 : Hid (Box3 w4 w2.heap.size 25 p q r) := box_on HS3.out hb
      have HT4 : Hid (TwoA w w0.heap.size a b c d e f w4) := HT3.out.on hb
      clear HD HS3 HT3 hb C4
      have k0 := HT4.out.x.c0
      have k1 := HT4.out.x.c1
      have k2 := HT4.out.x.c2
      have m0 := HT4.out.y.c0
      have m1 := HT4.out.y.c1
      have m2 := HT4.out.y.c2
      have s0 := HS4.out.c0
      have s1 := HS4.out.c1
      have s2 := HS4.out.c2
      have t0 := HD4.out.c0
      have t1 := HD4.out.c1
      have t2 := HD4.out.c2
      go_wp2_with fail
      refine (C6 _).mono ?_
      rintro r0 w5 ⟨rfl, hw5⟩
      clear k0 k1 k2 m0 m1 m2 s0 s1 s2 t0 t1 t2
      have hb : Below w4.heap.size w4 w5 := by rw [hw5]; exact below_alloc w4 _
      clear hw5 C6
      have HD5 : Hid (Box3 w5 w3.heap.size 25 x y z) := box_on HD4.out hb
      have HS5 : Hid (Box3 w5 w2.heap.size 25 p q r) := box_on HS4.out hb
      have HT5 : Hid (TwoA w w0.heap.size a b c d e f w5) := HT4.out.on hb
      clear HD4 HS4 HT4 hb
      have k0 := HT5.out.x.c0
      have k1 := HT5.out.x.c1
      have k2 := HT5.out.x.c2
      have m0 := HT5.out.y.c0
      have m1 := HT5.out.y.c1
      have m2 := HT5.out.y.c2
      have s0 := HS5.out.c0
      have s1 := HS5.out.c1
      have s2 := HS5.out.c2
      have t0 := HD5.out.c0
      have t1 := HD5.out.c1
      have t2 := HD5.out.c2
      go_wp2_with fail
      refine (C5 _).mono ?_
      rintro r0 w6 ⟨rfl, hb⟩
      clear k0 k1 k2 m0 m1 m2 s0 s1 s2 t0 t1 t2
      have hb : Below w5.heap.size w5 (w6.alloc (boxA a b c)) := hb.trans ((below_alloc w6 _).mono hb.size)
      clear C5
      have HE : Hid (Box3 (w6.alloc (boxA a b c)) w6.heap.size 25 a b c) := ⟨heap_alloc_new w6 _⟩
      have HD6 : Hid (Box3 (w6.alloc (boxA a b c)) w3.heap.size 25 x y z) := box_on HD5.out hb
      have HS6 : Hid (Box3 (w6.alloc (boxA a b c)) w2.heap.size 25 p q r) := box_on HS5.out hb
      have HT6 : Hid (TwoA w w0.heap.size a b c d e f (w6.alloc (boxA a b c))) := HT5.out.on hb
      clear HD5 HS5 HT5 hb
      have v0 := HE.out.c0
      have v1 := HE.out.c1
      have v2 := HE.out.c2
      have k0 := HT6.out.x.c0
      have k1 := HT6.out.x.c1
      have k2 := HT6.out.x.c2
      have m0 := HT6.out.y.c0
      have m1 := HT6.out.y.c1
      have m2 := HT6.out.y.c2
      have s0 := HS6.out.c0
      have s1 := HS6.out.c1
      have s2 := HS6.out.c2
      have t0 := HD6.out.c0
      have t1 := HD6.out.c1
      have t2 := HD6.out.c2
      go_wp2_with fail
      refine (C7 _).mono ?_
      rintro r0 w7 ⟨rfl, hb⟩
      clear k0 k1 k2 m0 m1 m2 s0 s1 s2 t0 t1 t2
      clear v0 v1 v2 HE
      have hb : Below (w6.alloc (boxA a b c)).heap.size (w6.alloc (boxA a b c)) (w7.alloc (boxA a b c)) := hb.trans ((below_alloc w7 _).mono hb.size)
      clear C7
      have HE : Hid (Box3 (w7.alloc (boxA a b c)) w7.heap.size 25 a b c) := ⟨heap_alloc_new w7 _⟩
      have HD7 : Hid (Box3 (w7.alloc (boxA a b c)) w3.heap.size 25 x y z) := box_on HD6.out hb
      have HS7 : Hid (Box3 (w7.alloc (boxA a b c)) w2.heap.size 25 p q r) := box_on HS6.out hb
      have HT7 : Hid (TwoA w w0.heap.size a b c d e f (w7.alloc (boxA a b c))) := HT6.out.on hb
      clear HD6 HS6 HT6 hb
      have v0 := HE.out.c0
      have v1 := HE.out.c1
      have v2 := HE.out.c2
      have k0 := HT7.out.x.c0
      have k1 := HT7.out.x.c1
      have k2 := HT7.out.x.c2
      have m0 := HT7.out.y.c0
      have m1 := HT7.out.y.c1
      have m2 := HT7.out.y.c2
      have s0 := HS7.out.c0
      have s1 := HS7.out.c1
      have s2 := HS7.out.c2
      have t0 := HD7.out.c0
      have t1 := HD7.out.c1
      have t2 := HD7.out.c2
      go_wp2_with fail
      refine (C8 _).mono ?_
      rintro r0 w8 ⟨rfl, hw8⟩
      clear k0 k1 k2 m0 m1 m2 s0 s1 s2 t0 t1 t2
      clear v0 v1 v2 HE
      have hb : Below (w7.alloc (boxA a b c)).heap.size (w7.alloc (boxA a b c)) w8 := by rw [hw8]; exact below_alloc _ _
      clear hw8 C8
      have HD8 : Hid (Box3 w8 w3.heap.size 25 x y z) := box_on HD7.out hb
      have HS8 : Hid (Box3 w8 w2.heap.size 25 p q r) := box_on HS7.out hb
      have HT8 : Hid (TwoA w w0.heap.size a b c d e f w8) := HT7.out.on hb
      clear HD7 HS7 HT7 hb
      have HCX : Hid (Code0 w8 ad len cb) := HC.out.on HT8.out.below
      have C16 := drawOne_any w8 ad len cap cb HCX.out
      go_wp2_with fail
      refine C16.mono ?_
      rintro r w9 ⟨k, n, rfl, hb⟩
      have HB9 : Hid (Below w.heap.size w w9) := below_more HT8.out.below hb
      clear C16 hb
      have C17 := implOne_any k n w9
      obtain ⟨p9, q9, r9, he9⟩ := oneOf_amt k n
      have C18 := fun w => part_one k n w
      rw [he9] at C17 C18
      clear he9
      obtain ⟨m, hm⟩ : ∃ m, m = partV k n := ⟨_, rfl⟩
      rw [← hm] at C18
      have hcase : (m = n) ∨ (¬ m = n ∧ k < 0) ∨ (¬ m = n ∧ ¬ k < 0 ∧ 2 < k) := by
        unfold partV at hm
        split at hm <;> omega
      clear hm
      go_wp2_with fail
      refine C17.mono ?_
      rintro r w10 ⟨rfl, hb⟩
      have HB10 : Hid (Below w.heap.size w w10) := below_more HB9.out hb
      clear C17 hb HB9
      go_wp2_with fail
      refine (C18 w10).mono ?_
      rintro r w11 ⟨rfl, hb⟩
      have HB11 : Hid (Below w.heap.size w w11) := below_more HB10.out hb
      clear C18 hb HB10
      rcases hcase with hq | ⟨hq, hk⟩ | ⟨hq, hk, hk2⟩
      · subst hq
        go_wp2
        go_ret
        exact ⟨by simp, HB11.out⟩
      · go_wp2
        go_ret
        exact ⟨by simp, HB11.out⟩
      · go_wp2
        go_ret
        exact ⟨by simp, HB11.out⟩
    · have C2 := fun w => implAdd_yes a b c d e f w hadd
      have C3 := fun w => implSub_no a b c d e f w hsub
      have C4 := fun w => implFits_any d e f a b c w
      rw [hsub] at C4
      have C7 := fun w => back_sub hadd w
      have C8 := fun w => specAmtOk_in (a + d) (b + e) (c + f) w
      rw [sum_ok hadd] at C8
      obtain ⟨p, hp⟩ : ∃ p, p = a + d := ⟨_, rfl⟩
      obtain ⟨q, hq⟩ : ∃ q, q = b + e := ⟨_, rfl⟩
      obtain ⟨r, hr⟩ : ∃ r, r = c + f := ⟨_, rfl⟩
      rw [← hp, ← hq, ← hr] at C2 C7 C8
      clear hp hq hr
      clear hadd hsub
      have k0 := HT.out.x.c0
      have k1 := HT.out.x.c1
      have k2 := HT.out.x.c2
      have m0 := HT.out.y.c0
      have m1 := HT.out.y.c1
      have m2 := HT.out.y.c2
      go_wp2_with fail
      refine (C2 _).mono ?_
      rintro r0 w2 ⟨rfl, hb⟩
      clear k0 k1 k2 m0 m1 m2
      have HS : Hid (Box3 (w2.alloc (boxA p q r)) w2.heap.size 25 p q r) := ⟨heap_alloc_new w2 _⟩
      have HT2 : Hid (TwoA w w0.heap.size a b c d e f (w2.alloc (boxA p q r))) := (HT.out.on hb).on (below_alloc w2 _)
      clear HT hb C2
      have k0 := HT2.out.x.c0
      have k1 := HT2.out.x.c1
      have k2 := HT2.out.x.c2
      have m0 := HT2.out.y.c0
      have m1 := HT2.out.y.c1
      have m2 := HT2.out.y.c2
      go_wp2_with fail
      refine (C3 _).mono ?_
      rintro r0 w3 ⟨rfl, hb⟩
      clear k0 k1 k2 m0 m1 m2
      have HD : Hid (Box3 (w3.alloc (boxA a b c)) w3.heap.size 25 a b c) := ⟨heap_alloc_new w3 _⟩
      have HS3 : Hid (Box3 (w3.alloc (boxA a b c)) w2.heap.size 25 p q r) := box_on (box_on HS.out hb) (below_alloc w3 _)
      have HT3 : Hid (TwoA w w0.heap.size a b c d e f (w3.alloc (boxA a b c))) := (HT2.out.on hb).on (below_alloc w3 _)
      clear HS HT2 hb C3
      have k0 := HT3.out.x.c0
      have k1 := HT3.out.x.c1
      have k2 := HT3.out.x.c2
      have m0 := HT3.out.y.c0
      have m1 := HT3.out.y.c1
      have m2 := HT3.out.y.c2
      go_wp2_with fail
      refine (C4 _).mono ?_
      rintro r0 w4 ⟨rfl, hb⟩
      clear k0 k1 k2 m0 m1 m2
      have HD4 : Hid (Box3 w4 w3.heap.size 25 a b c) := box_on HD.out hb
      have HS4 : Hid (Box3 w4 w2.heap.size 25 p q r) := box_on HS3.out hb
      have HT4 : Hid (TwoA w w0.heap.size a b c d e f w4) := HT3.out.on hb
      clear HD HS3 HT3 hb C4
      have k0 := HT4.out.x.c0
      have k1 := HT4.out.x.c1
      have k2 := HT4.out.x.c2
      have m0 := HT4.out.y.c0
      have m1 := HT4.out.y.c1
      have m2 := HT4.out.y.c2
      have s0 := HS4.out.c0
      have s1 := HS4.out.c1
      have s2 := HS4.out.c2
      have t0 := HD4.out.c0
      have t1 := HD4.out.c1
      have t2 := HD4.out.c2
      go_wp2_with fail
      refine (C7 _).mono ?_
      rintro r0 w7 ⟨rfl, hb⟩
      clear k0 k1 k2 m0 m1 m2 s0 s1 s2 t0 t1 t2
      have hb : Below w4.heap.size w4 (w7.alloc (boxA a b c)) := hb.trans ((below_alloc w7 _).mono hb.size)
      clear C7
      have HE : Hid (Box3 (w7.alloc (boxA a b c)) w7.heap.size 25 a b c) := ⟨heap_alloc_new w7 _⟩
      have HD7 : Hid (Box3 (w7.alloc (boxA a b c)) w3.heap.size 25 a b c) := box_on HD4.out hb
      have HS7 : Hid (Box3 (w7.alloc (boxA a b c)) w2.heap.size 25 p q r) := box_on HS4.out hb
      have HT7 : Hid (TwoA w w0.heap.size a b c d e f (w7.alloc (boxA a b c))) := HT4.out.on hb
      clear HD4 HS4 HT4 hb
      have v0 := HE.out.c0
      have v1 := HE.out.c1
      have v2 := HE.out.c2
      have k0 := HT7.out.x.c0
      have k1 := HT7.out.x.c1
      have k2 := HT7.out.x.c2
      have m0 := HT7.out.y.c0
      have m1 := HT7.out.y.c1
      have m2 := HT7.out.y.c2
      have s0 := HS7.out.c0
      have s1 := HS7.out.c1
      have s2 := HS7.out.c2
      have t0 := HD7.out.c0
      have t1 := HD7.out.c1
      have t2 := HD7.out.c2
      go_wp2_with fail
      refine (C8 _).mono ?_
      rintro r0 w8 ⟨rfl, hw8⟩
      clear k0 k1 k2 m0 m1 m2 s0 s1 s2 t0 t1 t2
      clear v0 v1 v2 HE
      have hb : Below (w7.alloc (boxA a b c)).heap.size (w7.alloc (boxA a b c)) w8 := by rw [hw8]; exact below_alloc _ _
      clear hw8 C8
      have HD8 : Hid (Box3 w8 w3.heap.size 25 a b c) := box_on HD7.out hb
      have HS8 : Hid (Box3 w8 w2.heap.size 25 p q r) := box_on HS7.out hb
      have HT8 : Hid (TwoA w w0.heap.size a b c d e f w8) := HT7.out.on hb
      clear HD7 HS7 HT7 hb
      have HCX : Hid (Code0 w8 ad len cb) := HC.out.on HT8.out.below
      have C16 := drawOne_any w8 ad len cap cb HCX.out
      go_wp2_with fail
      refine C16.mono ?_
      rintro r w9 ⟨k, n, rfl, hb⟩
      have HB9 : Hid (Below w.heap.size w w9) := below_more HT8.out.below hb
      clear C16 hb
      have C17 := implOne_any k n w9
      obtain ⟨p9, q9, r9, he9⟩ := oneOf_amt k n
      have C18 := fun w => part_one k n w
      rw [he9] at C17 C18
      clear he9
      obtain ⟨m, hm⟩ : ∃ m, m = partV k n := ⟨_, rfl⟩
      rw [← hm] at C18
      have hcase : (m = n) ∨ (¬ m = n ∧ k < 0) ∨ (¬ m = n ∧ ¬ k < 0 ∧ 2 < k) := by
        unfold partV at hm
        split at hm <;> omega
      clear hm
      go_wp2_with fail
      refine C17.mono ?_
      rintro r w10 ⟨rfl, hb⟩
      have HB10 : Hid (Below w.heap.size w w10) := below_more HB9.out hb
      clear C17 hb HB9
      go_wp2_with fail
      refine (C18 w10).mono ?_
      rintro r w11 ⟨rfl, hb⟩
      have HB11 : Hid (Below w.heap.size w w11) := below_more HB10.out hb
      clear C18 hb HB10
      rcases hcase with hq | ⟨hq, hk⟩ | ⟨hq, hk, hk2⟩
      · subst hq
        go_wp2
        go_ret
        exact ⟨by simp, HB11.out⟩
      · go_wp2
        go_ret
        exact ⟨by simp, HB11.out⟩
      · go_wp2
        go_ret
        exact ⟨by simp, HB11.out⟩
  · rcases Bool.eq_false_or_eq_true (fitsIn d e f a b c) with hsub | hsub
    · have C2 := fun w => implAdd_no a b c d e f w hadd
      have C3 := fun w => implSub_yes a b c d e f w hsub
      have C4 := fun w => implFits_any d e f a b c w
      rw [hsub] at C4
      have C5 := fun w => back_add hsub w
      have C6 := fun w => specAmtOk_in (a - d) (b - e) (c - f) w
      rw [left_ok hsub] at C6
      obtain ⟨x, hx⟩ : ∃ x, x = a - d := ⟨_, rfl⟩
      obtain ⟨y, hy⟩ : ∃ y, y = b - e := ⟨_, rfl⟩
      obtain ⟨z, hz⟩ : ∃ z, z = c - f := ⟨_, rfl⟩
      rw [← hx, ← hy, ← hz] at C3 C5 C6
      clear hx hy hz
      clear hadd hsub
      have k0 := HT.out.x.c0
      have k1 := HT.out.x.c1
      have k2 := HT.out.x.c2
      have m0 := HT.out.y.c0
      have m1 := HT.out.y.c1
      have m2 := HT.out.y.c2
      go_wp2_with fail
      refine (C2 _).mono ?_
      rintro r0 w2 ⟨rfl, hb⟩
      clear k0 k1 k2 m0 m1 m2
      have HS : Hid (Box3 (w2.alloc (boxA a b c)) w2.heap.size 25 a b c) := ⟨heap_alloc_new w2 _⟩
      have HT2 : Hid (TwoA w w0.heap.size a b c d e f (w2.alloc (boxA a b c))) := (HT.out.on hb).on (below_alloc w2 _)
      clear HT hb C2
      have k0 := HT2.out.x.c0
      have k1 := HT2.out.x.c1
      have k2 := HT2.out.x.c2
      have m0 := HT2.out.y.c0
      have m1 := HT2.out.y.c1
      have m2 := HT2.out.y.c2
      go_wp2_with fail
      refine (C3 _).mono ?_
      rintro r0 w3 ⟨rfl, hb⟩
      clear k0 k1 k2 m0 m1 m2
      have HD : Hid (Box3 (w3.alloc (boxA x y z)) w3.heap.size 25 x y z) := ⟨heap_alloc_new w3 _⟩
      have HS3 : Hid (Box3 (w3.alloc (boxA x y z)) w2.heap.size 25 a b c) := box_on (box_on HS.out hb) (below_alloc w3 _)
      have HT3 : Hid (TwoA w w0.heap.size a b c d e f (w3.alloc (boxA x y z))) := (HT2.out.on hb).on (below_alloc w3 _)
      clear HS HT2 hb C3
      have k0 := HT3.out.x.c0
      have k1 := HT3.out.x.c1
      have k2 := HT3.out.x.c2
      have m0 := HT3.out.y.c0
      have m1 := HT3.out.y.c1
      have m2 := HT3.out.y.c2
      go_wp2_with fail
      refine (C4 _).mono ?_
      rintro r0 w4 ⟨rfl, hb⟩
      clear k0 k1 k2 m0 m1 m2
      have HD4 : Hid (Box3 w4 w3.heap.size 25 x y z) := box_on HD.out hb
      have HS4 : Hid (Box3 w4 w2.heap.size 25 a b c) := box_on HS3.out hb
      have HT4 : Hid (TwoA w w0.heap.size a b c d e f w4) := HT3.out.on hb
      clear HD HS3 HT3 hb C4
      have k0 := HT4.out.x.c0
      have k1 := HT4.out.x.c1
      have k2 := HT4.out.x.c2
      have m0 := HT4.out.y.c0
      have m1 := HT4.out.y.c1
      have m2 := HT4.out.y.c2
      have s0 := HS4.out.c0
      have s1 := HS4.out.c1
      have s2 := HS4.out.c2
      have t0 := HD4.out.c0
      have t1 := HD4.out.c1
      have t2 := HD4.out.c2
      go_wp2_with fail
      refine (C6 _).mono ?_
      rintro r0 w5 ⟨rfl, hw5⟩
      clear k0 k1 k2 m0 m1 m2 s0 s1 s2 t0 t1 t2
      have hb : Below w4.heap.size w4 w5 := by rw [hw5]; exact below_alloc w4 _
      clear hw5 C6
      have HD5 : Hid (Box3 w5 w3.heap.size 25 x y z) := box_on HD4.out hb
      have HS5 : Hid (Box3 w5 w2.heap.size 25 a b c) := box_on HS4.out hb
      have HT5 : Hid (TwoA w w0.heap.size a b c d e f w5) := HT4.out.on hb
      clear HD4 HS4 HT4 hb
      have k0 := HT5.out.x.c0
      have k1 := HT5.out.x.c1
      have k2 := HT5.out.x.c2
      have m0 := HT5.out.y.c0
      have m1 := HT5.out.y.c1
      have m2 := HT5.out.y.c2
      have s0 := HS5.out.c0
      have s1 := HS5.out.c1
      have s2 := HS5.out.c2
      have t0 := HD5.out.c0
      have t1 := HD5.out.c1
      have t2 := HD5.out.c2
      go_wp2_with fail
      refine (C5 _).mono ?_
      rintro r0 w6 ⟨rfl, hb⟩
      clear k0 k1 k2 m0 m1 m2 s0 s1 s2 t0 t1 t2
      have hb : Below w5.heap.size w5 (w6.alloc (boxA a b c)) := hb.trans ((below_alloc w6 _).mono hb.size)
      clear C5
      have HE : Hid (Box3 (w6.alloc (boxA a b c)) w6.heap.size 25 a b c) := ⟨heap_alloc_new w6 _⟩
      have HD6 : Hid (Box3 (w6.alloc (boxA a b c)) w3.heap.size 25 x y z) := box_on HD5.out hb
      have HS6 : Hid (Box3 (w6.alloc (boxA a b c)) w2.heap.size 25 a b c) := box_on HS5.out hb
      have HT6 : Hid (TwoA w w0.heap.size a b c d e f (w6.alloc (boxA a b c))) := HT5.out.on hb
      clear HD5 HS5 HT5 hb
      have v0 := HE.out.c0
      have v1 := HE.out.c1
      have v2 := HE.out.c2
      have k0 := HT6.out.x.c0
      have k1 := HT6.out.x.c1
      have k2 := HT6.out.x.c2
      have m0 := HT6.out.y.c0
      have m1 := HT6.out.y.c1
      have m2 := HT6.out.y.c2
      have s0 := HS6.out.c0
      have s1 := HS6.out.c1
      have s2 := HS6.out.c2
      have t0 := HD6.out.c0
      have t1 := HD6.out.c1
      have t2 := HD6.out.c2
      have HCX : Hid (Code0 (w6.alloc (boxA a b c)) ad len cb) := HC.out.on HT6.out.below
      have C16 := drawOne_any (w6.alloc (boxA a b c)) ad len cap cb HCX.out
      go_wp2_with fail
      refine C16.mono ?_
      rintro r w9 ⟨k, n, rfl, hb⟩
      have HB9 : Hid (Below w.heap.size w w9) := below_more HT6.out.below hb
      clear C16 hb
      have C17 := implOne_any k n w9
      obtain ⟨p9, q9, r9, he9⟩ := oneOf_amt k n
      have C18 := fun w => part_one k n w
      rw [he9] at C17 C18
      clear he9
      obtain ⟨m, hm⟩ : ∃ m, m = partV k n := ⟨_, rfl⟩
      rw [← hm] at C18
      have hcase : (m = n) ∨ (¬ m = n ∧ k < 0) ∨ (¬ m = n ∧ ¬ k < 0 ∧ 2 < k) := by
        unfold partV at hm
        split at hm <;> omega
      clear hm
      go_wp2_with fail
      refine C17.mono ?_
      rintro r w10 ⟨rfl, hb⟩
      have HB10 : Hid (Below w.heap.size w w10) := below_more HB9.out hb
      clear C17 hb HB9
      go_wp2_with fail
      refine (C18 w10).mono ?_
      rintro r w11 ⟨rfl, hb⟩
      have HB11 : Hid (Below w.heap.size w w11) := below_more HB10.out hb
      clear C18 hb HB10
      rcases hcase with hq | ⟨hq, hk⟩ | ⟨hq, hk, hk2⟩
      · subst hq
        go_wp2
        go_ret
        exact ⟨by simp, HB11.out⟩
      · go_wp2
        go_ret
        exact ⟨by simp, HB11.out⟩
      · go_wp2
        go_ret
        exact ⟨by simp, HB11.out⟩
    · have C2 := fun w => implAdd_no a b c d e f w hadd
      have C3 := fun w => implSub_no a b c d e f w hsub
      have C4 := fun w => implFits_any d e f a b c w
      rw [hsub] at C4
      clear hadd hsub
      have k0 := HT.out.x.c0
      have k1 := HT.out.x.c1
      have k2 := HT.out.x.c2
      have m0 := HT.out.y.c0
      have m1 := HT.out.y.c1
      have m2 := HT.out.y.c2
      go_wp2_with fail
      refine (C2 _).mono ?_
      rintro r0 w2 ⟨rfl, hb⟩
      clear k0 k1 k2 m0 m1 m2
      have HS : Hid (Box3 (w2.alloc (boxA a b c)) w2.heap.size 25 a b c) := ⟨heap_alloc_new w2 _⟩
      have HT2 : Hid (TwoA w w0.heap.size a b c d e f (w2.alloc (boxA a b c))) := (HT.out.on hb).on (below_alloc w2 _)
      clear HT hb C2
      have k0 := HT2.out.x.c0
      have k1 := HT2.out.x.c1
      have k2 := HT2.out.x.c2
      have m0 := HT2.out.y.c0
      have m1 := HT2.out.y.c1
      have m2 := HT2.out.y.c2
      go_wp2_with fail
      refine (C3 _).mono ?_
      rintro r0 w3 ⟨rfl, hb⟩
      clear k0 k1 k2 m0 m1 m2
      have HD : Hid (Box3 (w3.alloc (boxA a b c)) w3.heap.size 25 a b c) := ⟨heap_alloc_new w3 _⟩
      have HS3 : Hid (Box3 (w3.alloc (boxA a b c)) w2.heap.size 25 a b c) := box_on (box_on HS.out hb) (below_alloc w3 _)
      have HT3 : Hid (TwoA w w0.heap.size a b c d e f (w3.alloc (boxA a b c))) := (HT2.out.on hb).on (below_alloc w3 _)
      clear HS HT2 hb C3
      have k0 := HT3.out.x.c0
      have k1 := HT3.out.x.c1
      have k2 := HT3.out.x.c2
      have m0 := HT3.out.y.c0
      have m1 := HT3.out.y.c1
      have m2 := HT3.out.y.c2
      go_wp2_with fail
      refine (C4 _).mono ?_
      rintro r0 w4 ⟨rfl, hb⟩
      clear k0 k1 k2 m0 m1 m2
      have HD4 : Hid (Box3 w4 w3.heap.size 25 a b c) := box_on HD.out hb
      have HS4 : Hid (Box3 w4 w2.heap.size 25 a b c) := box_on HS3.out hb
      have HT4 : Hid (TwoA w w0.heap.size a b c d e f w4) := HT3.out.on hb
      clear HD HS3 HT3 hb C4
      have k0 := HT4.out.x.c0
      have k1 := HT4.out.x.c1
      have k2 := HT4.out.x.c2
      have m0 := HT4.out.y.c0
      have m1 := HT4.out.y.c1
      have m2 := HT4.out.y.c2
      have s0 := HS4.out.c0
      have s1 := HS4.out.c1
      have s2 := HS4.out.c2
      have t0 := HD4.out.c0
      have t1 := HD4.out.c1
      have t2 := HD4.out.c2
      have HCX : Hid (Code0 w4 ad len cb) := HC.out.on HT4.out.below
      have C16 := drawOne_any w4 ad len cap cb HCX.out
      go_wp2_with fail
      refine C16.mono ?_
      rintro r w9 ⟨k, n, rfl, hb⟩
      have HB9 : Hid (Below w.heap.size w w9) := below_more HT4.out.below hb
      clear C16 hb
      have C17 := implOne_any k n w9
      obtain ⟨p9, q9, r9, he9⟩ := oneOf_amt k n
      have C18 := fun w => part_one k n w
      rw [he9] at C17 C18
      clear he9
      obtain ⟨m, hm⟩ : ∃ m, m = partV k n := ⟨_, rfl⟩
      rw [← hm] at C18
      have hcase : (m = n) ∨ (¬ m = n ∧ k < 0) ∨ (¬ m = n ∧ ¬ k < 0 ∧ 2 < k) := by
        unfold partV at hm
        split at hm <;> omega
      clear hm
      go_wp2_with fail
      refine C17.mono ?_
      rintro r w10 ⟨rfl, hb⟩
      have HB10 : Hid (Below w.heap.size w w10) := below_more HB9.out hb
      clear C17 hb HB9
      go_wp2_with fail
      refine (C18 w10).mono ?_
      rintro r w11 ⟨rfl, hb⟩
      have HB11 : Hid (Below w.heap.size w w11) := below_more HB10.out hb
      clear C18 hb HB10
      rcases hcase with hq | ⟨hq, hk⟩ | ⟨hq, hk, hk2⟩
      · subst hq
        go_wp2
        go_ret
        exact ⟨by simp, HB11.out⟩
      · go_wp2
        go_ret
        exact ⟨by simp, HB11.out⟩
      · go_wp2
        go_ret
        exact ⟨by simp, HB11.out⟩
end Go.Proofs.Ytiolhhamedjmgaa
