/-
  The program's TreeOk, TreeSum and TreeNew.
-/
import Derived.Test.YtfcenombphodbaaDoorIBal
namespace Go.Proofs.YtfcenombphodbaaDoor
open Go.RowKit
set_option linter.unusedVariables false
set_option maxRecDepth 100000

set_option maxHeartbeats 2000000 in
theorem implTreeOk_any (v : Value) (ts : List Re) (w : World) (hx : IsTree w v ts) (hn : ts.length ≤ 1048576) :
    Calls Tryd.prog 55 #[v] w fun e w' => e = .returned (.bool (treeOk ts)) ∧ Below w.heap.size w w' := by
  have hx0 := hx
  obtain ⟨a, cap, rfl, hcap, _⟩ := hx
  rw [← implOk_eq]
  by_cases hl : ts.length = 5
  · rw [hl] at hx0 hcap ⊢
    obtain ⟨p, q0, rfl, hq0, hc0⟩ := hx0.at (i := 0) (by omega)
    have e0 := hc0.c0
    have e1 := hc0.c1
    have hq0' : p.add 0 = q0 := hq0
    by_cases hr : (reAt ts 0).live = true
    · rw [hr] at e0
      by_cases hp : (reAt ts 0).par = -1
      · rw [hp] at e1
        have CB := implBal_any (some p) cap ts w hx0 hl hcap
        have HCD : Hid (∀ w', Below w.heap.size w w' → Calls Tryd.prog 75 #[.slice (some p) 5 cap] w' fun e w'' => e = .returned (.bool (deadZ ts)) ∧ Below w'.heap.size w' w'') := fun w' hb => implDead_any (some p) cap ts w' (hx0.on hb) hl hcap _ rfl
        have HCC : Hid (∀ w', Below w.heap.size w w' → Calls Tryd.prog 76 #[.slice (some p) 5 cap] w' fun e w'' => e = .returned (.bool (allClimb ts)) ∧ w' = w'') := fun w' hb => implClimb_any (some p) cap ts w' (hx0.on hb) hl hcap _ rfl
        have ei : implOk ts = (balOk ts 5 && deadZ ts && allClimb ts) := by simp [implOk, hl, hr, hp]
        rw [ei]
        clear ei
        generalize balS Re.a ts = sa at CB
        generalize balS Re.b ts = sb at CB
        generalize balS Re.c ts = sc at CB
        generalize balOk ts 5 = o1 at CB ⊢
        generalize deadZ ts = o2 at HCD ⊢
        generalize allClimb ts = o3 at HCC ⊢
        clear hx0 hc0 hq0 hr hp hl
        go_enter Tryd.func55, Tryd.ntmps55
        go_wp2_with fail
        refine CB.mono ?_
        rintro e w1 ⟨rfl, hb⟩
        have HB1 : Hid (Below w.heap.size w w1) := hb
        have HB2 : Hid (Below w.heap.size w (w1.alloc (boxA sa sb sc))) := below_more hb (below_alloc _ _)
        clear CB hb e0 e1 hq0'
        cases o1 with
        | false =>
          go_wp2
          go_ret
          exact ⟨by simp, HB2.out⟩
        | true =>
          cases o2 with
          | false =>
            go_wp2_with fail
            refine (HCD.out _ HB2.out).mono ?_
            rintro e w2 ⟨rfl, hb⟩
            have HB3 : Hid (Below w.heap.size w w2) := below_more HB2.out hb
            clear HCD HCC hb HB1 HB2
            go_wp2
            go_ret
            exact ⟨by simp, HB3.out⟩
          | true =>
            go_wp2_with fail
            refine (HCD.out _ HB2.out).mono ?_
            rintro e w2 ⟨rfl, hb⟩
            have HB3 : Hid (Below w.heap.size w w2) := below_more HB2.out hb
            clear HCD hb HB1 HB2
            go_wp2_with fail
            refine (HCC.out _ HB3.out).mono ?_
            rintro e w3 ⟨rfl, hw3⟩
            subst hw3
            clear HCC
            go_wp2
            go_ret
            exact ⟨by simp, HB3.out⟩
      · have ei : implOk ts = false := by simp [implOk, hl, hr, hp]
        rw [ei]
        generalize (reAt ts 0).par = p1 at e1 hp
        have hne : (p1 != -1) = true := by simpa using hp
        clear hx0 hc0 hq0 hr ei hl
        go_enter Tryd.func55, Tryd.ntmps55
        go_wp2
        go_ret
        exact ⟨rfl, Below.refl _ _⟩
    · have hr' : (reAt ts 0).live = false := by simpa using hr
      have ei : implOk ts = false := by simp [implOk, hr']
      rw [ei]
      rw [hr'] at e0
      clear hx0 hc0 hq0 hr hr' ei hl
      go_enter Tryd.func55, Tryd.ntmps55
      go_wp2
      go_ret
      exact ⟨rfl, Below.refl _ _⟩
  · have ei : implOk ts = false := by simp [implOk, hl]
    rw [ei]
    have hne : ((ts.length : Int) != 5) = true := by simp; omega
    clear hx0 ei
    go_enter Tryd.func55, Tryd.ntmps55
    go_wp2
    go_ret
    exact ⟨rfl, Below.refl _ _⟩

set_option maxHeartbeats 2000000 in
theorem implTreeSum_any (v : Value) (ts : List Re) (w : World) (hx : IsTree w v ts) (hn : ts.length ≤ 1048576) :
    Calls Tryd.prog 36 #[v] w fun e w' => e = .returned (amt (sumT Re.a ts) (sumT Re.b ts) (sumT Re.c ts)) ∧ Below w.heap.size w w' := by
  have hb0 : Below w.heap.size w (w.alloc (boxA 0 0 0)) := below_alloc w _
  have hbx : Box3 (w.alloc (boxA 0 0 0)) w.heap.size 37 0 0 0 := ⟨heap_alloc_new w _⟩
  have C := implTreeOk_any v ts (w.alloc (boxA 0 0 0)) (hx.on hb0) hn
  have hx0 := hx
  obtain ⟨a, cap, rfl, hcap, _⟩ := hx
  have HB0 : Hid (Below w.heap.size w (w.alloc (boxA 0 0 0))) := hb0
  have HX0 : Hid (Box3 (w.alloc (boxA 0 0 0)) w.heap.size 37 0 0 0) := hbx
  clear hb0 hbx
  cases hok : treeOk ts with
  | false =>
    have e1 : ∀ f, sumT f ts = 0 := fun f => by simp [sumT, hok]
    rw [e1, e1, e1]
    rw [hok] at C
    clear hok e1 hx0
    go_enter Tryd.func36, Tryd.ntmps36
    go_wp2_with fail
    refine C.mono ?_
    rintro e w1 ⟨rfl, hb⟩
    have b1 : Box3 w1 w.heap.size 37 0 0 0 := box_on HX0.out hb
    have HB1 : Hid (Below w.heap.size w w1) := below_more HB0.out hb
    have r0 := b1.c0
    have r1 := b1.c1
    have r2 := b1.c2
    have f0 := b1.f0 0
    have f1 := b1.f0 1
    have f2 := b1.f0 2
    have HP := hid_of (b1.put (.int .i64 0) (.int .i64 0) (.int .i64 0))
    clear C hb b1
    go_wp2
    obtain ⟨p0, p1, p2⟩ := HP.out
    refine bodyPost_ret (v := amt 0 0 0) (by simp [results, go_sem, p0, p1, p2]) rfl ⟨rfl, below_put HB1.out (Nat.le_refl _) _ _ _⟩
  | true =>
    have hl := treeOk_five hok
    have e1 : ∀ f, sumT f ts = sumN f ts 5 := fun f => by simp [sumT, hok]
    have hbo : balOk ts 5 = true := (implOk_parts (by rw [implOk_eq]; exact hok)).2.2.2.1
    have e2 : ∀ f, balS f ts = sumN f ts 5 := fun f => by simp [balS, hbo]
    rw [e1, e1, e1]
    rw [hok] at C
    have HC : Hid (∀ w', Below w.heap.size w w' → Calls Tryd.prog 62 #[.slice a ts.length cap] w' fun e w'' => e = .returned (.tuple #[amt (sumN Re.a ts 5) (sumN Re.b ts 5) (sumN Re.c ts 5), .bool true]) ∧ Below w'.heap.size w' w'') := fun w' hb => by
      have := implBal_any a cap ts w' (by have := hx0.on hb; rw [hl] at this; exact this) hl (by omega)
      rw [e2, e2, e2, hbo] at this
      rw [hl]
      exact this
    generalize sumN Re.a ts 5 = s1 at HC ⊢
    generalize sumN Re.b ts 5 = s2 at HC ⊢
    generalize sumN Re.c ts 5 = s3 at HC ⊢
    clear hok e1 hx0 hl hbo e2
    go_enter Tryd.func36, Tryd.ntmps36
    go_wp2_with fail
    refine C.mono ?_
    rintro e w1 ⟨rfl, hb⟩
    have HX1 : Hid (Box3 w1 w.heap.size 37 0 0 0) := box_on HX0.out hb
    have HB1 : Hid (Below w.heap.size w w1) := below_more HB0.out hb
    clear C hb
    go_wp2_with fail
    refine (HC.out w1 HB1.out).mono ?_
    rintro e w2 ⟨rfl, hb⟩
    have b1 : Box3 (w2.alloc (boxA s1 s2 s3)) w.heap.size 37 0 0 0 := box_on (box_on HX1.out hb) (below_alloc _ _)
    have HB2 : Hid (Below w.heap.size w (w2.alloc (boxA s1 s2 s3))) := below_more (below_more HB1.out hb) (below_alloc _ _)
    have r0 := b1.c0
    have r1 := b1.c1
    have r2 := b1.c2
    have f0 := b1.f0 0
    have f1 := b1.f0 1
    have f2 := b1.f0 2
    have HP := hid_of (b1.put (.int .i64 s1) (.int .i64 s2) (.int .i64 s3))
    clear HC hb b1
    go_wp2
    obtain ⟨p0, p1, p2⟩ := HP.out
    refine bodyPost_ret (v := amt s1 s2 s3) (by simp [results, go_sem, p0, p1, p2]) rfl ⟨rfl, below_put HB2.out (Nat.le_refl _) _ _ _⟩
end Go.Proofs.YtfcenombphodbaaDoor
