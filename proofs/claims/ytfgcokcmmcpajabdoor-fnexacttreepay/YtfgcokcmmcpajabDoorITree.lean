/-
  The program's TreeOk, TreeSum and TreeNew.
-/
import Derived.Test.YtfgcokcmmcpajabDoorIBal
namespace Go.Proofs.YtfgcokcmmcpajabDoor
open Go.RowKit
set_option linter.unusedVariables false

set_option maxHeartbeats 2000000 in
theorem implTreeOk_any (v : Value) (ts : List Re) (w : World) (hx : IsTree w v ts) (hn : ts.length ≤ 1048576) :
    Calls Tryd.prog 23 #[v] w fun e w' => e = .returned (.bool (treeOk ts)) ∧ Below w.heap.size w w' := by
  have hx0 := hx
  obtain ⟨a, cap, rfl, hcap, _⟩ := hx
  rw [← implOk_eq]
  by_cases hl : ts.length = 5
  · rw [hl] at hx0 hcap ⊢
    obtain ⟨p, q0, rfl, hq0, hc0⟩ := hx0.at (i := 0) (by omega)
    have e0 := hc0.c0
    have e1 := hc0.c1
    have hq0' : p.add 0 = q0 := hq0
    by_cases hr : (reAt ts 0).live = true
    · rw [hr] at e0
      by_cases hp : (reAt ts 0).par = -1
      · rw [hp] at e1
        have CB := implBal_any (some p) cap ts w hx0 hl hcap
        have HCD : Hid (∀ w', Below w.heap.size w w' → Calls Tryd.prog 33 #[.slice (some p) 5 cap] w' fun e w'' => e = .returned (.bool (deadZ ts)) ∧ Below w'.heap.size w' w'') := fun w' hb => implDead_any (some p) cap ts w' (hx0.on hb) hl hcap _ rfl
        have HCC : Hid (∀ w', Below w.heap.size w w' → Calls Tryd.prog 34 #[.slice (some p) 5 cap] w' fun e w'' => e = .returned (.bool (allClimb ts)) ∧ w' = w'') := fun w' hb => implClimb_any (some p) cap ts w' (hx0.on hb) hl hcap _ rfl
        have ei : implOk ts = (balOk ts 5 && deadZ ts && allClimb ts) := by simp [implOk, hl, hr, hp]
        rw [ei]
        clear ei
        generalize balS Re.a ts = sa at CB
        generalize balS Re.b ts = sb at CB
        generalize balS Re.c ts = sc at CB
        generalize balOk ts 5 = o1 at CB ⊢
        generalize deadZ ts = o2 at HCD ⊢
        generalize allClimb ts = o3 at HCC ⊢
        clear hx0 hc0 hq0 hr hp hl
        go_enter Tryd.func23, Tryd.ntmps23
        go_wp2_with fail
        refine CB.mono ?_
        rintro e w1 ⟨rfl, hb⟩
        have HB1 : Hid (Below w.heap.size w w1) := hb
        have HB2 : Hid (Below w.heap.size w (w1.alloc (boxA sa sb sc))) := below_more hb (below_alloc _ _)
        clear CB hb e0 e1 hq0'
        cases o1 with
        | false =>
          go_wp2
          go_ret
          exact ⟨by simp, HB2.out⟩
        | true =>
          cases o2 with
          | false =>
            go_wp2_with fail
            refine (HCD.out _ HB2.out).mono ?_
            rintro e w2 ⟨rfl, hb⟩
            have HB3 : Hid (Below w.heap.size w w2) := below_more HB2.out hb
            clear HCD HCC hb HB1 HB2
            go_wp2
            go_ret
            exact ⟨by simp, HB3.out⟩
          | true =>
            go_wp2_with fail
            refine (HCD.out _ HB2.out).mono ?_
            rintro e w2 ⟨rfl, hb⟩
            have HB3 : Hid (Below w.heap.size w w2) := below_more HB2.out hb
            clear HCD hb HB1 HB2
            go_wp2_with fail
            refine (HCC.out _ HB3.out).mono ?_
            rintro e w3 ⟨rfl, hw3⟩
            subst hw3
            clear HCC
            go_wp2
            go_ret
            exact ⟨by simp, HB3.out⟩
      · have ei : implOk ts = false := by simp [implOk, hl, hr, hp]
        rw [ei]
        generalize (reAt ts 0).par = p1 at e1 hp
        have hne : (p1 != -1) = true := by simpa using hp
        clear hx0 hc0 hq0 hr ei hl
        go_enter Tryd.func23, Tryd.ntmps23
        go_wp2
        go_ret
        exact ⟨rfl, Below.refl _ _⟩
    · have hr' : (reAt ts 0).live = false := by simpa using hr
      have ei : implOk ts = false := by simp [implOk, hr']
      rw [ei]
      rw [hr'] at e0
      clear hx0 hc0 hq0 hr hr' ei hl
      go_enter Tryd.func23, Tryd.ntmps23
      go_wp2
      go_ret
      exact ⟨rfl, Below.refl _ _⟩
  · have ei : implOk ts = false := by simp [implOk, hl]
    rw [ei]
    have hne : ((ts.length : Int) != 5) = true := by simp; omega
    clear hx0 ei
    go_enter Tryd.func23, Tryd.ntmps23
    go_wp2
    go_ret
    exact ⟨rfl, Below.refl _ _⟩

end Go.Proofs.YtfgcokcmmcpajabDoor
