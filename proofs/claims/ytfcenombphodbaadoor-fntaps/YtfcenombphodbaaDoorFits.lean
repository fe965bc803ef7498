/-
  Amounts: what the program answers.
-/
import Derived.Test.YtfcenombphodbaaDoorLaid
import Derived.Deep.DeepCutAuto
namespace Go.Proofs.YtfcenombphodbaaDoor
open Go.RowKit
set_option linter.unusedVariables false
set_option maxRecDepth 100000


set_option maxRecDepth 100000 in
set_option maxHeartbeats 4000000 in
theorem implFits_ok (a b c d e f : Int) (w : World) (hx : amtOk a b c = true) (hy : amtOk d e f = true) (o : Bool) (ho : o = (decide (a ≤ d) && decide (b ≤ e) && decide (c ≤ f))) :
    Calls Tryd.prog 78 #[amt a b c, amt d e f] w fun r w' => r = .returned (.bool o) ∧ Below w.heap.size w w' := by
  have C0 := fun w => implAmtOk_in a b c w
  have C1 := fun w => implAmtOk_in d e f w
  rw [hx] at C0
  rw [hy] at C1
  clear hx hy
  have HO : Hid (o = (decide (a ≤ d) && decide (b ≤ e) && decide (c ≤ f))) := ho
  clear ho
  go_enter Tryd.func78, Tryd.ntmps78
  go_wp2_with fail
  refine (C0 _).mono ?_
  rintro r w1 ⟨rfl, rfl⟩
  go_wp2_with fail
  refine (C1 _).mono ?_
  rintro r w1 ⟨rfl, rfl⟩
  go_wp2_with fail
  obtain ⟨W, hW⟩ : ∃ W, W = ((((((((((w.alloc (boxA a b c)).alloc (boxA d e f)).alloc (boxA a b c)).alloc (boxA a b c)).alloc (boxN a b c)).alloc (boxN a b c)).alloc (boxA d e f)).alloc (boxA d e f)).alloc (boxN d e f)).alloc (boxN d e f)) := ⟨_, rfl⟩
  rw [← hW]
  have HX : Hid (Box3 W w.heap.size 37 a b c) := by
    have h0 : Box3 (w.alloc (boxA a b c)) w.heap.size 37 a b c := ⟨heap_alloc_new w _⟩
    exact h0.on (B := w.heap.size + 1) (by rw [hW]; go_grown) (by omega)
  have HY : Hid (Box3 W (w.heap.size + 1) 37 d e f) := by
    have h0 : Box3 ((w.alloc (boxA a b c)).alloc (boxA d e f)) (w.heap.size + 1) 37 d e f := ⟨by have := heap_alloc_new (w.alloc (boxA a b c)) (boxA d e f); simpa using this⟩
    exact h0.on (B := w.heap.size + 1 + 1) (by rw [hW]; go_grown) (by omega)
  have HB : Hid (Below w.heap.size w W) := by show Below _ _ _; rw [hW]; go_grown
  clear hW C0 C1
  refine wp_region_whole (by kernel_rfl) (by kernel_rfl) (by kernel_rfl) (by kernel_rfl) (Laid W w.heap.size (w.heap.size + 1) a b c d e f) (laid_start HX.out HY.out) ?_ ?_
  · refine ⟨?_, ?_, ?_, ?_, ?_, ?_, ?_, ?_, trivial⟩
    · intro b0 us w0 L hslot hoth hLi hR hcl hdo K hK
      have s : b0.tmps.getD 2 undef = .pointer (some ⟨w.heap.size, 0, none⟩) := hoth 2 (by rfl)
      have k0 := hR.x.c0
      have k1 := hR.x.c1
      have k2 := hR.x.c2
      clear hslot hoth hdo hcl hLi
      refine guard_none (by rfl) ?_
      go_simp
      exact hK _ _ (hR.mark 0 _ (by omega) (fun _ => rfl) (fun h => absurd h (by omega)))
    · intro b0 us w0 L hslot hoth hLi hR hcl hdo K hK
      have s : b0.tmps.getD 16 undef = amt a b c := (hslot 0 16 (by rfl)).trans (hR.u0 (done_at hdo 0 (by rfl)))
      clear hslot hoth hdo hcl hLi
      refine guard_none (by rfl) ?_
      have C := numbersOf_in a b c w0
      go_simp
      refine C.mono ?_
      rintro r w' ⟨rfl, rfl⟩
      exact hK _ _ ((hR.on (by go_grown)).mark 1 _ (by omega) (fun _ => rfl) (fun h => absurd h (by omega)))
    · intro b0 us w0 L hslot hoth hLi hR hcl hdo K hK
      have s : b0.tmps.getD 3 undef = .pointer (some ⟨(w.heap.size + 1), 0, none⟩) := hoth 3 (by rfl)
      have k0 := hR.y.c0
      have k1 := hR.y.c1
      have k2 := hR.y.c2
      clear hslot hoth hdo hcl hLi
      refine guard_none (by rfl) ?_
      go_simp
      exact hK _ _ (hR.mark 2 _ (by omega) (fun h => absurd h (by omega)) (fun _ => rfl))
    · intro b0 us w0 L hslot hoth hLi hR hcl hdo K hK
      have s : b0.tmps.getD 18 undef = amt d e f := (hslot 2 18 (by rfl)).trans (hR.u2 (done_at hdo 2 (by rfl)))
      clear hslot hoth hdo hcl hLi
      refine guard_none (by rfl) ?_
      have C := numbersOf_in d e f w0
      go_simp
      refine C.mono ?_
      rintro r w' ⟨rfl, rfl⟩
      exact hK _ _ ((hR.on (by go_grown)).mark 3 _ (by omega) (fun h => absurd h (by omega)) (fun _ => rfl))
    · intro b0 us w0 L hslot hoth hLi hR hcl hdo K hK
      have h6 : L 6 = false := by
        cases h : L 6 with
        | false => rfl
        | true => rw [done_at (hcl 6 _ rfl h) 4 (by rfl)] at hLi; cases hLi
      clear hslot hoth hdo hcl
      refine guard_none (by rfl) ?_
      go_simp
      exact hK _ _ (hR.new4 h6 hLi)
    · intro b0 us w0 L hslot hoth hLi hR hcl hdo K hK
      have h7 : L 7 = false := by
        cases h : L 7 with
        | false => rfl
        | true => rw [done_at (hcl 7 _ rfl h) 5 (by rfl)] at hLi; cases hLi
      clear hslot hoth hdo hcl
      refine guard_none (by rfl) ?_
      go_simp
      exact hK _ _ (hR.new5 h7 hLi)
    · intro b0 us w0 L hslot hoth hLi hR hcl hdo K hK
      have d4 := done_at hdo 4 (by rfl)
      have d5 := done_at hdo 5 (by rfl)
      obtain ⟨g, p, q, r, hu, hge, hbx, _⟩ := hR.u4 d4
      have s : b0.tmps.getD 5 undef = .pointer (some ⟨g, 0, none⟩) := (hslot 4 5 (by rfl)).trans hu
      have s' : b0.tmps.getD 17 undef = amt a b c := (hslot 1 17 (by rfl)).trans (hR.u1 (done_at hdo 1 (by rfl)))
      have k0 := hbx.c0
      have k1 := hbx.c1
      have k2 := hbx.c2
      have f0 := hbx.f0 0
      have f1 := hbx.f0 1
      have f2 := hbx.f0 2
      clear hslot hoth hdo hcl hLi
      refine guard_none (by rfl) ?_
      go_simp
      exact hK undef _ (hR.put6 d4 d5 hu undef)
    · intro b0 us w0 L hslot hoth hLi hR hcl hdo K hK
      have d4 := done_at hdo 4 (by rfl)
      have d5 := done_at hdo 5 (by rfl)
      obtain ⟨g, p, q, r, hu, hge, hbx, _⟩ := hR.u5 d5
      have s : b0.tmps.getD 6 undef = .pointer (some ⟨g, 0, none⟩) := (hslot 5 6 (by rfl)).trans hu
      have s' : b0.tmps.getD 19 undef = amt d e f := (hslot 3 19 (by rfl)).trans (hR.u3 (done_at hdo 3 (by rfl)))
      have k0 := hbx.c0
      have k1 := hbx.c1
      have k2 := hbx.c2
      have f0 := hbx.f0 0
      have f1 := hbx.f0 1
      have f2 := hbx.f0 2
      clear hslot hoth hdo hcl hLi
      refine guard_none (by rfl) ?_
      go_simp
      exact hK undef _ (hR.put7 d4 d5 hu undef)
  intro us w4 L hall hR a' ha'
  have v0 := hR.u0 (hall 0 (by decide))
  have v1 := hR.u1 (hall 1 (by decide))
  have v2 := hR.u2 (hall 2 (by decide))
  have v3 := hR.u3 (hall 3 (by decide))
  obtain ⟨m, _, _, _, v4, hm, hbm, hm'⟩ := hR.u4 (hall 4 (by decide))
  obtain ⟨n, _, _, _, v5, hn, hbn, hn'⟩ := hR.u5 (hall 5 (by decide))
  obtain ⟨e1, e2, e3⟩ := hm' (hall 6 (by decide))
  obtain ⟨e4, e5, e6⟩ := hn' (hall 7 (by decide))
  rw [e1, e2, e3] at hbm
  rw [e4, e5, e6] at hbn
  clear e1 e2 e3 e4 e5 e6
  have hmn : m ≠ n := fun e => hR.ne (hall 4 (by decide)) (hall 5 (by decide)) (by rw [v4, v5, e])
  have HR : Hid (Below W.heap.size W w4 ∧ Box3 w4 w.heap.size 37 a b c ∧ W.heap.size ≤ m ∧ W.heap.size ≤ n) := ⟨hR.below, hR.x, hm, hn⟩
  simp only [putAll, v0, v1, v2, v3, v4, v5] at ha'
  clear hR hall hm' hn' hm hn v0 v1 v2 v3 v4 v5
  subst ha'
  go_frame
  have HO' := HO.out
  have k0 := hbm.c0
  have k1 := hbm.c1
  have k2 := hbm.c2
  have l0 := hbn.c0
  have l1 := hbn.c1
  have l2 := hbn.c2
  clear hbm hbn HX HY
  have HB' : Hid (Below w.heap.size w w4) := HB.out.trans (HR.out.1.mono HB.out.size)
  clear HR HB
  by_cases h0 : a ≤ d
  · have h0' : ¬ d < a := by omega
    by_cases h1 : b ≤ e
    · have h1' : ¬ e < b := by omega
      by_cases h2 : c ≤ f
      · obtain rfl : o = true := by rw [HO']; simp [h0, h1, h2]
        have h2' : ¬ f < c := by omega
        clear HO HO'
        go_wp2
        refine wp_loop_rounds 4 ?_
        rw [rounds_succ]
        go_wp2
        go_quiet (fail)
        go_wp2
        rw [rounds_succ]
        go_wp2
        go_quiet (fail)
        go_wp2
        rw [rounds_succ]
        go_wp2
        go_quiet (fail)
        go_wp2
        rw [rounds_succ]
        go_wp2
        go_ret
        exact ⟨by simp; try omega, by first | exact below_drewN HB'.out _ | exact below_drewN (below_drewN HB'.out _) _⟩
      · obtain rfl : o = false := by rw [HO']; simp [h2]
        have h2' : f < c := by omega
        clear HO HO'
        go_wp2
        refine wp_loop_rounds 4 ?_
        rw [rounds_succ]
        go_wp2
        go_quiet (fail)
        go_wp2
        rw [rounds_succ]
        go_wp2
        go_quiet (fail)
        go_wp2
        rw [rounds_succ]
        go_wp2
        go_quiet (fail)
        go_wp2
        go_ret
        exact ⟨by simp; try omega, by first | exact below_drewN HB'.out _ | exact below_drewN (below_drewN HB'.out _) _⟩
    · obtain rfl : o = false := by rw [HO']; simp [h1]
      have h1' : e < b := by omega
      clear HO HO'
      go_wp2
      refine wp_loop_rounds 4 ?_
      rw [rounds_succ]
      go_wp2
      go_quiet (fail)
      go_wp2
      rw [rounds_succ]
      go_wp2
      go_quiet (fail)
      go_wp2
      go_ret
      exact ⟨by simp; try omega, by first | exact below_drewN HB'.out _ | exact below_drewN (below_drewN HB'.out _) _⟩
  · obtain rfl : o = false := by rw [HO']; simp [h0]
    have h0' : d < a := by omega
    clear HO HO'
    go_wp2
    refine wp_loop_rounds 4 ?_
    rw [rounds_succ]
    go_wp2
    go_quiet (fail)
    go_wp2
    go_ret
    exact ⟨by simp; try omega, by first | exact below_drewN HB'.out _ | exact below_drewN (below_drewN HB'.out _) _⟩

set_option maxHeartbeats 1000000 in
theorem implFits_any (a b c d e f : Int) (w : World) :
    Calls Tryd.prog 78 #[amt a b c, amt d e f] w fun r w' => r = .returned (.bool (fitsIn a b c d e f)) ∧ Below w.heap.size w w' := by
  have C0 := fun w => implAmtOk_in a b c w
  have C1 := fun w => implAmtOk_in d e f w
  cases hx : amtOk a b c with
  | false =>
    have h : fitsIn a b c d e f = false := by simp [fitsIn, hx]
    rw [h]
    rw [hx] at C0
    clear h hx
    go_enter Tryd.func78, Tryd.ntmps78
    go_wp2_with fail
    refine (C0 _).mono ?_
    rintro r w1 ⟨rfl, rfl⟩
    go_wp2
    go_ret
    exact ⟨rfl, by go_grown⟩
  | true =>
    cases hy : amtOk d e f with
    | false =>
      have h : fitsIn a b c d e f = false := by simp [fitsIn, hy]
      rw [h]
      rw [hx] at C0
      rw [hy] at C1
      clear h hx hy
      go_enter Tryd.func78, Tryd.ntmps78
      go_wp2_with fail
      refine (C0 _).mono ?_
      rintro r w1 ⟨rfl, rfl⟩
      go_wp2_with fail
      refine (C1 _).mono ?_
      rintro r w1 ⟨rfl, rfl⟩
      go_wp2
      go_ret
      exact ⟨rfl, by go_grown⟩
    | true => exact implFits_ok a b c d e f w hx hy _ (by simp [fitsIn, hx, hy])
end Go.Proofs.YtfcenombphodbaaDoor
