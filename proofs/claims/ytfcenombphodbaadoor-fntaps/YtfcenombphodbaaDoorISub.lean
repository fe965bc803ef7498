/-
  Amounts: what the program answers.
-/
import Derived.Test.YtfcenombphodbaaDoorAdd
namespace Go.Proofs.YtfcenombphodbaaDoor
open Go.RowKit
set_option linter.unusedVariables false
set_option maxRecDepth 100000


theorem implSub_no (a b c d e f : Int) (w : World) (h : fitsIn d e f a b c = false) :
    Calls Tryd.prog 72 #[amt a b c, amt d e f] w fun r w' => r = .returned (.tuple #[amt a b c, .bool false]) ∧ Below w.heap.size w w' := by
  have C0 := implFits_any d e f a b c (((w.alloc (boxA a b c)).alloc (boxA d e f)).alloc (boxA 0 0 0))
  rw [h] at C0
  clear h
  go_enter Tryd.func72, Tryd.ntmps72
  go_wp2_with fail
  refine C0.mono ?_
  rintro r w1 ⟨rfl, hb⟩
  obtain ⟨b0, b1, b2, hb1⟩ := three_boxes w a b c d e f w1 (by simpa using hb)
  have HB : Hid (Below w.heap.size w w1) := hb1
  have q0 := b0.c0
  have q1 := b0.c1
  have q2 := b0.c2
  have r0 := b2.c0
  have r1 := b2.c1
  have r2 := b2.c2
  have f0 := b2.f0 0
  have f1 := b2.f0 1
  have f2 := b2.f0 2
  have HP := hid_of (b2.put (.int .i64 a) (.int .i64 b) (.int .i64 c))
  clear b0 b1 b2 hb1 hb C0
  go_wp2
  obtain ⟨p0, p1, p2⟩ := HP.out
  refine bodyPost_ret (v := .tuple #[amt a b c, .bool false]) (by simp [results, go_sem, p0, p1, p2]) rfl ⟨rfl, below_put HB.out (by omega) _ _ _⟩
set_option maxRecDepth 100000 in
set_option maxHeartbeats 4000000 in
theorem implSub_yes (a b c d e f : Int) (w : World) (h : fitsIn d e f a b c = true) :
    Calls Tryd.prog 72 #[amt a b c, amt d e f] w fun r w' => r = .returned (.tuple #[amt (a - d) (b - e) (c - f), .bool true]) ∧ Below w.heap.size w w' := by
  have C0 := implFits_any d e f a b c (((w.alloc (boxA a b c)).alloc (boxA d e f)).alloc (boxA 0 0 0))
  rw [h] at C0
  obtain ⟨⟨hx, hy⟩, _⟩ : (amtOk d e f = true ∧ amtOk a b c = true) ∧ ((d ≤ a ∧ e ≤ b) ∧ f ≤ c) := by unfold fitsIn at h; simpa using h
  obtain ⟨u0, u1, u2⟩ := amtOk_true hx
  obtain ⟨v0, v1, v2⟩ := amtOk_true hy
  have w0 : wrap64 (a - d) = a - d := wrap_near (by omega) (by omega)
  have w1 : wrap64 (b - e) = b - e := wrap_near (by omega) (by omega)
  have w2 : wrap64 (c - f) = c - f := wrap_near (by omega) (by omega)
  clear h hx hy u0 u1 u2 v0 v1 v2
  go_enter Tryd.func72, Tryd.ntmps72
  go_wp2_with fail
  refine C0.mono ?_
  rintro r W ⟨rfl, hb⟩
  obtain ⟨b0, b1, b2, hb1⟩ := three_boxes w a b c d e f W (by simpa using hb)
  have HB : Hid (Below w.heap.size w W) := hb1
  have HX : Hid (Box3 W w.heap.size 37 a b c) := b0
  have HY : Hid (Box3 W (w.heap.size + 1) 37 d e f) := b1
  have HZ : Hid (Box3 W (w.heap.size + 1 + 1) 37 0 0 0) := b2
  clear b0 b1 b2 hb1 hb C0
  go_wp2_with fail
  refine wp_region_whole (by kernel_rfl) (by kernel_rfl) (by kernel_rfl) (by kernel_rfl) (Laid W w.heap.size (w.heap.size + 1) a b c d e f) (laid_start HX.out HY.out) ?_ ?_
  · refine ⟨?_, ?_, ?_, ?_, ?_, ?_, ?_, ?_, trivial⟩
    · intro b0 us w0 L hslot hoth hLi hR hcl hdo K hK
      have s : b0.tmps.getD 2 undef = .pointer (some ⟨w.heap.size, 0, none⟩) := hoth 2 (by rfl)
      have k0 := hR.x.c0
      have k1 := hR.x.c1
      have k2 := hR.x.c2
      clear hslot hoth hdo hcl hLi
      refine guard_none (by rfl) ?_
      go_simp
      exact hK _ _ (hR.mark 0 _ (by omega) (fun _ => rfl) (fun h => absurd h (by omega)))
    · intro b0 us w0 L hslot hoth hLi hR hcl hdo K hK
      have s : b0.tmps.getD 14 undef = amt a b c := (hslot 0 14 (by rfl)).trans (hR.u0 (done_at hdo 0 (by rfl)))
      clear hslot hoth hdo hcl hLi
      refine guard_none (by rfl) ?_
      have C := numbersOf_in a b c w0
      go_simp
      refine C.mono ?_
      rintro r w' ⟨rfl, rfl⟩
      exact hK _ _ ((hR.on (by go_grown)).mark 1 _ (by omega) (fun _ => rfl) (fun h => absurd h (by omega)))
    · intro b0 us w0 L hslot hoth hLi hR hcl hdo K hK
      have s : b0.tmps.getD 3 undef = .pointer (some ⟨(w.heap.size + 1), 0, none⟩) := hoth 3 (by rfl)
      have k0 := hR.y.c0
      have k1 := hR.y.c1
      have k2 := hR.y.c2
      clear hslot hoth hdo hcl hLi
      refine guard_none (by rfl) ?_
      go_simp
      exact hK _ _ (hR.mark 2 _ (by omega) (fun h => absurd h (by omega)) (fun _ => rfl))
    · intro b0 us w0 L hslot hoth hLi hR hcl hdo K hK
      have s : b0.tmps.getD 16 undef = amt d e f := (hslot 2 16 (by rfl)).trans (hR.u2 (done_at hdo 2 (by rfl)))
      clear hslot hoth hdo hcl hLi
      refine guard_none (by rfl) ?_
      have C := numbersOf_in d e f w0
      go_simp
      refine C.mono ?_
      rintro r w' ⟨rfl, rfl⟩
      exact hK _ _ ((hR.on (by go_grown)).mark 3 _ (by omega) (fun h => absurd h (by omega)) (fun _ => rfl))
    · intro b0 us w0 L hslot hoth hLi hR hcl hdo K hK
      have h6 : L 6 = false := by
        cases h : L 6 with
        | false => rfl
        | true => rw [done_at (hcl 6 _ rfl h) 4 (by rfl)] at hLi; cases hLi
      clear hslot hoth hdo hcl
      refine guard_none (by rfl) ?_
      go_simp
      exact hK _ _ (hR.new4 h6 hLi)
    · intro b0 us w0 L hslot hoth hLi hR hcl hdo K hK
      have h7 : L 7 = false := by
        cases h : L 7 with
        | false => rfl
        | true => rw [done_at (hcl 7 _ rfl h) 5 (by rfl)] at hLi; cases hLi
      clear hslot hoth hdo hcl
      refine guard_none (by rfl) ?_
      go_simp
      exact hK _ _ (hR.new5 h7 hLi)
    · intro b0 us w0 L hslot hoth hLi hR hcl hdo K hK
      have d4 := done_at hdo 4 (by rfl)
      have d5 := done_at hdo 5 (by rfl)
      obtain ⟨g, p, q, r, hu, hge, hbx, _⟩ := hR.u4 d4
      have s : b0.tmps.getD 6 undef = .pointer (some ⟨g, 0, none⟩) := (hslot 4 6 (by rfl)).trans hu
      have s' : b0.tmps.getD 15 undef = amt a b c := (hslot 1 15 (by rfl)).trans (hR.u1 (done_at hdo 1 (by rfl)))
      have k0 := hbx.c0
      have k1 := hbx.c1
      have k2 := hbx.c2
      have f0 := hbx.f0 0
      have f1 := hbx.f0 1
      have f2 := hbx.f0 2
      clear hslot hoth hdo hcl hLi
      refine guard_none (by rfl) ?_
      go_simp
      exact hK undef _ (hR.put6 d4 d5 hu undef)
    · intro b0 us w0 L hslot hoth hLi hR hcl hdo K hK
      have d4 := done_at hdo 4 (by rfl)
      have d5 := done_at hdo 5 (by rfl)
      obtain ⟨g, p, q, r, hu, hge, hbx, _⟩ := hR.u5 d5
      have s : b0.tmps.getD 7 undef = .pointer (some ⟨g, 0, none⟩) := (hslot 5 7 (by rfl)).trans hu
      have s' : b0.tmps.getD 17 undef = amt d e f := (hslot 3 17 (by rfl)).trans (hR.u3 (done_at hdo 3 (by rfl)))
      have k0 := hbx.c0
      have k1 := hbx.c1
      have k2 := hbx.c2
      have f0 := hbx.f0 0
      have f1 := hbx.f0 1
      have f2 := hbx.f0 2
      clear hslot hoth hdo hcl hLi
      refine guard_none (by rfl) ?_
      go_simp
      exact hK undef _ (hR.put7 d4 d5 hu undef)
  intro us w4 L hall hR a' ha'
  have v0 := hR.u0 (hall 0 (by decide))
  have v1 := hR.u1 (hall 1 (by decide))
  have v2 := hR.u2 (hall 2 (by decide))
  have v3 := hR.u3 (hall 3 (by decide))
  obtain ⟨m, _, _, _, v4, hm, hbm, hm'⟩ := hR.u4 (hall 4 (by decide))
  obtain ⟨n, _, _, _, v5, hn, hbn, hn'⟩ := hR.u5 (hall 5 (by decide))
  obtain ⟨e1, e2, e3⟩ := hm' (hall 6 (by decide))
  obtain ⟨e4, e5, e6⟩ := hn' (hall 7 (by decide))
  rw [e1, e2, e3] at hbm
  rw [e4, e5, e6] at hbn
  clear e1 e2 e3 e4 e5 e6
  have hmn : m ≠ n := fun e => hR.ne (hall 4 (by decide)) (hall 5 (by decide)) (by rw [v4, v5, e])
  have HR : Hid (Below W.heap.size W w4 ∧ Box3 w4 w.heap.size 37 a b c ∧ W.heap.size ≤ m ∧ W.heap.size ≤ n) := ⟨hR.below, hR.x, hm, hn⟩
  simp only [putAll, v0, v1, v2, v3, v4, v5] at ha'
  clear hR hall hm' hn' hm hn v0 v1 v2 v3 v4 v5
  subst ha'
  go_frame
  have HB' : Hid (Below w.heap.size w w4) := HB.out.trans (HR.out.1.mono HB.out.size)
  have HZ' : Hid (Box3 w4 (w.heap.size + 1 + 1) 37 0 0 0) := HZ.out.on HR.out.1 (lt_of_block HZ.out.at')
  have HX' : Hid (Box3 w4 w.heap.size 37 a b c) := HR.out.2.1
  have HM : Hid (W.heap.size ≤ m ∧ W.heap.size ≤ n ∧ w.heap.size + 1 + 1 < W.heap.size) := ⟨HR.out.2.2.1, HR.out.2.2.2, lt_of_block HZ.out.at'⟩
  have HH : Hid (Half w m n a b c d e f a b c w4) := ⟨HB'.out, HX'.out, HZ'.out, hbm, hbn, by have := HM.out; omega, hmn⟩
  clear hbm hbn HX HY HZ HR HB HB' HX' HZ' HM hmn
  go_wp2
  refine wp_loop_rounds 4 ?_
  rw [rounds_succ]
  go_wp2
  have k0 := HH.out.bm.c0
  have l0 := HH.out.bn.c0
  have f0 := HH.out.bm.f0 0
  go_region
  obtain ⟨w5, hw⟩ : ∃ x, x = (w4.setCell ⟨m, 0, none⟩ (.int .i64 (a - d))).drew := ⟨_, rfl⟩
  rw [← hw]
  replace HH := hid_of (HH.out.set0 (a - d))
  rw [← hw] at HH
  clear hw k0 l0 f0
  go_wp2
  rw [rounds_succ]
  go_wp2
  have k0 := HH.out.bm.c1
  have l0 := HH.out.bn.c1
  have f0 := HH.out.bm.f0 1
  go_region
  obtain ⟨w6, hw⟩ : ∃ x, x = (w5.setCell ⟨m, 1, none⟩ (.int .i64 (b - e))).drew := ⟨_, rfl⟩
  rw [← hw]
  replace HH := hid_of (HH.out.set1 (b - e))
  rw [← hw] at HH
  clear hw k0 l0 f0
  go_wp2
  rw [rounds_succ]
  go_wp2
  have k0 := HH.out.bm.c2
  have l0 := HH.out.bn.c2
  have f0 := HH.out.bm.f0 2
  go_region
  obtain ⟨w7, hw⟩ : ∃ x, x = (w6.setCell ⟨m, 2, none⟩ (.int .i64 (c - f))).drew := ⟨_, rfl⟩
  rw [← hw]
  replace HH := hid_of (HH.out.set2 (c - f))
  rw [← hw] at HH
  clear hw k0 l0 f0
  go_wp2
  rw [rounds_succ]
  have C3 := fun w => amtOf_in (a - d) (b - e) (c - f) w
  have k0 := HH.out.bm.c0
  have k1 := HH.out.bm.c1
  have k2 := HH.out.bm.c2
  go_wp2_with fail
  refine (C3 _).mono ?_
  rintro r w' ⟨rfl, rfl⟩
  clear C3 k0 k1 k2
  obtain ⟨w9, hw⟩ : ∃ x, x = (w7.alloc (boxN (a - d) (b - e) (c - f))).alloc (boxA (a - d) (b - e) (c - f)) := ⟨_, rfl⟩
  replace HH := hid_of (HH.out.on (w' := (w7.alloc (boxN (a - d) (b - e) (c - f))).alloc (boxA (a - d) (b - e) (c - f))) (by go_grown))
  rw [← hw] at HH ⊢
  clear hw
  have r0 := HH.out.z.c0
  have r1 := HH.out.z.c1
  have r2 := HH.out.z.c2
  have f0 := HH.out.z.f0 0
  have f1 := HH.out.z.f0 1
  have f2 := HH.out.z.f0 2
  have HP := hid_of (HH.out.z.put (.int .i64 (a - d)) (.int .i64 (b - e)) (.int .i64 (c - f)))
  go_wp2
  obtain ⟨p0, p1, p2⟩ := HP.out
  refine bodyPost_ret (v := .tuple #[amt (a - d) (b - e) (c - f), .bool true]) (by simp [results, go_sem, p0, p1, p2]) rfl ⟨rfl, below_put HH.out.below (by omega) _ _ _⟩
end Go.Proofs.YtfcenombphodbaaDoor
