/-
  The law of ArenaPut: the program answers as the model; it writes into nothing that it was given, and its answer owns its memory.
-/
import Derived.Test.YtglpfgachcoheaaPutM9
namespace Go.Proofs.Ytglpfgachcoheaa
open Go.ChangeShapes Go.WideShapes Go.ChangeAt Go.RowKit
set_option linter.unusedVariables false
set_option maxRecDepth 100000

namespace LArenaPut
set_option maxRecDepth 100000 in
set_option maxHeartbeats 16000000 in
theorem small (a : Option Addr) (n cap : Nat) (os : List Ob) (o : Ob) (l d m : Value) (w : World) (hx : IsArena w (.slice a n cap) os) (hn : n = os.length) (hf : ∀ i, Sound8 (obAt os i)) (hy : Lists w l d m o) (hso : Sound8 o) (h : ((os.length : Int) + arN os + obN o) ≤ 1048576) :
    Calls Try.prog 3 #[.slice a n cap, obV o l d m] w fun e w' => e = .returned (.bool true) ∧ Below w.heap.size w w' := by
  have hs := small8 (os := os) (by omega)
  have hl : os.length ≤ 1048576 := by omega
  have hob : obN o ≤ 1048576 := by omega
  obtain ⟨q, hq⟩ : ∃ q, q = 1048576 - (os.length : Int) - (arN os : Int) := ⟨_, rfl⟩
  obtain ⟨q2, hq2⟩ : ∃ q2, q2 = q - (obN o : Int) := ⟨_, rfl⟩
  have C1 := szObjS_any _ os 1048576 (w.alloc (boxOL o l d m)) (hx.on (below_alloc w _)) (by omega) (by omega) (by omega) (wide8 hf)
  rw [szA_yes (by omega), ← hq] at C1
  have C2 : Hid (∀ w', Below w.heap.size w w' → Calls Try.prog 10 #[obV o l d m, .int .i64 q] w' fun e w'' => e = .returned (.int .i64 q2) ∧ Below w'.heap.size w' w'') := fun w' hb => by
    have e := szObj_any o l d m q w' (hy.on hb) (by omega) (by omega) (Nat.le_trans hso.l1 (by decide)) (Nat.le_trans hso.l2 (by decide)) (Nat.le_trans hso.l3 (by decide))
    rw [szOf_yes (by omega), ← hq2] at e
    exact e
  have hq0 : ¬ q < 0 := by omega
  have hq20 : ¬ q2 < 0 := by omega
  have HT : Hid (∀ w', Below w.heap.size w w' → Calls Try.prog 12 #[.slice a n cap] w' fun e w'' => ∃ g, e = .returned (.slice (some ⟨g, 0, none⟩) n n) ∧ (∃ fs, arOf fs = os ∧ OwnA g n fs [] w'.heap.size w''.heap.size w'') ∧ Below w'.heap.size w' w'') := fun w' hb => by
    have e := toObjS_is _ os w' (hx.on hb) hl hs
    rw [← hn] at e
    exact e
  have CT : Hid (∀ w', Below w.heap.size w w' → Calls Try.prog 13 #[obV o l d m] w' fun e w'' => (∃ l' d' m', e = .returned (obV o l' d' m') ∧ OwnO w'.heap.size w''.heap.size w'' l' d' m' o) ∧ Below w'.heap.size w' w'') := fun w' hb => toObj_any o l d m w' (hy.on hb) hob
  obtain ⟨rs, hrs0⟩ : ∃ rs, rs = putOf os o := ⟨_, rfl⟩
  obtain ⟨x, hx0⟩ : ∃ x, x = putI os o := ⟨_, rfl⟩
  have hrl : n = rs.length := by rw [hrs0, putOf_length]; exact hn
  have hra : (n : Int) + arN rs ≤ 1048576 := by have := putOf_arN os o; rw [← hrs0] at this; omega
  have hrsm : Small8 rs := small8 (by omega)
  have HO : Hid (∀ (g c : Nat) (l d m : Value) w', IsArena w' (.slice (some ⟨g, 0, none⟩) n c) os → Lists w' l d m o → Calls Try.prog 11 #[.slice (some ⟨g, 0, none⟩) n c, obV o l d m] w' fun e w'' => ∃ g c fs rest, e = .returned (.tuple #[.slice (some ⟨g, 0, none⟩) n c, .int .i64 x]) ∧ arOf fs = rs ∧ OwnA g c fs rest w'.heap.size w''.heap.size w'' ∧ Below w'.heap.size w' w'') := fun g c l d m w' h1 h2 => by
    have e := specPut_any _ os o l d m w' h1 h2 hl hs hob (fun i => (hf i).fits) hso.fits
    unfold PutAns at e
    rw [← hrs0, ← hx0, ← hrl] at e
    exact e
  have HI : Hid (∀ (g c : Nat) (l d m : Value) w', IsArena w' (.slice (some ⟨g, 0, none⟩) n c) os → Lists w' l d m o → Calls Try.prog 14 #[.slice (some ⟨g, 0, none⟩) n c, obV o l d m] w' fun e w'' => ∃ g c fs rest, e = .returned (.tuple #[.slice (some ⟨g, 0, none⟩) n c, .int .i64 x]) ∧ arOf fs = rs ∧ OwnA g c fs rest w'.heap.size w''.heap.size w'' ∧ Below w'.heap.size w' w'') := fun g c l d m w' h1 h2 => by
    have h3 := h1
    rw [hn] at h3
    have e := implPut_any ⟨g, 0, none⟩ c os o l d m w' h3 h2 hl hs hob
    unfold PutAns at e
    rw [← hrs0, ← hx0, ← hrl, ← hn] at e
    exact e
  have HQ : Hid (∀ v u w', IsArena w' v os → IsArena w' u os → Calls Try.prog 15 #[v, u] w' fun e w'' => e = .returned (.bool true) ∧ Below w'.heap.size w' w'') := fun v u w' h1 h2 => eqObjS_same v u os w' h1 h2 hl hs
  have HE : Hid (∀ v u w', IsArena w' v rs → IsArena w' u rs → Calls Try.prog 15 #[v, u] w' fun e w'' => e = .returned (.bool true) ∧ Below w'.heap.size w' w'') := fun v u w' h1 h2 => eqObjS_same v u rs w' h1 h2 (by omega) hrsm
  have HM : Hid (∀ g fs lo hi w', arOf fs = os → OwnA g n fs [] lo hi w' → Calls Try.prog 17 #[.slice (some ⟨g, 0, none⟩) n n, .int .i64 1] w' fun e w'' => e = .returned (.int .i64 (1 + stepS os)) ∧ Turned8 lo hi w' w'') := fun g fs lo hi w' h1 h2 => by
    have hfl : fs.length = n := by rw [hn, ← h1, arOf_length]
    have e := markObjS_own g n n fs [] lo hi w' h2 hfl.symm (by rw [h1, hn]; omega)
    rw [h1] at e
    exact e.mono fun e w'' h => ⟨h.1, h.2.2⟩
  have hsn := stepS_bound os
  have hsr := stepS_bound rs
  obtain ⟨zs, hzs⟩ : ∃ zs, zs = 1 + stepS os := ⟨_, rfl⟩
  obtain ⟨zt, hzt⟩ : ∃ zt, zt = zs + (o.ls.length : Int) + (o.ds.length : Int) + 2 * (o.qs.length : Int) := ⟨_, rfl⟩
  have HMO : Hid (∀ l d m lo hi w', OwnO lo hi w' l d m o → lo ≤ hi → hi ≤ w'.heap.size → Calls Try.prog 18 #[obV o l d m, .int .i64 zs] w' fun e w'' => e = .returned (.int .i64 zt) ∧ Turned8 lo hi w' w'') := fun l d m lo hi w' h1 h2 h3 => by
    rw [hzt]
    exact markObj_own o l d m lo hi zs w' h1 h2 h3 hob (by omega) (by omega)
  have HMR : Hid (∀ g c fs rest lo hi w', arOf fs = rs → OwnA g c fs rest lo hi w' → Calls Try.prog 17 #[.slice (some ⟨g, 0, none⟩) n c, .int .i64 1] w' fun e w'' => e = .returned (.int .i64 (1 + stepS rs)) ∧ (∃ fs', arOf fs' = upArena 1 rs ∧ OwnA g c fs' rest lo hi w'') ∧ Turned8 lo hi w' w'') := fun g c fs rest lo hi w' h1 h2 => by
    have hfl : fs.length = n := by rw [hrl, ← h1, arOf_length]
    have e := markObjS_own g c n fs rest lo hi w' h2 hfl.symm (by rw [h1]; exact hra)
    rw [h1] at e
    exact e
  have HH : Hid (∀ v w', IsArena w' v (upArena 1 rs) → Calls Try.prog 19 #[v, .int .i64 1] w' fun e w'' => e = .returned (.int .i64 (1 + stepS rs)) ∧ w' = w'') := fun v w' h => heldObjS_up v rs w' h (by omega)
  have hz : ¬ (zt < 0) := by omega
  obtain ⟨zl, hzl⟩ : ∃ zl : Int, zl = 1 + stepS rs := ⟨_, rfl⟩
  have hz2 : ¬ (zl < 0) := by omega
  rw [← hzs] at HM
  rw [← hzl] at HMR HH
  have hzz : (zl != zl) = false := by simp
  have hbb : (x != x) = false := by simp
  have HNE : Hid (n = os.length) := hn
  have HNO : Hid (obN o ≤ 1048576) := hob
  have HRL : Hid (n = rs.length) := hrl
  have HUL : Hid (n = (upArena 1 rs).length) := by show _ = _; rw [upArena_length]; exact hrl
  have HB0 : Hid (Below w.heap.size w (w.alloc (boxOL o l d m))) := below_alloc w _
  have HL0 : Hid (Box13L (w.alloc (boxOL o l d m)) w.heap.size o l d m) := ⟨heap_alloc_new w _⟩
  have HSZ0 : Hid (w.heap.size < (w.alloc (boxOL o l d m)).heap.size) := by show _ < _; simp
  clear hx hn hf h hs hl hrs0 hx0 hrl hra hrsm hsn hsr hzs hzt hzl hob hso hy hq hq2
  go_enter Try.func3, Try.ntmps3
  go_wp2_with fail
  refine C1.mono ?_
  rintro e w1 ⟨rfl, hb⟩
  have HB1 := hid_of (below_more HB0.out hb)
  have HL1 := hid_of (HL0.out.on hb)
  have HSZ1 : Hid (w.heap.size < w1.heap.size) := Nat.lt_of_lt_of_le HSZ0.out hb.size
  clear C1 hb HB0 HL0 HSZ0
  have k0 := HL1.out.c0
  have k1 := HL1.out.c1
  have k2 := HL1.out.c2
  have k3 := HL1.out.c3
  have k4 := HL1.out.c4
  have k5 := HL1.out.c5
  have k6 := HL1.out.c6
  have k7 := HL1.out.c7
  have k8 := HL1.out.c8
  have k9 := HL1.out.c9
  have k10 := HL1.out.c10
  have k11 := HL1.out.c11
  have k12 := HL1.out.c12
  go_wp2_with fail
  refine (C2.out _ HB1.out).mono ?_
  rintro e w2 ⟨rfl, hb⟩
  have HB2 := hid_of (below_more HB1.out hb)
  have HL2 := hid_of (HL1.out.on hb)
  have HSZ2 : Hid (w.heap.size < w2.heap.size) := Nat.lt_of_lt_of_le HSZ1.out hb.size
  clear C2 hb HB1 HL1 HSZ1
  clear k0 k1 k2 k3 k4 k5 k6 k7 k8 k9 k10 k11 k12
  obtain ⟨l0, HLL0⟩ : ∃ l0 : List Value, l0 = [.slice a n cap, undef, obV o l d m, undef, undef, undef, undef, .int .i64 x, undef, .int .i64 x] := ⟨_, rfl⟩
  have HLL := hid_of HLL0
  clear HLL0
  go_wp2_with fail
  refine wp_region_whole (by kernel_rfl) (by kernel_rfl) (by kernel_rfl) (by kernel_rfl) (Flat (fun wz => Below w2.heap.size w2 wz ∧ Box13L wz w.heap.size o l d m) (gPut o os rs n x w2.heap.size l0)) (flat_start ⟨below_draw _, HL2.out.on (below_draw _)⟩) ?_ ?_
  · refine ⟨?_, ?_, ?_, ?_, ?_, ?_, ?_, ?_, ?_, ?_, trivial⟩
    · intro b0 us wz L hslot hoth hLi hR hcl hdo K hK
      rcases HLL.out with rfl
      · have s0 : b0.tmps.getD 0 undef = .slice a n cap := hoth 0 (by rfl)
        clear hslot hoth hdo hcl hLi
        refine guard_none (by rfl) ?_
        go_simp
        exact hK _ _ (flat_mark (hR.1) (fun _ _ h => h) hR.2 rfl)
    · intro b0 us wz L hslot hoth hLi hR hcl hdo K hK
      rcases HLL.out with rfl
      · have s28 : b0.tmps.getD 28 undef = .slice a n cap := (hslot 0 28 (by rfl)).trans (hR.2 0 (done_at hdo 0 (by rfl)))
        clear hslot hoth hdo hcl hLi
        refine guard_none (by rfl) ?_
        go_simp
        refine (HT.out wz (below_more HB2.out hR.1.1)).mono ?_
        rintro e w' ⟨g9, rfl, ⟨f9, hf9, ho9⟩, hb⟩
        exact hK _ _ (flat_mark ⟨below_more hR.1.1 hb, hR.1.2.on hb⟩ (gPut_on hb) hR.2 ⟨g9, rfl, own_arena9 hf9 HNE.out ho9⟩)
    · intro b0 us wz L hslot hoth hLi hR hcl hdo K hK
      rcases HLL.out with rfl
      · have s3 : b0.tmps.getD 3 undef = .pointer (some ⟨w.heap.size, 0, none⟩) := hoth 3 (by rfl)
        have k0 := (hR.1.2).c0
        have k1 := (hR.1.2).c1
        have k2 := (hR.1.2).c2
        have k3 := (hR.1.2).c3
        have k4 := (hR.1.2).c4
        have k5 := (hR.1.2).c5
        have k6 := (hR.1.2).c6
        have k7 := (hR.1.2).c7
        have k8 := (hR.1.2).c8
        have k9 := (hR.1.2).c9
        have k10 := (hR.1.2).c10
        have k11 := (hR.1.2).c11
        have k12 := (hR.1.2).c12
        clear hslot hoth hdo hcl hLi
        refine guard_none (by rfl) ?_
        go_simp
        exact hK _ _ (flat_mark (hR.1) (fun _ _ h => h) hR.2 rfl)
    · intro b0 us wz L hslot hoth hLi hR hcl hdo K hK
      rcases HLL.out with rfl
      · have s30 : b0.tmps.getD 30 undef = obV o l d m := (hslot 2 30 (by rfl)).trans (hR.2 2 (done_at hdo 2 (by rfl)))
        clear hslot hoth hdo hcl hLi
        refine guard_none (by rfl) ?_
        go_simp
        refine (CT.out wz (below_more HB2.out hR.1.1)).mono ?_
        rintro e w' ⟨⟨l9, d9, m9, rfl, ho9⟩, hb⟩
        exact hK _ _ (flat_mark ⟨below_more hR.1.1 hb, hR.1.2.on hb⟩ (gPut_on hb) hR.2 ⟨l9, d9, m9, rfl, ho9.lists⟩)
    · intro b0 us wz L hslot hoth hLi hR hcl hdo K hK
      rcases HLL.out with rfl
      · obtain ⟨g1, hu1, hia⟩ := hR.2 1 (done_at hdo 1 (by rfl))
        have s29 : b0.tmps.getD 29 undef = .slice (some ⟨g1, 0, none⟩) n n := (hslot 1 29 (by rfl)).trans hu1
        rw [hu1] at hia
        obtain ⟨l3, d3, m3, hu3, hl3⟩ := hR.2 3 (done_at hdo 3 (by rfl))
        have s31 : b0.tmps.getD 31 undef = obV o l3 d3 m3 := (hslot 3 31 (by rfl)).trans hu3
        clear hslot hoth hdo hcl hLi
        refine guard_none (by rfl) ?_
        go_simp
        refine (HO.out _ _ _ _ _ wz hia hl3).mono ?_
        rintro e w' ⟨g9, c9, f9, r9, rfl, he9, ho9, hb⟩
        exact hK _ _ (flat_mark ⟨below_more hR.1.1 hb, hR.1.2.on hb⟩ (gPut_on hb) hR.2 ⟨g9, c9, f9, r9, rfl, he9, ho9.wide hR.1.1.size (Nat.le_refl _)⟩)
    · intro b0 us wz L hslot hoth hLi hR hcl hdo K hK
      rcases HLL.out with rfl
      · obtain ⟨g4, c4, f4, r4, hu4, he4, ho4⟩ := hR.2 4 (done_at hdo 4 (by rfl))
        have s32 : b0.tmps.getD 32 undef = .tuple #[.slice (some ⟨g4, 0, none⟩) n c4, .int .i64 x] := (hslot 4 32 (by rfl)).trans hu4
        clear hslot hoth hdo hcl hLi
        refine guard_none (by rfl) ?_
        go_simp
        exact hK _ _ (flat_mark (hR.1) (fun _ _ h => h) hR.2 ⟨g4, c4, f4, r4, rfl, he4, ho4⟩)
    · intro b0 us wz L hslot hoth hLi hR hcl hdo K hK
      rcases HLL.out with rfl
      · obtain ⟨g4, c4, f4, r4, hu4, he4, ho4⟩ := hR.2 5 (done_at hdo 5 (by rfl))
        have s27 : b0.tmps.getD 27 undef = .tuple #[.slice (some ⟨g4, 0, none⟩) n c4, .int .i64 x] := (hslot 5 27 (by rfl)).trans hu4
        clear hslot hoth hdo hcl hLi
        refine guard_none (by rfl) ?_
        go_simp
        exact hK _ _ (flat_mark (hR.1) (fun _ _ h => h) hR.2 ⟨g4, c4, f4, r4, rfl, he4, ho4⟩)
    · intro b0 us wz L hslot hoth hLi hR hcl hdo K hK
      rcases HLL.out with rfl
      · obtain ⟨g4, c4, f4, r4, hu4, he4, ho4⟩ := hR.2 5 (done_at hdo 5 (by rfl))
        have s27 : b0.tmps.getD 27 undef = .tuple #[.slice (some ⟨g4, 0, none⟩) n c4, .int .i64 x] := (hslot 5 27 (by rfl)).trans hu4
        clear hslot hoth hdo hcl hLi
        refine guard_none (by rfl) ?_
        go_simp
        exact hK _ _ (flat_mark (hR.1) (fun _ _ h => h) hR.2 rfl)
    · intro b0 us wz L hslot hoth hLi hR hcl hdo K hK
      rcases HLL.out with rfl
      · obtain ⟨g4, c4, f4, r4, hu4, he4, ho4⟩ := hR.2 6 (done_at hdo 6 (by rfl))
        have s33 : b0.tmps.getD 33 undef = .slice (some ⟨g4, 0, none⟩) n c4 := (hslot 6 33 (by rfl)).trans hu4
        clear hslot hoth hdo hcl hLi
        refine guard_none (by rfl) ?_
        go_simp
        exact hK _ _ (flat_mark (hR.1) (fun _ _ h => h) hR.2 ⟨g4, c4, f4, r4, rfl, he4, ho4⟩)
    · intro b0 us wz L hslot hoth hLi hR hcl hdo K hK
      rcases HLL.out with rfl
      · have s34 : b0.tmps.getD 34 undef = .int .i64 x := (hslot 7 34 (by rfl)).trans (hR.2 7 (done_at hdo 7 (by rfl)))
        clear hslot hoth hdo hcl hLi
        refine guard_none (by rfl) ?_
        go_simp
        exact hK _ _ (flat_mark (hR.1) (fun _ _ h => h) hR.2 rfl)
  · intro us wn L hall hR a' ha'
    have g9 : us 9 = .int .i64 x := by
      have := hR.2 9 (hall 9 (by decide))
      rcases HLL.out with rfl
      all_goals exact this
    have HB := hid_of hR.1
    obtain ⟨ga, ca, fa, ra, g8, hea, hoa⟩ := hR.2 8 (hall 8 (by decide))
    clear hR hall
    simp only [putAll, g9, g8] at ha'
    subst ha'
    go_frame
    obtain ⟨w3, hw3⟩ : ∃ w3, w3 = wn := ⟨_, rfl⟩
    subst hw3
    have HB3 := hid_of (below_more HB2.out HB.out.1)
    have HL3 := hid_of HB.out.2
    have HA3 := hid_of (show arOf fa = rs ∧ OwnA ga ca fa ra w2.heap.size w3.heap.size w3 from ⟨hea, hoa⟩)
    have HSZ3 : Hid (w.heap.size < w3.heap.size) := Nat.lt_of_lt_of_le HSZ2.out HB.out.1.size
    clear HB HB2 HL2 HSZ2 HLL hea hoa
    go_wp2_with fail
    refine (HT.out _ HB3.out).mono ?_
    rintro e w4 ⟨gq, rfl, ⟨f4, hf4, ho4⟩, hb⟩
    have HB4 := hid_of (below_more HB3.out hb)
    have HL4 := hid_of (HL3.out.on hb)
    have HA4 := hid_of (show arOf fa = rs ∧ OwnA ga ca fa ra w2.heap.size w3.heap.size w4 from ⟨HA3.out.1, HA3.out.2.on hb⟩)
    have HX4 := hid_of (show arOf f4 = os ∧ OwnA gq n f4 [] w3.heap.size w4.heap.size w4 from ⟨hf4, ho4⟩)
    have HSZ4 : Hid (w.heap.size < w3.heap.size ∧ w3.heap.size ≤ w4.heap.size) := ⟨HSZ3.out, hb.size⟩
    clear hb hf4 ho4 HB3 HL3 HA3 HSZ3
    have k0 := HL4.out.c0
    have k1 := HL4.out.c1
    have k2 := HL4.out.c2
    have k3 := HL4.out.c3
    have k4 := HL4.out.c4
    have k5 := HL4.out.c5
    have k6 := HL4.out.c6
    have k7 := HL4.out.c7
    have k8 := HL4.out.c8
    have k9 := HL4.out.c9
    have k10 := HL4.out.c10
    have k11 := HL4.out.c11
    have k12 := HL4.out.c12
    go_wp2_with fail
    refine (CT.out _ HB4.out).mono ?_
    rintro e w5 ⟨⟨l2, d2, m2, rfl, ho⟩, hb⟩
    clear k0 k1 k2 k3 k4 k5 k6 k7 k8 k9 k10 k11 k12
    obtain ⟨x1, y1, rfl, _⟩ := id ho.ls
    obtain ⟨x2, y2, rfl, _⟩ := id ho.ds
    obtain ⟨x3, y3, rfl, _⟩ := id ho.qs
    have hbr := below_more hb (below_alloc w5 (boxO o (.slice x1 o.ls.length y1) (.slice x2 o.ds.length y2) (.slice x3 o.qs.length y3)))
    have HB5 := hid_of (below_more HB4.out hbr)
    have HL5 := hid_of (HL4.out.on hbr)
    have HA5 := hid_of (show arOf fa = rs ∧ OwnA ga ca fa ra w2.heap.size w3.heap.size (w5.alloc (boxO o (.slice x1 o.ls.length y1) (.slice x2 o.ds.length y2) (.slice x3 o.qs.length y3))) from ⟨HA4.out.1, HA4.out.2.on hbr⟩)
    have HX5 := hid_of (show arOf f4 = os ∧ OwnA gq n f4 [] w3.heap.size w4.heap.size (w5.alloc (boxO o (.slice x1 o.ls.length y1) (.slice x2 o.ds.length y2) (.slice x3 o.qs.length y3))) from ⟨HX4.out.1, HX4.out.2.on hbr⟩)
    have HY5 : Hid (OwnO w4.heap.size w5.heap.size (w5.alloc (boxO o (.slice x1 o.ls.length y1) (.slice x2 o.ds.length y2) (.slice x3 o.qs.length y3))) (.slice x1 o.ls.length y1) (.slice x2 o.ds.length y2) (.slice x3 o.qs.length y3) o) := ho.on (below_alloc w5 _) (Nat.le_refl _) (Nat.le_refl _)
    have HJ5 : Hid (Box13 (w5.alloc (boxO o (.slice x1 o.ls.length y1) (.slice x2 o.ds.length y2) (.slice x3 o.qs.length y3))) w5.heap.size o (.slice x1 o.ls.length y1) (.slice x2 o.ds.length y2) (.slice x3 o.qs.length y3)) := ⟨heap_alloc_new w5 _⟩
    obtain ⟨S5, hS5⟩ : ∃ S5, S5 = (w5.alloc (boxO o (.slice x1 o.ls.length y1) (.slice x2 o.ds.length y2) (.slice x3 o.qs.length y3))).heap.size := ⟨_, rfl⟩
    have HSZ5 : Hid (w.heap.size < w3.heap.size ∧ w3.heap.size ≤ w4.heap.size ∧ w4.heap.size ≤ w5.heap.size ∧ w5.heap.size ≤ S5) := ⟨HSZ4.out.1, HSZ4.out.2, hb.size, by rw [hS5]; simp⟩
    have HS5 := hid_of hS5
    clear hb hbr ho HB4 HL4 HA4 HX4 HSZ4 hS5
    go_wp2_with fail
    refine (HI.out _ _ _ _ _ _ (own_arena9 HX5.out.1 HNE.out HX5.out.2) HY5.out.lists).mono ?_
    rintro e w6 ⟨gb, cb, fb, rb, rfl, heb, hob, hb⟩
    have HB6 := hid_of (below_more HB5.out hb)
    have HL6 := hid_of (HL5.out.on hb)
    have HA6 := hid_of (show arOf fa = rs ∧ OwnA ga ca fa ra w2.heap.size w3.heap.size w6 from ⟨HA5.out.1, HA5.out.2.on hb⟩)
    have HX6 := hid_of (show arOf f4 = os ∧ OwnA gq n f4 [] w3.heap.size w4.heap.size w6 from ⟨HX5.out.1, HX5.out.2.on hb⟩)
    have HY6 := hid_of (HY5.out.on hb (Nat.le_refl _) (Nat.le_refl _) : OwnO w4.heap.size w5.heap.size w6 _ _ _ o)
    have HJ6 := hid_of (HJ5.out.on hb)
    have HG6 : Hid (arOf fb = rs ∧ OwnA gb cb fb rb S5 w6.heap.size w6) := ⟨heb, by rw [HS5.out]; exact hob⟩
    clear hb heb hob HB5 HL5 HA5 HX5 HY5 HJ5 HS5
    obtain ⟨l2, hl2⟩ : ∃ v, v = Value.slice x1 o.ls.length y1 := ⟨_, rfl⟩
    obtain ⟨d2, hd2⟩ : ∃ v, v = Value.slice x2 o.ds.length y2 := ⟨_, rfl⟩
    obtain ⟨m2, hm2⟩ : ∃ v, v = Value.slice x3 o.qs.length y3 := ⟨_, rfl⟩
    obtain ⟨g5, hg5⟩ : ∃ g, g = w5.heap.size := ⟨_, rfl⟩
    rw [← hl2, ← hd2, ← hm2] at HY6 HJ6
    rw [← hl2, ← hd2, ← hm2, ← hg5]
    rw [← hg5] at HJ6
    have HG5 := hid_of hg5
    clear hl2 hd2 hm2 hg5
    go_wp2_with fail
    refine (HE.out _ _ _ (own_arena9 HG6.out.1 HRL.out HG6.out.2) (own_arena9 HA6.out.1 HRL.out HA6.out.2)).mono ?_
    rintro e w7 ⟨rfl, hb⟩
    have HB7 := hid_of (below_more HB6.out hb)
    have HL7 := hid_of (show Box13L w7 w.heap.size o l d m from HL6.out.on hb)
    have HA7 := hid_of (show arOf fa = rs ∧ OwnA ga ca fa ra w2.heap.size w3.heap.size w7 from ⟨HA6.out.1, HA6.out.2.on hb⟩)
    have HX7 := hid_of (show arOf f4 = os ∧ OwnA gq n f4 [] w3.heap.size w4.heap.size w7 from ⟨HX6.out.1, HX6.out.2.on hb⟩)
    have HY7 := hid_of (show OwnO w4.heap.size w5.heap.size w7 l2 d2 m2 o from HY6.out.on hb (Nat.le_refl _) (Nat.le_refl _))
    have HJ7 := hid_of (show Box13 w7 g5 o l2 d2 m2 from HJ6.out.on hb)
    have HG7 := hid_of (show arOf fb = rs ∧ OwnA gb cb fb rb S5 w6.heap.size w7 from ⟨HG6.out.1, HG6.out.2.on hb⟩)
    clear hb HB6 HL6 HA6 HX6 HY6 HJ6 HG6
    go_wp2_with fail
    refine (HT.out _ HB7.out).mono ?_
    rintro e w8 ⟨g8, rfl, ⟨f8, hf8, ho8⟩, hb⟩
    have HB8 := hid_of (below_more HB7.out hb)
    have HL8 := hid_of (show Box13L w8 w.heap.size o l d m from HL7.out.on hb)
    have HA8 := hid_of (show arOf fa = rs ∧ OwnA ga ca fa ra w2.heap.size w3.heap.size w8 from ⟨HA7.out.1, HA7.out.2.on hb⟩)
    have HX8 := hid_of (show arOf f4 = os ∧ OwnA gq n f4 [] w3.heap.size w4.heap.size w8 from ⟨HX7.out.1, HX7.out.2.on hb⟩)
    have HY8 := hid_of (show OwnO w4.heap.size w5.heap.size w8 l2 d2 m2 o from HY7.out.on hb (Nat.le_refl _) (Nat.le_refl _))
    have HJ8 := hid_of (show Box13 w8 g5 o l2 d2 m2 from HJ7.out.on hb)
    have HG8 := hid_of (show arOf fb = rs ∧ OwnA gb cb fb rb S5 w6.heap.size w8 from ⟨HG7.out.1, HG7.out.2.on hb⟩)
    clear hb HB7 HL7 HA7 HX7 HY7 HJ7 HG7
    have HK8 := hid_of (own_arena9 hf8 HNE.out ho8)
    clear hf8 ho8
    go_wp2_with fail
    refine (HQ.out _ _ _ (own_arena9 HX8.out.1 HNE.out HX8.out.2) HK8.out).mono ?_
    rintro e w9 ⟨rfl, hb⟩
    have HB9 := hid_of (below_more HB8.out hb)
    have HL9 := hid_of (show Box13L w9 w.heap.size o l d m from HL8.out.on hb)
    have HA9 := hid_of (show arOf fa = rs ∧ OwnA ga ca fa ra w2.heap.size w3.heap.size w9 from ⟨HA8.out.1, HA8.out.2.on hb⟩)
    have HX9 := hid_of (show arOf f4 = os ∧ OwnA gq n f4 [] w3.heap.size w4.heap.size w9 from ⟨HX8.out.1, HX8.out.2.on hb⟩)
    have HY9 := hid_of (show OwnO w4.heap.size w5.heap.size w9 l2 d2 m2 o from HY8.out.on hb (Nat.le_refl _) (Nat.le_refl _))
    have HJ9 := hid_of (show Box13 w9 g5 o l2 d2 m2 from HJ8.out.on hb)
    have HG9 := hid_of (show arOf fb = rs ∧ OwnA gb cb fb rb S5 w6.heap.size w9 from ⟨HG8.out.1, HG8.out.2.on hb⟩)
    clear hb HB8 HL8 HA8 HX8 HY8 HJ8 HG8
    clear HK8
    obtain ⟨l0, HLL0⟩ : ∃ l0 : List Value, l0 = [obV o l2 d2 m2, obV o l d m, undef, .bool true, .bool false] := ⟨_, rfl⟩
    have HLL := hid_of HLL0
    clear HLL0
    go_wp2_with fail
    refine wp_region_whole (by kernel_rfl) (by kernel_rfl) (by kernel_rfl) (by kernel_rfl) (Flat (fun wz => Below w9.heap.size w9 wz ∧ Box13L wz w.heap.size o l d m ∧ Box13 wz g5 o l2 d2 m2 ∧ Lists wz l2 d2 m2 o) (gObj o l0)) (flat_start ⟨below_draw _, HL9.out.on (below_draw _), HJ9.out.on (below_draw _), HY9.out.lists.on (below_draw _)⟩) ?_ ?_
    · refine ⟨?_, ?_, ?_, ?_, ?_, trivial⟩
      · intro b0 us wz L hslot hoth hLi hR hcl hdo K hK
        rcases HLL.out with rfl
        · have s9 : b0.tmps.getD 9 undef = .pointer (some ⟨g5, 0, none⟩) := hoth 9 (by rfl)
          have k0 := (hR.1.2.2.1).c0
          have k1 := (hR.1.2.2.1).c1
          have k2 := (hR.1.2.2.1).c2
          have k3 := (hR.1.2.2.1).c3
          have k4 := (hR.1.2.2.1).c4
          have k5 := (hR.1.2.2.1).c5
          have k6 := (hR.1.2.2.1).c6
          have k7 := (hR.1.2.2.1).c7
          have k8 := (hR.1.2.2.1).c8
          have k9 := (hR.1.2.2.1).c9
          have k10 := (hR.1.2.2.1).c10
          have k11 := (hR.1.2.2.1).c11
          have k12 := (hR.1.2.2.1).c12
          clear hslot hoth hdo hcl hLi
          refine guard_none (by rfl) ?_
          go_simp
          exact hK _ _ (flat_mark (hR.1) (fun _ _ h => h) hR.2 rfl)
      · intro b0 us wz L hslot hoth hLi hR hcl hdo K hK
        rcases HLL.out with rfl
        · have s3 : b0.tmps.getD 3 undef = .pointer (some ⟨w.heap.size, 0, none⟩) := hoth 3 (by rfl)
          have k0 := (hR.1.2.1).c0
          have k1 := (hR.1.2.1).c1
          have k2 := (hR.1.2.1).c2
          have k3 := (hR.1.2.1).c3
          have k4 := (hR.1.2.1).c4
          have k5 := (hR.1.2.1).c5
          have k6 := (hR.1.2.1).c6
          have k7 := (hR.1.2.1).c7
          have k8 := (hR.1.2.1).c8
          have k9 := (hR.1.2.1).c9
          have k10 := (hR.1.2.1).c10
          have k11 := (hR.1.2.1).c11
          have k12 := (hR.1.2.1).c12
          clear hslot hoth hdo hcl hLi
          refine guard_none (by rfl) ?_
          go_simp
          exact hK _ _ (flat_mark (hR.1) (fun _ _ h => h) hR.2 rfl)
      · intro b0 us wz L hslot hoth hLi hR hcl hdo K hK
        rcases HLL.out with rfl
        · have s60 : b0.tmps.getD 60 undef = obV o l d m := (hslot 1 60 (by rfl)).trans (hR.2 1 (done_at hdo 1 (by rfl)))
          clear hslot hoth hdo hcl hLi
          refine guard_none (by rfl) ?_
          go_simp
          refine (CT.out wz (below_more HB9.out hR.1.1)).mono ?_
          rintro e w' ⟨⟨l9, d9, m9, rfl, ho9⟩, hb⟩
          exact hK _ _ (flat_mark ⟨below_more hR.1.1 hb, hR.1.2.1.on hb, hR.1.2.2.1.on hb, hR.1.2.2.2.on hb⟩ (gObj_on hb) hR.2 ⟨l9, d9, m9, rfl, ho9.lists⟩)
      · intro b0 us wz L hslot hoth hLi hR hcl hdo K hK
        rcases HLL.out with rfl
        · have s59 : b0.tmps.getD 59 undef = obV o l2 d2 m2 := (hslot 0 59 (by rfl)).trans (hR.2 0 (done_at hdo 0 (by rfl)))
          obtain ⟨l3, d3, m3, hu, hl3⟩ := hR.2 2 (done_at hdo 2 (by rfl))
          have s61 : b0.tmps.getD 61 undef = obV o l3 d3 m3 := (hslot 2 61 (by rfl)).trans hu
          clear hslot hoth hdo hcl hLi
          refine guard_none (by rfl) ?_
          go_simp
          refine (eqObj_same o l2 d2 m2 l3 d3 m3 wz hR.1.2.2.2 hl3 HNO.out).mono ?_
          rintro e w' ⟨rfl, hb⟩
          exact hK _ _ (flat_mark ⟨below_more hR.1.1 hb, hR.1.2.1.on hb, hR.1.2.2.1.on hb, hR.1.2.2.2.on hb⟩ (gObj_on hb) hR.2 rfl)
      · intro b0 us wz L hslot hoth hLi hR hcl hdo K hK
        rcases HLL.out with rfl
        · have s62 : b0.tmps.getD 62 undef = .bool true := (hslot 3 62 (by rfl)).trans (hR.2 3 (done_at hdo 3 (by rfl)))
          clear hslot hoth hdo hcl hLi
          refine guard_none (by rfl) ?_
          go_simp
          exact hK _ _ (flat_mark (hR.1) (fun _ _ h => h) hR.2 rfl)
    · intro us wn L hall hR a' ha'
      have g4 : us 4 = .bool false := by
        have := hR.2 4 (hall 4 (by decide))
        rcases HLL.out with rfl
        all_goals exact this
      have HB := hid_of hR.1
      clear hR hall
      simp only [putAll, g4] at ha'
      subst ha'
      go_frame
      obtain ⟨w10, hw10⟩ : ∃ w10, w10 = wn := ⟨_, rfl⟩
      subst hw10
      have HB10 := hid_of (below_more HB9.out HB.out.1)
      have HL10 := hid_of (show Box13L w10 w.heap.size o l d m from HL9.out.on HB.out.1)
      have HA10 := hid_of (show arOf fa = rs ∧ OwnA ga ca fa ra w2.heap.size w3.heap.size w10 from ⟨HA9.out.1, HA9.out.2.on HB.out.1⟩)
      have HX10 := hid_of (show arOf f4 = os ∧ OwnA gq n f4 [] w3.heap.size w4.heap.size w10 from ⟨HX9.out.1, HX9.out.2.on HB.out.1⟩)
      have HY10 := hid_of (show OwnO w4.heap.size w5.heap.size w10 l2 d2 m2 o from HY9.out.on HB.out.1 (Nat.le_refl _) (Nat.le_refl _))
      have HJ10 := hid_of (show Box13 w10 g5 o l2 d2 m2 from HJ9.out.on HB.out.1)
      have HG10 := hid_of (show arOf fb = rs ∧ OwnA gb cb fb rb S5 w6.heap.size w10 from ⟨HG9.out.1, HG9.out.2.on HB.out.1⟩)
      clear  HB9 HL9 HA9 HX9 HY9 HJ9 HG9
      clear HB HLL
      go_wp2_with fail
      refine (HM.out _ _ _ _ _ HX10.out.1 HX10.out.2).mono ?_
      rintro e w11 ⟨rfl, ht⟩
      have HB11 : Hid (Below w.heap.size w w11) := ht.below _ _ (by have := HSZ5.out; omega) HB10.out
      have HL11 : Hid (Box13L w11 w.heap.size o l d m) := ⟨ht.block _ _ HL10.out.at' (.inl (by have := HSZ5.out; omega))⟩
      have HA11 : Hid (arOf fa = rs ∧ OwnA ga ca fa ra w2.heap.size w3.heap.size w11) := ⟨HA10.out.1, HA10.out.2.turnedBy ht (.inl (Nat.le_refl _))⟩
      have HY11 : Hid (OwnO w4.heap.size w5.heap.size w11 l2 d2 m2 o) := HY10.out.move (fun b y h1 h2 hy => ht.block _ _ hy (.inr (by have := HSZ5.out; omega))) (Nat.le_refl _) (Nat.le_refl _)
      have HJ11 : Hid (Box13 w11 g5 o l2 d2 m2) := ⟨ht.block _ _ HJ10.out.at' (.inr (by have := HSZ5.out; have := HG5.out; omega))⟩
      have HG11 : Hid (arOf fb = rs ∧ OwnA gb cb fb rb S5 w6.heap.size w11) := ⟨HG10.out.1, HG10.out.2.turnedBy ht (.inr (by have := HSZ5.out; omega))⟩
      have HSZ11 : Hid (w5.heap.size ≤ w11.heap.size) := by
        show _ ≤ _
        have e := lt_of_block HJ11.out.at'
        have := HG5.out
        omega
      clear ht HB10 HL10 HA10 HX10 HY10 HJ10 HG10 HM
      have k0 := HJ11.out.c0
      have k1 := HJ11.out.c1
      have k2 := HJ11.out.c2
      have k3 := HJ11.out.c3
      have k4 := HJ11.out.c4
      have k5 := HJ11.out.c5
      have k6 := HJ11.out.c6
      have k7 := HJ11.out.c7
      have k8 := HJ11.out.c8
      have k9 := HJ11.out.c9
      have k10 := HJ11.out.c10
      have k11 := HJ11.out.c11
      have k12 := HJ11.out.c12
      go_wp2_with fail
      refine (HMO.out _ _ _ _ _ _ HY11.out (by have := HSZ5.out; omega) HSZ11.out).mono ?_
      rintro e w12 ⟨rfl, ht⟩
      have HB12 : Hid (Below w.heap.size w w12) := ht.below _ _ (by have := HSZ5.out; omega) HB11.out
      have HL12 : Hid (Box13L w12 w.heap.size o l d m) := ⟨ht.block _ _ HL11.out.at' (.inl (by have := HSZ5.out; omega))⟩
      have HA12 : Hid (arOf fa = rs ∧ OwnA ga ca fa ra w2.heap.size w3.heap.size w12) := ⟨HA11.out.1, HA11.out.2.turnedBy ht (.inl (by have := HSZ5.out; omega))⟩
      have HG12 : Hid (arOf fb = rs ∧ OwnA gb cb fb rb S5 w6.heap.size w12) := ⟨HG11.out.1, HG11.out.2.turnedBy ht (.inr (by have := HSZ5.out; omega))⟩
      clear ht HB11 HL11 HA11 HY11 HJ11 HG11 HMO HSZ11
      clear k0 k1 k2 k3 k4 k5 k6 k7 k8 k9 k10 k11 k12
      go_wp2_with fail
      refine (HE.out _ _ _ (own_arena9 HG12.out.1 HRL.out HG12.out.2) (own_arena9 HA12.out.1 HRL.out HA12.out.2)).mono ?_
      rintro e w13 ⟨rfl, hb⟩
      have HB13 := hid_of (below_more HB12.out hb)
      have HL13 := hid_of (show Box13L w13 w.heap.size o l d m from HL12.out.on hb)
      have HA13 := hid_of (show arOf fa = rs ∧ OwnA ga ca fa ra w2.heap.size w3.heap.size w13 from ⟨HA12.out.1, HA12.out.2.on hb⟩)
      have HG13 := hid_of (show arOf fb = rs ∧ OwnA gb cb fb rb S5 w6.heap.size w13 from ⟨HG12.out.1, HG12.out.2.on hb⟩)
      clear hb HB12 HL12 HA12 HG12
      go_wp2_with fail
      refine (HMR.out _ _ _ _ _ _ _ HG13.out.1 HG13.out.2).mono ?_
      rintro e w14 ⟨rfl, ⟨fc, hec, hoc⟩, ht⟩
      have HB14 : Hid (Below w.heap.size w w14) := ht.below _ _ (by have := HSZ5.out; omega) HB13.out
      have HL14 : Hid (Box13L w14 w.heap.size o l d m) := ⟨ht.block _ _ HL13.out.at' (.inl (by have := HSZ5.out; omega))⟩
      have HA14 : Hid (arOf fa = rs ∧ OwnA ga ca fa ra w2.heap.size w3.heap.size w14) := ⟨HA13.out.1, HA13.out.2.turnedBy ht (.inl (by have := HSZ5.out; omega))⟩
      have HP14 := hid_of (own_arena9 hec HUL.out hoc)
      clear ht HB13 HL13 HA13 HG13 HMR hec hoc
      go_wp2_with fail
      refine (HH.out _ _ HP14.out).mono ?_
      rintro e w15 ⟨rfl, rfl⟩
      obtain ⟨l0, HLL0⟩ : ∃ l0 : List Value, l0 = [.slice a n cap, undef, obV o l d m, undef, undef, undef, undef, .int .i64 x, undef, .int .i64 x] := ⟨_, rfl⟩
      have HLL := hid_of HLL0
      clear HLL0
      go_wp2_with fail
      refine wp_region_whole (by kernel_rfl) (by kernel_rfl) (by kernel_rfl) (by kernel_rfl) (Flat (fun wz => Below w14.heap.size w14 wz ∧ Box13L wz w.heap.size o l d m) (gPut o os rs n x w14.heap.size l0)) (flat_start ⟨below_draw _, HL14.out.on (below_draw _)⟩) ?_ ?_
      · refine ⟨?_, ?_, ?_, ?_, ?_, ?_, ?_, ?_, ?_, ?_, trivial⟩
        · intro b0 us wz L hslot hoth hLi hR hcl hdo K hK
          rcases HLL.out with rfl
          · have s0 : b0.tmps.getD 0 undef = .slice a n cap := hoth 0 (by rfl)
            clear hslot hoth hdo hcl hLi
            refine guard_none (by rfl) ?_
            go_simp
            exact hK _ _ (flat_mark (hR.1) (fun _ _ h => h) hR.2 rfl)
        · intro b0 us wz L hslot hoth hLi hR hcl hdo K hK
          rcases HLL.out with rfl
          · have s95 : b0.tmps.getD 95 undef = .slice a n cap := (hslot 0 95 (by rfl)).trans (hR.2 0 (done_at hdo 0 (by rfl)))
            clear hslot hoth hdo hcl hLi
            refine guard_none (by rfl) ?_
            go_simp
            refine (HT.out wz (below_more HB14.out hR.1.1)).mono ?_
            rintro e w' ⟨g9, rfl, ⟨f9, hf9, ho9⟩, hb⟩
            exact hK _ _ (flat_mark ⟨below_more hR.1.1 hb, hR.1.2.on hb⟩ (gPut_on hb) hR.2 ⟨g9, rfl, own_arena9 hf9 HNE.out ho9⟩)
        · intro b0 us wz L hslot hoth hLi hR hcl hdo K hK
          rcases HLL.out with rfl
          · have s3 : b0.tmps.getD 3 undef = .pointer (some ⟨w.heap.size, 0, none⟩) := hoth 3 (by rfl)
            have k0 := (hR.1.2).c0
            have k1 := (hR.1.2).c1
            have k2 := (hR.1.2).c2
            have k3 := (hR.1.2).c3
            have k4 := (hR.1.2).c4
            have k5 := (hR.1.2).c5
            have k6 := (hR.1.2).c6
            have k7 := (hR.1.2).c7
            have k8 := (hR.1.2).c8
            have k9 := (hR.1.2).c9
            have k10 := (hR.1.2).c10
            have k11 := (hR.1.2).c11
            have k12 := (hR.1.2).c12
            clear hslot hoth hdo hcl hLi
            refine guard_none (by rfl) ?_
            go_simp
            exact hK _ _ (flat_mark (hR.1) (fun _ _ h => h) hR.2 rfl)
        · intro b0 us wz L hslot hoth hLi hR hcl hdo K hK
          rcases HLL.out with rfl
          · have s97 : b0.tmps.getD 97 undef = obV o l d m := (hslot 2 97 (by rfl)).trans (hR.2 2 (done_at hdo 2 (by rfl)))
            clear hslot hoth hdo hcl hLi
            refine guard_none (by rfl) ?_
            go_simp
            refine (CT.out wz (below_more HB14.out hR.1.1)).mono ?_
            rintro e w' ⟨⟨l9, d9, m9, rfl, ho9⟩, hb⟩
            exact hK _ _ (flat_mark ⟨below_more hR.1.1 hb, hR.1.2.on hb⟩ (gPut_on hb) hR.2 ⟨l9, d9, m9, rfl, ho9.lists⟩)
        · intro b0 us wz L hslot hoth hLi hR hcl hdo K hK
          rcases HLL.out with rfl
          · obtain ⟨g1, hu1, hia⟩ := hR.2 1 (done_at hdo 1 (by rfl))
            have s96 : b0.tmps.getD 96 undef = .slice (some ⟨g1, 0, none⟩) n n := (hslot 1 96 (by rfl)).trans hu1
            rw [hu1] at hia
            obtain ⟨l3, d3, m3, hu3, hl3⟩ := hR.2 3 (done_at hdo 3 (by rfl))
            have s98 : b0.tmps.getD 98 undef = obV o l3 d3 m3 := (hslot 3 98 (by rfl)).trans hu3
            clear hslot hoth hdo hcl hLi
            refine guard_none (by rfl) ?_
            go_simp
            refine (HI.out _ _ _ _ _ wz hia hl3).mono ?_
            rintro e w' ⟨g9, c9, f9, r9, rfl, he9, ho9, hb⟩
            exact hK _ _ (flat_mark ⟨below_more hR.1.1 hb, hR.1.2.on hb⟩ (gPut_on hb) hR.2 ⟨g9, c9, f9, r9, rfl, he9, ho9.wide hR.1.1.size (Nat.le_refl _)⟩)
        · intro b0 us wz L hslot hoth hLi hR hcl hdo K hK
          rcases HLL.out with rfl
          · obtain ⟨g4, c4, f4, r4, hu4, he4, ho4⟩ := hR.2 4 (done_at hdo 4 (by rfl))
            have s99 : b0.tmps.getD 99 undef = .tuple #[.slice (some ⟨g4, 0, none⟩) n c4, .int .i64 x] := (hslot 4 99 (by rfl)).trans hu4
            clear hslot hoth hdo hcl hLi
            refine guard_none (by rfl) ?_
            go_simp
            exact hK _ _ (flat_mark (hR.1) (fun _ _ h => h) hR.2 ⟨g4, c4, f4, r4, rfl, he4, ho4⟩)
        · intro b0 us wz L hslot hoth hLi hR hcl hdo K hK
          rcases HLL.out with rfl
          · obtain ⟨g4, c4, f4, r4, hu4, he4, ho4⟩ := hR.2 5 (done_at hdo 5 (by rfl))
            have s94 : b0.tmps.getD 94 undef = .tuple #[.slice (some ⟨g4, 0, none⟩) n c4, .int .i64 x] := (hslot 5 94 (by rfl)).trans hu4
            clear hslot hoth hdo hcl hLi
            refine guard_none (by rfl) ?_
            go_simp
            exact hK _ _ (flat_mark (hR.1) (fun _ _ h => h) hR.2 ⟨g4, c4, f4, r4, rfl, he4, ho4⟩)
        · intro b0 us wz L hslot hoth hLi hR hcl hdo K hK
          rcases HLL.out with rfl
          · obtain ⟨g4, c4, f4, r4, hu4, he4, ho4⟩ := hR.2 5 (done_at hdo 5 (by rfl))
            have s94 : b0.tmps.getD 94 undef = .tuple #[.slice (some ⟨g4, 0, none⟩) n c4, .int .i64 x] := (hslot 5 94 (by rfl)).trans hu4
            clear hslot hoth hdo hcl hLi
            refine guard_none (by rfl) ?_
            go_simp
            exact hK _ _ (flat_mark (hR.1) (fun _ _ h => h) hR.2 rfl)
        · intro b0 us wz L hslot hoth hLi hR hcl hdo K hK
          rcases HLL.out with rfl
          · obtain ⟨g4, c4, f4, r4, hu4, he4, ho4⟩ := hR.2 6 (done_at hdo 6 (by rfl))
            have s100 : b0.tmps.getD 100 undef = .slice (some ⟨g4, 0, none⟩) n c4 := (hslot 6 100 (by rfl)).trans hu4
            clear hslot hoth hdo hcl hLi
            refine guard_none (by rfl) ?_
            go_simp
            exact hK _ _ (flat_mark (hR.1) (fun _ _ h => h) hR.2 ⟨g4, c4, f4, r4, rfl, he4, ho4⟩)
        · intro b0 us wz L hslot hoth hLi hR hcl hdo K hK
          rcases HLL.out with rfl
          · have s101 : b0.tmps.getD 101 undef = .int .i64 x := (hslot 7 101 (by rfl)).trans (hR.2 7 (done_at hdo 7 (by rfl)))
            clear hslot hoth hdo hcl hLi
            refine guard_none (by rfl) ?_
            go_simp
            exact hK _ _ (flat_mark (hR.1) (fun _ _ h => h) hR.2 rfl)
      · intro us wn L hall hR a' ha'
        have g9 : us 9 = .int .i64 x := by
          have := hR.2 9 (hall 9 (by decide))
          rcases HLL.out with rfl
          all_goals exact this
        have HB := hid_of hR.1
        obtain ⟨gd, cd, fd, rd, g8, hed, hod⟩ := hR.2 8 (hall 8 (by decide))
        clear hR hall
        simp only [putAll, g9, g8] at ha'
        subst ha'
        go_frame
        have HB15 := hid_of (below_more HB14.out HB.out.1)
        have HA15 := hid_of (own_arena9 HA14.out.1 HRL.out (HA14.out.2.on HB.out.1))
        have HP15 := hid_of (HP14.out.on HB.out.1)
        have HD15 := hid_of (own_arena9 hed HRL.out hod)
        clear HB HLL HB14 HL14 HA14 HP14 hed hod
        go_wp2_with fail
        refine (HE.out _ _ _ HD15.out HA15.out).mono ?_
        rintro e w16 ⟨rfl, hb⟩
        have HB16 := hid_of (below_more HB15.out hb)
        have HP16 := hid_of (HP15.out.on hb)
        clear HB15 HP15 HA15 HD15 hb
        go_wp2_with fail
        refine (HH.out _ _ HP16.out).mono ?_
        rintro e w17 ⟨rfl, rfl⟩
        go_wp2
        go_ret
        exact ⟨rfl, HB16.out⟩
set_option maxHeartbeats 2000000 in
theorem big (a : Option Addr) (n cap : Nat) (os : List Ob) (o : Ob) (l d m : Value) (w : World) (hx : IsArena w (.slice a n cap) os) (hn : n = os.length) (hm : n ≤ maxLen) (hf : ∀ i, Sound8 (obAt os i)) (hy : Lists w l d m o) (hso : Sound8 o) (h : ¬ ((os.length : Int) + arN os + obN o) ≤ 1048576) :
    Calls Try.prog 3 #[.slice a n cap, obV o l d m] w fun e w' => e = .returned (.bool true) ∧ Below w.heap.size w w' := by
  unfold maxLen at hm
  have C := szObjS_any _ os 1048576 (w.alloc (boxOL o l d m)) (hx.on (below_alloc w _)) (by omega) (by omega) (by omega) (wide8 hf)
  have HB0 : Hid (Below w.heap.size w (w.alloc (boxOL o l d m))) := below_alloc w _
  have HL0 : Hid (Box13L (w.alloc (boxOL o l d m)) w.heap.size o l d m) := ⟨heap_alloc_new w _⟩
  by_cases h1 : ((os.length : Int) + arN os) ≤ 1048576
  · rw [szA_yes h1] at C
    obtain ⟨q, hq⟩ : ∃ q, q = 1048576 - (os.length : Int) - (arN os : Int) := ⟨_, rfl⟩
    rw [← hq] at C
    have C2 : Hid (∀ w', Below w.heap.size w w' → Calls Try.prog 10 #[obV o l d m, .int .i64 q] w' fun e w'' => e = .returned (.int .i64 (-1)) ∧ Below w'.heap.size w' w'') := fun w' hb => by
      have e := szObj_any o l d m q w' (hy.on hb) (by omega) (by omega) (Nat.le_trans hso.l1 (by decide)) (Nat.le_trans hso.l2 (by decide)) (Nat.le_trans hso.l3 (by decide))
      rw [szOf_no (by omega)] at e
      exact e
    have hq0 : ¬ q < 0 := by omega
    clear hx hn hm hf h hy hso h1 hq
    go_enter Try.func3, Try.ntmps3
    go_wp2_with fail
    refine C.mono ?_
    rintro e w1 ⟨rfl, hb⟩
    have HB1 := hid_of (below_more HB0.out hb)
    have HL1 := hid_of (HL0.out.on hb)
    clear C hb HB0 HL0
    have k0 := HL1.out.c0
    have k1 := HL1.out.c1
    have k2 := HL1.out.c2
    have k3 := HL1.out.c3
    have k4 := HL1.out.c4
    have k5 := HL1.out.c5
    have k6 := HL1.out.c6
    have k7 := HL1.out.c7
    have k8 := HL1.out.c8
    have k9 := HL1.out.c9
    have k10 := HL1.out.c10
    have k11 := HL1.out.c11
    have k12 := HL1.out.c12
    go_wp2_with fail
    refine (C2.out _ HB1.out).mono ?_
    rintro e w2 ⟨rfl, hb⟩
    have HB2 := hid_of (below_more HB1.out hb)
    clear C2 hb
    go_wp2
    go_ret
    exact ⟨rfl, HB2.out⟩
  · rw [szA_no h1] at C
    clear hx hn hm hf h hy hso h1
    go_enter Try.func3, Try.ntmps3
    go_wp2_with fail
    refine C.mono ?_
    rintro e w0 ⟨rfl, hb⟩
    have HB1 := hid_of (below_more HB0.out hb)
    clear C hb
    go_wp2
    go_ret
    exact ⟨rfl, HB1.out⟩
end LArenaPut
theorem walkArenaPut (a : Option Addr) (n cap : Nat) (os : List Ob) (o : Ob) (l d m : Value) (w : World) (hx : IsArena w (.slice a n cap) os) (hn : n = os.length) (hm : n ≤ maxLen) (hf : ∀ i, Sound8 (obAt os i)) (hy : Lists w l d m o) (hso : Sound8 o) :
    Calls Try.prog 3 #[.slice a n cap, obV o l d m] w fun e w' => e = .returned (.bool true) ∧ Below w.heap.size w w' := by
  by_cases h : ((os.length : Int) + arN os + obN o) ≤ 1048576
  · exact LArenaPut.small a n cap os o l d m w hx hn hf hy hso h
  · exact LArenaPut.big a n cap os o l d m w hx hn hm hf hy hso h
namespace ArenaPut
set_option maxRecDepth 100000 in
theorem lifted (os : Os) (started : os.Started) (H : Type) (enc : TypeId × Value → H) :
    ReturnsInHanded {} Try.checked os 3 .any (Rows.fnExactArenaPutSpec.pre6 enc Try.prog Try.f3 Rows.fnExactArenaPutRow.domain false) (Rows.fnExactArenaPutSpec.post enc Try.prog Try.f3 false true false false) := by
  refine returnsInHanded_of_change (C := Try.checked) own started (by kernel_rfl) Try.func3
    (ChangeSpec.witness6 (enc := enc) (C := Try.checked) false ⟨#[], #[.slice none 0 0, .agg #[.int .i64 0, .int .i64 0, .int .i64 0, .int .i64 0, .int .i64 0, .int .i64 0, .int .i64 0, .int .i64 0, .int .i64 0, .bool false, .slice none 0 0, .slice none 0 0, .slice none 0 0]], []⟩ 8 (by kernel_rfl) (by kernel_rfl) (by kernel_rfl) (by kernel_rfl)) ?_
  intro W base args ds gs before hval0 hW hcnd _
  have hval : ∀ (j : Nat) t v, Try.f3.params[j]? = some t → args[j]? = some v → Value.okWide Try.prog W .any base t v := hval0
  have hW' := hW
  obtain ⟨p, q, hA0, hV, rfl, hfz, hnd⟩ := hW
  have hA : DataW.TrodAll enc Try.prog W 0 (fun _ => true) true Try.f3.params.toList args.toList ds p := hA0
  rw [Try.params3] at hA hval
  obtain ⟨v0, vs0, d0, ds0, p0, q0, hargs, rfl, rfl, h0, r0⟩ := trodAll_cons hA
  obtain ⟨v1, vs1, d1, ds1, p1, q1, hargs1, rfl, rfl, h1, r1⟩ := trodAll_cons r0
  obtain ⟨rfl, rfl, rfl⟩ := trodAll_nil r1
  obtain rfl : args = #[v0, v1] := by cases args; simp_all
  obtain ⟨rfl, rfl⟩ := trodVars_none hV
  obtain ⟨a0, n0, c0, xs0, rfl, i0, e0, m0, g0⟩ := open_arena (hval 0 22 v0 rfl rfl) h0
  have k0 := h0
  have lt0 : ∀ x ∈ p0, x.block < W.heap.size := by obtain ⟨m, hm⟩ := k0; exact DataW.trod_lt m _ _ _ hm
  obtain ⟨o1, l1, u1, y1, rfl, i1, g1⟩ := open_ob (hval 1 26 v1 rfl rfl) h1
  have k1 := h1
  have lt1 : ∀ x ∈ p1, x.block < W.heap.size := by obtain ⟨m, hm⟩ := k1; exact DataW.trod_lt m _ _ _ hm
  clear hA0 hval0
  refine (walkArenaPut a0 n0 c0 xs0 o1 l1 u1 y1 W i0 e0 m0 g0 i1 g1).mono fun e W' ⟨he, bel⟩ => ?_
  subst he
  exact ⟨_, rfl, _, _, _, [], _, [], hW', trodAll_mk1 (shut_bool Try.underlying4 _), (trodAll_cons_mk (Below.trod laidOut (by kernel_rfl) (of_decide_eq_true (by kernel_rfl)) k0 bel lt0) (trodAll_cons_mk (Below.trod laidOut (by kernel_rfl) (of_decide_eq_true (by kernel_rfl)) k1 bel lt1) trodAll_mk0)), rfl, bel.frame _, fun h => by cases h⟩

theorem over : Rows.fnExactArenaPutRow.holds Try.pinned (OpenSpec.ofChange Rows.fnExactArenaPutSpec) :=
  OpenClaim.holds_of_wide 3 Try.f3 rfl rfl rfl rfl rfl rfl rfl ⟨rfl, rfl, rfl, rfl, rfl⟩ rfl rfl rfl rfl rfl (by kernel_rfl) Try.func3 (by kernel_rfl)
    (of_decide_eq_true (by kernel_rfl)) (by unfold Func.isWrapper; first | (rw [if_pos (by decide +kernel)]; kernel_rfl) | (rw [if_neg (by decide +kernel)]; exact ⟨rfl, rfl⟩))
    (fun os started H enc _ => lifted os started H enc)
end ArenaPut
theorem arenaPut_holds : Rows.FnExactArenaPutSaid := ArenaPut.over
#print axioms arenaPut_holds
end Go.Proofs.Ytglpfgachcoheaa
