/-
  The law of AmtAdd: the walk.
-/
import Derived.Test.YtiolhhamedjmgaaAns
namespace Go.Proofs.Ytiolhhamedjmgaa
open Go.RowKit
set_option linter.unusedVariables false

set_option maxRecDepth 100000 in
set_option maxHeartbeats 4000000 in
theorem coreAdd (a b c d e f x y z : Int) (o : Bool) (w : World) (CS : Hid (∀ w, Calls Try.prog 20 #[amt a b c, amt d e f] w fun r w' => r = .returned (.tuple #[amt x y z, .bool o]) ∧ Below w.heap.size w w')) (CI : Hid (∀ w, Calls Try.prog 11 #[amt a b c, amt d e f] w fun r w' => r = .returned (.tuple #[amt x y z, .bool o]) ∧ Below w.heap.size w w')) :
    Calls Try.prog 5 #[amt a b c, amt d e f] w fun e w' => e = .returned (.bool true) ∧ Below w.heap.size w w' := by
  have HE : Hid (∀ w, _) := fun w => eqAmt_same x y z w
  obtain ⟨W0, hW⟩ : ∃ W, W = ((w.alloc (.cells #[.int .i64 a, .int .i64 b, .int .i64 c] 36 (0, 0))).alloc (.cells #[.int .i64 d, .int .i64 e, .int .i64 f] 36 (0, 0))) := ⟨_, rfl⟩
  have HA : Hid (Args2 w a b c d e f W0) := by show Args2 _ _ _ _ _ _ _ _; rw [hW]; exact args2_start w a b c d e f
  go_enter Try.func5, Try.ntmps5
  go_wp2_with fail
  rw [← hW]
  clear hW
  refine wp_region_phase (by kernel_rfl) (by kernel_rfl) (by kernel_rfl) (by kernel_rfl) (Below W0.heap.size W0) (gAns W0.heap.size a b c d e f x y z o) ((Below.refl _ _).drew) ?_ ?_
  · refine ⟨?_, ?_, ?_, ?_, ?_, ?_, ?_, ?_, ?_, ?_, ?_, trivial⟩
    · intro b0 us w0 L hslot hoth hB hLi hG hcl hdo K hK
      have s : b0.tmps.getD 2 undef = .pointer (some ⟨w.heap.size, 0, none⟩) := hoth 2 (by rfl)
      have hx := HA.out.x.on hB (lt_of_block HA.out.x.at')
      have k0 := hx.c0
      have k1 := hx.c1
      have k2 := hx.c2
      clear hslot hoth hdo hcl hLi hx
      refine guard_none (by rfl) ?_
      go_simp
      exact hK _ _ hB rfl (fun j _ hj => gAns_on 0 (by omega) (Below.refl _ _) _ _ (hG j hj))
    · intro b0 us w0 L hslot hoth hB hLi hG hcl hdo K hK
      have s : b0.tmps.getD 10 undef = amt a b c := (hslot 0 10 (by rfl)).trans (hG 0 (done_at hdo 0 (by rfl)))
      clear hslot hoth hdo hcl hLi
      refine guard_none (by rfl) ?_
      have C := toAmt_any a b c w0
      go_simp
      refine C.mono ?_
      rintro r w' ⟨rfl, hb⟩
      exact hK _ _ (hB.trans (hb.mono hB.size)) rfl (fun j _ hj => gAns_on 1 (by omega) hb _ _ (hG j hj))
    · intro b0 us w0 L hslot hoth hB hLi hG hcl hdo K hK
      have s : b0.tmps.getD 3 undef = .pointer (some ⟨w.heap.size + 1, 0, none⟩) := hoth 3 (by rfl)
      have hx := HA.out.y.on hB (lt_of_block HA.out.y.at')
      have k0 := hx.c0
      have k1 := hx.c1
      have k2 := hx.c2
      clear hslot hoth hdo hcl hLi hx
      refine guard_none (by rfl) ?_
      go_simp
      exact hK _ _ hB rfl (fun j _ hj => gAns_on 2 (by omega) (Below.refl _ _) _ _ (hG j hj))
    · intro b0 us w0 L hslot hoth hB hLi hG hcl hdo K hK
      have s : b0.tmps.getD 12 undef = amt d e f := (hslot 2 12 (by rfl)).trans (hG 2 (done_at hdo 2 (by rfl)))
      clear hslot hoth hdo hcl hLi
      refine guard_none (by rfl) ?_
      have C := toAmt_any d e f w0
      go_simp
      refine C.mono ?_
      rintro r w' ⟨rfl, hb⟩
      exact hK _ _ (hB.trans (hb.mono hB.size)) rfl (fun j _ hj => gAns_on 3 (by omega) hb _ _ (hG j hj))
    · intro b0 us w0 L hslot hoth hB hLi hG hcl hdo K hK
      have s : b0.tmps.getD 11 undef = amt a b c := (hslot 1 11 (by rfl)).trans (hG 1 (done_at hdo 1 (by rfl)))
      have s' : b0.tmps.getD 13 undef = amt d e f := (hslot 3 13 (by rfl)).trans (hG 3 (done_at hdo 3 (by rfl)))
      clear hslot hoth hdo hcl hLi
      refine guard_none (by rfl) ?_
      have C := CS.out w0
      go_simp
      refine C.mono ?_
      rintro r w' ⟨rfl, hb⟩
      exact hK _ _ (hB.trans (hb.mono hB.size)) rfl (fun j _ hj => gAns_on 4 (by omega) hb _ _ (hG j hj))
    · intro b0 us w0 L hslot hoth hB hLi hG hcl hdo K hK
      have s : b0.tmps.getD 14 undef = .tuple #[amt x y z, .bool o] := (hslot 4 14 (by rfl)).trans (hG 4 (done_at hdo 4 (by rfl)))
      clear hslot hoth hdo hcl hLi
      refine guard_none (by rfl) ?_
      go_simp
      exact hK _ _ hB rfl (fun j _ hj => gAns_on 5 (by omega) (Below.refl _ _) _ _ (hG j hj))
    · intro b0 us w0 L hslot hoth hB hLi hG hcl hdo K hK
      have s : b0.tmps.getD 9 undef = .tuple #[amt x y z, .bool o] := (hslot 5 9 (by rfl)).trans (hG 5 (done_at hdo 5 (by rfl)))
      clear hslot hoth hdo hcl hLi
      refine guard_none (by rfl) ?_
      go_simp
      exact hK _ _ hB rfl (fun j _ hj => gAns_on 6 (by omega) (Below.refl _ _) _ _ (hG j hj))
    · intro b0 us w0 L hslot hoth hB hLi hG hcl hdo K hK
      have s : b0.tmps.getD 9 undef = .tuple #[amt x y z, .bool o] := (hslot 5 9 (by rfl)).trans (hG 5 (done_at hdo 5 (by rfl)))
      clear hslot hoth hdo hcl hLi
      refine guard_none (by rfl) ?_
      go_simp
      exact hK _ _ hB rfl (fun j _ hj => gAns_on 7 (by omega) (Below.refl _ _) _ _ (hG j hj))
    · intro b0 us w0 L hslot hoth hB hLi hG hcl hdo K hK
      have h9 : L 9 = false := by
        cases h : L 9 with
        | false => rfl
        | true => rw [done_at (hcl 9 _ rfl h) 8 (by rfl)] at hLi; cases hLi
      clear hslot hoth hdo hcl hLi
      refine guard_none (by rfl) ?_
      go_simp
      exact hK _ _ (hB.alloc hB.size _) ⟨w0.heap.size, 0, 0, 0, rfl, hB.size, ⟨heap_alloc_new w0 _⟩, fun h => by rw [markd_other L (by omega), h9] at h; cases h⟩ (fun j _ hj => gAns_on 8 (by omega) ((Below.refl _ _).alloc (Nat.le_refl _) _) _ _ (hG j hj))
    · intro b0 us w0 L hslot hoth hB hLi hG hcl hdo K hK
      obtain ⟨g, p, q, r, hu, hge, hbx, _⟩ := hG 8 (done_at hdo 8 (by rfl))
      have s : b0.tmps.getD 5 undef = .pointer (some ⟨g, 0, none⟩) := (hslot 8 5 (by rfl)).trans hu
      have s' : b0.tmps.getD 15 undef = amt x y z := (hslot 6 15 (by rfl)).trans (hG 6 (done_at hdo 6 (by rfl)))
      have k0 := hbx.c0
      have k1 := hbx.c1
      have k2 := hbx.c2
      have f0 := hbx.f0 0
      have f1 := hbx.f0 1
      have f2 := hbx.f0 2
      clear hslot hoth hdo hcl hLi
      refine guard_none (by rfl) ?_
      go_simp
      refine hK undef _ (((hB.setCell hge _).setCell hge _).setCell hge _) trivial ?_
      intro j hj hLj
      have := hG j hLj
      match j, hj, hLj, this with
      | 0, _, _, h => exact h
      | 1, _, _, h => exact h
      | 2, _, _, h => exact h
      | 3, _, _, h => exact h
      | 4, _, _, h => exact h
      | 5, _, _, h => exact h
      | 6, _, _, h => exact h
      | 7, _, _, h => exact h
      | 8, _, _, _ => exact ⟨g, x, y, z, hu, hge, hbx.w3 x y z, fun _ => ⟨rfl, rfl, rfl⟩⟩
      | 10, _, _, h => exact h
      | _ + 11, _, _, _ => trivial
    · intro b0 us w0 L hslot hoth hB hLi hG hcl hdo K hK
      have s : b0.tmps.getD 16 undef = .bool o := (hslot 7 16 (by rfl)).trans (hG 7 (done_at hdo 7 (by rfl)))
      clear hslot hoth hdo hcl hLi
      refine guard_none (by rfl) ?_
      go_simp
      exact hK _ _ hB rfl (fun j _ hj => gAns_on 10 (by omega) (Below.refl _ _) _ _ (hG j hj))
  intro us V1 L hall hB hG a' ha'
  have v0 : us 0 = _ := hG 0 (by decide)
  have v1 : us 1 = _ := hG 1 (by decide)
  have v2 : us 2 = _ := hG 2 (by decide)
  have v3 : us 3 = _ := hG 3 (by decide)
  have v4 : us 4 = _ := hG 4 (by decide)
  have v5 : us 5 = _ := hG 5 (by decide)
  have v6 : us 6 = _ := hG 6 (by decide)
  have v7 : us 7 = _ := hG 7 (by decide)
  obtain ⟨g1, p, q, r, v8, hge, hbx, hp⟩ := hG 8 (by decide)
  have v10 : us 10 = _ := hG 10 (by decide)
  obtain ⟨e1, e2, e3⟩ := hp (hall 9 (by decide))
  rw [e1, e2, e3] at hbx
  have HV1 : Hid (Args2 w a b c d e f V1) := HA.out.on hB
  have Bg1 : Hid (Box3 V1 g1 25 x y z) := hbx
  have KV1 : Hid (Below W0.heap.size W0 V1) := hB
  simp only [putAll, v0, v1, v2, v3, v4, v5, v6, v7, v8, v10] at ha'
  clear hG hall hp hbx e1 e2 e3 v0 v1 v2 v3 v4 v5 v6 v7 v8 v10 hge hB p q r HA
  subst ha'
  go_frame
  clear KV1
  go_wp2_with fail
  refine wp_region_phase (by kernel_rfl) (by kernel_rfl) (by kernel_rfl) (by kernel_rfl) (Below V1.heap.size V1) (gAns V1.heap.size a b c d e f x y z o) ((Below.refl _ _).drew) ?_ ?_
  · refine ⟨?_, ?_, ?_, ?_, ?_, ?_, ?_, ?_, ?_, ?_, ?_, trivial⟩
    · intro b0 us w0 L hslot hoth hB hLi hG hcl hdo K hK
      have s : b0.tmps.getD 2 undef = .pointer (some ⟨w.heap.size, 0, none⟩) := hoth 2 (by rfl)
      have hx := HV1.out.x.on hB (lt_of_block HV1.out.x.at')
      have k0 := hx.c0
      have k1 := hx.c1
      have k2 := hx.c2
      clear hslot hoth hdo hcl hLi hx
      refine guard_none (by rfl) ?_
      go_simp
      exact hK _ _ hB rfl (fun j _ hj => gAns_on 0 (by omega) (Below.refl _ _) _ _ (hG j hj))
    · intro b0 us w0 L hslot hoth hB hLi hG hcl hdo K hK
      have s : b0.tmps.getD 18 undef = amt a b c := (hslot 0 18 (by rfl)).trans (hG 0 (done_at hdo 0 (by rfl)))
      clear hslot hoth hdo hcl hLi
      refine guard_none (by rfl) ?_
      have C := toAmt_any a b c w0
      go_simp
      refine C.mono ?_
      rintro r w' ⟨rfl, hb⟩
      exact hK _ _ (hB.trans (hb.mono hB.size)) rfl (fun j _ hj => gAns_on 1 (by omega) hb _ _ (hG j hj))
    · intro b0 us w0 L hslot hoth hB hLi hG hcl hdo K hK
      have s : b0.tmps.getD 3 undef = .pointer (some ⟨w.heap.size + 1, 0, none⟩) := hoth 3 (by rfl)
      have hx := HV1.out.y.on hB (lt_of_block HV1.out.y.at')
      have k0 := hx.c0
      have k1 := hx.c1
      have k2 := hx.c2
      clear hslot hoth hdo hcl hLi hx
      refine guard_none (by rfl) ?_
      go_simp
      exact hK _ _ hB rfl (fun j _ hj => gAns_on 2 (by omega) (Below.refl _ _) _ _ (hG j hj))
    · intro b0 us w0 L hslot hoth hB hLi hG hcl hdo K hK
      have s : b0.tmps.getD 20 undef = amt d e f := (hslot 2 20 (by rfl)).trans (hG 2 (done_at hdo 2 (by rfl)))
      clear hslot hoth hdo hcl hLi
      refine guard_none (by rfl) ?_
      have C := toAmt_any d e f w0
      go_simp
      refine C.mono ?_
      rintro r w' ⟨rfl, hb⟩
      exact hK _ _ (hB.trans (hb.mono hB.size)) rfl (fun j _ hj => gAns_on 3 (by omega) hb _ _ (hG j hj))
    · intro b0 us w0 L hslot hoth hB hLi hG hcl hdo K hK
      have s : b0.tmps.getD 19 undef = amt a b c := (hslot 1 19 (by rfl)).trans (hG 1 (done_at hdo 1 (by rfl)))
      have s' : b0.tmps.getD 21 undef = amt d e f := (hslot 3 21 (by rfl)).trans (hG 3 (done_at hdo 3 (by rfl)))
      clear hslot hoth hdo hcl hLi
      refine guard_none (by rfl) ?_
      have C := CI.out w0
      go_simp
      refine C.mono ?_
      rintro r w' ⟨rfl, hb⟩
      exact hK _ _ (hB.trans (hb.mono hB.size)) rfl (fun j _ hj => gAns_on 4 (by omega) hb _ _ (hG j hj))
    · intro b0 us w0 L hslot hoth hB hLi hG hcl hdo K hK
      have s : b0.tmps.getD 22 undef = .tuple #[amt x y z, .bool o] := (hslot 4 22 (by rfl)).trans (hG 4 (done_at hdo 4 (by rfl)))
      clear hslot hoth hdo hcl hLi
      refine guard_none (by rfl) ?_
      go_simp
      exact hK _ _ hB rfl (fun j _ hj => gAns_on 5 (by omega) (Below.refl _ _) _ _ (hG j hj))
    · intro b0 us w0 L hslot hoth hB hLi hG hcl hdo K hK
      have s : b0.tmps.getD 17 undef = .tuple #[amt x y z, .bool o] := (hslot 5 17 (by rfl)).trans (hG 5 (done_at hdo 5 (by rfl)))
      clear hslot hoth hdo hcl hLi
      refine guard_none (by rfl) ?_
      go_simp
      exact hK _ _ hB rfl (fun j _ hj => gAns_on 6 (by omega) (Below.refl _ _) _ _ (hG j hj))
    · intro b0 us w0 L hslot hoth hB hLi hG hcl hdo K hK
      have s : b0.tmps.getD 17 undef = .tuple #[amt x y z, .bool o] := (hslot 5 17 (by rfl)).trans (hG 5 (done_at hdo 5 (by rfl)))
      clear hslot hoth hdo hcl hLi
      refine guard_none (by rfl) ?_
      go_simp
      exact hK _ _ hB rfl (fun j _ hj => gAns_on 7 (by omega) (Below.refl _ _) _ _ (hG j hj))
    · intro b0 us w0 L hslot hoth hB hLi hG hcl hdo K hK
      have h9 : L 9 = false := by
        cases h : L 9 with
        | false => rfl
        | true => rw [done_at (hcl 9 _ rfl h) 8 (by rfl)] at hLi; cases hLi
      clear hslot hoth hdo hcl hLi
      refine guard_none (by rfl) ?_
      go_simp
      exact hK _ _ (hB.alloc hB.size _) ⟨w0.heap.size, 0, 0, 0, rfl, hB.size, ⟨heap_alloc_new w0 _⟩, fun h => by rw [markd_other L (by omega), h9] at h; cases h⟩ (fun j _ hj => gAns_on 8 (by omega) ((Below.refl _ _).alloc (Nat.le_refl _) _) _ _ (hG j hj))
    · intro b0 us w0 L hslot hoth hB hLi hG hcl hdo K hK
      obtain ⟨g, p, q, r, hu, hge, hbx, _⟩ := hG 8 (done_at hdo 8 (by rfl))
      have s : b0.tmps.getD 7 undef = .pointer (some ⟨g, 0, none⟩) := (hslot 8 7 (by rfl)).trans hu
      have s' : b0.tmps.getD 23 undef = amt x y z := (hslot 6 23 (by rfl)).trans (hG 6 (done_at hdo 6 (by rfl)))
      have k0 := hbx.c0
      have k1 := hbx.c1
      have k2 := hbx.c2
      have f0 := hbx.f0 0
      have f1 := hbx.f0 1
      have f2 := hbx.f0 2
      clear hslot hoth hdo hcl hLi
      refine guard_none (by rfl) ?_
      go_simp
      refine hK undef _ (((hB.setCell hge _).setCell hge _).setCell hge _) trivial ?_
      intro j hj hLj
      have := hG j hLj
      match j, hj, hLj, this with
      | 0, _, _, h => exact h
      | 1, _, _, h => exact h
      | 2, _, _, h => exact h
      | 3, _, _, h => exact h
      | 4, _, _, h => exact h
      | 5, _, _, h => exact h
      | 6, _, _, h => exact h
      | 7, _, _, h => exact h
      | 8, _, _, _ => exact ⟨g, x, y, z, hu, hge, hbx.w3 x y z, fun _ => ⟨rfl, rfl, rfl⟩⟩
      | 10, _, _, h => exact h
      | _ + 11, _, _, _ => trivial
    · intro b0 us w0 L hslot hoth hB hLi hG hcl hdo K hK
      have s : b0.tmps.getD 24 undef = .bool o := (hslot 7 24 (by rfl)).trans (hG 7 (done_at hdo 7 (by rfl)))
      clear hslot hoth hdo hcl hLi
      refine guard_none (by rfl) ?_
      go_simp
      exact hK _ _ hB rfl (fun j _ hj => gAns_on 10 (by omega) (Below.refl _ _) _ _ (hG j hj))
  intro us V2 L hall hB hG a' ha'
  have v0 : us 0 = _ := hG 0 (by decide)
  have v1 : us 1 = _ := hG 1 (by decide)
  have v2 : us 2 = _ := hG 2 (by decide)
  have v3 : us 3 = _ := hG 3 (by decide)
  have v4 : us 4 = _ := hG 4 (by decide)
  have v5 : us 5 = _ := hG 5 (by decide)
  have v6 : us 6 = _ := hG 6 (by decide)
  have v7 : us 7 = _ := hG 7 (by decide)
  obtain ⟨g2, p, q, r, v8, hge, hbx, hp⟩ := hG 8 (by decide)
  have v10 : us 10 = _ := hG 10 (by decide)
  obtain ⟨e1, e2, e3⟩ := hp (hall 9 (by decide))
  rw [e1, e2, e3] at hbx
  have HV2 : Hid (Args2 w a b c d e f V2) := HV1.out.on hB
  have Bg2 : Hid (Box3 V2 g2 25 x y z) := hbx
  have KV2 : Hid (Below V1.heap.size V1 V2) := hB
  simp only [putAll, v0, v1, v2, v3, v4, v5, v6, v7, v8, v10] at ha'
  clear hG hall hp hbx e1 e2 e3 v0 v1 v2 v3 v4 v5 v6 v7 v8 v10 hge hB p q r HV1
  subst ha'
  go_frame
  have Bg : Hid (Box3 V2 g1 25 x y z) := Bg1.out.on KV2.out (lt_of_block Bg1.out.at')
  have k0 := Bg.out.c0
  have k1 := Bg.out.c1
  have k2 := Bg.out.c2
  have l0 := Bg2.out.c0
  have l1 := Bg2.out.c1
  have l2 := Bg2.out.c2
  clear Bg Bg1 Bg2 KV2
  go_wp2_with fail
  refine (HE.out _).mono ?_
  rintro r w9 ⟨rfl, hb⟩
  have HB : Hid (Below w.heap.size w w9) := HV2.out.below.trans (hb.mono HV2.out.below.size)
  clear hb HV2 k0 k1 k2 l0 l1 l2
  have hne : (o != o) = false := by simp
  go_wp2
  go_ret
  exact ⟨rfl, HB.out⟩
theorem walkAdd (a b c d e f : Int) (w : World) : Calls Try.prog 5 #[amt a b c, amt d e f] w fun e w' => e = .returned (.bool true) ∧ Below w.heap.size w w' := by
  cases h : addOk a b c d e f with
  | false => exact coreAdd a b c d e f _ _ _ _ w (fun w => specAdd_no a b c d e f w h) (fun w => implAdd_no a b c d e f w h)
  | true => exact coreAdd a b c d e f _ _ _ _ w (fun w => specAdd_yes a b c d e f w h) (fun w => implAdd_yes a b c d e f w h)
end Go.Proofs.Ytiolhhamedjmgaa
