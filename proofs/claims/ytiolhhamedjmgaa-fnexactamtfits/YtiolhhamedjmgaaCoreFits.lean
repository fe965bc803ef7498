/-
  The law of AmtFits: the walk.
-/
import Derived.Test.YtiolhhamedjmgaaAns
namespace Go.Proofs.Ytiolhhamedjmgaa
open Go.RowKit
set_option linter.unusedVariables false

theorem gFit_any {a b c d e f : Int} {o : Bool} {w w' : World} : ∀ j u, gFit a b c d e f o j u w → gFit a b c d e f o j u w'
  | 0, _, h => h
  | 1, _, h => h
  | 2, _, h => h
  | 3, _, h => h
  | _ + 4, _, h => h
set_option maxRecDepth 100000 in
set_option maxHeartbeats 4000000 in
theorem coreFits (a b c d e f : Int) (o : Bool) (w : World) (CS : Hid (∀ w, Calls Try.prog 23 #[amt a b c, amt d e f] w fun r w' => r = .returned (.bool o) ∧ Below w.heap.size w w')) (CI : Hid (∀ w, Calls Try.prog 13 #[amt a b c, amt d e f] w fun r w' => r = .returned (.bool o) ∧ Below w.heap.size w w')) :
    Calls Try.prog 7 #[amt a b c, amt d e f] w fun e w' => e = .returned (.bool true) ∧ Below w.heap.size w w' := by
  obtain ⟨W0, hW⟩ : ∃ W, W = ((w.alloc (.cells #[.int .i64 a, .int .i64 b, .int .i64 c] 36 (0, 0))).alloc (.cells #[.int .i64 d, .int .i64 e, .int .i64 f] 36 (0, 0))) := ⟨_, rfl⟩
  have HA : Hid (Args2 w a b c d e f W0) := by show Args2 _ _ _ _ _ _ _ _; rw [hW]; exact args2_start w a b c d e f
  have hne : (o != o) = false := by simp
  go_enter Try.func7, Try.ntmps7
  go_wp2_with fail
  rw [← hW]
  clear hW
  refine wp_region_shut (by kernel_rfl) (by kernel_rfl) (by kernel_rfl) (by kernel_rfl) (Below W0.heap.size W0) (gFit a b c d e f o) ((Below.refl _ _).drew) ?_ ?_
  · refine ⟨?_, ?_, ?_, ?_, ?_, ?_, trivial⟩
    · intro b0 us w0 hslot hoth hB hdeps K hK
      have s : b0.tmps.getD 2 undef = .pointer (some ⟨w.heap.size, 0, none⟩) := hoth 2 (by rfl)
      have hx := HA.out.x.on hB (lt_of_block HA.out.x.at')
      have k0 := hx.c0
      have k1 := hx.c1
      have k2 := hx.c2
      clear hslot hoth hdeps hx
      refine guard_none (by rfl) ?_
      go_simp
      exact hK _ _ hB (fun _ _ h => h) rfl
    · intro b0 us w0 hslot hoth hB hdeps K hK
      have s : b0.tmps.getD 7 undef = amt a b c := (hslot 0 7 (by rfl)).trans (deps_at hdeps 0 (by rfl))
      clear hslot hoth hdeps
      refine guard_none (by rfl) ?_
      have C := toAmt_any a b c w0
      go_simp
      refine C.mono ?_
      rintro r w' ⟨rfl, hb⟩
      exact hK _ _ (hB.trans (hb.mono hB.size)) gFit_any rfl
    · intro b0 us w0 hslot hoth hB hdeps K hK
      have s : b0.tmps.getD 3 undef = .pointer (some ⟨w.heap.size + 1, 0, none⟩) := hoth 3 (by rfl)
      have hx := HA.out.y.on hB (lt_of_block HA.out.y.at')
      have k0 := hx.c0
      have k1 := hx.c1
      have k2 := hx.c2
      clear hslot hoth hdeps hx
      refine guard_none (by rfl) ?_
      go_simp
      exact hK _ _ hB (fun _ _ h => h) rfl
    · intro b0 us w0 hslot hoth hB hdeps K hK
      have s : b0.tmps.getD 9 undef = amt d e f := (hslot 2 9 (by rfl)).trans (deps_at hdeps 2 (by rfl))
      clear hslot hoth hdeps
      refine guard_none (by rfl) ?_
      have C := toAmt_any d e f w0
      go_simp
      refine C.mono ?_
      rintro r w' ⟨rfl, hb⟩
      exact hK _ _ (hB.trans (hb.mono hB.size)) gFit_any rfl
    · intro b0 us w0 hslot hoth hB hdeps K hK
      have s : b0.tmps.getD 8 undef = amt a b c := (hslot 1 8 (by rfl)).trans (deps_at hdeps 1 (by rfl))
      have s' : b0.tmps.getD 10 undef = amt d e f := (hslot 3 10 (by rfl)).trans (deps_at hdeps 3 (by rfl))
      clear hslot hoth hdeps
      refine guard_none (by rfl) ?_
      have C := CS.out w0
      go_simp
      refine C.mono ?_
      rintro r w' ⟨rfl, hb⟩
      exact hK _ _ (hB.trans (hb.mono hB.size)) gFit_any rfl
    · intro b0 us w0 hslot hoth hB hdeps K hK
      have s : b0.tmps.getD 11 undef = .bool o := (hslot 4 11 (by rfl)).trans (deps_at hdeps 4 (by rfl))
      clear hslot hoth hdeps
      refine guard_none (by rfl) ?_
      go_simp
      exact hK _ _ hB (fun _ _ h => h) rfl
  intro us V1 hB hG a' ha'
  have v0 : us 0 = _ := hG 0 (by decide)
  have v1 : us 1 = _ := hG 1 (by decide)
  have v2 : us 2 = _ := hG 2 (by decide)
  have v3 : us 3 = _ := hG 3 (by decide)
  have v4 : us 4 = _ := hG 4 (by decide)
  have v5 : us 5 = _ := hG 5 (by decide)
  have HV1 : Hid (Args2 w a b c d e f V1) := HA.out.on hB
  simp only [putAll, v0, v1, v2, v3, v4, v5] at ha'
  clear hG v0 v1 v2 v3 v4 v5 hB HA
  subst ha'
  go_frame
  go_wp2_with fail
  refine wp_region_shut (by kernel_rfl) (by kernel_rfl) (by kernel_rfl) (by kernel_rfl) (Below V1.heap.size V1) (gFit a b c d e f o) ((Below.refl _ _).drew) ?_ ?_
  · refine ⟨?_, ?_, ?_, ?_, ?_, ?_, trivial⟩
    · intro b0 us w0 hslot hoth hB hdeps K hK
      have s : b0.tmps.getD 2 undef = .pointer (some ⟨w.heap.size, 0, none⟩) := hoth 2 (by rfl)
      have hx := HV1.out.x.on hB (lt_of_block HV1.out.x.at')
      have k0 := hx.c0
      have k1 := hx.c1
      have k2 := hx.c2
      clear hslot hoth hdeps hx
      refine guard_none (by rfl) ?_
      go_simp
      exact hK _ _ hB (fun _ _ h => h) rfl
    · intro b0 us w0 hslot hoth hB hdeps K hK
      have s : b0.tmps.getD 12 undef = amt a b c := (hslot 0 12 (by rfl)).trans (deps_at hdeps 0 (by rfl))
      clear hslot hoth hdeps
      refine guard_none (by rfl) ?_
      have C := toAmt_any a b c w0
      go_simp
      refine C.mono ?_
      rintro r w' ⟨rfl, hb⟩
      exact hK _ _ (hB.trans (hb.mono hB.size)) gFit_any rfl
    · intro b0 us w0 hslot hoth hB hdeps K hK
      have s : b0.tmps.getD 3 undef = .pointer (some ⟨w.heap.size + 1, 0, none⟩) := hoth 3 (by rfl)
      have hx := HV1.out.y.on hB (lt_of_block HV1.out.y.at')
      have k0 := hx.c0
      have k1 := hx.c1
      have k2 := hx.c2
      clear hslot hoth hdeps hx
      refine guard_none (by rfl) ?_
      go_simp
      exact hK _ _ hB (fun _ _ h => h) rfl
    · intro b0 us w0 hslot hoth hB hdeps K hK
      have s : b0.tmps.getD 14 undef = amt d e f := (hslot 2 14 (by rfl)).trans (deps_at hdeps 2 (by rfl))
      clear hslot hoth hdeps
      refine guard_none (by rfl) ?_
      have C := toAmt_any d e f w0
      go_simp
      refine C.mono ?_
      rintro r w' ⟨rfl, hb⟩
      exact hK _ _ (hB.trans (hb.mono hB.size)) gFit_any rfl
    · intro b0 us w0 hslot hoth hB hdeps K hK
      have s : b0.tmps.getD 13 undef = amt a b c := (hslot 1 13 (by rfl)).trans (deps_at hdeps 1 (by rfl))
      have s' : b0.tmps.getD 15 undef = amt d e f := (hslot 3 15 (by rfl)).trans (deps_at hdeps 3 (by rfl))
      clear hslot hoth hdeps
      refine guard_none (by rfl) ?_
      have C := CI.out w0
      go_simp
      refine C.mono ?_
      rintro r w' ⟨rfl, hb⟩
      exact hK _ _ (hB.trans (hb.mono hB.size)) gFit_any rfl
    · intro b0 us w0 hslot hoth hB hdeps K hK
      have s : b0.tmps.getD 16 undef = .bool o := (hslot 4 16 (by rfl)).trans (deps_at hdeps 4 (by rfl))
      clear hslot hoth hdeps
      refine guard_none (by rfl) ?_
      go_simp
      exact hK _ _ hB (fun _ _ h => h) rfl
  intro us V2 hB hG a' ha'
  have v0 : us 0 = _ := hG 0 (by decide)
  have v1 : us 1 = _ := hG 1 (by decide)
  have v2 : us 2 = _ := hG 2 (by decide)
  have v3 : us 3 = _ := hG 3 (by decide)
  have v4 : us 4 = _ := hG 4 (by decide)
  have v5 : us 5 = _ := hG 5 (by decide)
  have HV2 : Hid (Args2 w a b c d e f V2) := HV1.out.on hB
  simp only [putAll, v0, v1, v2, v3, v4, v5] at ha'
  clear hG v0 v1 v2 v3 v4 v5 hB HV1
  subst ha'
  go_frame
  go_wp2
  go_ret
  exact ⟨rfl, HV2.out.below⟩
theorem walkFits (a b c d e f : Int) (w : World) : Calls Try.prog 7 #[amt a b c, amt d e f] w fun e w' => e = .returned (.bool true) ∧ Below w.heap.size w w' :=
  coreFits a b c d e f _ w (fun w => specFits_any a b c d e f w) (fun w => implFits_any a b c d e f w)
end Go.Proofs.Ytiolhhamedjmgaa
