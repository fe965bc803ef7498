/-
  The law of promise 3: the walk.
-/
import Derived.Test.YtpdhlnnepgkmkaaMathLabels
import Derived.Test.YtpdhlnnepgkmkaaFresh
import Derived.Test.YtpdhlnnepgkmkaaISame
import Derived.Test.YtpdhlnnepgkmkaaIFlows
import Derived.Test.YtpdhlnnepgkmkaaILate
import Derived.Test.YtpdhlnnepgkmkaaKeep2
namespace Go.Proofs.Ytpdhlnnepgkmkaa
open Go.RowKit
set_option linter.unusedVariables false

/-- Two drawn labels laid in boxes. -/
theorem lab_two {w1 : World} {r1 r2 : Value} {xs ys : List Int} (h1 : IsInts w1 r1 xs) (h2 : IsInts w1 r2 ys) :
    Lab w1.heap.size r1 xs ((w1.alloc (.cells #[r1] 26 (0, 0))).alloc (.cells #[r2] 26 (0, 0))) ∧ Lab (w1.heap.size + 1) r2 ys ((w1.alloc (.cells #[r1] 26 (0, 0))).alloc (.cells #[r2] 26 (0, 0))) := by
  refine ⟨(lab_new h1).on (below_alloc _ _), ?_⟩
  have h := lab_new (wr := w1.alloc (.cells #[r1] 26 (0, 0))) (h2.on (below_alloc _ _))
  rw [show (w1.alloc (.cells #[r1] 26 (0, 0))).heap.size = w1.heap.size + 1 by simp] at h
  exact h

/-- Five labels in boxes: two, a third, the join and the meet of the two. -/
structure Five (w : World) (bA bB bC bJ bM : Nat) (vA vB vC vJ vM : Value) (xs ys zs : List Int) (wr : World) : Prop where
  A : Lab bA vA xs wr
  B : Lab bB vB ys wr
  C : Lab bC vC zs wr
  J : Lab bJ vJ (joinOf xs ys) wr
  M : Lab bM vM (meetOf xs ys) wr
  below : Below w.heap.size w wr
theorem Five.on {w : World} {bA bB bC bJ bM : Nat} {vA vB vC vJ vM : Value} {xs ys zs : List Int} {wr w' : World} (h : Five w bA bB bC bJ bM vA vB vC vJ vM xs ys zs wr) (hb : Below wr.heap.size wr w') : Five w bA bB bC bJ bM vA vB vC vJ vM xs ys zs w' :=
  ⟨h.A.on hb, h.B.on hb, h.C.on hb, h.J.on hb, h.M.on hb, h.below.trans (hb.mono h.below.size)⟩
theorem Five.drew {w : World} {bA bB bC bJ bM : Nat} {vA vB vC vJ vM : Value} {xs ys zs : List Int} {wr : World} (h : Five w bA bB bC bJ bM vA vB vC vJ vM xs ys zs wr) : Five w bA bB bC bJ bM vA vB vC vJ vM xs ys zs wr.drew := h.on (below_draw wr)

structure Six (w : World) (bA bB bC bJ bM bR : Nat) (vA vB vC vJ vM vR : Value) (xs ys zs : List Int) (wr : World) : Prop where
  A : Lab bA vA xs wr
  B : Lab bB vB ys wr
  C : Lab bC vC zs wr
  J : Lab bJ vJ (joinOf xs ys) wr
  M : Lab bM vM (meetOf xs ys) wr
  R : Lab bR vR xs wr
  below : Below w.heap.size w wr
theorem Six.on {w : World} {bA bB bC bJ bM bR : Nat} {vA vB vC vJ vM vR : Value} {xs ys zs : List Int} {wr w' : World} (h : Six w bA bB bC bJ bM bR vA vB vC vJ vM vR xs ys zs wr) (hb : Below wr.heap.size wr w') : Six w bA bB bC bJ bM bR vA vB vC vJ vM vR xs ys zs w' :=
  ⟨h.A.on hb, h.B.on hb, h.C.on hb, h.J.on hb, h.M.on hb, h.R.on hb, h.below.trans (hb.mono h.below.size)⟩
theorem Six.drew {w : World} {bA bB bC bJ bM bR : Nat} {vA vB vC vJ vM vR : Value} {xs ys zs : List Int} {wr : World} (h : Six w bA bB bC bJ bM bR vA vB vC vJ vM vR xs ys zs wr) : Six w bA bB bC bJ bM bR vA vB vC vJ vM vR xs ys zs wr.drew := h.on (below_draw wr)

/-- What an operation leaves: a value, or a label's new row; nothing where it was not wanted. -/
structure Pr where
  on : Bool
  v : Value
  xs : Option (List Int)
def Pr.val (on : Bool) (v : Value) : Pr := ⟨on, v, none⟩
def Pr.lab (on : Bool) (xs : List Int) : Pr := ⟨on, undef, some xs⟩
def gOne (p : Pr) (u : Value) (w : World) : Prop :=
  match p.xs with
  | none => u = cond p.on p.v undef
  | some xs => cond p.on (∃ r, u = .agg #[r] ∧ IsInts w r xs) (u = undef)
def gPr (l : List Pr) (j : Nat) (u : Value) (w : World) : Prop :=
  match l[j]? with
  | some p => gOne p u w
  | none => True
theorem gPr_on {l : List Pr} {w w' : World} (hb : Below w.heap.size w w') : ∀ j u, gPr l j u w → gPr l j u w' := by
  intro j u h
  unfold gPr at h ⊢
  cases hl : l[j]? with
  | none => trivial
  | some p =>
    rw [hl] at h
    obtain ⟨on, v, xs⟩ := p
    cases xs with
    | none => exact h
    | some xs =>
      cases on with
      | false => exact h
      | true =>
        obtain ⟨r, h1, h2⟩ := h
        exact ⟨r, h1, h2.on hb⟩
theorem same_self (xs : List Int) : sameInts xs xs = true := by exact sameInts_refl xs
theorem right_len {xs : List Int} (h : Right xs) : xs.length ≤ 1048576 := by
  obtain ⟨a, b, c, d, rfl, _⟩ := h
  simp

set_option maxRecDepth 100000 in
set_option maxHeartbeats 8000000 in
theorem lawLabels_small (w : World) (a : Option Addr) (len cap : Nat) (cb : Nat → Nat) (hc : Code0 w a len cb) :
    Calls Try.prog 3 #[.slice a len cap] w fun e w' => e = .returned (.bool true) ∧ Below w.heap.size w w' := by
  have C0 := big_no w a len cap (by have := hc.small; omega)
  have C1 := drawFlows_any w a len cap cb hc
  have CF : Hid (∀ w', Below w.heap.size w w' → _) := fun w' hb => fresh_any w' a len cap cb (hc.on hb)
  clear hc
  go_enter Try.func3, Try.ntmps3
  go_wp2_with fail
  refine C0.mono ?_
  rintro e w0 ⟨rfl, rfl⟩
  clear C0
  go_wp2_with fail
  refine C1.mono ?_
  rintro e w1 ⟨r1, r2, rfl, xs, ys, hx5, hy5, o1, o2, hb1⟩
  clear C1
  obtain ⟨hA, hB⟩ := lab_two (isInts_own o1) (isInts_own o2)
  have HA1 : Hid (Lab w1.heap.size r1 xs ((w1.alloc (.cells #[r1] 26 (0, 0))).alloc (.cells #[r2] 26 (0, 0)))) := hA
  have HB1 : Hid (Lab (w1.heap.size + 1) r2 ys ((w1.alloc (.cells #[r1] 26 (0, 0))).alloc (.cells #[r2] 26 (0, 0)))) := hB
  have HW1 : Hid (Below w.heap.size w ((w1.alloc (.cells #[r1] 26 (0, 0))).alloc (.cells #[r2] 26 (0, 0)))) := (hb1.trans ((below_alloc w1 _).mono hb1.size)).trans ((below_alloc _ _).mono (by have := hb1.size; simp; omega))
  have Hx5 : Hid (xs.length ≤ 5 ∧ ys.length ≤ 5) := ⟨hx5, hy5⟩
  obtain ⟨a1, n1, c1, rfl⟩ := own_shape o1
  obtain ⟨a2, n2, c2, rfl⟩ := own_shape o2
  clear hx5 hy5 o1 o2 hb1 hA hB
  go_wp2_with fail
  refine (CF.out _ HW1.out).mono ?_
  rintro e w2 ⟨v, l, rfl, hl, hl0, hown, hb2⟩
  clear CF
  have HA2 : Hid (Lab w1.heap.size (.slice a1 n1 c1) xs w2) := HA1.out.on hb2
  have HB2 : Hid (Lab (w1.heap.size + 1) (.slice a2 n2 c2) ys w2) := HB1.out.on hb2
  have HW2 : Hid (Below w.heap.size w w2) := HW1.out.trans (hb2.mono HW1.out.size)
  obtain ⟨b, n, c, rfl⟩ : ∃ b n c, v = .slice (some ⟨b, 0, none⟩) n c := by
    rcases hown.2 with ⟨_, h0⟩ | ⟨g, cap, cur, hv, _⟩
    · omega
    · exact ⟨_, _, _, hv⟩
  have C2 := drawJoin_any w2 (some ⟨b, 0, none⟩) n c _ (code_own hown (by omega)).2
  clear hown hb2 hl hl0 HA1 HB1 HW1
  go_wp2_with fail
  refine C2.mono ?_
  rintro e w3 ⟨r3, r4, rfl, zs, zs', hz5, _, o3, o4, hb3⟩
  clear C2
  obtain ⟨hC, hD⟩ := lab_two (isInts_own o3) (isInts_own o4)
  have HC3 : Hid (Lab w3.heap.size r3 zs ((w3.alloc (.cells #[r3] 26 (0, 0))).alloc (.cells #[r4] 26 (0, 0)))) := hC
  have HA3 : Hid (Lab w1.heap.size (.slice a1 n1 c1) xs ((w3.alloc (.cells #[r3] 26 (0, 0))).alloc (.cells #[r4] 26 (0, 0)))) := ((HA2.out.on hb3).on (below_alloc _ _)).on (below_alloc _ _)
  have HB3 : Hid (Lab (w1.heap.size + 1) (.slice a2 n2 c2) ys ((w3.alloc (.cells #[r3] 26 (0, 0))).alloc (.cells #[r4] 26 (0, 0)))) := ((HB2.out.on hb3).on (below_alloc _ _)).on (below_alloc _ _)
  have h30 : Below w.heap.size w w3 := HW2.out.trans (hb3.mono HW2.out.size)
  have HW3 : Hid (Below w.heap.size w ((w3.alloc (.cells #[r3] 26 (0, 0))).alloc (.cells #[r4] 26 (0, 0)))) := (h30.trans ((below_alloc w3 _).mono h30.size)).trans ((below_alloc _ _).mono (by have := h30.size; simp; omega))
  have k3 : w3.cell? ⟨w1.heap.size, 0, none⟩ = some (.slice a1 n1 c1) := (HA2.out.on hb3).cell
  have j3 : w3.cell? ⟨w1.heap.size + 1, 0, none⟩ = some (.slice a2 n2 c2) := (HB2.out.on hb3).cell
  have t3 : w1.heap.size < w3.heap.size := World.block_lt_of_cell? w3 _ k3
  have s3 : w1.heap.size + 1 < w3.heap.size := World.block_lt_of_cell? w3 _ j3
  have Hz5 : Hid (zs.length ≤ 5) := hz5
  obtain ⟨a3, n3, c3, rfl⟩ := own_shape o3
  obtain ⟨a4, n4, c4, rfl⟩ := own_shape o4
  clear hz5 o3 o4 hb3 hC hD h30 HA2 HB2 HW2
  go_wp2_with fail
  refine (implJoin_any _ _ xs ys _ HA3.out.ints HB3.out.ints).mono ?_
  rintro e w4 ⟨r7, rfl, o7, hb4⟩
  have HJ4 : Hid (Lab w4.heap.size r7 (joinOf xs ys) (w4.alloc (.cells #[r7] 26 (0, 0)))) := lab_new (isInts_own o7)
  have HA4 : Hid (Lab w1.heap.size (.slice a1 n1 c1) xs (w4.alloc (.cells #[r7] 26 (0, 0)))) := (HA3.out.on hb4).on (below_alloc _ _)
  have HB4 : Hid (Lab (w1.heap.size + 1) (.slice a2 n2 c2) ys (w4.alloc (.cells #[r7] 26 (0, 0)))) := (HB3.out.on hb4).on (below_alloc _ _)
  have HC4 : Hid (Lab w3.heap.size (.slice a3 n3 c3) zs (w4.alloc (.cells #[r7] 26 (0, 0)))) := (HC3.out.on hb4).on (below_alloc _ _)
  have h40 : Below w.heap.size w w4 := HW3.out.trans (hb4.mono HW3.out.size)
  have HW4 : Hid (Below w.heap.size w (w4.alloc (.cells #[r7] 26 (0, 0)))) := h40.trans ((below_alloc w4 _).mono h40.size)
  have k4 : w4.cell? ⟨w1.heap.size, 0, none⟩ = some (.slice a1 n1 c1) := (HA3.out.on hb4).cell
  have j4 : w4.cell? ⟨w1.heap.size + 1, 0, none⟩ = some (.slice a2 n2 c2) := (HB3.out.on hb4).cell
  have t4 : w1.heap.size < w4.heap.size := World.block_lt_of_cell? w4 _ k4
  have s4 : w1.heap.size + 1 < w4.heap.size := World.block_lt_of_cell? w4 _ j4
  obtain ⟨a7, n7, c7, rfl⟩ := own_shape o7
  clear o7 hb4 h40 HA3 HB3 HC3 HW3 k3 j3 t3 s3
  go_wp2_with fail
  refine (implMeet_any _ _ xs ys _ HA4.out.ints HB4.out.ints).mono ?_
  rintro e w5 ⟨r8, rfl, o8, hb5⟩
  have h50 : Below w.heap.size w w5 := HW4.out.trans (hb5.mono HW4.out.size)
  have HF : Hid (Five w w1.heap.size (w1.heap.size + 1) w3.heap.size w4.heap.size w5.heap.size (.slice a1 n1 c1) (.slice a2 n2 c2) (.slice a3 n3 c3) (.slice a7 n7 c7) r8 xs ys zs (w5.alloc (.cells #[r8] 26 (0, 0)))) :=
    ⟨(HA4.out.on hb5).on (below_alloc _ _), (HB4.out.on hb5).on (below_alloc _ _), (HC4.out.on hb5).on (below_alloc _ _), (HJ4.out.on hb5).on (below_alloc _ _), lab_new (isInts_own o8), h50.trans ((below_alloc w5 _).mono h50.size)⟩
  have k5 : w5.cell? ⟨w1.heap.size, 0, none⟩ = some (.slice a1 n1 c1) := (HA4.out.on hb5).cell
  have t5 : w1.heap.size < w5.heap.size := World.block_lt_of_cell? w5 _ k5
  obtain ⟨a8, n8, c8, rfl⟩ := own_shape o8
  clear o8 hb5 h50 HA4 HB4 HC4 HJ4 HW4 k4 j4 t4 s4
  have CL : Hid (∀ v us w', us.length ≤ 5 → IsInts w' v us → _) := fun v us w' hu hi => specLabelOk_any v us w' hi (by omega)
  have CW : Hid (∀ v u us vs w', IsInts w' v us → IsInts w' u vs → _) := fun v u us vs w' hi hj => implFlows_any v u us vs w' hi hj
  go_wp2_with fail
  have D1 := CL.out _ xs _ Hx5.out.1 HF.out.A.ints
  by_cases ha : labelOk xs = true
  · rw [ha] at D1
    refine D1.mono ?_
    rintro e w6 ⟨rfl, hb6⟩
    clear D1
    have HF6 : Hid (Five w w1.heap.size (w1.heap.size + 1) w3.heap.size w4.heap.size w5.heap.size (.slice a1 n1 c1) (.slice a2 n2 c2) (.slice a3 n3 c3) (.slice a7 n7 c7) (.slice a8 n8 c8) xs ys zs w6) := HF.out.on hb6
    clear HF hb6 k5 t5
    have k6 := HF6.out.B.cell
    go_wp2_with fail
    have D1 := CL.out _ ys _ Hx5.out.2 HF6.out.B.ints
    by_cases hy : labelOk ys = true
    · rw [hy] at D1
      refine D1.mono ?_
      rintro e w7 ⟨rfl, hb7⟩
      clear D1
      have HF7 : Hid (Five w w1.heap.size (w1.heap.size + 1) w3.heap.size w4.heap.size w5.heap.size (.slice a1 n1 c1) (.slice a2 n2 c2) (.slice a3 n3 c3) (.slice a7 n7 c7) (.slice a8 n8 c8) xs ys zs w7) := HF6.out.on hb7
      clear HF6 hb7 k6
      have k7 := HF7.out.C.cell
      go_wp2_with fail
      have D1 := CL.out _ zs _ Hz5.out HF7.out.C.ints
      by_cases hz : labelOk zs = true
      · rw [hz] at D1
        have rA : Right xs := right_of ha
        have rB : Right ys := right_of hy
        have rC : Right zs := right_of hz
        have rJ : Right (joinOf xs ys) := join_right rA rB
        have rM : Right (meetOf xs ys) := meet_right rA rB
        obtain ⟨fac, hfac⟩ : ∃ f, flowsTo xs zs = f := ⟨_, rfl⟩
        obtain ⟨fca, hfca⟩ : ∃ f, flowsTo zs xs = f := ⟨_, rfl⟩
        obtain ⟨fbc, hfbc⟩ : ∃ f, flowsTo ys zs = f := ⟨_, rfl⟩
        obtain ⟨fcb, hfcb⟩ : ∃ f, flowsTo zs ys = f := ⟨_, rfl⟩
        obtain ⟨fab, hfab⟩ : ∃ f, flowsTo xs ys = f := ⟨_, rfl⟩
        obtain ⟨fba, hfba⟩ : ∃ f, flowsTo ys xs = f := ⟨_, rfl⟩
        have LJ : fac = true → flowsTo (joinOf xs ys) zs = fbc := fun h => by rw [← hfbc]; exact (law_join rA rB rC (hfac.trans h)).symm
        have LM : fca = true → flowsTo zs (meetOf xs ys) = fcb := fun h => by rw [← hfcb]; exact (law_meet rA rB rC (hfca.trans h)).symm
        have LO : fab = true → fbc = true → flowsTo xs zs = true := fun h1 h2 => law_on rA rB rC (hfab.trans h1) (hfbc.trans h2)
        have LS : fab = true → fba = true → sameInts xs ys = true := fun h1 h2 => law_both rA rB (hfab.trans h1) (hfba.trans h2)
        refine D1.mono ?_
        rintro e w6' ⟨rfl, hb6⟩
        clear D1
        have HG : Hid (Five w w1.heap.size (w1.heap.size + 1) w3.heap.size w4.heap.size w5.heap.size (.slice a1 n1 c1) (.slice a2 n2 c2) (.slice a3 n3 c3) (.slice a7 n7 c7) (.slice a8 n8 c8) xs ys zs w6') := HF7.out.on hb6
        clear HF7 hb6 k7 CL CW Hx5 Hz5 ha hy hz
        go_wp2_with fail
        refine wp_region_shut (by kernel_rfl) (by kernel_rfl) (by kernel_rfl) (by kernel_rfl) (Five w w1.heap.size (w1.heap.size + 1) w3.heap.size w4.heap.size w5.heap.size (.slice a1 n1 c1) (.slice a2 n2 c2) (.slice a3 n3 c3) (.slice a7 n7 c7) (.slice a8 n8 c8) xs ys zs) (gPr [.val (true) (.agg #[.slice a1 n1 c1]), .val (true) (.agg #[.slice a3 n3 c3]), .val (true) (.bool fac), .val (true) (.bool fac), .val (fac) (.agg #[.slice a2 n2 c2]), .val (fac) (.agg #[.slice a3 n3 c3]), .val (fac) (.bool fbc), .val (fac) (.agg #[.slice a7 n7 c7]), .val (fac) (.agg #[.slice a3 n3 c3]), .val (fac) (.bool fbc), .val (fac) (.bool false), .val (true) (.bool false), .val (true) (.bool false), .val (true) (.agg #[.slice a3 n3 c3]), .val (true) (.agg #[.slice a1 n1 c1]), .val (true) (.bool fca), .val (true) (.bool fca), .val (fca) (.agg #[.slice a3 n3 c3]), .val (fca) (.agg #[.slice a2 n2 c2]), .val (fca) (.bool fcb), .val (fca) (.agg #[.slice a3 n3 c3]), .val (fca) (.agg #[.slice a8 n8 c8]), .val (fca) (.bool fcb), .val (fca) (.bool false), .val (true) (.bool false), .val (true) (.bool false)]) HG.out.drew ?_ ?_
        · refine ⟨?_, ?_, ?_, ?_, ?_, ?_, ?_, ?_, ?_, ?_, ?_, ?_, ?_, ?_, ?_, ?_, ?_, ?_, ?_, ?_, ?_, ?_, ?_, ?_, ?_, ?_, trivial⟩
          · intro b us w0 hslot hoth hB hdeps K hK
            refine guard_none (by rfl) ?_
            have s3 : b.tmps.getD 3 undef = .pointer (some ⟨w1.heap.size, 0, none⟩) := hoth 3 (by rfl)
            have k3 := hB.A.cell
            clear hdeps hslot hoth
            go_simp
            exact hK _ _ hB (fun _ _ h => h) rfl
          · intro b us w0 hslot hoth hB hdeps K hK
            refine guard_none (by rfl) ?_
            have s5 : b.tmps.getD 5 undef = .pointer (some ⟨w3.heap.size, 0, none⟩) := hoth 5 (by rfl)
            have k5 := hB.C.cell
            clear hdeps hslot hoth
            go_simp
            exact hK _ _ hB (fun _ _ h => h) rfl
          · intro b us w0 hslot hoth hB hdeps K hK
            refine guard_none (by rfl) ?_
            have s55 : b.tmps.getD 55 undef = .agg #[.slice a1 n1 c1] := (hslot 0 55 (by rfl)).trans (deps_at hdeps 0 (by rfl))
            have s56 : b.tmps.getD 56 undef = .agg #[.slice a3 n3 c3] := (hslot 1 56 (by rfl)).trans (deps_at hdeps 1 (by rfl))
            clear hdeps hslot hoth
            go_simp
            refine (implFlows_any _ _ xs zs _ hB.A.ints hB.C.ints).mono ?_
            rintro e wy ⟨rfl, hb⟩
            exact hK _ _ (hB.on hb) (gPr_on hb) (by show Value.bool (flowsTo xs zs) = Value.bool fac; rw [hfac])
          · intro b us w0 hslot hoth hB hdeps K hK
            refine guard_none (by rfl) ?_
            have s57 : b.tmps.getD 57 undef = .bool fac := (hslot 2 57 (by rfl)).trans (deps_at hdeps 2 (by rfl))
            clear hdeps hslot hoth
            go_simp
            exact hK _ _ hB (fun _ _ h => h) rfl
          · intro b us w0 hslot hoth hB hdeps K hK
            cases fac with
            | false =>
              have gg : us 3 = .bool false := deps_at hdeps 3 (by rfl)
              refine guard_off (j := 3) (want := true) (d := 58) (by rfl) (by rfl) gg (by rfl) ?_
              exact hK _ _ hB (fun _ _ h => h) rfl
            | true =>
              have gg : us 3 = .bool true := deps_at hdeps 3 (by rfl)
              refine guard_on (j := 3) (want := true) (d := 58) (by rfl) (by rfl) gg ?_
              have s4 : b.tmps.getD 4 undef = .pointer (some ⟨w1.heap.size + 1, 0, none⟩) := hoth 4 (by rfl)
              have k4 := hB.B.cell
              clear hdeps hslot hoth
              go_simp
              exact hK _ _ hB (fun _ _ h => h) rfl
          · intro b us w0 hslot hoth hB hdeps K hK
            cases fac with
            | false =>
              have gg : us 3 = .bool false := deps_at hdeps 3 (by rfl)
              refine guard_off (j := 3) (want := true) (d := 58) (by rfl) (by rfl) gg (by rfl) ?_
              exact hK _ _ hB (fun _ _ h => h) rfl
            | true =>
              have gg : us 3 = .bool true := deps_at hdeps 3 (by rfl)
              refine guard_on (j := 3) (want := true) (d := 58) (by rfl) (by rfl) gg ?_
              have s5 : b.tmps.getD 5 undef = .pointer (some ⟨w3.heap.size, 0, none⟩) := hoth 5 (by rfl)
              have k5 := hB.C.cell
              clear hdeps hslot hoth
              go_simp
              exact hK _ _ hB (fun _ _ h => h) rfl
          · intro b us w0 hslot hoth hB hdeps K hK
            cases fac with
            | false =>
              have gg : us 3 = .bool false := deps_at hdeps 3 (by rfl)
              refine guard_off (j := 3) (want := true) (d := 58) (by rfl) (by rfl) gg (by rfl) ?_
              exact hK _ _ hB (fun _ _ h => h) rfl
            | true =>
              have gg : us 3 = .bool true := deps_at hdeps 3 (by rfl)
              refine guard_on (j := 3) (want := true) (d := 58) (by rfl) (by rfl) gg ?_
              have s59 : b.tmps.getD 59 undef = .agg #[.slice a2 n2 c2] := (hslot 4 59 (by rfl)).trans (deps_at hdeps 4 (by rfl))
              have s60 : b.tmps.getD 60 undef = .agg #[.slice a3 n3 c3] := (hslot 5 60 (by rfl)).trans (deps_at hdeps 5 (by rfl))
              clear hdeps hslot hoth
              go_simp
              refine (implFlows_any _ _ ys zs _ hB.B.ints hB.C.ints).mono ?_
              rintro e wy ⟨rfl, hb⟩
              exact hK _ _ (hB.on hb) (gPr_on hb) (by show Value.bool (flowsTo ys zs) = Value.bool fbc; rw [hfbc])
          · intro b us w0 hslot hoth hB hdeps K hK
            cases fac with
            | false =>
              have gg : us 3 = .bool false := deps_at hdeps 3 (by rfl)
              refine guard_off (j := 3) (want := true) (d := 58) (by rfl) (by rfl) gg (by rfl) ?_
              exact hK _ _ hB (fun _ _ h => h) rfl
            | true =>
              have gg : us 3 = .bool true := deps_at hdeps 3 (by rfl)
              refine guard_on (j := 3) (want := true) (d := 58) (by rfl) (by rfl) gg ?_
              have s7 : b.tmps.getD 7 undef = .pointer (some ⟨w4.heap.size, 0, none⟩) := hoth 7 (by rfl)
              have k7 := hB.J.cell
              clear hdeps hslot hoth
              go_simp
              exact hK _ _ hB (fun _ _ h => h) rfl
          · intro b us w0 hslot hoth hB hdeps K hK
            cases fac with
            | false =>
              have gg : us 3 = .bool false := deps_at hdeps 3 (by rfl)
              refine guard_off (j := 3) (want := true) (d := 58) (by rfl) (by rfl) gg (by rfl) ?_
              exact hK _ _ hB (fun _ _ h => h) rfl
            | true =>
              have gg : us 3 = .bool true := deps_at hdeps 3 (by rfl)
              refine guard_on (j := 3) (want := true) (d := 58) (by rfl) (by rfl) gg ?_
              have s5 : b.tmps.getD 5 undef = .pointer (some ⟨w3.heap.size, 0, none⟩) := hoth 5 (by rfl)
              have k5 := hB.C.cell
              clear hdeps hslot hoth
              go_simp
              exact hK _ _ hB (fun _ _ h => h) rfl
          · intro b us w0 hslot hoth hB hdeps K hK
            cases fac with
            | false =>
              have gg : us 3 = .bool false := deps_at hdeps 3 (by rfl)
              refine guard_off (j := 3) (want := true) (d := 58) (by rfl) (by rfl) gg (by rfl) ?_
              exact hK _ _ hB (fun _ _ h => h) rfl
            | true =>
              have gg : us 3 = .bool true := deps_at hdeps 3 (by rfl)
              refine guard_on (j := 3) (want := true) (d := 58) (by rfl) (by rfl) gg ?_
              have s62 : b.tmps.getD 62 undef = .agg #[.slice a7 n7 c7] := (hslot 7 62 (by rfl)).trans (deps_at hdeps 7 (by rfl))
              have s63 : b.tmps.getD 63 undef = .agg #[.slice a3 n3 c3] := (hslot 8 63 (by rfl)).trans (deps_at hdeps 8 (by rfl))
              clear hdeps hslot hoth
              go_simp
              refine (implFlows_any _ _ (joinOf xs ys) zs _ hB.J.ints hB.C.ints).mono ?_
              rintro e wy ⟨rfl, hb⟩
              exact hK _ _ (hB.on hb) (gPr_on hb) (by show Value.bool (flowsTo (joinOf xs ys) zs) = Value.bool fbc; rw [LJ rfl])
          · intro b us w0 hslot hoth hB hdeps K hK
            cases fbc with
            | false =>
              cases fac with
              | false =>
                have gg : us 3 = .bool false := deps_at hdeps 3 (by rfl)
                refine guard_off (j := 3) (want := true) (d := 58) (by rfl) (by rfl) gg (by rfl) ?_
                exact hK _ _ hB (fun _ _ h => h) rfl
              | true =>
                have gg : us 3 = .bool true := deps_at hdeps 3 (by rfl)
                refine guard_on (j := 3) (want := true) (d := 58) (by rfl) (by rfl) gg ?_
                have s61 : b.tmps.getD 61 undef = .bool false := (hslot 6 61 (by rfl)).trans (deps_at hdeps 6 (by rfl))
                have s64 : b.tmps.getD 64 undef = .bool false := (hslot 9 64 (by rfl)).trans (deps_at hdeps 9 (by rfl))
                clear hdeps hslot hoth
                go_simp
                exact hK _ _ hB (fun _ _ h => h) rfl
            | true =>
              cases fac with
              | false =>
                have gg : us 3 = .bool false := deps_at hdeps 3 (by rfl)
                refine guard_off (j := 3) (want := true) (d := 58) (by rfl) (by rfl) gg (by rfl) ?_
                exact hK _ _ hB (fun _ _ h => h) rfl
              | true =>
                have gg : us 3 = .bool true := deps_at hdeps 3 (by rfl)
                refine guard_on (j := 3) (want := true) (d := 58) (by rfl) (by rfl) gg ?_
                have s61 : b.tmps.getD 61 undef = .bool true := (hslot 6 61 (by rfl)).trans (deps_at hdeps 6 (by rfl))
                have s64 : b.tmps.getD 64 undef = .bool true := (hslot 9 64 (by rfl)).trans (deps_at hdeps 9 (by rfl))
                clear hdeps hslot hoth
                go_simp
                exact hK _ _ hB (fun _ _ h => h) rfl
          · intro b us w0 hslot hoth hB hdeps K hK
            cases fac with
            | false =>
              refine guard_none (by rfl) ?_
              have s58 : b.tmps.getD 58 undef = .bool false := (hslot 3 58 (by rfl)).trans (deps_at hdeps 3 (by rfl))
              have s65 : b.tmps.getD 65 undef = undef := (hslot 10 65 (by rfl)).trans (deps_at hdeps 10 (by rfl))
              clear hdeps hslot hoth
              go_simp
              exact hK _ _ hB (fun _ _ h => h) rfl
            | true =>
              refine guard_none (by rfl) ?_
              have s58 : b.tmps.getD 58 undef = .bool true := (hslot 3 58 (by rfl)).trans (deps_at hdeps 3 (by rfl))
              have s65 : b.tmps.getD 65 undef = .bool false := (hslot 10 65 (by rfl)).trans (deps_at hdeps 10 (by rfl))
              clear hdeps hslot hoth
              go_simp
              exact hK _ _ hB (fun _ _ h => h) rfl
          · intro b us w0 hslot hoth hB hdeps K hK
            refine guard_none (by rfl) ?_
            have s66 : b.tmps.getD 66 undef = .bool false := (hslot 11 66 (by rfl)).trans (deps_at hdeps 11 (by rfl))
            clear hdeps hslot hoth
            go_simp
            exact hK _ _ hB (fun _ _ h => h) rfl
          · intro b us w0 hslot hoth hB hdeps K hK
            have gg : us 12 = .bool false := deps_at hdeps 12 (by rfl)
            refine guard_on (j := 12) (want := false) (d := 67) (by rfl) (by rfl) gg ?_
            have s5 : b.tmps.getD 5 undef = .pointer (some ⟨w3.heap.size, 0, none⟩) := hoth 5 (by rfl)
            have k5 := hB.C.cell
            clear hdeps hslot hoth
            go_simp
            exact hK _ _ hB (fun _ _ h => h) rfl
          · intro b us w0 hslot hoth hB hdeps K hK
            have gg : us 12 = .bool false := deps_at hdeps 12 (by rfl)
            refine guard_on (j := 12) (want := false) (d := 67) (by rfl) (by rfl) gg ?_
            have s3 : b.tmps.getD 3 undef = .pointer (some ⟨w1.heap.size, 0, none⟩) := hoth 3 (by rfl)
            have k3 := hB.A.cell
            clear hdeps hslot hoth
            go_simp
            exact hK _ _ hB (fun _ _ h => h) rfl
          · intro b us w0 hslot hoth hB hdeps K hK
            have gg : us 12 = .bool false := deps_at hdeps 12 (by rfl)
            refine guard_on (j := 12) (want := false) (d := 67) (by rfl) (by rfl) gg ?_
            have s68 : b.tmps.getD 68 undef = .agg #[.slice a3 n3 c3] := (hslot 13 68 (by rfl)).trans (deps_at hdeps 13 (by rfl))
            have s69 : b.tmps.getD 69 undef = .agg #[.slice a1 n1 c1] := (hslot 14 69 (by rfl)).trans (deps_at hdeps 14 (by rfl))
            clear hdeps hslot hoth
            go_simp
            refine (implFlows_any _ _ zs xs _ hB.C.ints hB.A.ints).mono ?_
            rintro e wy ⟨rfl, hb⟩
            exact hK _ _ (hB.on hb) (gPr_on hb) (by show Value.bool (flowsTo zs xs) = Value.bool fca; rw [hfca])
          · intro b us w0 hslot hoth hB hdeps K hK
            have gg : us 12 = .bool false := deps_at hdeps 12 (by rfl)
            refine guard_on (j := 12) (want := false) (d := 67) (by rfl) (by rfl) gg ?_
            have s70 : b.tmps.getD 70 undef = .bool fca := (hslot 15 70 (by rfl)).trans (deps_at hdeps 15 (by rfl))
            clear hdeps hslot hoth
            go_simp
            exact hK _ _ hB (fun _ _ h => h) rfl
          · intro b us w0 hslot hoth hB hdeps K hK
            cases fca with
            | false =>
              have gg : us 16 = .bool false := deps_at hdeps 16 (by rfl)
              refine guard_off (j := 16) (want := true) (d := 71) (by rfl) (by rfl) gg (by rfl) ?_
              exact hK _ _ hB (fun _ _ h => h) rfl
            | true =>
              have gg : us 16 = .bool true := deps_at hdeps 16 (by rfl)
              refine guard_on (j := 16) (want := true) (d := 71) (by rfl) (by rfl) gg ?_
              have s5 : b.tmps.getD 5 undef = .pointer (some ⟨w3.heap.size, 0, none⟩) := hoth 5 (by rfl)
              have k5 := hB.C.cell
              clear hdeps hslot hoth
              go_simp
              exact hK _ _ hB (fun _ _ h => h) rfl
          · intro b us w0 hslot hoth hB hdeps K hK
            cases fca with
            | false =>
              have gg : us 16 = .bool false := deps_at hdeps 16 (by rfl)
              refine guard_off (j := 16) (want := true) (d := 71) (by rfl) (by rfl) gg (by rfl) ?_
              exact hK _ _ hB (fun _ _ h => h) rfl
            | true =>
              have gg : us 16 = .bool true := deps_at hdeps 16 (by rfl)
              refine guard_on (j := 16) (want := true) (d := 71) (by rfl) (by rfl) gg ?_
              have s4 : b.tmps.getD 4 undef = .pointer (some ⟨w1.heap.size + 1, 0, none⟩) := hoth 4 (by rfl)
              have k4 := hB.B.cell
              clear hdeps hslot hoth
              go_simp
              exact hK _ _ hB (fun _ _ h => h) rfl
          · intro b us w0 hslot hoth hB hdeps K hK
            cases fca with
            | false =>
              have gg : us 16 = .bool false := deps_at hdeps 16 (by rfl)
              refine guard_off (j := 16) (want := true) (d := 71) (by rfl) (by rfl) gg (by rfl) ?_
              exact hK _ _ hB (fun _ _ h => h) rfl
            | true =>
              have gg : us 16 = .bool true := deps_at hdeps 16 (by rfl)
              refine guard_on (j := 16) (want := true) (d := 71) (by rfl) (by rfl) gg ?_
              have s72 : b.tmps.getD 72 undef = .agg #[.slice a3 n3 c3] := (hslot 17 72 (by rfl)).trans (deps_at hdeps 17 (by rfl))
              have s73 : b.tmps.getD 73 undef = .agg #[.slice a2 n2 c2] := (hslot 18 73 (by rfl)).trans (deps_at hdeps 18 (by rfl))
              clear hdeps hslot hoth
              go_simp
              refine (implFlows_any _ _ zs ys _ hB.C.ints hB.B.ints).mono ?_
              rintro e wy ⟨rfl, hb⟩
              exact hK _ _ (hB.on hb) (gPr_on hb) (by show Value.bool (flowsTo zs ys) = Value.bool fcb; rw [hfcb])
          · intro b us w0 hslot hoth hB hdeps K hK
            cases fca with
            | false =>
              have gg : us 16 = .bool false := deps_at hdeps 16 (by rfl)
              refine guard_off (j := 16) (want := true) (d := 71) (by rfl) (by rfl) gg (by rfl) ?_
              exact hK _ _ hB (fun _ _ h => h) rfl
            | true =>
              have gg : us 16 = .bool true := deps_at hdeps 16 (by rfl)
              refine guard_on (j := 16) (want := true) (d := 71) (by rfl) (by rfl) gg ?_
              have s5 : b.tmps.getD 5 undef = .pointer (some ⟨w3.heap.size, 0, none⟩) := hoth 5 (by rfl)
              have k5 := hB.C.cell
              clear hdeps hslot hoth
              go_simp
              exact hK _ _ hB (fun _ _ h => h) rfl
          · intro b us w0 hslot hoth hB hdeps K hK
            cases fca with
            | false =>
              have gg : us 16 = .bool false := deps_at hdeps 16 (by rfl)
              refine guard_off (j := 16) (want := true) (d := 71) (by rfl) (by rfl) gg (by rfl) ?_
              exact hK _ _ hB (fun _ _ h => h) rfl
            | true =>
              have gg : us 16 = .bool true := deps_at hdeps 16 (by rfl)
              refine guard_on (j := 16) (want := true) (d := 71) (by rfl) (by rfl) gg ?_
              have s8 : b.tmps.getD 8 undef = .pointer (some ⟨w5.heap.size, 0, none⟩) := hoth 8 (by rfl)
              have k8 := hB.M.cell
              clear hdeps hslot hoth
              go_simp
              exact hK _ _ hB (fun _ _ h => h) rfl
          · intro b us w0 hslot hoth hB hdeps K hK
            cases fca with
            | false =>
              have gg : us 16 = .bool false := deps_at hdeps 16 (by rfl)
              refine guard_off (j := 16) (want := true) (d := 71) (by rfl) (by rfl) gg (by rfl) ?_
              exact hK _ _ hB (fun _ _ h => h) rfl
            | true =>
              have gg : us 16 = .bool true := deps_at hdeps 16 (by rfl)
              refine guard_on (j := 16) (want := true) (d := 71) (by rfl) (by rfl) gg ?_
              have s75 : b.tmps.getD 75 undef = .agg #[.slice a3 n3 c3] := (hslot 20 75 (by rfl)).trans (deps_at hdeps 20 (by rfl))
              have s76 : b.tmps.getD 76 undef = .agg #[.slice a8 n8 c8] := (hslot 21 76 (by rfl)).trans (deps_at hdeps 21 (by rfl))
              clear hdeps hslot hoth
              go_simp
              refine (implFlows_any _ _ zs (meetOf xs ys) _ hB.C.ints hB.M.ints).mono ?_
              rintro e wy ⟨rfl, hb⟩
              exact hK _ _ (hB.on hb) (gPr_on hb) (by show Value.bool (flowsTo zs (meetOf xs ys)) = Value.bool fcb; rw [LM rfl])
          · intro b us w0 hslot hoth hB hdeps K hK
            cases fcb with
            | false =>
              cases fca with
              | false =>
                have gg : us 16 = .bool false := deps_at hdeps 16 (by rfl)
                refine guard_off (j := 16) (want := true) (d := 71) (by rfl) (by rfl) gg (by rfl) ?_
                exact hK _ _ hB (fun _ _ h => h) rfl
              | true =>
                have gg : us 16 = .bool true := deps_at hdeps 16 (by rfl)
                refine guard_on (j := 16) (want := true) (d := 71) (by rfl) (by rfl) gg ?_
                have s74 : b.tmps.getD 74 undef = .bool false := (hslot 19 74 (by rfl)).trans (deps_at hdeps 19 (by rfl))
                have s77 : b.tmps.getD 77 undef = .bool false := (hslot 22 77 (by rfl)).trans (deps_at hdeps 22 (by rfl))
                clear hdeps hslot hoth
                go_simp
                exact hK _ _ hB (fun _ _ h => h) rfl
            | true =>
              cases fca with
              | false =>
                have gg : us 16 = .bool false := deps_at hdeps 16 (by rfl)
                refine guard_off (j := 16) (want := true) (d := 71) (by rfl) (by rfl) gg (by rfl) ?_
                exact hK _ _ hB (fun _ _ h => h) rfl
              | true =>
                have gg : us 16 = .bool true := deps_at hdeps 16 (by rfl)
                refine guard_on (j := 16) (want := true) (d := 71) (by rfl) (by rfl) gg ?_
                have s74 : b.tmps.getD 74 undef = .bool true := (hslot 19 74 (by rfl)).trans (deps_at hdeps 19 (by rfl))
                have s77 : b.tmps.getD 77 undef = .bool true := (hslot 22 77 (by rfl)).trans (deps_at hdeps 22 (by rfl))
                clear hdeps hslot hoth
                go_simp
                exact hK _ _ hB (fun _ _ h => h) rfl
          · intro b us w0 hslot hoth hB hdeps K hK
            cases fca with
            | false =>
              have gg : us 12 = .bool false := deps_at hdeps 12 (by rfl)
              refine guard_on (j := 12) (want := false) (d := 67) (by rfl) (by rfl) gg ?_
              have s71 : b.tmps.getD 71 undef = .bool false := (hslot 16 71 (by rfl)).trans (deps_at hdeps 16 (by rfl))
              have s78 : b.tmps.getD 78 undef = undef := (hslot 23 78 (by rfl)).trans (deps_at hdeps 23 (by rfl))
              clear hdeps hslot hoth
              go_simp
              exact hK _ _ hB (fun _ _ h => h) rfl
            | true =>
              have gg : us 12 = .bool false := deps_at hdeps 12 (by rfl)
              refine guard_on (j := 12) (want := false) (d := 67) (by rfl) (by rfl) gg ?_
              have s71 : b.tmps.getD 71 undef = .bool true := (hslot 16 71 (by rfl)).trans (deps_at hdeps 16 (by rfl))
              have s78 : b.tmps.getD 78 undef = .bool false := (hslot 23 78 (by rfl)).trans (deps_at hdeps 23 (by rfl))
              clear hdeps hslot hoth
              go_simp
              exact hK _ _ hB (fun _ _ h => h) rfl
          · intro b us w0 hslot hoth hB hdeps K hK
            refine guard_none (by rfl) ?_
            have s67 : b.tmps.getD 67 undef = .bool false := (hslot 12 67 (by rfl)).trans (deps_at hdeps 12 (by rfl))
            have s79 : b.tmps.getD 79 undef = .bool false := (hslot 24 79 (by rfl)).trans (deps_at hdeps 24 (by rfl))
            clear hdeps hslot hoth
            go_simp
            exact hK _ _ hB (fun _ _ h => h) rfl
        · intro us w7' hB hG' a' ha'
          have g : us 25 = .bool false := hG' 25 (by decide)
          clear hG'
          have HH : Hid (Five w w1.heap.size (w1.heap.size + 1) w3.heap.size w4.heap.size w5.heap.size (.slice a1 n1 c1) (.slice a2 n2 c2) (.slice a3 n3 c3) (.slice a7 n7 c7) (.slice a8 n8 c8) xs ys zs w7') := hB
          clear hB HG LJ LM
          simp only [putAll, g] at ha'
          subst ha'
          go_frame
          repeat (first | (with_reducible refine halt_region (id := 11) ?_) | go_values | go_skip | go_guarded | go_step | go_upon | go_back)
          unfold Halt0
          refine wp_region_lex (by kernel_rfl) (by kernel_rfl) (Five w w1.heap.size (w1.heap.size + 1) w3.heap.size w4.heap.size w5.heap.size (.slice a1 n1 c1) (.slice a2 n2 c2) (.slice a3 n3 c3) (.slice a7 n7 c7) (.slice a8 n8 c8) xs ys zs) (gPr [.val (true) (.agg #[.slice a1 n1 c1]), .val (true) (.agg #[.slice a2 n2 c2]), .val (true) (.bool fab), .val (true) (.bool fab), .val (fab) (.agg #[.slice a2 n2 c2]), .val (fab) (.agg #[.slice a3 n3 c3]), .val (fab) (.bool fbc), .val (true) (.bool (fab && fbc)), .val (true) (.bool (fab && fbc)), .val ((fab && fbc)) (.agg #[.slice a1 n1 c1]), .val ((fab && fbc)) (.agg #[.slice a3 n3 c3]), .val ((fab && fbc)) (.bool true), .val ((fab && fbc)) (.bool false), .val (true) (.bool false), .val (true) (.bool false), .val (true) (.agg #[.slice a1 n1 c1]), .val (true) (.agg #[.slice a2 n2 c2]), .val (true) (.bool fab), .val (true) (.bool fab), .val (fab) (.agg #[.slice a2 n2 c2]), .val (fab) (.agg #[.slice a1 n1 c1]), .val (fab) (.bool fba), .val (true) (.bool (fab && fba)), .val (true) (.bool (fab && fba)), .val ((fab && fba)) (.agg #[.slice a1 n1 c1]), .val ((fab && fba)) (.agg #[.slice a2 n2 c2]), .val ((fab && fba)) (.bool true), .val ((fab && fba)) (.bool false), .val (true) (.bool false), .val (true) (.bool false)]) HH.out ?_ ?_
          · refine ⟨?_, ?_, ?_, ?_, ?_, ?_, ?_, ?_, ?_, ?_, ?_, ?_, ?_, ?_, ?_, ?_, ?_, ?_, ?_, ?_, ?_, ?_, ?_, ?_, ?_, ?_, ?_, ?_, ?_, ?_, trivial⟩
            · intro b us w0 hslot hoth hB hdeps K hK
              refine guard_none (by rfl) ?_
              have s3 : b.tmps.getD 3 undef = .pointer (some ⟨w1.heap.size, 0, none⟩) := hoth 3 (by rfl)
              have k3 := hB.A.cell
              clear hdeps hslot hoth
              go_simp
              exact hK _ _ hB (fun _ _ h => h) rfl
            · intro b us w0 hslot hoth hB hdeps K hK
              refine guard_none (by rfl) ?_
              have s4 : b.tmps.getD 4 undef = .pointer (some ⟨w1.heap.size + 1, 0, none⟩) := hoth 4 (by rfl)
              have k4 := hB.B.cell
              clear hdeps hslot hoth
              go_simp
              exact hK _ _ hB (fun _ _ h => h) rfl
            · intro b us w0 hslot hoth hB hdeps K hK
              refine guard_none (by rfl) ?_
              have s81 : b.tmps.getD 81 undef = .agg #[.slice a1 n1 c1] := (hslot 0 81 (by rfl)).trans (hdeps 0 (by decide))
              have s82 : b.tmps.getD 82 undef = .agg #[.slice a2 n2 c2] := (hslot 1 82 (by rfl)).trans (hdeps 1 (by decide))
              clear hdeps hslot hoth
              go_simp
              refine (implFlows_any _ _ xs ys _ hB.A.ints hB.B.ints).mono ?_
              rintro e wy ⟨rfl, hb⟩
              exact hK _ _ (hB.on hb) (gPr_on hb) (by show Value.bool (flowsTo xs ys) = Value.bool fab; rw [hfab])
            · intro b us w0 hslot hoth hB hdeps K hK
              refine guard_none (by rfl) ?_
              have s83 : b.tmps.getD 83 undef = .bool fab := (hslot 2 83 (by rfl)).trans (hdeps 2 (by decide))
              clear hdeps hslot hoth
              go_simp
              exact hK _ _ hB (fun _ _ h => h) rfl
            · intro b us w0 hslot hoth hB hdeps K hK
              cases fab with
              | false =>
                have gg : us 3 = .bool false := hdeps 3 (by decide)
                refine guard_off (j := 3) (want := true) (d := 84) (by rfl) (by rfl) gg (by rfl) ?_
                exact hK _ _ hB (fun _ _ h => h) rfl
              | true =>
                have gg : us 3 = .bool true := hdeps 3 (by decide)
                refine guard_on (j := 3) (want := true) (d := 84) (by rfl) (by rfl) gg ?_
                have s4 : b.tmps.getD 4 undef = .pointer (some ⟨w1.heap.size + 1, 0, none⟩) := hoth 4 (by rfl)
                have k4 := hB.B.cell
                clear hdeps hslot hoth
                go_simp
                exact hK _ _ hB (fun _ _ h => h) rfl
            · intro b us w0 hslot hoth hB hdeps K hK
              cases fab with
              | false =>
                have gg : us 3 = .bool false := hdeps 3 (by decide)
                refine guard_off (j := 3) (want := true) (d := 84) (by rfl) (by rfl) gg (by rfl) ?_
                exact hK _ _ hB (fun _ _ h => h) rfl
              | true =>
                have gg : us 3 = .bool true := hdeps 3 (by decide)
                refine guard_on (j := 3) (want := true) (d := 84) (by rfl) (by rfl) gg ?_
                have s5 : b.tmps.getD 5 undef = .pointer (some ⟨w3.heap.size, 0, none⟩) := hoth 5 (by rfl)
                have k5 := hB.C.cell
                clear hdeps hslot hoth
                go_simp
                exact hK _ _ hB (fun _ _ h => h) rfl
            · intro b us w0 hslot hoth hB hdeps K hK
              cases fab with
              | false =>
                have gg : us 3 = .bool false := hdeps 3 (by decide)
                refine guard_off (j := 3) (want := true) (d := 84) (by rfl) (by rfl) gg (by rfl) ?_
                exact hK _ _ hB (fun _ _ h => h) rfl
              | true =>
                have gg : us 3 = .bool true := hdeps 3 (by decide)
                refine guard_on (j := 3) (want := true) (d := 84) (by rfl) (by rfl) gg ?_
                have s85 : b.tmps.getD 85 undef = .agg #[.slice a2 n2 c2] := (hslot 4 85 (by rfl)).trans (hdeps 4 (by decide))
                have s86 : b.tmps.getD 86 undef = .agg #[.slice a3 n3 c3] := (hslot 5 86 (by rfl)).trans (hdeps 5 (by decide))
                clear hdeps hslot hoth
                go_simp
                refine (implFlows_any _ _ ys zs _ hB.B.ints hB.C.ints).mono ?_
                rintro e wy ⟨rfl, hb⟩
                exact hK _ _ (hB.on hb) (gPr_on hb) (by show Value.bool (flowsTo ys zs) = Value.bool fbc; rw [hfbc])
            · intro b us w0 hslot hoth hB hdeps K hK
              cases fab with
              | false =>
                cases fbc with
                | false =>
                  refine guard_none (by rfl) ?_
                  have s84 : b.tmps.getD 84 undef = .bool false := (hslot 3 84 (by rfl)).trans (hdeps 3 (by decide))
                  have s87 : b.tmps.getD 87 undef = undef := (hslot 6 87 (by rfl)).trans (hdeps 6 (by decide))
                  clear hdeps hslot hoth
                  go_simp
                  exact hK _ _ hB (fun _ _ h => h) rfl
                | true =>
                  refine guard_none (by rfl) ?_
                  have s84 : b.tmps.getD 84 undef = .bool false := (hslot 3 84 (by rfl)).trans (hdeps 3 (by decide))
                  have s87 : b.tmps.getD 87 undef = undef := (hslot 6 87 (by rfl)).trans (hdeps 6 (by decide))
                  clear hdeps hslot hoth
                  go_simp
                  exact hK _ _ hB (fun _ _ h => h) rfl
              | true =>
                cases fbc with
                | false =>
                  refine guard_none (by rfl) ?_
                  have s84 : b.tmps.getD 84 undef = .bool true := (hslot 3 84 (by rfl)).trans (hdeps 3 (by decide))
                  have s87 : b.tmps.getD 87 undef = .bool false := (hslot 6 87 (by rfl)).trans (hdeps 6 (by decide))
                  clear hdeps hslot hoth
                  go_simp
                  exact hK _ _ hB (fun _ _ h => h) rfl
                | true =>
                  refine guard_none (by rfl) ?_
                  have s84 : b.tmps.getD 84 undef = .bool true := (hslot 3 84 (by rfl)).trans (hdeps 3 (by decide))
                  have s87 : b.tmps.getD 87 undef = .bool true := (hslot 6 87 (by rfl)).trans (hdeps 6 (by decide))
                  clear hdeps hslot hoth
                  go_simp
                  exact hK _ _ hB (fun _ _ h => h) rfl
            · intro b us w0 hslot hoth hB hdeps K hK
              refine guard_none (by rfl) ?_
              have s88 : b.tmps.getD 88 undef = .bool (fab && fbc) := (hslot 7 88 (by rfl)).trans (hdeps 7 (by decide))
              clear hdeps hslot hoth
              go_simp
              exact hK _ _ hB (fun _ _ h => h) rfl
            · intro b us w0 hslot hoth hB hdeps K hK
              cases fab with
              | false =>
                cases fbc with
                | false =>
                  have gg : us 8 = .bool false := hdeps 8 (by decide)
                  refine guard_off (j := 8) (want := true) (d := 89) (by rfl) (by rfl) gg (by rfl) ?_
                  exact hK _ _ hB (fun _ _ h => h) rfl
                | true =>
                  have gg : us 8 = .bool false := hdeps 8 (by decide)
                  refine guard_off (j := 8) (want := true) (d := 89) (by rfl) (by rfl) gg (by rfl) ?_
                  exact hK _ _ hB (fun _ _ h => h) rfl
              | true =>
                cases fbc with
                | false =>
                  have gg : us 8 = .bool false := hdeps 8 (by decide)
                  refine guard_off (j := 8) (want := true) (d := 89) (by rfl) (by rfl) gg (by rfl) ?_
                  exact hK _ _ hB (fun _ _ h => h) rfl
                | true =>
                  have gg : us 8 = .bool true := hdeps 8 (by decide)
                  refine guard_on (j := 8) (want := true) (d := 89) (by rfl) (by rfl) gg ?_
                  have s3 : b.tmps.getD 3 undef = .pointer (some ⟨w1.heap.size, 0, none⟩) := hoth 3 (by rfl)
                  have k3 := hB.A.cell
                  clear hdeps hslot hoth
                  go_simp
                  exact hK _ _ hB (fun _ _ h => h) rfl
            · intro b us w0 hslot hoth hB hdeps K hK
              cases fab with
              | false =>
                cases fbc with
                | false =>
                  have gg : us 8 = .bool false := hdeps 8 (by decide)
                  refine guard_off (j := 8) (want := true) (d := 89) (by rfl) (by rfl) gg (by rfl) ?_
                  exact hK _ _ hB (fun _ _ h => h) rfl
                | true =>
                  have gg : us 8 = .bool false := hdeps 8 (by decide)
                  refine guard_off (j := 8) (want := true) (d := 89) (by rfl) (by rfl) gg (by rfl) ?_
                  exact hK _ _ hB (fun _ _ h => h) rfl
              | true =>
                cases fbc with
                | false =>
                  have gg : us 8 = .bool false := hdeps 8 (by decide)
                  refine guard_off (j := 8) (want := true) (d := 89) (by rfl) (by rfl) gg (by rfl) ?_
                  exact hK _ _ hB (fun _ _ h => h) rfl
                | true =>
                  have gg : us 8 = .bool true := hdeps 8 (by decide)
                  refine guard_on (j := 8) (want := true) (d := 89) (by rfl) (by rfl) gg ?_
                  have s5 : b.tmps.getD 5 undef = .pointer (some ⟨w3.heap.size, 0, none⟩) := hoth 5 (by rfl)
                  have k5 := hB.C.cell
                  clear hdeps hslot hoth
                  go_simp
                  exact hK _ _ hB (fun _ _ h => h) rfl
            · intro b us w0 hslot hoth hB hdeps K hK
              cases fab with
              | false =>
                cases fbc with
                | false =>
                  have gg : us 8 = .bool false := hdeps 8 (by decide)
                  refine guard_off (j := 8) (want := true) (d := 89) (by rfl) (by rfl) gg (by rfl) ?_
                  exact hK _ _ hB (fun _ _ h => h) rfl
                | true =>
                  have gg : us 8 = .bool false := hdeps 8 (by decide)
                  refine guard_off (j := 8) (want := true) (d := 89) (by rfl) (by rfl) gg (by rfl) ?_
                  exact hK _ _ hB (fun _ _ h => h) rfl
              | true =>
                cases fbc with
                | false =>
                  have gg : us 8 = .bool false := hdeps 8 (by decide)
                  refine guard_off (j := 8) (want := true) (d := 89) (by rfl) (by rfl) gg (by rfl) ?_
                  exact hK _ _ hB (fun _ _ h => h) rfl
                | true =>
                  have gg : us 8 = .bool true := hdeps 8 (by decide)
                  refine guard_on (j := 8) (want := true) (d := 89) (by rfl) (by rfl) gg ?_
                  have s90 : b.tmps.getD 90 undef = .agg #[.slice a1 n1 c1] := (hslot 9 90 (by rfl)).trans (hdeps 9 (by decide))
                  have s91 : b.tmps.getD 91 undef = .agg #[.slice a3 n3 c3] := (hslot 10 91 (by rfl)).trans (hdeps 10 (by decide))
                  clear hdeps hslot hoth
                  go_simp
                  refine (implFlows_any _ _ xs zs _ hB.A.ints hB.C.ints).mono ?_
                  rintro e wy ⟨rfl, hb⟩
                  exact hK _ _ (hB.on hb) (gPr_on hb) (by show Value.bool (flowsTo xs zs) = Value.bool true; rw [LO rfl rfl])
            · intro b us w0 hslot hoth hB hdeps K hK
              cases fab with
              | false =>
                cases fbc with
                | false =>
                  have gg : us 8 = .bool false := hdeps 8 (by decide)
                  refine guard_off (j := 8) (want := true) (d := 89) (by rfl) (by rfl) gg (by rfl) ?_
                  exact hK _ _ hB (fun _ _ h => h) rfl
                | true =>
                  have gg : us 8 = .bool false := hdeps 8 (by decide)
                  refine guard_off (j := 8) (want := true) (d := 89) (by rfl) (by rfl) gg (by rfl) ?_
                  exact hK _ _ hB (fun _ _ h => h) rfl
              | true =>
                cases fbc with
                | false =>
                  have gg : us 8 = .bool false := hdeps 8 (by decide)
                  refine guard_off (j := 8) (want := true) (d := 89) (by rfl) (by rfl) gg (by rfl) ?_
                  exact hK _ _ hB (fun _ _ h => h) rfl
                | true =>
                  have gg : us 8 = .bool true := hdeps 8 (by decide)
                  refine guard_on (j := 8) (want := true) (d := 89) (by rfl) (by rfl) gg ?_
                  have s92 : b.tmps.getD 92 undef = .bool true := (hslot 11 92 (by rfl)).trans (hdeps 11 (by decide))
                  clear hdeps hslot hoth
                  go_simp
                  exact hK _ _ hB (fun _ _ h => h) rfl
            · intro b us w0 hslot hoth hB hdeps K hK
              cases fab with
              | false =>
                cases fbc with
                | false =>
                  refine guard_none (by rfl) ?_
                  have s89 : b.tmps.getD 89 undef = .bool (false && false) := (hslot 8 89 (by rfl)).trans (hdeps 8 (by decide))
                  have s93 : b.tmps.getD 93 undef = undef := (hslot 12 93 (by rfl)).trans (hdeps 12 (by decide))
                  clear hdeps hslot hoth
                  go_simp
                  exact hK _ _ hB (fun _ _ h => h) rfl
                | true =>
                  refine guard_none (by rfl) ?_
                  have s89 : b.tmps.getD 89 undef = .bool (false && true) := (hslot 8 89 (by rfl)).trans (hdeps 8 (by decide))
                  have s93 : b.tmps.getD 93 undef = undef := (hslot 12 93 (by rfl)).trans (hdeps 12 (by decide))
                  clear hdeps hslot hoth
                  go_simp
                  exact hK _ _ hB (fun _ _ h => h) rfl
              | true =>
                cases fbc with
                | false =>
                  refine guard_none (by rfl) ?_
                  have s89 : b.tmps.getD 89 undef = .bool (true && false) := (hslot 8 89 (by rfl)).trans (hdeps 8 (by decide))
                  have s93 : b.tmps.getD 93 undef = undef := (hslot 12 93 (by rfl)).trans (hdeps 12 (by decide))
                  clear hdeps hslot hoth
                  go_simp
                  exact hK _ _ hB (fun _ _ h => h) rfl
                | true =>
                  refine guard_none (by rfl) ?_
                  have s89 : b.tmps.getD 89 undef = .bool (true && true) := (hslot 8 89 (by rfl)).trans (hdeps 8 (by decide))
                  have s93 : b.tmps.getD 93 undef = .bool false := (hslot 12 93 (by rfl)).trans (hdeps 12 (by decide))
                  clear hdeps hslot hoth
                  go_simp
                  exact hK _ _ hB (fun _ _ h => h) rfl
            · intro b us w0 hslot hoth hB hdeps K hK
              refine guard_none (by rfl) ?_
              have s94 : b.tmps.getD 94 undef = .bool false := (hslot 13 94 (by rfl)).trans (hdeps 13 (by decide))
              clear hdeps hslot hoth
              go_simp
              exact hK _ _ hB (fun _ _ h => h) rfl
            · intro b us w0 hslot hoth hB hdeps K hK
              have gg : us 14 = .bool false := hdeps 14 (by decide)
              refine guard_on (j := 14) (want := false) (d := 95) (by rfl) (by rfl) gg ?_
              have s3 : b.tmps.getD 3 undef = .pointer (some ⟨w1.heap.size, 0, none⟩) := hoth 3 (by rfl)
              have k3 := hB.A.cell
              clear hdeps hslot hoth
              go_simp
              exact hK _ _ hB (fun _ _ h => h) rfl
            · intro b us w0 hslot hoth hB hdeps K hK
              have gg : us 14 = .bool false := hdeps 14 (by decide)
              refine guard_on (j := 14) (want := false) (d := 95) (by rfl) (by rfl) gg ?_
              have s4 : b.tmps.getD 4 undef = .pointer (some ⟨w1.heap.size + 1, 0, none⟩) := hoth 4 (by rfl)
              have k4 := hB.B.cell
              clear hdeps hslot hoth
              go_simp
              exact hK _ _ hB (fun _ _ h => h) rfl
            · intro b us w0 hslot hoth hB hdeps K hK
              have gg : us 14 = .bool false := hdeps 14 (by decide)
              refine guard_on (j := 14) (want := false) (d := 95) (by rfl) (by rfl) gg ?_
              have s96 : b.tmps.getD 96 undef = .agg #[.slice a1 n1 c1] := (hslot 15 96 (by rfl)).trans (hdeps 15 (by decide))
              have s97 : b.tmps.getD 97 undef = .agg #[.slice a2 n2 c2] := (hslot 16 97 (by rfl)).trans (hdeps 16 (by decide))
              clear hdeps hslot hoth
              go_simp
              refine (implFlows_any _ _ xs ys _ hB.A.ints hB.B.ints).mono ?_
              rintro e wy ⟨rfl, hb⟩
              exact hK _ _ (hB.on hb) (gPr_on hb) (by show Value.bool (flowsTo xs ys) = Value.bool fab; rw [hfab])
            · intro b us w0 hslot hoth hB hdeps K hK
              have gg : us 14 = .bool false := hdeps 14 (by decide)
              refine guard_on (j := 14) (want := false) (d := 95) (by rfl) (by rfl) gg ?_
              have s98 : b.tmps.getD 98 undef = .bool fab := (hslot 17 98 (by rfl)).trans (hdeps 17 (by decide))
              clear hdeps hslot hoth
              go_simp
              exact hK _ _ hB (fun _ _ h => h) rfl
            · intro b us w0 hslot hoth hB hdeps K hK
              cases fab with
              | false =>
                have gg : us 18 = .bool false := hdeps 18 (by decide)
                refine guard_off (j := 18) (want := true) (d := 99) (by rfl) (by rfl) gg (by rfl) ?_
                exact hK _ _ hB (fun _ _ h => h) rfl
              | true =>
                have gg : us 18 = .bool true := hdeps 18 (by decide)
                refine guard_on (j := 18) (want := true) (d := 99) (by rfl) (by rfl) gg ?_
                have s4 : b.tmps.getD 4 undef = .pointer (some ⟨w1.heap.size + 1, 0, none⟩) := hoth 4 (by rfl)
                have k4 := hB.B.cell
                clear hdeps hslot hoth
                go_simp
                exact hK _ _ hB (fun _ _ h => h) rfl
            · intro b us w0 hslot hoth hB hdeps K hK
              cases fab with
              | false =>
                have gg : us 18 = .bool false := hdeps 18 (by decide)
                refine guard_off (j := 18) (want := true) (d := 99) (by rfl) (by rfl) gg (by rfl) ?_
                exact hK _ _ hB (fun _ _ h => h) rfl
              | true =>
                have gg : us 18 = .bool true := hdeps 18 (by decide)
                refine guard_on (j := 18) (want := true) (d := 99) (by rfl) (by rfl) gg ?_
                have s3 : b.tmps.getD 3 undef = .pointer (some ⟨w1.heap.size, 0, none⟩) := hoth 3 (by rfl)
                have k3 := hB.A.cell
                clear hdeps hslot hoth
                go_simp
                exact hK _ _ hB (fun _ _ h => h) rfl
            · intro b us w0 hslot hoth hB hdeps K hK
              cases fab with
              | false =>
                have gg : us 18 = .bool false := hdeps 18 (by decide)
                refine guard_off (j := 18) (want := true) (d := 99) (by rfl) (by rfl) gg (by rfl) ?_
                exact hK _ _ hB (fun _ _ h => h) rfl
              | true =>
                have gg : us 18 = .bool true := hdeps 18 (by decide)
                refine guard_on (j := 18) (want := true) (d := 99) (by rfl) (by rfl) gg ?_
                have s100 : b.tmps.getD 100 undef = .agg #[.slice a2 n2 c2] := (hslot 19 100 (by rfl)).trans (hdeps 19 (by decide))
                have s101 : b.tmps.getD 101 undef = .agg #[.slice a1 n1 c1] := (hslot 20 101 (by rfl)).trans (hdeps 20 (by decide))
                clear hdeps hslot hoth
                go_simp
                refine (implFlows_any _ _ ys xs _ hB.B.ints hB.A.ints).mono ?_
                rintro e wy ⟨rfl, hb⟩
                exact hK _ _ (hB.on hb) (gPr_on hb) (by show Value.bool (flowsTo ys xs) = Value.bool fba; rw [hfba])
            · intro b us w0 hslot hoth hB hdeps K hK
              cases fab with
              | false =>
                cases fba with
                | false =>
                  have gg : us 14 = .bool false := hdeps 14 (by decide)
                  refine guard_on (j := 14) (want := false) (d := 95) (by rfl) (by rfl) gg ?_
                  have s99 : b.tmps.getD 99 undef = .bool false := (hslot 18 99 (by rfl)).trans (hdeps 18 (by decide))
                  have s102 : b.tmps.getD 102 undef = undef := (hslot 21 102 (by rfl)).trans (hdeps 21 (by decide))
                  clear hdeps hslot hoth
                  go_simp
                  exact hK _ _ hB (fun _ _ h => h) rfl
                | true =>
                  have gg : us 14 = .bool false := hdeps 14 (by decide)
                  refine guard_on (j := 14) (want := false) (d := 95) (by rfl) (by rfl) gg ?_
                  have s99 : b.tmps.getD 99 undef = .bool false := (hslot 18 99 (by rfl)).trans (hdeps 18 (by decide))
                  have s102 : b.tmps.getD 102 undef = undef := (hslot 21 102 (by rfl)).trans (hdeps 21 (by decide))
                  clear hdeps hslot hoth
                  go_simp
                  exact hK _ _ hB (fun _ _ h => h) rfl
              | true =>
                cases fba with
                | false =>
                  have gg : us 14 = .bool false := hdeps 14 (by decide)
                  refine guard_on (j := 14) (want := false) (d := 95) (by rfl) (by rfl) gg ?_
                  have s99 : b.tmps.getD 99 undef = .bool true := (hslot 18 99 (by rfl)).trans (hdeps 18 (by decide))
                  have s102 : b.tmps.getD 102 undef = .bool false := (hslot 21 102 (by rfl)).trans (hdeps 21 (by decide))
                  clear hdeps hslot hoth
                  go_simp
                  exact hK _ _ hB (fun _ _ h => h) rfl
                | true =>
                  have gg : us 14 = .bool false := hdeps 14 (by decide)
                  refine guard_on (j := 14) (want := false) (d := 95) (by rfl) (by rfl) gg ?_
                  have s99 : b.tmps.getD 99 undef = .bool true := (hslot 18 99 (by rfl)).trans (hdeps 18 (by decide))
                  have s102 : b.tmps.getD 102 undef = .bool true := (hslot 21 102 (by rfl)).trans (hdeps 21 (by decide))
                  clear hdeps hslot hoth
                  go_simp
                  exact hK _ _ hB (fun _ _ h => h) rfl
            · intro b us w0 hslot hoth hB hdeps K hK
              have gg : us 14 = .bool false := hdeps 14 (by decide)
              refine guard_on (j := 14) (want := false) (d := 95) (by rfl) (by rfl) gg ?_
              have s103 : b.tmps.getD 103 undef = .bool (fab && fba) := (hslot 22 103 (by rfl)).trans (hdeps 22 (by decide))
              clear hdeps hslot hoth
              go_simp
              exact hK _ _ hB (fun _ _ h => h) rfl
            · intro b us w0 hslot hoth hB hdeps K hK
              cases fab with
              | false =>
                cases fba with
                | false =>
                  have gg : us 23 = .bool false := hdeps 23 (by decide)
                  refine guard_off (j := 23) (want := true) (d := 104) (by rfl) (by rfl) gg (by rfl) ?_
                  exact hK _ _ hB (fun _ _ h => h) rfl
                | true =>
                  have gg : us 23 = .bool false := hdeps 23 (by decide)
                  refine guard_off (j := 23) (want := true) (d := 104) (by rfl) (by rfl) gg (by rfl) ?_
                  exact hK _ _ hB (fun _ _ h => h) rfl
              | true =>
                cases fba with
                | false =>
                  have gg : us 23 = .bool false := hdeps 23 (by decide)
                  refine guard_off (j := 23) (want := true) (d := 104) (by rfl) (by rfl) gg (by rfl) ?_
                  exact hK _ _ hB (fun _ _ h => h) rfl
                | true =>
                  have gg : us 23 = .bool true := hdeps 23 (by decide)
                  refine guard_on (j := 23) (want := true) (d := 104) (by rfl) (by rfl) gg ?_
                  have s3 : b.tmps.getD 3 undef = .pointer (some ⟨w1.heap.size, 0, none⟩) := hoth 3 (by rfl)
                  have k3 := hB.A.cell
                  clear hdeps hslot hoth
                  go_simp
                  exact hK _ _ hB (fun _ _ h => h) rfl
            · intro b us w0 hslot hoth hB hdeps K hK
              cases fab with
              | false =>
                cases fba with
                | false =>
                  have gg : us 23 = .bool false := hdeps 23 (by decide)
                  refine guard_off (j := 23) (want := true) (d := 104) (by rfl) (by rfl) gg (by rfl) ?_
                  exact hK _ _ hB (fun _ _ h => h) rfl
                | true =>
                  have gg : us 23 = .bool false := hdeps 23 (by decide)
                  refine guard_off (j := 23) (want := true) (d := 104) (by rfl) (by rfl) gg (by rfl) ?_
                  exact hK _ _ hB (fun _ _ h => h) rfl
              | true =>
                cases fba with
                | false =>
                  have gg : us 23 = .bool false := hdeps 23 (by decide)
                  refine guard_off (j := 23) (want := true) (d := 104) (by rfl) (by rfl) gg (by rfl) ?_
                  exact hK _ _ hB (fun _ _ h => h) rfl
                | true =>
                  have gg : us 23 = .bool true := hdeps 23 (by decide)
                  refine guard_on (j := 23) (want := true) (d := 104) (by rfl) (by rfl) gg ?_
                  have s4 : b.tmps.getD 4 undef = .pointer (some ⟨w1.heap.size + 1, 0, none⟩) := hoth 4 (by rfl)
                  have k4 := hB.B.cell
                  clear hdeps hslot hoth
                  go_simp
                  exact hK _ _ hB (fun _ _ h => h) rfl
            · intro b us w0 hslot hoth hB hdeps K hK
              cases fab with
              | false =>
                cases fba with
                | false =>
                  have gg : us 23 = .bool false := hdeps 23 (by decide)
                  refine guard_off (j := 23) (want := true) (d := 104) (by rfl) (by rfl) gg (by rfl) ?_
                  exact hK _ _ hB (fun _ _ h => h) rfl
                | true =>
                  have gg : us 23 = .bool false := hdeps 23 (by decide)
                  refine guard_off (j := 23) (want := true) (d := 104) (by rfl) (by rfl) gg (by rfl) ?_
                  exact hK _ _ hB (fun _ _ h => h) rfl
              | true =>
                cases fba with
                | false =>
                  have gg : us 23 = .bool false := hdeps 23 (by decide)
                  refine guard_off (j := 23) (want := true) (d := 104) (by rfl) (by rfl) gg (by rfl) ?_
                  exact hK _ _ hB (fun _ _ h => h) rfl
                | true =>
                  have gg : us 23 = .bool true := hdeps 23 (by decide)
                  refine guard_on (j := 23) (want := true) (d := 104) (by rfl) (by rfl) gg ?_
                  have s105 : b.tmps.getD 105 undef = .agg #[.slice a1 n1 c1] := (hslot 24 105 (by rfl)).trans (hdeps 24 (by decide))
                  have s106 : b.tmps.getD 106 undef = .agg #[.slice a2 n2 c2] := (hslot 25 106 (by rfl)).trans (hdeps 25 (by decide))
                  clear hdeps hslot hoth
                  go_simp
                  refine (implSameLabel_any _ _ xs ys _ hB.A.ints hB.B.ints (right_len rA)).mono ?_
                  rintro e wy ⟨rfl, hb⟩
                  exact hK _ _ (hB.on hb) (gPr_on hb) (by show Value.bool (sameInts xs ys) = Value.bool true; rw [LS rfl rfl])
            · intro b us w0 hslot hoth hB hdeps K hK
              cases fab with
              | false =>
                cases fba with
                | false =>
                  have gg : us 23 = .bool false := hdeps 23 (by decide)
                  refine guard_off (j := 23) (want := true) (d := 104) (by rfl) (by rfl) gg (by rfl) ?_
                  exact hK _ _ hB (fun _ _ h => h) rfl
                | true =>
                  have gg : us 23 = .bool false := hdeps 23 (by decide)
                  refine guard_off (j := 23) (want := true) (d := 104) (by rfl) (by rfl) gg (by rfl) ?_
                  exact hK _ _ hB (fun _ _ h => h) rfl
              | true =>
                cases fba with
                | false =>
                  have gg : us 23 = .bool false := hdeps 23 (by decide)
                  refine guard_off (j := 23) (want := true) (d := 104) (by rfl) (by rfl) gg (by rfl) ?_
                  exact hK _ _ hB (fun _ _ h => h) rfl
                | true =>
                  have gg : us 23 = .bool true := hdeps 23 (by decide)
                  refine guard_on (j := 23) (want := true) (d := 104) (by rfl) (by rfl) gg ?_
                  have s107 : b.tmps.getD 107 undef = .bool true := (hslot 26 107 (by rfl)).trans (hdeps 26 (by decide))
                  clear hdeps hslot hoth
                  go_simp
                  exact hK _ _ hB (fun _ _ h => h) rfl
            · intro b us w0 hslot hoth hB hdeps K hK
              cases fab with
              | false =>
                cases fba with
                | false =>
                  have gg : us 14 = .bool false := hdeps 14 (by decide)
                  refine guard_on (j := 14) (want := false) (d := 95) (by rfl) (by rfl) gg ?_
                  have s104 : b.tmps.getD 104 undef = .bool (false && false) := (hslot 23 104 (by rfl)).trans (hdeps 23 (by decide))
                  have s108 : b.tmps.getD 108 undef = undef := (hslot 27 108 (by rfl)).trans (hdeps 27 (by decide))
                  clear hdeps hslot hoth
                  go_simp
                  exact hK _ _ hB (fun _ _ h => h) rfl
                | true =>
                  have gg : us 14 = .bool false := hdeps 14 (by decide)
                  refine guard_on (j := 14) (want := false) (d := 95) (by rfl) (by rfl) gg ?_
                  have s104 : b.tmps.getD 104 undef = .bool (false && true) := (hslot 23 104 (by rfl)).trans (hdeps 23 (by decide))
                  have s108 : b.tmps.getD 108 undef = undef := (hslot 27 108 (by rfl)).trans (hdeps 27 (by decide))
                  clear hdeps hslot hoth
                  go_simp
                  exact hK _ _ hB (fun _ _ h => h) rfl
              | true =>
                cases fba with
                | false =>
                  have gg : us 14 = .bool false := hdeps 14 (by decide)
                  refine guard_on (j := 14) (want := false) (d := 95) (by rfl) (by rfl) gg ?_
                  have s104 : b.tmps.getD 104 undef = .bool (true && false) := (hslot 23 104 (by rfl)).trans (hdeps 23 (by decide))
                  have s108 : b.tmps.getD 108 undef = undef := (hslot 27 108 (by rfl)).trans (hdeps 27 (by decide))
                  clear hdeps hslot hoth
                  go_simp
                  exact hK _ _ hB (fun _ _ h => h) rfl
                | true =>
                  have gg : us 14 = .bool false := hdeps 14 (by decide)
                  refine guard_on (j := 14) (want := false) (d := 95) (by rfl) (by rfl) gg ?_
                  have s104 : b.tmps.getD 104 undef = .bool (true && true) := (hslot 23 104 (by rfl)).trans (hdeps 23 (by decide))
                  have s108 : b.tmps.getD 108 undef = .bool false := (hslot 27 108 (by rfl)).trans (hdeps 27 (by decide))
                  clear hdeps hslot hoth
                  go_simp
                  exact hK _ _ hB (fun _ _ h => h) rfl
            · intro b us w0 hslot hoth hB hdeps K hK
              refine guard_none (by rfl) ?_
              have s95 : b.tmps.getD 95 undef = .bool false := (hslot 14 95 (by rfl)).trans (hdeps 14 (by decide))
              have s109 : b.tmps.getD 109 undef = .bool false := (hslot 28 109 (by rfl)).trans (hdeps 28 (by decide))
              clear hdeps hslot hoth
              go_simp
              exact hK _ _ hB (fun _ _ h => h) rfl
          · intro us' w8' hB hG' a' ha'
            have g' : us' 29 = .bool false := hG' 29 (by decide)
            clear hG'
            have HI : Hid (Five w w1.heap.size (w1.heap.size + 1) w3.heap.size w4.heap.size w5.heap.size (.slice a1 n1 c1) (.slice a2 n2 c2) (.slice a3 n3 c3) (.slice a7 n7 c7) (.slice a8 n8 c8) xs ys zs w8') := hB
            clear hB HH LO LS
            simp only [putAll, g'] at ha'
            subst ha'
            go_frame
            have k8 := HI.out.A.cell
            go_wp2_with fail
            refine (implShow_any _ xs _ HI.out.A.ints).mono ?_
            rintro e w7 ⟨rfl, hb7⟩
            have HJ : Hid (Five w w1.heap.size (w1.heap.size + 1) w3.heap.size w4.heap.size w5.heap.size (.slice a1 n1 c1) (.slice a2 n2 c2) (.slice a3 n3 c3) (.slice a7 n7 c7) (.slice a8 n8 c8) xs ys zs w7) := HI.out.on hb7
            clear HI hb7 k8
            go_wp2_with fail
            have D4 := implRead_any (showOf xs) w7
            rw [show rightOf (readVals (showOf xs)) = xs by rw [law_read rA]; exact rightOf_yes (right_ok rA), show labelOk (readVals (showOf xs)) = true by rw [law_read rA]; exact right_ok rA] at D4
            refine D4.mono ?_
            rintro e w8 ⟨r9, rfl, o9, hb8⟩
            clear D4
            have h80 : Below w.heap.size w w8 := (HJ.out.on hb8).below
            have HS : Hid (Six w w1.heap.size (w1.heap.size + 1) w3.heap.size w4.heap.size w5.heap.size w8.heap.size (.slice a1 n1 c1) (.slice a2 n2 c2) (.slice a3 n3 c3) (.slice a7 n7 c7) (.slice a8 n8 c8) r9 xs ys zs (w8.alloc (.cells #[r9] 26 (0, 0)))) :=
              ⟨(HJ.out.on hb8).A.on (below_alloc _ _), (HJ.out.on hb8).B.on (below_alloc _ _), (HJ.out.on hb8).C.on (below_alloc _ _), (HJ.out.on hb8).J.on (below_alloc _ _), (HJ.out.on hb8).M.on (below_alloc _ _), lab_new (isInts_own o9), h80.trans ((below_alloc w8 _).mono h80.size)⟩
            obtain ⟨a9, n9, c9, rfl⟩ := own_shape o9
            clear o9 hb8 h80 HJ
            have LU := law_up rA rB
            have LW := law_swap rA rB
            have LF := law_flat rA
            have LS1 : sameInts (joinOf ys xs) (joinOf xs ys) = true := by rw [LW.1]; exact same_self _
            have LS2 : sameInts (meetOf ys xs) (meetOf xs ys) = true := by rw [LW.2.1]; exact same_self _
            have LS3 : sameInts (joinOf xs (meetOf xs ys)) xs = true := by rw [LW.2.2]; exact same_self _
            clear hfac hfca hfbc hfcb hfab hfba
            go_wp2_with fail
            refine wp_region_shut (by kernel_rfl) (by kernel_rfl) (by kernel_rfl) (by kernel_rfl) (Six w w1.heap.size (w1.heap.size + 1) w3.heap.size w4.heap.size w5.heap.size w8.heap.size (.slice a1 n1 c1) (.slice a2 n2 c2) (.slice a3 n3 c3) (.slice a7 n7 c7) (.slice a8 n8 c8) (.slice a9 n9 c9) xs ys zs) (gPr [.val (true) (.agg #[.slice a1 n1 c1]), .val (true) (.agg #[.slice a7 n7 c7]), .val (true) (.bool true), .val (true) (.bool true), .val (true) (.agg #[.slice a2 n2 c2]), .val (true) (.agg #[.slice a7 n7 c7]), .val (true) (.bool true), .val (true) (.bool true), .val (true) (.bool true), .val (true) (.agg #[.slice a8 n8 c8]), .val (true) (.agg #[.slice a1 n1 c1]), .val (true) (.bool true), .val (true) (.bool true), .val (true) (.bool true), .val (true) (.agg #[.slice a8 n8 c8]), .val (true) (.agg #[.slice a2 n2 c2]), .val (true) (.bool true), .val (true) (.bool true), .val (true) (.bool true), .val (true) (.agg #[.slice a2 n2 c2]), .val (true) (.agg #[.slice a1 n1 c1]), .lab (true) ((joinOf ys xs)), .val (true) (.agg #[.slice a7 n7 c7]), .val (true) (.bool true), .val (true) (.bool true), .val (true) (.bool true), .val (true) (.agg #[.slice a2 n2 c2]), .val (true) (.agg #[.slice a1 n1 c1]), .lab (true) ((meetOf ys xs)), .val (true) (.agg #[.slice a8 n8 c8]), .val (true) (.bool true), .val (true) (.bool true), .val (true) (.bool true), .val (true) (.agg #[.slice a1 n1 c1]), .val (true) (.agg #[.slice a8 n8 c8]), .lab (true) ((joinOf xs (meetOf xs ys))), .val (true) (.agg #[.slice a1 n1 c1]), .val (true) (.bool true), .val (true) (.bool true), .val (true) (.bool true), .val (true) (.bool true), .val (true) (.bool true), .val (true) (.bool true), .val (true) (.agg #[.slice a9 n9 c9]), .val (true) (.agg #[.slice a1 n1 c1]), .val (true) (.bool true), .val (true) (.bool true), .val (true) (.bool true), .lab (true) ((flatOf 0)), .val (true) (.agg #[.slice a1 n1 c1]), .val (true) (.bool true), .val (true) (.bool true), .val (true) (.bool true), .val (true) (.agg #[.slice a1 n1 c1]), .lab (true) ((flatOf 3)), .val (true) (.bool true), .val (true) (.bool true), .val (true) (.bool true)]) HS.out.drew ?_ ?_
            · refine ⟨?_, ?_, ?_, ?_, ?_, ?_, ?_, ?_, ?_, ?_, ?_, ?_, ?_, ?_, ?_, ?_, ?_, ?_, ?_, ?_, ?_, ?_, ?_, ?_, ?_, ?_, ?_, ?_, ?_, ?_, ?_, ?_, ?_, ?_, ?_, ?_, ?_, ?_, ?_, ?_, ?_, ?_, ?_, ?_, ?_, ?_, ?_, ?_, ?_, ?_, ?_, ?_, ?_, ?_, ?_, ?_, ?_, ?_, trivial⟩
              · intro b us w0 hslot hoth hB hdeps K hK
                refine guard_none (by rfl) ?_
                have s3 : b.tmps.getD 3 undef = .pointer (some ⟨w1.heap.size, 0, none⟩) := hoth 3 (by rfl)
                have k3 := hB.A.cell
                clear hdeps hslot hoth
                go_simp
                exact hK _ _ hB (fun _ _ h => h) rfl
              · intro b us w0 hslot hoth hB hdeps K hK
                refine guard_none (by rfl) ?_
                have s7 : b.tmps.getD 7 undef = .pointer (some ⟨w4.heap.size, 0, none⟩) := hoth 7 (by rfl)
                have k7 := hB.J.cell
                clear hdeps hslot hoth
                go_simp
                exact hK _ _ hB (fun _ _ h => h) rfl
              · intro b us w0 hslot hoth hB hdeps K hK
                refine guard_none (by rfl) ?_
                have s117 : b.tmps.getD 117 undef = .agg #[.slice a1 n1 c1] := (hslot 0 117 (by rfl)).trans (deps_at hdeps 0 (by rfl))
                have s118 : b.tmps.getD 118 undef = .agg #[.slice a7 n7 c7] := (hslot 1 118 (by rfl)).trans (deps_at hdeps 1 (by rfl))
                clear hdeps hslot hoth
                go_simp
                refine (implFlows_any _ _ xs (joinOf xs ys) _ hB.A.ints hB.J.ints).mono ?_
                rintro e wy ⟨rfl, hb⟩
                exact hK _ _ (hB.on hb) (gPr_on hb) (by show Value.bool (flowsTo xs (joinOf xs ys)) = Value.bool true; rw [LU.1])
              · intro b us w0 hslot hoth hB hdeps K hK
                refine guard_none (by rfl) ?_
                have s119 : b.tmps.getD 119 undef = .bool true := (hslot 2 119 (by rfl)).trans (deps_at hdeps 2 (by rfl))
                clear hdeps hslot hoth
                go_simp
                exact hK _ _ hB (fun _ _ h => h) rfl
              · intro b us w0 hslot hoth hB hdeps K hK
                have gg : us 3 = .bool true := deps_at hdeps 3 (by rfl)
                refine guard_on (j := 3) (want := true) (d := 120) (by rfl) (by rfl) gg ?_
                have s4 : b.tmps.getD 4 undef = .pointer (some ⟨w1.heap.size + 1, 0, none⟩) := hoth 4 (by rfl)
                have k4 := hB.B.cell
                clear hdeps hslot hoth
                go_simp
                exact hK _ _ hB (fun _ _ h => h) rfl
              · intro b us w0 hslot hoth hB hdeps K hK
                have gg : us 3 = .bool true := deps_at hdeps 3 (by rfl)
                refine guard_on (j := 3) (want := true) (d := 120) (by rfl) (by rfl) gg ?_
                have s7 : b.tmps.getD 7 undef = .pointer (some ⟨w4.heap.size, 0, none⟩) := hoth 7 (by rfl)
                have k7 := hB.J.cell
                clear hdeps hslot hoth
                go_simp
                exact hK _ _ hB (fun _ _ h => h) rfl
              · intro b us w0 hslot hoth hB hdeps K hK
                have gg : us 3 = .bool true := deps_at hdeps 3 (by rfl)
                refine guard_on (j := 3) (want := true) (d := 120) (by rfl) (by rfl) gg ?_
                have s121 : b.tmps.getD 121 undef = .agg #[.slice a2 n2 c2] := (hslot 4 121 (by rfl)).trans (deps_at hdeps 4 (by rfl))
                have s122 : b.tmps.getD 122 undef = .agg #[.slice a7 n7 c7] := (hslot 5 122 (by rfl)).trans (deps_at hdeps 5 (by rfl))
                clear hdeps hslot hoth
                go_simp
                refine (implFlows_any _ _ ys (joinOf xs ys) _ hB.B.ints hB.J.ints).mono ?_
                rintro e wy ⟨rfl, hb⟩
                exact hK _ _ (hB.on hb) (gPr_on hb) (by show Value.bool (flowsTo ys (joinOf xs ys)) = Value.bool true; rw [LU.2.1])
              · intro b us w0 hslot hoth hB hdeps K hK
                refine guard_none (by rfl) ?_
                have s120 : b.tmps.getD 120 undef = .bool true := (hslot 3 120 (by rfl)).trans (deps_at hdeps 3 (by rfl))
                have s123 : b.tmps.getD 123 undef = .bool true := (hslot 6 123 (by rfl)).trans (deps_at hdeps 6 (by rfl))
                clear hdeps hslot hoth
                go_simp
                exact hK _ _ hB (fun _ _ h => h) rfl
              · intro b us w0 hslot hoth hB hdeps K hK
                refine guard_none (by rfl) ?_
                have s124 : b.tmps.getD 124 undef = .bool true := (hslot 7 124 (by rfl)).trans (deps_at hdeps 7 (by rfl))
                clear hdeps hslot hoth
                go_simp
                exact hK _ _ hB (fun _ _ h => h) rfl
              · intro b us w0 hslot hoth hB hdeps K hK
                have gg : us 8 = .bool true := deps_at hdeps 8 (by rfl)
                refine guard_on (j := 8) (want := true) (d := 125) (by rfl) (by rfl) gg ?_
                have s8 : b.tmps.getD 8 undef = .pointer (some ⟨w5.heap.size, 0, none⟩) := hoth 8 (by rfl)
                have k8 := hB.M.cell
                clear hdeps hslot hoth
                go_simp
                exact hK _ _ hB (fun _ _ h => h) rfl
              · intro b us w0 hslot hoth hB hdeps K hK
                have gg : us 8 = .bool true := deps_at hdeps 8 (by rfl)
                refine guard_on (j := 8) (want := true) (d := 125) (by rfl) (by rfl) gg ?_
                have s3 : b.tmps.getD 3 undef = .pointer (some ⟨w1.heap.size, 0, none⟩) := hoth 3 (by rfl)
                have k3 := hB.A.cell
                clear hdeps hslot hoth
                go_simp
                exact hK _ _ hB (fun _ _ h => h) rfl
              · intro b us w0 hslot hoth hB hdeps K hK
                have gg : us 8 = .bool true := deps_at hdeps 8 (by rfl)
                refine guard_on (j := 8) (want := true) (d := 125) (by rfl) (by rfl) gg ?_
                have s126 : b.tmps.getD 126 undef = .agg #[.slice a8 n8 c8] := (hslot 9 126 (by rfl)).trans (deps_at hdeps 9 (by rfl))
                have s127 : b.tmps.getD 127 undef = .agg #[.slice a1 n1 c1] := (hslot 10 127 (by rfl)).trans (deps_at hdeps 10 (by rfl))
                clear hdeps hslot hoth
                go_simp
                refine (implFlows_any _ _ (meetOf xs ys) xs _ hB.M.ints hB.A.ints).mono ?_
                rintro e wy ⟨rfl, hb⟩
                exact hK _ _ (hB.on hb) (gPr_on hb) (by show Value.bool (flowsTo (meetOf xs ys) xs) = Value.bool true; rw [LU.2.2.1])
              · intro b us w0 hslot hoth hB hdeps K hK
                refine guard_none (by rfl) ?_
                have s125 : b.tmps.getD 125 undef = .bool true := (hslot 8 125 (by rfl)).trans (deps_at hdeps 8 (by rfl))
                have s128 : b.tmps.getD 128 undef = .bool true := (hslot 11 128 (by rfl)).trans (deps_at hdeps 11 (by rfl))
                clear hdeps hslot hoth
                go_simp
                exact hK _ _ hB (fun _ _ h => h) rfl
              · intro b us w0 hslot hoth hB hdeps K hK
                refine guard_none (by rfl) ?_
                have s129 : b.tmps.getD 129 undef = .bool true := (hslot 12 129 (by rfl)).trans (deps_at hdeps 12 (by rfl))
                clear hdeps hslot hoth
                go_simp
                exact hK _ _ hB (fun _ _ h => h) rfl
              · intro b us w0 hslot hoth hB hdeps K hK
                have gg : us 13 = .bool true := deps_at hdeps 13 (by rfl)
                refine guard_on (j := 13) (want := true) (d := 130) (by rfl) (by rfl) gg ?_
                have s8 : b.tmps.getD 8 undef = .pointer (some ⟨w5.heap.size, 0, none⟩) := hoth 8 (by rfl)
                have k8 := hB.M.cell
                clear hdeps hslot hoth
                go_simp
                exact hK _ _ hB (fun _ _ h => h) rfl
              · intro b us w0 hslot hoth hB hdeps K hK
                have gg : us 13 = .bool true := deps_at hdeps 13 (by rfl)
                refine guard_on (j := 13) (want := true) (d := 130) (by rfl) (by rfl) gg ?_
                have s4 : b.tmps.getD 4 undef = .pointer (some ⟨w1.heap.size + 1, 0, none⟩) := hoth 4 (by rfl)
                have k4 := hB.B.cell
                clear hdeps hslot hoth
                go_simp
                exact hK _ _ hB (fun _ _ h => h) rfl
              · intro b us w0 hslot hoth hB hdeps K hK
                have gg : us 13 = .bool true := deps_at hdeps 13 (by rfl)
                refine guard_on (j := 13) (want := true) (d := 130) (by rfl) (by rfl) gg ?_
                have s131 : b.tmps.getD 131 undef = .agg #[.slice a8 n8 c8] := (hslot 14 131 (by rfl)).trans (deps_at hdeps 14 (by rfl))
                have s132 : b.tmps.getD 132 undef = .agg #[.slice a2 n2 c2] := (hslot 15 132 (by rfl)).trans (deps_at hdeps 15 (by rfl))
                clear hdeps hslot hoth
                go_simp
                refine (implFlows_any _ _ (meetOf xs ys) ys _ hB.M.ints hB.B.ints).mono ?_
                rintro e wy ⟨rfl, hb⟩
                exact hK _ _ (hB.on hb) (gPr_on hb) (by show Value.bool (flowsTo (meetOf xs ys) ys) = Value.bool true; rw [LU.2.2.2])
              · intro b us w0 hslot hoth hB hdeps K hK
                refine guard_none (by rfl) ?_
                have s130 : b.tmps.getD 130 undef = .bool true := (hslot 13 130 (by rfl)).trans (deps_at hdeps 13 (by rfl))
                have s133 : b.tmps.getD 133 undef = .bool true := (hslot 16 133 (by rfl)).trans (deps_at hdeps 16 (by rfl))
                clear hdeps hslot hoth
                go_simp
                exact hK _ _ hB (fun _ _ h => h) rfl
              · intro b us w0 hslot hoth hB hdeps K hK
                refine guard_none (by rfl) ?_
                have s134 : b.tmps.getD 134 undef = .bool true := (hslot 17 134 (by rfl)).trans (deps_at hdeps 17 (by rfl))
                clear hdeps hslot hoth
                go_simp
                exact hK _ _ hB (fun _ _ h => h) rfl
              · intro b us w0 hslot hoth hB hdeps K hK
                have gg : us 18 = .bool true := deps_at hdeps 18 (by rfl)
                refine guard_on (j := 18) (want := true) (d := 135) (by rfl) (by rfl) gg ?_
                have s4 : b.tmps.getD 4 undef = .pointer (some ⟨w1.heap.size + 1, 0, none⟩) := hoth 4 (by rfl)
                have k4 := hB.B.cell
                clear hdeps hslot hoth
                go_simp
                exact hK _ _ hB (fun _ _ h => h) rfl
              · intro b us w0 hslot hoth hB hdeps K hK
                have gg : us 18 = .bool true := deps_at hdeps 18 (by rfl)
                refine guard_on (j := 18) (want := true) (d := 135) (by rfl) (by rfl) gg ?_
                have s3 : b.tmps.getD 3 undef = .pointer (some ⟨w1.heap.size, 0, none⟩) := hoth 3 (by rfl)
                have k3 := hB.A.cell
                clear hdeps hslot hoth
                go_simp
                exact hK _ _ hB (fun _ _ h => h) rfl
              · intro b us w0 hslot hoth hB hdeps K hK
                have gg : us 18 = .bool true := deps_at hdeps 18 (by rfl)
                refine guard_on (j := 18) (want := true) (d := 135) (by rfl) (by rfl) gg ?_
                have s136 : b.tmps.getD 136 undef = .agg #[.slice a2 n2 c2] := (hslot 19 136 (by rfl)).trans (deps_at hdeps 19 (by rfl))
                have s137 : b.tmps.getD 137 undef = .agg #[.slice a1 n1 c1] := (hslot 20 137 (by rfl)).trans (deps_at hdeps 20 (by rfl))
                clear hdeps hslot hoth
                go_simp
                refine (implJoin_any _ _ ys xs _ hB.B.ints hB.A.ints).mono ?_
                rintro e wy ⟨r, rfl, o, hb⟩
                exact hK _ _ (hB.on hb) (gPr_on hb) ⟨_, rfl, isInts_own o⟩
              · intro b us w0 hslot hoth hB hdeps K hK
                have gg : us 18 = .bool true := deps_at hdeps 18 (by rfl)
                refine guard_on (j := 18) (want := true) (d := 135) (by rfl) (by rfl) gg ?_
                have s7 : b.tmps.getD 7 undef = .pointer (some ⟨w4.heap.size, 0, none⟩) := hoth 7 (by rfl)
                have k7 := hB.J.cell
                clear hdeps hslot hoth
                go_simp
                exact hK _ _ hB (fun _ _ h => h) rfl
              · intro b us w0 hslot hoth hB hdeps K hK
                have gg : us 18 = .bool true := deps_at hdeps 18 (by rfl)
                refine guard_on (j := 18) (want := true) (d := 135) (by rfl) (by rfl) gg ?_
                obtain ⟨r21, g21, i21⟩ : ∃ r, us 21 = .agg #[r] ∧ IsInts w0 r (joinOf ys xs) := deps_at hdeps 21 (by rfl)
                have s138 : b.tmps.getD 138 undef = .agg #[r21] := (hslot 21 138 (by rfl)).trans g21
                have s139 : b.tmps.getD 139 undef = .agg #[.slice a7 n7 c7] := (hslot 22 139 (by rfl)).trans (deps_at hdeps 22 (by rfl))
                clear hdeps hslot hoth
                go_simp
                refine (implSameLabel_any r21 _ (joinOf ys xs) (joinOf xs ys) _ i21 hB.J.ints (by rw [LW.1]; exact right_len rJ)).mono ?_
                rintro e wy ⟨rfl, hb⟩
                exact hK _ _ (hB.on hb) (gPr_on hb) (by show Value.bool (sameInts (joinOf ys xs) (joinOf xs ys)) = Value.bool true; rw [LS1])
              · intro b us w0 hslot hoth hB hdeps K hK
                refine guard_none (by rfl) ?_
                have s135 : b.tmps.getD 135 undef = .bool true := (hslot 18 135 (by rfl)).trans (deps_at hdeps 18 (by rfl))
                have s140 : b.tmps.getD 140 undef = .bool true := (hslot 23 140 (by rfl)).trans (deps_at hdeps 23 (by rfl))
                clear hdeps hslot hoth
                go_simp
                exact hK _ _ hB (fun _ _ h => h) rfl
              · intro b us w0 hslot hoth hB hdeps K hK
                refine guard_none (by rfl) ?_
                have s141 : b.tmps.getD 141 undef = .bool true := (hslot 24 141 (by rfl)).trans (deps_at hdeps 24 (by rfl))
                clear hdeps hslot hoth
                go_simp
                exact hK _ _ hB (fun _ _ h => h) rfl
              · intro b us w0 hslot hoth hB hdeps K hK
                have gg : us 25 = .bool true := deps_at hdeps 25 (by rfl)
                refine guard_on (j := 25) (want := true) (d := 142) (by rfl) (by rfl) gg ?_
                have s4 : b.tmps.getD 4 undef = .pointer (some ⟨w1.heap.size + 1, 0, none⟩) := hoth 4 (by rfl)
                have k4 := hB.B.cell
                clear hdeps hslot hoth
                go_simp
                exact hK _ _ hB (fun _ _ h => h) rfl
              · intro b us w0 hslot hoth hB hdeps K hK
                have gg : us 25 = .bool true := deps_at hdeps 25 (by rfl)
                refine guard_on (j := 25) (want := true) (d := 142) (by rfl) (by rfl) gg ?_
                have s3 : b.tmps.getD 3 undef = .pointer (some ⟨w1.heap.size, 0, none⟩) := hoth 3 (by rfl)
                have k3 := hB.A.cell
                clear hdeps hslot hoth
                go_simp
                exact hK _ _ hB (fun _ _ h => h) rfl
              · intro b us w0 hslot hoth hB hdeps K hK
                have gg : us 25 = .bool true := deps_at hdeps 25 (by rfl)
                refine guard_on (j := 25) (want := true) (d := 142) (by rfl) (by rfl) gg ?_
                have s143 : b.tmps.getD 143 undef = .agg #[.slice a2 n2 c2] := (hslot 26 143 (by rfl)).trans (deps_at hdeps 26 (by rfl))
                have s144 : b.tmps.getD 144 undef = .agg #[.slice a1 n1 c1] := (hslot 27 144 (by rfl)).trans (deps_at hdeps 27 (by rfl))
                clear hdeps hslot hoth
                go_simp
                refine (implMeet_any _ _ ys xs _ hB.B.ints hB.A.ints).mono ?_
                rintro e wy ⟨r, rfl, o, hb⟩
                exact hK _ _ (hB.on hb) (gPr_on hb) ⟨_, rfl, isInts_own o⟩
              · intro b us w0 hslot hoth hB hdeps K hK
                have gg : us 25 = .bool true := deps_at hdeps 25 (by rfl)
                refine guard_on (j := 25) (want := true) (d := 142) (by rfl) (by rfl) gg ?_
                have s8 : b.tmps.getD 8 undef = .pointer (some ⟨w5.heap.size, 0, none⟩) := hoth 8 (by rfl)
                have k8 := hB.M.cell
                clear hdeps hslot hoth
                go_simp
                exact hK _ _ hB (fun _ _ h => h) rfl
              · intro b us w0 hslot hoth hB hdeps K hK
                have gg : us 25 = .bool true := deps_at hdeps 25 (by rfl)
                refine guard_on (j := 25) (want := true) (d := 142) (by rfl) (by rfl) gg ?_
                obtain ⟨r28, g28, i28⟩ : ∃ r, us 28 = .agg #[r] ∧ IsInts w0 r (meetOf ys xs) := deps_at hdeps 28 (by rfl)
                have s145 : b.tmps.getD 145 undef = .agg #[r28] := (hslot 28 145 (by rfl)).trans g28
                have s146 : b.tmps.getD 146 undef = .agg #[.slice a8 n8 c8] := (hslot 29 146 (by rfl)).trans (deps_at hdeps 29 (by rfl))
                clear hdeps hslot hoth
                go_simp
                refine (implSameLabel_any r28 _ (meetOf ys xs) (meetOf xs ys) _ i28 hB.M.ints (by rw [LW.2.1]; exact right_len rM)).mono ?_
                rintro e wy ⟨rfl, hb⟩
                exact hK _ _ (hB.on hb) (gPr_on hb) (by show Value.bool (sameInts (meetOf ys xs) (meetOf xs ys)) = Value.bool true; rw [LS2])
              · intro b us w0 hslot hoth hB hdeps K hK
                refine guard_none (by rfl) ?_
                have s142 : b.tmps.getD 142 undef = .bool true := (hslot 25 142 (by rfl)).trans (deps_at hdeps 25 (by rfl))
                have s147 : b.tmps.getD 147 undef = .bool true := (hslot 30 147 (by rfl)).trans (deps_at hdeps 30 (by rfl))
                clear hdeps hslot hoth
                go_simp
                exact hK _ _ hB (fun _ _ h => h) rfl
              · intro b us w0 hslot hoth hB hdeps K hK
                refine guard_none (by rfl) ?_
                have s148 : b.tmps.getD 148 undef = .bool true := (hslot 31 148 (by rfl)).trans (deps_at hdeps 31 (by rfl))
                clear hdeps hslot hoth
                go_simp
                exact hK _ _ hB (fun _ _ h => h) rfl
              · intro b us w0 hslot hoth hB hdeps K hK
                have gg : us 32 = .bool true := deps_at hdeps 32 (by rfl)
                refine guard_on (j := 32) (want := true) (d := 149) (by rfl) (by rfl) gg ?_
                have s3 : b.tmps.getD 3 undef = .pointer (some ⟨w1.heap.size, 0, none⟩) := hoth 3 (by rfl)
                have k3 := hB.A.cell
                clear hdeps hslot hoth
                go_simp
                exact hK _ _ hB (fun _ _ h => h) rfl
              · intro b us w0 hslot hoth hB hdeps K hK
                have gg : us 32 = .bool true := deps_at hdeps 32 (by rfl)
                refine guard_on (j := 32) (want := true) (d := 149) (by rfl) (by rfl) gg ?_
                have s8 : b.tmps.getD 8 undef = .pointer (some ⟨w5.heap.size, 0, none⟩) := hoth 8 (by rfl)
                have k8 := hB.M.cell
                clear hdeps hslot hoth
                go_simp
                exact hK _ _ hB (fun _ _ h => h) rfl
              · intro b us w0 hslot hoth hB hdeps K hK
                have gg : us 32 = .bool true := deps_at hdeps 32 (by rfl)
                refine guard_on (j := 32) (want := true) (d := 149) (by rfl) (by rfl) gg ?_
                have s150 : b.tmps.getD 150 undef = .agg #[.slice a1 n1 c1] := (hslot 33 150 (by rfl)).trans (deps_at hdeps 33 (by rfl))
                have s151 : b.tmps.getD 151 undef = .agg #[.slice a8 n8 c8] := (hslot 34 151 (by rfl)).trans (deps_at hdeps 34 (by rfl))
                clear hdeps hslot hoth
                go_simp
                refine (implJoin_any _ _ xs (meetOf xs ys) _ hB.A.ints hB.M.ints).mono ?_
                rintro e wy ⟨r, rfl, o, hb⟩
                exact hK _ _ (hB.on hb) (gPr_on hb) ⟨_, rfl, isInts_own o⟩
              · intro b us w0 hslot hoth hB hdeps K hK
                have gg : us 32 = .bool true := deps_at hdeps 32 (by rfl)
                refine guard_on (j := 32) (want := true) (d := 149) (by rfl) (by rfl) gg ?_
                have s3 : b.tmps.getD 3 undef = .pointer (some ⟨w1.heap.size, 0, none⟩) := hoth 3 (by rfl)
                have k3 := hB.A.cell
                clear hdeps hslot hoth
                go_simp
                exact hK _ _ hB (fun _ _ h => h) rfl
              · intro b us w0 hslot hoth hB hdeps K hK
                have gg : us 32 = .bool true := deps_at hdeps 32 (by rfl)
                refine guard_on (j := 32) (want := true) (d := 149) (by rfl) (by rfl) gg ?_
                obtain ⟨r35, g35, i35⟩ : ∃ r, us 35 = .agg #[r] ∧ IsInts w0 r (joinOf xs (meetOf xs ys)) := deps_at hdeps 35 (by rfl)
                have s152 : b.tmps.getD 152 undef = .agg #[r35] := (hslot 35 152 (by rfl)).trans g35
                have s153 : b.tmps.getD 153 undef = .agg #[.slice a1 n1 c1] := (hslot 36 153 (by rfl)).trans (deps_at hdeps 36 (by rfl))
                clear hdeps hslot hoth
                go_simp
                refine (implSameLabel_any r35 _ (joinOf xs (meetOf xs ys)) xs _ i35 hB.A.ints (by rw [LW.2.2]; exact right_len rA)).mono ?_
                rintro e wy ⟨rfl, hb⟩
                exact hK _ _ (hB.on hb) (gPr_on hb) (by show Value.bool (sameInts (joinOf xs (meetOf xs ys)) xs) = Value.bool true; rw [LS3])
              · intro b us w0 hslot hoth hB hdeps K hK
                refine guard_none (by rfl) ?_
                have s149 : b.tmps.getD 149 undef = .bool true := (hslot 32 149 (by rfl)).trans (deps_at hdeps 32 (by rfl))
                have s154 : b.tmps.getD 154 undef = .bool true := (hslot 37 154 (by rfl)).trans (deps_at hdeps 37 (by rfl))
                clear hdeps hslot hoth
                go_simp
                exact hK _ _ hB (fun _ _ h => h) rfl
              · intro b us w0 hslot hoth hB hdeps K hK
                refine guard_none (by rfl) ?_
                have s155 : b.tmps.getD 155 undef = .bool true := (hslot 38 155 (by rfl)).trans (deps_at hdeps 38 (by rfl))
                clear hdeps hslot hoth
                go_simp
                exact hK _ _ hB (fun _ _ h => h) rfl
              · intro b us w0 hslot hoth hB hdeps K hK
                have gg : us 39 = .bool true := deps_at hdeps 39 (by rfl)
                refine guard_on (j := 39) (want := true) (d := 156) (by rfl) (by rfl) gg ?_
                have s10 : b.tmps.getD 10 undef = .bool true := hoth 10 (by rfl)
                clear hdeps hslot hoth
                go_simp
                exact hK _ _ hB (fun _ _ h => h) rfl
              · intro b us w0 hslot hoth hB hdeps K hK
                refine guard_none (by rfl) ?_
                have s156 : b.tmps.getD 156 undef = .bool true := (hslot 39 156 (by rfl)).trans (deps_at hdeps 39 (by rfl))
                have s157 : b.tmps.getD 157 undef = .bool true := (hslot 40 157 (by rfl)).trans (deps_at hdeps 40 (by rfl))
                clear hdeps hslot hoth
                go_simp
                exact hK _ _ hB (fun _ _ h => h) rfl
              · intro b us w0 hslot hoth hB hdeps K hK
                refine guard_none (by rfl) ?_
                have s158 : b.tmps.getD 158 undef = .bool true := (hslot 41 158 (by rfl)).trans (deps_at hdeps 41 (by rfl))
                clear hdeps hslot hoth
                go_simp
                exact hK _ _ hB (fun _ _ h => h) rfl
              · intro b us w0 hslot hoth hB hdeps K hK
                have gg : us 42 = .bool true := deps_at hdeps 42 (by rfl)
                refine guard_on (j := 42) (want := true) (d := 159) (by rfl) (by rfl) gg ?_
                have s9 : b.tmps.getD 9 undef = .pointer (some ⟨w8.heap.size, 0, none⟩) := hoth 9 (by rfl)
                have k9 := hB.R.cell
                clear hdeps hslot hoth
                go_simp
                exact hK _ _ hB (fun _ _ h => h) rfl
              · intro b us w0 hslot hoth hB hdeps K hK
                have gg : us 42 = .bool true := deps_at hdeps 42 (by rfl)
                refine guard_on (j := 42) (want := true) (d := 159) (by rfl) (by rfl) gg ?_
                have s3 : b.tmps.getD 3 undef = .pointer (some ⟨w1.heap.size, 0, none⟩) := hoth 3 (by rfl)
                have k3 := hB.A.cell
                clear hdeps hslot hoth
                go_simp
                exact hK _ _ hB (fun _ _ h => h) rfl
              · intro b us w0 hslot hoth hB hdeps K hK
                have gg : us 42 = .bool true := deps_at hdeps 42 (by rfl)
                refine guard_on (j := 42) (want := true) (d := 159) (by rfl) (by rfl) gg ?_
                have s160 : b.tmps.getD 160 undef = .agg #[.slice a9 n9 c9] := (hslot 43 160 (by rfl)).trans (deps_at hdeps 43 (by rfl))
                have s161 : b.tmps.getD 161 undef = .agg #[.slice a1 n1 c1] := (hslot 44 161 (by rfl)).trans (deps_at hdeps 44 (by rfl))
                clear hdeps hslot hoth
                go_simp
                refine (implSameLabel_any _ _ xs xs _ hB.R.ints hB.A.ints (right_len rA)).mono ?_
                rintro e wy ⟨rfl, hb⟩
                exact hK _ _ (hB.on hb) (gPr_on hb) (by show Value.bool (sameInts xs xs) = Value.bool true; rw [same_self xs])
              · intro b us w0 hslot hoth hB hdeps K hK
                refine guard_none (by rfl) ?_
                have s159 : b.tmps.getD 159 undef = .bool true := (hslot 42 159 (by rfl)).trans (deps_at hdeps 42 (by rfl))
                have s162 : b.tmps.getD 162 undef = .bool true := (hslot 45 162 (by rfl)).trans (deps_at hdeps 45 (by rfl))
                clear hdeps hslot hoth
                go_simp
                exact hK _ _ hB (fun _ _ h => h) rfl
              · intro b us w0 hslot hoth hB hdeps K hK
                refine guard_none (by rfl) ?_
                have s163 : b.tmps.getD 163 undef = .bool true := (hslot 46 163 (by rfl)).trans (deps_at hdeps 46 (by rfl))
                clear hdeps hslot hoth
                go_simp
                exact hK _ _ hB (fun _ _ h => h) rfl
              · intro b us w0 hslot hoth hB hdeps K hK
                have gg : us 47 = .bool true := deps_at hdeps 47 (by rfl)
                refine guard_on (j := 47) (want := true) (d := 164) (by rfl) (by rfl) gg ?_
                clear hdeps hslot hoth
                go_simp
                refine (implFlat_any 0 _).mono ?_
                rintro e wy ⟨r, rfl, o, hb⟩
                exact hK _ _ (hB.on hb) (gPr_on hb) ⟨_, rfl, isInts_own o⟩
              · intro b us w0 hslot hoth hB hdeps K hK
                have gg : us 47 = .bool true := deps_at hdeps 47 (by rfl)
                refine guard_on (j := 47) (want := true) (d := 164) (by rfl) (by rfl) gg ?_
                have s3 : b.tmps.getD 3 undef = .pointer (some ⟨w1.heap.size, 0, none⟩) := hoth 3 (by rfl)
                have k3 := hB.A.cell
                clear hdeps hslot hoth
                go_simp
                exact hK _ _ hB (fun _ _ h => h) rfl
              · intro b us w0 hslot hoth hB hdeps K hK
                have gg : us 47 = .bool true := deps_at hdeps 47 (by rfl)
                refine guard_on (j := 47) (want := true) (d := 164) (by rfl) (by rfl) gg ?_
                obtain ⟨r48, g48, i48⟩ : ∃ r, us 48 = .agg #[r] ∧ IsInts w0 r (flatOf 0) := deps_at hdeps 48 (by rfl)
                have s165 : b.tmps.getD 165 undef = .agg #[r48] := (hslot 48 165 (by rfl)).trans g48
                have s166 : b.tmps.getD 166 undef = .agg #[.slice a1 n1 c1] := (hslot 49 166 (by rfl)).trans (deps_at hdeps 49 (by rfl))
                clear hdeps hslot hoth
                go_simp
                refine (implFlows_any r48 _ (flatOf 0) xs _ i48 hB.A.ints).mono ?_
                rintro e wy ⟨rfl, hb⟩
                exact hK _ _ (hB.on hb) (gPr_on hb) (by show Value.bool (flowsTo (flatOf 0) xs) = Value.bool true; rw [LF.1])
              · intro b us w0 hslot hoth hB hdeps K hK
                refine guard_none (by rfl) ?_
                have s164 : b.tmps.getD 164 undef = .bool true := (hslot 47 164 (by rfl)).trans (deps_at hdeps 47 (by rfl))
                have s167 : b.tmps.getD 167 undef = .bool true := (hslot 50 167 (by rfl)).trans (deps_at hdeps 50 (by rfl))
                clear hdeps hslot hoth
                go_simp
                exact hK _ _ hB (fun _ _ h => h) rfl
              · intro b us w0 hslot hoth hB hdeps K hK
                refine guard_none (by rfl) ?_
                have s168 : b.tmps.getD 168 undef = .bool true := (hslot 51 168 (by rfl)).trans (deps_at hdeps 51 (by rfl))
                clear hdeps hslot hoth
                go_simp
                exact hK _ _ hB (fun _ _ h => h) rfl
              · intro b us w0 hslot hoth hB hdeps K hK
                have gg : us 52 = .bool true := deps_at hdeps 52 (by rfl)
                refine guard_on (j := 52) (want := true) (d := 169) (by rfl) (by rfl) gg ?_
                have s3 : b.tmps.getD 3 undef = .pointer (some ⟨w1.heap.size, 0, none⟩) := hoth 3 (by rfl)
                have k3 := hB.A.cell
                clear hdeps hslot hoth
                go_simp
                exact hK _ _ hB (fun _ _ h => h) rfl
              · intro b us w0 hslot hoth hB hdeps K hK
                have gg : us 52 = .bool true := deps_at hdeps 52 (by rfl)
                refine guard_on (j := 52) (want := true) (d := 169) (by rfl) (by rfl) gg ?_
                clear hdeps hslot hoth
                go_simp
                refine (implFlat_any 3 _).mono ?_
                rintro e wy ⟨r, rfl, o, hb⟩
                exact hK _ _ (hB.on hb) (gPr_on hb) ⟨_, rfl, isInts_own o⟩
              · intro b us w0 hslot hoth hB hdeps K hK
                have gg : us 52 = .bool true := deps_at hdeps 52 (by rfl)
                refine guard_on (j := 52) (want := true) (d := 169) (by rfl) (by rfl) gg ?_
                have s170 : b.tmps.getD 170 undef = .agg #[.slice a1 n1 c1] := (hslot 53 170 (by rfl)).trans (deps_at hdeps 53 (by rfl))
                obtain ⟨r54, g54, i54⟩ : ∃ r, us 54 = .agg #[r] ∧ IsInts w0 r (flatOf 3) := deps_at hdeps 54 (by rfl)
                have s171 : b.tmps.getD 171 undef = .agg #[r54] := (hslot 54 171 (by rfl)).trans g54
                clear hdeps hslot hoth
                go_simp
                refine (implFlows_any _ r54 xs (flatOf 3) _ hB.A.ints i54).mono ?_
                rintro e wy ⟨rfl, hb⟩
                exact hK _ _ (hB.on hb) (gPr_on hb) (by show Value.bool (flowsTo xs (flatOf 3)) = Value.bool true; rw [LF.2])
              · intro b us w0 hslot hoth hB hdeps K hK
                refine guard_none (by rfl) ?_
                have s169 : b.tmps.getD 169 undef = .bool true := (hslot 52 169 (by rfl)).trans (deps_at hdeps 52 (by rfl))
                have s172 : b.tmps.getD 172 undef = .bool true := (hslot 55 172 (by rfl)).trans (deps_at hdeps 55 (by rfl))
                clear hdeps hslot hoth
                go_simp
                exact hK _ _ hB (fun _ _ h => h) rfl
              · intro b us w0 hslot hoth hB hdeps K hK
                refine guard_none (by rfl) ?_
                have s173 : b.tmps.getD 173 undef = .bool true := (hslot 56 173 (by rfl)).trans (deps_at hdeps 56 (by rfl))
                clear hdeps hslot hoth
                go_simp
                exact hK _ _ hB (fun _ _ h => h) rfl
            · intro us2 w9' hB hG' a' ha'
              have g2 : us2 57 = .bool true := hG' 57 (by decide)
              clear hG'
              have HE : Hid (Below w.heap.size w w9') := hB.below
              clear hB HS LU LW LF LS1 LS2 LS3
              simp only [putAll, g2] at ha'
              subst ha'
              go_frame
              go_wp2
              go_ret
              exact ⟨rfl, HE.out⟩
      · have hz' : labelOk zs = false := by simpa using hz
        rw [hz'] at D1
        by_cases hf : flowsTo xs ys = true
        · have D2 := fun w' hi hj => CW.out (.slice a1 n1 c1) (.slice a2 n2 c2) xs ys w' hi hj
          rw [hf] at D2
          refine D1.mono ?_
          rintro e wA ⟨rfl, hbA⟩
          clear D1
          have HFA : Hid (Five w w1.heap.size (w1.heap.size + 1) w3.heap.size w4.heap.size w5.heap.size (.slice a1 n1 c1) (.slice a2 n2 c2) (.slice a3 n3 c3) (.slice a7 n7 c7) (.slice a8 n8 c8) xs ys zs wA) := HF7.out.on hbA
          clear HF7 hbA
          have k6 := HFA.out.A.cell
          have j6 := HFA.out.B.cell
          go_wp2_with fail
          refine (D2 _ HFA.out.A.ints HFA.out.B.ints).mono ?_
          rintro e wB ⟨rfl, hbB⟩
          have HFB : Hid (Five w w1.heap.size (w1.heap.size + 1) w3.heap.size w4.heap.size w5.heap.size (.slice a1 n1 c1) (.slice a2 n2 c2) (.slice a3 n3 c3) (.slice a7 n7 c7) (.slice a8 n8 c8) xs ys zs wB) := HFA.out.on hbB
          clear HFA hbB k6 j6 D2
          have k6 := HFB.out.A.cell
          go_wp2_with fail
          have D3 := CL.out (.slice a1 n1 c1) xs wB Hx5.out.1 HFB.out.A.ints
          rw [ha] at D3
          refine D3.mono ?_
          rintro e wC ⟨rfl, hbC⟩
          clear D3
          have HFC : Hid (Five w w1.heap.size (w1.heap.size + 1) w3.heap.size w4.heap.size w5.heap.size (.slice a1 n1 c1) (.slice a2 n2 c2) (.slice a3 n3 c3) (.slice a7 n7 c7) (.slice a8 n8 c8) xs ys zs wC) := HFB.out.on hbC
          clear HFB hbC k6
          have k6 := HFC.out.B.cell
          go_wp2_with fail
          have D3 := CL.out (.slice a2 n2 c2) ys wC Hx5.out.2 HFC.out.B.ints
          rw [hy] at D3
          refine D3.mono ?_
          rintro e wD ⟨rfl, hbD⟩
          have HFD : Hid (Below w.heap.size w wD) := (HFC.out.on hbD).below
          clear HFC hbD k6 D3
          go_wp2
          go_ret
          exact ⟨rfl, HFD.out⟩
        · have hf' : flowsTo xs ys = false := by simpa using hf
          have D2 := fun w' hi hj => CW.out (.slice a1 n1 c1) (.slice a2 n2 c2) xs ys w' hi hj
          rw [hf'] at D2
          refine D1.mono ?_
          rintro e wA ⟨rfl, hbA⟩
          clear D1
          have HFA : Hid (Five w w1.heap.size (w1.heap.size + 1) w3.heap.size w4.heap.size w5.heap.size (.slice a1 n1 c1) (.slice a2 n2 c2) (.slice a3 n3 c3) (.slice a7 n7 c7) (.slice a8 n8 c8) xs ys zs wA) := HF7.out.on hbA
          clear HF7 hbA
          have k6 := HFA.out.A.cell
          have j6 := HFA.out.B.cell
          go_wp2_with fail
          refine (D2 _ HFA.out.A.ints HFA.out.B.ints).mono ?_
          rintro e wB ⟨rfl, hbB⟩
          have HFB : Hid (Below w.heap.size w wB) := (HFA.out.on hbB).below
          clear HFA hbB k6 j6 D2
          go_wp2
          go_ret
          exact ⟨rfl, HFB.out⟩
    · have hy' : labelOk ys = false := by simpa using hy
      rw [hy'] at D1
      have D2 := fun w' hi hj => CW.out (.slice a1 n1 c1) (.slice a2 n2 c2) xs ys w' hi hj
      rw [show flowsTo xs ys = false by unfold flowsTo; rw [ha, hy']; rfl] at D2
      refine D1.mono ?_
      rintro e wA ⟨rfl, hbA⟩
      clear D1
      have HFA : Hid (Five w w1.heap.size (w1.heap.size + 1) w3.heap.size w4.heap.size w5.heap.size (.slice a1 n1 c1) (.slice a2 n2 c2) (.slice a3 n3 c3) (.slice a7 n7 c7) (.slice a8 n8 c8) xs ys zs wA) := HF6.out.on hbA
      clear HF6 hbA
      have k6 := HFA.out.A.cell
      have j6 := HFA.out.B.cell
      go_wp2_with fail
      refine (D2 _ HFA.out.A.ints HFA.out.B.ints).mono ?_
      rintro e wB ⟨rfl, hbB⟩
      have HFB : Hid (Below w.heap.size w wB) := (HFA.out.on hbB).below
      clear HFA hbB k6 j6 D2
      go_wp2
      go_ret
      exact ⟨rfl, HFB.out⟩
  · have ha' : labelOk xs = false := by simpa using ha
    rw [ha'] at D1
    have D2 := fun w' hi hj => CW.out (.slice a1 n1 c1) (.slice a2 n2 c2) xs ys w' hi hj
    rw [show flowsTo xs ys = false by unfold flowsTo; rw [ha']; rfl] at D2
    refine D1.mono ?_
    rintro e w6 ⟨rfl, hb6⟩
    clear D1
    have HF6 : Hid (Five w w1.heap.size (w1.heap.size + 1) w3.heap.size w4.heap.size w5.heap.size (.slice a1 n1 c1) (.slice a2 n2 c2) (.slice a3 n3 c3) (.slice a7 n7 c7) (.slice a8 n8 c8) xs ys zs w6) := HF.out.on hb6
    clear HF hb6 k5 t5
    have k6 := HF6.out.A.cell
    have j6 := HF6.out.B.cell
    go_wp2_with fail
    refine (D2 _ HF6.out.A.ints HF6.out.B.ints).mono ?_
    rintro e w7 ⟨rfl, hb7⟩
    have HF7 : Hid (Below w.heap.size w w7) := (HF6.out.on hb7).below
    clear HF6 hb7 k6 j6 D2
    go_wp2
    go_ret
    exact ⟨rfl, HF7.out⟩
end Go.Proofs.Ytpdhlnnepgkmkaa
