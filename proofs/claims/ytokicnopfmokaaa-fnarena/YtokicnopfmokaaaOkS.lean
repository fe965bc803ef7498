/-
  Is a thing right: the model.
-/
import Derived.Test.YtokicnopfmokaaaOkA
namespace Go.Proofs.Ytokicnopfmokaaa
open Go.RowKit
set_option linter.unusedVariables false
set_option maxRecDepth 100000
set_option linter.unusedSimpArgs false

/-- What one waits for is a number that a machine holds. -/
def Fits (o : Ob) : Prop := -9223372036854775808 ≤ o.wait ∧ o.wait ≤ 9223372036854775807
theorem gotB_eq (x : Int) : gotB x = inB x (-1) 999 := by
  unfold gotB inB
  rw [Bool.eq_iff_iff]
  simp
  omega
theorem waitB_zero : waitB 0 = true := by simp [waitB]
theorem waitB_neg {x : Int} (h : x < 0) (h1 : -9223372036854775808 ≤ x) : waitB x = false := by
  have e : inB (wrap64 (x - 1)) 0 29999 = false := by
    by_cases hm : x = -9223372036854775808
    · subst hm
      rw [show wrap64 (-9223372036854775808 - 1) = 9223372036854775807 by unfold wrap64; omega]
      exact inB_no (by omega)
    · rw [show wrap64 (x - 1) = x - 1 by unfold wrap64; omega]
      exact inB_no (by omega)
  unfold waitB
  rw [e, decide_eq_false (by omega)]; rfl
theorem waitB_pos {x : Int} (h : 0 < x) : waitB x = inB (wrap64 (x - 1)) 0 29999 := by
  unfold waitB
  rw [decide_eq_false (by omega)]; rfl
theorem not_in {x : Int} (h : inB x 0 1000000 = false) : ¬ x = 0 := fun e => by rw [e] at h; simp [inB] at h
theorem specRes8_b (x : Int) (w : World) :
    Calls Try.prog 45 #[.int .i64 x] w fun e w' => e = .returned (.bool (inB x 0 4)) ∧ w = w' := by
  have C := fun w => l1In_b x 0 4 w
  generalize inB x 0 4 = o at C ⊢
  go_enter Try.func45, Try.ntmps45
  go_wp2_with fail
  refine (C _).mono ?_
  rintro e w' ⟨rfl, rfl⟩
  go_wp2
  go_ret
  exact ⟨rfl, rfl⟩
set_option maxRecDepth 100000 in
set_option maxHeartbeats 20000000 in
theorem specOk_k0 (o : Ob) (l d m : Value) (w : World) (hx : Lists w l d m o) (hn : obN o ≤ 1048576) (hf : Fits o) (hk : o.kind = 0) :
    Calls Try.prog 25 #[obV o l d m] w fun e w' => e = .returned (.bool (obOk o)) ∧ Below w.heap.size w w' := by
  have CG := fun w => l1In_b o.gen 0 999 w
  have CK := fun w => l1In_b o.kind 1 4 w
  have CI := fun w => l1In_b o.into (-1) 9 w
  have CR := fun w => specRes8_b o.res w
  have CU := fun w => l1In_b o.unt 0 1000000 w
  have CP := fun w => l1In_b o.pages 0 8 w
  have CN := fun w => l1In_b o.ran 0 1000000 w
  have CW := fun w => specHandle_b (wrap64 (o.wait - 1)) w
  have CT := fun w => l1In_b o.got (-1) 999 w
  have HFI : Hid (Fits o) := hf
  have HK := hid_of hk
  have hx0 := hx
  obtain ⟨⟨a, c, rfl, hac, hx1⟩, ⟨a', c', rfl, hac', hx2⟩, ⟨a'', c'', rfl, hac'', hx3⟩⟩ := hx
  have HB : Hid (Below w.heap.size w (w.alloc (boxO o (.slice a o.ls.length c) (.slice a' o.ds.length c') (.slice a'' o.qs.length c'')))) := below_alloc w _
  have hx' : Lists (w.alloc (boxO o (.slice a o.ls.length c) (.slice a' o.ds.length c') (.slice a'' o.qs.length c''))) (.slice a o.ls.length c) (.slice a' o.ds.length c') (.slice a'' o.qs.length c'') o := hx0.on HB.out
  have HX : Hid (∀ i, i < o.ls.length → ∃ p, a = some p ∧ (w.alloc (boxO o (.slice a o.ls.length c) (.slice a' o.ds.length c') (.slice a'' o.qs.length c''))).cell? (p.add i) = some (.int .i64 (o.ls.getD i 0))) := fun i hi => by
    obtain ⟨_, _, hv, _, h⟩ := hx'.ls
    cases hv
    exact h i hi
  have HD : Hid (∀ i, i < o.ds.length → ∃ p, a' = some p ∧ (w.alloc (boxO o (.slice a o.ls.length c) (.slice a' o.ds.length c') (.slice a'' o.qs.length c''))).cell? (p.add i) = some (.int .i64 (o.ds.getD i 0))) := fun i hi => by
    obtain ⟨_, _, hv, _, h⟩ := hx'.ds
    cases hv
    exact h i hi
  have HQ : Hid (∀ i, i < o.qs.length → ∃ p, a'' = some p ∧ (w.alloc (boxO o (.slice a o.ls.length c) (.slice a' o.ds.length c') (.slice a'' o.qs.length c''))).cell? (p.add (i * 2)) = some (.int .i64 (msAt o.qs i).f) ∧ (w.alloc (boxO o (.slice a o.ls.length c) (.slice a' o.ds.length c') (.slice a'' o.qs.length c''))).cell? ⟨(p.add (i * 2)).block, (p.add (i * 2)).off + 1, none⟩ = some (.int .i64 (msAt o.qs i).n)) := fun i hi => by
    obtain ⟨_, _, hv, _, h⟩ := hx'.qs
    cases hv
    exact h i hi
  have hbx : Box13 (w.alloc (boxO o (.slice a o.ls.length c) (.slice a' o.ds.length c') (.slice a'' o.qs.length c''))) w.heap.size o (.slice a o.ls.length c) (.slice a' o.ds.length c') (.slice a'' o.qs.length c'') := ⟨heap_alloc_new w _⟩
  have k0 := hbx.c0
  have k1 := hbx.c1
  have k2 := hbx.c2
  have k3 := hbx.c3
  have k4 := hbx.c4
  have k5 := hbx.c5
  have k6 := hbx.c6
  have k7 := hbx.c7
  have k8 := hbx.c8
  have k9 := hbx.c9
  have k10 := hbx.c10
  have k11 := hbx.c11
  have k12 := hbx.c12
  clear hx1 hx2 hx3 hbx hf hx0 hx' hk
  unfold obN at hn
  go_enter Try.func25, Try.ntmps25
  go_wp2_with fail
  obtain ⟨V, hV⟩ : ∃ V, V = w.alloc (boxO o (.slice a o.ls.length c) (.slice a' o.ds.length c') (.slice a'' o.qs.length c'')) := ⟨_, rfl⟩
  rw [← hV] at HB HX HD HQ k0 k1 k2 k3 k4 k5 k6 k7 k8 k9 k10 k11 k12 ⊢
  clear hV
  have hk := HK.out
  refine (CG _).mono ?_
  rintro e w1 ⟨rfl, rfl⟩
  cases hg : inB o.gen 0 999 with
  | false =>
    have E : Hid (obOk o = false) := by show obOk o = false; simp [obOk, hg, hk, boxB, segB, gateB, thrB, commonB, dataN, dataS, queueN, queueG, turnsN, turnsT, zeroB]
    go_wp2
    go_ret
    exact ⟨by rw [E.out]; rfl, HB.out⟩
  | true =>
    clear CK CI CR CU CP CN CW CT HX HD HQ
    by_cases z0 : o.into = 0
    · have qz0 : (o.into == 0) = true := beq_iff_eq.2 z0
      have nz0 : (o.into != 0) = false := by simp [z0]
      by_cases z1 : o.res = 0
      · have qz1 : (o.res == 0) = true := beq_iff_eq.2 z1
        have nz1 : (o.res != 0) = false := by simp [z1]
        by_cases z2 : o.unt = 0
        · have qz2 : (o.unt == 0) = true := beq_iff_eq.2 z2
          have nz2 : (o.unt != 0) = false := by simp [z2]
          by_cases z3 : o.pages = 0
          · have qz3 : (o.pages == 0) = true := beq_iff_eq.2 z3
            have nz3 : (o.pages != 0) = false := by simp [z3]
            by_cases z4 : o.wait = 0
            · have qz4 : (o.wait == 0) = true := beq_iff_eq.2 z4
              have nz4 : (o.wait != 0) = false := by simp [z4]
              by_cases z5 : o.got = 0
              · have qz5 : (o.got == 0) = true := beq_iff_eq.2 z5
                have nz5 : (o.got != 0) = false := by simp [z5]
                by_cases z6 : o.ran = 0
                · have qz6 : (o.ran == 0) = true := beq_iff_eq.2 z6
                  have nz6 : (o.ran != 0) = false := by simp [z6]
                  cases hm : o.mark with
                  | true =>
                    have E : Hid (obOk o = false) := by show obOk o = false; simp [obOk, hg, hk, boxB, segB, gateB, thrB, commonB, dataN, dataS, queueN, queueG, turnsN, turnsT, zeroB, z0, z1, z2, z3, z4, z5, z6, hm]
                    go_wp2
                    go_ret
                    exact ⟨by rw [E.out]; rfl, HB.out⟩
                  | false =>
                    by_cases y0 : o.ls.length = 0
                    · have qy0 : ((o.ls.length : Int) == 0) = true := by simp [y0]
                      by_cases y1 : o.ds.length = 0
                      · have qy1 : ((o.ds.length : Int) == 0) = true := by simp [y1]
                        by_cases y2 : o.qs.length = 0
                        · have qy2 : ((o.qs.length : Int) == 0) = true := by simp [y2]
                          have E : Hid (obOk o = true) := by show obOk o = true; simp [obOk, hg, hk, boxB, segB, gateB, thrB, commonB, dataN, dataS, queueN, queueG, turnsN, turnsT, zeroB, z0, z1, z2, z3, z4, z5, z6, hm, y0, y1, y2]
                          go_wp2
                          go_ret
                          exact ⟨by rw [E.out]; rfl, HB.out⟩
                        · have qy2 : ((o.qs.length : Int) == 0) = false := beq_eq_false_iff_ne.2 (by omega)
                          have E : Hid (obOk o = false) := by show obOk o = false; simp [obOk, hg, hk, boxB, segB, gateB, thrB, commonB, dataN, dataS, queueN, queueG, turnsN, turnsT, zeroB, z0, z1, z2, z3, z4, z5, z6, hm, y0, y1, y2]
                          go_wp2
                          go_ret
                          exact ⟨by rw [E.out]; rfl, HB.out⟩
                      · have qy1 : ((o.ds.length : Int) == 0) = false := beq_eq_false_iff_ne.2 (by omega)
                        have E : Hid (obOk o = false) := by show obOk o = false; simp [obOk, hg, hk, boxB, segB, gateB, thrB, commonB, dataN, dataS, queueN, queueG, turnsN, turnsT, zeroB, z0, z1, z2, z3, z4, z5, z6, hm, y0, y1]
                        go_wp2
                        go_ret
                        exact ⟨by rw [E.out]; rfl, HB.out⟩
                    · have qy0 : ((o.ls.length : Int) == 0) = false := beq_eq_false_iff_ne.2 (by omega)
                      have E : Hid (obOk o = false) := by show obOk o = false; simp [obOk, hg, hk, boxB, segB, gateB, thrB, commonB, dataN, dataS, queueN, queueG, turnsN, turnsT, zeroB, z0, z1, z2, z3, z4, z5, z6, hm, y0]
                      go_wp2
                      go_ret
                      exact ⟨by rw [E.out]; rfl, HB.out⟩
                · have qz6 : (o.ran == 0) = false := beq_eq_false_iff_ne.2 z6
                  have nz6 : (o.ran != 0) = true := by simp [z6]
                  have E : Hid (obOk o = false) := by show obOk o = false; simp [obOk, hg, hk, boxB, segB, gateB, thrB, commonB, dataN, dataS, queueN, queueG, turnsN, turnsT, zeroB, z0, z1, z2, z3, z4, z5, z6]
                  go_wp2
                  go_ret
                  exact ⟨by rw [E.out]; rfl, HB.out⟩
              · have qz5 : (o.got == 0) = false := beq_eq_false_iff_ne.2 z5
                have nz5 : (o.got != 0) = true := by simp [z5]
                have E : Hid (obOk o = false) := by show obOk o = false; simp [obOk, hg, hk, boxB, segB, gateB, thrB, commonB, dataN, dataS, queueN, queueG, turnsN, turnsT, zeroB, z0, z1, z2, z3, z4, z5]
                go_wp2
                go_ret
                exact ⟨by rw [E.out]; rfl, HB.out⟩
            · have qz4 : (o.wait == 0) = false := beq_eq_false_iff_ne.2 z4
              have nz4 : (o.wait != 0) = true := by simp [z4]
              have E : Hid (obOk o = false) := by show obOk o = false; simp [obOk, hg, hk, boxB, segB, gateB, thrB, commonB, dataN, dataS, queueN, queueG, turnsN, turnsT, zeroB, z0, z1, z2, z3, z4]
              go_wp2
              go_ret
              exact ⟨by rw [E.out]; rfl, HB.out⟩
          · have qz3 : (o.pages == 0) = false := beq_eq_false_iff_ne.2 z3
            have nz3 : (o.pages != 0) = true := by simp [z3]
            have E : Hid (obOk o = false) := by show obOk o = false; simp [obOk, hg, hk, boxB, segB, gateB, thrB, commonB, dataN, dataS, queueN, queueG, turnsN, turnsT, zeroB, z0, z1, z2, z3]
            go_wp2
            go_ret
            exact ⟨by rw [E.out]; rfl, HB.out⟩
        · have qz2 : (o.unt == 0) = false := beq_eq_false_iff_ne.2 z2
          have nz2 : (o.unt != 0) = true := by simp [z2]
          have E : Hid (obOk o = false) := by show obOk o = false; simp [obOk, hg, hk, boxB, segB, gateB, thrB, commonB, dataN, dataS, queueN, queueG, turnsN, turnsT, zeroB, z0, z1, z2]
          go_wp2
          go_ret
          exact ⟨by rw [E.out]; rfl, HB.out⟩
      · have qz1 : (o.res == 0) = false := beq_eq_false_iff_ne.2 z1
        have nz1 : (o.res != 0) = true := by simp [z1]
        have E : Hid (obOk o = false) := by show obOk o = false; simp [obOk, hg, hk, boxB, segB, gateB, thrB, commonB, dataN, dataS, queueN, queueG, turnsN, turnsT, zeroB, z0, z1]
        go_wp2
        go_ret
        exact ⟨by rw [E.out]; rfl, HB.out⟩
    · have qz0 : (o.into == 0) = false := beq_eq_false_iff_ne.2 z0
      have nz0 : (o.into != 0) = true := by simp [z0]
      have E : Hid (obOk o = false) := by show obOk o = false; simp [obOk, hg, hk, boxB, segB, gateB, thrB, commonB, dataN, dataS, queueN, queueG, turnsN, turnsT, zeroB, z0]
      go_wp2
      go_ret
      exact ⟨by rw [E.out]; rfl, HB.out⟩
set_option maxRecDepth 100000 in
set_option maxHeartbeats 20000000 in
theorem specOk_kx (o : Ob) (l d m : Value) (w : World) (hx : Lists w l d m o) (hn : obN o ≤ 1048576) (hf : Fits o) (h0 : ¬ o.kind = 0) (h1 : ¬ o.kind = 1) (h2 : ¬ o.kind = 2) (h3 : ¬ o.kind = 3) (h4 : ¬ o.kind = 4) :
    Calls Try.prog 25 #[obV o l d m] w fun e w' => e = .returned (.bool (obOk o)) ∧ Below w.heap.size w w' := by
  have hkx : inB o.kind 1 4 = false := inB_no (by omega)
  have hk : (o.kind == 0) = false := beq_eq_false_iff_ne.2 h0
  have CG := fun w => l1In_b o.gen 0 999 w
  have CK := fun w => l1In_b o.kind 1 4 w
  have CI := fun w => l1In_b o.into (-1) 9 w
  have CR := fun w => specRes8_b o.res w
  have CU := fun w => l1In_b o.unt 0 1000000 w
  have CP := fun w => l1In_b o.pages 0 8 w
  have CN := fun w => l1In_b o.ran 0 1000000 w
  have CW := fun w => specHandle_b (wrap64 (o.wait - 1)) w
  have CT := fun w => l1In_b o.got (-1) 999 w
  have HFI : Hid (Fits o) := hf
  have HK := hid_of hk
  have hx0 := hx
  obtain ⟨⟨a, c, rfl, hac, hx1⟩, ⟨a', c', rfl, hac', hx2⟩, ⟨a'', c'', rfl, hac'', hx3⟩⟩ := hx
  have HB : Hid (Below w.heap.size w (w.alloc (boxO o (.slice a o.ls.length c) (.slice a' o.ds.length c') (.slice a'' o.qs.length c'')))) := below_alloc w _
  have hx' : Lists (w.alloc (boxO o (.slice a o.ls.length c) (.slice a' o.ds.length c') (.slice a'' o.qs.length c''))) (.slice a o.ls.length c) (.slice a' o.ds.length c') (.slice a'' o.qs.length c'') o := hx0.on HB.out
  have HX : Hid (∀ i, i < o.ls.length → ∃ p, a = some p ∧ (w.alloc (boxO o (.slice a o.ls.length c) (.slice a' o.ds.length c') (.slice a'' o.qs.length c''))).cell? (p.add i) = some (.int .i64 (o.ls.getD i 0))) := fun i hi => by
    obtain ⟨_, _, hv, _, h⟩ := hx'.ls
    cases hv
    exact h i hi
  have HD : Hid (∀ i, i < o.ds.length → ∃ p, a' = some p ∧ (w.alloc (boxO o (.slice a o.ls.length c) (.slice a' o.ds.length c') (.slice a'' o.qs.length c''))).cell? (p.add i) = some (.int .i64 (o.ds.getD i 0))) := fun i hi => by
    obtain ⟨_, _, hv, _, h⟩ := hx'.ds
    cases hv
    exact h i hi
  have HQ : Hid (∀ i, i < o.qs.length → ∃ p, a'' = some p ∧ (w.alloc (boxO o (.slice a o.ls.length c) (.slice a' o.ds.length c') (.slice a'' o.qs.length c''))).cell? (p.add (i * 2)) = some (.int .i64 (msAt o.qs i).f) ∧ (w.alloc (boxO o (.slice a o.ls.length c) (.slice a' o.ds.length c') (.slice a'' o.qs.length c''))).cell? ⟨(p.add (i * 2)).block, (p.add (i * 2)).off + 1, none⟩ = some (.int .i64 (msAt o.qs i).n)) := fun i hi => by
    obtain ⟨_, _, hv, _, h⟩ := hx'.qs
    cases hv
    exact h i hi
  have hbx : Box13 (w.alloc (boxO o (.slice a o.ls.length c) (.slice a' o.ds.length c') (.slice a'' o.qs.length c''))) w.heap.size o (.slice a o.ls.length c) (.slice a' o.ds.length c') (.slice a'' o.qs.length c'') := ⟨heap_alloc_new w _⟩
  have k0 := hbx.c0
  have k1 := hbx.c1
  have k2 := hbx.c2
  have k3 := hbx.c3
  have k4 := hbx.c4
  have k5 := hbx.c5
  have k6 := hbx.c6
  have k7 := hbx.c7
  have k8 := hbx.c8
  have k9 := hbx.c9
  have k10 := hbx.c10
  have k11 := hbx.c11
  have k12 := hbx.c12
  clear hx1 hx2 hx3 hbx hf hx0 hx' hk
  unfold obN at hn
  go_enter Try.func25, Try.ntmps25
  go_wp2_with fail
  obtain ⟨V, hV⟩ : ∃ V, V = w.alloc (boxO o (.slice a o.ls.length c) (.slice a' o.ds.length c') (.slice a'' o.qs.length c'')) := ⟨_, rfl⟩
  rw [← hV] at HB HX HD HQ k0 k1 k2 k3 k4 k5 k6 k7 k8 k9 k10 k11 k12 ⊢
  clear hV
  have hk := HK.out
  refine (CG _).mono ?_
  rintro e w1 ⟨rfl, rfl⟩
  cases hg : inB o.gen 0 999 with
  | false =>
    have E : Hid (obOk o = false) := by show obOk o = false; simp [obOk, hg, hk, boxB, segB, gateB, thrB, commonB, dataN, dataS, queueN, queueG, turnsN, turnsT, zeroB, h0, h1, h2, h3, h4]
    go_wp2
    go_ret
    exact ⟨by rw [E.out]; rfl, HB.out⟩
  | true =>
    rw [hkx] at CK
    clear hkx CI CR CU CP CN CW CT HX HD HQ
    go_wp2_with fail
    refine (CK _).mono ?_
    rintro e w1 ⟨rfl, rfl⟩
    have E : Hid (obOk o = false) := by show obOk o = false; simp [obOk, hg, hk, boxB, segB, gateB, thrB, commonB, dataN, dataS, queueN, queueG, turnsN, turnsT, zeroB, h0, h1, h2, h3, h4]
    go_wp2
    go_ret
    exact ⟨by rw [E.out]; rfl, HB.out⟩
end Go.Proofs.Ytokicnopfmokaaa
