/-
  Is a thing right: the model, kind 1.
-/
import Derived.Test.YtokicnopfmokaaaOkS
namespace Go.Proofs.Ytokicnopfmokaaa
open Go.RowKit
set_option linter.unusedVariables false
set_option maxRecDepth 100000
set_option linter.unusedSimpArgs false

set_option maxRecDepth 100000 in
set_option maxHeartbeats 20000000 in
theorem specOk_k1 (o : Ob) (l d m : Value) (w : World) (hx : Lists w l d m o) (hn : obN o ≤ 1048576) (hf : Fits o) (hk : o.kind = 1) :
    Calls Try.prog 25 #[obV o l d m] w fun e w' => e = .returned (.bool (obOk o)) ∧ Below w.heap.size w w' := by
  have CG := fun w => l1In_b o.gen 0 999 w
  have CK := fun w => l1In_b o.kind 1 4 w
  have CI := fun w => l1In_b o.into (-1) 9 w
  have CR := fun w => specRes8_b o.res w
  have CU := fun w => l1In_b o.unt 0 1000000 w
  have CP := fun w => l1In_b o.pages 0 8 w
  have CN := fun w => l1In_b o.ran 0 1000000 w
  have CW := fun w => specHandle_b (wrap64 (o.wait - 1)) w
  have CT := fun w => l1In_b o.got (-1) 999 w
  have HFI : Hid (Fits o) := hf
  have HK := hid_of hk
  have hx0 := hx
  obtain ⟨⟨a, c, rfl, hac, hx1⟩, ⟨a', c', rfl, hac', hx2⟩, ⟨a'', c'', rfl, hac'', hx3⟩⟩ := hx
  have HB : Hid (Below w.heap.size w (w.alloc (boxO o (.slice a o.ls.length c) (.slice a' o.ds.length c') (.slice a'' o.qs.length c'')))) := below_alloc w _
  have hx' : Lists (w.alloc (boxO o (.slice a o.ls.length c) (.slice a' o.ds.length c') (.slice a'' o.qs.length c''))) (.slice a o.ls.length c) (.slice a' o.ds.length c') (.slice a'' o.qs.length c'') o := hx0.on HB.out
  have HX : Hid (∀ i, i < o.ls.length → ∃ p, a = some p ∧ (w.alloc (boxO o (.slice a o.ls.length c) (.slice a' o.ds.length c') (.slice a'' o.qs.length c''))).cell? (p.add i) = some (.int .i64 (o.ls.getD i 0))) := fun i hi => by
    obtain ⟨_, _, hv, _, h⟩ := hx'.ls
    cases hv
    exact h i hi
  have HD : Hid (∀ i, i < o.ds.length → ∃ p, a' = some p ∧ (w.alloc (boxO o (.slice a o.ls.length c) (.slice a' o.ds.length c') (.slice a'' o.qs.length c''))).cell? (p.add i) = some (.int .i64 (o.ds.getD i 0))) := fun i hi => by
    obtain ⟨_, _, hv, _, h⟩ := hx'.ds
    cases hv
    exact h i hi
  have HQ : Hid (∀ i, i < o.qs.length → ∃ p, a'' = some p ∧ (w.alloc (boxO o (.slice a o.ls.length c) (.slice a' o.ds.length c') (.slice a'' o.qs.length c''))).cell? (p.add (i * 2)) = some (.int .i64 (msAt o.qs i).f) ∧ (w.alloc (boxO o (.slice a o.ls.length c) (.slice a' o.ds.length c') (.slice a'' o.qs.length c''))).cell? ⟨(p.add (i * 2)).block, (p.add (i * 2)).off + 1, none⟩ = some (.int .i64 (msAt o.qs i).n)) := fun i hi => by
    obtain ⟨_, _, hv, _, h⟩ := hx'.qs
    cases hv
    exact h i hi
  have hbx : Box13 (w.alloc (boxO o (.slice a o.ls.length c) (.slice a' o.ds.length c') (.slice a'' o.qs.length c''))) w.heap.size o (.slice a o.ls.length c) (.slice a' o.ds.length c') (.slice a'' o.qs.length c'') := ⟨heap_alloc_new w _⟩
  have k0 := hbx.c0
  have k1 := hbx.c1
  have k2 := hbx.c2
  have k3 := hbx.c3
  have k4 := hbx.c4
  have k5 := hbx.c5
  have k6 := hbx.c6
  have k7 := hbx.c7
  have k8 := hbx.c8
  have k9 := hbx.c9
  have k10 := hbx.c10
  have k11 := hbx.c11
  have k12 := hbx.c12
  clear hx1 hx2 hx3 hbx hf hx0 hx' hk
  unfold obN at hn
  go_enter Try.func25, Try.ntmps25
  go_wp2_with fail
  obtain ⟨V, hV⟩ : ∃ V, V = w.alloc (boxO o (.slice a o.ls.length c) (.slice a' o.ds.length c') (.slice a'' o.qs.length c'')) := ⟨_, rfl⟩
  rw [← hV] at HB HX HD HQ k0 k1 k2 k3 k4 k5 k6 k7 k8 k9 k10 k11 k12 ⊢
  clear hV
  have hk := HK.out
  refine (CG _).mono ?_
  rintro e w1 ⟨rfl, rfl⟩
  cases hg : inB o.gen 0 999 with
  | false =>
    have E : Hid (obOk o = false) := by show obOk o = false; simp [obOk, hg, hk, boxB, segB, gateB, thrB, commonB, dataN, dataS, queueN, queueG, turnsN, turnsT, zeroB]
    go_wp2
    go_ret
    exact ⟨by rw [E.out]; rfl, HB.out⟩
  | true =>
    rw [hk] at CK
    rw [show inB 1 1 4 = true from rfl] at CK
    go_wp2_with fail
    refine (CK _).mono ?_
    rintro e w1 ⟨rfl, rfl⟩
    go_wp2_with fail
    refine (CI _).mono ?_
    rintro e w1 ⟨rfl, rfl⟩
    cases hi : inB o.into (-1) 9 with
    | false =>
      have E : Hid (obOk o = false) := by show obOk o = false; simp [obOk, hg, hk, boxB, segB, gateB, thrB, commonB, dataN, dataS, queueN, queueG, turnsN, turnsT, zeroB, hi]
      go_wp2
      go_ret
      exact ⟨by rw [E.out]; rfl, HB.out⟩
    | true =>
      go_wp2_with fail
      refine (CR _).mono ?_
      rintro e w1 ⟨rfl, rfl⟩
      cases hs : inB o.res 0 4 with
      | false =>
        have E : Hid (obOk o = false) := by show obOk o = false; simp [obOk, hg, hk, boxB, segB, gateB, thrB, commonB, dataN, dataS, queueN, queueG, turnsN, turnsT, zeroB, hi, hs]
        go_wp2
        go_ret
        exact ⟨by rw [E.out]; rfl, HB.out⟩
      | true =>
        go_wp2_with fail
        refine (CU _).mono ?_
        rintro e w1 ⟨rfl, rfl⟩
        cases hu : inB o.unt 0 1000000 with
        | false =>
          have E : Hid (obOk o = false) := by show obOk o = false; simp [obOk, hg, hk, boxB, segB, gateB, thrB, commonB, dataN, dataS, queueN, queueG, turnsN, turnsT, zeroB, hi, hs, hu]
          go_wp2
          go_ret
          exact ⟨by rw [E.out]; rfl, HB.out⟩
        | true =>
          go_wp2_with fail
          refine (CP _).mono ?_
          rintro e w1 ⟨rfl, rfl⟩
          cases hp : inB o.pages 0 8 with
          | false =>
            have E : Hid (obOk o = false) := by show obOk o = false; simp [obOk, hg, hk, boxB, segB, gateB, thrB, commonB, dataN, dataS, queueN, queueG, turnsN, turnsT, zeroB, hi, hs, hu, hp]
            go_wp2
            go_ret
            exact ⟨by rw [E.out]; rfl, HB.out⟩
          | true =>
            by_cases hl : o.ls.length = 2
            · have nl : ((o.ls.length : Int) != 2) = false := by simp [hl]
              go_wp2_with fail
              refine (CN _).mono ?_
              rintro e w1 ⟨rfl, rfl⟩
              cases hr : inB o.ran 0 1000000 with
              | false =>
                have hr0 := not_in hr
                have E : Hid (obOk o = false) := by show obOk o = false; simp [obOk, hg, hk, boxB, segB, gateB, thrB, commonB, dataN, dataS, queueN, queueG, turnsN, turnsT, zeroB, hi, hs, hu, hp, hl, hr, hr0]
                go_wp2
                go_ret
                exact ⟨by rw [E.out]; rfl, HB.out⟩
              | true =>
                go_wp2
                go_loop [3] (fun i => ∃ k : Nat, k ≤ 2 ∧ i = .int .i64 k ∧ Hid (∀ e, e ∈ o.ls.take k → slotN e = true)) (fun i => 2 - (intOf i).toNat)
                case atStart => exact ⟨0, Nat.zero_le _, rfl, fun e he => absurd he (by simp)⟩
                case round =>
                  obtain ⟨k, hk1, rfl, hall⟩ := hrel
                  by_cases hlt : k < 2
                  · have hlt' : k < o.ls.length := by omega
                    obtain ⟨p, hp1, hc⟩ := HX.out k hlt'
                    have hmem : o.ls.getD k 0 ∈ o.ls := all_memI hlt'
                    have HT : Hid (o.ls.take (k + 1) = o.ls.take k ++ [o.ls.getD k 0]) := take_oneI hlt'
                    generalize o.ls.getD k 0 = x at hc hmem HT
                    subst hp1
                    have CX := fun w => l1In_b x (-1) 9 w
                    go_wp2_with fail
                    refine (CX _).mono ?_
                    rintro e w1 ⟨rfl, rfl⟩
                    cases hx : inB x (-1) 9 with
                    | false =>
                      have ha : o.ls.all slotN = false := List.all_eq_false.2 ⟨x, hmem, by simp [slotN, hx]⟩
                      have E : Hid (obOk o = false) := by show obOk o = false; simp [obOk, hg, hk, boxB, segB, gateB, thrB, commonB, dataN, dataS, queueN, queueG, turnsN, turnsT, zeroB, hi, hs, hu, hp, hl, hr, ha]
                      go_wp2
                      go_ret
                      exact ⟨by rw [E.out]; rfl, HB.out⟩
                    | true =>
                      have HA : Hid (∀ e, e ∈ o.ls.take (k + 1) → slotN e = true) := fun e he => by
                        rw [HT.out, List.mem_append] at he
                        rcases he with h | h
                        · exact hall.out e h
                        · rw [List.mem_singleton] at h; rw [h]; exact hx
                      go_wp2
                      exact ⟨⟨k + 1, by omega, by go_num, HA⟩, by simp [intOf]; omega⟩
                  · have hke : k = o.ls.length := by omega
                    have hla : o.ls.all slotN = true := List.all_eq_true.2 fun e he => hall.out e (by rw [hke, List.take_length]; exact he)
                    clear hall hke
                    by_cases hw : o.wait = 0
                    · have qhw : (o.wait == 0) = true := beq_iff_eq.2 hw
                      have nhw : (o.wait != 0) = false := by simp [hw]
                      by_cases ht : o.got = 0
                      · have qht : (o.got == 0) = true := beq_iff_eq.2 ht
                        have nht : (o.got != 0) = false := by simp [ht]
                        by_cases hn0 : o.ran = 0
                        · have qhn0 : (o.ran == 0) = true := beq_iff_eq.2 hn0
                          have nhn0 : (o.ran != 0) = false := by simp [hn0]
                          by_cases hd : o.ds.length = 0
                          · have qd : ((o.ds.length : Int) == 0) = true := by simp [hd]
                            have nd : ((o.ds.length : Int) != 0) = false := by simp [hd]
                            go_wp2
                            go_loop [4] (fun i => ∃ k : Nat, k ≤ o.ds.length ∧ i = .int .i64 k ∧ Hid (∀ e, e ∈ o.ds.take k → wordB e = true)) (fun i => o.ds.length - (intOf i).toNat)
                            case atStart => exact ⟨0, Nat.zero_le _, rfl, fun e he => absurd he (by simp)⟩
                            case round =>
                              obtain ⟨k, hk1, rfl, hall⟩ := hrel
                              by_cases hlt : k < o.ds.length
                              · exact absurd hlt (by omega)
                              · have hke : k = o.ds.length := by omega
                                have hda : o.ds.all wordB = true := List.all_eq_true.2 fun e he => hall.out e (by rw [hke, List.take_length]; exact he)
                                clear hall hke
                                by_cases hq : o.qs.length = 0
                                · have q2 : ¬ (2 < (o.qs.length : Int)) := by omega
                                  have q0 : ¬ (0 < (o.qs.length : Int)) := by omega
                                  go_wp2
                                  go_loop [5] (fun i => ∃ k : Nat, k ≤ o.qs.length ∧ i = .int .i64 k ∧ Hid (∀ e, e ∈ o.qs.take k → msgB e = true)) (fun i => o.qs.length - (intOf i).toNat)
                                  case atStart => exact ⟨0, Nat.zero_le _, rfl, fun e he => absurd he (by simp)⟩
                                  case round =>
                                    obtain ⟨k, hk1, rfl, hall⟩ := hrel
                                    by_cases hlt : k < o.qs.length
                                    · exact absurd hlt (by omega)
                                    · have hke : k = o.qs.length := by omega
                                      have hqa : o.qs.all msgB = true := List.all_eq_true.2 fun e he => hall.out e (by rw [hke, List.take_length]; exact he)
                                      clear hall hke
                                      have E : Hid (obOk o = true) := by show obOk o = true; simp [obOk, hg, hk, boxB, segB, gateB, thrB, commonB, dataN, dataS, queueN, queueG, turnsN, turnsT, zeroB, hi, hs, hu, hp, hl, hr, hla, hw, ht, hn0, hd, hda, hq, hqa]
                                      go_wp2
                                      go_ret
                                      exact ⟨by rw [E.out]; rfl, HB.out⟩
                                · have q0 : (0 < (o.qs.length : Int)) := by omega
                                  by_cases hq2 : o.qs.length ≤ 2
                                  · have q2 : ¬ (2 < (o.qs.length : Int)) := by omega
                                    have E : Hid (obOk o = false) := by show obOk o = false; simp [obOk, hg, hk, boxB, segB, gateB, thrB, commonB, dataN, dataS, queueN, queueG, turnsN, turnsT, zeroB, hi, hs, hu, hp, hl, hr, hla, hw, ht, hn0, hd, hda, hq]
                                    go_wp2
                                    go_ret
                                    exact ⟨by rw [E.out]; rfl, HB.out⟩
                                  · have q2 : (2 < (o.qs.length : Int)) := by omega
                                    have E : Hid (obOk o = false) := by show obOk o = false; simp [obOk, hg, hk, boxB, segB, gateB, thrB, commonB, dataN, dataS, queueN, queueG, turnsN, turnsT, zeroB, hi, hs, hu, hp, hl, hr, hla, hw, ht, hn0, hd, hda, hq]
                                    go_wp2
                                    go_ret
                                    exact ⟨by rw [E.out]; rfl, HB.out⟩
                          · have qd : ((o.ds.length : Int) == 0) = false := beq_eq_false_iff_ne.2 (by omega)
                            have nd : ((o.ds.length : Int) != 0) = true := by rw [bne, qd]; rfl
                            have E : Hid (obOk o = false) := by show obOk o = false; simp [obOk, hg, hk, boxB, segB, gateB, thrB, commonB, dataN, dataS, queueN, queueG, turnsN, turnsT, zeroB, hi, hs, hu, hp, hl, hr, hla, hw, ht, hn0, hd]
                            go_wp2
                            go_ret
                            exact ⟨by rw [E.out]; rfl, HB.out⟩
                        · have qhn0 : (o.ran == 0) = false := beq_eq_false_iff_ne.2 hn0
                          have nhn0 : (o.ran != 0) = true := by simp [hn0]
                          have E : Hid (obOk o = false) := by show obOk o = false; simp [obOk, hg, hk, boxB, segB, gateB, thrB, commonB, dataN, dataS, queueN, queueG, turnsN, turnsT, zeroB, hi, hs, hu, hp, hl, hr, hla, hw, ht, hn0]
                          go_wp2
                          go_ret
                          exact ⟨by rw [E.out]; rfl, HB.out⟩
                      · have qht : (o.got == 0) = false := beq_eq_false_iff_ne.2 ht
                        have nht : (o.got != 0) = true := by simp [ht]
                        have E : Hid (obOk o = false) := by show obOk o = false; simp [obOk, hg, hk, boxB, segB, gateB, thrB, commonB, dataN, dataS, queueN, queueG, turnsN, turnsT, zeroB, hi, hs, hu, hp, hl, hr, hla, hw, ht]
                        go_wp2
                        go_ret
                        exact ⟨by rw [E.out]; rfl, HB.out⟩
                    · have qhw : (o.wait == 0) = false := beq_eq_false_iff_ne.2 hw
                      have nhw : (o.wait != 0) = true := by simp [hw]
                      have E : Hid (obOk o = false) := by show obOk o = false; simp [obOk, hg, hk, boxB, segB, gateB, thrB, commonB, dataN, dataS, queueN, queueG, turnsN, turnsT, zeroB, hi, hs, hu, hp, hl, hr, hla, hw]
                      go_wp2
                      go_ret
                      exact ⟨by rw [E.out]; rfl, HB.out⟩
            · have nl : ((o.ls.length : Int) != 2) = true := by simp; omega
              have E : Hid (obOk o = false) := by show obOk o = false; simp [obOk, hg, hk, boxB, segB, gateB, thrB, commonB, dataN, dataS, queueN, queueG, turnsN, turnsT, zeroB, hi, hs, hu, hp, hl]
              go_wp2
              go_ret
              exact ⟨by rw [E.out]; rfl, HB.out⟩
end Go.Proofs.Ytokicnopfmokaaa
