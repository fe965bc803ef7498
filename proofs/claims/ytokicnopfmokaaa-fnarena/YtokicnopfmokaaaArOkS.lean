/-
  Is an arena right: the model.
-/
import Derived.Test.YtokicnopfmokaaaOkS5
import Derived.Test.YtokicnopfmokaaaArOkI
namespace Go.Proofs.Ytokicnopfmokaaa
open Go.RowKit
set_option linter.unusedVariables false
set_option maxRecDepth 100000
set_option linter.unusedSimpArgs false

theorem ar_no_ok {os : List Ob} {k : Nat} (hk : k < os.length) (h : obOk (obAt os k) = false) : arenaOk os = false := by
  have e : os.all obOk = false := List.all_eq_false.2 ⟨_, all_memO hk, by rw [h]; simp⟩
  simp [arenaOk, e]
theorem ar_no_leads {os : List Ob} {k : Nat} (hk : k < os.length) (h : leadsB os (obAt os k) = false) : arenaOk os = false := by
  have e : os.all (leadsB os) = false := List.all_eq_false.2 ⟨_, all_memO hk, by rw [h]; simp⟩
  simp [arenaOk, e]
theorem ar_yes {os : List Ob} (hl : os.length = 10) (hr : rootB (obAt os 0) = true) (h : ∀ k, k < 10 → obOk (obAt os k) = true ∧ leadsB os (obAt os k) = true) : arenaOk os = true := by
  have e1 : os.all obOk = true := List.all_eq_true.2 fun x hx => by
    obtain ⟨i, hi, rfl⟩ := List.getElem_of_mem hx
    rw [← obAt_in hi]; exact (h i (by omega)).1
  have e2 : os.all (leadsB os) = true := List.all_eq_true.2 fun x hx => by
    obtain ⟨i, hi, rfl⟩ := List.getElem_of_mem hx
    rw [← obAt_in hi]; exact (h i (by omega)).2
  simp [arenaOk, hl, e1, e2, hr]
theorem zero_into {o : Ob} (h : obOk o = true) (hz : o.kind = 0) : o.into = 0 ∧ o.ls = [] := by
  unfold obOk at h
  rw [if_pos hz] at h
  unfold zeroB at h
  simp only [Bool.and_eq_true, decide_eq_true_eq, List.length_eq_zero_iff] at h
  exact ⟨h.2.1, h.2.2.2.2.2.2.2.2.2.1⟩
theorem root_thing {os : List Ob} (h : rootB (obAt os 0) = true) : toThing os 0 = true := by
  unfold rootB at h
  simp only [Bool.and_eq_true, decide_eq_true_eq] at h
  simp [toThing, h.1]
theorem root_into {os : List Ob} (h : rootB (obAt os 0) = true) : (obAt os 0).into = -1 := by
  unfold rootB at h
  simp only [Bool.and_eq_true, decide_eq_true_eq] at h
  exact h.2.1
def AllFit (os : List Ob) : Prop := ∀ i, Fits (obAt os i)
set_option maxRecDepth 100000 in
set_option maxHeartbeats 20000000 in
theorem specArena_go (p0 : Addr) (cap : Nat) (os : List Ob) (w : World) (hx : IsArena w (.slice (some p0) 10 cap) os) (hl : os.length = 10) (hs : Small8 os) (hf : AllFit os) (hr : rootB (obAt os 0) = true) :
    Calls Try.prog 8 #[.slice (some p0) 10 cap] w fun e w' => e = .returned (.bool (arenaOk os)) ∧ Below w.heap.size w w' := by
  have hcap : 10 ≤ cap := by obtain ⟨_, _, hv, h, _⟩ := hx; simp only [Value.slice.injEq] at hv; omega
  have HX : Hid (∀ wr, Below w.heap.size w wr → ∀ i, i < 10 → ∃ q l d m, p0.add (i * 13) = q ∧ ObCells wr q (obAt os i) l d m ∧ Lists wr l d m (obAt os i)) := fun wr hb i hi => by
    obtain ⟨p, q, l, d, m, h1, h2, h3, h4⟩ := (hx.on hb).at (i := i) (by omega)
    obtain rfl : p0 = p := by simpa using h1
    exact ⟨q, l, d, m, h2, h3, h4⟩
  have HS := hid_of hs
  have HF : Hid (AllFit os) := hf
  have HR := hid_of hr
  have HL10 := hid_of hl
  have hrk : (obAt os 0).kind = 1 ∧ (obAt os 0).into = -1 ∧ (obAt os 0).unt = 1000000 := by
    unfold rootB at hr
    simpa only [Bool.and_eq_true, decide_eq_true_eq] using hr
  obtain ⟨q0, l0, d0, m0, hq0, ⟨_, k1, k2, _, k4, _⟩, _⟩ := HX.out w (Below.refl _ _) 0 (by omega)
  rw [hrk.1] at k1
  rw [hrk.2.1] at k2
  rw [hrk.2.2] at k4
  have hq0' : p0.add 0 = q0 := by simpa using hq0
  clear hx hl hs hf hr hrk
  go_enter Try.func8, Try.ntmps8
  go_wp2
  go_loopw [3] (fun i wr => ∃ k : Nat, k ≤ 10 ∧ i = .int .i64 k ∧ Hid (∀ i, i < k → obOk (obAt os i) = true ∧ leadsB os (obAt os i) = true) ∧ Below w.heap.size w wr) (fun i _ => 10 - (intOf i).toNat)
  case atStart => exact ⟨0, Nat.zero_le _, rfl, fun i hi => absurd hi (by omega), Below.refl _ _⟩
  case round =>
    clear k1 k2 k4 hq0 hq0'
    obtain ⟨k, hk, rfl, hall, hnx⟩ := hrel
    by_cases hlt : k < 10
    · obtain ⟨q, l, d, m, hq, hcs, hu⟩ := HX.out wr hnx k hlt
      have C := specObjOk_any (obAt os k) l d m wr hu (HS.out k) (HF.out k)
      have HU := hid_of hu
      have HCS := hid_of hcs
      obtain ⟨c0, c1, c2, c3, c4, c5, c6, c7, c8, c9, c10, c11, c12⟩ := hcs
      clear hu
      obtain ⟨o, ho⟩ : ∃ o, o = obAt os k := ⟨_, rfl⟩
      rw [← ho] at C HU HCS c0 c1 c2 c3 c4 c5 c6 c7 c8 c9
      have HO : Hid (obAt os k = o) := ho.symm
      clear ho
      go_wp2_with fail
      refine C.mono ?_
      rintro e w1 ⟨rfl, hb⟩
      have HB := hid_of (below_more hnx hb)
      have HLS0 := HU.out.ls.on hb
      obtain ⟨_, d1, d2, _, _, _, _, _, _, _, d10, _, _⟩ := HCS.out.on hb
      obtain ⟨al, cl, rfl, hcl, hxl⟩ := HLS0
      have HLS : Hid (∀ i, i < o.ls.length → ∃ p, al = some p ∧ w1.cell? (p.add i) = some (.int .i64 (o.ls.getD i 0))) := hxl
      have HK1 : Hid (∀ i, i < 10 → ∃ q, p0.add (i * 13) = q ∧ w1.cell? ⟨q.block, q.off + 1, none⟩ = some (.int .i64 (obAt os i).kind)) := fun i hi => by
        obtain ⟨q, l, d, m, h1, h2, _⟩ := HX.out w1 HB.out i hi
        exact ⟨q, h1, h2.c1⟩
      clear C hb hnx HU HCS hxl c0 c1 c2 c3 c4 c5 c6 c7 c8 c9 c10 c11 c12
      cases hok : obOk o with
      | false =>
        have E : Hid (arenaOk os = false) := by rw [← HO.out] at hok; exact ar_no_ok (by rw [HL10.out]; exact hlt) hok
        go_wp2
        go_ret
        exact ⟨by rw [E.out]; rfl, HB.out⟩
      | true =>
        have HOK : Hid (obAt os k = o ∧ obOk o = true) := ⟨HO.out, hok⟩
        have HBD : Hid ((-1 ≤ o.into ∧ o.into ≤ 9) ∧ ∀ x, x ∈ o.ls → -1 ≤ x ∧ x ≤ 9) := obOk_leads hok
        have hls6 : o.ls.length ≤ 1048576 := by have h6 := HS.out k; rw [HO.out] at h6; unfold obN at h6; omega
        by_cases hz0 : o.kind = 0
        · have n0 : (o.kind != 0) = false := by simp [hz0]
          have HIN : Hid (toThing os o.into = true) := by show toThing os o.into = true; rw [(zero_into hok hz0).1]; exact root_thing HR.out
          clear hok hz0
          go_wp2
          go_loop [4] (fun i => ∃ n : Nat, n ≤ o.ls.length ∧ i = .int .i64 n ∧ Hid (∀ e, e ∈ o.ls.take n → toThing os e = true)) (fun i => o.ls.length - (intOf i).toNat)
          case atStart => exact ⟨0, Nat.zero_le _, rfl, fun e he => absurd he (by simp)⟩
          case round =>
            obtain ⟨n, hn1, rfl, hin⟩ := hrel
            by_cases hlt2 : n < o.ls.length
            · obtain ⟨pl, rfl, hcx⟩ := HLS.out n hlt2
              have hmem : o.ls.getD n 0 ∈ o.ls := all_memI hlt2
              have hbd := HBD.out.2 _ hmem
              have HT : Hid (o.ls.take (n + 1) = o.ls.take n ++ [o.ls.getD n 0]) := take_oneI hlt2
              generalize o.ls.getD n 0 = x at hcx hmem HT hbd
              by_cases hx0 : 0 ≤ x
              · obtain ⟨j, rfl⟩ : ∃ j : Nat, x = j := ⟨x.toNat, by omega⟩
                obtain ⟨q2, hq2, hc2⟩ := HK1.out j (by omega)
                by_cases hz : (obAt os j).kind = 0
                · have hno : leadsB os o = false := by
                    have e : o.ls.all (toThing os) = false := List.all_eq_false.2 ⟨_, hmem, by simp [toThing, hz] <;> omega⟩
                    simp [leadsB, e]
                  rw [hz] at hc2
                  have hj10 : j < 10 := by omega
                  have E : Hid (arenaOk os = false) := by rw [← HOK.out.1] at hno; exact ar_no_leads (by rw [HL10.out]; exact hlt) hno
                  go_wp2
                  go_ret
                  exact ⟨by rw [E.out]; rfl, HB.out⟩
                · have HA : Hid (∀ e, e ∈ o.ls.take (n + 1) → toThing os e = true) := fun e he => by
                    rw [HT.out, List.mem_append] at he
                    rcases he with h | h
                    · exact hin.out e h
                    · rw [List.mem_singleton] at h; rw [h]; simp [toThing, hz]
                  have hj10 : j < 10 := by omega
                  generalize (obAt os j).kind = z at hz hc2
                  have hz1 : (z == 0) = false := beq_eq_false_iff_ne.2 hz
                  clear hin
                  go_wp2
                  exact ⟨⟨n + 1, by omega, by go_num, HA⟩, by simp [intOf]; omega⟩
              · have HA : Hid (∀ e, e ∈ o.ls.take (n + 1) → toThing os e = true) := fun e he => by
                  rw [HT.out, List.mem_append] at he
                  rcases he with h | h
                  · exact hin.out e h
                  · rw [List.mem_singleton] at h; rw [h]
                    have : x = -1 := by omega
                    simp [toThing, this]
                clear hin
                go_wp2
                exact ⟨⟨n + 1, by omega, by go_num, HA⟩, by simp [intOf]; omega⟩
            · have hne : n = o.ls.length := by omega
              have HA : Hid (∀ i, i < k + 1 → obOk (obAt os i) = true ∧ leadsB os (obAt os i) = true) := fun i hi => by
                by_cases h : i = k
                · rw [h, HOK.out.1]
                  refine ⟨HOK.out.2, ?_⟩
                  have e : o.ls.all (toThing os) = true := List.all_eq_true.2 fun e he => hin.out e (by rw [hne, List.take_length]; exact he)
                  simp [leadsB, e, HIN.out]
                · exact hall.out i (by omega)
              clear hin
              go_wp2
              go_roundw
              case rel => exact ⟨k + 1, by omega, by go_num, HA, HB.out⟩
              case measure => simp [intOf]; omega
        · have n0 : (o.kind != 0) = true := by simp [hz0]
          by_cases hk0 : k = 0
          · have g0 : ¬ (0 < (k : Int)) := by omega
            have HIN : Hid (toThing os o.into = true) := by
              show toThing os o.into = true
              have e := root_into HR.out
              rw [← hk0, HO.out] at e
              rw [e]; simp [toThing]
            clear hok hz0 hk0
            go_wp2
            go_loop [4] (fun i => ∃ n : Nat, n ≤ o.ls.length ∧ i = .int .i64 n ∧ Hid (∀ e, e ∈ o.ls.take n → toThing os e = true)) (fun i => o.ls.length - (intOf i).toNat)
            case atStart => exact ⟨0, Nat.zero_le _, rfl, fun e he => absurd he (by simp)⟩
            case round =>
              obtain ⟨n, hn1, rfl, hin⟩ := hrel
              by_cases hlt2 : n < o.ls.length
              · obtain ⟨pl, rfl, hcx⟩ := HLS.out n hlt2
                have hmem : o.ls.getD n 0 ∈ o.ls := all_memI hlt2
                have hbd := HBD.out.2 _ hmem
                have HT : Hid (o.ls.take (n + 1) = o.ls.take n ++ [o.ls.getD n 0]) := take_oneI hlt2
                generalize o.ls.getD n 0 = x at hcx hmem HT hbd
                by_cases hx0 : 0 ≤ x
                · obtain ⟨j, rfl⟩ : ∃ j : Nat, x = j := ⟨x.toNat, by omega⟩
                  obtain ⟨q2, hq2, hc2⟩ := HK1.out j (by omega)
                  by_cases hz : (obAt os j).kind = 0
                  · have hno : leadsB os o = false := by
                      have e : o.ls.all (toThing os) = false := List.all_eq_false.2 ⟨_, hmem, by simp [toThing, hz] <;> omega⟩
                      simp [leadsB, e]
                    rw [hz] at hc2
                    have hj10 : j < 10 := by omega
                    have E : Hid (arenaOk os = false) := by rw [← HOK.out.1] at hno; exact ar_no_leads (by rw [HL10.out]; exact hlt) hno
                    go_wp2
                    go_ret
                    exact ⟨by rw [E.out]; rfl, HB.out⟩
                  · have HA : Hid (∀ e, e ∈ o.ls.take (n + 1) → toThing os e = true) := fun e he => by
                      rw [HT.out, List.mem_append] at he
                      rcases he with h | h
                      · exact hin.out e h
                      · rw [List.mem_singleton] at h; rw [h]; simp [toThing, hz]
                    have hj10 : j < 10 := by omega
                    generalize (obAt os j).kind = z at hz hc2
                    have hz1 : (z == 0) = false := beq_eq_false_iff_ne.2 hz
                    clear hin
                    go_wp2
                    exact ⟨⟨n + 1, by omega, by go_num, HA⟩, by simp [intOf]; omega⟩
                · have HA : Hid (∀ e, e ∈ o.ls.take (n + 1) → toThing os e = true) := fun e he => by
                    rw [HT.out, List.mem_append] at he
                    rcases he with h | h
                    · exact hin.out e h
                    · rw [List.mem_singleton] at h; rw [h]
                      have : x = -1 := by omega
                      simp [toThing, this]
                  clear hin
                  go_wp2
                  exact ⟨⟨n + 1, by omega, by go_num, HA⟩, by simp [intOf]; omega⟩
              · have hne : n = o.ls.length := by omega
                have HA : Hid (∀ i, i < k + 1 → obOk (obAt os i) = true ∧ leadsB os (obAt os i) = true) := fun i hi => by
                  by_cases h : i = k
                  · rw [h, HOK.out.1]
                    refine ⟨HOK.out.2, ?_⟩
                    have e : o.ls.all (toThing os) = true := List.all_eq_true.2 fun e he => hin.out e (by rw [hne, List.take_length]; exact he)
                    simp [leadsB, e, HIN.out]
                  · exact hall.out i (by omega)
                clear hin
                go_wp2
                go_roundw
                case rel => exact ⟨k + 1, by omega, by go_num, HA, HB.out⟩
                case measure => simp [intOf]; omega
          · have g0 : (0 < (k : Int)) := by omega
            by_cases hin0 : 0 ≤ o.into
            · obtain ⟨j, hj⟩ : ∃ j : Nat, o.into = j := ⟨o.into.toNat, by omega⟩
              have hj10 : j < 10 := by have := HBD.out.1; omega
              obtain ⟨q3, hq3, hc3⟩ := HK1.out j hj10
              rw [hj] at d2
              by_cases hz : (obAt os j).kind = 0
              · have hno : leadsB os o = false := by simp [leadsB, toThing, hj, hz] <;> omega
                rw [hz] at hc3
                clear hok hz0 hz hin0
                have E : Hid (arenaOk os = false) := by rw [← HO.out] at hno; exact ar_no_leads (by rw [HL10.out]; exact hlt) hno
                go_wp2
                go_ret
                exact ⟨by rw [E.out]; rfl, HB.out⟩
              · have HIN : Hid (toThing os o.into = true) := by show toThing os o.into = true; simp [toThing, hj, hz]
                generalize (obAt os j).kind = z at hz hc3
                have hz1 : (z == 0) = false := beq_eq_false_iff_ne.2 hz
                clear hok hz0 hin0 hj
                go_wp2
                go_loop [4] (fun i => ∃ n : Nat, n ≤ o.ls.length ∧ i = .int .i64 n ∧ Hid (∀ e, e ∈ o.ls.take n → toThing os e = true)) (fun i => o.ls.length - (intOf i).toNat)
                case atStart => exact ⟨0, Nat.zero_le _, rfl, fun e he => absurd he (by simp)⟩
                case round =>
                  obtain ⟨n, hn1, rfl, hin⟩ := hrel
                  by_cases hlt2 : n < o.ls.length
                  · obtain ⟨pl, rfl, hcx⟩ := HLS.out n hlt2
                    have hmem : o.ls.getD n 0 ∈ o.ls := all_memI hlt2
                    have hbd := HBD.out.2 _ hmem
                    have HT : Hid (o.ls.take (n + 1) = o.ls.take n ++ [o.ls.getD n 0]) := take_oneI hlt2
                    generalize o.ls.getD n 0 = x at hcx hmem HT hbd
                    by_cases hx0 : 0 ≤ x
                    · obtain ⟨j, rfl⟩ : ∃ j : Nat, x = j := ⟨x.toNat, by omega⟩
                      obtain ⟨q2, hq2, hc2⟩ := HK1.out j (by omega)
                      by_cases hz : (obAt os j).kind = 0
                      · have hno : leadsB os o = false := by
                          have e : o.ls.all (toThing os) = false := List.all_eq_false.2 ⟨_, hmem, by simp [toThing, hz] <;> omega⟩
                          simp [leadsB, e]
                        rw [hz] at hc2
                        have hj10 : j < 10 := by omega
                        have E : Hid (arenaOk os = false) := by rw [← HOK.out.1] at hno; exact ar_no_leads (by rw [HL10.out]; exact hlt) hno
                        go_wp2
                        go_ret
                        exact ⟨by rw [E.out]; rfl, HB.out⟩
                      · have HA : Hid (∀ e, e ∈ o.ls.take (n + 1) → toThing os e = true) := fun e he => by
                          rw [HT.out, List.mem_append] at he
                          rcases he with h | h
                          · exact hin.out e h
                          · rw [List.mem_singleton] at h; rw [h]; simp [toThing, hz]
                        have hj10 : j < 10 := by omega
                        generalize (obAt os j).kind = z at hz hc2
                        have hz1 : (z == 0) = false := beq_eq_false_iff_ne.2 hz
                        clear hin
                        go_wp2
                        exact ⟨⟨n + 1, by omega, by go_num, HA⟩, by simp [intOf]; omega⟩
                    · have HA : Hid (∀ e, e ∈ o.ls.take (n + 1) → toThing os e = true) := fun e he => by
                        rw [HT.out, List.mem_append] at he
                        rcases he with h | h
                        · exact hin.out e h
                        · rw [List.mem_singleton] at h; rw [h]
                          have : x = -1 := by omega
                          simp [toThing, this]
                      clear hin
                      go_wp2
                      exact ⟨⟨n + 1, by omega, by go_num, HA⟩, by simp [intOf]; omega⟩
                  · have hne : n = o.ls.length := by omega
                    have HA : Hid (∀ i, i < k + 1 → obOk (obAt os i) = true ∧ leadsB os (obAt os i) = true) := fun i hi => by
                      by_cases h : i = k
                      · rw [h, HOK.out.1]
                        refine ⟨HOK.out.2, ?_⟩
                        have e : o.ls.all (toThing os) = true := List.all_eq_true.2 fun e he => hin.out e (by rw [hne, List.take_length]; exact he)
                        simp [leadsB, e, HIN.out]
                      · exact hall.out i (by omega)
                    clear hin
                    go_wp2
                    go_roundw
                    case rel => exact ⟨k + 1, by omega, by go_num, HA, HB.out⟩
                    case measure => simp [intOf]; omega
            · have HIN : Hid (toThing os o.into = true) := by
                show toThing os o.into = true
                have : o.into = -1 := by have := HBD.out.1; omega
                rw [this]; simp [toThing]
              clear hok hz0
              go_wp2
              go_loop [4] (fun i => ∃ n : Nat, n ≤ o.ls.length ∧ i = .int .i64 n ∧ Hid (∀ e, e ∈ o.ls.take n → toThing os e = true)) (fun i => o.ls.length - (intOf i).toNat)
              case atStart => exact ⟨0, Nat.zero_le _, rfl, fun e he => absurd he (by simp)⟩
              case round =>
                obtain ⟨n, hn1, rfl, hin⟩ := hrel
                by_cases hlt2 : n < o.ls.length
                · obtain ⟨pl, rfl, hcx⟩ := HLS.out n hlt2
                  have hmem : o.ls.getD n 0 ∈ o.ls := all_memI hlt2
                  have hbd := HBD.out.2 _ hmem
                  have HT : Hid (o.ls.take (n + 1) = o.ls.take n ++ [o.ls.getD n 0]) := take_oneI hlt2
                  generalize o.ls.getD n 0 = x at hcx hmem HT hbd
                  by_cases hx0 : 0 ≤ x
                  · obtain ⟨j, rfl⟩ : ∃ j : Nat, x = j := ⟨x.toNat, by omega⟩
                    obtain ⟨q2, hq2, hc2⟩ := HK1.out j (by omega)
                    by_cases hz : (obAt os j).kind = 0
                    · have hno : leadsB os o = false := by
                        have e : o.ls.all (toThing os) = false := List.all_eq_false.2 ⟨_, hmem, by simp [toThing, hz] <;> omega⟩
                        simp [leadsB, e]
                      rw [hz] at hc2
                      have hj10 : j < 10 := by omega
                      have E : Hid (arenaOk os = false) := by rw [← HOK.out.1] at hno; exact ar_no_leads (by rw [HL10.out]; exact hlt) hno
                      go_wp2
                      go_ret
                      exact ⟨by rw [E.out]; rfl, HB.out⟩
                    · have HA : Hid (∀ e, e ∈ o.ls.take (n + 1) → toThing os e = true) := fun e he => by
                        rw [HT.out, List.mem_append] at he
                        rcases he with h | h
                        · exact hin.out e h
                        · rw [List.mem_singleton] at h; rw [h]; simp [toThing, hz]
                      have hj10 : j < 10 := by omega
                      generalize (obAt os j).kind = z at hz hc2
                      have hz1 : (z == 0) = false := beq_eq_false_iff_ne.2 hz
                      clear hin
                      go_wp2
                      exact ⟨⟨n + 1, by omega, by go_num, HA⟩, by simp [intOf]; omega⟩
                  · have HA : Hid (∀ e, e ∈ o.ls.take (n + 1) → toThing os e = true) := fun e he => by
                      rw [HT.out, List.mem_append] at he
                      rcases he with h | h
                      · exact hin.out e h
                      · rw [List.mem_singleton] at h; rw [h]
                        have : x = -1 := by omega
                        simp [toThing, this]
                    clear hin
                    go_wp2
                    exact ⟨⟨n + 1, by omega, by go_num, HA⟩, by simp [intOf]; omega⟩
                · have hne : n = o.ls.length := by omega
                  have HA : Hid (∀ i, i < k + 1 → obOk (obAt os i) = true ∧ leadsB os (obAt os i) = true) := fun i hi => by
                    by_cases h : i = k
                    · rw [h, HOK.out.1]
                      refine ⟨HOK.out.2, ?_⟩
                      have e : o.ls.all (toThing os) = true := List.all_eq_true.2 fun e he => hin.out e (by rw [hne, List.take_length]; exact he)
                      simp [leadsB, e, HIN.out]
                    · exact hall.out i (by omega)
                  clear hin
                  go_wp2
                  go_roundw
                  case rel => exact ⟨k + 1, by omega, by go_num, HA, HB.out⟩
                  case measure => simp [intOf]; omega
    · obtain rfl : k = 10 := by omega
      have E : Hid (arenaOk os = true) := ar_yes HL10.out HR.out hall.out
      clear hall
      go_wp2
      go_ret
      exact ⟨by rw [E.out]; rfl, hnx⟩
set_option maxHeartbeats 8000000 in
theorem specArenaOk_any (v : Value) (os : List Ob) (w : World) (hx : IsArena w v os) (hn : os.length ≤ 1048576) (hs : Small8 os) (hf : AllFit os) :
    Calls Try.prog 8 #[v] w fun e w' => e = .returned (.bool (arenaOk os)) ∧ Below w.heap.size w w' := by
  obtain ⟨a, cap, rfl, hcap, _⟩ := id hx
  by_cases hl : os.length = 10
  · obtain ⟨p0, q0, l0, d0, m0, rfl, hq0, ⟨_, k1, k2, _, k4, _⟩, _⟩ := hx.at (i := 0) (by omega)
    rw [hl] at hx hcap ⊢
    cases hr : rootB (obAt os 0) with
    | true => exact specArena_go p0 cap os w hx hl hs hf hr
    | false =>
      have e : arenaOk os = false := by simp [arenaOk, hr]
      rw [e]
      have hq0' : p0.add 0 = q0 := by simpa using hq0
      unfold rootB at hr
      generalize obAt os 0 = o at hr k1 k2 k4
      clear e hx hl hs hf hn
      by_cases hk : o.kind = 1
      · have qk : (o.kind != 1) = false := by simp [hk]
        by_cases hi : o.into = -1
        · have qi : (o.into != -1) = false := by simp [hi]
          by_cases hu : o.unt = 1000000
          · simp [hk, hi, hu] at hr
          · have qu : (o.unt != 1000000) = true := by simp [hu]
            clear hr
            go_enter Try.func8, Try.ntmps8
            go_wp2
            go_ret
            exact ⟨rfl, Below.refl _ _⟩
        · have qi : (o.into != -1) = true := by simp [hi]
          clear hr
          go_enter Try.func8, Try.ntmps8
          go_wp2
          go_ret
          exact ⟨rfl, Below.refl _ _⟩
      · have qk : (o.kind != 1) = true := by simp [hk]
        clear hr
        go_enter Try.func8, Try.ntmps8
        go_wp2
        go_ret
        exact ⟨rfl, Below.refl _ _⟩
  · have e : arenaOk os = false := by simp [arenaOk, hl]
    rw [e]
    have nl : ((os.length : Int) != 10) = true := by simp; omega
    clear e hx hs hf hn hl
    go_enter Try.func8, Try.ntmps8
    go_wp2
    go_ret
    exact ⟨rfl, Below.refl _ _⟩
end Go.Proofs.Ytokicnopfmokaaa
