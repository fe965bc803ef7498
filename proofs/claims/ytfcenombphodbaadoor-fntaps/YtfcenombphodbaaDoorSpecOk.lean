/-
  The model's TreeOk.
-/
import Derived.Test.YtfcenombphodbaaDoorSpecSum
namespace Go.Proofs.YtfcenombphodbaaDoor
open Go.RowKit
set_option linter.unusedVariables false
set_option maxRecDepth 100000

theorem l6Res_any (x : Int) (w : World) :
    Calls Tryd.prog 33 #[.int .i64 x] w fun e w' => e = .returned (.bool (decide (0 ≤ x) && decide (x ≤ 4))) ∧ w = w' := by
  have C := l1In_any x 0 4 w
  generalize (decide ((0 : Int) ≤ x) && decide (x ≤ 4)) = o at C ⊢
  go_enter Tryd.func33, Tryd.ntmps33
  go_wp2_with fail
  refine C.mono ?_
  rintro e w' ⟨rfl, rfl⟩
  clear C
  go_wp2
  go_ret
  exact ⟨rfl, rfl⟩
/-- What the first loop has found. -/
def Fine1 (ts : List Re) (k : Nat) : Prop := ∀ i, i < k → (placeOk (reAt ts i) && parOk ts i) = true
theorem fine1_next {ts : List Re} {k : Nat} (h : Fine1 ts k) (hk : (placeOk (reAt ts k) && parOk ts k) = true) : Fine1 ts (k + 1) := fun i hi => by
  by_cases he : i = k
  · rw [he]; exact hk
  · exact h i (by omega)
def Fine2 (ts : List Re) (k : Nat) : Prop := ∀ i, i < k → leads ts i = true
theorem fine2_next {ts : List Re} {k : Nat} (h : Fine2 ts k) (hk : leads ts k = true) : Fine2 ts (k + 1) := fun i hi => by
  by_cases he : i = k
  · rw [he]; exact hk
  · exact h i (by omega)

set_option maxRecDepth 100000 in
set_option maxHeartbeats 8000000 in
theorem specOk_five (a : Option Addr) (cap : Nat) (ts : List Re) (w : World) (hx : IsTree w (.slice a 5 cap) ts) (hl : ts.length = 5) (hcap : 5 ≤ cap) (hr : (reAt ts 0).live = true) (hp : (reAt ts 0).par = -1) (ans : Bool) (hans : ans = treeOk ts) :
    Calls Tryd.prog 10 #[.slice a 5 cap] w fun e w' => e = .returned (.bool ans) ∧ Below w.heap.size w w' := by
  have HX : Hid (IsTree w (.slice a 5 cap) ts) := hx
  have HA : Hid (ans = treeOk ts) := hans
  have HL : Hid (ts.length = 5) := hl
  have HRP : Hid ((reAt ts 0).live = true ∧ (reAt ts 0).par = -1) := ⟨hr, hp⟩
  obtain ⟨p, q0, rfl, hq0, hc0⟩ := hx.at (i := 0) (by omega)
  have e0 := hc0.c0
  have e1 := hc0.c1
  rw [hr] at e0
  rw [hp] at e1
  have hq0' : p.add 0 = q0 := hq0
  clear hx hans hl hr hp hc0 hq0
  go_enter Tryd.func10, Tryd.ntmps10
  go_wp2
  clear e0 e1 hq0'
  go_loopw [3] (fun i wr => ∃ k : Nat, k ≤ 5 ∧ i = .int .i64 k ∧ Hid (Fine1 ts k) ∧ Hid (Below w.heap.size w wr)) (fun i _ => 5 - (intOf i).toNat)
  case atStart => exact ⟨0, Nat.zero_le _, rfl, hid_of (fun i hi => absurd hi (Nat.not_lt_zero _)), hid_of (Below.refl _ _)⟩
  case round =>
    obtain ⟨k, hk, rfl, HI, HB⟩ := hrel
    by_cases hlt : k < 5
    · obtain ⟨p', q, hpp, hq, hcw⟩ := HX.out.at (i := k) (by rw [HL.out]; exact hlt)
      cases hpp
      obtain ⟨c0, c1, c2, c3, c4⟩ := hcw.on HB.out
      have CA := fun w => specAmtOk_in (reAt ts k).a (reAt ts k).b (reAt ts k).c w
      have CR := fun w => l6Res_any (reAt ts k).par w
      have HP : Hid (∀ r, reAt ts k = r → (placeOk r && parOk ts k) = false → treeOk ts = false) := fun r hr h => treeOk_place hlt (by rw [hr]; exact h)
      have HG : Hid (∀ r, reAt ts k = r → (placeOk r && parOk ts k) = true → Fine1 ts (k + 1)) := fun r hr h => fine1_next HI.out (by rw [hr]; exact h)
      obtain ⟨r, hr⟩ : ∃ r, reAt ts k = r := ⟨_, rfl⟩
      have HPAR : Hid (∀ m : Nat, r.live = true → 0 < k → r.par = (m : Int) → m < 5 → (parOk ts k = (!decide ((m : Int) = (k : Int)) && (reAt ts m).live))) := fun m h1 h2 h3 h4 => by
        have e1 : decide (k = 0) = false := by simp; omega
        have e2 : decide ((0 : Int) ≤ (m : Int)) = true := by simp
        have e3 : decide ((m : Int) ≤ 4) = true := by simp; omega
        unfold parOk
        rw [hr, h1, h3, e1, e2, e3, Int.toNat_natCast]
        simp only [Bool.not_true, Bool.false_or, Bool.true_and]
      have HPNO : Hid (r.live = true → 0 < k → (decide (0 ≤ r.par) && decide (r.par ≤ 4)) = false → parOk ts k = false) := fun h1 h2 h3 => by
        unfold parOk
        rw [hr, h1, h3]
        simp
        omega
      have HPRT : Hid ((r.live = false ∨ k = 0) → parOk ts k = true) := fun h => by
        unfold parOk
        rw [hr]
        rcases h with h | h
        · rw [h]; simp
        · rw [h]; simp
      have HP' := hid_of (HP.out r hr)
      have HG' := hid_of (HG.out r hr)
      rw [hr] at c0 c1 c2 c3 c4 CA CR
      clear hr HP HG hcw
      obtain ⟨l, p1, x, y, z⟩ := r
      simp only at c0 c1 c2 c3 c4 CA CR HPAR HPNO HPRT
      cases l with
      | true =>
        obtain ⟨o, ho⟩ : ∃ o, amtOk x y z = o := ⟨_, rfl⟩
        rw [ho] at CA
        have hpl : placeOk ⟨true, p1, x, y, z⟩ = o := by simp [placeOk, ho]
        rw [hpl] at HP' HG'
        clear ho hpl
        cases o with
        | false =>
          have HF : Hid (treeOk ts = false) := HP'.out (by simp)
          clear HP' HG' HPAR HPNO HPRT CR
          go_wp2_with fail
          refine (CA _).mono ?_
          rintro e wk ⟨rfl, hwk⟩
          have HBW : Hid (Below w.heap.size w wk) := by rw [hwk]; exact below_more HB.out (below_alloc wr _)
          clear hwk CA HB
          go_wp2
          go_ret
          exact ⟨by rw [HA.out, HF.out]; rfl, HBW.out⟩
        | true =>
          by_cases hk0 : k = 0
          · have HN : Hid (Fine1 ts (k + 1)) := HG'.out (by rw [HPRT.out (.inr hk0)]; rfl)
            clear HP' HG' HPAR HPNO HPRT CR
            subst hk0
            go_wp2_with fail
            refine (CA _).mono ?_
            rintro e wk ⟨rfl, hwk⟩
            have HBW : Hid (Below w.heap.size w wk) := by rw [hwk]; exact below_more HB.out (below_alloc wr _)
            clear hwk CA HB
            go_wp2
            go_roundw
            case rel => exact ⟨0 + 1, by omega, by go_num, HN, HBW⟩
            case measure => first | (simp [intOf]; done) | (simp [intOf]; omega)
          · have hkp : 0 < k := by omega
            obtain ⟨o2, ho2⟩ : ∃ o, (decide ((0 : Int) ≤ p1) && decide (p1 ≤ 4)) = o := ⟨_, rfl⟩
            rw [ho2] at CR
            cases o2 with
            | false =>
              have HF : Hid (treeOk ts = false) := HP'.out (by rw [HPNO.out rfl hkp ho2]; rfl)
              clear HP' HG' HPAR HPNO HPRT ho2
              go_wp2_with fail
              refine (CA _).mono ?_
              rintro e wk ⟨rfl, hwk⟩
              have HBW : Hid (Below w.heap.size w wk) := by rw [hwk]; exact below_more HB.out (below_alloc wr _)
              obtain ⟨d0, d1, d2, d3, d4⟩ := (Cells5.on (r := ⟨true, p1, x, y, z⟩) ⟨c0, c1, c2, c3, c4⟩ (by rw [hwk]; exact below_alloc wr _ : Below wr.heap.size wr wk))
              simp only at d0 d1
              clear hwk CA c0 c1 c2 c3 c4 d2 d3 d4 HB
              go_wp2_with fail
              refine (CR _).mono ?_
              rintro e w'' ⟨rfl, rfl⟩
              go_wp2
              go_ret
              exact ⟨by rw [HA.out, HF.out]; rfl, HBW.out⟩
            | true =>
              obtain ⟨m, rfl, hm⟩ : ∃ m : Nat, p1 = (m : Int) ∧ m < 5 := by
                simp at ho2
                exact ⟨p1.toNat, by omega, by omega⟩
              have hpar := HPAR.out m rfl hkp rfl hm
              obtain ⟨p'', q2, hpp2, hq2, hcm⟩ := HX.out.at (i := m) (by rw [HL.out]; exact hm)
              cases hpp2
              have HC2 : Hid (∀ wz, Below w.heap.size w wz → wz.cell? q2 = some (.bool (reAt ts m).live)) := fun wz hbz => (hcm.on hbz).c0
              rw [hpar] at HP' HG'
              clear HPAR HPNO HPRT ho2 hpar hcm
              generalize (reAt ts m).live = l2 at HP' HG' HC2
              by_cases hmk : m = k
              · have HF : Hid (treeOk ts = false) := HP'.out (by simp [hmk])
                clear HP' HG' HC2 hq2
                subst hmk
                go_wp2_with fail
                refine (CA _).mono ?_
                rintro e wk ⟨rfl, hwk⟩
                have HBW : Hid (Below w.heap.size w wk) := by rw [hwk]; exact below_more HB.out (below_alloc wr _)
                obtain ⟨d0, d1, d2, d3, d4⟩ := (Cells5.on (r := ⟨true, (m : Int), x, y, z⟩) ⟨c0, c1, c2, c3, c4⟩ (by rw [hwk]; exact below_alloc wr _ : Below wr.heap.size wr wk))
                simp only at d0 d1
                clear hwk CA c0 c1 c2 c3 c4 d2 d3 d4 HB
                go_wp2_with fail
                refine (CR _).mono ?_
                rintro e w'' ⟨rfl, rfl⟩
                go_wp2
                go_ret
                exact ⟨by rw [HA.out, HF.out]; rfl, HBW.out⟩
              · cases l2 with
                | false =>
                  have HF : Hid (treeOk ts = false) := HP'.out (by simp)
                  clear HP' HG'
                  have hmk2 : ¬ ((m : Int) = (k : Int)) := by omega
                  go_wp2_with fail
                  refine (CA _).mono ?_
                  rintro e wk ⟨rfl, hwk⟩
                  have HBW : Hid (Below w.heap.size w wk) := by rw [hwk]; exact below_more HB.out (below_alloc wr _)
                  obtain ⟨d0, d1, d2, d3, d4⟩ := (Cells5.on (r := ⟨true, (m : Int), x, y, z⟩) ⟨c0, c1, c2, c3, c4⟩ (by rw [hwk]; exact below_alloc wr _ : Below wr.heap.size wr wk))
                  simp only at d0 d1
                  clear hwk CA c0 c1 c2 c3 c4 d2 d3 d4 HB
                  go_wp2_with fail
                  refine (CR _).mono ?_
                  rintro e w'' ⟨rfl, rfl⟩
                  have d5 := HC2.out _ HBW.out
                  clear HC2
                  go_wp2
                  go_ret
                  exact ⟨by rw [HA.out, HF.out]; rfl, HBW.out⟩
                | true =>
                  have HN : Hid (Fine1 ts (k + 1)) := HG'.out (by simp; omega)
                  clear HP' HG'
                  have hmk2 : ¬ ((m : Int) = (k : Int)) := by omega
                  go_wp2_with fail
                  refine (CA _).mono ?_
                  rintro e wk ⟨rfl, hwk⟩
                  have HBW : Hid (Below w.heap.size w wk) := by rw [hwk]; exact below_more HB.out (below_alloc wr _)
                  obtain ⟨d0, d1, d2, d3, d4⟩ := (Cells5.on (r := ⟨true, (m : Int), x, y, z⟩) ⟨c0, c1, c2, c3, c4⟩ (by rw [hwk]; exact below_alloc wr _ : Below wr.heap.size wr wk))
                  simp only at d0 d1
                  clear hwk CA c0 c1 c2 c3 c4 d2 d3 d4 HB
                  go_wp2_with fail
                  refine (CR _).mono ?_
                  rintro e w'' ⟨rfl, rfl⟩
                  have d5 := HC2.out _ HBW.out
                  clear HC2
                  go_wp2
                  go_roundw
                  case rel => exact ⟨k + 1, by omega, by go_num, HN, HBW⟩
                  case measure => simp [intOf]; omega
      | false =>
        have hparT := HPRT.out (.inl rfl)
        rw [hparT] at HP' HG'
        clear HPAR HPNO HPRT CR hparT
        by_cases hz : p1 = 0 ∧ x = 0 ∧ y = 0 ∧ z = 0
        · obtain ⟨rfl, rfl, rfl, rfl⟩ := hz
          have h0 : amtOk 0 0 0 = true := by decide
          rw [h0] at CA
          have HN : Hid (Fine1 ts (k + 1)) := HG'.out (by simp [placeOk, isZero, h0])
          clear HP' HG' h0
          go_wp2_with fail
          refine (CA _).mono ?_
          rintro e wk ⟨rfl, hwk⟩
          have HBW : Hid (Below w.heap.size w wk) := by rw [hwk]; exact below_more HB.out (below_alloc wr _)
          obtain ⟨d0, _, _, _, _⟩ := (Cells5.on (r := ⟨false, 0, 0, 0, 0⟩) ⟨c0, c1, c2, c3, c4⟩ (by rw [hwk]; exact below_alloc wr _ : Below wr.heap.size wr wk))
          simp only at d0
          clear hwk CA HB c0 c1 c2 c3 c4
          by_cases hk0 : k = 0
          · subst hk0
            go_wp2
            go_roundw
            case rel => exact ⟨0 + 1, by omega, by go_num, HN, HBW⟩
            case measure => first | (simp [intOf]; done) | (simp [intOf]; omega)
          · have hkp : 0 < k := by omega
            go_wp2
            go_roundw
            case rel => exact ⟨k + 1, by omega, by go_num, HN, HBW⟩
            case measure => simp [intOf]; omega
        · have HF : Hid (treeOk ts = false) := HP'.out (by simp [placeOk, isZero]; omega)
          have HBW : Hid (Below w.heap.size w wr) := HB
          clear HP' HG' CA
          by_cases z0 : p1 = 0
          · by_cases z1 : x = 0
            · by_cases z2 : y = 0
              · have z3 : ¬ z = 0 := fun h => hz ⟨z0, z1, z2, h⟩
                clear hz
                subst z0 z1 z2
                go_wp2
                go_ret
                exact ⟨by rw [HA.out, HF.out]; rfl, HBW.out⟩
              · clear hz
                subst z0 z1
                go_wp2
                go_ret
                exact ⟨by rw [HA.out, HF.out]; rfl, HBW.out⟩
            · clear hz
              subst z0
              go_wp2
              go_ret
              exact ⟨by rw [HA.out, HF.out]; rfl, HBW.out⟩
          · clear hz
            go_wp2
            go_ret
            exact ⟨by rw [HA.out, HF.out]; rfl, HBW.out⟩
    · obtain rfl : k = 5 := by omega
      clear hk hlt
      have HQ : Hid (∀ j, j < 5 → ∃ q, p.add (j * 5) = q ∧ Cells5 wr q (reAt ts j)) := fun j hj => by
        obtain ⟨p', q, hpp, hq, hcw⟩ := HX.out.at (i := j) (by rw [HL.out]; exact hj)
        cases hpp
        exact ⟨q, hq, hcw.on HB.out⟩
      go_wp2
      go_loop [4] (fun i => ∃ k : Nat, k ≤ 5 ∧ i = .int .i64 k ∧ Hid (Fine2 ts k)) (fun i => 5 - (intOf i).toNat)
      case atStart => exact ⟨0, Nat.zero_le _, rfl, hid_of (fun i hi => absurd hi (Nat.not_lt_zero _))⟩
      case round =>
        obtain ⟨k, hk, rfl, HI2⟩ := hrel
        by_cases hlt : k < 5
        · obtain ⟨q, hq, hcq⟩ := HQ.out k hlt
          have c0 := hcq.c0
          clear hcq
          obtain ⟨l, hl2⟩ : ∃ l, (reAt ts k).live = l := ⟨_, rfl⟩
          rw [hl2] at c0
          have HLV : Hid ((reAt ts k).live = l) := hl2
          clear hl2
          have hd : decide ((k : Int) < 5) = true := by simp; omega
          cases l with
          | false =>
            have HN : Hid (Fine2 ts (k + 1)) := hid_of (fine2_next HI2.out (by simp [leads, HLV.out]))
            go_wp2
            try simp only [hd]
            go_loop [5, 6] (fun at' n => at' = .int .i64 (k : Int) ∧ n = .int .i64 0) (fun _ _ => 0)
            case atStart => exact ⟨rfl, rfl⟩
            case round =>
              obtain ⟨rfl, rfl⟩ := hrel
              go_wp2
              exact ⟨⟨k + 1, by omega, by go_num, HN⟩, by simp [intOf]; omega⟩
          | true =>
            go_wp2
            try simp only [hd]
            go_loop [5, 6] (fun at' n => ∃ j A : Nat, j ≤ 5 ∧ n = .int .i64 j ∧ at' = .int .i64 A ∧ A < 5 ∧ Hid ((reAt ts A).live = true ∧ upN ts 5 k = upN ts (5 - j) A)) (fun _ n => 5 - (intOf n).toNat)
            case atStart => exact ⟨0, k, by omega, rfl, rfl, hlt, hid_of ⟨HLV.out, rfl⟩⟩
            case round =>
              obtain ⟨j, A, hj, rfl, rfl, hA, HU⟩ := hrel
              by_cases hA0 : A = 0
              · have HN : Hid (Fine2 ts (k + 1)) := hid_of (fine2_next HI2.out (by unfold leads; rw [HU.out.2, hA0]; simp [upN_stop]))
                subst hA0
                by_cases hj5 : j < 5
                · go_wp2
                  exact ⟨⟨k + 1, by omega, by go_num, HN⟩, by simp [intOf]; omega⟩
                · go_wp2
                  exact ⟨⟨k + 1, by omega, by go_num, HN⟩, by simp [intOf]; omega⟩
              · have hA1 : 0 < A := by omega
                by_cases hj5 : j < 5
                · have hpo : parOk ts A = true := by have := HI.out A hA; simp at this; exact this.2
                  obtain ⟨m, hm, hm5, hml⟩ := parOk_up hpo hA1 HU.out.1
                  obtain ⟨qa, hqa, hca⟩ := HQ.out A hA
                  have c1 := hca.c1
                  rw [hm] at c1
                  have HU2 : Hid ((reAt ts m).live = true ∧ upN ts 5 k = upN ts (5 - (j + 1)) m) := hid_of ⟨hml, by rw [HU.out.2, show 5 - j = (5 - (j + 1)) + 1 by omega, upN_step ts _ A hA1, hm]⟩
                  clear hca hm hpo hml HU
                  go_wp2
                  exact ⟨⟨j + 1, m, by omega, by go_num, rfl, hm5, HU2⟩, by simp [intOf]; omega⟩
                · obtain rfl : j = 5 := by omega
                  have HF : Hid (treeOk ts = false) := hid_of (treeOk_leads hlt (by unfold leads; rw [HLV.out, HU.out.2]; simp [upN]; omega))
                  clear HU
                  go_wp2
                  go_ret
                  exact ⟨by rw [HA.out, HF.out]; rfl, HB.out⟩
        · obtain rfl : k = 5 := by omega
          have hta : amtOk (sumN Re.a ts 5) (sumN Re.b ts 5) (sumN Re.c ts 5) = ans := by rw [HA.out]; exact (treeOk_all HL.out HRP.out.1 HRP.out.2 HI.out HI2.out).symm
          have CS := specSum_any (.slice (some p) 5 cap) ts wr (HX.out.on HB.out) HL.out (fun i hi => by have := HI.out i hi; simp [placeOk] at this; exact this.1.2)
          have CA := fun w => specAmtOk_in (sumN Re.a ts 5) (sumN Re.b ts 5) (sumN Re.c ts 5) w
          rw [hta] at CA
          clear hta
          generalize sumN Re.a ts 5 = s1 at CS CA
          generalize sumN Re.b ts 5 = s2 at CS CA
          generalize sumN Re.c ts 5 = s3 at CS CA
          go_wp2_with fail
          refine CS.mono ?_
          rintro e w2 ⟨rfl, hb2⟩
          have HB2 : Hid (Below w.heap.size w w2) := below_more HB.out hb2
          clear CS hb2
          go_wp2_with fail
          refine (CA _).mono ?_
          rintro e w3 ⟨rfl, hw3⟩
          have HB3 : Hid (Below w.heap.size w w3) := by rw [hw3]; exact below_more HB2.out (below_alloc w2 _)
          clear hw3
          go_wp2
          go_ret
          exact ⟨rfl, HB3.out⟩
set_option maxHeartbeats 1000000 in
theorem specOk_any (v : Value) (ts : List Re) (w : World) (hx : IsTree w v ts) (hn : ts.length ≤ 1048576) :
    Calls Tryd.prog 10 #[v] w fun e w' => e = .returned (.bool (treeOk ts)) ∧ Below w.heap.size w w' := by
  have hx0 := hx
  obtain ⟨a, cap, rfl, hcap, _⟩ := hx
  by_cases hl : ts.length = 5
  · rw [hl] at hx0 hcap ⊢
    obtain ⟨p, q0, rfl, hq0, hc0⟩ := hx0.at (i := 0) (by omega)
    by_cases hr : (reAt ts 0).live = true
    · by_cases hp : (reAt ts 0).par = -1
      · exact specOk_five _ cap ts w hx0 hl hcap hr hp _ rfl
      · rw [treeOk_rpar hp]
        have e0 := hc0.c0
        have e1 := hc0.c1
        rw [hr] at e0
        have hq0' : p.add 0 = q0 := hq0
        generalize (reAt ts 0).par = p1 at e1 hp
        have hne : (p1 != -1) = true := by simpa using hp
        clear hx0 hc0 hq0 hr
        go_enter Tryd.func10, Tryd.ntmps10
        go_wp2
        go_ret
        exact ⟨rfl, Below.refl _ _⟩
    · have hr' : (reAt ts 0).live = false := by simpa using hr
      rw [treeOk_root hr']
      have e0 := hc0.c0
      rw [hr'] at e0
      have hq0' : p.add 0 = q0 := hq0
      clear hx0 hc0 hq0 hr hr'
      go_enter Tryd.func10, Tryd.ntmps10
      go_wp2
      go_ret
      exact ⟨rfl, Below.refl _ _⟩
  · rw [treeOk_len hl]
    have hne : ((ts.length : Int) != 5) = true := by simp; omega
    clear hx0
    go_enter Tryd.func10, Tryd.ntmps10
    go_wp2
    go_ret
    exact ⟨rfl, Below.refl _ _⟩
end Go.Proofs.YtfcenombphodbaaDoor
