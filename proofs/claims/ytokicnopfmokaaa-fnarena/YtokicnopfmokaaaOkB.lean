/-
  Is a thing right: the kinds, and all of it: the program.
-/
import Derived.Test.YtokicnopfmokaaaOkA
namespace Go.Proofs.Ytokicnopfmokaaa
open Go.RowKit
set_option linter.unusedVariables false
set_option maxRecDepth 100000

set_option maxHeartbeats 2000000 in
theorem segData_any (o : Ob) (l d m : Value) (w : World) (hx : Lists w l d m o) (hn : obN o ≤ 1048576) :
    Calls Try.prog 95 #[obV o l d m] w fun e w' => e = .returned (.bool (dataS o)) ∧ Below w.heap.size w w' := by
  have C5 : Hid (∀ w', Below w.heap.size w w' → Calls Try.prog 61 #[d, .func (.func 96) #[] #[]] w' fun e w'' => e = .returned (.bool (o.ds.all wordB)) ∧ Below w'.heap.size w' w'') := fun w' hb =>
    allOkI0 96 d o.ds wordB w' (hx.ds.on hb) (by unfold obN at hn; omega) entWord (fun i _ w'' _ => (isWord_b _ w'').mono fun e w3 h => ⟨h.1, by rw [← h.2]; exact Below.refl _ _⟩)
  obtain ⟨⟨a, c, rfl, hac, _⟩, ⟨a', c', rfl, hac', _⟩, ⟨a'', c'', rfl, hac'', _⟩⟩ := hx
  by_cases h0 : (o.ds.length : Int) = o.pages
  · have k4 : ((o.ds.length : Int) == o.pages) = true := beq_iff_eq.2 h0
    cases h1 : o.ds.all wordB with
    | false =>
      have e : dataS o = false := by simp [dataS, h0, h1]
      rw [e]
      clear e
      rw [h1] at C5
      clear h1
      go_enter Try.func95, Try.ntmps95
      go_wp2_with fail
      refine (C5.out _ (by go_grown)).mono ?_
      rintro e w0 ⟨rfl, hb0⟩
      have HB0 : Hid (Below w.heap.size w w0) := below_more (by go_grown) hb0
      clear hb0
      go_wp2
      go_ret
      exact ⟨rfl, HB0.out⟩
    | true =>
      have e : dataS o = true := by simp [dataS, h0, h1]
      rw [e]
      clear e
      rw [h1] at C5
      clear h1
      go_enter Try.func95, Try.ntmps95
      go_wp2_with fail
      refine (C5.out _ (by go_grown)).mono ?_
      rintro e w0 ⟨rfl, hb0⟩
      have HB0 : Hid (Below w.heap.size w w0) := below_more (by go_grown) hb0
      clear hb0
      go_wp2
      go_ret
      exact ⟨rfl, HB0.out⟩
  · have k4 : ((o.ds.length : Int) == o.pages) = false := beq_eq_false_iff_ne.2 h0
    have e : dataS o = false := by simp [dataS, h0]
    rw [e]
    clear e
    clear C5
    go_enter Try.func95, Try.ntmps95
    go_wp2
    go_ret
    exact ⟨rfl, by go_grown⟩
set_option maxHeartbeats 2000000 in
theorem gateQueue_any (o : Ob) (l d m : Value) (w : World) (hx : Lists w l d m o) (hn : obN o ≤ 1048576) :
    Calls Try.prog 97 #[obV o l d m] w fun e w' => e = .returned (.bool (queueG o)) ∧ Below w.heap.size w w' := by
  have C5 : Hid (∀ w', Below w.heap.size w w' → Calls Try.prog 98 #[m, .func (.func 99) #[] #[]] w' fun e w'' => e = .returned (.bool (o.qs.all msgB)) ∧ Below w'.heap.size w' w'') := fun w' hb =>
    allOkM0 99 m o.qs msgB w' (hx.qs.on hb) (by unfold obN at hn; omega) entMsg (fun i _ w'' _ => msgOk_any _ w'')
  obtain ⟨⟨a, c, rfl, hac, _⟩, ⟨a', c', rfl, hac', _⟩, ⟨a'', c'', rfl, hac'', _⟩⟩ := hx
  by_cases h0 : o.qs.length ≤ 2
  · have j4 : (o.qs.length : Int) ≤ 2 := by omega
    cases h1 : o.qs.all msgB with
    | false =>
      have e : queueG o = false := by simp [queueG, h0, h1]
      rw [e]
      clear e
      rw [h1] at C5
      clear h1
      go_enter Try.func97, Try.ntmps97
      go_wp2_with fail
      refine (C5.out _ (by go_grown)).mono ?_
      rintro e w0 ⟨rfl, hb0⟩
      have HB0 : Hid (Below w.heap.size w w0) := below_more (by go_grown) hb0
      clear hb0
      go_wp2
      go_ret
      exact ⟨rfl, HB0.out⟩
    | true =>
      have e : queueG o = true := by simp [queueG, h0, h1]
      rw [e]
      clear e
      rw [h1] at C5
      clear h1
      go_enter Try.func97, Try.ntmps97
      go_wp2_with fail
      refine (C5.out _ (by go_grown)).mono ?_
      rintro e w0 ⟨rfl, hb0⟩
      have HB0 : Hid (Below w.heap.size w w0) := below_more (by go_grown) hb0
      clear hb0
      go_wp2
      go_ret
      exact ⟨rfl, HB0.out⟩
  · have j4 : ¬ (o.qs.length : Int) ≤ 2 := by omega
    have e : queueG o = false := by simp [queueG, h0]
    rw [e]
    clear e
    clear C5
    go_enter Try.func97, Try.ntmps97
    go_wp2
    go_ret
    exact ⟨rfl, by go_grown⟩
set_option maxHeartbeats 4000000 in
theorem thrTurns_any (o : Ob) (l d m : Value) (w : World) (hx : Lists w l d m o) (hn : obN o ≤ 1048576) :
    Calls Try.prog 103 #[obV o l d m] w fun e w' => e = .returned (.bool (turnsT o)) ∧ Below w.heap.size w w' := by
  have CW := fun w => isHandleI_b (wrap64 (o.wait - 1)) w
  have CG := fun w => isWord_b o.got w
  have CR := fun w => isTime_b o.ran w
  obtain ⟨⟨a, c, rfl, hac, _⟩, ⟨a', c', rfl, hac', _⟩, ⟨a'', c'', rfl, hac'', _⟩⟩ := hx
  by_cases h0 : o.wait = 0
  · have k0 : (o.wait == 0) = true := beq_iff_eq.2 h0
    by_cases h2 : o.got = -1
    · have k2 : (o.got == -1) = true := beq_iff_eq.2 h2
      cases h3 : inB o.ran 0 1000000 with
      | false =>
        have e : turnsT o = false := by simp [turnsT, waitB, gotB, h0, h2, h3]
        rw [e]
        clear e
        rw [h3] at CR
        clear h3
        go_enter Try.func103, Try.ntmps103
        go_wp2_with fail
        refine (CR _).mono ?_
        rintro e w1 ⟨rfl, rfl⟩
        go_wp2
        go_ret
        exact ⟨rfl, by go_grown⟩
      | true =>
        have e : turnsT o = true := by simp [turnsT, waitB, gotB, h0, h2, h3]
        rw [e]
        clear e
        rw [h3] at CR
        clear h3
        go_enter Try.func103, Try.ntmps103
        go_wp2_with fail
        refine (CR _).mono ?_
        rintro e w1 ⟨rfl, rfl⟩
        go_wp2
        go_ret
        exact ⟨rfl, by go_grown⟩
    · have k2 : (o.got == -1) = false := beq_eq_false_iff_ne.2 h2
      cases h4 : inB o.got 0 999 with
      | false =>
        have e : turnsT o = false := by simp [turnsT, waitB, gotB, h0, h2, h4]
        rw [e]
        clear e
        rw [h4] at CG
        clear h4
        go_enter Try.func103, Try.ntmps103
        go_wp2_with fail
        refine (CG _).mono ?_
        rintro e w1 ⟨rfl, rfl⟩
        go_wp2
        go_ret
        exact ⟨rfl, by go_grown⟩
      | true =>
        cases h3 : inB o.ran 0 1000000 with
        | false =>
          have e : turnsT o = false := by simp [turnsT, waitB, gotB, h0, h2, h4, h3]
          rw [e]
          clear e
          rw [h4] at CG
          rw [h3] at CR
          clear h4 h3
          go_enter Try.func103, Try.ntmps103
          go_wp2_with fail
          refine (CG _).mono ?_
          rintro e w1 ⟨rfl, rfl⟩
          go_wp2_with fail
          refine (CR _).mono ?_
          rintro e w1 ⟨rfl, rfl⟩
          go_wp2
          go_ret
          exact ⟨rfl, by go_grown⟩
        | true =>
          have e : turnsT o = true := by simp [turnsT, waitB, gotB, h0, h2, h4, h3]
          rw [e]
          clear e
          rw [h4] at CG
          rw [h3] at CR
          clear h4 h3
          go_enter Try.func103, Try.ntmps103
          go_wp2_with fail
          refine (CG _).mono ?_
          rintro e w1 ⟨rfl, rfl⟩
          go_wp2_with fail
          refine (CR _).mono ?_
          rintro e w1 ⟨rfl, rfl⟩
          go_wp2
          go_ret
          exact ⟨rfl, by go_grown⟩
  · have k0 : (o.wait == 0) = false := beq_eq_false_iff_ne.2 h0
    cases h1 : inB (wrap64 (o.wait - 1)) 0 29999 with
    | false =>
      have e : turnsT o = false := by simp [turnsT, waitB, gotB, h0, h1]
      rw [e]
      clear e
      rw [h1] at CW
      clear h1
      go_enter Try.func103, Try.ntmps103
      go_wp2_with fail
      refine (CW _).mono ?_
      rintro e w1 ⟨rfl, rfl⟩
      go_wp2
      go_ret
      exact ⟨rfl, by go_grown⟩
    | true =>
      by_cases h2 : o.got = -1
      · have k2 : (o.got == -1) = true := beq_iff_eq.2 h2
        cases h3 : inB o.ran 0 1000000 with
        | false =>
          have e : turnsT o = false := by simp [turnsT, waitB, gotB, h0, h1, h2, h3]
          rw [e]
          clear e
          rw [h1] at CW
          rw [h3] at CR
          clear h1 h3
          go_enter Try.func103, Try.ntmps103
          go_wp2_with fail
          refine (CW _).mono ?_
          rintro e w1 ⟨rfl, rfl⟩
          go_wp2_with fail
          refine (CR _).mono ?_
          rintro e w1 ⟨rfl, rfl⟩
          go_wp2
          go_ret
          exact ⟨rfl, by go_grown⟩
        | true =>
          have e : turnsT o = true := by simp [turnsT, waitB, gotB, h0, h1, h2, h3]
          rw [e]
          clear e
          rw [h1] at CW
          rw [h3] at CR
          clear h1 h3
          go_enter Try.func103, Try.ntmps103
          go_wp2_with fail
          refine (CW _).mono ?_
          rintro e w1 ⟨rfl, rfl⟩
          go_wp2_with fail
          refine (CR _).mono ?_
          rintro e w1 ⟨rfl, rfl⟩
          go_wp2
          go_ret
          exact ⟨rfl, by go_grown⟩
      · have k2 : (o.got == -1) = false := beq_eq_false_iff_ne.2 h2
        cases h4 : inB o.got 0 999 with
        | false =>
          have e : turnsT o = false := by simp [turnsT, waitB, gotB, h0, h1, h2, h4]
          rw [e]
          clear e
          rw [h1] at CW
          rw [h4] at CG
          clear h1 h4
          go_enter Try.func103, Try.ntmps103
          go_wp2_with fail
          refine (CW _).mono ?_
          rintro e w1 ⟨rfl, rfl⟩
          go_wp2_with fail
          refine (CG _).mono ?_
          rintro e w1 ⟨rfl, rfl⟩
          go_wp2
          go_ret
          exact ⟨rfl, by go_grown⟩
        | true =>
          cases h3 : inB o.ran 0 1000000 with
          | false =>
            have e : turnsT o = false := by simp [turnsT, waitB, gotB, h0, h1, h2, h4, h3]
            rw [e]
            clear e
            rw [h1] at CW
            rw [h4] at CG
            rw [h3] at CR
            clear h1 h4 h3
            go_enter Try.func103, Try.ntmps103
            go_wp2_with fail
            refine (CW _).mono ?_
            rintro e w1 ⟨rfl, rfl⟩
            go_wp2_with fail
            refine (CG _).mono ?_
            rintro e w1 ⟨rfl, rfl⟩
            go_wp2_with fail
            refine (CR _).mono ?_
            rintro e w1 ⟨rfl, rfl⟩
            go_wp2
            go_ret
            exact ⟨rfl, by go_grown⟩
          | true =>
            have e : turnsT o = true := by simp [turnsT, waitB, gotB, h0, h1, h2, h4, h3]
            rw [e]
            clear e
            rw [h1] at CW
            rw [h4] at CG
            rw [h3] at CR
            clear h1 h4 h3
            go_enter Try.func103, Try.ntmps103
            go_wp2_with fail
            refine (CW _).mono ?_
            rintro e w1 ⟨rfl, rfl⟩
            go_wp2_with fail
            refine (CG _).mono ?_
            rintro e w1 ⟨rfl, rfl⟩
            go_wp2_with fail
            refine (CR _).mono ?_
            rintro e w1 ⟨rfl, rfl⟩
            go_wp2
            go_ret
            exact ⟨rfl, by go_grown⟩
set_option maxHeartbeats 4000000 in
theorem boxOk_any (o : Ob) (l d m : Value) (w : World) (hx : Lists w l d m o) (hn : obN o ≤ 1048576) :
    Calls Try.prog 59 #[.iface 74 (obV o l d m)] w fun e w' => e = .returned (.bool (boxB o)) ∧ Below w.heap.size w w' := by
  have C0 : Hid (∀ w', Below w.heap.size w w' → Calls Try.prog 88 #[obV o l d m] w' fun e w'' => e = .returned (.bool (commonB o)) ∧ Below w'.heap.size w' w'') := fun w' hb => commonOk_any o l d m w' (hx.on hb) hn
  have C1 : Hid (∀ w', Below w.heap.size w w' → Calls Try.prog 89 #[obV o l d m] w' fun e w'' => e = .returned (.bool (dataN o)) ∧ Below w'.heap.size w' w'') := fun w' hb => dataOk_any o l d m w' (hx.on hb) hn
  have C2 : Hid (∀ w', Below w.heap.size w w' → Calls Try.prog 90 #[obV o l d m] w' fun e w'' => e = .returned (.bool (queueN o)) ∧ Below w'.heap.size w' w'') := fun w' hb => queueOk_any o l d m w' (hx.on hb) hn
  have C3 : Hid (∀ w', Below w.heap.size w w' → Calls Try.prog 91 #[obV o l d m] w' fun e w'' => e = .returned (.bool (turnsN o)) ∧ Below w'.heap.size w' w'') := fun w' hb => turnsOk_any o l d m w' (hx.on hb) hn
  clear hx hn
  cases h0 : commonB o with
  | false =>
    have e : boxB o = false := by simp [boxB, h0]
    rw [e]
    clear e
    rw [h0] at C0
    clear h0 C1 C2 C3
    go_enter Try.func59, Try.ntmps59
    go_wp2_with fail
    refine (C0.out _ (by go_grown)).mono ?_
    rintro e w0 ⟨rfl, hb0⟩
    have HB0 : Hid (Below w.heap.size w w0) := below_more (by go_grown) hb0
    clear hb0
    go_wp2
    go_ret
    exact ⟨rfl, HB0.out⟩
  | true =>
    cases h1 : dataN o with
    | false =>
      have e : boxB o = false := by simp [boxB, h0, h1]
      rw [e]
      clear e
      rw [h0] at C0
      rw [h1] at C1
      clear h0 h1 C2 C3
      go_enter Try.func59, Try.ntmps59
      go_wp2_with fail
      refine (C0.out _ (by go_grown)).mono ?_
      rintro e w0 ⟨rfl, hb0⟩
      have HB0 : Hid (Below w.heap.size w w0) := below_more (by go_grown) hb0
      clear hb0
      go_wp2_with fail
      refine (C1.out _ HB0.out).mono ?_
      rintro e w1 ⟨rfl, hb1⟩
      have HB1 : Hid (Below w.heap.size w w1) := below_more (HB0.out) hb1
      clear hb1
      go_wp2
      go_ret
      exact ⟨rfl, HB1.out⟩
    | true =>
      cases h2 : queueN o with
      | false =>
        have e : boxB o = false := by simp [boxB, h0, h1, h2]
        rw [e]
        clear e
        rw [h0] at C0
        rw [h1] at C1
        rw [h2] at C2
        clear h0 h1 h2 C3
        go_enter Try.func59, Try.ntmps59
        go_wp2_with fail
        refine (C0.out _ (by go_grown)).mono ?_
        rintro e w0 ⟨rfl, hb0⟩
        have HB0 : Hid (Below w.heap.size w w0) := below_more (by go_grown) hb0
        clear hb0
        go_wp2_with fail
        refine (C1.out _ HB0.out).mono ?_
        rintro e w1 ⟨rfl, hb1⟩
        have HB1 : Hid (Below w.heap.size w w1) := below_more (HB0.out) hb1
        clear hb1
        go_wp2_with fail
        refine (C2.out _ HB1.out).mono ?_
        rintro e w2 ⟨rfl, hb2⟩
        have HB2 : Hid (Below w.heap.size w w2) := below_more (HB1.out) hb2
        clear hb2
        go_wp2
        go_ret
        exact ⟨rfl, HB2.out⟩
      | true =>
        cases h3 : turnsN o with
        | false =>
          have e : boxB o = false := by simp [boxB, h0, h1, h2, h3]
          rw [e]
          clear e
          rw [h0] at C0
          rw [h1] at C1
          rw [h2] at C2
          rw [h3] at C3
          clear h0 h1 h2 h3
          go_enter Try.func59, Try.ntmps59
          go_wp2_with fail
          refine (C0.out _ (by go_grown)).mono ?_
          rintro e w0 ⟨rfl, hb0⟩
          have HB0 : Hid (Below w.heap.size w w0) := below_more (by go_grown) hb0
          clear hb0
          go_wp2_with fail
          refine (C1.out _ HB0.out).mono ?_
          rintro e w1 ⟨rfl, hb1⟩
          have HB1 : Hid (Below w.heap.size w w1) := below_more (HB0.out) hb1
          clear hb1
          go_wp2_with fail
          refine (C2.out _ HB1.out).mono ?_
          rintro e w2 ⟨rfl, hb2⟩
          have HB2 : Hid (Below w.heap.size w w2) := below_more (HB1.out) hb2
          clear hb2
          go_wp2_with fail
          refine (C3.out _ HB2.out).mono ?_
          rintro e w3 ⟨rfl, hb3⟩
          have HB3 : Hid (Below w.heap.size w w3) := below_more (HB2.out) hb3
          clear hb3
          go_wp2
          go_ret
          exact ⟨rfl, HB3.out⟩
        | true =>
          have e : boxB o = true := by simp [boxB, h0, h1, h2, h3]
          rw [e]
          clear e
          rw [h0] at C0
          rw [h1] at C1
          rw [h2] at C2
          rw [h3] at C3
          clear h0 h1 h2 h3
          go_enter Try.func59, Try.ntmps59
          go_wp2_with fail
          refine (C0.out _ (by go_grown)).mono ?_
          rintro e w0 ⟨rfl, hb0⟩
          have HB0 : Hid (Below w.heap.size w w0) := below_more (by go_grown) hb0
          clear hb0
          go_wp2_with fail
          refine (C1.out _ HB0.out).mono ?_
          rintro e w1 ⟨rfl, hb1⟩
          have HB1 : Hid (Below w.heap.size w w1) := below_more (HB0.out) hb1
          clear hb1
          go_wp2_with fail
          refine (C2.out _ HB1.out).mono ?_
          rintro e w2 ⟨rfl, hb2⟩
          have HB2 : Hid (Below w.heap.size w w2) := below_more (HB1.out) hb2
          clear hb2
          go_wp2_with fail
          refine (C3.out _ HB2.out).mono ?_
          rintro e w3 ⟨rfl, hb3⟩
          have HB3 : Hid (Below w.heap.size w w3) := below_more (HB2.out) hb3
          clear hb3
          go_wp2
          go_ret
          exact ⟨rfl, HB3.out⟩
set_option maxHeartbeats 4000000 in
theorem segOk_any (o : Ob) (l d m : Value) (w : World) (hx : Lists w l d m o) (hn : obN o ≤ 1048576) :
    Calls Try.prog 59 #[.iface 77 (obV o l d m)] w fun e w' => e = .returned (.bool (segB o)) ∧ Below w.heap.size w w' := by
  have C0 : Hid (∀ w', Below w.heap.size w w' → Calls Try.prog 88 #[obV o l d m] w' fun e w'' => e = .returned (.bool (commonB o)) ∧ Below w'.heap.size w' w'') := fun w' hb => commonOk_any o l d m w' (hx.on hb) hn
  have C1 : Hid (∀ w', Below w.heap.size w w' → Calls Try.prog 95 #[obV o l d m] w' fun e w'' => e = .returned (.bool (dataS o)) ∧ Below w'.heap.size w' w'') := fun w' hb => segData_any o l d m w' (hx.on hb) hn
  have C2 : Hid (∀ w', Below w.heap.size w w' → Calls Try.prog 90 #[obV o l d m] w' fun e w'' => e = .returned (.bool (queueN o)) ∧ Below w'.heap.size w' w'') := fun w' hb => queueOk_any o l d m w' (hx.on hb) hn
  have C3 : Hid (∀ w', Below w.heap.size w w' → Calls Try.prog 91 #[obV o l d m] w' fun e w'' => e = .returned (.bool (turnsN o)) ∧ Below w'.heap.size w' w'') := fun w' hb => turnsOk_any o l d m w' (hx.on hb) hn
  clear hx hn
  cases h0 : commonB o with
  | false =>
    have e : segB o = false := by simp [segB, h0]
    rw [e]
    clear e
    rw [h0] at C0
    clear h0 C1 C2 C3
    go_enter Try.func59, Try.ntmps59
    go_wp2_with fail
    refine (C0.out _ (by go_grown)).mono ?_
    rintro e w0 ⟨rfl, hb0⟩
    have HB0 : Hid (Below w.heap.size w w0) := below_more (by go_grown) hb0
    clear hb0
    go_wp2
    go_ret
    exact ⟨rfl, HB0.out⟩
  | true =>
    cases h1 : dataS o with
    | false =>
      have e : segB o = false := by simp [segB, h0, h1]
      rw [e]
      clear e
      rw [h0] at C0
      rw [h1] at C1
      clear h0 h1 C2 C3
      go_enter Try.func59, Try.ntmps59
      go_wp2_with fail
      refine (C0.out _ (by go_grown)).mono ?_
      rintro e w0 ⟨rfl, hb0⟩
      have HB0 : Hid (Below w.heap.size w w0) := below_more (by go_grown) hb0
      clear hb0
      go_wp2_with fail
      refine (C1.out _ HB0.out).mono ?_
      rintro e w1 ⟨rfl, hb1⟩
      have HB1 : Hid (Below w.heap.size w w1) := below_more (HB0.out) hb1
      clear hb1
      go_wp2
      go_ret
      exact ⟨rfl, HB1.out⟩
    | true =>
      cases h2 : queueN o with
      | false =>
        have e : segB o = false := by simp [segB, h0, h1, h2]
        rw [e]
        clear e
        rw [h0] at C0
        rw [h1] at C1
        rw [h2] at C2
        clear h0 h1 h2 C3
        go_enter Try.func59, Try.ntmps59
        go_wp2_with fail
        refine (C0.out _ (by go_grown)).mono ?_
        rintro e w0 ⟨rfl, hb0⟩
        have HB0 : Hid (Below w.heap.size w w0) := below_more (by go_grown) hb0
        clear hb0
        go_wp2_with fail
        refine (C1.out _ HB0.out).mono ?_
        rintro e w1 ⟨rfl, hb1⟩
        have HB1 : Hid (Below w.heap.size w w1) := below_more (HB0.out) hb1
        clear hb1
        go_wp2_with fail
        refine (C2.out _ HB1.out).mono ?_
        rintro e w2 ⟨rfl, hb2⟩
        have HB2 : Hid (Below w.heap.size w w2) := below_more (HB1.out) hb2
        clear hb2
        go_wp2
        go_ret
        exact ⟨rfl, HB2.out⟩
      | true =>
        cases h3 : turnsN o with
        | false =>
          have e : segB o = false := by simp [segB, h0, h1, h2, h3]
          rw [e]
          clear e
          rw [h0] at C0
          rw [h1] at C1
          rw [h2] at C2
          rw [h3] at C3
          clear h0 h1 h2 h3
          go_enter Try.func59, Try.ntmps59
          go_wp2_with fail
          refine (C0.out _ (by go_grown)).mono ?_
          rintro e w0 ⟨rfl, hb0⟩
          have HB0 : Hid (Below w.heap.size w w0) := below_more (by go_grown) hb0
          clear hb0
          go_wp2_with fail
          refine (C1.out _ HB0.out).mono ?_
          rintro e w1 ⟨rfl, hb1⟩
          have HB1 : Hid (Below w.heap.size w w1) := below_more (HB0.out) hb1
          clear hb1
          go_wp2_with fail
          refine (C2.out _ HB1.out).mono ?_
          rintro e w2 ⟨rfl, hb2⟩
          have HB2 : Hid (Below w.heap.size w w2) := below_more (HB1.out) hb2
          clear hb2
          go_wp2_with fail
          refine (C3.out _ HB2.out).mono ?_
          rintro e w3 ⟨rfl, hb3⟩
          have HB3 : Hid (Below w.heap.size w w3) := below_more (HB2.out) hb3
          clear hb3
          go_wp2
          go_ret
          exact ⟨rfl, HB3.out⟩
        | true =>
          have e : segB o = true := by simp [segB, h0, h1, h2, h3]
          rw [e]
          clear e
          rw [h0] at C0
          rw [h1] at C1
          rw [h2] at C2
          rw [h3] at C3
          clear h0 h1 h2 h3
          go_enter Try.func59, Try.ntmps59
          go_wp2_with fail
          refine (C0.out _ (by go_grown)).mono ?_
          rintro e w0 ⟨rfl, hb0⟩
          have HB0 : Hid (Below w.heap.size w w0) := below_more (by go_grown) hb0
          clear hb0
          go_wp2_with fail
          refine (C1.out _ HB0.out).mono ?_
          rintro e w1 ⟨rfl, hb1⟩
          have HB1 : Hid (Below w.heap.size w w1) := below_more (HB0.out) hb1
          clear hb1
          go_wp2_with fail
          refine (C2.out _ HB1.out).mono ?_
          rintro e w2 ⟨rfl, hb2⟩
          have HB2 : Hid (Below w.heap.size w w2) := below_more (HB1.out) hb2
          clear hb2
          go_wp2_with fail
          refine (C3.out _ HB2.out).mono ?_
          rintro e w3 ⟨rfl, hb3⟩
          have HB3 : Hid (Below w.heap.size w w3) := below_more (HB2.out) hb3
          clear hb3
          go_wp2
          go_ret
          exact ⟨rfl, HB3.out⟩
set_option maxHeartbeats 4000000 in
theorem gateOk_any (o : Ob) (l d m : Value) (w : World) (hx : Lists w l d m o) (hn : obN o ≤ 1048576) :
    Calls Try.prog 59 #[.iface 78 (obV o l d m)] w fun e w' => e = .returned (.bool (gateB o)) ∧ Below w.heap.size w w' := by
  have C0 : Hid (∀ w', Below w.heap.size w w' → Calls Try.prog 88 #[obV o l d m] w' fun e w'' => e = .returned (.bool (commonB o)) ∧ Below w'.heap.size w' w'') := fun w' hb => commonOk_any o l d m w' (hx.on hb) hn
  have C1 : Hid (∀ w', Below w.heap.size w w' → Calls Try.prog 89 #[obV o l d m] w' fun e w'' => e = .returned (.bool (dataN o)) ∧ Below w'.heap.size w' w'') := fun w' hb => dataOk_any o l d m w' (hx.on hb) hn
  have C2 : Hid (∀ w', Below w.heap.size w w' → Calls Try.prog 97 #[obV o l d m] w' fun e w'' => e = .returned (.bool (queueG o)) ∧ Below w'.heap.size w' w'') := fun w' hb => gateQueue_any o l d m w' (hx.on hb) hn
  have C3 : Hid (∀ w', Below w.heap.size w w' → Calls Try.prog 91 #[obV o l d m] w' fun e w'' => e = .returned (.bool (turnsN o)) ∧ Below w'.heap.size w' w'') := fun w' hb => turnsOk_any o l d m w' (hx.on hb) hn
  clear hx hn
  cases h0 : commonB o with
  | false =>
    have e : gateB o = false := by simp [gateB, h0]
    rw [e]
    clear e
    rw [h0] at C0
    clear h0 C1 C2 C3
    go_enter Try.func59, Try.ntmps59
    go_wp2_with fail
    refine (C0.out _ (by go_grown)).mono ?_
    rintro e w0 ⟨rfl, hb0⟩
    have HB0 : Hid (Below w.heap.size w w0) := below_more (by go_grown) hb0
    clear hb0
    go_wp2
    go_ret
    exact ⟨rfl, HB0.out⟩
  | true =>
    cases h1 : dataN o with
    | false =>
      have e : gateB o = false := by simp [gateB, h0, h1]
      rw [e]
      clear e
      rw [h0] at C0
      rw [h1] at C1
      clear h0 h1 C2 C3
      go_enter Try.func59, Try.ntmps59
      go_wp2_with fail
      refine (C0.out _ (by go_grown)).mono ?_
      rintro e w0 ⟨rfl, hb0⟩
      have HB0 : Hid (Below w.heap.size w w0) := below_more (by go_grown) hb0
      clear hb0
      go_wp2_with fail
      refine (C1.out _ HB0.out).mono ?_
      rintro e w1 ⟨rfl, hb1⟩
      have HB1 : Hid (Below w.heap.size w w1) := below_more (HB0.out) hb1
      clear hb1
      go_wp2
      go_ret
      exact ⟨rfl, HB1.out⟩
    | true =>
      cases h2 : queueG o with
      | false =>
        have e : gateB o = false := by simp [gateB, h0, h1, h2]
        rw [e]
        clear e
        rw [h0] at C0
        rw [h1] at C1
        rw [h2] at C2
        clear h0 h1 h2 C3
        go_enter Try.func59, Try.ntmps59
        go_wp2_with fail
        refine (C0.out _ (by go_grown)).mono ?_
        rintro e w0 ⟨rfl, hb0⟩
        have HB0 : Hid (Below w.heap.size w w0) := below_more (by go_grown) hb0
        clear hb0
        go_wp2_with fail
        refine (C1.out _ HB0.out).mono ?_
        rintro e w1 ⟨rfl, hb1⟩
        have HB1 : Hid (Below w.heap.size w w1) := below_more (HB0.out) hb1
        clear hb1
        go_wp2_with fail
        refine (C2.out _ HB1.out).mono ?_
        rintro e w2 ⟨rfl, hb2⟩
        have HB2 : Hid (Below w.heap.size w w2) := below_more (HB1.out) hb2
        clear hb2
        go_wp2
        go_ret
        exact ⟨rfl, HB2.out⟩
      | true =>
        cases h3 : turnsN o with
        | false =>
          have e : gateB o = false := by simp [gateB, h0, h1, h2, h3]
          rw [e]
          clear e
          rw [h0] at C0
          rw [h1] at C1
          rw [h2] at C2
          rw [h3] at C3
          clear h0 h1 h2 h3
          go_enter Try.func59, Try.ntmps59
          go_wp2_with fail
          refine (C0.out _ (by go_grown)).mono ?_
          rintro e w0 ⟨rfl, hb0⟩
          have HB0 : Hid (Below w.heap.size w w0) := below_more (by go_grown) hb0
          clear hb0
          go_wp2_with fail
          refine (C1.out _ HB0.out).mono ?_
          rintro e w1 ⟨rfl, hb1⟩
          have HB1 : Hid (Below w.heap.size w w1) := below_more (HB0.out) hb1
          clear hb1
          go_wp2_with fail
          refine (C2.out _ HB1.out).mono ?_
          rintro e w2 ⟨rfl, hb2⟩
          have HB2 : Hid (Below w.heap.size w w2) := below_more (HB1.out) hb2
          clear hb2
          go_wp2_with fail
          refine (C3.out _ HB2.out).mono ?_
          rintro e w3 ⟨rfl, hb3⟩
          have HB3 : Hid (Below w.heap.size w w3) := below_more (HB2.out) hb3
          clear hb3
          go_wp2
          go_ret
          exact ⟨rfl, HB3.out⟩
        | true =>
          have e : gateB o = true := by simp [gateB, h0, h1, h2, h3]
          rw [e]
          clear e
          rw [h0] at C0
          rw [h1] at C1
          rw [h2] at C2
          rw [h3] at C3
          clear h0 h1 h2 h3
          go_enter Try.func59, Try.ntmps59
          go_wp2_with fail
          refine (C0.out _ (by go_grown)).mono ?_
          rintro e w0 ⟨rfl, hb0⟩
          have HB0 : Hid (Below w.heap.size w w0) := below_more (by go_grown) hb0
          clear hb0
          go_wp2_with fail
          refine (C1.out _ HB0.out).mono ?_
          rintro e w1 ⟨rfl, hb1⟩
          have HB1 : Hid (Below w.heap.size w w1) := below_more (HB0.out) hb1
          clear hb1
          go_wp2_with fail
          refine (C2.out _ HB1.out).mono ?_
          rintro e w2 ⟨rfl, hb2⟩
          have HB2 : Hid (Below w.heap.size w w2) := below_more (HB1.out) hb2
          clear hb2
          go_wp2_with fail
          refine (C3.out _ HB2.out).mono ?_
          rintro e w3 ⟨rfl, hb3⟩
          have HB3 : Hid (Below w.heap.size w w3) := below_more (HB2.out) hb3
          clear hb3
          go_wp2
          go_ret
          exact ⟨rfl, HB3.out⟩
set_option maxHeartbeats 4000000 in
theorem thrOk_any (o : Ob) (l d m : Value) (w : World) (hx : Lists w l d m o) (hn : obN o ≤ 1048576) :
    Calls Try.prog 59 #[.iface 79 (obV o l d m)] w fun e w' => e = .returned (.bool (thrB o)) ∧ Below w.heap.size w w' := by
  have C0 : Hid (∀ w', Below w.heap.size w w' → Calls Try.prog 88 #[obV o l d m] w' fun e w'' => e = .returned (.bool (commonB o)) ∧ Below w'.heap.size w' w'') := fun w' hb => commonOk_any o l d m w' (hx.on hb) hn
  have C1 : Hid (∀ w', Below w.heap.size w w' → Calls Try.prog 89 #[obV o l d m] w' fun e w'' => e = .returned (.bool (dataN o)) ∧ Below w'.heap.size w' w'') := fun w' hb => dataOk_any o l d m w' (hx.on hb) hn
  have C2 : Hid (∀ w', Below w.heap.size w w' → Calls Try.prog 90 #[obV o l d m] w' fun e w'' => e = .returned (.bool (queueN o)) ∧ Below w'.heap.size w' w'') := fun w' hb => queueOk_any o l d m w' (hx.on hb) hn
  have C3 : Hid (∀ w', Below w.heap.size w w' → Calls Try.prog 103 #[obV o l d m] w' fun e w'' => e = .returned (.bool (turnsT o)) ∧ Below w'.heap.size w' w'') := fun w' hb => thrTurns_any o l d m w' (hx.on hb) hn
  clear hx hn
  cases h0 : commonB o with
  | false =>
    have e : thrB o = false := by simp [thrB, h0]
    rw [e]
    clear e
    rw [h0] at C0
    clear h0 C1 C2 C3
    go_enter Try.func59, Try.ntmps59
    go_wp2_with fail
    refine (C0.out _ (by go_grown)).mono ?_
    rintro e w0 ⟨rfl, hb0⟩
    have HB0 : Hid (Below w.heap.size w w0) := below_more (by go_grown) hb0
    clear hb0
    go_wp2
    go_ret
    exact ⟨rfl, HB0.out⟩
  | true =>
    cases h1 : dataN o with
    | false =>
      have e : thrB o = false := by simp [thrB, h0, h1]
      rw [e]
      clear e
      rw [h0] at C0
      rw [h1] at C1
      clear h0 h1 C2 C3
      go_enter Try.func59, Try.ntmps59
      go_wp2_with fail
      refine (C0.out _ (by go_grown)).mono ?_
      rintro e w0 ⟨rfl, hb0⟩
      have HB0 : Hid (Below w.heap.size w w0) := below_more (by go_grown) hb0
      clear hb0
      go_wp2_with fail
      refine (C1.out _ HB0.out).mono ?_
      rintro e w1 ⟨rfl, hb1⟩
      have HB1 : Hid (Below w.heap.size w w1) := below_more (HB0.out) hb1
      clear hb1
      go_wp2
      go_ret
      exact ⟨rfl, HB1.out⟩
    | true =>
      cases h2 : queueN o with
      | false =>
        have e : thrB o = false := by simp [thrB, h0, h1, h2]
        rw [e]
        clear e
        rw [h0] at C0
        rw [h1] at C1
        rw [h2] at C2
        clear h0 h1 h2 C3
        go_enter Try.func59, Try.ntmps59
        go_wp2_with fail
        refine (C0.out _ (by go_grown)).mono ?_
        rintro e w0 ⟨rfl, hb0⟩
        have HB0 : Hid (Below w.heap.size w w0) := below_more (by go_grown) hb0
        clear hb0
        go_wp2_with fail
        refine (C1.out _ HB0.out).mono ?_
        rintro e w1 ⟨rfl, hb1⟩
        have HB1 : Hid (Below w.heap.size w w1) := below_more (HB0.out) hb1
        clear hb1
        go_wp2_with fail
        refine (C2.out _ HB1.out).mono ?_
        rintro e w2 ⟨rfl, hb2⟩
        have HB2 : Hid (Below w.heap.size w w2) := below_more (HB1.out) hb2
        clear hb2
        go_wp2
        go_ret
        exact ⟨rfl, HB2.out⟩
      | true =>
        cases h3 : turnsT o with
        | false =>
          have e : thrB o = false := by simp [thrB, h0, h1, h2, h3]
          rw [e]
          clear e
          rw [h0] at C0
          rw [h1] at C1
          rw [h2] at C2
          rw [h3] at C3
          clear h0 h1 h2 h3
          go_enter Try.func59, Try.ntmps59
          go_wp2_with fail
          refine (C0.out _ (by go_grown)).mono ?_
          rintro e w0 ⟨rfl, hb0⟩
          have HB0 : Hid (Below w.heap.size w w0) := below_more (by go_grown) hb0
          clear hb0
          go_wp2_with fail
          refine (C1.out _ HB0.out).mono ?_
          rintro e w1 ⟨rfl, hb1⟩
          have HB1 : Hid (Below w.heap.size w w1) := below_more (HB0.out) hb1
          clear hb1
          go_wp2_with fail
          refine (C2.out _ HB1.out).mono ?_
          rintro e w2 ⟨rfl, hb2⟩
          have HB2 : Hid (Below w.heap.size w w2) := below_more (HB1.out) hb2
          clear hb2
          go_wp2_with fail
          refine (C3.out _ HB2.out).mono ?_
          rintro e w3 ⟨rfl, hb3⟩
          have HB3 : Hid (Below w.heap.size w w3) := below_more (HB2.out) hb3
          clear hb3
          go_wp2
          go_ret
          exact ⟨rfl, HB3.out⟩
        | true =>
          have e : thrB o = true := by simp [thrB, h0, h1, h2, h3]
          rw [e]
          clear e
          rw [h0] at C0
          rw [h1] at C1
          rw [h2] at C2
          rw [h3] at C3
          clear h0 h1 h2 h3
          go_enter Try.func59, Try.ntmps59
          go_wp2_with fail
          refine (C0.out _ (by go_grown)).mono ?_
          rintro e w0 ⟨rfl, hb0⟩
          have HB0 : Hid (Below w.heap.size w w0) := below_more (by go_grown) hb0
          clear hb0
          go_wp2_with fail
          refine (C1.out _ HB0.out).mono ?_
          rintro e w1 ⟨rfl, hb1⟩
          have HB1 : Hid (Below w.heap.size w w1) := below_more (HB0.out) hb1
          clear hb1
          go_wp2_with fail
          refine (C2.out _ HB1.out).mono ?_
          rintro e w2 ⟨rfl, hb2⟩
          have HB2 : Hid (Below w.heap.size w w2) := below_more (HB1.out) hb2
          clear hb2
          go_wp2_with fail
          refine (C3.out _ HB2.out).mono ?_
          rintro e w3 ⟨rfl, hb3⟩
          have HB3 : Hid (Below w.heap.size w w3) := below_more (HB2.out) hb3
          clear hb3
          go_wp2
          go_ret
          exact ⟨rfl, HB3.out⟩
end Go.Proofs.Ytokicnopfmokaaa
