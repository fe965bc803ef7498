/-
  Is a thing right: what is asked of it.
-/
import Derived.Test.YtokicnopfmokaaaSameI
import Derived.Test.YtokicnopfmokaaaHandI
import Derived.Test.YtokicnopfmokaaaAllI
import Derived.Test.YtokicnopfmokaaaAllM
import Derived.Test.YtokicnopfmokaaaAllO
namespace Go.Proofs.Ytokicnopfmokaaa
open Go.RowKit
set_option linter.unusedVariables false
set_option maxRecDepth 100000

def slotN (x : Int) : Bool := inB x (-1) 9
def wordB (x : Int) : Bool := inB x 0 999
def msgB (m : Ms) : Bool := (decide (m.f = -1) || inB m.f 0 29999) && wordB m.n
def zeroB (o : Ob) : Bool := decide (o.into = 0) && (decide (o.res = 0) && (decide (o.unt = 0) && (decide (o.pages = 0) && (decide (o.wait = 0) && (decide (o.got = 0) && (decide (o.ran = 0) && (!o.mark && (decide (o.ls.length = 0) && (decide (o.ds.length = 0) && decide (o.qs.length = 0))))))))))
def commonB (o : Ob) : Bool := inB o.into (-1) 9 && (inB o.res 0 4 && (inB o.unt 0 1000000 && (inB o.pages 0 8 && (decide (o.ls.length = 2) && o.ls.all slotN))))
def dataN (o : Ob) : Bool := decide (o.ds.length = 0)
def dataS (o : Ob) : Bool := decide ((o.ds.length : Int) = o.pages) && o.ds.all wordB
def queueN (o : Ob) : Bool := decide (o.qs.length = 0)
def queueG (o : Ob) : Bool := decide (o.qs.length ≤ 2) && o.qs.all msgB
def waitB (x : Int) : Bool := decide (x = 0) || inB (wrap64 (x - 1)) 0 29999
def gotB (x : Int) : Bool := decide (x = -1) || inB x 0 999
def turnsN (o : Ob) : Bool := decide (o.wait = 0) && (decide (o.got = 0) && decide (o.ran = 0))
def turnsT (o : Ob) : Bool := waitB o.wait && (gotB o.got && inB o.ran 0 1000000)
def boxB (o : Ob) : Bool := commonB o && (dataN o && (queueN o && turnsN o))
def segB (o : Ob) : Bool := commonB o && (dataS o && (queueN o && turnsN o))
def gateB (o : Ob) : Bool := commonB o && (dataN o && (queueG o && turnsN o))
def thrB (o : Ob) : Bool := commonB o && (dataN o && (queueN o && turnsT o))
/-- Is a thing right? -/
def obOk (o : Ob) : Bool := inB o.gen 0 999 && (if o.kind = 0 then zeroB o else if o.kind = 1 then boxB o else if o.kind = 2 then segB o else if o.kind = 3 then gateB o else if o.kind = 4 then thrB o else false)
theorem isPlace8_b (k : Int) (w : World) :
    Calls Try.prog 93 #[.int .i64 k] w fun r w' => r = .returned (.bool (inB k 0 4)) ∧ w = w' := by
  by_cases h1 : 0 ≤ k
  · by_cases h2 : k < 5
    · rw [inB_yes h1 (by omega)]
      go_enter Try.func93, Try.ntmps93
      go_wp2
      go_ret
      exact ⟨by simp, rfl⟩
    · rw [inB_no (by omega)]
      go_enter Try.func93, Try.ntmps93
      go_wp2
      go_ret
      exact ⟨by simp, rfl⟩
  · rw [inB_no (by omega)]
    go_enter Try.func93, Try.ntmps93
    go_wp2
    go_ret
    exact ⟨by simp, rfl⟩
theorem entSlot : ∀ (x : Int) w', Sem.run Try.prog (callFunc 92 #[.int .i64 x]) w' = .ok (.enter 92 #[.int .i64 x]) w' := fun _ _ => by rfl
theorem entWord : ∀ (x : Int) w', Sem.run Try.prog (callFunc 96 #[.int .i64 x]) w' = .ok (.enter 96 #[.int .i64 x]) w' := fun _ _ => by rfl
theorem entMsg : ∀ (x : Ms) w', Sem.run Try.prog (callFunc 99 #[msV x.f x.n]) w' = .ok (.enter 99 #[msV x.f x.n]) w' := fun _ _ => by rfl
set_option maxHeartbeats 1000000 in
theorem msgOk_any (m : Ms) (w : World) :
    Calls Try.prog 99 #[msV m.f m.n] w fun e w' => e = .returned (.bool (msgB m)) ∧ Below w.heap.size w w' := by
  have C1 := fun w => isHandleI_b m.f w
  have C2 := fun w => isWord_b m.n w
  obtain ⟨f, n⟩ := m
  simp only at C1 C2 ⊢
  by_cases h0 : f = -1
  · subst h0
    clear C1
    cases h2 : inB n 0 999 with
    | false =>
      have e : msgB ⟨-1, n⟩ = false := by simp [msgB, wordB, h2]
      rw [e]
      rw [h2] at C2
      clear e h2
      go_enter Try.func99, Try.ntmps99
      go_wp2_with fail
      refine (C2 _).mono ?_
      rintro e w1 ⟨rfl, rfl⟩
      go_wp2
      go_ret
      exact ⟨rfl, by go_grown⟩
    | true =>
      have e : msgB ⟨-1, n⟩ = true := by simp [msgB, wordB, h2]
      rw [e]
      rw [h2] at C2
      clear e h2
      go_enter Try.func99, Try.ntmps99
      go_wp2_with fail
      refine (C2 _).mono ?_
      rintro e w1 ⟨rfl, rfl⟩
      go_wp2
      go_ret
      exact ⟨rfl, by go_grown⟩
  · have h0' : (f == -1) = false := by simp [h0]
    cases h1 : inB f 0 29999 with
    | false =>
      have e : msgB ⟨f, n⟩ = false := by simp [msgB, h0, h1]
      rw [e]
      rw [h1] at C1
      clear e h1 C2
      go_enter Try.func99, Try.ntmps99
      go_wp2_with fail
      refine (C1 _).mono ?_
      rintro e w1 ⟨rfl, rfl⟩
      go_wp2
      go_ret
      exact ⟨rfl, by go_grown⟩
    | true =>
      cases h2 : inB n 0 999 with
      | false =>
        have e : msgB ⟨f, n⟩ = false := by simp [msgB, wordB, h2]
        rw [e]
        rw [h1] at C1
        rw [h2] at C2
        clear e h1 h2
        go_enter Try.func99, Try.ntmps99
        go_wp2_with fail
        refine (C1 _).mono ?_
        rintro e w1 ⟨rfl, rfl⟩
        go_wp2_with fail
        refine (C2 _).mono ?_
        rintro e w1 ⟨rfl, rfl⟩
        go_wp2
        go_ret
        exact ⟨rfl, by go_grown⟩
      | true =>
        have e : msgB ⟨f, n⟩ = true := by simp [msgB, wordB, h1, h2]
        rw [e]
        rw [h1] at C1
        rw [h2] at C2
        clear e h1 h2
        go_enter Try.func99, Try.ntmps99
        go_wp2_with fail
        refine (C1 _).mono ?_
        rintro e w1 ⟨rfl, rfl⟩
        go_wp2_with fail
        refine (C2 _).mono ?_
        rintro e w1 ⟨rfl, rfl⟩
        go_wp2
        go_ret
        exact ⟨rfl, by go_grown⟩
set_option maxHeartbeats 2000000 in
theorem commonOk_any (o : Ob) (l d m : Value) (w : World) (hx : Lists w l d m o) (hn : obN o ≤ 1048576) :
    Calls Try.prog 88 #[obV o l d m] w fun e w' => e = .returned (.bool (commonB o)) ∧ Below w.heap.size w w' := by
  have C0 := fun w => isSlotNone_b o.into w
  have C1 := fun w => isPlace8_b o.res w
  have C2 := fun w => isTime_b o.unt w
  have C3 := fun w => fromTo_b o.pages 0 8 w
  have C5 : Hid (∀ w', Below w.heap.size w w' → Calls Try.prog 61 #[l, .func (.func 92) #[] #[]] w' fun e w'' => e = .returned (.bool (o.ls.all slotN)) ∧ Below w'.heap.size w' w'') := fun w' hb =>
    allOkI0 92 l o.ls slotN w' (hx.ls.on hb) (by unfold obN at hn; omega) entSlot (fun i _ w'' _ => (isSlotNone_b _ w'').mono fun e w3 h => ⟨h.1, by rw [← h.2]; exact Below.refl _ _⟩)
  obtain ⟨⟨a, c, rfl, hac, _⟩, ⟨a', c', rfl, hac', _⟩, ⟨a'', c'', rfl, hac'', _⟩⟩ := hx
  cases h0 : inB o.into (-1) 9 with
  | false =>
    have e : commonB o = false := by simp [commonB, h0]
    rw [e]
    clear e
    rw [h0] at C0
    clear h0 C1 C2 C3 C5
    go_enter Try.func88, Try.ntmps88
    go_wp2_with fail
    refine (C0 _).mono ?_
    rintro e w0 ⟨rfl, rfl⟩
    go_wp2
    go_ret
    exact ⟨rfl, by go_grown⟩
  | true =>
    cases h1 : inB o.res 0 4 with
    | false =>
      have e : commonB o = false := by simp [commonB, h0, h1]
      rw [e]
      clear e
      rw [h0] at C0
      rw [h1] at C1
      clear h0 h1 C2 C3 C5
      go_enter Try.func88, Try.ntmps88
      go_wp2_with fail
      refine (C0 _).mono ?_
      rintro e w0 ⟨rfl, rfl⟩
      go_wp2_with fail
      refine (C1 _).mono ?_
      rintro e w1 ⟨rfl, rfl⟩
      go_wp2
      go_ret
      exact ⟨rfl, by go_grown⟩
    | true =>
      cases h2 : inB o.unt 0 1000000 with
      | false =>
        have e : commonB o = false := by simp [commonB, h0, h1, h2]
        rw [e]
        clear e
        rw [h0] at C0
        rw [h1] at C1
        rw [h2] at C2
        clear h0 h1 h2 C3 C5
        go_enter Try.func88, Try.ntmps88
        go_wp2_with fail
        refine (C0 _).mono ?_
        rintro e w0 ⟨rfl, rfl⟩
        go_wp2_with fail
        refine (C1 _).mono ?_
        rintro e w1 ⟨rfl, rfl⟩
        go_wp2_with fail
        refine (C2 _).mono ?_
        rintro e w2 ⟨rfl, rfl⟩
        go_wp2
        go_ret
        exact ⟨rfl, by go_grown⟩
      | true =>
        cases h3 : inB o.pages 0 8 with
        | false =>
          have e : commonB o = false := by simp [commonB, h0, h1, h2, h3]
          rw [e]
          clear e
          rw [h0] at C0
          rw [h1] at C1
          rw [h2] at C2
          rw [h3] at C3
          clear h0 h1 h2 h3 C5
          go_enter Try.func88, Try.ntmps88
          go_wp2_with fail
          refine (C0 _).mono ?_
          rintro e w0 ⟨rfl, rfl⟩
          go_wp2_with fail
          refine (C1 _).mono ?_
          rintro e w1 ⟨rfl, rfl⟩
          go_wp2_with fail
          refine (C2 _).mono ?_
          rintro e w2 ⟨rfl, rfl⟩
          go_wp2_with fail
          refine (C3 _).mono ?_
          rintro e w3 ⟨rfl, rfl⟩
          go_wp2
          go_ret
          exact ⟨rfl, by go_grown⟩
        | true =>
          by_cases h4 : o.ls.length = 2
          · simp only [h4] at C5
            cases h5 : o.ls.all slotN with
            | false =>
              have e : commonB o = false := by simp [commonB, h0, h1, h2, h3, h4, h5]
              rw [e]
              clear e
              rw [h0] at C0
              rw [h1] at C1
              rw [h2] at C2
              rw [h3] at C3
              rw [h5] at C5
              clear h0 h1 h2 h3 h5
              go_enter Try.func88, Try.ntmps88
              go_wp2_with fail
              refine (C0 _).mono ?_
              rintro e w0 ⟨rfl, rfl⟩
              go_wp2_with fail
              refine (C1 _).mono ?_
              rintro e w1 ⟨rfl, rfl⟩
              go_wp2_with fail
              refine (C2 _).mono ?_
              rintro e w2 ⟨rfl, rfl⟩
              go_wp2_with fail
              refine (C3 _).mono ?_
              rintro e w3 ⟨rfl, rfl⟩
              go_wp2_with fail
              refine (C5.out _ (by go_grown)).mono ?_
              rintro e w4 ⟨rfl, hb4⟩
              have HB4 : Hid (Below w.heap.size w w4) := below_more (by go_grown) hb4
              clear hb4
              go_wp2
              go_ret
              exact ⟨rfl, HB4.out⟩
            | true =>
              have e : commonB o = true := by simp [commonB, h0, h1, h2, h3, h4, h5]
              rw [e]
              clear e
              rw [h0] at C0
              rw [h1] at C1
              rw [h2] at C2
              rw [h3] at C3
              rw [h5] at C5
              clear h0 h1 h2 h3 h5
              go_enter Try.func88, Try.ntmps88
              go_wp2_with fail
              refine (C0 _).mono ?_
              rintro e w0 ⟨rfl, rfl⟩
              go_wp2_with fail
              refine (C1 _).mono ?_
              rintro e w1 ⟨rfl, rfl⟩
              go_wp2_with fail
              refine (C2 _).mono ?_
              rintro e w2 ⟨rfl, rfl⟩
              go_wp2_with fail
              refine (C3 _).mono ?_
              rintro e w3 ⟨rfl, rfl⟩
              go_wp2_with fail
              refine (C5.out _ (by go_grown)).mono ?_
              rintro e w4 ⟨rfl, hb4⟩
              have HB4 : Hid (Below w.heap.size w w4) := below_more (by go_grown) hb4
              clear hb4
              go_wp2
              go_ret
              exact ⟨rfl, HB4.out⟩
          · have k4 : ((o.ls.length : Int) == 2) = false := by simp; omega
            have j4 : ¬ (o.ls.length : Int) = 2 := by omega
            have e : commonB o = false := by simp [commonB, h0, h1, h2, h3, h4]
            rw [e]
            clear e
            rw [h0] at C0
            rw [h1] at C1
            rw [h2] at C2
            rw [h3] at C3
            clear h0 h1 h2 h3 C5
            go_enter Try.func88, Try.ntmps88
            go_wp2_with fail
            refine (C0 _).mono ?_
            rintro e w0 ⟨rfl, rfl⟩
            go_wp2_with fail
            refine (C1 _).mono ?_
            rintro e w1 ⟨rfl, rfl⟩
            go_wp2_with fail
            refine (C2 _).mono ?_
            rintro e w2 ⟨rfl, rfl⟩
            go_wp2_with fail
            refine (C3 _).mono ?_
            rintro e w3 ⟨rfl, rfl⟩
            go_wp2
            go_ret
            exact ⟨rfl, by go_grown⟩
set_option maxHeartbeats 1000000 in
theorem dataOk_any (o : Ob) (l d m : Value) (w : World) (hx : Lists w l d m o) (hn : obN o ≤ 1048576) :
    Calls Try.prog 89 #[obV o l d m] w fun e w' => e = .returned (.bool (dataN o)) ∧ Below w.heap.size w w' := by
  obtain ⟨⟨a, c, rfl, hac, _⟩, ⟨a', c', rfl, hac', _⟩, ⟨a'', c'', rfl, hac'', _⟩⟩ := hx
  by_cases h0 : o.ds.length = 0
  · have j4 : (o.ds.length : Int) = 0 := by omega
    have k4 : ((o.ds.length : Int) == 0) = true := beq_iff_eq.2 j4
    have e : dataN o = true := by simp [dataN, h0]
    rw [e]
    clear e
    go_enter Try.func89, Try.ntmps89
    go_wp2
    go_ret
    exact ⟨rfl, by go_grown⟩
  · have j4 : ¬ (o.ds.length : Int) = 0 := by omega
    have k4 : ((o.ds.length : Int) == 0) = false := beq_eq_false_iff_ne.2 j4
    have e : dataN o = false := by simp [dataN, h0]
    rw [e]
    clear e
    go_enter Try.func89, Try.ntmps89
    go_wp2
    go_ret
    exact ⟨rfl, by go_grown⟩
set_option maxHeartbeats 1000000 in
theorem queueOk_any (o : Ob) (l d m : Value) (w : World) (hx : Lists w l d m o) (hn : obN o ≤ 1048576) :
    Calls Try.prog 90 #[obV o l d m] w fun e w' => e = .returned (.bool (queueN o)) ∧ Below w.heap.size w w' := by
  obtain ⟨⟨a, c, rfl, hac, _⟩, ⟨a', c', rfl, hac', _⟩, ⟨a'', c'', rfl, hac'', _⟩⟩ := hx
  by_cases h0 : o.qs.length = 0
  · have j4 : (o.qs.length : Int) = 0 := by omega
    have k4 : ((o.qs.length : Int) == 0) = true := beq_iff_eq.2 j4
    have e : queueN o = true := by simp [queueN, h0]
    rw [e]
    clear e
    go_enter Try.func90, Try.ntmps90
    go_wp2
    go_ret
    exact ⟨rfl, by go_grown⟩
  · have j4 : ¬ (o.qs.length : Int) = 0 := by omega
    have k4 : ((o.qs.length : Int) == 0) = false := beq_eq_false_iff_ne.2 j4
    have e : queueN o = false := by simp [queueN, h0]
    rw [e]
    clear e
    go_enter Try.func90, Try.ntmps90
    go_wp2
    go_ret
    exact ⟨rfl, by go_grown⟩
set_option maxHeartbeats 1000000 in
theorem turnsOk_any (o : Ob) (l d m : Value) (w : World) (hx : Lists w l d m o) (hn : obN o ≤ 1048576) :
    Calls Try.prog 91 #[obV o l d m] w fun e w' => e = .returned (.bool (turnsN o)) ∧ Below w.heap.size w w' := by
  obtain ⟨⟨a, c, rfl, hac, _⟩, ⟨a', c', rfl, hac', _⟩, ⟨a'', c'', rfl, hac'', _⟩⟩ := hx
  by_cases h0 : o.wait = 0
  · have kwait : (o.wait == 0) = true := by simp [*]
    by_cases h1 : o.got = 0
    · have kgot : (o.got == 0) = true := by simp [*]
      by_cases h2 : o.ran = 0
      · have kran : (o.ran == 0) = true := by simp [*]
        have e : turnsN o = true := by simp [turnsN, h0, h1, h2]
        rw [e]
        clear e
        go_enter Try.func91, Try.ntmps91
        go_wp2
        go_ret
        exact ⟨rfl, by go_grown⟩
      · have kran : (o.ran == 0) = false := by simp [*]
        have e : turnsN o = false := by simp [turnsN, h0, h1, h2]
        rw [e]
        clear e
        go_enter Try.func91, Try.ntmps91
        go_wp2
        go_ret
        exact ⟨rfl, by go_grown⟩
    · have kgot : (o.got == 0) = false := by simp [*]
      have e : turnsN o = false := by simp [turnsN, h0, h1]
      rw [e]
      clear e
      go_enter Try.func91, Try.ntmps91
      go_wp2
      go_ret
      exact ⟨rfl, by go_grown⟩
  · have kwait : (o.wait == 0) = false := by simp [*]
    have e : turnsN o = false := by simp [turnsN, h0]
    rw [e]
    clear e
    go_enter Try.func91, Try.ntmps91
    go_wp2
    go_ret
    exact ⟨rfl, by go_grown⟩
end Go.Proofs.Ytokicnopfmokaaa
