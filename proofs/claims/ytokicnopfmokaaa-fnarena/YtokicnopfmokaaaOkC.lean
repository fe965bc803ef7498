/-
  Is a thing right: the program.
-/
import Derived.Test.YtokicnopfmokaaaOkB
namespace Go.Proofs.Ytokicnopfmokaaa
open Go.RowKit
set_option linter.unusedVariables false
set_option maxRecDepth 100000
set_option linter.unusedSimpArgs false

/-- A thing that is zero but its generation. -/
def genOb (g : Int) : Ob := ⟨g, 0, 0, 0, 0, 0, 0, 0, 0, false, [], [], []⟩
theorem lists_nil (w : World) (g : Int) : Lists w (.slice none 0 0) (.slice none 0 0) (.slice none 0 0) (genOb g) :=
  ⟨⟨none, 0, rfl, Nat.le_refl _, fun i hi => absurd hi (by simp [genOb])⟩, ⟨none, 0, rfl, Nat.le_refl _, fun i hi => absurd hi (by simp [genOb])⟩, ⟨none, 0, rfl, Nat.le_refl _, fun i hi => absurd hi (by simp [genOb])⟩⟩
theorem same_zero {o : Ob} (h : o.kind = 0) : sameO o (genOb o.gen) = zeroB o := by
  unfold sameO sameF zeroB sameInts sameMsgs genOb
  simp only [h, List.map_nil, List.map_eq_nil_iff, List.length_eq_zero_iff]
  rw [Bool.eq_iff_iff]
  simp
  constructor
  · rintro ⟨⟨⟨⟨⟨⟨⟨a, b⟩, c⟩, d⟩, e⟩, f⟩, g⟩, i⟩
    exact ⟨a, b, c, d, e, f, g, i⟩
  · rintro ⟨a, b, c, d, e, f, g, i⟩
    exact ⟨⟨⟨⟨⟨⟨⟨a, b⟩, c⟩, d⟩, e⟩, f⟩, g⟩, i⟩
set_option maxHeartbeats 8000000 in
theorem implObjOk_any (o : Ob) (l d m : Value) (w : World) (hx : Lists w l d m o) (hn : obN o ≤ 1048576) :
    Calls Try.prog 40 #[obV o l d m] w fun e w' => e = .returned (.bool (obOk o)) ∧ Below w.heap.size w w' := by
  have CG := fun w => isGen_b o.gen w
  have CZ : Hid (∀ w', Below w.heap.size w w' → Calls Try.prog 58 #[obV o l d m, .agg #[.int .i64 o.gen, .int .i64 0, .int .i64 0, .int .i64 0, .int .i64 0, .int .i64 0, .int .i64 0, .int .i64 0, .int .i64 0, .bool false, .slice none 0 0, .slice none 0 0, .slice none 0 0]] w' fun e w'' => e = .returned (.bool (sameO o (genOb o.gen))) ∧ Below w'.heap.size w' w'') := fun w' hb => sameObj_any o (genOb o.gen) l d m _ _ _ w' (hx.on hb) (lists_nil w' _) hn
  have C1 : Hid (∀ w', Below w.heap.size w w' → Calls Try.prog 59 #[.iface 74 (obV o l d m)] w' fun e w'' => e = .returned (.bool (boxB o)) ∧ Below w'.heap.size w' w'') := fun w' hb => boxOk_any o l d m w' (hx.on hb) hn
  have C2 : Hid (∀ w', Below w.heap.size w w' → Calls Try.prog 59 #[.iface 77 (obV o l d m)] w' fun e w'' => e = .returned (.bool (segB o)) ∧ Below w'.heap.size w' w'') := fun w' hb => segOk_any o l d m w' (hx.on hb) hn
  have C3 : Hid (∀ w', Below w.heap.size w w' → Calls Try.prog 59 #[.iface 78 (obV o l d m)] w' fun e w'' => e = .returned (.bool (gateB o)) ∧ Below w'.heap.size w' w'') := fun w' hb => gateOk_any o l d m w' (hx.on hb) hn
  have C4 : Hid (∀ w', Below w.heap.size w w' → Calls Try.prog 59 #[.iface 79 (obV o l d m)] w' fun e w'' => e = .returned (.bool (thrB o)) ∧ Below w'.heap.size w' w'') := fun w' hb => thrOk_any o l d m w' (hx.on hb) hn
  obtain ⟨⟨a, c, rfl, hac, _⟩, ⟨a', c', rfl, hac', _⟩, ⟨a'', c'', rfl, hac'', _⟩⟩ := hx
  clear hn
  cases hg : inB o.gen 0 999 with
  | false =>
    have e : obOk o = false := by simp [obOk, hg]
    rw [e]
    rw [hg] at CG
    clear e hg CZ C1 C2 C3 C4
    go_enter Try.func40, Try.ntmps40
    go_wp2_with fail
    refine (CG _).mono ?_
    rintro e w1 ⟨rfl, rfl⟩
    go_wp2
    go_ret
    exact ⟨rfl, by go_grown⟩
  | true =>
    rw [hg] at CG
    by_cases k0 : o.kind = 0
    · have j0 : (o.kind == 0) = true := beq_iff_eq.2 k0
      rw [same_zero k0] at CZ
      have e : obOk o = zeroB o := by simp [obOk, hg, k0]
      rw [e]
      clear e hg
      generalize zeroB o = r at CZ ⊢
      clear C1 C2 C3 C4 k0
      go_enter Try.func40, Try.ntmps40
      go_wp2_with fail
      refine (CG _).mono ?_
      rintro e w1 ⟨rfl, rfl⟩
      go_wp2_with fail
      refine (CZ.out _ (by go_grown)).mono ?_
      rintro e w2 ⟨rfl, hb⟩
      have HB : Hid (Below w.heap.size w w2) := below_more (by go_grown) hb
      clear hb
      go_wp2
      go_ret
      exact ⟨rfl, HB.out⟩
    · have j0 : (o.kind == 0) = false := beq_eq_false_iff_ne.2 k0
      clear CZ
      by_cases k1 : o.kind = 1
      · have j1 : (o.kind == 1) = true := beq_iff_eq.2 k1
        have e : obOk o = boxB o := by simp [obOk, hg, k0, k1]
        rw [e]
        clear e hg
        generalize boxB o = r at C1 ⊢
        clear C2 C3 C4 k1
        go_enter Try.func40, Try.ntmps40
        go_wp2_with fail
        refine (CG _).mono ?_
        rintro e w1 ⟨rfl, rfl⟩
        go_wp2_with fail
        refine (C1.out _ (by go_grown)).mono ?_
        rintro e w2 ⟨rfl, hb⟩
        have HB : Hid (Below w.heap.size w w2) := below_more (by go_grown) hb
        clear hb
        go_wp2
        go_ret
        exact ⟨rfl, HB.out⟩
      · have j1 : (o.kind == 1) = false := beq_eq_false_iff_ne.2 k1
        clear C1
        by_cases k2 : o.kind = 2
        · have j2 : (o.kind == 2) = true := beq_iff_eq.2 k2
          have e : obOk o = segB o := by simp [obOk, hg, k0, k1, k2]
          rw [e]
          clear e hg
          generalize segB o = r at C2 ⊢
          clear C3 C4 k2
          go_enter Try.func40, Try.ntmps40
          go_wp2_with fail
          refine (CG _).mono ?_
          rintro e w1 ⟨rfl, rfl⟩
          go_wp2_with fail
          refine (C2.out _ (by go_grown)).mono ?_
          rintro e w2 ⟨rfl, hb⟩
          have HB : Hid (Below w.heap.size w w2) := below_more (by go_grown) hb
          clear hb
          go_wp2
          go_ret
          exact ⟨rfl, HB.out⟩
        · have j2 : (o.kind == 2) = false := beq_eq_false_iff_ne.2 k2
          clear C2
          by_cases k3 : o.kind = 3
          · have j3 : (o.kind == 3) = true := beq_iff_eq.2 k3
            have e : obOk o = gateB o := by simp [obOk, hg, k0, k1, k2, k3]
            rw [e]
            clear e hg
            generalize gateB o = r at C3 ⊢
            clear C4 k3
            go_enter Try.func40, Try.ntmps40
            go_wp2_with fail
            refine (CG _).mono ?_
            rintro e w1 ⟨rfl, rfl⟩
            go_wp2_with fail
            refine (C3.out _ (by go_grown)).mono ?_
            rintro e w2 ⟨rfl, hb⟩
            have HB : Hid (Below w.heap.size w w2) := below_more (by go_grown) hb
            clear hb
            go_wp2
            go_ret
            exact ⟨rfl, HB.out⟩
          · have j3 : (o.kind == 3) = false := beq_eq_false_iff_ne.2 k3
            clear C3
            by_cases k4 : o.kind = 4
            · have j4 : (o.kind == 4) = true := beq_iff_eq.2 k4
              have e : obOk o = thrB o := by simp [obOk, hg, k0, k1, k2, k3, k4]
              rw [e]
              clear e hg
              generalize thrB o = r at C4 ⊢
              clear  k4
              go_enter Try.func40, Try.ntmps40
              go_wp2_with fail
              refine (CG _).mono ?_
              rintro e w1 ⟨rfl, rfl⟩
              go_wp2_with fail
              refine (C4.out _ (by go_grown)).mono ?_
              rintro e w2 ⟨rfl, hb⟩
              have HB : Hid (Below w.heap.size w w2) := below_more (by go_grown) hb
              clear hb
              go_wp2
              go_ret
              exact ⟨rfl, HB.out⟩
            · have j4 : (o.kind == 4) = false := beq_eq_false_iff_ne.2 k4
              clear C4
              have e : obOk o = false := by simp [obOk, hg, k0, k1, k2, k3, k4]
              rw [e]
              clear e hg

              go_enter Try.func40, Try.ntmps40
              go_wp2_with fail
              refine (CG _).mono ?_
              rintro e w1 ⟨rfl, rfl⟩
              go_wp2
              go_ret
              exact ⟨rfl, by go_grown⟩
end Go.Proofs.Ytokicnopfmokaaa
