/-
  A thing leaves: the program.
-/
import Derived.Test.YtbdljoldblpffaaGreatCopyA8
import Derived.Test.YtbdljoldblpffaaGreatLead
import Derived.Test.YtbdljoldblpffaaGreatArOkI
import Derived.Test.YtbdljoldblpffaaGreatHandI
namespace Go.Proofs.YtbdljoldblpffaaGreat
open Go.RowKit
set_option linter.unusedVariables false
set_option maxRecDepth 100000

def newO (x : Int) : Ob := { noOb with gen := x }
def freeB (os : List Ob) (i : Int) : Bool := arenaOk os && (inB i 0 9 && (!(i == 0) && !((obAt os i.toNat).kind == 0)))
def freeOf (os : List Ob) (i : Int) : List Ob := if freeB os i then (os.set i.toNat (newO (obAt os i.toNat).gen)).map (unO i) else os
def FreeAns (os : List Ob) (b : Bool) (w : World) (e : Ending) (w' : World) : Prop := ∃ g c fs rest, e = .returned (.tuple #[.slice (some ⟨g, 0, none⟩) os.length c, .bool b]) ∧ arOf fs = os ∧ OwnA g c fs rest w.heap.size w'.heap.size w' ∧ Below w.heap.size w w'
theorem ownO_new (lo hi : Nat) (w : World) (x : Int) : OwnO lo hi w (.slice none 0 0) (.slice none 0 0) (.slice none 0 0) (newO x) :=
  ⟨⟨none, 0, rfl, Nat.le_refl _, fun h => absurd rfl h⟩, ⟨none, 0, rfl, Nat.le_refl _, fun h => absurd rfl h⟩, ⟨none, 0, rfl, Nat.le_refl _, fun h => absurd rfl h⟩, by simp [Go.Proofs.YtbdljoldblpffaaGreat.blk]⟩
theorem arN_new : ∀ (os : List Ob) (k : Nat) (x : Int), arN (os.set k (newO x)) ≤ arN os
  | [], _, _ => by simp
  | o :: os, 0, x => by rw [List.set_cons_zero, arN_cons, arN_cons]; simp [obN, newO, noOb]
  | o :: os, k + 1, x => by rw [List.set_cons_succ, arN_cons, arN_cons]; have := arN_new os k x; omega
theorem OwnI.fit {lo hi : Nat} {w : World} {v : Value} {xs : List Int} (h : OwnI lo hi w v xs) : OwnI lo w.heap.size w v xs := by
  obtain ⟨a, c, hv, hc, hx⟩ := h
  exact ⟨a, c, hv, hc, fun h0 => by obtain ⟨b, rs, ha, h1, h2, h3, h4⟩ := hx h0; exact ⟨b, rs, ha, h1, lt_of_block h3, h3, h4⟩⟩
theorem OwnM.fit {lo hi : Nat} {w : World} {v : Value} {xs : List Ms} (h : OwnM lo hi w v xs) : OwnM lo w.heap.size w v xs := by
  obtain ⟨a, c, hv, hc, hx⟩ := h
  exact ⟨a, c, hv, hc, fun h0 => by obtain ⟨b, rs, ha, h1, h2, h3, h4⟩ := hx h0; exact ⟨b, rs, ha, h1, lt_of_block h3, h3, h4⟩⟩
theorem OwnA.fit {g cap : Nat} {es : List El} {rest : List Value} {lo hi : Nat} {w : World} (h : OwnA g cap es rest lo hi w) : OwnA g cap es rest lo w.heap.size w :=
  ⟨h.at', h.cap, h.lo, lt_of_block h.at', fun i hi => ⟨(h.own i hi).ls.fit, (h.own i hi).ds.fit, (h.own i hi).qs.fit, (h.own i hi).nd⟩, h.ne, h.apart⟩
set_option maxRecDepth 100000 in
set_option maxHeartbeats 4000000 in
theorem implFree_any (p : Addr) (cap : Nat) (os : List Ob) (i : Int) (w : World) (hx : IsArena w (.slice (some p) os.length cap) os) (hn : os.length ≤ 1048576) (hs : Small8 os) (ht : (os.length : Int) + arN os ≤ 1048576) :
    Calls Tryz.prog 91 #[.slice (some p) os.length cap, .int .i64 i] w fun e w' => FreeAns (freeOf os i) (freeB os i) w e w' := by
  have HC : Hid (∀ w', Below w.heap.size w w' → Calls Tryz.prog 53 #[.slice (some p) os.length cap] w' fun e w'' => ArenaOwn os w' e w'') := fun w' hb => implCopyA_any p _ cap os w' (hx.on hb) rfl hn hs
  have HA : Hid (∀ w', Below w.heap.size w w' → Calls Tryz.prog 55 #[.slice (some p) os.length cap] w' fun e w'' => e = .returned (.bool (arenaOk os)) ∧ Below w'.heap.size w' w'') := fun w' hb => implArenaOk_any _ os w' (hx.on hb) hn hs
  have HX : Hid (∀ w', Below w.heap.size w w' → IsArena w' (.slice (some p) os.length cap) os) := fun w' hb => hx.on hb
  have hcap : os.length ≤ cap := by obtain ⟨_, _, hv, h, _⟩ := hx; cases hv; exact h
  clear hx
  cases hv : arenaOk os with
  | false =>
    have e1 : freeB os i = false := by unfold freeB; rw [hv]; rfl
    have e2 : freeOf os i = os := by unfold freeOf; rw [e1]; rfl
    rw [e1, e2]
    simp only [hv] at HA
    clear hv e1 e2
    go_enter Tryz.func91, Tryz.ntmps91
    go_wp2_with fail
    refine (HC.out _ (Below.refl _ _)).mono ?_
    rintro e w1 ⟨g, c, fs, rest, rfl, hfs, hown, hb1⟩
    have HOWN : Hid (arOf fs = os ∧ OwnA g c fs rest w.heap.size w1.heap.size w1) := ⟨hfs, hown⟩
    have HB1 : Hid (Below w.heap.size w w1) := hb1
    clear hfs hown hb1
    go_wp2_with fail
    refine (HA.out _ HB1.out).mono ?_
    rintro e w2 ⟨rfl, hb2⟩
    have HB2 : Hid (Below w1.heap.size w1 w2) := hb2
    have HX2 : Hid (IsArena w2 (.slice (some p) os.length cap) os) := HX.out _ (below_more HB1.out hb2)
    clear hb2
    go_wp2
    go_returns
    exact ⟨g, c, fs, rest, by first | rfl | (rw [HR.out]; rfl), HOWN.out.1, (HOWN.out.2.on HB2.out).wide (Nat.le_refl _) HB2.out.size, below_more HB1.out HB2.out⟩
  | true =>
    simp only [hv] at HA
    cases hi : inB i 0 9 with
    | false =>
      have e1 : freeB os i = false := by unfold freeB; rw [hv, hi]; rfl
      have e2 : freeOf os i = os := by unfold freeOf; rw [e1]; rfl
      rw [e1, e2]
      have CI := isSlot_b i
      simp only [hi] at CI
      have HCI : Hid (∀ w, Calls Tryz.prog 30 #[.int .i64 i] w fun e w' => e = .returned (.bool false) ∧ w = w') := CI
      clear hv e1 e2 CI hi
      go_enter Tryz.func91, Tryz.ntmps91
      go_wp2_with fail
      refine (HC.out _ (Below.refl _ _)).mono ?_
      rintro e w1 ⟨g, c, fs, rest, rfl, hfs, hown, hb1⟩
      have HOWN : Hid (arOf fs = os ∧ OwnA g c fs rest w.heap.size w1.heap.size w1) := ⟨hfs, hown⟩
      have HB1 : Hid (Below w.heap.size w w1) := hb1
      clear hfs hown hb1
      go_wp2_with fail
      refine (HA.out _ HB1.out).mono ?_
      rintro e w2 ⟨rfl, hb2⟩
      have HB2 : Hid (Below w1.heap.size w1 w2) := hb2
      have HX2 : Hid (IsArena w2 (.slice (some p) os.length cap) os) := HX.out _ (below_more HB1.out hb2)
      clear hb2
      go_wp2_with fail
      refine (HCI.out _).mono ?_
      rintro e w3 ⟨rfl, rfl⟩
      go_wp2
      go_returns
      exact ⟨g, c, fs, rest, by first | rfl | (rw [HR.out]; rfl), HOWN.out.1, (HOWN.out.2.on HB2.out).wide (Nat.le_refl _) HB2.out.size, below_more HB1.out HB2.out⟩
    | true =>
      have CI := isSlot_b i
      simp only [hi] at CI
      have HCI : Hid (∀ w, Calls Tryz.prog 30 #[.int .i64 i] w fun e w' => e = .returned (.bool true) ∧ w = w') := CI
      clear CI
      have hib := inB_true hi
      obtain ⟨k, rfl⟩ : ∃ k : Nat, i = k := ⟨i.toNat, by omega⟩
      have hlen : os.length = 10 := by unfold arenaOk at hv; simp only [Bool.and_eq_true, decide_eq_true_eq] at hv; exact hv.1
      have hk : k < os.length := by omega
      by_cases hz : (k : Int) = 0
      · have e1 : freeB os k = false := by unfold freeB; rw [hv, hi, hz]; rfl
        have e2 : freeOf os k = os := by unfold freeOf; rw [e1]; rfl
        rw [e1, e2]
        have qz : ((k : Int) == 0) = true := beq_iff_eq.2 hz
        clear hv e1 e2 hi hz hib hlen hk
        go_enter Tryz.func91, Tryz.ntmps91
        go_wp2_with fail
        refine (HC.out _ (Below.refl _ _)).mono ?_
        rintro e w1 ⟨g, c, fs, rest, rfl, hfs, hown, hb1⟩
        have HOWN : Hid (arOf fs = os ∧ OwnA g c fs rest w.heap.size w1.heap.size w1) := ⟨hfs, hown⟩
        have HB1 : Hid (Below w.heap.size w w1) := hb1
        clear hfs hown hb1
        go_wp2_with fail
        refine (HA.out _ HB1.out).mono ?_
        rintro e w2 ⟨rfl, hb2⟩
        have HB2 : Hid (Below w1.heap.size w1 w2) := hb2
        have HX2 : Hid (IsArena w2 (.slice (some p) os.length cap) os) := HX.out _ (below_more HB1.out hb2)
        clear hb2
        go_wp2_with fail
        refine (HCI.out _).mono ?_
        rintro e w3 ⟨rfl, rfl⟩
        go_wp2
        go_returns
        exact ⟨g, c, fs, rest, by first | rfl | (rw [HR.out]; rfl), HOWN.out.1, (HOWN.out.2.on HB2.out).wide (Nat.le_refl _) HB2.out.size, below_more HB1.out HB2.out⟩
      · have qz : ((k : Int) == 0) = false := beq_eq_false_iff_ne.2 hz
        by_cases hkz : (obAt os k).kind = 0
        · have e1 : freeB os k = false := by unfold freeB; rw [hv, hi, qz]; simp [hkz]
          have e2 : freeOf os k = os := by unfold freeOf; rw [e1]; rfl
          rw [e1, e2]
          clear hv e1 e2 hi hz hlen
          have hk9 : k ≤ 9 := by omega
          clear hib
          go_enter Tryz.func91, Tryz.ntmps91
          go_wp2_with fail
          refine (HC.out _ (Below.refl _ _)).mono ?_
          rintro e w1 ⟨g, c, fs, rest, rfl, hfs, hown, hb1⟩
          have HOWN : Hid (arOf fs = os ∧ OwnA g c fs rest w.heap.size w1.heap.size w1) := ⟨hfs, hown⟩
          have HB1 : Hid (Below w.heap.size w w1) := hb1
          clear hfs hown hb1
          go_wp2_with fail
          refine (HA.out _ HB1.out).mono ?_
          rintro e w2 ⟨rfl, hb2⟩
          have HB2 : Hid (Below w1.heap.size w1 w2) := hb2
          have HX2 : Hid (IsArena w2 (.slice (some p) os.length cap) os) := HX.out _ (below_more HB1.out hb2)
          clear hb2
          obtain ⟨p', q, l, d, m, hp, hq, ⟨c0, c1, c2, c3, c4, c5, c6, c7, c8, c9, c10, c11, c12⟩, hu⟩ := HX2.out.at hk
          obtain rfl : p = p' := by simpa using hp
          clear hp
          rw [hkz] at c1
          go_wp2_with fail
          refine (HCI.out _).mono ?_
          rintro e w3 ⟨rfl, rfl⟩
          go_wp2
          go_returns
          exact ⟨g, c, fs, rest, by first | rfl | (rw [HR.out]; rfl), HOWN.out.1, (HOWN.out.2.on HB2.out).wide (Nat.le_refl _) HB2.out.size, below_more HB1.out HB2.out⟩
        · have qk : ((obAt os k).kind == 0) = false := beq_eq_false_iff_ne.2 hkz
          have e1 : freeB os k = true := by unfold freeB; rw [hv, hi, qz, Int.toNat_natCast, qk]; rfl
          have e2 : freeOf os k = (os.set k (newO (obAt os k).gen)).map (unO k) := by unfold freeOf; rw [e1, Int.toNat_natCast]; rfl
          rw [e1, e2]
          clear hv e1 e2 hi hz hlen hkz
          have hk9 : k ≤ 9 := by omega
          clear hib
          have HT : Hid ((os.length : Int) + arN os ≤ 1048576 ∧ k < os.length) := ⟨ht, hk⟩
          go_enter Tryz.func91, Tryz.ntmps91
          go_wp2_with fail
          refine (HC.out _ (Below.refl _ _)).mono ?_
          rintro e w1 ⟨g, c, fs, rest, rfl, hfs, hown, hb1⟩
          have HOWN : Hid (arOf fs = os ∧ OwnA g c fs rest w.heap.size w1.heap.size w1) := ⟨hfs, hown⟩
          have HB1 : Hid (Below w.heap.size w w1) := hb1
          clear hfs hown hb1
          go_wp2_with fail
          refine (HA.out _ HB1.out).mono ?_
          rintro e w2 ⟨rfl, hb2⟩
          have HB2 : Hid (Below w1.heap.size w1 w2) := hb2
          have HX2 : Hid (IsArena w2 (.slice (some p) os.length cap) os) := HX.out _ (below_more HB1.out hb2)
          clear hb2
          obtain ⟨p', q, l, d, m, hp, hq, ⟨c0, c1, _, _, _, _, _, _, _, _, _, _, _⟩, hu⟩ := HX2.out.at hk
          obtain rfl : p = p' := by simpa using hp
          clear hp hu
          have hown2 := (HOWN.out.2.on HB2.out).wide (Nat.le_refl _) HB2.out.size
          have hfl : fs.length = os.length := by rw [← HOWN.out.1, arOf_length]
          have hkf : k < fs.length := by rw [hfl]; exact hk
          have HPUT : Hid _ := hid_of (hown2.put (e := ⟨newO (obAt os k).gen, .slice none 0 0, .slice none 0 0, .slice none 0 0⟩) (ownO_new w2.heap.size w2.heap.size w2 _) (Nat.le_refl _) hkf)
          have HAR : Hid (arOf (fs.set k ⟨newO (obAt os k).gen, .slice none 0 0, .slice none 0 0, .slice none 0 0⟩) = os.set k (newO (obAt os k).gen)) := by show arOf _ = _; rw [arOf_set, HOWN.out.1]
          have CL := leadNobody_own g c os.length _ rest w.heap.size w2.heap.size (k : Int) _ HPUT.out (by rw [List.length_set, hfl]) (by rw [HAR.out]; have := arN_new os k (obAt os k).gen; have := HT.out.1; omega)
          rw [HAR.out] at CL
          have HBW : Hid (Below w.heap.size w (w13 w2 g (k * 13) (newO (obAt os k).gen) (.slice none 0 0) (.slice none 0 0) (.slice none 0 0))) := below_w13 (below_more HB1.out HB2.out) hown2.lo _ _ _ _ _
          have HCL := hid_of CL
          obtain ⟨d0, d1, d2, d3, d4, d5, d6, d7, d8, d9, d10, d11, d12⟩ := hown2.cells hkf
          have hf := hown2.free
          have f0 := hf (k * 13)
          have f1 := hf (k * 13 + 1)
          have f2 := hf (k * 13 + 2)
          have f3 := hf (k * 13 + 3)
          have f4 := hf (k * 13 + 4)
          have f5 := hf (k * 13 + 5)
          have f6 := hf (k * 13 + 6)
          have f7 := hf (k * 13 + 7)
          have f8 := hf (k * 13 + 8)
          have f9 := hf (k * 13 + 9)
          have f10 := hf (k * 13 + 10)
          have f11 := hf (k * 13 + 11)
          have f12 := hf (k * 13 + 12)
          clear CL hf hown2 hfl hkf HPUT HAR
          have hlc : os.length ≤ c := by have e := HOWN.out.2.cap; rw [show fs.length = os.length by rw [← HOWN.out.1, arOf_length]] at e; exact e
          go_wp2_with fail
          refine (HCI.out _).mono ?_
          rintro e w3 ⟨rfl, rfl⟩
          go_wp2_with fail
          refine (HCL.out).mono ?_
          rintro e w4 ⟨⟨v, rfl⟩, ⟨fs4, h4, o4⟩, t4⟩
          have H4 : Hid (arOf fs4 = (os.set k (newO (obAt os k).gen)).map (unO k) ∧ OwnA g c fs4 rest w.heap.size w4.heap.size w4 ∧ Below w.heap.size w w4) := ⟨h4, o4.fit, t4.below _ _ (Nat.le_refl _) HBW.out⟩
          clear h4 o4 t4
          go_wp2
          go_returns
          exact ⟨g, c, fs4, rest, by rw [List.length_map, List.length_set]; rfl, H4.out.1, H4.out.2.1, H4.out.2.2⟩
end Go.Proofs.YtbdljoldblpffaaGreat
