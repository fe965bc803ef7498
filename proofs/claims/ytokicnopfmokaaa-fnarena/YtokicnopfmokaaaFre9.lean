/-
  A thing leaves: the program. Copies of an arena: the model's. The first slot that may be filled: the program. A thing leaves: the model.
-/
import Derived.Test.YtokicnopfmokaaaCopyA
import Derived.Test.YtokicnopfmokaaaLead
import Derived.Test.YtokicnopfmokaaaArOkI
import Derived.Test.YtokicnopfmokaaaHandI
import Derived.Test.YtokicnopfmokaaaAllO
import Derived.Test.YtokicnopfmokaaaArOkS
namespace Go.Proofs.Ytokicnopfmokaaa
open Go.RowKit
set_option linter.unusedVariables false
set_option maxRecDepth 100000

def newO (x : Int) : Ob := { noOb with gen := x }
def freeB (os : List Ob) (i : Int) : Bool := arenaOk os && (inB i 0 9 && (!(i == 0) && !((obAt os i.toNat).kind == 0)))
def freeOf (os : List Ob) (i : Int) : List Ob := if freeB os i then (os.set i.toNat (newO (obAt os i.toNat).gen)).map (unO i) else os
def FreeAns (os : List Ob) (b : Bool) (w : World) (e : Ending) (w' : World) : Prop := ∃ g c fs rest, e = .returned (.tuple #[.slice (some ⟨g, 0, none⟩) os.length c, .bool b]) ∧ arOf fs = os ∧ OwnA g c fs rest w.heap.size w'.heap.size w' ∧ Below w.heap.size w w'
theorem ownO_new (lo hi : Nat) (w : World) (x : Int) : OwnO lo hi w (.slice none 0 0) (.slice none 0 0) (.slice none 0 0) (newO x) :=
  ⟨⟨none, 0, rfl, Nat.le_refl _, fun h => absurd rfl h⟩, ⟨none, 0, rfl, Nat.le_refl _, fun h => absurd rfl h⟩, ⟨none, 0, rfl, Nat.le_refl _, fun h => absurd rfl h⟩, by simp [Go.Proofs.Ytokicnopfmokaaa.blk]⟩
theorem arN_new : ∀ (os : List Ob) (k : Nat) (x : Int), arN (os.set k (newO x)) ≤ arN os
  | [], _, _ => by simp
  | o :: os, 0, x => by rw [List.set_cons_zero, arN_cons, arN_cons]; simp [obN, newO, noOb]
  | o :: os, k + 1, x => by rw [List.set_cons_succ, arN_cons, arN_cons]; have := arN_new os k x; omega
theorem OwnI.fit {lo hi : Nat} {w : World} {v : Value} {xs : List Int} (h : OwnI lo hi w v xs) : OwnI lo w.heap.size w v xs := by
  obtain ⟨a, c, hv, hc, hx⟩ := h
  exact ⟨a, c, hv, hc, fun h0 => by obtain ⟨b, rs, ha, h1, h2, h3, h4⟩ := hx h0; exact ⟨b, rs, ha, h1, lt_of_block h3, h3, h4⟩⟩
theorem OwnM.fit {lo hi : Nat} {w : World} {v : Value} {xs : List Ms} (h : OwnM lo hi w v xs) : OwnM lo w.heap.size w v xs := by
  obtain ⟨a, c, hv, hc, hx⟩ := h
  exact ⟨a, c, hv, hc, fun h0 => by obtain ⟨b, rs, ha, h1, h2, h3, h4⟩ := hx h0; exact ⟨b, rs, ha, h1, lt_of_block h3, h3, h4⟩⟩
theorem OwnA.fit {g cap : Nat} {es : List El} {rest : List Value} {lo hi : Nat} {w : World} (h : OwnA g cap es rest lo hi w) : OwnA g cap es rest lo w.heap.size w :=
  ⟨h.at', h.cap, h.lo, lt_of_block h.at', fun i hi => ⟨(h.own i hi).ls.fit, (h.own i hi).ds.fit, (h.own i hi).qs.fit, (h.own i hi).nd⟩, h.ne, h.apart⟩
set_option maxRecDepth 100000 in
set_option maxHeartbeats 4000000 in
theorem implFree_any (p : Addr) (cap : Nat) (os : List Ob) (i : Int) (w : World) (hx : IsArena w (.slice (some p) os.length cap) os) (hn : os.length ≤ 1048576) (hs : Small8 os) (ht : (os.length : Int) + arN os ≤ 1048576) :
    Calls Try.prog 9 #[.slice (some p) os.length cap, .int .i64 i] w fun e w' => FreeAns (freeOf os i) (freeB os i) w e w' := by
  have HC : Hid (∀ w', Below w.heap.size w w' → Calls Try.prog 19 #[.slice (some p) os.length cap] w' fun e w'' => ArenaOwn os w' e w'') := fun w' hb => implCopyA_any p _ cap os w' (hx.on hb) rfl hn hs
  have HA : Hid (∀ w', Below w.heap.size w w' → Calls Try.prog 20 #[.slice (some p) os.length cap] w' fun e w'' => e = .returned (.bool (arenaOk os)) ∧ Below w'.heap.size w' w'') := fun w' hb => implArenaOk_any _ os w' (hx.on hb) hn hs
  have HX : Hid (∀ w', Below w.heap.size w w' → IsArena w' (.slice (some p) os.length cap) os) := fun w' hb => hx.on hb
  have hcap : os.length ≤ cap := by obtain ⟨_, _, hv, h, _⟩ := hx; cases hv; exact h
  clear hx
  cases hv : arenaOk os with
  | false =>
    have e1 : freeB os i = false := by unfold freeB; rw [hv]; rfl
    have e2 : freeOf os i = os := by unfold freeOf; rw [e1]; rfl
    rw [e1, e2]
    simp only [hv] at HA
    clear hv e1 e2
    go_enter Try.func9, Try.ntmps9
    go_wp2_with fail
    refine (HC.out _ (Below.refl _ _)).mono ?_
    rintro e w1 ⟨g, c, fs, rest, rfl, hfs, hown, hb1⟩
    have HOWN : Hid (arOf fs = os ∧ OwnA g c fs rest w.heap.size w1.heap.size w1) := ⟨hfs, hown⟩
    have HB1 : Hid (Below w.heap.size w w1) := hb1
    clear hfs hown hb1
    go_wp2_with fail
    refine (HA.out _ HB1.out).mono ?_
    rintro e w2 ⟨rfl, hb2⟩
    have HB2 : Hid (Below w1.heap.size w1 w2) := hb2
    have HX2 : Hid (IsArena w2 (.slice (some p) os.length cap) os) := HX.out _ (below_more HB1.out hb2)
    clear hb2
    go_wp2
    go_returns
    exact ⟨g, c, fs, rest, by first | rfl | (rw [HR.out]; rfl), HOWN.out.1, (HOWN.out.2.on HB2.out).wide (Nat.le_refl _) HB2.out.size, below_more HB1.out HB2.out⟩
  | true =>
    simp only [hv] at HA
    cases hi : inB i 0 9 with
    | false =>
      have e1 : freeB os i = false := by unfold freeB; rw [hv, hi]; rfl
      have e2 : freeOf os i = os := by unfold freeOf; rw [e1]; rfl
      rw [e1, e2]
      have CI := isSlot_b i
      simp only [hi] at CI
      have HCI : Hid (∀ w, Calls Try.prog 26 #[.int .i64 i] w fun e w' => e = .returned (.bool false) ∧ w = w') := CI
      clear hv e1 e2 CI hi
      go_enter Try.func9, Try.ntmps9
      go_wp2_with fail
      refine (HC.out _ (Below.refl _ _)).mono ?_
      rintro e w1 ⟨g, c, fs, rest, rfl, hfs, hown, hb1⟩
      have HOWN : Hid (arOf fs = os ∧ OwnA g c fs rest w.heap.size w1.heap.size w1) := ⟨hfs, hown⟩
      have HB1 : Hid (Below w.heap.size w w1) := hb1
      clear hfs hown hb1
      go_wp2_with fail
      refine (HA.out _ HB1.out).mono ?_
      rintro e w2 ⟨rfl, hb2⟩
      have HB2 : Hid (Below w1.heap.size w1 w2) := hb2
      have HX2 : Hid (IsArena w2 (.slice (some p) os.length cap) os) := HX.out _ (below_more HB1.out hb2)
      clear hb2
      go_wp2_with fail
      refine (HCI.out _).mono ?_
      rintro e w3 ⟨rfl, rfl⟩
      go_wp2
      go_returns
      exact ⟨g, c, fs, rest, by first | rfl | (rw [HR.out]; rfl), HOWN.out.1, (HOWN.out.2.on HB2.out).wide (Nat.le_refl _) HB2.out.size, below_more HB1.out HB2.out⟩
    | true =>
      have CI := isSlot_b i
      simp only [hi] at CI
      have HCI : Hid (∀ w, Calls Try.prog 26 #[.int .i64 i] w fun e w' => e = .returned (.bool true) ∧ w = w') := CI
      clear CI
      have hib := inB_true hi
      obtain ⟨k, rfl⟩ : ∃ k : Nat, i = k := ⟨i.toNat, by omega⟩
      have hlen : os.length = 10 := by unfold arenaOk at hv; simp only [Bool.and_eq_true, decide_eq_true_eq] at hv; exact hv.1
      have hk : k < os.length := by omega
      by_cases hz : (k : Int) = 0
      · have e1 : freeB os k = false := by unfold freeB; rw [hv, hi, hz]; rfl
        have e2 : freeOf os k = os := by unfold freeOf; rw [e1]; rfl
        rw [e1, e2]
        have qz : ((k : Int) == 0) = true := beq_iff_eq.2 hz
        clear hv e1 e2 hi hz hib hlen hk
        go_enter Try.func9, Try.ntmps9
        go_wp2_with fail
        refine (HC.out _ (Below.refl _ _)).mono ?_
        rintro e w1 ⟨g, c, fs, rest, rfl, hfs, hown, hb1⟩
        have HOWN : Hid (arOf fs = os ∧ OwnA g c fs rest w.heap.size w1.heap.size w1) := ⟨hfs, hown⟩
        have HB1 : Hid (Below w.heap.size w w1) := hb1
        clear hfs hown hb1
        go_wp2_with fail
        refine (HA.out _ HB1.out).mono ?_
        rintro e w2 ⟨rfl, hb2⟩
        have HB2 : Hid (Below w1.heap.size w1 w2) := hb2
        have HX2 : Hid (IsArena w2 (.slice (some p) os.length cap) os) := HX.out _ (below_more HB1.out hb2)
        clear hb2
        go_wp2_with fail
        refine (HCI.out _).mono ?_
        rintro e w3 ⟨rfl, rfl⟩
        go_wp2
        go_returns
        exact ⟨g, c, fs, rest, by first | rfl | (rw [HR.out]; rfl), HOWN.out.1, (HOWN.out.2.on HB2.out).wide (Nat.le_refl _) HB2.out.size, below_more HB1.out HB2.out⟩
      · have qz : ((k : Int) == 0) = false := beq_eq_false_iff_ne.2 hz
        by_cases hkz : (obAt os k).kind = 0
        · have e1 : freeB os k = false := by unfold freeB; rw [hv, hi, qz]; simp [hkz]
          have e2 : freeOf os k = os := by unfold freeOf; rw [e1]; rfl
          rw [e1, e2]
          clear hv e1 e2 hi hz hlen
          have hk9 : k ≤ 9 := by omega
          clear hib
          go_enter Try.func9, Try.ntmps9
          go_wp2_with fail
          refine (HC.out _ (Below.refl _ _)).mono ?_
          rintro e w1 ⟨g, c, fs, rest, rfl, hfs, hown, hb1⟩
          have HOWN : Hid (arOf fs = os ∧ OwnA g c fs rest w.heap.size w1.heap.size w1) := ⟨hfs, hown⟩
          have HB1 : Hid (Below w.heap.size w w1) := hb1
          clear hfs hown hb1
          go_wp2_with fail
          refine (HA.out _ HB1.out).mono ?_
          rintro e w2 ⟨rfl, hb2⟩
          have HB2 : Hid (Below w1.heap.size w1 w2) := hb2
          have HX2 : Hid (IsArena w2 (.slice (some p) os.length cap) os) := HX.out _ (below_more HB1.out hb2)
          clear hb2
          obtain ⟨p', q, l, d, m, hp, hq, ⟨c0, c1, c2, c3, c4, c5, c6, c7, c8, c9, c10, c11, c12⟩, hu⟩ := HX2.out.at hk
          obtain rfl : p = p' := by simpa using hp
          clear hp
          rw [hkz] at c1
          go_wp2_with fail
          refine (HCI.out _).mono ?_
          rintro e w3 ⟨rfl, rfl⟩
          go_wp2
          go_returns
          exact ⟨g, c, fs, rest, by first | rfl | (rw [HR.out]; rfl), HOWN.out.1, (HOWN.out.2.on HB2.out).wide (Nat.le_refl _) HB2.out.size, below_more HB1.out HB2.out⟩
        · have qk : ((obAt os k).kind == 0) = false := beq_eq_false_iff_ne.2 hkz
          have e1 : freeB os k = true := by unfold freeB; rw [hv, hi, qz, Int.toNat_natCast, qk]; rfl
          have e2 : freeOf os k = (os.set k (newO (obAt os k).gen)).map (unO k) := by unfold freeOf; rw [e1, Int.toNat_natCast]; rfl
          rw [e1, e2]
          clear hv e1 e2 hi hz hlen hkz
          have hk9 : k ≤ 9 := by omega
          clear hib
          have HT : Hid ((os.length : Int) + arN os ≤ 1048576 ∧ k < os.length) := ⟨ht, hk⟩
          go_enter Try.func9, Try.ntmps9
          go_wp2_with fail
          refine (HC.out _ (Below.refl _ _)).mono ?_
          rintro e w1 ⟨g, c, fs, rest, rfl, hfs, hown, hb1⟩
          have HOWN : Hid (arOf fs = os ∧ OwnA g c fs rest w.heap.size w1.heap.size w1) := ⟨hfs, hown⟩
          have HB1 : Hid (Below w.heap.size w w1) := hb1
          clear hfs hown hb1
          go_wp2_with fail
          refine (HA.out _ HB1.out).mono ?_
          rintro e w2 ⟨rfl, hb2⟩
          have HB2 : Hid (Below w1.heap.size w1 w2) := hb2
          have HX2 : Hid (IsArena w2 (.slice (some p) os.length cap) os) := HX.out _ (below_more HB1.out hb2)
          clear hb2
          obtain ⟨p', q, l, d, m, hp, hq, ⟨c0, c1, _, _, _, _, _, _, _, _, _, _, _⟩, hu⟩ := HX2.out.at hk
          obtain rfl : p = p' := by simpa using hp
          clear hp hu
          have hown2 := (HOWN.out.2.on HB2.out).wide (Nat.le_refl _) HB2.out.size
          have hfl : fs.length = os.length := by rw [← HOWN.out.1, arOf_length]
          have hkf : k < fs.length := by rw [hfl]; exact hk
          have HPUT : Hid _ := hid_of (hown2.put (e := ⟨newO (obAt os k).gen, .slice none 0 0, .slice none 0 0, .slice none 0 0⟩) (ownO_new w2.heap.size w2.heap.size w2 _) (Nat.le_refl _) hkf)
          have HAR : Hid (arOf (fs.set k ⟨newO (obAt os k).gen, .slice none 0 0, .slice none 0 0, .slice none 0 0⟩) = os.set k (newO (obAt os k).gen)) := by show arOf _ = _; rw [arOf_set, HOWN.out.1]
          have CL := leadNobody_own g c os.length _ rest w.heap.size w2.heap.size (k : Int) _ HPUT.out (by rw [List.length_set, hfl]) (by rw [HAR.out]; have := arN_new os k (obAt os k).gen; have := HT.out.1; omega)
          rw [HAR.out] at CL
          have HBW : Hid (Below w.heap.size w (w13 w2 g (k * 13) (newO (obAt os k).gen) (.slice none 0 0) (.slice none 0 0) (.slice none 0 0))) := below_w13 (below_more HB1.out HB2.out) hown2.lo _ _ _ _ _
          have HCL := hid_of CL
          obtain ⟨d0, d1, d2, d3, d4, d5, d6, d7, d8, d9, d10, d11, d12⟩ := hown2.cells hkf
          have hf := hown2.free
          have f0 := hf (k * 13)
          have f1 := hf (k * 13 + 1)
          have f2 := hf (k * 13 + 2)
          have f3 := hf (k * 13 + 3)
          have f4 := hf (k * 13 + 4)
          have f5 := hf (k * 13 + 5)
          have f6 := hf (k * 13 + 6)
          have f7 := hf (k * 13 + 7)
          have f8 := hf (k * 13 + 8)
          have f9 := hf (k * 13 + 9)
          have f10 := hf (k * 13 + 10)
          have f11 := hf (k * 13 + 11)
          have f12 := hf (k * 13 + 12)
          clear CL hf hown2 hfl hkf HPUT HAR
          have hlc : os.length ≤ c := by have e := HOWN.out.2.cap; rw [show fs.length = os.length by rw [← HOWN.out.1, arOf_length]] at e; exact e
          go_wp2_with fail
          refine (HCI.out _).mono ?_
          rintro e w3 ⟨rfl, rfl⟩
          go_wp2_with fail
          refine (HCL.out).mono ?_
          rintro e w4 ⟨⟨v, rfl⟩, ⟨fs4, h4, o4⟩, t4⟩
          have H4 : Hid (arOf fs4 = (os.set k (newO (obAt os k).gen)).map (unO k) ∧ OwnA g c fs4 rest w.heap.size w4.heap.size w4 ∧ Below w.heap.size w w4) := ⟨h4, o4.fit, t4.below _ _ (Nat.le_refl _) HBW.out⟩
          clear h4 o4 t4
          go_wp2
          go_returns
          exact ⟨g, c, fs4, rest, by rw [List.length_map, List.length_set]; rfl, H4.out.1, H4.out.2.1, H4.out.2.2⟩
end Go.Proofs.Ytokicnopfmokaaa
namespace Go.Proofs.Ytokicnopfmokaaa
open Go.RowKit
set_option linter.unusedVariables false
set_option maxRecDepth 100000

theorem OwnI.keepIf9 {lo hi : Nat} {w w' : World} {v : Value} {xs : List Int} (h : OwnI lo hi w v xs) (hk : ∀ b x, b ∈ Go.Proofs.Ytokicnopfmokaaa.blk v → w.heap[b]? = some x → w'.heap[b]? = some x) : OwnI lo hi w' v xs := by
  obtain ⟨a, c, rfl, hc, hx⟩ := h
  refine ⟨a, c, rfl, hc, fun h0 => ?_⟩
  obtain ⟨b, rs, rfl, h1, h2, h3, h4⟩ := hx h0
  exact ⟨b, rs, rfl, h1, h2, hk _ _ (by rw [blk_one _ h0]; simp) h3, h4⟩
theorem OwnM.keepIf9 {lo hi : Nat} {w w' : World} {v : Value} {ms : List Ms} (h : OwnM lo hi w v ms) (hk : ∀ b x, b ∈ Go.Proofs.Ytokicnopfmokaaa.blk v → w.heap[b]? = some x → w'.heap[b]? = some x) : OwnM lo hi w' v ms := by
  obtain ⟨a, c, rfl, hc, hx⟩ := h
  refine ⟨a, c, rfl, hc, fun h0 => ?_⟩
  obtain ⟨b, rs, rfl, h1, h2, h3, h4⟩ := hx h0
  exact ⟨b, rs, rfl, h1, h2, hk _ _ (by rw [blk_one _ h0]; simp) h3, h4⟩
/-- Things of the call's own in a row that grows. -/
structure RowO (base : Nat) (v : Value) (es : List El) (w : World) : Prop where
  row : w.ownsRow base 28 13 v es.length (ecells es)
  some' : v ≠ .slice none 0 0
  own : ∀ i, i < es.length → OwnO base w.heap.size w (elAt es i).l (elAt es i).d (elAt es i).m (elAt es i).o
  ne : ∀ i, i < es.length → ∀ b, v.ownBlock = some b → b ∉ blks (elAt es i)
  apart : ∀ i j, i < j → j < es.length → ∀ b, b ∈ blks (elAt es i) → b ∉ blks (elAt es j)
theorem RowO.toOwn {base : Nat} {v : Value} {es : List El} {w : World} (h : RowO base v es w) : ∃ g cap rest, v = .slice (some ⟨g, 0, none⟩) es.length cap ∧ OwnA g cap es rest base w.heap.size w := by
  rcases h.row.2 with ⟨h0, _⟩ | ⟨g, cap, cur, rfl, hb, hg, hcap, hm, hs, htake⟩
  · exact absurd h0 h.some'
  · refine ⟨g, cap, cur.toList.drop (es.length * 13), rfl, ?_, hcap, hb, lt_of_block hg, h.own, fun i hi => h.ne i hi g rfl, h.apart⟩
    rw [← htake, List.take_append_drop]
    exact hg
theorem RowO.on {base : Nat} {v : Value} {es : List El} {w w' : World} (h : RowO base v es w) (hb : Below w.heap.size w w') : RowO base v es w' := by
  refine ⟨⟨h.row.1, ?_⟩, h.some', fun i hi => (h.own i hi).on hb (Nat.le_refl _) hb.size, h.ne, h.apart⟩
  rcases h.row.2 with h0 | ⟨g, cap, cur, e, hb', hg, hrest⟩
  · exact .inl h0
  · exact .inr ⟨g, cap, cur, e, hb', keep hg hb, hrest⟩
theorem rowO_empty (w : World) : RowO w.heap.size (.slice (some ⟨w.heap.size, 0, none⟩) 0 0) [] (w.alloc (.cells #[] 28 (0, 0))) :=
  ⟨owns0O w, by simp, fun i hi => absurd hi (by simp), fun i hi => absurd hi (by simp), fun i j _ hj => absurd hj (by simp)⟩
/-- One more is appended: it lies in a new block of its own, and so do its lists. -/
theorem wpList_appO {ops : Array Oper} {rest : List Oper} {o : Oper} {a : Act} {Q : Exit → Act → World → Prop} (hgd : o.guard = none) (s x : Operand)
    (ho : o.op = .call { callee := .builtin .append, args := #[s, x], argTypes := #[24, 24] }) (w0 w1 : World) (base m : Nat) (v : Value) (es : List El) (ob : Ob) (l d mm : Value)
    (hs : a.eval s = v) (hx : a.eval x = .slice (some ⟨w1.heap.size, 0, none⟩) 1 1) (hR : RowO base v es w1) (hbm : base ≤ m) (hf : OwnO m w1.heap.size w1 l d mm ob) (hfr : ∀ i, i < es.length → ∀ b, b ∈ blks (elAt es i) → b < m) (hvm : ∀ k, v.ownBlock = some k → k < m)
    (hn : es.length ≤ 1048576) (hbase : base ≤ w1.heap.size) (hnx : Below base w0 w1)
    (h : ∀ v' w', Hid (RowO base v' (es ++ [⟨ob, l, d, mm⟩]) w') → Hid (Below base w0 w') → wpList Try.prog ops Q rest (a.put o.dst v') w') : wpList Try.prog ops Q (o :: rest) a (w1.alloc (boxO ob l d mm)) := by
  obtain ⟨i0, hi, hz0, hz1, hz2⟩ := info_parts infoObj
  have hR' := hR.on (below_alloc w1 (boxO ob l d mm))
  have hone : ∀ u ∈ elV ⟨ob, l, d, mm⟩, u.oneCell' = true := fun u hu => by
    obtain ⟨a1, b1, e1, _⟩ := hf.ls
    obtain ⟨a2, b2, e2, _⟩ := hf.ds
    obtain ⟨a3, b3, e3, _⟩ := hf.qs
    unfold elV at hu
    rw [e1, e2, e3] at hu
    simp only [List.mem_cons, List.not_mem_nil, or_false] at hu
    rcases hu with rfl | rfl | rfl | rfl | rfl | rfl | rfl | rfl | rfl | rfl | rfl | rfl | rfl <;> rfl
  have hnews : ∀ (j : Nat) u, (elV ⟨ob, l, d, mm⟩)[j]? = some u → (w1.alloc (boxO ob l d mm)).cell? ((⟨w1.heap.size, 0, none⟩ : Addr).add j) = some u := fun j u hj => by
    rw [add_head]
    simp only [World.cell?, heap_alloc_new w1 (boxO ob l d mm)]
    refine (if_neg (by simp)).trans ?_
    rw [← Array.getElem?_toList]
    exact hj
  refine wpList_append_own_at _ hgd s x 24 ho base 28 i0 _ 13 152 Try.underlying24 hi hz0 hz1 hz2 rfl (by decide) v es.length (ecells es) hs hR'.row ⟨w1.heap.size, 0, none⟩ 1 1 (elV ⟨ob, l, d, mm⟩) hx rfl hnews hone (by simp only [maxLen]; omega) (by omega) (by simp; omega) ?_
  intro v' w' h1 h2 h3 h4
  have hkeep : ∀ {lo hi : Nat} {l d m : Value} {q : Ob}, OwnO lo hi w1 l d m q → (∀ b, v.ownBlock = some b → b ∉ blk l ++ blk d ++ blk m) → OwnO lo hi w' l d m q := fun {lo hi l d m q} ho hne =>
    ⟨ho.ls.keepIf9 (fun b x hb hx => grown_kept h2 (keep hx (below_alloc w1 _)) (fun e => hne b e (by simp [hb]))), ho.ds.keepIf9 (fun b x hb hx => grown_kept h2 (keep hx (below_alloc w1 _)) (fun e => hne b e (by simp [hb]))), ho.qs.keepIf9 (fun b x hb hx => grown_kept h2 (keep hx (below_alloc w1 _)) (fun e => hne b e (by simp [hb]))), ho.nd⟩
  have hsz : w1.heap.size ≤ w'.heap.size := by have e := h2.size; simp at e; omega
  have hvf : ∀ b, v.ownBlock = some b → b ∉ blk l ++ blk d ++ blk mm := fun b hb hm => by have e1 := hvm b hb; have e2 := (hf.blk hm).1; omega
  refine h v' w' ⟨by rw [ecells_append, List.length_append]; exact (by simpa [ecells] using h1), fun e => ?_, fun i hi' => ?_, fun i hi' => ?_, fun i j hij hj => ?_⟩ ?_
  · exact hR.some' ((h3.1 e).1)
  · rw [List.length_append, List.length_singleton] at hi'
    by_cases hlt : i < es.length
    · rw [elAt_push_old hlt]
      exact (hkeep (hR.own i hlt) (hR.ne i hlt)).move (fun _ _ _ _ x => x) (Nat.le_refl _) hsz
    · obtain rfl : i = es.length := by omega
      rw [elAt_push_new]
      exact (hkeep hf hvf).move (fun _ _ _ _ x => x) hbm hsz
  · rw [List.length_append, List.length_singleton] at hi'
    intro b hb
    by_cases hlt : i < es.length
    · rw [elAt_push_old hlt]
      rcases h4 with e | e
      · rw [e] at hb; exact hR.ne i hlt b hb
      · rw [e] at hb
        intro hm
        have e1 := ((hR.own i hlt).blk hm).2.2
        simp at hb
        omega
    · obtain rfl : i = es.length := by omega
      rw [elAt_push_new]
      rcases h4 with e | e
      · rw [e] at hb; exact hvf b hb
      · rw [e] at hb
        intro hm
        have e1 := (hf.blk hm).2.2
        simp at hb
        omega
  · rw [List.length_append, List.length_singleton] at hj
    by_cases hlt : j < es.length
    · rw [elAt_push_old hlt, elAt_push_old (by omega)]; exact hR.apart i j hij hlt
    · obtain rfl : j = es.length := by omega
      rw [elAt_push_new, elAt_push_old hij]
      intro b h5 h6
      have e1 := hfr i hij b h5
      have e2 := (hf.blk h6).1
      omega
  · exact ((hnx.trans ((below_alloc w1 _).mono hbase)).grown h2 (by simp; omega) (fun k hk => (hR'.row.lt k hk).1))
set_option maxHeartbeats 8000000 in
theorem specCopyA_any (v : Value) (os : List Ob) (w : World) (hx : IsArena w v os) (hn : os.length ≤ 1048576) (ht : ∀ i, obN (obAt os i) ≤ 1048576) :
    Calls Try.prog 64 #[v] w fun e w' => ArenaOwn os w e w' := by
  have HX : Hid (∀ wr, Below w.heap.size w wr → IsArena wr v os) := fun wr hb => hx.on hb
  have HT : Hid (∀ i, obN (obAt os i) ≤ 1048576) := ht
  have H0 : Hid (RowO w.heap.size (.slice (some ⟨w.heap.size, 0, none⟩) 0 0) [] (w.alloc (.cells #[] 28 (0, 0)))) := rowO_empty w
  have HB0 : Hid (Below w.heap.size w (w.alloc (.cells #[] 28 (0, 0)))) := below_alloc w _
  obtain ⟨a, cap, rfl, hcap, _⟩ := hx
  clear ht
  go_enter Try.func64, Try.ntmps64
  go_wp2
  obtain ⟨V, hV⟩ : ∃ V, V = (w.alloc (.cells #[] 28 (0, 0))) := ⟨_, rfl⟩
  rw [← hV] at H0 HB0 ⊢
  obtain ⟨v0, hv0⟩ : ∃ v, v = Value.slice (some ⟨w.heap.size, 0, none⟩) 0 0 := ⟨_, rfl⟩
  rw [← hv0] at H0
  clear hV
  go_loopw [3, 4] (fun s i wr => ∃ (k : Nat) (v : Value), k ≤ os.length ∧ i = .int .i64 k ∧ v = s ∧ Hid (∃ fs, arOf fs = os.take k ∧ RowO w.heap.size v fs wr) ∧ Below w.heap.size w wr) (fun _ i _ => os.length - (intOf i).toNat)
  case atStart => exact ⟨0, _, Nat.zero_le _, rfl, rfl, ⟨[], rfl, by rw [← hv0]; exact H0.out⟩, HB0.out⟩
  case round =>
    obtain ⟨k, v, hk, rfl, rfl, hrow, hnx⟩ := hrel
    clear H0 HB0 hv0
    by_cases hlt : k < os.length
    · obtain ⟨p, q, l, d, m, rfl, hq, hc, hu⟩ := (HX.out wr hnx).at hlt
      have C := specObj_any (obAt os k) l d m wr hu (HT.out k)
      have HK : Hid (arOf (hrow.out.choose) = os.take k ∧ RowO w.heap.size v hrow.out.choose wr) := hrow.out.choose_spec
      generalize hrow.out.choose = fs at HK
      have hfl : fs.length = k := by have := congrArg List.length HK.out.1; rw [arOf_length, List.length_take] at this; omega
      have HT1 : Hid (os.take (k + 1) = os.take k ++ [obAt os k]) := take_ob hlt
      obtain ⟨c0, c1, c2, c3, c4, c5, c6, c7, c8, c9, c10, c11, c12⟩ := hc
      generalize obAt os k = ob at C HT1 c0 c1 c2 c3 c4 c5 c6 c7 c8 c9
      clear hrow hu
      go_wp2_with fail
      refine C.mono ?_
      rintro e w1 ⟨⟨l', d', m', rfl, ho⟩, hb⟩
      have HB1 := hid_of (hnx.trans (hb.mono hnx.size))
      have HR1 := hid_of (HK.out.2.on hb)
      have HF1 := hid_of ho
      have HFR : Hid (∀ i, i < fs.length → ∀ b, b ∈ blks (elAt fs i) → b < wr.heap.size) := fun i hi b hb => ((HK.out.2.own i hi).blk hb).2.2
      have HVM : Hid (∀ m, v.ownBlock = some m → m < wr.heap.size) := fun m hm => (HK.out.2.row.lt m hm).2
      have HWS : Hid (w.heap.size ≤ wr.heap.size ∧ wr.heap.size ≤ w1.heap.size) := ⟨hnx.size, hb.size⟩
      have HTK : Hid (arOf fs = os.take k) := HK.out.1
      have hf6 : fs.length ≤ 1048576 := by omega
      obtain ⟨x1, y1, rfl, _⟩ := id ho.ls
      obtain ⟨x2, y2, rfl, _⟩ := id ho.ds
      obtain ⟨x3, y3, rfl, _⟩ := id ho.qs
      clear C ho hb hnx hq HK c0 c1 c2 c3 c4 c5 c6 c7 c8 c9 c10 c11 c12
      go_wp2_with (at_builtin; refine wpList_appO rfl (.tmp 12) (.tmp 18) rfl w w1 w.heap.size wr.heap.size v fs ob _ _ _ rfl rfl HR1.out HWS.out.1 HF1.out HFR.out HVM.out hf6 (Nat.le_trans HWS.out.1 HWS.out.2) HB1.out ?_; intro v' w' hrw hbw)
      go_roundw
      case rel => exact ⟨k + 1, _, by omega, by go_num, rfl, ⟨_, by rw [arOf_push, HTK.out, HT1.out], hrw.out⟩, hbw.out⟩
      case measure => simp [intOf]; omega
    · obtain rfl : k = os.length := by omega
      obtain ⟨fs, h1, h2⟩ := hrow.out
      rw [List.take_length] at h1
      obtain ⟨g, cp, rest, rfl, ho⟩ := h2.toOwn
      have HE : Hid (arOf fs = os ∧ OwnA g cp fs rest w.heap.size wr.heap.size wr) := ⟨h1, ho⟩
      have hfl : fs.length = os.length := by rw [← h1, arOf_length]
      rw [hfl]
      clear hrow h1 h2 ho hfl
      go_wp2
      go_ret
      exact ⟨g, cp, fs, rest, rfl, HE.out.1, HE.out.2, hnx⟩
end Go.Proofs.Ytokicnopfmokaaa
namespace Go.Proofs.Ytokicnopfmokaaa
open Go.RowKit
set_option linter.unusedVariables false
set_option maxRecDepth 100000

def fills (x : Ob) : Bool := (x.kind == 0) && decide (x.gen < 999)
def firstFill (os : List Ob) : Int := match os.findIdx? fills with | some k => k | none => -1
theorem firstFill_at {os : List Ob} {k : Nat} (h : k < os.length) (hk : fills (obAt os k) = true) (ha : ∀ e, e ∈ os.take k → fills e = false) : firstFill os = k := by
  have e : os.findIdx? fills = some k := by
    rw [List.findIdx?_eq_some_iff_getElem]
    refine ⟨h, by rw [← obAt_in h]; exact hk, fun j hj => ?_⟩
    rw [ha _ (by rw [List.mem_take_iff_getElem]; exact ⟨j, by omega, rfl⟩)]
    simp
  unfold firstFill
  rw [e]
theorem firstFill_no {os : List Ob} (ha : ∀ e, e ∈ os → fills e = false) : firstFill os = -1 := by
  have e : os.findIdx? fills = none := by
    rw [List.findIdx?_eq_none_iff]
    exact ha
  unfold firstFill
  rw [e]
theorem firstFill_le (os : List Ob) : -1 ≤ firstFill os ∧ firstFill os < os.length ∨ firstFill os = -1 := by
  unfold firstFill
  cases e : os.findIdx? fills with
  | none => right; rfl
  | some k =>
    left
    rw [List.findIdx?_eq_some_iff_getElem] at e
    obtain ⟨h, _⟩ := e
    simp only
    omega
theorem mayBeFilled_any (x : Ob) (l d m : Value) (w : World) :
    Calls Try.prog 22 #[obV x l d m] w fun e w' => e = .returned (.bool (fills x)) ∧ Below w.heap.size w w' := by
  by_cases hk : x.kind = 0
  · have e : fills x = decide (x.gen < 999) := by unfold fills; rw [hk]; simp
    have qk : (x.kind == 0) = true := beq_iff_eq.2 hk
    rw [e]
    clear e hk
    go_enter Try.func22, Try.ntmps22
    go_wp2
    go_ret
    exact ⟨rfl, by go_grown⟩
  · have e : fills x = false := by unfold fills; rw [beq_eq_false_iff_ne.2 hk]; simp
    have qk : (x.kind == 0) = false := beq_eq_false_iff_ne.2 hk
    rw [e]
    clear e hk
    go_enter Try.func22, Try.ntmps22
    go_wp2
    go_ret
    exact ⟨rfl, by go_grown⟩
set_option maxHeartbeats 2000000 in
theorem indexFill_any (v : Value) (xs : List Ob) (w : World) (hx : IsArena w v xs) (hn : xs.length ≤ 1048576) :
    Calls Try.prog 21 #[v, .func (.func 22) #[] #[]] w fun e w' => e = .returned (.int .i64 (firstFill xs)) ∧ Below w.heap.size w w' := by
  have HX : Hid (∀ wr, Below w.heap.size w wr → IsArena wr v xs) := fun wr hb => hx.on hb
  obtain ⟨a, cap, rfl, hcap, _⟩ := hx
  go_enter Try.func21, Try.ntmps21
  go_wp2
  go_loopw [8] (fun i wr => ∃ k : Nat, k ≤ xs.length ∧ i = .int .i64 k ∧ Hid (∀ e, e ∈ xs.take k → fills e = false) ∧ Below w.heap.size w wr) (fun i _ => xs.length - (intOf i).toNat)
  case atStart => exact ⟨0, Nat.zero_le _, rfl, fun e he => absurd he (by simp), Below.refl _ _⟩
  case round =>
    obtain ⟨k, hk, rfl, hall, hnx⟩ := hrel
    by_cases hlt : k < xs.length
    · obtain ⟨p, q, l, d, m, rfl, hq, ⟨c0, c1, c2, c3, c4, c5, c6, c7, c8, c9, c10, c11, c12⟩, hu⟩ := (HX.out wr hnx).at hlt
      have C := mayBeFilled_any (obAt xs k) l d m wr
      cases hok : fills (obAt xs k) with
      | false =>
        rw [hok] at C
        have HA : Hid (∀ e, e ∈ xs.take (k + 1) → fills e = false) := fun e he => by
          rw [take_oneO hlt, List.mem_append] at he
          rcases he with h | h
          · exact hall.out e h
          · rw [List.mem_singleton] at h; rw [h]; exact hok
        clear hok hall
        generalize obAt xs k = x at *
        go_wp2_with fail
        refine C.mono ?_
        rintro e w1 ⟨rfl, hb⟩
        have HN := hid_of (below_more hnx hb)
        clear C hb hnx c0 c1 c2 c3 c4 c5 c6 c7 c8 c9 c10 c11 c12 hq hu
        go_wp2
        go_roundw
        case rel => exact ⟨k + 1, by omega, by go_num, HA, HN.out⟩
        case measure => simp [intOf]; omega
      | true =>
        rw [hok] at C
        have HE2 : Hid (firstFill xs = k) := firstFill_at hlt hok hall.out
        clear hok hall
        generalize obAt xs k = x at *
        go_wp2_with fail
        refine C.mono ?_
        rintro e w1 ⟨rfl, hb⟩
        have HN := hid_of (below_more hnx hb)
        clear C hb hnx c0 c1 c2 c3 c4 c5 c6 c7 c8 c9 c10 c11 c12 hq hu
        go_wp2
        go_ret
        exact ⟨by rw [HE2.out]; rfl, HN.out⟩
    · obtain rfl : k = xs.length := by omega
      have HE2 : Hid (firstFill xs = -1) := firstFill_no fun e he => hall.out e (by rw [List.take_length]; exact he)
      clear hall
      go_wp2
      go_ret
      exact ⟨by rw [HE2.out]; rfl, hnx⟩
end Go.Proofs.Ytokicnopfmokaaa
namespace Go.Proofs.Ytokicnopfmokaaa
open Go.RowKit
set_option linter.unusedVariables false
set_option maxRecDepth 100000

/-- What is nothing leads nowhere, what is a thing has two links. -/
def Tidy (os : List Ob) : Prop := ∀ k, k < os.length → ((obAt os k).kind = 0 → (obAt os k).into = 0 ∧ (obAt os k).ls = []) ∧ ((obAt os k).kind ≠ 0 → (obAt os k).ls.length = 2)
theorem obOk_two {o : Ob} (h : obOk o = true) (hz : o.kind ≠ 0) : o.ls.length = 2 := by
  have hc : commonB o = true → o.ls.length = 2 := fun h => by
    unfold commonB at h
    simp only [Bool.and_eq_true, decide_eq_true_eq] at h
    exact h.2.2.2.2.1
  unfold obOk at h
  simp only [Bool.and_eq_true] at h
  obtain ⟨_, h⟩ := h
  rw [if_neg hz] at h
  split at h
  · exact hc (by unfold boxB at h; simp only [Bool.and_eq_true] at h; exact h.1)
  · split at h
    · exact hc (by unfold segB at h; simp only [Bool.and_eq_true] at h; exact h.1)
    · split at h
      · exact hc (by unfold gateB at h; simp only [Bool.and_eq_true] at h; exact h.1)
      · split at h
        · exact hc (by unfold thrB at h; simp only [Bool.and_eq_true] at h; exact h.1)
        · cases h
theorem tidy_of {os : List Ob} (h : arenaOk os = true) : Tidy os := fun k hk => by
  have hall : os.all obOk = true := by unfold arenaOk at h; simp only [Bool.and_eq_true] at h; exact h.2.1
  have e := obOk_at hall hk
  exact ⟨fun hz => zero_into e hz, fun hz => obOk_two e hz⟩
theorem tidy_set {os : List Ob} (h : Tidy os) (j : Nat) (x : Int) : Tidy (os.set j (newO x)) := fun k hk => by
  rw [List.length_set] at hk
  by_cases e : j = k
  · subst e
    have : obAt (os.set j (newO x)) j = newO x := by simp [obAt, hk]
    rw [this]
    exact ⟨fun _ => ⟨rfl, rfl⟩, fun hz => absurd rfl hz⟩
  · have : obAt (os.set j (newO x)) k = obAt os k := by unfold obAt List.getD; rw [List.getElem?_set_ne e]
    rw [this]
    exact h k hk
theorem unO_none {z : Int} {o : Ob} (hz : z ≠ 0) (h : o.into = 0 ∧ o.ls = []) : unO z o = o := by
  obtain ⟨gen, kind, into, res, unt, pages, wait, got, ran, mark, ls, ds, qs⟩ := o
  obtain ⟨h1, h2⟩ := h
  simp only at h1 h2
  subst h1 h2
  unfold unO unN
  simp [show ¬ (0 : Int) = z from fun e => hz e.symm]
set_option maxRecDepth 100000 in
set_option maxHeartbeats 8000000 in
theorem specFree_go (p : Addr) (cap0 : Nat) (os0 : List Ob) (k0 : Nat) (w : World) (hx : IsArena w (.slice (some p) 10 cap0) os0) (hok : arenaOk os0 = true) (hs : Small8 os0) (hf : AllFit os0) (h0 : 0 < k0) (h9 : k0 < 10) (hkk : (obAt os0 k0).kind ≠ 0) :
    Calls Try.prog 53 #[.slice (some p) 10 cap0, .int .i64 k0] w fun e w' => FreeAns ((os0.set k0 (newO (obAt os0 k0).gen)).map (unO k0)) true w e w' := by
  have hlen : os0.length = 10 := by unfold arenaOk at hok; simp only [Bool.and_eq_true, decide_eq_true_eq] at hok; exact hok.1
  have HC : Hid (∀ w', Below w.heap.size w w' → Calls Try.prog 64 #[.slice (some p) 10 cap0] w' fun e w'' => ∃ g c fs rest, e = .returned (.slice (some ⟨g, 0, none⟩) 10 c) ∧ arOf fs = os0 ∧ OwnA g c fs rest w'.heap.size w''.heap.size w'' ∧ Below w'.heap.size w' w'') := fun w' hb => by
    have e := specCopyA_any _ os0 w' (hx.on hb) (by omega) hs
    unfold ArenaOwn at e
    rw [hlen] at e
    exact e
  have HA : Hid (∀ w', Below w.heap.size w w' → Calls Try.prog 8 #[.slice (some p) 10 cap0] w' fun e w'' => e = .returned (.bool true) ∧ Below w'.heap.size w' w'') := fun w' hb => by
    have e := specArenaOk_any _ os0 w' (hx.on hb) (by omega) hs hf
    rw [hok] at e
    exact e
  have CI := fun w => l1In_b (k0 : Int) 1 9 w
  rw [inB_yes (by omega) (by omega)] at CI
  have HX : Hid (∀ w', Below w.heap.size w w' → IsArena w' (.slice (some p) 10 cap0) os0) := fun w' hb => hx.on hb
  have hcap0 : 10 ≤ cap0 := by obtain ⟨_, _, hv, h, _⟩ := hx; have e := (Value.slice.inj hv).2.2; omega
  have HL0 : Hid (os0.length = 10) := hlen
  obtain ⟨os, hos⟩ : ∃ os, os = os0.set k0 (newO (obAt os0 k0).gen) := ⟨_, rfl⟩
  have HTD : Hid (Tidy os) := by rw [hos]; exact tidy_set (tidy_of hok) _ _
  have HOS : Hid (os = os0.set k0 (newO (obAt os0 k0).gen)) := hos
  have HOL : Hid (os.length = 10) := by show _ = _; rw [hos, List.length_set]; exact hlen
  have HKK : Hid ((obAt os0 k0).kind ≠ 0) := hkk
  rw [← hos]
  clear hok hs hf hx hlen hos hkk
  go_enter Try.func53, Try.ntmps53
  go_wp2_with fail
  refine (HC.out _ (Below.refl _ _)).mono ?_
  rintro e w1 ⟨g, cap, fs, rest, rfl, hfs, hown1, hb⟩
  have HB1 := hid_of hb
  have HA1 := hid_of (show arOf fs = os0 ∧ OwnA g cap fs rest w.heap.size w1.heap.size w1 from ⟨hfs, hown1⟩)
  clear hb hfs hown1 HC
  go_wp2_with fail
  refine (HA.out _ HB1.out).mono ?_
  rintro e w2 ⟨rfl, hb⟩
  have HB2 := hid_of (below_more HB1.out hb)
  have HA2 := hid_of (show arOf fs = os0 ∧ OwnA g cap fs rest w.heap.size w2.heap.size w2 from ⟨HA1.out.1, (HA1.out.2.on hb).wide (Nat.le_refl _) hb.size⟩)
  obtain ⟨p', q, l, d, m, hp, hq, ⟨c0, c1, -, -, -, -, -, -, -, -, -, -, -⟩, -⟩ := (HX.out w2 HB2.out).at (i := k0) (by rw [HL0.out]; exact h9)
  obtain rfl : p = p' := by simpa using hp
  have hfl : fs.length = 10 := by rw [← HL0.out, ← HA2.out.1, arOf_length]
  have hkf : k0 < fs.length := by omega
  have HPUT : Hid _ := hid_of (HA2.out.2.put (e := ⟨newO (obAt os0 k0).gen, .slice none 0 0, .slice none 0 0, .slice none 0 0⟩) (ownO_new w2.heap.size w2.heap.size w2 _) (Nat.le_refl _) hkf)
  have HAR : Hid (arOf (fs.set k0 ⟨newO (obAt os0 k0).gen, .slice none 0 0, .slice none 0 0, .slice none 0 0⟩) = os) := by show arOf _ = _; rw [arOf_set, HA2.out.1, HOS.out]
  have HBW : Hid (Below w.heap.size w (w13 w2 g (k0 * 13) (newO (obAt os0 k0).gen) (.slice none 0 0) (.slice none 0 0) (.slice none 0 0))) := below_w13 HB2.out HA2.out.2.lo _ _ _ _ _
  obtain ⟨d0, d1, d2, d3, d4, d5, d6, d7, d8, d9, d10, d11, d12⟩ := HA2.out.2.cells hkf
  have hff := HA2.out.2.free
  have f0 := hff (k0 * 13)
  have f1 := hff (k0 * 13 + 1)
  have f2 := hff (k0 * 13 + 2)
  have f3 := hff (k0 * 13 + 3)
  have f4 := hff (k0 * 13 + 4)
  have f5 := hff (k0 * 13 + 5)
  have f6 := hff (k0 * 13 + 6)
  have f7 := hff (k0 * 13 + 7)
  have f8 := hff (k0 * 13 + 8)
  have f9 := hff (k0 * 13 + 9)
  have f10 := hff (k0 * 13 + 10)
  have f11 := hff (k0 * 13 + 11)
  have f12 := hff (k0 * 13 + 12)
  have hkz : ((obAt os0 k0).kind == 0) = false := beq_eq_false_iff_ne.2 HKK.out
  have hlc : 10 ≤ cap := by have e := HA2.out.2.cap; omega
  obtain ⟨lo, hlo⟩ : ∃ lo, lo = w.heap.size := ⟨_, rfl⟩
  obtain ⟨hi, hhi⟩ : ∃ hi, hi = w2.heap.size := ⟨_, rfl⟩
  obtain ⟨fs1, hfs1⟩ : ∃ fs1, fs1 = fs.set k0 ⟨newO (obAt os0 k0).gen, .slice none 0 0, .slice none 0 0, .slice none 0 0⟩ := ⟨_, rfl⟩
  have HP : Hid (OwnA g cap fs1 rest lo hi (w13 w2 g (k0 * 13) (newO (obAt os0 k0).gen) (.slice none 0 0) (.slice none 0 0) (.slice none 0 0))) := by rw [hlo, hhi, hfs1]; exact HPUT.out
  rw [← hfs1] at HAR
  obtain ⟨Ws, hWs⟩ : ∃ Ws, Ws = w13 w2 g (k0 * 13) (newO (obAt os0 k0).gen) (.slice none 0 0) (.slice none 0 0) (.slice none 0 0) := ⟨_, rfl⟩
  have HWS := hid_of hWs
  have HBS : Hid (Below lo w Ws) := by rw [hWs, hlo]; exact HBW.out
  have HLO := hid_of hlo
  clear hp hb HB1 HA1 hff hfl hkf hlo hhi hfs1 hWs HPUT HBW
  have hz1 : (1 : Int) ≤ (k0 : Int) := by omega
  have hz9 : (k0 : Int) < 10 := by omega
  go_wp2_with fail
  refine (CI _).mono ?_
  rintro e w3 ⟨rfl, rfl⟩
  clear CI
  go_wp2
  go_loopw [7] (fun s7 wr => ∃ (k : Nat), k ≤ 10 ∧ s7 = .int .i64 k ∧ Hid (∃ fs', arOf fs' = unA (k0 : Int) os k ∧ OwnA g cap fs' rest lo hi wr ∧ Turned8 lo hi Ws wr)) (fun s7 _ => 10 - (intOf s7).toNat)
  case atStart => exact ⟨0, Nat.zero_le _, rfl, fs1, by rw [unA_start]; exact HAR.out, HP.out, by rw [HWS.out]; exact Turned8.refl _ _ _⟩
  case round =>
    obtain ⟨k, hk, rfl, hs⟩ := hrel
    clear HP HAR HWS d0 d1 d2 d3 d4 d5 d6 d7 d8 d9 d10 d11 d12 f0 f1 f2 f3 f4 f5 f6 f7 f8 f9 f10 f11 f12 c0 c1 hq
    by_cases hlt : k < 10
    · obtain ⟨W0, hW0⟩ : ∃ W0, W0 = wr := ⟨_, rfl⟩
      subst hW0
      have HF : Hid (arOf hs.out.choose = unA (k0 : Int) os k ∧ OwnA g cap hs.out.choose rest lo hi W0 ∧ Turned8 lo hi Ws W0) := hs.out.choose_spec
      generalize hs.out.choose = fs' at HF
      clear hs
      have hko : k < os.length := by rw [HOL.out]; exact hlt
      have hfl : fs'.length = 10 := by have e := congrArg List.length HF.out.1; rw [arOf_length, unA_length, HOL.out] at e; exact e
      have hkf : k < fs'.length := by omega
      have hob : (elAt fs' k).o = obAt os k := by rw [← arOf_at, HF.out.1, unA_at (k0 : Int) hko]
      have hown := HF.out.2.1
      have hoo := hown.own k hkf
      have hc := hown.cells hkf
      have hne := hown.ne k hkf
      have hgz : g < W0.heap.size := lt_of_block hown.at'
      have hfr2 := hown.free (k * 13 + 2)
      have HB1 := hid_of hown
      have HO1 := hid_of hoo
      have HNE := hid_of hne
      have hd : decide ((k : Int) < 10) = true := decide_eq_true (by omega)
      by_cases hkz : (elAt fs' k).o.kind = 0
      · have HS : Hid (∃ fs', arOf fs' = unA (k0 : Int) os (k + 1) ∧ OwnA g cap fs' rest lo hi W0 ∧ Turned8 lo hi Ws W0) := ⟨fs', by
          have e1 : fs'.set k (elAt fs' k) = fs' := by rw [elAt_in hkf]; exact List.set_getElem_self hkf
          rw [← unA_set (k0 : Int) hko, unO_none (by omega) ((HTD.out k hko).1 (by rw [← hob]; exact hkz)), ← HF.out.1, ← hob, ← arOf_set, e1], HF.out.2⟩
        have c1 := hc.c1
        rw [hkz] at c1
        clear hown hoo hc hne HF HB1 HO1 HNE hob hkz hfr2 hgz hkf hfl hko
        go_wp2
        go_roundw
        case rel => exact ⟨k + 1, by omega, by go_num, HS⟩
        case measure => simp [intOf]; omega
      · by_cases hz : (elAt fs' k).o.into = (k0 : Int)
        · have HGW : Hid ((W0.setCell ⟨g, k * 13 + 2, none⟩ (.int .i64 (-1))).heap[g]? = some (.cells (ecells (fs'.set k ⟨unO (k0 : Int) (elAt fs' k).o, (elAt fs' k).l, (elAt fs' k).d, (elAt fs' k).m⟩) ++ rest).toArray 28 (0, 0))) := by
            have e := heap_setCell_same W0 g (k * 13 + 2) _ 28 (.int .i64 (-1)) hown.at'
            rw [e, ecells_put1 hkf rest ⟨unO (k0 : Int) (elAt fs' k).o, (elAt fs' k).l, (elAt fs' k).d, (elAt fs' k).m⟩ 2 (.int .i64 (-1)) (by decide) (by simp [elV, unO, unN, hz])]
            simp only [List.setIfInBounds_toArray]
            exact trivial
          have HTW : Hid (Touch [g] W0 (W0.setCell ⟨g, k * 13 + 2, none⟩ (.int .i64 (-1)))) := touch_one (grownBy_set W0 g _ _) hgz
          have HNE2 : Hid (g ∉ Go.Proofs.Ytokicnopfmokaaa.blk (elAt fs' k).l ∧ g ∉ Go.Proofs.Ytokicnopfmokaaa.blk (elAt fs' k).d ∧ g ∉ Go.Proofs.Ytokicnopfmokaaa.blk (elAt fs' k).m) := by
            have e := hne
            unfold blks at e
            simp only [List.mem_append, not_or] at e
            exact ⟨e.1.1, e.1.2, e.2⟩
          have hap := apart_ld hoo
          have HLW0 : OwnI lo hi (W0.setCell ⟨g, k * 13 + 2, none⟩ (.int .i64 (-1))) (elAt fs' k).l (elAt fs' k).o.ls := hoo.ls.keepIf fun b x hb hx => HTW.out.block _ _ (by simp; intro e; rw [e] at hb; exact HNE2.out.1 hb) hx
          have HDW0 : OwnI lo hi (W0.setCell ⟨g, k * 13 + 2, none⟩ (.int .i64 (-1))) (elAt fs' k).d (elAt fs' k).o.ds := hoo.ds.keepIf fun b x hb hx => HTW.out.block _ _ (by simp; intro e; rw [e] at hb; exact HNE2.out.2.1 hb) hx
          have HMW0 : OwnM lo hi (W0.setCell ⟨g, k * 13 + 2, none⟩ (.int .i64 (-1))) (elAt fs' k).m (elAt fs' k).o.qs := hoo.qs.keepIf fun b x hb hx => HTW.out.block _ _ (by simp; intro e; rw [e] at hb; exact HNE2.out.2.2 hb) hx
          have HE0 : ∀ w3, OwnI lo hi w3 (elAt fs' k).l ((elAt fs' k).o.ls.map (unN (k0 : Int))) → Touch (Go.Proofs.Ytokicnopfmokaaa.blk (elAt fs' k).l) (W0.setCell ⟨g, k * 13 + 2, none⟩ (.int .i64 (-1))) w3 → ∃ fs', arOf fs' = unA (k0 : Int) os (k + 1) ∧ OwnA g cap fs' rest lo hi w3 ∧ Turned8 lo hi Ws w3 := fun w3 e1 e2 => by
            refine ⟨_, ?_, hown.mark hkf (o' := unO (k0 : Int) (elAt fs' k).o) (e2.block _ _ HNE2.out.1 HGW.out) ⟨e1, HDW0.keepIf fun b x hb hx => e2.block _ _ (hap.1 b hb) hx, HMW0.keepIf fun b x hb hx => e2.block _ _ (hap.2 b hb).1 hx, hoo.nd⟩ (fun b x hbg hbm hx => ?_), (HF.out.2.2.touch HTW.out fun b hb => by simp at hb; rw [hb]; exact ⟨hown.lo, hown.hi⟩).touch e2 fun b hb => ⟨(hoo.ls.blk hb).1, (hoo.ls.blk hb).2.1⟩⟩
            · rw [arOf_set, HF.out.1, hob, unA_set (k0 : Int) hko]
            · unfold blks at hbm
              simp only [List.mem_append, not_or] at hbm
              exact e2.block _ _ hbm.1.1 (HTW.out.block _ _ (by simpa using hbg) hx)
          have HE := hid_of HE0
          obtain ⟨a, c, el, hac, _⟩ := id HLW0
          have HLW := hid_of HLW0
          have HGB := hid_of HNE2.out.1
          have c1 := hc.c1
          have c2 := hc.c2
          have hls2 : (elAt fs' k).o.ls.length = 2 := by rw [hob]; exact ((HTD.out k hko).2 (by rw [← hob]; exact hkz))
          rw [hls2] at el hac
          have HNLS : Hid (2 = (elAt fs' k).o.ls.length) := hls2.symm
          clear HE0 HLW0 HDW0 HMW0 hap hne hob hown hoo hc HF hfl hko hls2
          clear HB1 HO1 HNE HNE2 HTW
          generalize elAt fs' k = q at *
          obtain ⟨o, ql, qd, qm⟩ := q
          simp only at el HGW HE HLW HGB c1 c2 HNLS
          subst el
          have kz : (o.kind == 0) = false := beq_eq_false_iff_ne.2 hkz
          clear hkz
          have qz : (o.into == (k0 : Int)) = true := beq_iff_eq.2 hz
          clear hz hgz
          have p10 : (W0.setCell ⟨g, k * 13 + 2, none⟩ (.int .i64 (-1))).cell? ⟨g, k * 13 + 10, none⟩ = some (.slice a 2 c) := (cell10_of HGW.out hkf)
          go_wp2
          clear p10
          try simp only [hd]
          go_loopw [8] (fun i w2 => ∃ n2 : Nat, n2 ≤ 2 ∧ i = .int .i64 n2 ∧ Hid (OwnI lo hi w2 (.slice a 2 c) (unL (k0 : Int) o.ls n2) ∧ Touch (Go.Proofs.Ytokicnopfmokaaa.blk (.slice a 2 c)) (W0.setCell ⟨g, k * 13 + 2, none⟩ (.int .i64 (-1))) w2)) (fun i _ => 2 - (intOf i).toNat)
          case atStart => exact ⟨0, Nat.zero_le _, rfl, by rw [unL_start]; exact HLW.out, touch_any _ _⟩
          case round =>
            obtain ⟨n2, hn2, rfl, hin⟩ := hrel
            by_cases hlt2 : n2 < 2
            · have hl2 : n2 < (unL (k0 : Int) o.ls n2).length := by rw [unL_length _ _ _ (by rw [← HNLS.out]; exact hn2), ← HNLS.out]; exact hlt2
              obtain ⟨b, rs, rfl, hb1, hb2, hrow, hlen2, hcc⟩ := hin.out.1.at hl2
              have cx := hrow.cell n2 hl2
              have fx := hrow.free n2
              rw [unL_at (k0 : Int) (by rw [← HNLS.out]; exact hlt2)] at cx
              have p10 : _ = some (Value.slice (some ⟨b, 0, none⟩) 2 c) := cell10_of (hin.out.2.block _ _ HGB.out HGW.out) hkf
              have hset := hin.out.1.setAt hl2 (-1)
              have HSM : Hid (o.ls.getD n2 0 = (k0 : Int) → (unL (k0 : Int) o.ls n2).set n2 (-1) = unL (k0 : Int) o.ls (n2 + 1)) := fun e => by
                have e1 := unL_set (k0 : Int) (xs := o.ls) (n := n2) (by rw [← HNLS.out]; exact hlt2)
                rw [show unN (k0 : Int) (o.ls.getD n2 0) = -1 from if_pos e] at e1
                exact e1
              have HNM : Hid (o.ls.getD n2 0 ≠ (k0 : Int) → unL (k0 : Int) o.ls n2 = unL (k0 : Int) o.ls (n2 + 1)) := fun e => unL_same (k0 : Int) (by rw [← HNLS.out]; exact hlt2) e
              generalize o.ls.getD n2 0 = x at cx HSM HNM
              have hn2i : (n2 : Int) < 2 := by omega
              clear hlen2
              by_cases hx : x = (k0 : Int)
              · have qx : (x == (k0 : Int)) = true := beq_iff_eq.2 hx
                have HI2 : Hid (OwnI lo hi (wr.setCell ⟨b, n2, none⟩ (.int .i64 (-1))) (.slice (some ⟨b, 0, none⟩) 2 c) (unL (k0 : Int) o.ls (n2 + 1)) ∧ Touch (Go.Proofs.Ytokicnopfmokaaa.blk (.slice (some ⟨b, 0, none⟩) 2 c)) (W0.setCell ⟨g, k * 13 + 2, none⟩ (.int .i64 (-1))) (wr.setCell ⟨b, n2, none⟩ (.int .i64 (-1)))) := ⟨by rw [← HSM.out hx]; exact hset.1, hin.out.2.trans hset.2⟩
                clear hx hset hin hrow HSM HNM hl2
                go_wp2
                go_roundw
                case rel => exact ⟨n2 + 1, by omega, by go_num, HI2⟩
                case measure => simp [intOf]; omega
              · have qx : (x == (k0 : Int)) = false := beq_eq_false_iff_ne.2 hx
                have HI2 : Hid (OwnI lo hi wr (.slice (some ⟨b, 0, none⟩) 2 c) (unL (k0 : Int) o.ls (n2 + 1)) ∧ Touch (Go.Proofs.Ytokicnopfmokaaa.blk (.slice (some ⟨b, 0, none⟩) 2 c)) (W0.setCell ⟨g, k * 13 + 2, none⟩ (.int .i64 (-1))) wr) := ⟨by rw [← HNM.out hx]; exact hin.out.1, hin.out.2⟩
                clear hx hset hin hrow HSM HNM hl2
                go_wp2
                go_roundw
                case rel => exact ⟨n2 + 1, by omega, by go_num, HI2⟩
                case measure => simp [intOf]; omega
            · have hke : n2 = 2 := by omega
              have HS := hid_of (HE.out wr (by have e := hin.out.1; rw [hke, HNLS.out, unL_end] at e; rw [← HNLS.out] at e; exact e) hin.out.2)
              clear hin
              subst hke
              go_wp2
              go_roundw
              case rel => exact ⟨k + 1, by omega, by go_num, HS⟩
              case measure => simp [intOf]; omega
        · have HGW : Hid (W0.heap[g]? = some (.cells (ecells (fs'.set k ⟨unO (k0 : Int) (elAt fs' k).o, (elAt fs' k).l, (elAt fs' k).d, (elAt fs' k).m⟩) ++ rest).toArray 28 (0, 0))) := by
            obtain ⟨A, B, hA, h1, h2⟩ := ecells_block hkf
            rw [hown.at', h1, h2]
            simp only [elV, unO, unN, if_neg hz]
            exact trivial
          have HTW : Hid (Touch [g] W0 W0) := touch_any _ _
          have HNE2 : Hid (g ∉ Go.Proofs.Ytokicnopfmokaaa.blk (elAt fs' k).l ∧ g ∉ Go.Proofs.Ytokicnopfmokaaa.blk (elAt fs' k).d ∧ g ∉ Go.Proofs.Ytokicnopfmokaaa.blk (elAt fs' k).m) := by
            have e := hne
            unfold blks at e
            simp only [List.mem_append, not_or] at e
            exact ⟨e.1.1, e.1.2, e.2⟩
          have hap := apart_ld hoo
          have HLW0 : OwnI lo hi W0 (elAt fs' k).l (elAt fs' k).o.ls := hoo.ls.keepIf fun b x hb hx => HTW.out.block _ _ (by simp; intro e; rw [e] at hb; exact HNE2.out.1 hb) hx
          have HDW0 : OwnI lo hi W0 (elAt fs' k).d (elAt fs' k).o.ds := hoo.ds.keepIf fun b x hb hx => HTW.out.block _ _ (by simp; intro e; rw [e] at hb; exact HNE2.out.2.1 hb) hx
          have HMW0 : OwnM lo hi W0 (elAt fs' k).m (elAt fs' k).o.qs := hoo.qs.keepIf fun b x hb hx => HTW.out.block _ _ (by simp; intro e; rw [e] at hb; exact HNE2.out.2.2 hb) hx
          have HE0 : ∀ w3, OwnI lo hi w3 (elAt fs' k).l ((elAt fs' k).o.ls.map (unN (k0 : Int))) → Touch (Go.Proofs.Ytokicnopfmokaaa.blk (elAt fs' k).l) W0 w3 → ∃ fs', arOf fs' = unA (k0 : Int) os (k + 1) ∧ OwnA g cap fs' rest lo hi w3 ∧ Turned8 lo hi Ws w3 := fun w3 e1 e2 => by
            refine ⟨_, ?_, hown.mark hkf (o' := unO (k0 : Int) (elAt fs' k).o) (e2.block _ _ HNE2.out.1 HGW.out) ⟨e1, HDW0.keepIf fun b x hb hx => e2.block _ _ (hap.1 b hb) hx, HMW0.keepIf fun b x hb hx => e2.block _ _ (hap.2 b hb).1 hx, hoo.nd⟩ (fun b x hbg hbm hx => ?_), (HF.out.2.2.touch HTW.out fun b hb => by simp at hb; rw [hb]; exact ⟨hown.lo, hown.hi⟩).touch e2 fun b hb => ⟨(hoo.ls.blk hb).1, (hoo.ls.blk hb).2.1⟩⟩
            · rw [arOf_set, HF.out.1, hob, unA_set (k0 : Int) hko]
            · unfold blks at hbm
              simp only [List.mem_append, not_or] at hbm
              exact e2.block _ _ hbm.1.1 (HTW.out.block _ _ (by simpa using hbg) hx)
          have HE := hid_of HE0
          obtain ⟨a, c, el, hac, _⟩ := id HLW0
          have HLW := hid_of HLW0
          have HGB := hid_of HNE2.out.1
          have c1 := hc.c1
          have c2 := hc.c2
          have hls2 : (elAt fs' k).o.ls.length = 2 := by rw [hob]; exact ((HTD.out k hko).2 (by rw [← hob]; exact hkz))
          rw [hls2] at el hac
          have HNLS : Hid (2 = (elAt fs' k).o.ls.length) := hls2.symm
          clear HE0 HLW0 HDW0 HMW0 hap hne hob hown hoo hc HF hfl hko hls2
          clear HB1 HO1 HNE HNE2 HTW
          generalize elAt fs' k = q at *
          obtain ⟨o, ql, qd, qm⟩ := q
          simp only at el HGW HE HLW HGB c1 c2 HNLS
          subst el
          have kz : (o.kind == 0) = false := beq_eq_false_iff_ne.2 hkz
          clear hkz
          have qz : (o.into == (k0 : Int)) = false := beq_eq_false_iff_ne.2 hz
          clear hz hgz hfr2
          have p10 : W0.cell? ⟨g, k * 13 + 10, none⟩ = some (.slice a 2 c) := (cell10_of HGW.out hkf)
          go_wp2
          clear p10
          try simp only [hd]
          go_loopw [8] (fun i w2 => ∃ n2 : Nat, n2 ≤ 2 ∧ i = .int .i64 n2 ∧ Hid (OwnI lo hi w2 (.slice a 2 c) (unL (k0 : Int) o.ls n2) ∧ Touch (Go.Proofs.Ytokicnopfmokaaa.blk (.slice a 2 c)) W0 w2)) (fun i _ => 2 - (intOf i).toNat)
          case atStart => exact ⟨0, Nat.zero_le _, rfl, by rw [unL_start]; exact HLW.out, touch_any _ _⟩
          case round =>
            obtain ⟨n2, hn2, rfl, hin⟩ := hrel
            by_cases hlt2 : n2 < 2
            · have hl2 : n2 < (unL (k0 : Int) o.ls n2).length := by rw [unL_length _ _ _ (by rw [← HNLS.out]; exact hn2), ← HNLS.out]; exact hlt2
              obtain ⟨b, rs, rfl, hb1, hb2, hrow, hlen2, hcc⟩ := hin.out.1.at hl2
              have cx := hrow.cell n2 hl2
              have fx := hrow.free n2
              rw [unL_at (k0 : Int) (by rw [← HNLS.out]; exact hlt2)] at cx
              have p10 : _ = some (Value.slice (some ⟨b, 0, none⟩) 2 c) := cell10_of (hin.out.2.block _ _ HGB.out HGW.out) hkf
              have hset := hin.out.1.setAt hl2 (-1)
              have HSM : Hid (o.ls.getD n2 0 = (k0 : Int) → (unL (k0 : Int) o.ls n2).set n2 (-1) = unL (k0 : Int) o.ls (n2 + 1)) := fun e => by
                have e1 := unL_set (k0 : Int) (xs := o.ls) (n := n2) (by rw [← HNLS.out]; exact hlt2)
                rw [show unN (k0 : Int) (o.ls.getD n2 0) = -1 from if_pos e] at e1
                exact e1
              have HNM : Hid (o.ls.getD n2 0 ≠ (k0 : Int) → unL (k0 : Int) o.ls n2 = unL (k0 : Int) o.ls (n2 + 1)) := fun e => unL_same (k0 : Int) (by rw [← HNLS.out]; exact hlt2) e
              generalize o.ls.getD n2 0 = x at cx HSM HNM
              have hn2i : (n2 : Int) < 2 := by omega
              clear hlen2
              by_cases hx : x = (k0 : Int)
              · have qx : (x == (k0 : Int)) = true := beq_iff_eq.2 hx
                have HI2 : Hid (OwnI lo hi (wr.setCell ⟨b, n2, none⟩ (.int .i64 (-1))) (.slice (some ⟨b, 0, none⟩) 2 c) (unL (k0 : Int) o.ls (n2 + 1)) ∧ Touch (Go.Proofs.Ytokicnopfmokaaa.blk (.slice (some ⟨b, 0, none⟩) 2 c)) W0 (wr.setCell ⟨b, n2, none⟩ (.int .i64 (-1)))) := ⟨by rw [← HSM.out hx]; exact hset.1, hin.out.2.trans hset.2⟩
                clear hx hset hin hrow HSM HNM hl2
                go_wp2
                go_roundw
                case rel => exact ⟨n2 + 1, by omega, by go_num, HI2⟩
                case measure => simp [intOf]; omega
              · have qx : (x == (k0 : Int)) = false := beq_eq_false_iff_ne.2 hx
                have HI2 : Hid (OwnI lo hi wr (.slice (some ⟨b, 0, none⟩) 2 c) (unL (k0 : Int) o.ls (n2 + 1)) ∧ Touch (Go.Proofs.Ytokicnopfmokaaa.blk (.slice (some ⟨b, 0, none⟩) 2 c)) W0 wr) := ⟨by rw [← HNM.out hx]; exact hin.out.1, hin.out.2⟩
                clear hx hset hin hrow HSM HNM hl2
                go_wp2
                go_roundw
                case rel => exact ⟨n2 + 1, by omega, by go_num, HI2⟩
                case measure => simp [intOf]; omega
            · have hke : n2 = 2 := by omega
              have HS := hid_of (HE.out wr (by have e := hin.out.1; rw [hke, HNLS.out, unL_end] at e; rw [← HNLS.out] at e; exact e) hin.out.2)
              clear hin
              subst hke
              go_wp2
              go_roundw
              case rel => exact ⟨k + 1, by omega, by go_num, HS⟩
              case measure => simp [intOf]; omega
    · obtain rfl : 10 = k := by omega
      have HE : Hid (∃ fs', arOf fs' = os.map (unO (k0 : Int)) ∧ OwnA g cap fs' rest w.heap.size wr.heap.size wr ∧ Below w.heap.size w wr) := by
        obtain ⟨fs', h1, h2, h3⟩ := hs.out
        rw [← HOL.out, unA_end] at h1
        rw [← HLO.out]
        exact ⟨fs', h1, h2.fit, h3.below _ _ (Nat.le_refl _) HBS.out⟩
      clear hs
      go_wp2
      go_returns
      obtain ⟨fs', h1, h2, h3⟩ := HE.out
      exact ⟨g, cap, fs', rest, by rw [List.length_map, HOL.out]; rfl, h1, h2, h3⟩
theorem inB_one (i : Int) : inB i 1 9 = (inB i 0 9 && !(i == 0)) := by
  by_cases h : i = 0
  · subst h; rfl
  · have e : (i == 0) = false := beq_eq_false_iff_ne.2 h
    rw [e]
    unfold inB
    simp only [Bool.not_false, Bool.and_true]
    congr 1
    exact decide_eq_decide.2 (by omega)
set_option maxRecDepth 100000 in
set_option maxHeartbeats 4000000 in
theorem specFree_any (v : Value) (os : List Ob) (i : Int) (w : World) (hx : IsArena w v os) (hn : os.length ≤ 1048576) (hs : Small8 os) (hf : AllFit os) :
    Calls Try.prog 53 #[v, .int .i64 i] w fun e w' => FreeAns (freeOf os i) (freeB os i) w e w' := by
  have HC : Hid (∀ w', Below w.heap.size w w' → Calls Try.prog 64 #[v] w' fun e w'' => ArenaOwn os w' e w'') := fun w' hb => specCopyA_any _ os w' (hx.on hb) hn hs
  have HA : Hid (∀ w', Below w.heap.size w w' → Calls Try.prog 8 #[v] w' fun e w'' => e = .returned (.bool (arenaOk os)) ∧ Below w'.heap.size w' w'') := fun w' hb => specArenaOk_any _ os w' (hx.on hb) hn hs hf
  have CI := fun w => l1In_b i 1 9 w
  cases hv : arenaOk os with
  | false =>
    have e1 : freeB os i = false := by unfold freeB; rw [hv]; rfl
    have e2 : freeOf os i = os := by unfold freeOf; rw [e1]; rfl
    rw [e1, e2]
    simp only [hv] at HA
    clear hv e1 e2 CI hx
    go_enter Try.func53, Try.ntmps53
    go_wp2_with fail
    refine (HC.out _ (Below.refl _ _)).mono ?_
    rintro e w1 ⟨g, c, fs, rest, rfl, hfs, hown, hb1⟩
    have HOWN : Hid (arOf fs = os ∧ OwnA g c fs rest w.heap.size w1.heap.size w1) := ⟨hfs, hown⟩
    have HB1 : Hid (Below w.heap.size w w1) := hb1
    clear hfs hown hb1
    go_wp2_with fail
    refine (HA.out _ HB1.out).mono ?_
    rintro e w2 ⟨rfl, hb2⟩
    have HB2 : Hid (Below w1.heap.size w1 w2) := hb2
    clear hb2
    go_wp2
    go_returns
    exact ⟨g, c, fs, rest, rfl, HOWN.out.1, (HOWN.out.2.on HB2.out).wide (Nat.le_refl _) HB2.out.size, below_more HB1.out HB2.out⟩
  | true =>
    simp only [hv] at HA
    have hlen : os.length = 10 := by unfold arenaOk at hv; simp only [Bool.and_eq_true, decide_eq_true_eq] at hv; exact hv.1
    cases hi : inB i 1 9 with
    | false =>
      have e1 : freeB os i = false := by
        have e := inB_one i
        rw [hi] at e
        unfold freeB
        rw [hv]
        cases h1 : inB i 0 9 with
        | false => rfl
        | true =>
          rw [h1] at e
          have e3 : (i == 0) = true := by simpa using e.symm
          rw [e3]; rfl
      have e2 : freeOf os i = os := by unfold freeOf; rw [e1]; rfl
      rw [e1, e2]
      simp only [hi] at CI
      clear hv e1 e2 hx hi hlen
      go_enter Try.func53, Try.ntmps53
      go_wp2_with fail
      refine (HC.out _ (Below.refl _ _)).mono ?_
      rintro e w1 ⟨g, c, fs, rest, rfl, hfs, hown, hb1⟩
      have HOWN : Hid (arOf fs = os ∧ OwnA g c fs rest w.heap.size w1.heap.size w1) := ⟨hfs, hown⟩
      have HB1 : Hid (Below w.heap.size w w1) := hb1
      clear hfs hown hb1
      go_wp2_with fail
      refine (HA.out _ HB1.out).mono ?_
      rintro e w2 ⟨rfl, hb2⟩
      have HB2 : Hid (Below w1.heap.size w1 w2) := hb2
      clear hb2
      go_wp2_with fail
      refine (CI _).mono ?_
      rintro e w3 ⟨rfl, rfl⟩
      go_wp2
      go_returns
      exact ⟨g, c, fs, rest, rfl, HOWN.out.1, (HOWN.out.2.on HB2.out).wide (Nat.le_refl _) HB2.out.size, below_more HB1.out HB2.out⟩
    | true =>
      have hib := inB_true hi
      obtain ⟨k, rfl⟩ : ∃ k : Nat, i = k := ⟨i.toNat, by omega⟩
      have qz : ((k : Int) == 0) = false := beq_eq_false_iff_ne.2 (by omega)
      have q9 : inB (k : Int) 0 9 = true := inB_yes (by omega) (by omega)
      by_cases hkz : (obAt os k).kind = 0
      · have e1 : freeB os k = false := by unfold freeB; rw [hv, q9, qz]; simp [hkz]
        have e2 : freeOf os k = os := by unfold freeOf; rw [e1]; rfl
        rw [e1, e2]
        simp only [hi] at CI
        have hk : k < os.length := by omega
        have hcap : os.length ≤ 1048576 := hn
        have HX : Hid (∀ w', Below w.heap.size w w' → IsArena w' v os) := fun w' hb => hx.on hb
        obtain ⟨a, cap, rfl, hcap, _⟩ := id hx
        have HKZ := hid_of hkz
        clear hv e1 e2 hx hi hlen hib q9 qz hkz
        go_enter Try.func53, Try.ntmps53
        go_wp2_with fail
        refine (HC.out _ (Below.refl _ _)).mono ?_
        rintro e w1 ⟨g, c, fs, rest, rfl, hfs, hown, hb1⟩
        have HOWN : Hid (arOf fs = os ∧ OwnA g c fs rest w.heap.size w1.heap.size w1) := ⟨hfs, hown⟩
        have HB1 : Hid (Below w.heap.size w w1) := hb1
        clear hfs hown hb1
        go_wp2_with fail
        refine (HA.out _ HB1.out).mono ?_
        rintro e w2 ⟨rfl, hb2⟩
        have HB2 : Hid (Below w1.heap.size w1 w2) := hb2
        clear hb2
        obtain ⟨p, q, l, d, m, rfl, hq, hcs, -⟩ := (HX.out w2 (below_more HB1.out HB2.out)).at hk
        have c1 := hcs.c1
        rw [HKZ.out] at c1
        clear hcs
        go_wp2_with fail
        refine (CI _).mono ?_
        rintro e w3 ⟨rfl, rfl⟩
        go_wp2
        go_returns
        exact ⟨g, c, fs, rest, rfl, HOWN.out.1, (HOWN.out.2.on HB2.out).wide (Nat.le_refl _) HB2.out.size, below_more HB1.out HB2.out⟩
      · have qk : ((obAt os k).kind == 0) = false := beq_eq_false_iff_ne.2 hkz
        have e1 : freeB os k = true := by unfold freeB; rw [hv, q9, qz, Int.toNat_natCast, qk]; rfl
        have e2 : freeOf os k = (os.set k (newO (obAt os k).gen)).map (unO k) := by unfold freeOf; rw [e1, Int.toNat_natCast]; rfl
        rw [e1, e2]
        obtain ⟨a, cap, rfl, _, hel⟩ := id hx
        obtain ⟨p, _, _, _, rfl, _⟩ := hel 0 (by omega)
        rw [hlen] at hx ⊢
        exact specFree_go p cap os k w hx hv hs hf (by omega) (by omega) hkz
end Go.Proofs.Ytokicnopfmokaaa
