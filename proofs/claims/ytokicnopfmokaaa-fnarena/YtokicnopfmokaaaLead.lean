/-
  Nobody leads to a slot any more: the program.
-/
import Derived.Test.YtokicnopfmokaaaMarkA
namespace Go.Proofs.Ytokicnopfmokaaa
open Go.RowKit
set_option linter.unusedVariables false
set_option maxRecDepth 100000

/-- What leads to i leads nowhere. -/
def unN (i x : Int) : Int := if x = i then -1 else x
def unO (i : Int) (o : Ob) : Ob := { o with into := unN i o.into, ls := o.ls.map (unN i) }
/-- The first n are turned. -/
def unL (i : Int) (xs : List Int) (n : Nat) : List Int := (xs.take n).map (unN i) ++ xs.drop n
theorem unL_start (i : Int) (xs : List Int) : unL i xs 0 = xs := by simp [unL]
theorem unL_end (i : Int) (xs : List Int) : unL i xs xs.length = xs.map (unN i) := by simp [unL]
theorem unL_length (i : Int) (xs : List Int) (n : Nat) (h : n ≤ xs.length) : (unL i xs n).length = xs.length := by simp [unL]; omega
theorem unL_at (i : Int) {xs : List Int} {n : Nat} (h : n < xs.length) : (unL i xs n).getD n 0 = xs.getD n 0 := by
  unfold unL
  rw [List.getD_eq_getElem?_getD, List.getElem?_append_right (by simp; omega), List.getElem?_drop, List.getD_eq_getElem?_getD]
  rw [show n + (n - ((xs.take n).map (unN i)).length) = n by simp; omega]
theorem unL_set (i : Int) {xs : List Int} {n : Nat} (h : n < xs.length) : (unL i xs n).set n (unN i (xs.getD n 0)) = unL i xs (n + 1) := by
  unfold unL
  rw [List.set_append_right _ _ (by simp; omega)]
  rw [show n - ((xs.take n).map (unN i)).length = 0 by simp; omega, List.drop_eq_getElem_cons h, List.set_cons_zero, List.take_add_one, List.getElem?_eq_getElem h]
  simp [List.getD, h]
  rw [List.take_add_one, List.getElem?_map, List.getElem?_eq_getElem h]
  simp
theorem unL_same (i : Int) {xs : List Int} {n : Nat} (h : n < xs.length) (he : xs.getD n 0 ≠ i) : unL i xs n = unL i xs (n + 1) := by
  have e := unL_set i h
  have e2 : unN i (xs.getD n 0) = xs.getD n 0 := if_neg he
  rw [e2] at e
  rw [← e]
  refine List.ext_getElem? fun j => ?_
  rw [List.getElem?_set]
  split
  · rename_i hj
    subst hj
    have hl := unL_length i xs n (by omega)
    rw [if_pos (by omega), List.getElem?_eq_getElem (by omega)]
    have e3 := unL_at i h
    rw [List.getD_eq_getElem?_getD, List.getElem?_eq_getElem (by omega : n < (unL i xs n).length)] at e3
    simpa using e3
  · rfl
theorem OwnI.at {lo hi : Nat} {w : World} {a : Option Addr} {n c : Nat} {xs : List Int} (h : OwnI lo hi w (.slice a n c) xs) {k : Nat} (hk : k < xs.length) : ∃ b rs, a = some ⟨b, 0, none⟩ ∧ lo ≤ b ∧ b < hi ∧ RowIn w b xs rs ∧ n = xs.length ∧ n ≤ c := by
  obtain ⟨a', c', hv, hc, hx⟩ := h
  cases hv
  obtain ⟨b, rs, ha, h1, h2, h3, _⟩ := hx (by omega)
  exact ⟨b, rs, ha, h1, h2, h3, rfl, hc⟩
/-- One number of a list of the call's own is written. -/
theorem OwnI.setAt {lo hi : Nat} {w : World} {b n c : Nat} {xs : List Int} (h : OwnI lo hi w (.slice (some ⟨b, 0, none⟩) n c) xs) {k : Nat} (hk : k < xs.length) (x : Int) : OwnI lo hi (w.setCell ⟨b, k, none⟩ (.int .i64 x)) (.slice (some ⟨b, 0, none⟩) n c) (xs.set k x) ∧ Touch (Go.Proofs.Ytokicnopfmokaaa.blk (.slice (some ⟨b, 0, none⟩) n c)) w (w.setCell ⟨b, k, none⟩ (.int .i64 x)) := by
  obtain ⟨a', c', hv, hc', hx⟩ := h
  have hn : n = xs.length := by cases hv; rfl
  have hc : n ≤ c := by cases hv; exact hc'
  cases hv
  obtain ⟨b', rs, ha, h1, h2, h3, h4⟩ := hx (by omega)
  cases ha
  refine ⟨⟨_, c, by rw [List.length_set, ← hn], by rw [List.length_set, ← hn]; exact hc, fun _ => ⟨b, rs, rfl, h1, h2, h3.set k hk x, by rw [List.length_set]; exact h4⟩⟩, ?_⟩
  rw [blk_one _ (by omega)]
  exact touch_one (grownBy_set w b k _) (lt_of_block h3)
theorem cell10_of {w : World} {g k : Nat} {fs : List El} {e : El} {rest : List Value} (h : w.heap[g]? = some (.cells (ecells (fs.set k e) ++ rest).toArray 28 (0, 0))) (hk : k < fs.length) : w.cell? ⟨g, k * 13 + 10, none⟩ = some e.l := by
  have e1 := cell_of h (i := k) (by rw [List.length_set]; exact hk) (j := 10) (by decide)
  rw [elAt_set_same hk] at e1
  exact e1
theorem Touch.trans {bs : List Nat} {w w1 w2 : World} (h : Touch bs w w1) (h2 : Touch bs w1 w2) : Touch bs w w2 :=
  ⟨fun k x hk hx => h2.block k x hk (h.block k x hk hx), fun B w0 hB hb => h2.below B w0 hB (h.below B w0 hB hb)⟩
theorem touch_any (bs : List Nat) (w : World) : Touch bs w w := ⟨fun _ _ _ h => h, fun _ _ _ h => h⟩
/-- The first k are turned. -/
def unA (i : Int) (os : List Ob) (k : Nat) : List Ob := (os.take k).map (unO i) ++ os.drop k
theorem unA_start (i : Int) (os : List Ob) : unA i os 0 = os := by simp [unA]
theorem unA_end (i : Int) (os : List Ob) : unA i os os.length = os.map (unO i) := by simp [unA]
theorem unA_at (i : Int) {os : List Ob} {k : Nat} (h : k < os.length) : obAt (unA i os k) k = obAt os k := by
  unfold obAt unA
  rw [List.getD_eq_getElem?_getD, List.getElem?_append_right (by simp; omega), List.getElem?_drop, List.getD_eq_getElem?_getD]
  rw [show k + (k - ((os.take k).map (unO i)).length) = k by simp; omega]
theorem unA_set (i : Int) {os : List Ob} {k : Nat} (h : k < os.length) : (unA i os k).set k (unO i (obAt os k)) = unA i os (k + 1) := by
  unfold unA
  rw [List.set_append_right _ _ (by simp; omega)]
  rw [show k - ((os.take k).map (unO i)).length = 0 by simp; omega, List.drop_eq_getElem_cons h, List.set_cons_zero, take_ob h]
  simp
theorem unA_length (i : Int) (os : List Ob) (k : Nat) : (unA i os k).length = os.length := by simp [unA]; omega
set_option maxRecDepth 100000 in
set_option maxHeartbeats 8000000 in
theorem leadNobody_own (g cap n : Nat) (fs : List El) (rest : List Value) (lo hi : Nat) (z : Int) (w : World) (h : OwnA g cap fs rest lo hi w) (hn : n = fs.length) (hl : ((n : Int) + arN (arOf fs)) ≤ 1048576) :
    Calls Try.prog 27 #[.slice (some ⟨g, 0, none⟩) n cap, .int .i64 z] w fun e w' => (∃ v, e = .returned v) ∧ (∃ fs', arOf fs' = (arOf fs).map (unO z) ∧ OwnA g cap fs' rest lo hi w') ∧ Turned8 lo hi w w' := by
  have hcap : n ≤ cap := by rw [hn]; exact h.cap
  obtain ⟨os, hos⟩ : ∃ os, arOf fs = os := ⟨_, rfl⟩
  have hlen : os.length = n := by rw [← hos, arOf_length, hn]
  have H0 : Hid (∃ fs', arOf fs' = unA z os 0 ∧ OwnA g cap fs' rest lo hi w ∧ Turned8 lo hi w w) := ⟨fs, by rw [unA_start, hos], h, Turned8.refl _ _ _⟩
  rw [hos] at hl ⊢
  have HNL : Hid (os.length = n ∧ ((n : Int) + arN os) ≤ 1048576) := ⟨hlen, hl⟩
  have hn6 : n ≤ 1048576 := by omega
  clear h hn hl hos hlen
  go_enter Try.func27, Try.ntmps27
  go_wp2
  go_loopw [9] (fun i wr => ∃ (k : Nat), k ≤ n ∧ i = .int .i64 k ∧ Hid (∃ fs', arOf fs' = unA z os k ∧ OwnA g cap fs' rest lo hi wr ∧ Turned8 lo hi w wr)) (fun i _ => n - (intOf i).toNat)
  case atStart => exact ⟨0, Nat.zero_le _, rfl, H0⟩
  case round =>
    obtain ⟨k, hk, rfl, hs⟩ := hrel
    clear H0
    by_cases hlt : k < n
    · obtain ⟨W0, hW0⟩ : ∃ W0, W0 = wr := ⟨_, rfl⟩
      subst hW0
      have HF : Hid (arOf hs.out.choose = unA z os k ∧ OwnA g cap hs.out.choose rest lo hi W0 ∧ Turned8 lo hi w W0) := hs.out.choose_spec
      generalize hs.out.choose = fs' at HF
      clear hs
      have hko : k < os.length := by rw [HNL.out.1]; exact hlt
      have hfl : fs'.length = n := by have e := congrArg List.length HF.out.1; rw [arOf_length, unA_length, HNL.out.1] at e; exact e
      have hkf : k < fs'.length := by omega
      have hob : (elAt fs' k).o = obAt os k := by rw [← arOf_at, HF.out.1, unA_at z hko]
      have hob2 := obAt_le os k
      rw [← hob] at hob2
      have hown := HF.out.2.1
      have hoo := hown.own k hkf
      have hc := hown.cells hkf
      have hne := hown.ne k hkf
      have hgz : g < W0.heap.size := lt_of_block hown.at'
      have hfr2 := hown.free (k * 13 + 2)
      have HB1 := hid_of hown
      have HO1 := hid_of hoo
      have HNE := hid_of hne
      by_cases hz : (elAt fs' k).o.into = z
      · have HGW : Hid ((W0.setCell ⟨g, k * 13 + 2, none⟩ (.int .i64 (-1))).heap[g]? = some (.cells (ecells (fs'.set k ⟨unO z (elAt fs' k).o, (elAt fs' k).l, (elAt fs' k).d, (elAt fs' k).m⟩) ++ rest).toArray 28 (0, 0))) := by
          have e := heap_setCell_same W0 g (k * 13 + 2) _ 28 (.int .i64 (-1)) hown.at'
          rw [e, ecells_put1 hkf rest ⟨unO z (elAt fs' k).o, (elAt fs' k).l, (elAt fs' k).d, (elAt fs' k).m⟩ 2 (.int .i64 (-1)) (by decide) (by simp [elV, unO, unN, hz])]
          simp only [List.setIfInBounds_toArray]
          exact trivial
        have HTW : Hid (Touch [g] W0 (W0.setCell ⟨g, k * 13 + 2, none⟩ (.int .i64 (-1)))) := touch_one (grownBy_set W0 g _ _) hgz
        have HNE2 : Hid (g ∉ Go.Proofs.Ytokicnopfmokaaa.blk (elAt fs' k).l ∧ g ∉ Go.Proofs.Ytokicnopfmokaaa.blk (elAt fs' k).d ∧ g ∉ Go.Proofs.Ytokicnopfmokaaa.blk (elAt fs' k).m) := by
          have e := hne
          unfold blks at e
          simp only [List.mem_append, not_or] at e
          exact ⟨e.1.1, e.1.2, e.2⟩
        have hap := apart_ld hoo
        have HLW0 : OwnI lo hi (W0.setCell ⟨g, k * 13 + 2, none⟩ (.int .i64 (-1))) (elAt fs' k).l (elAt fs' k).o.ls := hoo.ls.keepIf fun b x hb hx => HTW.out.block _ _ (by simp; intro e; rw [e] at hb; exact HNE2.out.1 hb) hx
        have HDW0 : OwnI lo hi (W0.setCell ⟨g, k * 13 + 2, none⟩ (.int .i64 (-1))) (elAt fs' k).d (elAt fs' k).o.ds := hoo.ds.keepIf fun b x hb hx => HTW.out.block _ _ (by simp; intro e; rw [e] at hb; exact HNE2.out.2.1 hb) hx
        have HMW0 : OwnM lo hi (W0.setCell ⟨g, k * 13 + 2, none⟩ (.int .i64 (-1))) (elAt fs' k).m (elAt fs' k).o.qs := hoo.qs.keepIf fun b x hb hx => HTW.out.block _ _ (by simp; intro e; rw [e] at hb; exact HNE2.out.2.2 hb) hx
        have HE0 : ∀ w3, OwnI lo hi w3 (elAt fs' k).l ((elAt fs' k).o.ls.map (unN z)) → Touch (Go.Proofs.Ytokicnopfmokaaa.blk (elAt fs' k).l) (W0.setCell ⟨g, k * 13 + 2, none⟩ (.int .i64 (-1))) w3 → ∃ fs', arOf fs' = unA z os (k + 1) ∧ OwnA g cap fs' rest lo hi w3 ∧ Turned8 lo hi w w3 := fun w3 e1 e2 => by
          refine ⟨_, ?_, hown.mark hkf (o' := unO z (elAt fs' k).o) (e2.block _ _ HNE2.out.1 HGW.out) ⟨e1, HDW0.keepIf fun b x hb hx => e2.block _ _ (hap.1 b hb) hx, HMW0.keepIf fun b x hb hx => e2.block _ _ (hap.2 b hb).1 hx, hoo.nd⟩ (fun b x hbg hbm hx => ?_), (HF.out.2.2.touch HTW.out fun b hb => by simp at hb; rw [hb]; exact ⟨hown.lo, hown.hi⟩).touch e2 fun b hb => ⟨(hoo.ls.blk hb).1, (hoo.ls.blk hb).2.1⟩⟩
          · rw [arOf_set, HF.out.1, hob, unA_set z hko]
          · unfold blks at hbm
            simp only [List.mem_append, not_or] at hbm
            exact e2.block _ _ hbm.1.1 (HTW.out.block _ _ (by simpa using hbg) hx)
        have HE := hid_of HE0
        obtain ⟨a, c, el, hac, _⟩ := id HLW0
        have HLW := hid_of HLW0
        have HGB := hid_of HNE2.out.1
        have c2 := hc.c2
        have hnl6 : (elAt fs' k).o.ls.length ≤ 1048576 := by have h1 := HNL.out.2; unfold obN at hob2; omega
        clear HE0 HLW0 HDW0 HMW0 hap hne hob hob2 hown hoo hc HF hfl hko
        clear HB1 HO1 HNE HNE2 HTW
        generalize elAt fs' k = q at *
        obtain ⟨o, ql, qd, qm⟩ := q
        simp only at el HGW HE HLW HGB hac c2 hnl6
        subst el
        obtain ⟨nl, hnl⟩ : ∃ nl, nl = o.ls.length := ⟨_, rfl⟩
        rw [← hnl] at HGW HE HLW HGB hac hnl6
        have HNLS : Hid (nl = o.ls.length) := hnl
        clear hnl
        have qz : (o.into == z) = true := beq_iff_eq.2 hz
        clear hz hgz
        have p10 : (W0.setCell ⟨g, k * 13 + 2, none⟩ (.int .i64 (-1))).cell? ⟨g, k * 13 + 10, none⟩ = some (.slice a nl c) := (cell10_of HGW.out hkf)
        go_wp2
        clear p10
        go_loopw [29] (fun i w2 => ∃ n2 : Nat, n2 ≤ nl ∧ i = .int .i64 n2 ∧ Hid (OwnI lo hi w2 (.slice a nl c) (unL z o.ls n2) ∧ Touch (Go.Proofs.Ytokicnopfmokaaa.blk (.slice a nl c)) (W0.setCell ⟨g, k * 13 + 2, none⟩ (.int .i64 (-1))) w2)) (fun i _ => nl - (intOf i).toNat)
        case atStart => exact ⟨0, Nat.zero_le _, rfl, by rw [unL_start]; exact HLW.out, touch_any _ _⟩
        case round =>
          obtain ⟨n2, hn2, rfl, hin⟩ := hrel
          by_cases hlt2 : n2 < nl
          · have hl2 : n2 < (unL z o.ls n2).length := by rw [unL_length _ _ _ (by rw [← HNLS.out]; exact hn2), ← HNLS.out]; exact hlt2
            obtain ⟨b, rs, rfl, hb1, hb2, hrow, hlen2, hcc⟩ := hin.out.1.at hl2
            have cx := hrow.cell n2 hl2
            have fx := hrow.free n2
            rw [unL_at z (by rw [← HNLS.out]; exact hlt2)] at cx
            have p10 : _ = some (Value.slice (some ⟨b, 0, none⟩) nl c) := cell10_of (hin.out.2.block _ _ HGB.out HGW.out) hkf
            have hset := hin.out.1.setAt hl2 (-1)
            have HSM : Hid (o.ls.getD n2 0 = z → (unL z o.ls n2).set n2 (-1) = unL z o.ls (n2 + 1)) := fun e => by
              have e1 := unL_set z (xs := o.ls) (n := n2) (by rw [← HNLS.out]; exact hlt2)
              rw [show unN z (o.ls.getD n2 0) = -1 from if_pos e] at e1
              exact e1
            have HNM : Hid (o.ls.getD n2 0 ≠ z → unL z o.ls n2 = unL z o.ls (n2 + 1)) := fun e => unL_same z (by rw [← HNLS.out]; exact hlt2) e
            generalize o.ls.getD n2 0 = x at cx HSM HNM
            by_cases hx : x = z
            · have qx : (x == z) = true := beq_iff_eq.2 hx
              have HI2 : Hid (OwnI lo hi (wr.setCell ⟨b, n2, none⟩ (.int .i64 (-1))) (.slice (some ⟨b, 0, none⟩) nl c) (unL z o.ls (n2 + 1)) ∧ Touch (Go.Proofs.Ytokicnopfmokaaa.blk (.slice (some ⟨b, 0, none⟩) nl c)) (W0.setCell ⟨g, k * 13 + 2, none⟩ (.int .i64 (-1))) (wr.setCell ⟨b, n2, none⟩ (.int .i64 (-1)))) := ⟨by rw [← HSM.out hx]; exact hset.1, hin.out.2.trans hset.2⟩
              clear hx hset hin hrow HSM HNM
              go_wp2
              go_roundw
              case rel => exact ⟨n2 + 1, by omega, by go_num, HI2⟩
              case measure => simp [intOf]; omega
            · have qx : (x == z) = false := beq_eq_false_iff_ne.2 hx
              have HI2 : Hid (OwnI lo hi wr (.slice (some ⟨b, 0, none⟩) nl c) (unL z o.ls (n2 + 1)) ∧ Touch (Go.Proofs.Ytokicnopfmokaaa.blk (.slice (some ⟨b, 0, none⟩) nl c)) (W0.setCell ⟨g, k * 13 + 2, none⟩ (.int .i64 (-1))) wr) := ⟨by rw [← HNM.out hx]; exact hin.out.1, hin.out.2⟩
              clear hx hset hin hrow HSM HNM
              go_wp2
              go_roundw
              case rel => exact ⟨n2 + 1, by omega, by go_num, HI2⟩
              case measure => simp [intOf]; omega
          · have hke : n2 = nl := by omega
            have HS := hid_of (HE.out wr (by have e := hin.out.1; rw [hke, HNLS.out, unL_end] at e; rw [← HNLS.out] at e; exact e) hin.out.2)
            clear hin hke
            go_wp2
            go_roundw
            case rel => exact ⟨k + 1, by omega, by go_num, HS⟩
            case measure => simp [intOf]; omega
      · have HGW : Hid (W0.heap[g]? = some (.cells (ecells (fs'.set k ⟨unO z (elAt fs' k).o, (elAt fs' k).l, (elAt fs' k).d, (elAt fs' k).m⟩) ++ rest).toArray 28 (0, 0))) := by
          obtain ⟨A, B, hA, h1, h2⟩ := ecells_block hkf
          rw [hown.at', h1, h2]
          simp only [elV, unO, unN, if_neg hz]
          exact trivial
        have HTW : Hid (Touch [g] W0 W0) := touch_any _ _
        have HNE2 : Hid (g ∉ Go.Proofs.Ytokicnopfmokaaa.blk (elAt fs' k).l ∧ g ∉ Go.Proofs.Ytokicnopfmokaaa.blk (elAt fs' k).d ∧ g ∉ Go.Proofs.Ytokicnopfmokaaa.blk (elAt fs' k).m) := by
          have e := hne
          unfold blks at e
          simp only [List.mem_append, not_or] at e
          exact ⟨e.1.1, e.1.2, e.2⟩
        have hap := apart_ld hoo
        have HLW0 : OwnI lo hi W0 (elAt fs' k).l (elAt fs' k).o.ls := hoo.ls.keepIf fun b x hb hx => HTW.out.block _ _ (by simp; intro e; rw [e] at hb; exact HNE2.out.1 hb) hx
        have HDW0 : OwnI lo hi W0 (elAt fs' k).d (elAt fs' k).o.ds := hoo.ds.keepIf fun b x hb hx => HTW.out.block _ _ (by simp; intro e; rw [e] at hb; exact HNE2.out.2.1 hb) hx
        have HMW0 : OwnM lo hi W0 (elAt fs' k).m (elAt fs' k).o.qs := hoo.qs.keepIf fun b x hb hx => HTW.out.block _ _ (by simp; intro e; rw [e] at hb; exact HNE2.out.2.2 hb) hx
        have HE0 : ∀ w3, OwnI lo hi w3 (elAt fs' k).l ((elAt fs' k).o.ls.map (unN z)) → Touch (Go.Proofs.Ytokicnopfmokaaa.blk (elAt fs' k).l) W0 w3 → ∃ fs', arOf fs' = unA z os (k + 1) ∧ OwnA g cap fs' rest lo hi w3 ∧ Turned8 lo hi w w3 := fun w3 e1 e2 => by
          refine ⟨_, ?_, hown.mark hkf (o' := unO z (elAt fs' k).o) (e2.block _ _ HNE2.out.1 HGW.out) ⟨e1, HDW0.keepIf fun b x hb hx => e2.block _ _ (hap.1 b hb) hx, HMW0.keepIf fun b x hb hx => e2.block _ _ (hap.2 b hb).1 hx, hoo.nd⟩ (fun b x hbg hbm hx => ?_), (HF.out.2.2.touch HTW.out fun b hb => by simp at hb; rw [hb]; exact ⟨hown.lo, hown.hi⟩).touch e2 fun b hb => ⟨(hoo.ls.blk hb).1, (hoo.ls.blk hb).2.1⟩⟩
          · rw [arOf_set, HF.out.1, hob, unA_set z hko]
          · unfold blks at hbm
            simp only [List.mem_append, not_or] at hbm
            exact e2.block _ _ hbm.1.1 (HTW.out.block _ _ (by simpa using hbg) hx)
        have HE := hid_of HE0
        obtain ⟨a, c, el, hac, _⟩ := id HLW0
        have HLW := hid_of HLW0
        have HGB := hid_of HNE2.out.1
        have c2 := hc.c2
        have hnl6 : (elAt fs' k).o.ls.length ≤ 1048576 := by have h1 := HNL.out.2; unfold obN at hob2; omega
        clear HE0 HLW0 HDW0 HMW0 hap hne hob hob2 hown hoo hc HF hfl hko
        clear HB1 HO1 HNE HNE2 HTW
        generalize elAt fs' k = q at *
        obtain ⟨o, ql, qd, qm⟩ := q
        simp only at el HGW HE HLW HGB hac c2 hnl6
        subst el
        obtain ⟨nl, hnl⟩ : ∃ nl, nl = o.ls.length := ⟨_, rfl⟩
        rw [← hnl] at HGW HE HLW HGB hac hnl6
        have HNLS : Hid (nl = o.ls.length) := hnl
        clear hnl
        have qz : (o.into == z) = false := beq_eq_false_iff_ne.2 hz
        clear hz hgz hfr2
        have p10 : W0.cell? ⟨g, k * 13 + 10, none⟩ = some (.slice a nl c) := (cell10_of HGW.out hkf)
        go_wp2
        clear p10
        go_loopw [29] (fun i w2 => ∃ n2 : Nat, n2 ≤ nl ∧ i = .int .i64 n2 ∧ Hid (OwnI lo hi w2 (.slice a nl c) (unL z o.ls n2) ∧ Touch (Go.Proofs.Ytokicnopfmokaaa.blk (.slice a nl c)) W0 w2)) (fun i _ => nl - (intOf i).toNat)
        case atStart => exact ⟨0, Nat.zero_le _, rfl, by rw [unL_start]; exact HLW.out, touch_any _ _⟩
        case round =>
          obtain ⟨n2, hn2, rfl, hin⟩ := hrel
          by_cases hlt2 : n2 < nl
          · have hl2 : n2 < (unL z o.ls n2).length := by rw [unL_length _ _ _ (by rw [← HNLS.out]; exact hn2), ← HNLS.out]; exact hlt2
            obtain ⟨b, rs, rfl, hb1, hb2, hrow, hlen2, hcc⟩ := hin.out.1.at hl2
            have cx := hrow.cell n2 hl2
            have fx := hrow.free n2
            rw [unL_at z (by rw [← HNLS.out]; exact hlt2)] at cx
            have p10 : _ = some (Value.slice (some ⟨b, 0, none⟩) nl c) := cell10_of (hin.out.2.block _ _ HGB.out HGW.out) hkf
            have hset := hin.out.1.setAt hl2 (-1)
            have HSM : Hid (o.ls.getD n2 0 = z → (unL z o.ls n2).set n2 (-1) = unL z o.ls (n2 + 1)) := fun e => by
              have e1 := unL_set z (xs := o.ls) (n := n2) (by rw [← HNLS.out]; exact hlt2)
              rw [show unN z (o.ls.getD n2 0) = -1 from if_pos e] at e1
              exact e1
            have HNM : Hid (o.ls.getD n2 0 ≠ z → unL z o.ls n2 = unL z o.ls (n2 + 1)) := fun e => unL_same z (by rw [← HNLS.out]; exact hlt2) e
            generalize o.ls.getD n2 0 = x at cx HSM HNM
            by_cases hx : x = z
            · have qx : (x == z) = true := beq_iff_eq.2 hx
              have HI2 : Hid (OwnI lo hi (wr.setCell ⟨b, n2, none⟩ (.int .i64 (-1))) (.slice (some ⟨b, 0, none⟩) nl c) (unL z o.ls (n2 + 1)) ∧ Touch (Go.Proofs.Ytokicnopfmokaaa.blk (.slice (some ⟨b, 0, none⟩) nl c)) W0 (wr.setCell ⟨b, n2, none⟩ (.int .i64 (-1)))) := ⟨by rw [← HSM.out hx]; exact hset.1, hin.out.2.trans hset.2⟩
              clear hx hset hin hrow HSM HNM
              go_wp2
              go_roundw
              case rel => exact ⟨n2 + 1, by omega, by go_num, HI2⟩
              case measure => simp [intOf]; omega
            · have qx : (x == z) = false := beq_eq_false_iff_ne.2 hx
              have HI2 : Hid (OwnI lo hi wr (.slice (some ⟨b, 0, none⟩) nl c) (unL z o.ls (n2 + 1)) ∧ Touch (Go.Proofs.Ytokicnopfmokaaa.blk (.slice (some ⟨b, 0, none⟩) nl c)) W0 wr) := ⟨by rw [← HNM.out hx]; exact hin.out.1, hin.out.2⟩
              clear hx hset hin hrow HSM HNM
              go_wp2
              go_roundw
              case rel => exact ⟨n2 + 1, by omega, by go_num, HI2⟩
              case measure => simp [intOf]; omega
          · have hke : n2 = nl := by omega
            have HS := hid_of (HE.out wr (by have e := hin.out.1; rw [hke, HNLS.out, unL_end] at e; rw [← HNLS.out] at e; exact e) hin.out.2)
            clear hin hke
            go_wp2
            go_roundw
            case rel => exact ⟨k + 1, by omega, by go_num, HS⟩
            case measure => simp [intOf]; omega
    · obtain rfl : k = n := by omega
      have HS : Hid ((∃ fs', arOf fs' = os.map (unO z) ∧ OwnA g cap fs' rest lo hi wr) ∧ Turned8 lo hi w wr) := by
        obtain ⟨fs', h1, h2, h3⟩ := hs.out
        rw [← HNL.out.1, unA_end] at h1
        exact ⟨⟨fs', h1, h2⟩, h3⟩
      clear hs
      go_wp2
      go_returns
      exact ⟨⟨_, rfl⟩, HS.out⟩
end Go.Proofs.Ytokicnopfmokaaa
