/-
  The draws of chapter 6's law: an amount, a tree, a tree that may be bent, and what DrawTreeSplit hands over.
-/
import Derived.Test.YtfcenombphodbaaDoorDraws
import Derived.Test.YtfcenombphodbaaDoorMathSplit
import Derived.Test.YtfcenombphodbaaDoorSpecDrop
import Derived.Test.YtfcenombphodbaaDoorSpecGive
namespace Go.Proofs.YtfcenombphodbaaDoor
open Go.RowKit
set_option linter.unusedVariables false
set_option maxRecDepth 100000

theorem grownBy_newT {w wr : World} {g b : Nat} (h : w.grownBy wr (some g)) (hb : w.heap.size ≤ b) (i : Nat) (v : Value) : w.grownBy (wr.setCell ⟨b, i, none⟩ v) (some g) :=
  ⟨h.os, h.tape, h.output, by have := h.size; simpa using this, fun k hk hne => (Below.heap_setCell wr ⟨b, i, none⟩ v k (by simp; omega)).trans (h.block k hk hne)⟩
theorem grownT_then {w wr w' : World} {row : Option Nat} {B : Nat} (h : w.grownBy wr row) (hb : Below B wr w') (hB : w.heap.size ≤ B) : w.grownBy w' row :=
  ⟨hb.os.trans h.os, hb.tape.trans h.tape, hb.output.trans h.output, Nat.le_trans h.size hb.size, fun k hk hne => (hb.block k (by omega)).trans (h.block k hk hne)⟩
/-- A right amount was drawn. -/
def AmtDrawnT (w : World) (g s : Nat) (e : Ending) (w' : World) : Prop := ∃ a b c : Int, e = .returned (amt a b c) ∧ amtOk a b c = true ∧ CurE w' g s ∧ w.grownBy w' (some g)

set_option maxRecDepth 100000 in
set_option maxHeartbeats 1000000 in
theorem l5AmtT_any (w : World) (g s : Nat) (h : CurE w g s) (hs : s ≤ w.heap.size) :
    Calls Tryd.prog 67 #[.pointer (some ⟨g, 0, none⟩)] w fun e w' => AmtDrawnT w g s e w' := by
  have C0 := belowE (w.alloc (boxA 0 0 0)) g s 40 (h.alloc _ hs) (by decide) (by decide)
  have HS : Hid (s ≤ w.heap.size) := hs
  have HGS : Hid (g < s) := h.lt
  clear h hs
  go_enter Tryd.func67, Tryd.ntmps67
  go_wp2_with fail
  refine C0.mono ?_
  rintro e w1 ⟨a, rfl, ha, hc, hgr⟩
  clear C0
  have hz1 : (w.alloc (boxA 0 0 0)).heap.size = w.heap.size + 1 := by simp
  have HG1 : Hid ((w.alloc (boxA 0 0 0)).grownBy w1 (some g)) := hgr
  have HA : Hid (a < 40) := ha
  have C1 := belowE w1 g s 400 hc (by decide) (by decide)
  clear hc hgr hz1 ha
  go_wp2_with fail
  refine C1.mono ?_
  rintro e w2 ⟨b, rfl, hb, hc, hgr⟩
  clear C1
  have HG2 : Hid ((w.alloc (boxA 0 0 0)).grownBy w2 (some g)) := grownBy_trans HG1.out hgr
  have HB : Hid (b < 400) := hb
  have C2 := belowE w2 g s 60 hc (by decide) (by decide)
  clear hc hgr HG1 hb
  go_wp2_with fail
  refine C2.mono ?_
  rintro e wC ⟨c, rfl, hcc, hc, hgr⟩
  clear C2
  have HCC : Hid (c < 60) := hcc
  have HG3 : Hid ((w.alloc (boxA 0 0 0)).grownBy wC (some g)) := grownBy_trans HG2.out hgr
  have HC : Hid (CurE wC g s) := hc
  have b2 : Box3 wC w.heap.size 37 0 0 0 := ⟨grown_kept HG3.out (heap_alloc_new w _) (by have := HGS.out; have := HS.out; simp; omega)⟩
  have r0 := b2.c0
  have r1 := b2.c1
  have r2 := b2.c2
  have f0 := b2.f0 0
  have f1 := b2.f0 1
  have f2 := b2.f0 2
  have HP := hid_of (b2.w3 (a : Int) (b : Int) (c : Int))
  clear hc hgr HG2 b2 hcc
  go_wp2
  have p0 := HP.out.c0
  have p1 := HP.out.c1
  have p2 := HP.out.c2
  unfold w3 at p0 p1 p2
  refine bodyPost_ret (v := amt a b c) (by simp [results, go_sem, p0, p1, p2]) rfl ⟨a, b, c, rfl, ?_, ?_, ?_⟩
  · have := HA.out
    have := HB.out
    have := HCC.out
    unfold amtOk
    rw [numOk_yes (by omega) (by omega), numOk_yes (by omega) (by omega), numOk_yes (by omega) (by omega)]
    rfl
  · have := HS.out
    exact ((HC.out.set _ _ _ this).set _ _ _ this).set _ _ _ this
  · exact grownBy_newT (grownBy_newT (grownBy_newT (grownBy_trans (World.grownBy_alloc w _ _) HG3.out) (Nat.le_refl _) _ _) (Nat.le_refl _) _ _) (Nat.le_refl _) _ _

/-- What lies there while a tree is drawn. -/
structure GrowT (w : World) (g s : Nat) (v : Value) (wr : World) : Prop where
  own : ∃ gt c ts rs, v = .slice (some ⟨gt, 0, none⟩) 5 c ∧ ts.length = 5 ∧ OwnT gt c ts rs w.heap.size wr.heap.size wr
  cur : CurE wr g s
  grown : w.grownBy wr (some g)
theorem GrowT.by' {w wr w' : World} {g s : Nat} {v : Value} (h : GrowT w g s v wr) (hs : s ≤ w.heap.size) (hc : CurE w' g s) (hg : wr.grownBy w' (some g)) : GrowT w g s v w' := by
  have hlt := hc.lt
  obtain ⟨gt, c, ts, rs, rfl, hl, ho⟩ := h.own
  refine ⟨⟨gt, c, ts, rs, rfl, hl, ?_⟩, hc, grownBy_trans h.grown hg⟩
  have h2 := ho.by' hg fun k e => by have := Option.some.inj e; omega
  exact ⟨h2.at', h2.cap, h2.lo, Nat.lt_of_lt_of_le h2.hi hg.size⟩
theorem GrowT.next {w wr w' : World} {g s : Nat} {v : Value} {ns : List Re} {g2 c2 : Nat} {rs2 : List Value} (h : GrowT w g s v wr) (hs : s ≤ w.heap.size) (hn : ns.length = 5) (ho : OwnT g2 c2 ns rs2 wr.heap.size w'.heap.size w') (hb : Below wr.heap.size wr w') : GrowT w g s (.slice (some ⟨g2, 0, none⟩) 5 c2) w' :=
  ⟨⟨g2, c2, ns, rs2, rfl, hn, ho.lower h.grown.size⟩, h.cur.below (hb.mono (Nat.le_trans hs h.grown.size)), grownT_then h.grown hb h.grown.size⟩

/-- A tree of five places, drawn. -/
def TreeDrawn (w : World) (g s : Nat) (e : Ending) (w' : World) : Prop := ∃ v, e = .returned v ∧ GrowT w g s v w'
set_option maxRecDepth 100000 in
set_option maxHeartbeats 4000000 in
theorem l6Tree_any (w : World) (g s : Nat) (h : CurE w g s) (hs : s ≤ w.heap.size) :
    Calls Tryd.prog 43 #[.pointer (some ⟨g, 0, none⟩)] w fun e w' => TreeDrawn w g s e w' := by
  have C0 := l5AmtT_any w g s h hs
  have Hs : Hid (s ≤ w.heap.size) := hs
  clear h hs
  go_enter Tryd.func43, Tryd.ntmps43
  go_wp2_with fail
  refine C0.mono ?_
  rintro e w1 ⟨a, b, c, rfl, hok, hc, hgr⟩
  clear C0
  have C1 := specNew_any a b c w1
  have e5 : newT a b c = [⟨true, -1, a, b, c⟩, noRe, noRe, noRe, noRe] := by simp [newT, hok]
  rw [e5, hok] at C1
  have HC : Hid (CurE w1 g s) := hc
  have HGR : Hid (w.grownBy w1 (some g)) := hgr
  clear hok e5 hc hgr
  go_wp2_with fail
  refine C1.mono ?_
  rintro e w2 ⟨g2, c2, rs2, rfl, ho, hb⟩
  have HG2 : Hid (GrowT w g s (.slice (some ⟨g2, 0, none⟩) 5 c2) w2) :=
    ⟨⟨g2, c2, _, rs2, rfl, rfl, ho.lower HGR.out.size⟩, HC.out.below (hb.mono (Nat.le_trans Hs.out HGR.out.size)), grownT_then HGR.out hb HGR.out.size⟩
  clear C1 ho hb HC HGR
  go_wp2_with fail
  refine (belowE w2 g s 7 HG2.out.cur (by omega) (by omega)).mono ?_
  rintro e w3 ⟨v, rfl, hv, hcE, hgr⟩
  have HG3 := hid_of (HG2.out.by' Hs.out hcE hgr)
  clear hcE hgr HG2
  go_wp2
  go_loopw [3, 5] (fun t n wr => ∃ k : Nat, k ≤ 7 ∧ n = .int .i64 k ∧ Hid (GrowT w g s t wr)) (fun _ n _ => (intOf n).toNat)
  case atStart => exact ⟨v, by omega, rfl, HG3⟩
  case round =>
    obtain ⟨k, hk, rfl, hg⟩ := hrel
    clear HG3
    by_cases hlt : 0 < k
    · go_wp2_with fail
      refine (belowE wr g s 5 hg.out.cur (by omega) (by omega)).mono ?_
      rintro e w4 ⟨q, rfl, hq, hcE, hgr⟩
      have HG4 := hid_of (hg.out.by' Hs.out hcE hgr)
      clear hcE hgr hg
      go_wp2_with fail
      refine (onceE w4 g s 4 HG4.out.cur (by omega) (by omega)).mono ?_
      rintro e w5 ⟨bb, rfl, hcE, hgr⟩
      have HG5 := hid_of (HG4.out.by' Hs.out hcE hgr)
      clear hcE hgr HG4
      cases bb with
      | true =>
        obtain ⟨gt, ct, ts, rs, rfl, hl, ho⟩ := HG5.out.own
        have CD := specDrop_any ⟨gt, 0, none⟩ ct ts (q : Int) w5 (ho.tree) (by omega)
        rw [hl] at CD
        have HL : Hid (ts.length = 5) := hl
        clear hl ho
        go_wp2_with fail
        refine CD.mono ?_
        rintro e w6 ⟨g6, c6, rs6, rfl, ho, hb⟩
        have HG6 := hid_of (HG5.out.next Hs.out (by rw [dropOf_length]; exact HL.out) ho hb)
        clear CD ho hb HG5 HL
        go_wp2
        exact ⟨⟨k - 1, by omega, by go_num, HG6⟩, by simp [intOf]; omega⟩
      | false =>
        go_wp2_with fail
        refine (belowE w5 g s 8 HG5.out.cur (by omega) (by omega)).mono ?_
        rintro e w6 ⟨xa, rfl, hxa, hcE, hgr⟩
        have HG6 := hid_of (HG5.out.by' Hs.out hcE hgr)
        clear hcE hgr HG5 hxa
        go_wp2_with fail
        refine (belowE w6 g s 50 HG6.out.cur (by omega) (by omega)).mono ?_
        rintro e w7 ⟨xb, rfl, hxb, hcE, hgr⟩
        have HG7 := hid_of (HG6.out.by' Hs.out hcE hgr)
        clear hcE hgr HG6 hxb
        go_wp2_with fail
        refine (belowE w7 g s 9 HG7.out.cur (by omega) (by omega)).mono ?_
        rintro e w8 ⟨xc, rfl, hxc, hcE, hgr⟩
        have HG8 := hid_of (HG7.out.by' Hs.out hcE hgr)
        clear hcE hgr HG7 hxc
        obtain ⟨gt, ct, ts, rs, rfl, hl, ho⟩ := HG8.out.own
        have CD := specSplit_any ⟨gt, 0, none⟩ ct ts (q : Int) (xa : Int) (xb : Int) (xc : Int) w8 (ho.tree) (by omega)
        rw [hl] at CD
        have HL : Hid (ts.length = 5) := hl
        clear hl ho
        go_wp2_with fail
        refine CD.mono ?_
        rintro e w9 ⟨g6, c6, rs6, rfl, ho, hb⟩
        have HG9 := hid_of (HG8.out.next Hs.out (by rw [splitOf_length]; exact HL.out) ho hb)
        clear CD ho hb HG8 HL
        go_wp2
        exact ⟨⟨k - 1, by omega, by go_num, HG9⟩, by simp [intOf]; omega⟩
    · obtain rfl : k = 0 := by omega
      go_wp2
      go_ret
      exact ⟨_, rfl, hg.out⟩

theorem TreeIn.take {w : World} {g : Nat} {ts : List Re} {rest : List Value} (h : TreeIn w g ts rest) (n : Nat) : TreeIn w g (ts.take n) (rcells (ts.drop n) ++ rest) := by
  unfold TreeIn at h ⊢
  rw [← List.append_assoc, ← rcells_append, List.take_append_drop]
  exact h
/-- A tree that may be bent, drawn. -/
structure AnyT (w : World) (g s : Nat) (v : Value) (wr : World) : Prop where
  own : ∃ gt c ts rs, v = .slice (some ⟨gt, 0, none⟩) ts.length c ∧ ts.length ≤ 5 ∧ OwnT gt c ts rs w.heap.size wr.heap.size wr
  cur : CurE wr g s
  grown : w.grownBy wr (some g)
theorem AnyT.by' {w wr w' : World} {g s : Nat} {v : Value} (h : AnyT w g s v wr) (hs : s ≤ w.heap.size) (hc : CurE w' g s) (hg : wr.grownBy w' (some g)) : AnyT w g s v w' := by
  have hlt := hc.lt
  obtain ⟨gt, c, ts, rs, rfl, hl, ho⟩ := h.own
  refine ⟨⟨gt, c, ts, rs, rfl, hl, ?_⟩, hc, grownBy_trans h.grown hg⟩
  have h2 := ho.by' hg fun k e => by have := Option.some.inj e; omega
  exact ⟨h2.at', h2.cap, h2.lo, Nat.lt_of_lt_of_le h2.hi hg.size⟩
/-- One place of a tree of five is written. -/
theorem anyT_put {w wr : World} {g s gt c : Nat} {ts ns : List Re} {rs : List Value} {off : Nat} {x : Value} (hs : s ≤ w.heap.size) (hc : CurE wr g s) (hg : w.grownBy wr (some g)) (ho : OwnT gt c ts rs w.heap.size wr.heap.size wr) (hl : ts.length = 5) (hn : ns.length = 5) (ht : TreeIn (wr.setCell ⟨gt, off, none⟩ x) gt ns rs) : AnyT w g s (.slice (some ⟨gt, 0, none⟩) 5 c) (wr.setCell ⟨gt, off, none⟩ x) := by
  have hlo := ho.lo
  refine ⟨⟨gt, c, ns, rs, by rw [hn], by omega, ht, ?_, hlo, ?_⟩, hc.set _ _ _ (by omega), grownBy_newT hg hlo _ _⟩
  · have := ho.cap; omega
  · have := ho.hi; simpa using this
def AnyDrawn (w : World) (g s : Nat) (e : Ending) (w' : World) : Prop := ∃ v, e = .returned v ∧ AnyT w g s v w'
set_option maxRecDepth 100000 in
set_option maxHeartbeats 4000000 in
theorem l6Any_any (w : World) (g s : Nat) (h : CurE w g s) (hs : s ≤ w.heap.size) :
    Calls Tryd.prog 44 #[.pointer (some ⟨g, 0, none⟩)] w fun e w' => AnyDrawn w g s e w' := by
  have C0 := l6Tree_any w g s h hs
  have Hs : Hid (s ≤ w.heap.size) := hs
  clear h hs
  go_enter Tryd.func44, Tryd.ntmps44
  go_wp2_with fail
  refine C0.mono ?_
  rintro e w1 ⟨t, rfl, hg⟩
  have HG1 := hid_of hg
  clear C0 hg
  obtain ⟨gt, ct, ts, rs, rfl, hl, ho⟩ := HG1.out.own
  have C1 := belowE w1 g s 5 HG1.out.cur (by omega) (by omega)
  have HL : Hid (ts.length = 5) := hl
  clear hl ho
  go_wp2_with fail
  refine C1.mono ?_
  rintro e w2 ⟨k, rfl, hk, hcE, hgr⟩
  have HG2 := hid_of (HG1.out.by' Hs.out hcE hgr)
  clear C1 hcE hgr HG1
  have C2 := belowE w2 g s 20 HG2.out.cur (by omega) (by omega)
  go_wp2_with fail
  refine C2.mono ?_
  rintro e w3 ⟨q, rfl, hq, hcE, hgr⟩
  have HG3 := hid_of (HG2.out.by' Hs.out hcE hgr)
  clear C2 hcE hgr HG2
  obtain ⟨gt', ct', ts', rs', hv, hl', ho'⟩ := HG3.out.own
  obtain ⟨rfl, rfl⟩ : gt = gt' ∧ ct = ct' := by simpa using hv
  have HO : Hid (OwnT gt ct ts' rs' w.heap.size w3.heap.size w3) := ho'
  have HL' : Hid (ts'.length = 5) := hl'
  have HC3 := hid_of HG3.out.cur
  have HGR3 := hid_of HG3.out.grown
  clear hv hl' ho' HL HG3
  have hcap : 5 ≤ ct := by have := HO.out.cap; have := HL'.out; omega
  have hk5 : (k : Int) < 5 := by omega
  have hkc : (k : Int) ≤ (ct : Int) := by omega
  by_cases h0 : q = 0
  · subst h0
    go_wp2
    go_ret
    refine ⟨_, rfl, ⟨gt, ct, ts'.take k, rcells (ts'.drop k) ++ rs', ?_, ?_, ⟨HO.out.at'.take k, ?_, HO.out.lo, HO.out.hi⟩⟩, HC3.out, HGR3.out⟩
    · rw [List.length_take, HL'.out, show min k 5 = k by omega]; rfl
    · rw [List.length_take, HL'.out]; omega
    · rw [List.length_take, HL'.out]; omega
  have h0' : ¬ (q : Int) = 0 := by omega
  have hcell := HO.out.at'.cell k (by rw [HL'.out]; omega)
  have ff := HO.out.at'.free
  by_cases h1 : q = 1
  · subst h1
    have C3 := belowE w3 g s 7 HC3.out (by omega) (by omega)
    clear hcell ff
    go_wp2_with fail
    refine C3.mono ?_
    rintro e w4 ⟨x, rfl, hx, hcE, hgr⟩
    have h2 := HO.out.by' hgr fun k e => by have := Option.some.inj e; have := hcE.lt; have := Hs.out; omega
    have HO4 : Hid (OwnT gt ct ts' rs' w.heap.size w4.heap.size w4) := ⟨h2.at', h2.cap, h2.lo, Nat.lt_of_lt_of_le h2.hi hgr.size⟩
    have HC4 := hid_of hcE
    have HGR4 := hid_of (grownBy_trans HGR3.out hgr)
    clear C3 h2 hcE hgr HO HC3 HGR3
    have c1 := (HO4.out.at'.cell k (by rw [HL'.out]; omega)).c1
    have f1 := HO4.out.at'.free (k * 5 + 1)
    simp only at c1
    go_wp2
    go_ret
    exact ⟨_, rfl, anyT_put Hs.out HC4.out HGR4.out HO4.out HL'.out (by rw [List.length_set]; exact HL'.out) (HO4.out.at'.put1 k (by rw [HL'.out]; omega) _)⟩
  have h1' : ¬ (q : Int) = 1 := by omega
  by_cases h2 : q = 2
  · subst h2
    have c0 := hcell.c0
    have f0 := ff (k * 5)
    clear hcell ff
    go_wp2
    go_ret
    exact ⟨_, rfl, anyT_put Hs.out HC3.out HGR3.out HO.out HL'.out (by rw [List.length_set]; exact HL'.out) (HO.out.at'.put0 k (by rw [HL'.out]; omega) _)⟩
  have h2' : ¬ (q : Int) = 2 := by omega
  by_cases h3 : q = 3
  · subst h3
    have hs3 : s ≤ w3.heap.size := Nat.le_trans Hs.out HGR3.out.size
    have C3 := pickE (w3.alloc (.cells #[.int .i64 (-1), .int .i64 1000001, .int .i64 1000000] 3 (0, 0))) g s w3.heap.size [-1, 1000001, 1000000] 3 rfl (by decide) (by decide) (HC3.out.alloc _ hs3) hs3 (heap_alloc_new w3 _)
    clear hcell ff hs3
    go_wp2_with fail
    refine C3.mono ?_
    rintro e w4 ⟨x, rfl, hcE, hgr⟩
    have h2 := (HO.out.on (below_alloc w3 _)).by' hgr fun k e => by have := Option.some.inj e; have := hcE.lt; have := Hs.out; omega
    have HO4 : Hid (OwnT gt ct ts' rs' w.heap.size w4.heap.size w4) := ⟨h2.at', h2.cap, h2.lo, lt_of_block h2.at'⟩
    have HC4 := hid_of hcE
    have HGR4 := hid_of (grownBy_trans HGR3.out (grownBy_trans (World.grownBy_alloc w3 _ _) hgr))
    clear C3 h2 hcE hgr HO HC3 HGR3
    have c3 := (HO4.out.at'.cell k (by rw [HL'.out]; omega)).c3
    have f3 := HO4.out.at'.free (k * 5 + 3)
    simp only at c3
    go_wp2
    go_ret
    exact ⟨_, rfl, anyT_put Hs.out HC4.out HGR4.out HO4.out HL'.out (by rw [List.length_set]; exact HL'.out) (HO4.out.at'.put3 k (by rw [HL'.out]; omega) _)⟩
  have h3' : ¬ (q : Int) = 3 := by omega
  clear hcell ff
  go_wp2
  go_ret
  exact ⟨_, rfl, ⟨gt, ct, ts', rs', by rw [HL'.out]; rfl, by have := HL'.out; omega, HO.out⟩, HC3.out, HGR3.out⟩
/-- What DrawTreeSplit hands over. -/
def SplitDrawn (w : World) (e : Ending) (w' : World) : Prop := ∃ (gt c : Nat) (ts : List Re) (rs : List Value) (i x y z : Int), e = .returned (.tuple #[.slice (some ⟨gt, 0, none⟩) ts.length c, .int .i64 i, amt x y z]) ∧ ts.length ≤ 5 ∧ OwnT gt c ts rs w.heap.size w'.heap.size w' ∧ Below w.heap.size w w'
end Go.Proofs.YtfcenombphodbaaDoor
