/-
  A thing is put: the program. Edges: the program's and the model's. What is done to a right arena leaves it right. A thing is put: the model. Marks on an arena, held. A new arena: the model's and the program's. An arena is drawn.
-/
import Derived.Test.YtokicnopfmokaaaFre9
import Derived.Test.YtokicnopfmokaaaEdge9
import Derived.Test.YtokicnopfmokaaaHandI
import Derived.Test.YtokicnopfmokaaaHand
import Derived.Test.YtokicnopfmokaaaArOkI
import Derived.Test.YtokicnopfmokaaaArOkS
import Derived.Test.YtokicnopfmokaaaMarkA
import Derived.Test.YtokicnopfmokaaaGrow9
namespace Go.Proofs.Ytokicnopfmokaaa
open Go.RowKit
set_option linter.unusedVariables false
set_option maxRecDepth 100000

/-- The arena with a thing in slot k, in the next generation. -/
def putL (os : List Ob) (o : Ob) (k : Nat) : List Ob := os.set k { o with gen := (obAt os k).gen + 1 }
def putB (os : List Ob) (o : Ob) : Bool := arenaOk os && (!(o.kind == 0) && (decide (0 ≤ firstFill os) && arenaOk (putL os o (firstFill os).toNat)))
def putOf (os : List Ob) (o : Ob) : List Ob := if putB os o then putL os o (firstFill os).toNat else os
def putI (os : List Ob) (o : Ob) : Int := if putB os o then firstFill os else -1
def PutAns (os : List Ob) (x : Int) (w : World) (e : Ending) (w' : World) : Prop := ∃ g c fs rest, e = .returned (.tuple #[.slice (some ⟨g, 0, none⟩) os.length c, .int .i64 x]) ∧ arOf fs = os ∧ OwnA g c fs rest w.heap.size w'.heap.size w' ∧ Below w.heap.size w w'
theorem PutAns.no {os : List Ob} {o : Ob} (h : putB os o = false) : putOf os o = os ∧ putI os o = -1 := ⟨by unfold putOf; rw [h]; rfl, by unfold putI; rw [h]; rfl⟩
theorem firstFill_fills {os : List Ob} {k : Nat} (h : firstFill os = k) : k < os.length ∧ fills (obAt os k) = true := by
  unfold firstFill at h
  split at h
  · rename_i j hj
    obtain rfl : j = k := by omega
    obtain ⟨hl, hp, _⟩ := List.findIdx?_eq_some_iff_getElem.1 hj
    exact ⟨hl, by rw [obAt_in hl]; exact hp⟩
  · omega
theorem putL_length (os : List Ob) (o : Ob) (k : Nat) : (putL os o k).length = os.length := by simp [putL]
theorem putL_obs (os : List Ob) (o : Ob) (k i : Nat) : obAt (putL os o k) i = { o with gen := (obAt os k).gen + 1 } ∧ i = k ∧ k < os.length ∨ obAt (putL os o k) i = obAt os i := by
  unfold putL obAt List.getD
  rw [List.getElem?_set]
  by_cases e : k = i
  · rw [if_pos e]
    by_cases h : k < os.length
    · rw [if_pos h]; exact .inl ⟨rfl, e.symm, h⟩
    · rw [if_neg h]; right; rw [List.getElem?_eq_none (by omega)]
  · rw [if_neg e]; exact .inr rfl
theorem putL_small {os : List Ob} {o : Ob} (hs : Small8 os) (ho : obN o ≤ 1048576) (k : Nat) : Small8 (putL os o k) := fun i => by
  rcases putL_obs os o k i with ⟨h, _⟩ | h
  · rw [h]; exact ho
  · rw [h]; exact hs i
/-- One number of a thing of the call's own is written. -/
theorem OwnA.gen {g cap : Nat} {es : List El} {rest : List Value} {lo hi : Nat} {w : World} (h : OwnA g cap es rest lo hi w) {k : Nat} (hk : k < es.length) (x : Int) :
    OwnA g cap (es.set k ⟨{ (elAt es k).o with gen := x }, (elAt es k).l, (elAt es k).d, (elAt es k).m⟩) rest lo hi (w.setCell ⟨g, k * 13, none⟩ (.int .i64 x)) := by
  have hgz := lt_of_block h.at'
  have hoo := h.own k hk
  have hne := h.ne k hk
  have HTW : Touch [g] w (w.setCell ⟨g, k * 13, none⟩ (.int .i64 x)) := touch_one (grownBy_set w g _ _) hgz
  have hk3 : ∀ b y, b ∈ blks (elAt es k) → w.heap[b]? = some y → (w.setCell ⟨g, k * 13, none⟩ (.int .i64 x)).heap[b]? = some y := fun b y hb hy => HTW.block _ _ (by simp; intro e; rw [e] at hb; exact hne hb) hy
  refine h.mark hk (o' := { (elAt es k).o with gen := x }) ?_ ⟨hoo.ls.keepIf fun b y hb hy => hk3 b y (by unfold blks; simp [hb]) hy, hoo.ds.keepIf fun b y hb hy => hk3 b y (by unfold blks; simp [hb]) hy, hoo.qs.keepIf fun b y hb hy => hk3 b y (by unfold blks; simp [hb]) hy, hoo.nd⟩ (fun b y hbg _ hy => HTW.block _ _ (by simpa using hbg) hy)
  have e := heap_setCell_same w g (k * 13) _ 28 (.int .i64 x) h.at'
  rw [e, ecells_put1 hk rest ⟨{ (elAt es k).o with gen := x }, (elAt es k).l, (elAt es k).d, (elAt es k).m⟩ 0 (.int .i64 x) (by decide) (by simp [elV])]
  simp only [List.setIfInBounds_toArray]
  rfl
set_option maxRecDepth 100000 in
set_option maxHeartbeats 8000000 in
theorem implPut_any (p : Addr) (cap : Nat) (os : List Ob) (o : Ob) (l d m : Value) (w : World) (hx : IsArena w (.slice (some p) os.length cap) os) (hy : Lists w l d m o) (hn : os.length ≤ 1048576) (hs : Small8 os) (ho : obN o ≤ 1048576) :
    Calls Try.prog 6 #[.slice (some p) os.length cap, obV o l d m] w fun e w' => PutAns (putOf os o) (putI os o) w e w' := by
  have HC : Hid (∀ w', Below w.heap.size w w' → Calls Try.prog 19 #[.slice (some p) os.length cap] w' fun e w'' => ArenaOwn os w' e w'') := fun w' hb => implCopyA_any p _ cap os w' (hx.on hb) rfl hn hs
  have HA : Hid (∀ w', Below w.heap.size w w' → Calls Try.prog 20 #[.slice (some p) os.length cap] w' fun e w'' => e = .returned (.bool (arenaOk os)) ∧ Below w'.heap.size w' w'') := fun w' hb => implArenaOk_any _ os w' (hx.on hb) hn hs
  have HF : Hid (∀ v w', IsArena w' v os → Calls Try.prog 21 #[v, .func (.func 22) #[] #[]] w' fun e w'' => e = .returned (.int .i64 (firstFill os)) ∧ Below w'.heap.size w' w'') := fun v w' h => indexFill_any v os w' h hn
  have HO : Hid (∀ w', Below w.heap.size w w' → Calls Try.prog 23 #[obV o l d m] w' fun e w'' => (∃ l' d' m', e = .returned (obV o l' d' m') ∧ OwnO w'.heap.size w''.heap.size w'' l' d' m' o) ∧ Below w'.heap.size w' w'') := fun w' hb => implCloneO_any o l d m w' (hy.on hb) ho
  have HB0 : Hid (Below w.heap.size w (w.alloc (boxO o l d m))) := below_alloc w _
  have HBX : Hid ((w.alloc (boxO o l d m)).heap[w.heap.size]? = some (boxO o l d m)) := heap_alloc_new w _
  have hcap : os.length ≤ cap := by obtain ⟨_, _, hv, h, _⟩ := hx; cases hv; exact h
  have HG : Hid (∀ k, k < os.length → arenaOk os = true → 0 ≤ (obAt os k).gen ∧ (obAt os k).gen ≤ 999) := fun k hk h => by
    have hall : os.all obOk = true := by unfold arenaOk at h; simp only [Bool.and_eq_true] at h; exact h.2.1
    have e := obOk_at hall hk
    unfold obOk at e
    simp only [Bool.and_eq_true] at e
    exact inB_true e.1
  have HP : Hid (∀ k w' v, IsArena w' v (putL os o k) → Calls Try.prog 20 #[v] w' fun e w'' => e = .returned (.bool (arenaOk (putL os o k))) ∧ Below w'.heap.size w' w'') := fun k w' v h => implArenaOk_any v _ w' h (by rw [putL_length]; exact hn) (putL_small hs ho k)
  clear hx hy hs ho
  cases hv : arenaOk os with
  | false =>
    obtain ⟨e1, e2⟩ := PutAns.no (os := os) (o := o) (by unfold putB; rw [hv]; rfl)
    rw [e1, e2]
    simp only [hv] at HA
    clear hv e1 e2 HF HO HG HP
    go_enter Try.func6, Try.ntmps6
    go_wp2_with fail
    refine (HC.out _ HB0.out).mono ?_
    rintro e w1 ⟨g, c, fs, rest, rfl, hfs, hown, hb1⟩
    have HB1 : Hid (Below w.heap.size w w1) := below_more HB0.out hb1
    have HOWN : Hid (arOf fs = os ∧ OwnA g c fs rest w.heap.size w1.heap.size w1) := ⟨hfs, hown.wide HB0.out.size (Nat.le_refl _)⟩
    have HBX1 : Hid (w1.heap[w.heap.size]? = some (boxO o l d m)) := keep HBX.out hb1
    clear hfs hown hb1
    go_wp2_with fail
    refine (HA.out _ HB1.out).mono ?_
    rintro e w2 ⟨rfl, hb2⟩
    have HB2 : Hid (Below w1.heap.size w1 w2) := hb2
    have HBX2 : Hid (w2.heap[w.heap.size]? = some (boxO o l d m)) := keep HBX1.out hb2
    clear hb2
    go_wp2
    go_returns
    exact ⟨g, c, fs, rest, rfl, HOWN.out.1, (HOWN.out.2.on HB2.out).wide (Nat.le_refl _) HB2.out.size, below_more HB1.out HB2.out⟩
  | true =>
    simp only [hv] at HA
    by_cases hz : o.kind = 0
    · obtain ⟨e1, e2⟩ := PutAns.no (os := os) (o := o) (by unfold putB; rw [hv, hz]; rfl)
      rw [e1, e2]
      have qz : (o.kind == 0) = true := beq_iff_eq.2 hz
      clear hv e1 e2 HF HO HG HP hz
      go_enter Try.func6, Try.ntmps6
      go_wp2_with fail
      refine (HC.out _ HB0.out).mono ?_
      rintro e w1 ⟨g, c, fs, rest, rfl, hfs, hown, hb1⟩
      have HB1 : Hid (Below w.heap.size w w1) := below_more HB0.out hb1
      have HOWN : Hid (arOf fs = os ∧ OwnA g c fs rest w.heap.size w1.heap.size w1) := ⟨hfs, hown.wide HB0.out.size (Nat.le_refl _)⟩
      have HBX1 : Hid (w1.heap[w.heap.size]? = some (boxO o l d m)) := keep HBX.out hb1
      clear hfs hown hb1
      go_wp2_with fail
      refine (HA.out _ HB1.out).mono ?_
      rintro e w2 ⟨rfl, hb2⟩
      have HB2 : Hid (Below w1.heap.size w1 w2) := hb2
      have HBX2 : Hid (w2.heap[w.heap.size]? = some (boxO o l d m)) := keep HBX1.out hb2
      clear hb2
      have b1 : w2.cell? ⟨w.heap.size, 1, none⟩ = some (.int .i64 o.kind) := by simp [World.cell?, HBX2.out]
      go_wp2
      go_returns
      exact ⟨g, c, fs, rest, rfl, HOWN.out.1, (HOWN.out.2.on HB2.out).wide (Nat.le_refl _) HB2.out.size, below_more HB1.out HB2.out⟩
    · have qz : (o.kind == 0) = false := beq_eq_false_iff_ne.2 hz
      have HNZ := hid_of hz
      clear hz
      rcases firstFill_le os with hff | hff
      rotate_left
      · obtain ⟨e1, e2⟩ := PutAns.no (os := os) (o := o) (by unfold putB; rw [hff]; simp)
        rw [e1, e2]
        rw [hff] at HF
        clear hv e1 e2 HO HG HP hff
        go_enter Try.func6, Try.ntmps6
        go_wp2_with fail
        refine (HC.out _ HB0.out).mono ?_
        rintro e w1 ⟨g, c, fs, rest, rfl, hfs, hown, hb1⟩
        have HB1 : Hid (Below w.heap.size w w1) := below_more HB0.out hb1
        have HOWN : Hid (arOf fs = os ∧ OwnA g c fs rest w.heap.size w1.heap.size w1) := ⟨hfs, hown.wide HB0.out.size (Nat.le_refl _)⟩
        have HBX1 : Hid (w1.heap[w.heap.size]? = some (boxO o l d m)) := keep HBX.out hb1
        clear hfs hown hb1
        go_wp2_with fail
        refine (HA.out _ HB1.out).mono ?_
        rintro e w2 ⟨rfl, hb2⟩
        have HB2 : Hid (Below w1.heap.size w1 w2) := hb2
        have HBX2 : Hid (w2.heap[w.heap.size]? = some (boxO o l d m)) := keep HBX1.out hb2
        clear hb2
        have b1 : w2.cell? ⟨w.heap.size, 1, none⟩ = some (.int .i64 o.kind) := by simp [World.cell?, HBX2.out]
        go_wp2_with fail
        refine (HF.out _ _ (by rw [← HOWN.out.1, arOf_length]; exact (HOWN.out.2.on HB2.out).arena)).mono ?_
        rintro e w3 ⟨rfl, hb3⟩
        have HB3 : Hid (Below w1.heap.size w1 w3) := below_more HB2.out hb3
        clear hb3 b1
        go_wp2
        go_returns
        exact ⟨g, c, fs, rest, rfl, HOWN.out.1, (HOWN.out.2.on HB3.out).wide (Nat.le_refl _) HB3.out.size, below_more HB1.out HB3.out⟩
      · by_cases hm1 : firstFill os = -1
        · obtain ⟨e1, e2⟩ := PutAns.no (os := os) (o := o) (by unfold putB; rw [hm1]; simp)
          rw [e1, e2]
          rw [hm1] at HF
          clear hv e1 e2 HO HG HP hff hm1
          go_enter Try.func6, Try.ntmps6
          go_wp2_with fail
          refine (HC.out _ HB0.out).mono ?_
          rintro e w1 ⟨g, c, fs, rest, rfl, hfs, hown, hb1⟩
          have HB1 : Hid (Below w.heap.size w w1) := below_more HB0.out hb1
          have HOWN : Hid (arOf fs = os ∧ OwnA g c fs rest w.heap.size w1.heap.size w1) := ⟨hfs, hown.wide HB0.out.size (Nat.le_refl _)⟩
          have HBX1 : Hid (w1.heap[w.heap.size]? = some (boxO o l d m)) := keep HBX.out hb1
          clear hfs hown hb1
          go_wp2_with fail
          refine (HA.out _ HB1.out).mono ?_
          rintro e w2 ⟨rfl, hb2⟩
          have HB2 : Hid (Below w1.heap.size w1 w2) := hb2
          have HBX2 : Hid (w2.heap[w.heap.size]? = some (boxO o l d m)) := keep HBX1.out hb2
          clear hb2
          have b1 : w2.cell? ⟨w.heap.size, 1, none⟩ = some (.int .i64 o.kind) := by simp [World.cell?, HBX2.out]
          go_wp2_with fail
          refine (HF.out _ _ (by rw [← HOWN.out.1, arOf_length]; exact (HOWN.out.2.on HB2.out).arena)).mono ?_
          rintro e w3 ⟨rfl, hb3⟩
          have HB3 : Hid (Below w1.heap.size w1 w3) := below_more HB2.out hb3
          clear hb3 b1
          go_wp2
          go_returns
          exact ⟨g, c, fs, rest, rfl, HOWN.out.1, (HOWN.out.2.on HB3.out).wide (Nat.le_refl _) HB3.out.size, below_more HB1.out HB3.out⟩
        · obtain ⟨k, hfk⟩ : ∃ k : Nat, firstFill os = k := ⟨(firstFill os).toNat, by omega⟩
          obtain ⟨hk, hfil⟩ := firstFill_fills hfk
          have hgn := HG.out k hk hv
          have hw : wrap64 ((obAt os k).gen + 1) = (obAt os k).gen + 1 := by unfold wrap64; omega
          rw [hfk] at HF
          have HOK : Hid (arenaOk os = true) := hv
          have HFK : Hid (firstFill os = k) := hfk
          have HPK := hid_of (HP.out k)
          clear HG HP hff hm1 hfil hv hfk hgn
          have hk0 : ¬ ((k : Int) < 0) := by omega
          cases hr : arenaOk (putL os o k) with
          | true =>
            rw [hr] at HPK
            have HPB : Hid (putB os o = true) := by show _ = _; unfold putB; rw [HOK.out, HFK.out, Int.toNat_natCast, hr, qz]; simp
            have e1 : putOf os o = putL os o k := by unfold putOf; rw [HPB.out, HFK.out, Int.toNat_natCast]; rfl
            have e2 : putI os o = k := by unfold putI; rw [HPB.out, HFK.out]; rfl
            rw [e1, e2]
            clear e1 e2 hr
            go_enter Try.func6, Try.ntmps6
            go_wp2_with fail
            refine (HC.out _ HB0.out).mono ?_
            rintro e w1 ⟨g, c, fs, rest, rfl, hfs, hown, hb1⟩
            have HB1 : Hid (Below w.heap.size w w1) := below_more HB0.out hb1
            have HOWN : Hid (arOf fs = os ∧ OwnA g c fs rest w.heap.size w1.heap.size w1) := ⟨hfs, hown.wide HB0.out.size (Nat.le_refl _)⟩
            have HBX1 : Hid (w1.heap[w.heap.size]? = some (boxO o l d m)) := keep HBX.out hb1
            clear hfs hown hb1
            go_wp2_with fail
            refine (HA.out _ HB1.out).mono ?_
            rintro e w2 ⟨rfl, hb2⟩
            have HB2 : Hid (Below w1.heap.size w1 w2) := hb2
            have HBX2 : Hid (w2.heap[w.heap.size]? = some (boxO o l d m)) := keep HBX1.out hb2
            clear hb2
            have b1 : w2.cell? ⟨w.heap.size, 1, none⟩ = some (.int .i64 o.kind) := by simp [World.cell?, HBX2.out]
            go_wp2_with fail
            refine (HF.out _ _ (by rw [← HOWN.out.1, arOf_length]; exact (HOWN.out.2.on HB2.out).arena)).mono ?_
            rintro e w3 ⟨rfl, hb3⟩
            have HB3 : Hid (Below w1.heap.size w1 w3) := below_more HB2.out hb3
            have HBX3 : Hid (w3.heap[w.heap.size]? = some (boxO o l d m)) := keep HBX2.out hb3
            have HOWN3 : Hid (arOf fs = os ∧ OwnA g c fs rest w.heap.size w3.heap.size w3) := ⟨HOWN.out.1, (HOWN.out.2.on HB3.out).wide (Nat.le_refl _) HB3.out.size⟩
            clear hb3 b1
            have hfl : fs.length = os.length := by rw [← HOWN.out.1, arOf_length]
            have hkf : k < fs.length := by rw [hfl]; exact hk
            obtain ⟨d0, d1, d2, d3, d4, d5, d6, d7, d8, d9, d10, d11, d12⟩ := HOWN3.out.2.cells hkf
            rw [show (elAt fs k).o = obAt os k by rw [← arOf_at, HOWN.out.1]] at d0
            have HB03 := hid_of (below_more HB1.out HB3.out)
            have b0 : w3.cell? ⟨w.heap.size, 0, none⟩ = some (.int .i64 o.gen) := by simp [World.cell?, HBX3.out]
            have b1 : w3.cell? ⟨w.heap.size, 1, none⟩ = some (.int .i64 o.kind) := by simp [World.cell?, HBX3.out]
            have b2 : w3.cell? ⟨w.heap.size, 2, none⟩ = some (.int .i64 o.into) := by simp [World.cell?, HBX3.out]
            have b3 : w3.cell? ⟨w.heap.size, 3, none⟩ = some (.int .i64 o.res) := by simp [World.cell?, HBX3.out]
            have b4 : w3.cell? ⟨w.heap.size, 4, none⟩ = some (.int .i64 o.unt) := by simp [World.cell?, HBX3.out]
            have b5 : w3.cell? ⟨w.heap.size, 5, none⟩ = some (.int .i64 o.pages) := by simp [World.cell?, HBX3.out]
            have b6 : w3.cell? ⟨w.heap.size, 6, none⟩ = some (.int .i64 o.wait) := by simp [World.cell?, HBX3.out]
            have b7 : w3.cell? ⟨w.heap.size, 7, none⟩ = some (.int .i64 o.got) := by simp [World.cell?, HBX3.out]
            have b8 : w3.cell? ⟨w.heap.size, 8, none⟩ = some (.int .i64 o.ran) := by simp [World.cell?, HBX3.out]
            have b9 : w3.cell? ⟨w.heap.size, 9, none⟩ = some (.bool o.mark) := by simp [World.cell?, HBX3.out]
            have b10 : w3.cell? ⟨w.heap.size, 10, none⟩ = some (l) := by simp [World.cell?, HBX3.out]
            have b11 : w3.cell? ⟨w.heap.size, 11, none⟩ = some (d) := by simp [World.cell?, HBX3.out]
            have b12 : w3.cell? ⟨w.heap.size, 12, none⟩ = some (m) := by simp [World.cell?, HBX3.out]
            have hlc : os.length ≤ c := by have e := HOWN.out.2.cap; rw [hfl] at e; exact e
            obtain ⟨x, hx0⟩ : ∃ x, x = (obAt os k).gen := ⟨_, rfl⟩
            rw [← hx0] at d0 hw
            have HX0 := hid_of hx0
            clear hx0
            go_wp2_with fail
            refine (HO.out _ HB03.out).mono ?_
            rintro e w4 ⟨⟨l', d', m', rfl, hoo⟩, hb4⟩
            have HB4 := hid_of (below_more HB3.out hb4)
            have HOWN4 : Hid (OwnA g c fs rest w.heap.size w3.heap.size w4) := HOWN3.out.2.on hb4
            have hput := HOWN4.out.put (e := ⟨o, l', d', m'⟩) hoo hb4.size hkf
            have HARP : Hid (arOf (fs.set k ⟨o, l', d', m'⟩) = os.set k o) := by show arOf _ = _; rw [arOf_set, HOWN.out.1]
            have hkf2 : k < (fs.set k ⟨o, l', d', m'⟩).length := by rw [List.length_set]; exact hkf
            have hgen := hput.gen hkf2 (x + 1)
            rw [elAt_set_same hkf] at hgen
            have HFIN : Hid (arOf ((fs.set k ⟨o, l', d', m'⟩).set k ⟨{ o with gen := x + 1 }, l', d', m'⟩) = putL os o k) := by
              show arOf _ = _
              rw [arOf_set, HARP.out, List.set_set, HX0.out]; rfl
            have HGEN : Hid (OwnA g c ((fs.set k ⟨o, l', d', m'⟩).set k ⟨{ o with gen := x + 1 }, l', d', m'⟩) rest w.heap.size w4.heap.size ((w13 w4 g (k * 13) o l' d' m').setCell ⟨g, k * 13, none⟩ (.int .i64 (x + 1)))) := hgen
            have HBG : Hid (Below w.heap.size w ((w13 w4 g (k * 13) o l' d' m').setCell ⟨g, k * 13, none⟩ (.int .i64 (x + 1)))) := (below_w13 (below_more HB1.out HB4.out) HOWN.out.2.lo _ _ _ _ _).setCell HOWN.out.2.lo _
            have HPC := HPK.out ((w13 w4 g (k * 13) o l' d' m').setCell ⟨g, k * 13, none⟩ (.int .i64 (x + 1))) (.slice (some ⟨g, 0, none⟩) os.length c) (by have e := HGEN.out.arena; rw [HFIN.out, List.length_set, List.length_set, hfl] at e; exact e)
            have HPC2 := hid_of HPC
            obtain ⟨q0, q1, q2, q3, q4, q5, q6, q7, q8, q9, q10, q11, q12⟩ := HOWN4.out.cells hkf
            have hff := HOWN4.out.free
            have f0 := hff (k * 13)
            have f1 := hff (k * 13 + 1)
            have f2 := hff (k * 13 + 2)
            have f3 := hff (k * 13 + 3)
            have f4 := hff (k * 13 + 4)
            have f5 := hff (k * 13 + 5)
            have f6 := hff (k * 13 + 6)
            have f7 := hff (k * 13 + 7)
            have f8 := hff (k * 13 + 8)
            have f9 := hff (k * 13 + 9)
            have f10 := hff (k * 13 + 10)
            have f11 := hff (k * 13 + 11)
            have f12 := hff (k * 13 + 12)
            have hq0 := (hput.cells hkf2).c0
            have hqf := hput.free (k * 13)
            rw [elAt_set_same hkf] at hq0
            obtain ⟨x1, y1, rfl, _⟩ := id hoo.ls
            obtain ⟨x2, y2, rfl, _⟩ := id hoo.ds
            obtain ⟨x3, y3, rfl, _⟩ := id hoo.qs
            clear hoo hb4 hput hgen HPC hff HOWN3 HBX3 b0 b1 b2 b3 b4 b5 b6 b7 b8 b9 b10 b11 b12 d0 d1 d2 d3 d4 d5 d6 d7 d8 d9 d10 d11 d12
            go_wp2_with fail
            refine HPC2.out.mono ?_
            rintro e w5 ⟨rfl, hb5⟩
            have HZ : Hid (OwnA g c ((fs.set k ⟨o, .slice x1 o.ls.length y1, .slice x2 o.ds.length y2, .slice x3 o.qs.length y3⟩).set k ⟨{ o with gen := x + 1 }, .slice x1 o.ls.length y1, .slice x2 o.ds.length y2, .slice x3 o.qs.length y3⟩) rest w.heap.size w5.heap.size w5 ∧ Below w.heap.size w w5) := ⟨(HGEN.out.on hb5).fit, below_more HBG.out hb5⟩
            clear hb5
            go_wp2
            go_returns
            exact ⟨g, c, _, rest, by rw [putL_length]; rfl, HFIN.out, HZ.out.1, HZ.out.2⟩
          | false =>
            rw [hr] at HPK
            have HPB : Hid (putB os o = false) := by show _ = _; unfold putB; rw [HOK.out, HFK.out, Int.toNat_natCast, hr, qz]; simp
            obtain ⟨e1, e2⟩ := PutAns.no HPB.out
            rw [e1, e2]
            clear e1 e2 hr
            go_enter Try.func6, Try.ntmps6
            go_wp2_with fail
            refine (HC.out _ HB0.out).mono ?_
            rintro e w1 ⟨g, c, fs, rest, rfl, hfs, hown, hb1⟩
            have HB1 : Hid (Below w.heap.size w w1) := below_more HB0.out hb1
            have HOWN : Hid (arOf fs = os ∧ OwnA g c fs rest w.heap.size w1.heap.size w1) := ⟨hfs, hown.wide HB0.out.size (Nat.le_refl _)⟩
            have HBX1 : Hid (w1.heap[w.heap.size]? = some (boxO o l d m)) := keep HBX.out hb1
            clear hfs hown hb1
            go_wp2_with fail
            refine (HA.out _ HB1.out).mono ?_
            rintro e w2 ⟨rfl, hb2⟩
            have HB2 : Hid (Below w1.heap.size w1 w2) := hb2
            have HBX2 : Hid (w2.heap[w.heap.size]? = some (boxO o l d m)) := keep HBX1.out hb2
            clear hb2
            have b1 : w2.cell? ⟨w.heap.size, 1, none⟩ = some (.int .i64 o.kind) := by simp [World.cell?, HBX2.out]
            go_wp2_with fail
            refine (HF.out _ _ (by rw [← HOWN.out.1, arOf_length]; exact (HOWN.out.2.on HB2.out).arena)).mono ?_
            rintro e w3 ⟨rfl, hb3⟩
            have HB3 : Hid (Below w1.heap.size w1 w3) := below_more HB2.out hb3
            have HBX3 : Hid (w3.heap[w.heap.size]? = some (boxO o l d m)) := keep HBX2.out hb3
            have HOWN3 : Hid (arOf fs = os ∧ OwnA g c fs rest w.heap.size w3.heap.size w3) := ⟨HOWN.out.1, (HOWN.out.2.on HB3.out).wide (Nat.le_refl _) HB3.out.size⟩
            clear hb3 b1
            have hfl : fs.length = os.length := by rw [← HOWN.out.1, arOf_length]
            have hkf : k < fs.length := by rw [hfl]; exact hk
            obtain ⟨d0, d1, d2, d3, d4, d5, d6, d7, d8, d9, d10, d11, d12⟩ := HOWN3.out.2.cells hkf
            rw [show (elAt fs k).o = obAt os k by rw [← arOf_at, HOWN.out.1]] at d0
            have HB03 := hid_of (below_more HB1.out HB3.out)
            have b0 : w3.cell? ⟨w.heap.size, 0, none⟩ = some (.int .i64 o.gen) := by simp [World.cell?, HBX3.out]
            have b1 : w3.cell? ⟨w.heap.size, 1, none⟩ = some (.int .i64 o.kind) := by simp [World.cell?, HBX3.out]
            have b2 : w3.cell? ⟨w.heap.size, 2, none⟩ = some (.int .i64 o.into) := by simp [World.cell?, HBX3.out]
            have b3 : w3.cell? ⟨w.heap.size, 3, none⟩ = some (.int .i64 o.res) := by simp [World.cell?, HBX3.out]
            have b4 : w3.cell? ⟨w.heap.size, 4, none⟩ = some (.int .i64 o.unt) := by simp [World.cell?, HBX3.out]
            have b5 : w3.cell? ⟨w.heap.size, 5, none⟩ = some (.int .i64 o.pages) := by simp [World.cell?, HBX3.out]
            have b6 : w3.cell? ⟨w.heap.size, 6, none⟩ = some (.int .i64 o.wait) := by simp [World.cell?, HBX3.out]
            have b7 : w3.cell? ⟨w.heap.size, 7, none⟩ = some (.int .i64 o.got) := by simp [World.cell?, HBX3.out]
            have b8 : w3.cell? ⟨w.heap.size, 8, none⟩ = some (.int .i64 o.ran) := by simp [World.cell?, HBX3.out]
            have b9 : w3.cell? ⟨w.heap.size, 9, none⟩ = some (.bool o.mark) := by simp [World.cell?, HBX3.out]
            have b10 : w3.cell? ⟨w.heap.size, 10, none⟩ = some (l) := by simp [World.cell?, HBX3.out]
            have b11 : w3.cell? ⟨w.heap.size, 11, none⟩ = some (d) := by simp [World.cell?, HBX3.out]
            have b12 : w3.cell? ⟨w.heap.size, 12, none⟩ = some (m) := by simp [World.cell?, HBX3.out]
            have hlc : os.length ≤ c := by have e := HOWN.out.2.cap; rw [hfl] at e; exact e
            obtain ⟨x, hx0⟩ : ∃ x, x = (obAt os k).gen := ⟨_, rfl⟩
            rw [← hx0] at d0 hw
            have HX0 := hid_of hx0
            clear hx0
            go_wp2_with fail
            refine (HO.out _ HB03.out).mono ?_
            rintro e w4 ⟨⟨l', d', m', rfl, hoo⟩, hb4⟩
            have HB4 := hid_of (below_more HB3.out hb4)
            have HOWN4 : Hid (OwnA g c fs rest w.heap.size w3.heap.size w4) := HOWN3.out.2.on hb4
            have hput := HOWN4.out.put (e := ⟨o, l', d', m'⟩) hoo hb4.size hkf
            have HARP : Hid (arOf (fs.set k ⟨o, l', d', m'⟩) = os.set k o) := by show arOf _ = _; rw [arOf_set, HOWN.out.1]
            have hkf2 : k < (fs.set k ⟨o, l', d', m'⟩).length := by rw [List.length_set]; exact hkf
            have hgen := hput.gen hkf2 (x + 1)
            rw [elAt_set_same hkf] at hgen
            have HFIN : Hid (arOf ((fs.set k ⟨o, l', d', m'⟩).set k ⟨{ o with gen := x + 1 }, l', d', m'⟩) = putL os o k) := by
              show arOf _ = _
              rw [arOf_set, HARP.out, List.set_set, HX0.out]; rfl
            have HGEN : Hid (OwnA g c ((fs.set k ⟨o, l', d', m'⟩).set k ⟨{ o with gen := x + 1 }, l', d', m'⟩) rest w.heap.size w4.heap.size ((w13 w4 g (k * 13) o l' d' m').setCell ⟨g, k * 13, none⟩ (.int .i64 (x + 1)))) := hgen
            have HBG : Hid (Below w.heap.size w ((w13 w4 g (k * 13) o l' d' m').setCell ⟨g, k * 13, none⟩ (.int .i64 (x + 1)))) := (below_w13 (below_more HB1.out HB4.out) HOWN.out.2.lo _ _ _ _ _).setCell HOWN.out.2.lo _
            have HPC := HPK.out ((w13 w4 g (k * 13) o l' d' m').setCell ⟨g, k * 13, none⟩ (.int .i64 (x + 1))) (.slice (some ⟨g, 0, none⟩) os.length c) (by have e := HGEN.out.arena; rw [HFIN.out, List.length_set, List.length_set, hfl] at e; exact e)
            have HPC2 := hid_of HPC
            obtain ⟨q0, q1, q2, q3, q4, q5, q6, q7, q8, q9, q10, q11, q12⟩ := HOWN4.out.cells hkf
            have hff := HOWN4.out.free
            have f0 := hff (k * 13)
            have f1 := hff (k * 13 + 1)
            have f2 := hff (k * 13 + 2)
            have f3 := hff (k * 13 + 3)
            have f4 := hff (k * 13 + 4)
            have f5 := hff (k * 13 + 5)
            have f6 := hff (k * 13 + 6)
            have f7 := hff (k * 13 + 7)
            have f8 := hff (k * 13 + 8)
            have f9 := hff (k * 13 + 9)
            have f10 := hff (k * 13 + 10)
            have f11 := hff (k * 13 + 11)
            have f12 := hff (k * 13 + 12)
            have hq0 := (hput.cells hkf2).c0
            have hqf := hput.free (k * 13)
            rw [elAt_set_same hkf] at hq0
            obtain ⟨x1, y1, rfl, _⟩ := id hoo.ls
            obtain ⟨x2, y2, rfl, _⟩ := id hoo.ds
            obtain ⟨x3, y3, rfl, _⟩ := id hoo.qs
            clear hoo hb4 hput hgen HPC hff HOWN3 HBX3 b0 b1 b2 b3 b4 b5 b6 b7 b8 b9 b10 b11 b12 d0 d1 d2 d3 d4 d5 d6 d7 d8 d9 d10 d11 d12
            go_wp2_with fail
            refine HPC2.out.mono ?_
            rintro e w5 ⟨rfl, hb5⟩
            have HB5 := hid_of (below_more HBG.out hb5)
            clear hb5
            go_wp2_with fail
            refine (HC.out _ HB5.out).mono ?_
            rintro e w6 ⟨g6, c6, fs6, rest6, rfl, hfs6, hown6, hb6⟩
            have HZ : Hid (arOf fs6 = os ∧ OwnA g6 c6 fs6 rest6 w.heap.size w6.heap.size w6 ∧ Below w.heap.size w w6) := ⟨hfs6, hown6.wide HB5.out.size (Nat.le_refl _), below_more HB5.out hb6⟩
            clear hfs6 hown6 hb6
            go_wp2
            go_returns
            exact ⟨g6, c6, fs6, rest6, rfl, HZ.out.1, HZ.out.2.1, HZ.out.2.2⟩
end Go.Proofs.Ytokicnopfmokaaa
namespace Go.Proofs.Ytokicnopfmokaaa
open Go.RowKit
set_option linter.unusedVariables false
set_option maxRecDepth 100000

def edgesAns (os : List Ob) (i : Int) : List Int := if arenaOk os && inB i 0 9 then edgesTo os i.toNat os.length else []
theorem edgesTo_none {os : List Ob} {i : Nat} (h : ∀ k, edgeB os i k = false) : ∀ n, edgesTo os i n = []
  | 0 => rfl
  | n + 1 => by rw [edgesTo_no (h n), edgesTo_none h n]
theorem edge_dead {os : List Ob} {i : Nat} (hok : obOk (obAt os i) = true) (hz : (obAt os i).kind = 0) (k : Nat) : edgeB os i k = false := by
  unfold edgeB holdsB
  rw [hz, (zero_into hok hz).2]
  rfl
theorem arenaOk_parts {os : List Ob} (h : arenaOk os = true) : os.length = 10 ∧ os.all obOk = true ∧ rootB (obAt os 0) = true ∧ os.all (leadsB os) = true := by
  unfold arenaOk at h
  simp only [Bool.and_eq_true, decide_eq_true_eq] at h
  exact h
theorem holds_zero {os : List Ob} (h : arenaOk os = true) (i : Nat) : holdsB os i 0 = false := by
  unfold holdsB
  rw [root_into (arenaOk_parts h).2.2.1, show ((-1 : Int) == (i : Int)) = false from beq_eq_false_iff_ne.2 (by omega)]
  simp
theorem edgesAns_len (os : List Ob) (i : Int) (h : os.length ≤ 1048576) : (edgesAns os i).length ≤ 1048576 := by
  unfold edgesAns
  split
  · exact Nat.le_trans (edgesTo_len _ _ _) h
  · simp
end Go.Proofs.Ytokicnopfmokaaa
namespace Go.Proofs.Ytokicnopfmokaaa
open Go.RowKit
set_option linter.unusedVariables false
set_option maxRecDepth 100000

theorem obOk_few {o : Ob} (h : obOk o = true) : obN o ≤ 12 := by
  have hc : commonB o = true → o.ls.length = 2 ∧ o.pages ≤ 8 := fun h => by
    unfold commonB at h
    simp only [Bool.and_eq_true, decide_eq_true_eq] at h
    exact ⟨h.2.2.2.2.1, (inB_true h.2.2.2.1).2⟩
  unfold obOk at h
  simp only [Bool.and_eq_true] at h
  obtain ⟨_, h⟩ := h
  unfold obN
  split at h
  · unfold zeroB at h
    simp only [Bool.and_eq_true, decide_eq_true_eq] at h
    omega
  · split at h
    · unfold boxB dataN queueN at h
      simp only [Bool.and_eq_true, decide_eq_true_eq] at h
      have := hc h.1; omega
    · split at h
      · unfold segB dataS queueN at h
        simp only [Bool.and_eq_true, decide_eq_true_eq] at h
        have := hc h.1; omega
      · split at h
        · unfold gateB dataN queueG at h
          simp only [Bool.and_eq_true, decide_eq_true_eq] at h
          have := hc h.1; omega
        · split at h
          · unfold thrB dataN queueN at h
            simp only [Bool.and_eq_true, decide_eq_true_eq] at h
            have := hc h.1; omega
          · cases h
theorem ok_few {os : List Ob} (h : arenaOk os = true) (i : Nat) : obN (obAt os i) ≤ 12 := by
  obtain ⟨hl, hall, _, _⟩ := arenaOk_parts h
  by_cases hi : i < os.length
  · exact obOk_few (obOk_at hall hi)
  · unfold obAt
    rw [List.getD_eq_getElem?_getD, List.getElem?_eq_none (by omega)]
    simp [noOb, obN]
theorem ok_small {os : List Ob} (h : arenaOk os = true) : Small8 os := fun i => Nat.le_trans (ok_few h i) (by decide)
theorem ok_leads {os : List Ob} (h : arenaOk os = true) {i : Nat} (hi : i < 10) : leadsB os (obAt os i) = true := by
  obtain ⟨hl, _, _, hle⟩ := arenaOk_parts h
  exact List.all_eq_true.1 hle _ (all_memO (by omega))
/-- A thing whose lists and place alone turn, within bounds, stays right. -/
theorem obOk_turn {o : Ob} (h : obOk o = true) (hz : o.kind ≠ 0) (x : Int) (ls : List Int) (hx : -1 ≤ x ∧ x ≤ 9) (hl : ls.length = 2) (ha : ∀ y, y ∈ ls → -1 ≤ y ∧ y ≤ 9) : obOk { o with into := x, ls := ls } = true := by
  have hc : commonB o = true → commonB { o with into := x, ls := ls } = true := fun h => by
    unfold commonB at h ⊢
    simp only [Bool.and_eq_true, decide_eq_true_eq] at h ⊢
    exact ⟨inB_yes hx.1 hx.2, h.2.1, h.2.2.1, h.2.2.2.1, hl, List.all_eq_true.2 fun y hy => by unfold slotN; exact inB_yes (ha y hy).1 (ha y hy).2⟩
  unfold obOk at h ⊢
  simp only [Bool.and_eq_true] at h ⊢
  refine ⟨h.1, ?_⟩
  have h2 := h.2
  rw [if_neg hz] at h2 ⊢
  split at h2
  · rename_i e
    rw [if_pos e]
    unfold boxB at h2 ⊢
    simp only [Bool.and_eq_true] at h2 ⊢
    exact ⟨hc h2.1, h2.2⟩
  · rename_i e
    rw [if_neg e]
    split at h2
    · rename_i e
      rw [if_pos e]
      unfold segB at h2 ⊢
      simp only [Bool.and_eq_true] at h2 ⊢
      exact ⟨hc h2.1, h2.2⟩
    · rename_i e
      rw [if_neg e]
      split at h2
      · rename_i e
        rw [if_pos e]
        unfold gateB at h2 ⊢
        simp only [Bool.and_eq_true] at h2 ⊢
        exact ⟨hc h2.1, h2.2⟩
      · rename_i e
        rw [if_neg e]
        split at h2
        · rename_i e
          rw [if_pos e]
          unfold thrB at h2 ⊢
          simp only [Bool.and_eq_true] at h2 ⊢
          exact ⟨hc h2.1, h2.2⟩
        · cases h2
theorem newO_ok {x : Int} (h : 0 ≤ x ∧ x ≤ 999) : obOk (newO x) = true := by
  unfold obOk newO noOb zeroB
  simp [inB_yes h.1 h.2]
theorem obAt_map (f : Ob → Ob) (os : List Ob) {i : Nat} (h : i < os.length) : obAt (os.map f) i = f (obAt os i) := by
  rw [obAt_in (by rw [List.length_map]; exact h), obAt_in h, List.getElem_map]
theorem obAt_set (os : List Ob) {k i : Nat} (o : Ob) (hk : k < os.length) : obAt (os.set k o) i = if i = k then o else obAt os i := by
  unfold obAt List.getD
  rw [List.getElem?_set]
  by_cases e : k = i
  · subst e; simp [hk]
  · rw [if_neg e, if_neg (fun h => e h.symm)]
theorem ok_gen {os : List Ob} (h : arenaOk os = true) {i : Nat} (hi : i < 10) : 0 ≤ (obAt os i).gen ∧ (obAt os i).gen ≤ 999 := by
  obtain ⟨hl, hall, _, _⟩ := arenaOk_parts h
  have e := obOk_at hall (i := i) (by omega)
  unfold obOk at e
  simp only [Bool.and_eq_true] at e
  exact inB_true e.1
theorem thing_no {os : List Ob} {x : Int} (h : toThing os x = true) : x = -1 ∨ (obAt os x.toNat).kind ≠ 0 := by
  unfold toThing at h
  simp only [Bool.or_eq_true, decide_eq_true_eq, Bool.not_eq_true', decide_eq_false_iff_not] at h
  exact h
theorem thing_yes {os : List Ob} {x : Int} (h : x = -1 ∨ (obAt os x.toNat).kind ≠ 0) : toThing os x = true := by
  unfold toThing
  simp only [Bool.or_eq_true, decide_eq_true_eq, Bool.not_eq_true', decide_eq_false_iff_not]
  exact h
/-- What is freed leaves the arena right. -/
theorem free_ok {os : List Ob} (h : arenaOk os = true) (i : Int) : arenaOk (freeOf os i) = true := by
  unfold freeOf
  cases hb : freeB os i with
  | false => simp [h]
  | true =>
    rw [if_pos rfl]
    unfold freeB at hb
    simp only [Bool.and_eq_true, Bool.not_eq_true', beq_eq_false_iff_ne] at hb
    obtain ⟨_, hi, hi0, hk0⟩ := hb
    have hib := inB_true hi
    obtain ⟨k, rfl⟩ : ∃ k : Nat, i = k := ⟨i.toNat, by omega⟩
    rw [Int.toNat_natCast] at hk0 ⊢
    obtain ⟨hl, hall, hroot, _⟩ := arenaOk_parts h
    have hk1 : 0 < k := by omega
    have hat : ∀ j, j < 10 → obAt ((os.set k (newO (obAt os k).gen)).map (unO k)) j = unO k (if j = k then newO (obAt os k).gen else obAt os j) := fun j hj => by
      rw [obAt_map _ _ (by rw [List.length_set]; omega), obAt_set _ _ (by omega)]
    have hr := hroot
    unfold rootB at hr
    simp only [Bool.and_eq_true, decide_eq_true_eq] at hr
    have hun : ∀ x : Int, unN k x = -1 ∨ (unN k x = x ∧ x ≠ k) := fun x => by
      unfold unN
      by_cases e : x = (k : Int)
      · rw [if_pos e]; exact .inl rfl
      · rw [if_neg e]; exact .inr ⟨rfl, e⟩
    have hth : ∀ x : Int, -1 ≤ x ∧ x ≤ 9 → toThing os x = true → toThing ((os.set k (newO (obAt os k).gen)).map (unO k)) (unN k x) = true := fun x hx ht => by
      refine thing_yes ?_
      rcases hun x with e | ⟨e, hne⟩
      · exact .inl e
      · rw [e]
        rcases thing_no ht with e2 | e2
        · exact .inl e2
        · right
          rw [hat _ (by omega), if_neg (by omega)]
          exact e2
    refine ar_yes (by rw [List.length_map, List.length_set]; exact hl) ?_ fun j hj => ?_
    · rw [hat 0 (by omega), if_neg (by omega)]
      unfold rootB unO unN
      simp only [Bool.and_eq_true, decide_eq_true_eq]
      refine ⟨hr.1, ?_, hr.2.2⟩
      rw [hr.2.1, if_neg (by omega)]
    · rw [hat j hj]
      by_cases e : j = k
      · rw [if_pos e, unO_none (by omega) ⟨rfl, rfl⟩]
        refine ⟨newO_ok (ok_gen h (by omega)), ?_⟩
        unfold leadsB
        rw [Bool.and_eq_true]
        refine ⟨thing_yes (.inr ?_), rfl⟩
        show (obAt _ 0).kind ≠ 0
        rw [hat 0 (by omega), if_neg (by omega)]
        show (obAt os 0).kind ≠ 0
        rw [hr.1]; decide
      · rw [if_neg e]
        have hoj := obOk_at hall (i := j) (by omega)
        have hlj := ok_leads h hj
        unfold leadsB at hlj
        rw [Bool.and_eq_true] at hlj
        have hbd := obOk_leads hoj
        refine ⟨?_, ?_⟩
        · by_cases hz : (obAt os j).kind = 0
          · rw [unO_none (by omega) (zero_into hoj hz)]; exact hoj
          · refine obOk_turn hoj hz _ _ ?_ (by rw [List.length_map]; exact obOk_two hoj hz) fun y hy => ?_
            · rcases hun (obAt os j).into with e1 | ⟨e1, _⟩ <;> rw [e1] <;> omega
            · obtain ⟨z, hz1, rfl⟩ := List.mem_map.1 hy
              have := hbd.2 z hz1
              rcases hun z with e1 | ⟨e1, _⟩ <;> rw [e1] <;> omega
        · unfold leadsB unO
          rw [Bool.and_eq_true]
          refine ⟨hth _ hbd.1 hlj.1, List.all_eq_true.2 fun y hy => ?_⟩
          obtain ⟨z, hz1, rfl⟩ := List.mem_map.1 hy
          exact hth z (hbd.2 z hz1) (List.all_eq_true.1 hlj.2 z hz1)
theorem put_ok {os : List Ob} (h : arenaOk os = true) (o : Ob) : arenaOk (putOf os o) = true := by
  unfold putOf
  cases hb : putB os o with
  | false => simp [h]
  | true =>
    rw [if_pos rfl]
    unfold putB at hb
    simp only [Bool.and_eq_true] at hb
    exact hb.2.2.2
/-- One link is set to a thing that is there. -/
def linkL (os : List Ob) (i j : Nat) (x : Int) : List Ob := os.set i { obAt os i with ls := (obAt os i).ls.set j x }
theorem link_ok {os : List Ob} (h : arenaOk os = true) {i : Nat} (hi : i < 10) (j : Nat) (x : Int) (hk : (obAt os i).kind ≠ 0) (hx : -1 ≤ x ∧ x ≤ 9) (ht : toThing os x = true) : arenaOk (linkL os i j x) = true := by
  obtain ⟨hl, hall, hroot, _⟩ := arenaOk_parts h
  have hat : ∀ m, obAt (linkL os i j x) m = if m = i then { obAt os i with ls := (obAt os i).ls.set j x } else obAt os m := fun m => obAt_set _ _ (by omega)
  have hkind : ∀ m, (obAt (linkL os i j x) m).kind = (obAt os m).kind := fun m => by
    rw [hat]
    by_cases e : m = i
    · rw [if_pos e, e]
    · rw [if_neg e]
  have hth : ∀ y, toThing os y = true → toThing (linkL os i j x) y = true := fun y hy => thing_yes (by rw [hkind]; exact thing_no hy)
  refine ar_yes (by unfold linkL; rw [List.length_set]; exact hl) ?_ fun m hm => ?_
  · rw [hat]
    by_cases e : 0 = i
    · rw [if_pos e]
      subst e
      exact hroot
    · rw [if_neg e]; exact hroot
  · rw [hat]
    by_cases e : m = i
    · rw [if_pos e]
      have hoi := obOk_at hall (i := i) (by omega)
      have hli := ok_leads h hi
      unfold leadsB at hli
      rw [Bool.and_eq_true] at hli
      have hbd := obOk_leads hoi
      have hmem : ∀ y, y ∈ (obAt os i).ls.set j x → y = x ∨ y ∈ (obAt os i).ls := fun y hy => (List.mem_or_eq_of_mem_set hy).symm
      refine ⟨obOk_turn hoi hk _ _ hbd.1 (by rw [List.length_set]; exact obOk_two hoi hk) fun y hy => ?_, ?_⟩
      · rcases hmem y hy with e1 | e1
        · rw [e1]; exact hx
        · exact hbd.2 y e1
      · unfold leadsB
        rw [Bool.and_eq_true]
        refine ⟨hth _ hli.1, List.all_eq_true.2 fun y hy => ?_⟩
        rcases hmem y hy with e1 | e1
        · rw [e1]; exact hth x ht
        · exact hth y (List.all_eq_true.1 hli.2 y e1)
    · rw [if_neg e]
      refine ⟨obOk_at hall (by omega), ?_⟩
      have hlm := ok_leads h hm
      unfold leadsB at hlm ⊢
      rw [Bool.and_eq_true] at hlm ⊢
      exact ⟨hth _ hlm.1, List.all_eq_true.2 fun y hy => hth y (List.all_eq_true.1 hlm.2 y hy)⟩
theorem free_fit {os : List Ob} (hf : AllFit os) (i : Int) : AllFit (freeOf os i) := by
  unfold freeOf
  cases hb : freeB os i with
  | false => simpa using hf
  | true =>
    rw [if_pos rfl]
    intro j
    by_cases hj : j < os.length
    · rw [obAt_map _ _ (by rw [List.length_set]; exact hj)]
      show Fits (unO i _)
      have : ∀ o : Ob, Fits o → Fits (unO i o) := fun o h => h
      refine this _ ?_
      by_cases hk : i.toNat < os.length
      · rw [obAt_set _ _ hk]
        split
        · unfold Fits newO noOb; simp
        · exact hf j
      · rw [List.set_eq_of_length_le (by omega)]; exact hf j
    · unfold obAt
      rw [List.getD_eq_getElem?_getD, List.getElem?_eq_none (by simp; omega)]
      unfold Fits; simp [noOb]
theorem put_fit {os : List Ob} (hf : AllFit os) {o : Ob} (ho : Fits o) : AllFit (putOf os o) := by
  unfold putOf
  split
  · intro i
    rcases putL_obs os o (firstFill os).toNat i with ⟨h, _⟩ | h
    · rw [h]; exact ho
    · rw [h]; exact hf i
  · exact hf
theorem link_fit {os : List Ob} (hf : AllFit os) (i j : Nat) (x : Int) : AllFit (linkL os i j x) := fun m => by
  unfold linkL
  by_cases hi : i < os.length
  · rw [obAt_set _ _ hi]
    split
    · exact hf i
    · exact hf m
  · rw [List.set_eq_of_length_le (by omega)]; exact hf m
end Go.Proofs.Ytokicnopfmokaaa
namespace Go.Proofs.Ytokicnopfmokaaa
open Go.RowKit
set_option linter.unusedVariables false
set_option maxRecDepth 100000

theorem putL_fit {os : List Ob} {o : Ob} (hf : AllFit os) (ho : Fits o) (k : Nat) : AllFit (putL os o k) := fun i => by
  rcases putL_obs os o k i with ⟨h, _⟩ | h
  · rw [h]; exact ho
  · rw [h]; exact hf i
theorem fills_zero {os : List Ob} (h : arenaOk os = true) : fills (obAt os 0) = false := by
  unfold arenaOk at h
  simp only [Bool.and_eq_true] at h
  have hr := h.2.2.1
  unfold rootB at hr
  simp only [Bool.and_eq_true, decide_eq_true_eq] at hr
  unfold fills
  rw [hr.1]; rfl
theorem fills_next {os : List Ob} {k : Nat} (hk : k < os.length) (ha : ∀ e, e ∈ os.take k → fills e = false) (h : fills (obAt os k) = false) : ∀ e, e ∈ os.take (k + 1) → fills e = false := fun e he => by
  rw [take_ob hk, List.mem_append, List.mem_singleton] at he
  rcases he with h1 | h1
  · exact ha e h1
  · rw [h1]; exact h
set_option maxRecDepth 100000 in
set_option maxHeartbeats 8000000 in
theorem specPut_go (p : Addr) (cap : Nat) (os : List Ob) (o : Ob) (l d m : Value) (w : World) (hx : IsArena w (.slice (some p) 10 cap) os) (hy : Lists w l d m o) (hok : arenaOk os = true) (hs : Small8 os) (ho : obN o ≤ 1048576) (hf : AllFit os) (hfo : Fits o) :
    Calls Try.prog 54 #[.slice (some p) 10 cap, obV o l d m] w fun e w' => PutAns (putOf os o) (putI os o) w e w' := by
  have hlen : os.length = 10 := by unfold arenaOk at hok; simp only [Bool.and_eq_true, decide_eq_true_eq] at hok; exact hok.1
  have HC : Hid (∀ w', Below w.heap.size w w' → Calls Try.prog 64 #[.slice (some p) 10 cap] w' fun e w'' => ∃ g c fs rest, e = .returned (.slice (some ⟨g, 0, none⟩) 10 c) ∧ arOf fs = os ∧ OwnA g c fs rest w'.heap.size w''.heap.size w'' ∧ Below w'.heap.size w' w'') := fun w' hb => by
    have e := specCopyA_any _ os w' (hx.on hb) (by omega) hs
    unfold ArenaOwn at e
    rw [hlen] at e
    exact e
  have HA : Hid (∀ w', Below w.heap.size w w' → Calls Try.prog 8 #[.slice (some p) 10 cap] w' fun e w'' => e = .returned (.bool true) ∧ Below w'.heap.size w' w'') := fun w' hb => by
    have e := specArenaOk_any _ os w' (hx.on hb) (by omega) hs hf
    rw [hok] at e
    exact e
  have HO : Hid (∀ w', Below w.heap.size w w' → Calls Try.prog 65 #[obV o l d m] w' fun e w'' => (∃ l' d' m', e = .returned (obV o l' d' m') ∧ OwnO w'.heap.size w''.heap.size w'' l' d' m' o) ∧ Below w'.heap.size w' w'') := fun w' hb => specObj_any o l d m w' (hy.on hb) ho
  have HB0 : Hid (Below w.heap.size w (w.alloc (boxO o l d m))) := below_alloc w _
  have HBX : Hid ((w.alloc (boxO o l d m)).heap[w.heap.size]? = some (boxO o l d m)) := heap_alloc_new w _
  have HX : Hid (∀ w', Below w.heap.size w w' → IsArena w' (.slice (some p) 10 cap) os) := fun w' hb => hx.on hb
  have hcap : 10 ≤ cap := by obtain ⟨_, _, hv, h, _⟩ := hx; have e := (Value.slice.inj hv).2.2; omega
  have HL : Hid (os.length = 10) := hlen
  have HOK : Hid (arenaOk os = true) := hok
  have HG : Hid (∀ k, k < 10 → 0 ≤ (obAt os k).gen ∧ (obAt os k).gen ≤ 999) := fun k hk => by
    have hall : os.all obOk = true := by unfold arenaOk at hok; simp only [Bool.and_eq_true] at hok; exact hok.2.1
    have e := obOk_at hall (by rw [hlen]; exact hk)
    unfold obOk at e
    simp only [Bool.and_eq_true] at e
    exact inB_true e.1
  have HP : Hid (∀ k w' v, IsArena w' v (putL os o k) → Calls Try.prog 8 #[v] w' fun e w'' => e = .returned (.bool (arenaOk (putL os o k))) ∧ Below w'.heap.size w' w'') := fun k w' v h => specArenaOk_any v _ w' h (by rw [putL_length]; omega) (putL_small hs ho k) (putL_fit hf hfo k)
  have HF0 : Hid (∀ e, e ∈ os.take 1 → fills e = false) := fills_next (k := 0) (by omega) (fun e he => by simp at he) (fills_zero hok)
  clear hx hy hs ho hlen hok hf hfo
  go_enter Try.func54, Try.ntmps54
  go_wp2_with fail
  refine (HC.out _ HB0.out).mono ?_
  rintro e w1 ⟨g, c, fs, rest, rfl, hfs, hown, hb1⟩
  have HB1 : Hid (Below w.heap.size w w1) := below_more HB0.out hb1
  have HOWN1 : Hid (arOf fs = os ∧ OwnA g c fs rest w.heap.size w1.heap.size w1) := ⟨hfs, hown.wide HB0.out.size (Nat.le_refl _)⟩
  have HGNE : Hid (g ≠ w.heap.size) := by have e := hown.lo; simp at e; show g ≠ _; omega
  have HBX1 : Hid (w1.heap[w.heap.size]? = some (boxO o l d m)) := keep HBX.out hb1
  clear hfs hown hb1
  go_wp2_with fail
  refine (HA.out _ HB1.out).mono ?_
  rintro e w2 ⟨rfl, hb2⟩
  have HB02 : Hid (Below w.heap.size w w2) := below_more HB1.out hb2
  have HBX2 : Hid (w2.heap[w.heap.size]? = some (boxO o l d m)) := keep HBX1.out hb2
  have HOWN : Hid (arOf fs = os ∧ OwnA g c fs rest w.heap.size w2.heap.size w2) := ⟨HOWN1.out.1, (HOWN1.out.2.on hb2).wide (Nat.le_refl _) hb2.size⟩
  clear hb2 HBX1 HBX HOWN1 HA
  go_wp2
  go_loop [7] (fun s7 => ∃ (k : Nat), 1 ≤ k ∧ k ≤ 10 ∧ s7 = .int .i64 k ∧ Hid (∀ e, e ∈ os.take k → fills e = false)) (fun s7 => 10 - (intOf s7).toNat)
  case atStart => exact ⟨1, by omega, by omega, rfl, HF0.out⟩
  case round =>
    obtain ⟨k, hk1, hk, rfl, hall⟩ := hrel
    by_cases hlt : k < 10
    · obtain ⟨p', q, l0, d0, m0, hp, hq, ⟨c0, c1, -, -, -, -, -, -, -, -, -, -, -⟩, -⟩ := (HX.out w2 HB02.out).at (i := k) (by rw [HL.out]; exact hlt)
      obtain rfl : p = p' := by simpa using hp
      clear hp
      by_cases hz : (obAt os k).kind = 0
      · by_cases hgl : (obAt os k).gen < 999
        · have hfil : fills (obAt os k) = true := by unfold fills; rw [hz]; simp [hgl]
          rw [hz] at c1
          clear hz
          have HFK : Hid (firstFill os = k) := firstFill_at (by rw [HL.out]; exact hlt) hfil hall.out
          have hgn := HG.out k hlt
          have hw : wrap64 ((obAt os k).gen + 1) = (obAt os k).gen + 1 := by unfold wrap64; omega
          have hfl : fs.length = 10 := by rw [← HL.out, ← HOWN.out.1, arOf_length]
          have hkf : k < fs.length := by rw [hfl]; exact hlt
          have b0 : w2.cell? ⟨w.heap.size, 0, none⟩ = some (.int .i64 o.gen) := by simp [World.cell?, HBX2.out]
          have b1 : w2.cell? ⟨w.heap.size, 1, none⟩ = some (.int .i64 o.kind) := by simp [World.cell?, HBX2.out]
          have b2 : w2.cell? ⟨w.heap.size, 2, none⟩ = some (.int .i64 o.into) := by simp [World.cell?, HBX2.out]
          have b3 : w2.cell? ⟨w.heap.size, 3, none⟩ = some (.int .i64 o.res) := by simp [World.cell?, HBX2.out]
          have b4 : w2.cell? ⟨w.heap.size, 4, none⟩ = some (.int .i64 o.unt) := by simp [World.cell?, HBX2.out]
          have b5 : w2.cell? ⟨w.heap.size, 5, none⟩ = some (.int .i64 o.pages) := by simp [World.cell?, HBX2.out]
          have b6 : w2.cell? ⟨w.heap.size, 6, none⟩ = some (.int .i64 o.wait) := by simp [World.cell?, HBX2.out]
          have b7 : w2.cell? ⟨w.heap.size, 7, none⟩ = some (.int .i64 o.got) := by simp [World.cell?, HBX2.out]
          have b8 : w2.cell? ⟨w.heap.size, 8, none⟩ = some (.int .i64 o.ran) := by simp [World.cell?, HBX2.out]
          have b9 : w2.cell? ⟨w.heap.size, 9, none⟩ = some (.bool o.mark) := by simp [World.cell?, HBX2.out]
          have b10 : w2.cell? ⟨w.heap.size, 10, none⟩ = some (l) := by simp [World.cell?, HBX2.out]
          have b11 : w2.cell? ⟨w.heap.size, 11, none⟩ = some (d) := by simp [World.cell?, HBX2.out]
          have b12 : w2.cell? ⟨w.heap.size, 12, none⟩ = some (m) := by simp [World.cell?, HBX2.out]
          obtain ⟨x, hx0⟩ : ∃ x, x = (obAt os k).gen := ⟨_, rfl⟩
          rw [← hx0] at c0 hw hgl
          have HX0 := hid_of hx0
          clear hx0 hfil hall hgn
          go_wp2_with fail
          refine (HO.out _ HB02.out).mono ?_
          rintro e w4 ⟨⟨l', d', m', rfl, hoo⟩, hb4⟩
          obtain ⟨x1, y1, rfl, _⟩ := id hoo.ls
          obtain ⟨x2, y2, rfl, _⟩ := id hoo.ds
          obtain ⟨x3, y3, rfl, _⟩ := id hoo.qs
          have ck : (w4.alloc (boxO o (.slice x1 o.ls.length y1) (.slice x2 o.ds.length y2) (.slice x3 o.qs.length y3))).cell? q = some (.int .i64 x) := ((below_more hb4 (below_alloc w4 _)).cell (World.block_lt_of_cell? w2 _ c0)).trans c0
          dsimp only
          repeat (first | (with_reducible refine halt_region (id := 10) ?_) | go_values | go_skip | go_guarded | go_step | go_upon | go_back)
          unfold Halt0
          obtain ⟨W5, hW5⟩ : ∃ W5, W5 = w4.alloc (.cells #[.int .i64 (x + 1), .int .i64 o.kind, .int .i64 o.into, .int .i64 o.res, .int .i64 o.unt, .int .i64 o.pages, .int .i64 o.wait, .int .i64 o.got, .int .i64 o.ran, .bool o.mark, .slice x1 o.ls.length y1, .slice x2 o.ds.length y2, .slice x3 o.qs.length y3] 28 (0, 0)) := ⟨_, rfl⟩
          rw [← hW5]
          have HB5 : Hid (Below w4.heap.size w4 W5) := by rw [hW5]; exact below_alloc w4 _
          have HN5 : Hid (W5.heap[w4.heap.size]? = some (boxO { o with gen := x + 1 } (.slice x1 o.ls.length y1) (.slice x2 o.ds.length y2) (.slice x3 o.qs.length y3))) := by rw [hW5]; exact heap_alloc_new w4 _
          have n0 : W5.cell? ⟨w4.heap.size, 0, none⟩ = some (.int .i64 (x + 1)) := by simp [World.cell?, HN5.out]
          have n1 : W5.cell? ⟨w4.heap.size, 1, none⟩ = some (.int .i64 o.kind) := by simp [World.cell?, HN5.out]
          have n2 : W5.cell? ⟨w4.heap.size, 2, none⟩ = some (.int .i64 o.into) := by simp [World.cell?, HN5.out]
          have n3 : W5.cell? ⟨w4.heap.size, 3, none⟩ = some (.int .i64 o.res) := by simp [World.cell?, HN5.out]
          have n4 : W5.cell? ⟨w4.heap.size, 4, none⟩ = some (.int .i64 o.unt) := by simp [World.cell?, HN5.out]
          have n5 : W5.cell? ⟨w4.heap.size, 5, none⟩ = some (.int .i64 o.pages) := by simp [World.cell?, HN5.out]
          have n6 : W5.cell? ⟨w4.heap.size, 6, none⟩ = some (.int .i64 o.wait) := by simp [World.cell?, HN5.out]
          have n7 : W5.cell? ⟨w4.heap.size, 7, none⟩ = some (.int .i64 o.got) := by simp [World.cell?, HN5.out]
          have n8 : W5.cell? ⟨w4.heap.size, 8, none⟩ = some (.int .i64 o.ran) := by simp [World.cell?, HN5.out]
          have n9 : W5.cell? ⟨w4.heap.size, 9, none⟩ = some (.bool o.mark) := by simp [World.cell?, HN5.out]
          have n10 : W5.cell? ⟨w4.heap.size, 10, none⟩ = some (.slice x1 o.ls.length y1) := by simp [World.cell?, HN5.out]
          have n11 : W5.cell? ⟨w4.heap.size, 11, none⟩ = some (.slice x2 o.ds.length y2) := by simp [World.cell?, HN5.out]
          have n12 : W5.cell? ⟨w4.heap.size, 12, none⟩ = some (.slice x3 o.qs.length y3) := by simp [World.cell?, HN5.out]
          clear hW5 ck
          have HOWN4 : Hid (OwnA g c fs rest w.heap.size w2.heap.size W5) := (HOWN.out.2.on hb4).on HB5.out
          have hoo5 : OwnO w2.heap.size w4.heap.size W5 (.slice x1 o.ls.length y1) (.slice x2 o.ds.length y2) (.slice x3 o.qs.length y3) { o with gen := x + 1 } := by
            have e := hoo.on (lo' := w2.heap.size) (hi' := w4.heap.size) HB5.out (Nat.le_refl _) (Nat.le_refl _)
            exact ⟨e.ls, e.ds, e.qs, e.nd⟩
          have hput := HOWN4.out.put (e := ⟨{ o with gen := x + 1 }, .slice x1 o.ls.length y1, .slice x2 o.ds.length y2, .slice x3 o.qs.length y3⟩) hoo5 hb4.size hkf
          have HFIN : Hid (arOf (fs.set k ⟨{ o with gen := x + 1 }, .slice x1 o.ls.length y1, .slice x2 o.ds.length y2, .slice x3 o.qs.length y3⟩) = putL os o k) := by
            show arOf _ = _
            rw [arOf_set, HOWN.out.1, HX0.out]; rfl
          have HGEN := hid_of hput
          have HBG : Hid (Below w.heap.size w (w13 W5 g (k * 13) { o with gen := x + 1 } (.slice x1 o.ls.length y1) (.slice x2 o.ds.length y2) (.slice x3 o.qs.length y3))) := below_w13 (below_more (below_more HB02.out hb4) HB5.out) HOWN.out.2.lo _ _ _ _ _
          have HBXG : Hid ((w13 W5 g (k * 13) { o with gen := x + 1 } (.slice x1 o.ls.length y1) (.slice x2 o.ds.length y2) (.slice x3 o.qs.length y3)).heap[w.heap.size]? = some (boxO o l d m)) := heap_w13_other (keep (keep HBX2.out hb4) HB5.out) (fun e => HGNE.out e.symm) _ _ _ _ _
          have HPC2 := hid_of (HP.out k (w13 W5 g (k * 13) { o with gen := x + 1 } (.slice x1 o.ls.length y1) (.slice x2 o.ds.length y2) (.slice x3 o.qs.length y3)) (.slice (some ⟨g, 0, none⟩) 10 c) (by have e := hput.arena; rw [HFIN.out, List.length_set, hfl] at e; exact e))
          obtain ⟨q0, q1, q2, q3, q4, q5, q6, q7, q8, q9, q10, q11, q12⟩ := HOWN4.out.cells hkf
          have hff := HOWN4.out.free
          have f0 := hff (k * 13)
          have f1 := hff (k * 13 + 1)
          have f2 := hff (k * 13 + 2)
          have f3 := hff (k * 13 + 3)
          have f4 := hff (k * 13 + 4)
          have f5 := hff (k * 13 + 5)
          have f6 := hff (k * 13 + 6)
          have f7 := hff (k * 13 + 7)
          have f8 := hff (k * 13 + 8)
          have f9 := hff (k * 13 + 9)
          have f10 := hff (k * 13 + 10)
          have f11 := hff (k * 13 + 11)
          have f12 := hff (k * 13 + 12)
          have hlc : 10 ≤ c := by have e := HOWN.out.2.cap; omega
          clear hfl hkf hoo hb4 hput hoo5 hff b0 b1 b2 b3 b4 b5 b6 b7 b8 b9 b10 b11 b12 c0 c1 hq
          cases hr : arenaOk (putL os o k) with
          | false =>
            rw [hr] at HPC2
            have HRR := hid_of hr
            clear hr
            have HPB : Hid (putB os o = false) := by show _ = _; unfold putB; rw [HOK.out, HFK.out, Int.toNat_natCast, HRR.out]; simp
            obtain ⟨e1, e2⟩ := PutAns.no HPB.out
            have HE12 : Hid (putOf os o = os ∧ putI os o = -1) := ⟨e1, e2⟩
            clear e1 e2 HPB
            go_wp2_with fail
            refine HPC2.out.mono ?_
            rintro e w5 ⟨rfl, hb5⟩
            have HB5 := hid_of (below_more HBG.out hb5)
            have kb : w5.cell? ⟨w.heap.size, 1, none⟩ = some (.int .i64 o.kind) := by have e := keep HBXG.out hb5; simp [World.cell?, e]
            clear hb5
            go_wp2_with fail
            refine (HC.out _ HB5.out).mono ?_
            rintro e w6 ⟨g6, c6, fs6, rest6, rfl, hfs6, hown6, hb6⟩
            have HZ : Hid (arOf fs6 = os ∧ OwnA g6 c6 fs6 rest6 w.heap.size w6.heap.size w6 ∧ Below w.heap.size w w6) := ⟨hfs6, hown6.wide HB5.out.size (Nat.le_refl _), below_more HB5.out hb6⟩
            clear hfs6 hown6 hb6
            go_wp2
            go_returns
            unfold PutAns
            rw [HE12.out.1, HE12.out.2]
            exact ⟨g6, c6, fs6, rest6, by rw [HL.out]; rfl, HZ.out.1, HZ.out.2.1, HZ.out.2.2⟩
          | true =>
            rw [hr] at HPC2
            have HRR := hid_of hr
            clear hr
            by_cases hzo : o.kind = 0
            · have qz : (o.kind == 0) = true := beq_iff_eq.2 hzo
              clear hzo
              have HPB : Hid (putB os o = false) := by show _ = _; unfold putB; rw [HOK.out, HFK.out, Int.toNat_natCast, HRR.out, qz]; simp
              obtain ⟨e1, e2⟩ := PutAns.no HPB.out
              have HE12 : Hid (putOf os o = os ∧ putI os o = -1) := ⟨e1, e2⟩
              clear e1 e2 HPB
              go_wp2_with fail
              refine HPC2.out.mono ?_
              rintro e w5 ⟨rfl, hb5⟩
              have HB5 := hid_of (below_more HBG.out hb5)
              have kb : w5.cell? ⟨w.heap.size, 1, none⟩ = some (.int .i64 o.kind) := by have e := keep HBXG.out hb5; simp [World.cell?, e]
              clear hb5
              go_wp2_with fail
              refine (HC.out _ HB5.out).mono ?_
              rintro e w6 ⟨g6, c6, fs6, rest6, rfl, hfs6, hown6, hb6⟩
              have HZ : Hid (arOf fs6 = os ∧ OwnA g6 c6 fs6 rest6 w.heap.size w6.heap.size w6 ∧ Below w.heap.size w w6) := ⟨hfs6, hown6.wide HB5.out.size (Nat.le_refl _), below_more HB5.out hb6⟩
              clear hfs6 hown6 hb6
              go_wp2
              go_returns
              unfold PutAns
              rw [HE12.out.1, HE12.out.2]
              exact ⟨g6, c6, fs6, rest6, by rw [HL.out]; rfl, HZ.out.1, HZ.out.2.1, HZ.out.2.2⟩
            · have qz : (o.kind == 0) = false := beq_eq_false_iff_ne.2 hzo
              clear hzo
              have HPB : Hid (putB os o = true) := by show _ = _; unfold putB; rw [HOK.out, HFK.out, Int.toNat_natCast, HRR.out, qz]; simp
              have e1 : putOf os o = putL os o k := by unfold putOf; rw [HPB.out, HFK.out, Int.toNat_natCast]; rfl
              have e2 : putI os o = k := by unfold putI; rw [HPB.out, HFK.out]; rfl
              have HE12 : Hid (putOf os o = putL os o k ∧ putI os o = k) := ⟨e1, e2⟩
              clear e1 e2 HPB
              go_wp2_with fail
              refine HPC2.out.mono ?_
              rintro e w5 ⟨rfl, hb5⟩
              have HZ := hid_of (show OwnA g c (fs.set k ⟨{ o with gen := x + 1 }, .slice x1 o.ls.length y1, .slice x2 o.ds.length y2, .slice x3 o.qs.length y3⟩) rest w.heap.size w5.heap.size w5 ∧ Below w.heap.size w w5 from ⟨(HGEN.out.on hb5).fit, below_more HBG.out hb5⟩)
              have kb : w5.cell? ⟨w.heap.size, 1, none⟩ = some (.int .i64 o.kind) := by have e := keep HBXG.out hb5; simp [World.cell?, e]
              clear hb5
              go_wp2
              go_returns
              unfold PutAns
              rw [HE12.out.1, HE12.out.2]
              exact ⟨g, c, _, rest, by rw [putL_length, HL.out]; rfl, HFIN.out, HZ.out.1, HZ.out.2⟩
        · have HN : Hid (∀ e, e ∈ os.take (k + 1) → fills e = false) := fills_next (by rw [HL.out]; exact hlt) hall.out (by unfold fills; simp [hgl])
          rw [hz] at c1
          generalize (obAt os k).gen = x at c0 hgl
          clear hz hall
          go_wp2
          exact ⟨⟨k + 1, by omega, by omega, by go_num, HN⟩, by simp [intOf]; omega⟩
      · have HN : Hid (∀ e, e ∈ os.take (k + 1) → fills e = false) := fills_next (by rw [HL.out]; exact hlt) hall.out (by unfold fills; rw [beq_eq_false_iff_ne.2 hz]; rfl)
        have qz : ((obAt os k).kind != 0) = true := by simp [bne, beq_eq_false_iff_ne.2 hz]
        clear hz hall
        go_wp2
        exact ⟨⟨k + 1, by omega, by omega, by go_num, HN⟩, by simp [intOf]; omega⟩
    · obtain rfl : k = 10 := by omega
      have hm1 : firstFill os = -1 := firstFill_no fun e he => hall.out e (by rw [← HL.out, List.take_length]; exact he)
      have HE12 : Hid (putOf os o = os ∧ putI os o = -1) := PutAns.no (by unfold putB; rw [hm1]; simp)
      clear hall hm1
      go_wp2
      go_returns
      unfold PutAns
      rw [HE12.out.1, HE12.out.2]
      exact ⟨g, c, fs, rest, by rw [HL.out]; rfl, HOWN.out.1, HOWN.out.2, HB02.out⟩
set_option maxHeartbeats 4000000 in
theorem specPut_any (v : Value) (os : List Ob) (o : Ob) (l d m : Value) (w : World) (hx : IsArena w v os) (hy : Lists w l d m o) (hn : os.length ≤ 1048576) (hs : Small8 os) (ho : obN o ≤ 1048576) (hf : AllFit os) (hfo : Fits o) :
    Calls Try.prog 54 #[v, obV o l d m] w fun e w' => PutAns (putOf os o) (putI os o) w e w' := by
  cases hv : arenaOk os with
  | true =>
    have hlen : os.length = 10 := by unfold arenaOk at hv; simp only [Bool.and_eq_true, decide_eq_true_eq] at hv; exact hv.1
    obtain ⟨a, cap, rfl, _, hel⟩ := id hx
    obtain ⟨p, _, _, _, rfl, _⟩ := hel 0 (by omega)
    rw [hlen] at hx ⊢
    exact specPut_go p cap os o l d m w hx hy hv hs ho hf hfo
  | false =>
    obtain ⟨e1, e2⟩ := PutAns.no (os := os) (o := o) (by unfold putB; rw [hv]; rfl)
    rw [e1, e2]
    have HC : Hid (∀ w', Below w.heap.size w w' → Calls Try.prog 64 #[v] w' fun e w'' => ArenaOwn os w' e w'') := fun w' hb => specCopyA_any _ os w' (hx.on hb) hn hs
    have HA : Hid (∀ w', Below w.heap.size w w' → Calls Try.prog 8 #[v] w' fun e w'' => e = .returned (.bool false) ∧ Below w'.heap.size w' w'') := fun w' hb => by
      have e := specArenaOk_any _ os w' (hx.on hb) hn hs hf
      rw [hv] at e
      exact e
    have HB0 : Hid (Below w.heap.size w (w.alloc (boxO o l d m))) := below_alloc w _
    clear hv e1 e2 hx hy hs hf
    go_enter Try.func54, Try.ntmps54
    go_wp2_with fail
    refine (HC.out _ HB0.out).mono ?_
    rintro e w1 ⟨g, c, fs, rest, rfl, hfs, hown, hb1⟩
    have HB1 : Hid (Below w.heap.size w w1) := below_more HB0.out hb1
    have HOWN : Hid (arOf fs = os ∧ OwnA g c fs rest w.heap.size w1.heap.size w1) := ⟨hfs, hown.wide HB0.out.size (Nat.le_refl _)⟩
    clear hfs hown hb1
    go_wp2_with fail
    refine (HA.out _ HB1.out).mono ?_
    rintro e w2 ⟨rfl, hb2⟩
    have HB2 : Hid (Below w1.heap.size w1 w2) := hb2
    clear hb2
    go_wp2
    go_returns
    exact ⟨g, c, fs, rest, rfl, HOWN.out.1, (HOWN.out.2.on HB2.out).wide (Nat.le_refl _) HB2.out.size, below_more HB1.out HB2.out⟩
end Go.Proofs.Ytokicnopfmokaaa
namespace Go.Proofs.Ytokicnopfmokaaa
open Go.RowKit
set_option linter.unusedVariables false
set_option maxRecDepth 100000

end Go.Proofs.Ytokicnopfmokaaa
namespace Go.Proofs.Ytokicnopfmokaaa
open Go.RowKit
set_option linter.unusedVariables false
set_option maxRecDepth 100000

def rootOb : Ob := ⟨0, 1, -1, 0, 1000000, 0, 0, 0, 0, false, [-1, -1], [], []⟩
def newA : List Ob := rootOb :: List.replicate 9 noOb
theorem OwnA.turned {g cap : Nat} {es : List El} {rest : List Value} {lo hi l0 h0 : Nat} {w w' : World} (h : OwnA g cap es rest lo hi w) (ht : Turned8 l0 h0 w w') (hd : hi ≤ l0 ∨ h0 ≤ lo) : OwnA g cap es rest lo hi w' :=
  ⟨ht.block _ _ h.at' (by have := h.lo; have := h.hi; omega), h.cap, h.lo, h.hi, fun i hi' => (h.own i hi').move (fun b x h1 h2 hx => ht.block _ _ hx (by omega)) (Nat.le_refl _) (Nat.le_refl _), h.ne, h.apart⟩
/-- An arena of the call's own is handed back. -/
def ArenaAns (os : List Ob) (w : World) (e : Ending) (w' : World) : Prop := ∃ g c fs rest, e = .returned (.slice (some ⟨g, 0, none⟩) os.length c) ∧ arOf fs = os ∧ OwnA g c fs rest w.heap.size w'.heap.size w' ∧ Below w.heap.size w w'
set_option maxRecDepth 100000 in
set_option maxHeartbeats 4000000 in
theorem specNew_any (w : World) :
    Calls Try.prog 52 #[] w fun e w' => ArenaAns newA w e w' := by
  have hm : (Instr.makeSlice 24 (.int .i64 10) (.int .i64 10)).run Try.prog w = .ok (.slice (some ⟨w.heap.size, 0, none⟩) 10 10) (w.alloc (.cells (ecells (List.replicate 10 noEl)).toArray 28 (0, 0))) := make_obs 10 (by omega) w
  have hs0 := ownA_zero w 10
  have hb0 : Below w.heap.size w (w.alloc (.cells (ecells (List.replicate 10 noEl)).toArray 28 (0, 0))) := below_alloc w _
  obtain ⟨W, hW⟩ : ∃ W, W = w.alloc (.cells (ecells (List.replicate 10 noEl)).toArray 28 (0, 0)) := ⟨_, rfl⟩
  rw [← hW] at hm hs0 hb0
  have hs1 := hs0.on (below_alloc W (.cells #[.int .i64 (-1), .int .i64 (-1)] 3 (0, 0)))
  have hb1 : Below w.heap.size w (W.alloc (.cells #[.int .i64 (-1), .int .i64 (-1)] 3 (0, 0))) := below_more hb0 (below_alloc W _)
  have hrow : RowIn (W.alloc (.cells #[.int .i64 (-1), .int .i64 (-1)] 3 (0, 0))) W.heap.size [-1, -1] [] := heap_alloc_new W _
  have hz : (W.alloc (.cells #[.int .i64 (-1), .int .i64 (-1)] 3 (0, 0))).heap.size = W.heap.size + 1 := by simp
  have ho : OwnO W.heap.size (W.alloc (.cells #[.int .i64 (-1), .int .i64 (-1)] 3 (0, 0))).heap.size (W.alloc (.cells #[.int .i64 (-1), .int .i64 (-1)] 3 (0, 0))) (.slice (some ⟨W.heap.size, 0, none⟩) 2 2) (.slice none 0 0) (.slice none 0 0) rootOb :=
    ⟨⟨_, 2, rfl, Nat.le_refl _, fun _ => ⟨W.heap.size, [], rfl, Nat.le_refl _, by omega, hrow, rfl, by simp only [maxLen]; omega⟩⟩, ⟨none, 0, rfl, Nat.le_refl _, fun h => absurd rfl h⟩, ⟨none, 0, rfl, Nat.le_refl _, fun h => absurd rfl h⟩, by simp [blk]⟩
  have h3 := hs1.put (e := ⟨rootOb, .slice (some ⟨W.heap.size, 0, none⟩) 2 2, .slice none 0 0, .slice none 0 0⟩) ho (by omega) (k := 0) (by simp)
  have hc := hs1.cells (i := 0) (by simp)
  rw [show elAt (List.replicate 10 noEl) 0 = noEl from rfl] at hc
  have d0 : (W.alloc (.cells #[.int .i64 (-1), .int .i64 (-1)] 3 (0, 0))).cell? ⟨w.heap.size, 0, none⟩ = some (.int .i64 0) := hc.c0
  have d1 : (W.alloc (.cells #[.int .i64 (-1), .int .i64 (-1)] 3 (0, 0))).cell? ⟨w.heap.size, 1, none⟩ = some (.int .i64 0) := hc.c1
  have d2 : (W.alloc (.cells #[.int .i64 (-1), .int .i64 (-1)] 3 (0, 0))).cell? ⟨w.heap.size, 2, none⟩ = some (.int .i64 0) := hc.c2
  have d3 : (W.alloc (.cells #[.int .i64 (-1), .int .i64 (-1)] 3 (0, 0))).cell? ⟨w.heap.size, 3, none⟩ = some (.int .i64 0) := hc.c3
  have d4 : (W.alloc (.cells #[.int .i64 (-1), .int .i64 (-1)] 3 (0, 0))).cell? ⟨w.heap.size, 4, none⟩ = some (.int .i64 0) := hc.c4
  have d5 : (W.alloc (.cells #[.int .i64 (-1), .int .i64 (-1)] 3 (0, 0))).cell? ⟨w.heap.size, 5, none⟩ = some (.int .i64 0) := hc.c5
  have d6 : (W.alloc (.cells #[.int .i64 (-1), .int .i64 (-1)] 3 (0, 0))).cell? ⟨w.heap.size, 6, none⟩ = some (.int .i64 0) := hc.c6
  have d7 : (W.alloc (.cells #[.int .i64 (-1), .int .i64 (-1)] 3 (0, 0))).cell? ⟨w.heap.size, 7, none⟩ = some (.int .i64 0) := hc.c7
  have d8 : (W.alloc (.cells #[.int .i64 (-1), .int .i64 (-1)] 3 (0, 0))).cell? ⟨w.heap.size, 8, none⟩ = some (.int .i64 0) := hc.c8
  have d9 : (W.alloc (.cells #[.int .i64 (-1), .int .i64 (-1)] 3 (0, 0))).cell? ⟨w.heap.size, 9, none⟩ = some (.bool false) := hc.c9
  have d10 : (W.alloc (.cells #[.int .i64 (-1), .int .i64 (-1)] 3 (0, 0))).cell? ⟨w.heap.size, 10, none⟩ = some (.slice none 0 0) := hc.c10
  have d11 : (W.alloc (.cells #[.int .i64 (-1), .int .i64 (-1)] 3 (0, 0))).cell? ⟨w.heap.size, 11, none⟩ = some (.slice none 0 0) := hc.c11
  have d12 : (W.alloc (.cells #[.int .i64 (-1), .int .i64 (-1)] 3 (0, 0))).cell? ⟨w.heap.size, 12, none⟩ = some (.slice none 0 0) := hc.c12
  have hf := hs1.free
  have f0 := hf 0
  have f1 := hf 1
  have f2 := hf 2
  have f3 := hf 3
  have f4 := hf 4
  have f5 := hf 5
  have f6 := hf 6
  have f7 := hf 7
  have f8 := hf 8
  have f9 := hf 9
  have f10 := hf 10
  have f11 := hf 11
  have f12 := hf 12
  have h4 := below_w13 hb1 (g := w.heap.size) (Nat.le_refl _) (0 * 13) rootOb (.slice (some ⟨W.heap.size, 0, none⟩) 2 2) (.slice none 0 0) (.slice none 0 0)
  have hz4 := size_w13 (W.alloc (.cells #[.int .i64 (-1), .int .i64 (-1)] 3 (0, 0))) w.heap.size (0 * 13) rootOb (.slice (some ⟨W.heap.size, 0, none⟩) 2 2) (.slice none 0 0) (.slice none 0 0)
  have H3 : Hid (OwnA w.heap.size 10 ((List.replicate 10 noEl).set 0 ⟨rootOb, .slice (some ⟨W.heap.size, 0, none⟩) 2 2, .slice none 0 0, .slice none 0 0⟩) [] w.heap.size (w13 (W.alloc (.cells #[.int .i64 (-1), .int .i64 (-1)] 3 (0, 0))) w.heap.size (0 * 13) rootOb (.slice (some ⟨W.heap.size, 0, none⟩) 2 2) (.slice none 0 0) (.slice none 0 0)).heap.size (w13 (W.alloc (.cells #[.int .i64 (-1), .int .i64 (-1)] 3 (0, 0))) w.heap.size (0 * 13) rootOb (.slice (some ⟨W.heap.size, 0, none⟩) 2 2) (.slice none 0 0) (.slice none 0 0))) := by rw [hz4]; exact h3
  have H4 := hid_of h4
  clear hs0 hs1 hb0 hb1 hrow hz ho h3 hc hf h4 hz4 hW
  go_enter Try.func52, Try.ntmps52
  go_wp2
  go_ret
  exact ⟨w.heap.size, 10, _, [], rfl, rfl, H3.out, H4.out⟩
end Go.Proofs.Ytokicnopfmokaaa
namespace Go.Proofs.Ytokicnopfmokaaa
open Go.RowKit
set_option linter.unusedVariables false
set_option maxRecDepth 100000

theorem OwnA.byg {g cap : Nat} {es : List El} {rest : List Value} {lo hi : Nat} {w w' : World} {c : Nat} (h : OwnA g cap es rest lo hi w) (hg : w.grownBy w' (some c)) (hlt : c < lo) : OwnA g cap es rest lo hi w' :=
  ⟨grown_kept hg h.at' (fun e => by have := h.lo; have := Option.some.inj e; omega), h.cap, h.lo, h.hi, fun i hi' => (h.own i hi').move (fun b x h1 h2 hx => grown_kept hg hx (fun e => by have := Option.some.inj e; omega)) (Nat.le_refl _) (Nat.le_refl _), h.ne, h.apart⟩
theorem OwnA.fit9 {g cap : Nat} {es : List El} {rest : List Value} {lo hi : Nat} {w : World} (h : OwnA g cap es rest lo hi w) : OwnA g cap es rest lo w.heap.size w := h.fit
/-- What lies there while an arena is drawn. -/
structure GrowA (w : World) (g s : Nat) (v : Value) (wr : World) : Prop where
  own : ∃ ga c fs rs, v = .slice (some ⟨ga, 0, none⟩) 10 c ∧ fs.length = 10 ∧ OwnA ga c fs rs w.heap.size wr.heap.size wr ∧ arenaOk (arOf fs) = true ∧ AllFit (arOf fs)
  cur : CurE wr g s
  grown : w.grownBy wr (some g)
theorem GrowA.by' {w wr w' : World} {g s : Nat} {v : Value} (h : GrowA w g s v wr) (hs : s ≤ w.heap.size) (hc : CurE w' g s) (hg : wr.grownBy w' (some g)) : GrowA w g s v w' := by
  have hlt := hc.lt
  obtain ⟨ga, c, fs, rs, rfl, hl, ho, hok, hf⟩ := h.own
  exact ⟨⟨ga, c, fs, rs, rfl, hl, (ho.byg hg (by omega)).fit, hok, hf⟩, hc, grownBy_trans h.grown hg⟩
theorem GrowA.next {w wr w' : World} {g s : Nat} {v : Value} {ga c : Nat} {fs : List El} {rs : List Value} (h : GrowA w g s v wr) (hs : s ≤ w.heap.size) (hl : fs.length = 10) (ho : OwnA ga c fs rs wr.heap.size w'.heap.size w') (hok : arenaOk (arOf fs) = true) (hf : AllFit (arOf fs)) (hb : Below wr.heap.size wr w') : GrowA w g s (.slice (some ⟨ga, 0, none⟩) 10 c) w' :=
  ⟨⟨ga, c, fs, rs, rfl, hl, ho.wide h.grown.size (Nat.le_refl _), hok, hf⟩, h.cur.below (hb.mono (Nat.le_trans hs h.grown.size)), grown8_then h.grown hb h.grown.size⟩
theorem GrowA.arena {w wr : World} {g s : Nat} {v : Value} (h : GrowA w g s v wr) : ∃ ga c os, v = .slice (some ⟨ga, 0, none⟩) 10 c ∧ os.length = 10 ∧ IsArena wr (.slice (some ⟨ga, 0, none⟩) 10 c) os ∧ arenaOk os = true ∧ AllFit os := by
  obtain ⟨ga, c, fs, rs, rfl, hl, ho, hok, hf⟩ := h.own
  have e := ho.arena
  rw [hl] at e
  exact ⟨ga, c, _, rfl, by rw [arOf_length]; exact hl, e, hok, hf⟩
/-- A link is set in what was drawn. -/
theorem GrowA.link {w wr : World} {g s : Nat} {ga c : Nat} {fs : List El} {rs : List Value} {b i j : Nat} {n cc : Nat} {x : Int} (hs : s ≤ w.heap.size) (hc : CurE wr g s) (hg : w.grownBy wr (some g)) (hl : fs.length = 10) (ho : OwnA ga c fs rs w.heap.size wr.heap.size wr) (hok : arenaOk (arOf fs) = true) (hf : AllFit (arOf fs)) (hi : i < 10) (hj : j < 2)
    (hv : (elAt fs i).l = .slice (some ⟨b, 0, none⟩) n cc) (hk : (obAt (arOf fs) i).kind ≠ 0) (hx : -1 ≤ x ∧ x ≤ 9) (ht : toThing (arOf fs) x = true) : GrowA w g s (.slice (some ⟨ga, 0, none⟩) 10 c) (wr.setCell ⟨b, j, none⟩ (.int .i64 x)) := by
  have hif : i < fs.length := by omega
  have hoo := ho.own i hif
  have hne := ho.ne i hif
  have hob : (elAt fs i).o = obAt (arOf fs) i := (arOf_at fs i).symm
  have hls2 : (elAt fs i).o.ls.length = 2 := by rw [hob]; exact obOk_two (obOk_at (arenaOk_parts hok).2.1 (by rw [arOf_length]; omega)) hk
  have hls := hoo.ls
  rw [hv] at hls
  have hset := hls.setAt (k := j) (by omega) x
  have hb2 : Go.Proofs.Ytokicnopfmokaaa.blk (.slice (some ⟨b, 0, none⟩) n cc) = [b] := blk_one _ (by obtain ⟨_, _, e, hcc, _⟩ := hls; have := (Value.slice.inj e).2.2; have := (Value.slice.inj e).2.1; omega)
  have hbl := hls.blk (g := b) (by rw [hb2]; simp)
  have ap := apart_ld hoo
  rw [hv, hb2] at ap
  have hbg : b ≠ ga := fun e => hne (by unfold blks; rw [hv, hb2]; simp [e])
  have ht2 := hset.2
  rw [hb2] at ht2
  refine ⟨⟨ga, c, fs.set i ⟨{ (elAt fs i).o with ls := (elAt fs i).o.ls.set j x }, (elAt fs i).l, (elAt fs i).d, (elAt fs i).m⟩, rs, rfl, by rw [List.length_set]; exact hl, ?_, ?_, ?_⟩, hc.set _ _ _ (by omega), grownBy_new8 hg hbl.1 _ _⟩
  · refine (ho.mark hif (o' := { (elAt fs i).o with ls := (elAt fs i).o.ls.set j x }) ?_ ⟨by rw [hv]; exact hset.1, hoo.ds.keepIf fun b' y hb' hy => ht2.block _ _ (by have := ap.1 b' hb'; simpa using this) hy, hoo.qs.keepIf fun b' y hb' hy => ht2.block _ _ (by have := (ap.2 b' hb').1; simpa using this) hy, hoo.nd⟩ (fun b' y hbg' hbm hy => ht2.block _ _ (by unfold blks at hbm; rw [hv, hb2] at hbm; simp at hbm; simpa using hbm.1) hy)).fit
    rw [setCell_keep ho.at' (fun e => hbg e.symm)]
    obtain ⟨A, B, hA, h1, h2⟩ := ecells_block hif
    rw [h1, h2]
    rfl
  · have e := link_ok hok hi j x hk hx ht
    rw [arOf_set]
    unfold linkL at e
    rw [← hob] at e
    exact e
  · have e := link_fit hf i j x
    rw [arOf_set]
    unfold linkL at e
    rw [← hob] at e
    exact e
def ArenaDrawn (w : World) (g s : Nat) (e : Ending) (w' : World) : Prop := ∃ v, e = .returned v ∧ GrowA w g s v w'
theorem freeOf_len8 (os : List Ob) (i : Int) : (freeOf os i).length = os.length := by unfold freeOf; split <;> simp
theorem putOf_len8 (os : List Ob) (o : Ob) : (putOf os o).length = os.length := by unfold putOf; split; exact putL_length _ _ _; rfl
theorem new_right : arenaOk newA = true ∧ AllFit newA := ⟨by decide, fun i => by
  unfold Fits obAt newA
  cases i with
  | zero => simp [rootOb]
  | succ i =>
    rw [List.getD_cons_succ, List.getD_eq_getElem?_getD, List.getElem?_replicate]
    split <;> simp [noOb]⟩
/-- What the region leaves that sets a link of the arena. -/
def gLnk2 (b : Nat) (vs : List Value) (i : Nat) (u : Value) (w : World) : Prop := match i with
  | 6 => ∃ v : Nat, v < 2 ∧ u = .int .i64 v
  | 8 => ∃ v : Nat, v < 2 ∧ u = .pointer (some ⟨b, v, none⟩)
  | i => u = vs.getD i undef
theorem gLnk2_any {b : Nat} {vs : List Value} {w w' : World} (i : Nat) (u : Value) (h : gLnk2 b vs i u w) : gLnk2 b vs i u w' := by
  unfold gLnk2 at h ⊢
  split
  · exact h
  · exact h
  · rename_i a1 a2
    split at h
    · exact absurd rfl a1
    · exact absurd rfl a2
    · exact h
set_option maxRecDepth 100000 in
set_option maxHeartbeats 16000000 in
theorem l8Arena_any (w : World) (g s : Nat) (h : CurE w g s) (hs : s ≤ w.heap.size) :
    Calls Try.prog 36 #[.pointer (some ⟨g, 0, none⟩)] w fun e w' => ArenaDrawn w g s e w' := by
  have C0 := specNew_any w
  unfold ArenaAns at C0
  rw [show newA.length = 10 from rfl] at C0
  have Hs : Hid (s ≤ w.heap.size) := hs
  have HCU := hid_of h
  have HGL : Hid (g < w.heap.size) := Nat.lt_of_lt_of_le h.lt hs
  clear h hs
  go_enter Try.func36, Try.ntmps36
  go_wp2_with fail
  refine C0.mono ?_
  rintro e w1 ⟨ga, ca, fa, ra, rfl, hea, hoa, hb⟩
  have HG1 : Hid (GrowA w g s (.slice (some ⟨ga, 0, none⟩) 10 ca) w1) := ⟨⟨ga, ca, fa, ra, rfl, by rw [← arOf_length, hea]; rfl, hoa, by rw [hea]; exact new_right.1, by rw [hea]; exact new_right.2⟩, HCU.out.below (hb.mono Hs.out), grown8_then (World.grownBy.refl _ _) hb (Nat.le_refl _)⟩
  clear C0 hea hoa hb HCU
  go_wp2_with fail
  refine (belowE w1 g s 14 HG1.out.cur (by omega) (by omega)).mono ?_
  rintro e w2 ⟨n, rfl, hn, hc, hgr⟩
  have HG2 := hid_of (HG1.out.by' Hs.out hc hgr)
  clear hc hgr HG1
  go_wp2
  go_loopw [3, 4] (fun t n wr => ∃ k : Nat, k ≤ 14 ∧ n = .int .i64 k ∧ Hid (GrowA w g s t wr)) (fun _ n _ => (intOf n).toNat)
  case atStart => exact ⟨n, by omega, rfl, HG2⟩
  case round =>
    obtain ⟨k, hk, rfl, hg⟩ := hrel
    clear HG2
    by_cases hlt : 0 < k
    · go_wp2_with fail
      refine (onceE wr g s 5 hg.out.cur (by omega) (by omega)).mono ?_
      rintro e w3 ⟨bb, rfl, hc, hgr⟩
      have HG3 := hid_of (hg.out.by' Hs.out hc hgr)
      clear hc hgr hg
      cases bb with
      | true =>
        go_wp2_with fail
        refine (belowE w3 g s 10 HG3.out.cur (by omega) (by omega)).mono ?_
        rintro e w4 ⟨q, rfl, hq, hc, hgr⟩
        have HG4 := hid_of (HG3.out.by' Hs.out hc hgr)
        clear hc hgr HG3
        obtain ⟨gb, c, os, rfl, hl, hx, hok, hf⟩ := HG4.out.arena
        have C := specFree_any _ os (q : Int) w4 hx (by omega) (ok_small hok) hf
        unfold FreeAns at C
        rw [freeOf_len8, hl] at C
        have HR : Hid (arenaOk (freeOf os q) = true ∧ AllFit (freeOf os q) ∧ (freeOf os (q : Int)).length = 10) := ⟨free_ok hok _, free_fit hf _, by rw [freeOf_len8]; exact hl⟩
        clear hl hx hok hf
        go_wp2_with fail
        refine C.mono ?_
        rintro e w5 ⟨g5, c5, f5, r5, rfl, he5, ho5, hb5⟩
        have HG5 := hid_of (HG4.out.next Hs.out (by rw [← arOf_length, he5]; exact HR.out.2.2) ho5 (by rw [he5]; exact HR.out.1) (by rw [he5]; exact HR.out.2.1) hb5)
        clear C he5 ho5 hb5 HG4 HR
        go_wp2
        go_roundw
        case rel => exact ⟨k - 1, by omega, by go_num, HG5⟩
        case measure => simp [intOf]; omega
      | false =>
        obtain ⟨gb, c, os, rfl, hl, hx, hok, hf⟩ := HG3.out.arena
        have C := l8New_any w3 g s ⟨gb, 0, none⟩ c os HG3.out.cur (Nat.le_trans Hs.out HG3.out.grown.size) hx hl
        clear hl hx hok hf
        go_wp2_with fail
        refine C.mono ?_
        rintro e w4 ⟨o, l', d', m', rfl, hown, hon, hfit, hc, hgr⟩
        have HG4 := hid_of (HG3.out.by' Hs.out hc hgr)
        obtain ⟨gb', c', os', hv', hl, hx, hok, hf⟩ := HG4.out.arena
        obtain ⟨rfl, rfl⟩ : gb = gb' ∧ c = c' := by simpa using hv'
        have C2 := specPut_any _ os' o l' d' m' w4 hx hown.lists (by omega) (ok_small hok) (by omega) hf hfit
        unfold PutAns at C2
        rw [putOf_len8, hl] at C2
        have HR : Hid (arenaOk (putOf os' o) = true ∧ AllFit (putOf os' o) ∧ (putOf os' o).length = 10) := ⟨put_ok hok _, put_fit hf hfit, by rw [putOf_len8]; exact hl⟩
        clear C hown hon hfit hc hgr hl hx hok hf hv' HG3
        go_wp2_with fail
        refine C2.mono ?_
        rintro e w5 ⟨g5, c5, f5, r5, rfl, he5, ho5, hb5⟩
        have HG5 := hid_of (HG4.out.next Hs.out (by rw [← arOf_length, he5]; exact HR.out.2.2) ho5 (by rw [he5]; exact HR.out.1) (by rw [he5]; exact HR.out.2.1) hb5)
        clear C2 he5 ho5 hb5 HG4 HR
        go_wp2
        go_roundw
        case rel => exact ⟨k - 1, by omega, by go_num, HG5⟩
        case measure => simp [intOf]; omega
    · have hd : decide ((0 : Int) < (k : Int)) = false := decide_eq_false (by omega)
      have hd2 : decide (0 < k) = false := decide_eq_false (by omega)
      obtain ⟨W0, hW0⟩ : ∃ W0, W0 = wr := ⟨_, rfl⟩
      subst hW0
      obtain ⟨ga, c, os0, rfl, -, -, -, -⟩ := hg.out.arena
      have hcap : 10 ≤ c := by obtain ⟨gx, cx, fs, rs, hv, hl, ho, _⟩ := hg.out.own; have e := (Value.slice.inj hv).2.2; have := ho.cap; omega
      go_wp2
      try simp only [hd]
      try simp only [hd2]
      clear hd hd2
      go_loopw [9] (fun i wr => ∃ k : Nat, k ≤ 10 ∧ i = .int .i64 k ∧ Hid (GrowA w g s (.slice (some ⟨ga, 0, none⟩) 10 c) wr)) (fun i _ => 10 - (intOf i).toNat)
      case atStart => exact ⟨0, by omega, rfl, hg⟩
      case round =>
        obtain ⟨k, hk, rfl, hin⟩ := hrel
        clear hg
        by_cases hlt : k < 10
        · obtain ⟨gx, cx, fs, rs, hv, hl, ho, hok, hf⟩ := hin.out.own
          obtain ⟨rfl, rfl⟩ : ga = gx ∧ c = cx := by simpa using hv
          have hkf : k < fs.length := by omega
          have c1 := (ho.cells hkf).c1
          have HK10 : Hid ((k : Int) < 10) := by show (k : Int) < 10; omega
          by_cases hkz : (elAt fs k).o.kind = 0
          · rw [hkz] at c1
            clear hv hl ho hok hf hkf hkz
            go_wp2
            go_roundw
            case rel => exact ⟨k + 1, by omega, by go_num, hin⟩
            case measure => simp [intOf]; omega
          · have HKZ := hid_of hkz
            have qk : ((elAt fs k).o.kind != 0) = true := by simp [bne, beq_eq_false_iff_ne.2 hkz]
            have HH : Hid (fs.length = 10 ∧ OwnA ga c fs rs w.heap.size wr.heap.size wr ∧ arenaOk (arOf fs) = true ∧ AllFit (arOf fs)) := ⟨hl, ho, hok, hf⟩
            clear hv hl ho hok hf hkf hkz
            go_wp2_with fail
            refine (onceE wr g s 4 hin.out.cur (by omega) (by omega)).mono ?_
            rintro e w6 ⟨bb, rfl, hc, hgr⟩
            have HG6 := hid_of (hin.out.by' Hs.out hc hgr)
            have HO6 := hid_of (HH.out.2.1.byg hgr HGL.out).fit
            clear hc hgr hin c1 qk
            cases bb with
            | false =>
              go_wp2
              go_roundw
              case rel => exact ⟨k + 1, by omega, by go_num, HG6⟩
              case measure => simp [intOf]; omega
            | true =>
              go_wp2_with fail
              refine (belowE w6 g s 10 HG6.out.cur (by omega) (by omega)).mono ?_
              rintro e w7 ⟨q, rfl, hq, hc, hgr⟩
              have HG7 := hid_of (HG6.out.by' Hs.out hc hgr)
              have HO7 := hid_of (HO6.out.byg hgr HGL.out).fit
              clear hc hgr HG6 HO6
              have hqf : q < fs.length := by rw [HH.out.1]; exact hq
              have c1 := (HO7.out.cells hqf).c1
              by_cases hqz : (elAt fs q).o.kind = 0
              · rw [hqz] at c1
                clear hqf hqz
                go_wp2
                go_roundw
                case rel => exact ⟨k + 1, by omega, by go_num, HG7⟩
                case measure => simp [intOf]; omega
              · have qk : ((elAt fs q).o.kind != 0) = true := by simp [bne, beq_eq_false_iff_ne.2 hqz]
                obtain ⟨W8, hW8⟩ : ∃ W8, W8 = w7 := ⟨_, rfl⟩
                subst hW8
                have HCW := hid_of HG7.out.cur
                have HGR := hid_of HG7.out.grown
                have HOW : Hid (OwnA ga c fs rs w.heap.size W8.heap.size W8) := HO7.out
                have hkf : k < fs.length := by rw [HH.out.1]; exact hlt
                have hob : (elAt fs k).o = obAt (arOf fs) k := (arOf_at fs k).symm
                have HKK : Hid ((obAt (arOf fs) k).kind ≠ 0) := by show _ ≠ _; rw [← hob]; exact HKZ.out
                have hls2 : (elAt fs k).o.ls.length = 2 := by rw [hob]; exact obOk_two (obOk_at (arenaOk_parts HH.out.2.2.1).2.1 (by rw [arOf_length]; exact hkf)) HKK.out
                obtain ⟨av, cb, hlv, hcc, hxx⟩ := (HO7.out.own k hkf).ls
                obtain ⟨b, rws, rfl, hb1, hb2, hrow⟩ := hxx (by omega)
                rw [hls2] at hlv
                have HLV := hid_of hlv
                have HCELL : Hid (∀ wz, OwnA ga c fs rs w.heap.size W8.heap.size wz → ∀ v, v < 2 → ∃ x, wz.cell? ⟨b, v, none⟩ = some (.int .i64 x) ∧ wz.frozen? ⟨b, v, none⟩ = false) := fun wz hz v hv => by
                  have e := (hz.own k hkf).ls
                  rw [HLV.out] at e
                  obtain ⟨_, _, ev, _, ex⟩ := e
                  obtain ⟨b', r', ea, _, _, er, _⟩ := ex (by omega)
                  have e1 : some (⟨b, 0, none⟩ : Addr) = some ⟨b', 0, none⟩ := by rw [(Value.slice.inj ev).1, ea]
                  have e2 : b = b' := by simpa using e1
                  subst e2
                  exact ⟨_, er.cell v (by omega), er.free v⟩
                have HKF := hid_of hkf
                have HK9 : Hid (k < 10) := hlt
                have HFL := hid_of HH.out.1
                have HOK := hid_of HH.out.2.2.1
                have HFI := hid_of HH.out.2.2.2
                have HQB : Hid (-1 ≤ (q : Int) ∧ (q : Int) ≤ 9) := by show _ ∧ _; omega
                have HTT : Hid (toThing (arOf fs) (q : Int) = true) := thing_yes (.inr (by rw [Int.toNat_natCast, arOf_at]; exact hqz))
                have HQ : Hid ((⟨ga, 0, none⟩ : Addr).add (k * 13) = ⟨ga, k * 13, none⟩) := add_head ga (k * 13)
                clear hqf hqz hkf hob hls2 hlv hcc hxx hb1 hb2 hrow HG7 HO7 HH HKZ
                go_wp2_with fail
                refine wp_region_whole (by kernel_rfl) (by kernel_rfl) (by kernel_rfl) (by kernel_rfl) (LastS 9 (Flat (fun wz => CurE wz g s ∧ w.grownBy wz (some g) ∧ OwnA ga c fs rs w.heap.size W8.heap.size wz) (gLnk2 b [.slice (some ⟨ga, 0, none⟩) 10 c, .int .i64 k, .pointer (some ⟨ga, k * 13, none⟩), .pointer (some ⟨ga, k * 13 + 10, none⟩), .slice (some ⟨b, 0, none⟩) 2 cb, .pointer (some ⟨g, 0, none⟩), undef, .int .i64 q, undef, undef])) (fun _ wz => GrowA w g s (.slice (some ⟨ga, 0, none⟩) 10 c) wz)) (fun us => lastS_start (flat_start ⟨HCW.out.drew, grownBy_drewN HGR.out 1, HOW.out.on (below_draw _)⟩ us)) ?_ ?_
                · refine ⟨?_, ?_, ?_, ?_, ?_, ?_, ?_, ?_, ?_, ?_, trivial⟩
                  · intro b0 us wz L hslot hoth hLi hRR hcl hdo K hK
                    have hsf9 : L 9 = false := by
                      cases h : L 9 with
                      | false => rfl
                      | true => first | (rw [done_at (hcl 9 _ rfl h) 0 (by rfl)] at hLi; cases hLi) | (rw [done_at (hcl 8 _ rfl (done_at (hcl 9 _ rfl h) 8 (by rfl))) 0 (by rfl)] at hLi; cases hLi) | (rw [done_at (hcl 7 _ rfl (done_at (hcl 9 _ rfl h) 7 (by rfl))) 0 (by rfl)] at hLi; cases hLi) | (rw [done_at (hcl 4 _ rfl (done_at (hcl 8 _ rfl (done_at (hcl 9 _ rfl h) 8 (by rfl))) 4 (by rfl))) 0 (by rfl)] at hLi; cases hLi) | (rw [done_at (hcl 6 _ rfl (done_at (hcl 8 _ rfl (done_at (hcl 9 _ rfl h) 8 (by rfl))) 6 (by rfl))) 0 (by rfl)] at hLi; cases hLi) | (rw [done_at (hcl 3 _ rfl (done_at (hcl 4 _ rfl (done_at (hcl 8 _ rfl (done_at (hcl 9 _ rfl h) 8 (by rfl))) 4 (by rfl))) 3 (by rfl))) 0 (by rfl)] at hLi; cases hLi) | (rw [done_at (hcl 2 _ rfl (done_at (hcl 3 _ rfl (done_at (hcl 4 _ rfl (done_at (hcl 8 _ rfl (done_at (hcl 9 _ rfl h) 8 (by rfl))) 4 (by rfl))) 3 (by rfl))) 2 (by rfl))) 0 (by rfl)] at hLi; cases hLi)
                    have hR := lastS_open hRR hsf9
                    have s3 : b0.tmps.getD 3 undef = .slice (some ⟨ga, 0, none⟩) 10 c := hoth 3 (by rfl)
                    clear hslot hoth hdo hcl hLi
                    refine guard_none (by rfl) ?_
                    go_simp
                    exact hK _ _ (lastS_step (by decide) hsf9 (flat_mark (hR.1) (fun _ _ h => h) hR.2 rfl))
                  · intro b0 us wz L hslot hoth hLi hRR hcl hdo K hK
                    have hsf9 : L 9 = false := by
                      cases h : L 9 with
                      | false => rfl
                      | true => first | (rw [done_at (hcl 9 _ rfl h) 1 (by rfl)] at hLi; cases hLi) | (rw [done_at (hcl 8 _ rfl (done_at (hcl 9 _ rfl h) 8 (by rfl))) 1 (by rfl)] at hLi; cases hLi) | (rw [done_at (hcl 7 _ rfl (done_at (hcl 9 _ rfl h) 7 (by rfl))) 1 (by rfl)] at hLi; cases hLi) | (rw [done_at (hcl 4 _ rfl (done_at (hcl 8 _ rfl (done_at (hcl 9 _ rfl h) 8 (by rfl))) 4 (by rfl))) 1 (by rfl)] at hLi; cases hLi) | (rw [done_at (hcl 6 _ rfl (done_at (hcl 8 _ rfl (done_at (hcl 9 _ rfl h) 8 (by rfl))) 6 (by rfl))) 1 (by rfl)] at hLi; cases hLi) | (rw [done_at (hcl 3 _ rfl (done_at (hcl 4 _ rfl (done_at (hcl 8 _ rfl (done_at (hcl 9 _ rfl h) 8 (by rfl))) 4 (by rfl))) 3 (by rfl))) 1 (by rfl)] at hLi; cases hLi) | (rw [done_at (hcl 2 _ rfl (done_at (hcl 3 _ rfl (done_at (hcl 4 _ rfl (done_at (hcl 8 _ rfl (done_at (hcl 9 _ rfl h) 8 (by rfl))) 4 (by rfl))) 3 (by rfl))) 2 (by rfl))) 1 (by rfl)] at hLi; cases hLi)
                    have hR := lastS_open hRR hsf9
                    have s9 : b0.tmps.getD 9 undef = .int .i64 k := hoth 9 (by rfl)
                    clear hslot hoth hdo hcl hLi
                    refine guard_none (by rfl) ?_
                    go_simp
                    exact hK _ _ (lastS_step (by decide) hsf9 (flat_mark (hR.1) (fun _ _ h => h) hR.2 rfl))
                  · intro b0 us wz L hslot hoth hLi hRR hcl hdo K hK
                    have hsf9 : L 9 = false := by
                      cases h : L 9 with
                      | false => rfl
                      | true => first | (rw [done_at (hcl 9 _ rfl h) 2 (by rfl)] at hLi; cases hLi) | (rw [done_at (hcl 8 _ rfl (done_at (hcl 9 _ rfl h) 8 (by rfl))) 2 (by rfl)] at hLi; cases hLi) | (rw [done_at (hcl 7 _ rfl (done_at (hcl 9 _ rfl h) 7 (by rfl))) 2 (by rfl)] at hLi; cases hLi) | (rw [done_at (hcl 4 _ rfl (done_at (hcl 8 _ rfl (done_at (hcl 9 _ rfl h) 8 (by rfl))) 4 (by rfl))) 2 (by rfl)] at hLi; cases hLi) | (rw [done_at (hcl 6 _ rfl (done_at (hcl 8 _ rfl (done_at (hcl 9 _ rfl h) 8 (by rfl))) 6 (by rfl))) 2 (by rfl)] at hLi; cases hLi) | (rw [done_at (hcl 3 _ rfl (done_at (hcl 4 _ rfl (done_at (hcl 8 _ rfl (done_at (hcl 9 _ rfl h) 8 (by rfl))) 4 (by rfl))) 3 (by rfl))) 2 (by rfl)] at hLi; cases hLi) | (rw [done_at (hcl 2 _ rfl (done_at (hcl 3 _ rfl (done_at (hcl 4 _ rfl (done_at (hcl 8 _ rfl (done_at (hcl 9 _ rfl h) 8 (by rfl))) 4 (by rfl))) 3 (by rfl))) 2 (by rfl))) 2 (by rfl)] at hLi; cases hLi)
                    have hR := lastS_open hRR hsf9
                    have s63 : b0.tmps.getD 63 undef = .slice (some ⟨ga, 0, none⟩) 10 c := (hslot 0 63 (by rfl)).trans (hR.2 0 (done_at hdo 0 (by rfl)))
                    have s64 : b0.tmps.getD 64 undef = .int .i64 k := (hslot 1 64 (by rfl)).trans (hR.2 1 (done_at hdo 1 (by rfl)))
                    have hq := HQ.out
                    have hk10 := HK10.out
                    clear hslot hoth hdo hcl hLi
                    refine guard_none (by rfl) ?_
                    go_simp
                    exact hK _ _ (lastS_step (by decide) hsf9 (flat_mark (hR.1) (fun _ _ h => h) hR.2 rfl))
                  · intro b0 us wz L hslot hoth hLi hRR hcl hdo K hK
                    have hsf9 : L 9 = false := by
                      cases h : L 9 with
                      | false => rfl
                      | true => first | (rw [done_at (hcl 9 _ rfl h) 3 (by rfl)] at hLi; cases hLi) | (rw [done_at (hcl 8 _ rfl (done_at (hcl 9 _ rfl h) 8 (by rfl))) 3 (by rfl)] at hLi; cases hLi) | (rw [done_at (hcl 7 _ rfl (done_at (hcl 9 _ rfl h) 7 (by rfl))) 3 (by rfl)] at hLi; cases hLi) | (rw [done_at (hcl 4 _ rfl (done_at (hcl 8 _ rfl (done_at (hcl 9 _ rfl h) 8 (by rfl))) 4 (by rfl))) 3 (by rfl)] at hLi; cases hLi) | (rw [done_at (hcl 6 _ rfl (done_at (hcl 8 _ rfl (done_at (hcl 9 _ rfl h) 8 (by rfl))) 6 (by rfl))) 3 (by rfl)] at hLi; cases hLi) | (rw [done_at (hcl 3 _ rfl (done_at (hcl 4 _ rfl (done_at (hcl 8 _ rfl (done_at (hcl 9 _ rfl h) 8 (by rfl))) 4 (by rfl))) 3 (by rfl))) 3 (by rfl)] at hLi; cases hLi) | (rw [done_at (hcl 2 _ rfl (done_at (hcl 3 _ rfl (done_at (hcl 4 _ rfl (done_at (hcl 8 _ rfl (done_at (hcl 9 _ rfl h) 8 (by rfl))) 4 (by rfl))) 3 (by rfl))) 2 (by rfl))) 3 (by rfl)] at hLi; cases hLi)
                    have hR := lastS_open hRR hsf9
                    have s65 : b0.tmps.getD 65 undef = .pointer (some ⟨ga, k * 13, none⟩) := (hslot 2 65 (by rfl)).trans (hR.2 2 (done_at hdo 2 (by rfl)))
                    clear hslot hoth hdo hcl hLi
                    refine guard_none (by rfl) ?_
                    go_simp
                    exact hK _ _ (lastS_step (by decide) hsf9 (flat_mark (hR.1) (fun _ _ h => h) hR.2 rfl))
                  · intro b0 us wz L hslot hoth hLi hRR hcl hdo K hK
                    have hsf9 : L 9 = false := by
                      cases h : L 9 with
                      | false => rfl
                      | true => first | (rw [done_at (hcl 9 _ rfl h) 4 (by rfl)] at hLi; cases hLi) | (rw [done_at (hcl 8 _ rfl (done_at (hcl 9 _ rfl h) 8 (by rfl))) 4 (by rfl)] at hLi; cases hLi) | (rw [done_at (hcl 7 _ rfl (done_at (hcl 9 _ rfl h) 7 (by rfl))) 4 (by rfl)] at hLi; cases hLi) | (rw [done_at (hcl 4 _ rfl (done_at (hcl 8 _ rfl (done_at (hcl 9 _ rfl h) 8 (by rfl))) 4 (by rfl))) 4 (by rfl)] at hLi; cases hLi) | (rw [done_at (hcl 6 _ rfl (done_at (hcl 8 _ rfl (done_at (hcl 9 _ rfl h) 8 (by rfl))) 6 (by rfl))) 4 (by rfl)] at hLi; cases hLi) | (rw [done_at (hcl 3 _ rfl (done_at (hcl 4 _ rfl (done_at (hcl 8 _ rfl (done_at (hcl 9 _ rfl h) 8 (by rfl))) 4 (by rfl))) 3 (by rfl))) 4 (by rfl)] at hLi; cases hLi) | (rw [done_at (hcl 2 _ rfl (done_at (hcl 3 _ rfl (done_at (hcl 4 _ rfl (done_at (hcl 8 _ rfl (done_at (hcl 9 _ rfl h) 8 (by rfl))) 4 (by rfl))) 3 (by rfl))) 2 (by rfl))) 4 (by rfl)] at hLi; cases hLi)
                    have hR := lastS_open hRR hsf9
                    have s66 : b0.tmps.getD 66 undef = .pointer (some ⟨ga, k * 13 + 10, none⟩) := (hslot 3 66 (by rfl)).trans (hR.2 3 (done_at hdo 3 (by rfl)))
                    have k10 := (hR.1.2.2.cells HKF.out).c10
                    rw [HLV.out] at k10
                    clear hslot hoth hdo hcl hLi
                    refine guard_none (by rfl) ?_
                    go_simp
                    exact hK _ _ (lastS_step (by decide) hsf9 (flat_mark (hR.1) (fun _ _ h => h) hR.2 rfl))
                  · intro b0 us wz L hslot hoth hLi hRR hcl hdo K hK
                    have hsf9 : L 9 = false := by
                      cases h : L 9 with
                      | false => rfl
                      | true => first | (rw [done_at (hcl 9 _ rfl h) 5 (by rfl)] at hLi; cases hLi) | (rw [done_at (hcl 8 _ rfl (done_at (hcl 9 _ rfl h) 8 (by rfl))) 5 (by rfl)] at hLi; cases hLi) | (rw [done_at (hcl 7 _ rfl (done_at (hcl 9 _ rfl h) 7 (by rfl))) 5 (by rfl)] at hLi; cases hLi) | (rw [done_at (hcl 4 _ rfl (done_at (hcl 8 _ rfl (done_at (hcl 9 _ rfl h) 8 (by rfl))) 4 (by rfl))) 5 (by rfl)] at hLi; cases hLi) | (rw [done_at (hcl 6 _ rfl (done_at (hcl 8 _ rfl (done_at (hcl 9 _ rfl h) 8 (by rfl))) 6 (by rfl))) 5 (by rfl)] at hLi; cases hLi) | (rw [done_at (hcl 3 _ rfl (done_at (hcl 4 _ rfl (done_at (hcl 8 _ rfl (done_at (hcl 9 _ rfl h) 8 (by rfl))) 4 (by rfl))) 3 (by rfl))) 5 (by rfl)] at hLi; cases hLi) | (rw [done_at (hcl 2 _ rfl (done_at (hcl 3 _ rfl (done_at (hcl 4 _ rfl (done_at (hcl 8 _ rfl (done_at (hcl 9 _ rfl h) 8 (by rfl))) 4 (by rfl))) 3 (by rfl))) 2 (by rfl))) 5 (by rfl)] at hLi; cases hLi)
                    have hR := lastS_open hRR hsf9
                    have s0 : b0.tmps.getD 0 undef = .pointer (some ⟨g, 0, none⟩) := hoth 0 (by rfl)
                    clear hslot hoth hdo hcl hLi
                    refine guard_none (by rfl) ?_
                    go_simp
                    exact hK _ _ (lastS_step (by decide) hsf9 (flat_mark (hR.1) (fun _ _ h => h) hR.2 rfl))
                  · intro b0 us wz L hslot hoth hLi hRR hcl hdo K hK
                    have hsf9 : L 9 = false := by
                      cases h : L 9 with
                      | false => rfl
                      | true => first | (rw [done_at (hcl 9 _ rfl h) 6 (by rfl)] at hLi; cases hLi) | (rw [done_at (hcl 8 _ rfl (done_at (hcl 9 _ rfl h) 8 (by rfl))) 6 (by rfl)] at hLi; cases hLi) | (rw [done_at (hcl 7 _ rfl (done_at (hcl 9 _ rfl h) 7 (by rfl))) 6 (by rfl)] at hLi; cases hLi) | (rw [done_at (hcl 4 _ rfl (done_at (hcl 8 _ rfl (done_at (hcl 9 _ rfl h) 8 (by rfl))) 4 (by rfl))) 6 (by rfl)] at hLi; cases hLi) | (rw [done_at (hcl 6 _ rfl (done_at (hcl 8 _ rfl (done_at (hcl 9 _ rfl h) 8 (by rfl))) 6 (by rfl))) 6 (by rfl)] at hLi; cases hLi) | (rw [done_at (hcl 3 _ rfl (done_at (hcl 4 _ rfl (done_at (hcl 8 _ rfl (done_at (hcl 9 _ rfl h) 8 (by rfl))) 4 (by rfl))) 3 (by rfl))) 6 (by rfl)] at hLi; cases hLi) | (rw [done_at (hcl 2 _ rfl (done_at (hcl 3 _ rfl (done_at (hcl 4 _ rfl (done_at (hcl 8 _ rfl (done_at (hcl 9 _ rfl h) 8 (by rfl))) 4 (by rfl))) 3 (by rfl))) 2 (by rfl))) 6 (by rfl)] at hLi; cases hLi)
                    have hR := lastS_open hRR hsf9
                    have s68 : b0.tmps.getD 68 undef = .pointer (some ⟨g, 0, none⟩) := (hslot 5 68 (by rfl)).trans (hR.2 5 (done_at hdo 5 (by rfl)))
                    clear hslot hoth hdo hcl hLi
                    refine guard_none (by rfl) ?_
                    go_simp
                    refine (belowE wz g s 2 hR.1.1 (by omega) (by omega)).mono ?_
                    rintro e w' ⟨v, rfl, hv, hc, hg⟩
                    exact hK _ _ (lastS_step (by decide) hsf9 (flat_mark ⟨hc, grownBy_trans hR.1.2.1 hg, hR.1.2.2.byg hg HGL.out⟩ gLnk2_any hR.2 ⟨v, hv, rfl⟩))
                  · intro b0 us wz L hslot hoth hLi hRR hcl hdo K hK
                    have hsf9 : L 9 = false := by
                      cases h : L 9 with
                      | false => rfl
                      | true => first | (rw [done_at (hcl 9 _ rfl h) 7 (by rfl)] at hLi; cases hLi) | (rw [done_at (hcl 8 _ rfl (done_at (hcl 9 _ rfl h) 8 (by rfl))) 7 (by rfl)] at hLi; cases hLi) | (rw [done_at (hcl 7 _ rfl (done_at (hcl 9 _ rfl h) 7 (by rfl))) 7 (by rfl)] at hLi; cases hLi) | (rw [done_at (hcl 4 _ rfl (done_at (hcl 8 _ rfl (done_at (hcl 9 _ rfl h) 8 (by rfl))) 4 (by rfl))) 7 (by rfl)] at hLi; cases hLi) | (rw [done_at (hcl 6 _ rfl (done_at (hcl 8 _ rfl (done_at (hcl 9 _ rfl h) 8 (by rfl))) 6 (by rfl))) 7 (by rfl)] at hLi; cases hLi) | (rw [done_at (hcl 3 _ rfl (done_at (hcl 4 _ rfl (done_at (hcl 8 _ rfl (done_at (hcl 9 _ rfl h) 8 (by rfl))) 4 (by rfl))) 3 (by rfl))) 7 (by rfl)] at hLi; cases hLi) | (rw [done_at (hcl 2 _ rfl (done_at (hcl 3 _ rfl (done_at (hcl 4 _ rfl (done_at (hcl 8 _ rfl (done_at (hcl 9 _ rfl h) 8 (by rfl))) 4 (by rfl))) 3 (by rfl))) 2 (by rfl))) 7 (by rfl)] at hLi; cases hLi)
                    have hR := lastS_open hRR hsf9
                    have s10 : b0.tmps.getD 10 undef = .int .i64 q := hoth 10 (by rfl)
                    clear hslot hoth hdo hcl hLi
                    refine guard_none (by rfl) ?_
                    go_simp
                    exact hK _ _ (lastS_step (by decide) hsf9 (flat_mark (hR.1) (fun _ _ h => h) hR.2 rfl))
                  · intro b0 us wz L hslot hoth hLi hRR hcl hdo K hK
                    have hsf9 : L 9 = false := by
                      cases h : L 9 with
                      | false => rfl
                      | true => first | (rw [done_at (hcl 9 _ rfl h) 8 (by rfl)] at hLi; cases hLi) | (rw [done_at (hcl 8 _ rfl (done_at (hcl 9 _ rfl h) 8 (by rfl))) 8 (by rfl)] at hLi; cases hLi) | (rw [done_at (hcl 7 _ rfl (done_at (hcl 9 _ rfl h) 7 (by rfl))) 8 (by rfl)] at hLi; cases hLi) | (rw [done_at (hcl 4 _ rfl (done_at (hcl 8 _ rfl (done_at (hcl 9 _ rfl h) 8 (by rfl))) 4 (by rfl))) 8 (by rfl)] at hLi; cases hLi) | (rw [done_at (hcl 6 _ rfl (done_at (hcl 8 _ rfl (done_at (hcl 9 _ rfl h) 8 (by rfl))) 6 (by rfl))) 8 (by rfl)] at hLi; cases hLi) | (rw [done_at (hcl 3 _ rfl (done_at (hcl 4 _ rfl (done_at (hcl 8 _ rfl (done_at (hcl 9 _ rfl h) 8 (by rfl))) 4 (by rfl))) 3 (by rfl))) 8 (by rfl)] at hLi; cases hLi) | (rw [done_at (hcl 2 _ rfl (done_at (hcl 3 _ rfl (done_at (hcl 4 _ rfl (done_at (hcl 8 _ rfl (done_at (hcl 9 _ rfl h) 8 (by rfl))) 4 (by rfl))) 3 (by rfl))) 2 (by rfl))) 8 (by rfl)] at hLi; cases hLi)
                    have hR := lastS_open hRR hsf9
                    have s67 : b0.tmps.getD 67 undef = .slice (some ⟨b, 0, none⟩) 2 cb := (hslot 4 67 (by rfl)).trans (hR.2 4 (done_at hdo 4 (by rfl)))
                    obtain ⟨v, hv2, hv⟩ := hR.2 6 (done_at hdo 6 (by rfl))
                    have s69 : b0.tmps.getD 69 undef = .int .i64 v := (hslot 6 69 (by rfl)).trans hv
                    have hv2i : (v : Int) < 2 := by omega
                    clear hslot hoth hdo hcl hLi
                    refine guard_none (by rfl) ?_
                    go_simp
                    exact hK _ _ (lastS_step (by decide) hsf9 (flat_mark hR.1 (fun _ _ h => h) hR.2 ⟨v, hv2, rfl⟩))
                  · intro b0 us wz L hslot hoth hLi hRR hcl hdo K hK
                    have hR := lastS_open hRR hLi
                    obtain ⟨v, hv2, hv⟩ := hR.2 8 (done_at hdo 8 (by rfl))
                    have s71 : b0.tmps.getD 71 undef = .pointer (some ⟨b, v, none⟩) := (hslot 8 71 (by rfl)).trans hv
                    have s70 : b0.tmps.getD 70 undef = .int .i64 q := (hslot 7 70 (by rfl)).trans (hR.2 7 (done_at hdo 7 (by rfl)))
                    have kr := (HCELL.out wz hR.1.2.2 v hv2)
                    clear hslot hoth hdo hcl hLi
                    refine guard_none (by rfl) ?_
                    obtain ⟨x, kx, kf⟩ := kr
                    go_simp
                    exact hK undef _ (lastS_last (GrowA.link Hs.out hR.1.1 hR.1.2.1 HFL.out hR.1.2.2.fit HOK.out HFI.out HK9.out hv2 HLV.out HKK.out HQB.out HTT.out))
                · intro us wn L hall hR a' ha'
                  have HZ := hid_of (lastS_end hR (hall 9 (by decide)))
                  clear hR hall HCW HGR HOW
                  simp only [putAll] at ha'
                  subst ha'
                  go_frame
                  go_wp2
                  go_roundw
                  case rel => exact ⟨k + 1, by omega, by go_num, HZ⟩
                  case measure => simp [intOf]; omega
        · obtain rfl : 10 = k := by omega
          go_wp2
          go_ret
          exact ⟨_, rfl, hin.out⟩
end Go.Proofs.Ytokicnopfmokaaa
