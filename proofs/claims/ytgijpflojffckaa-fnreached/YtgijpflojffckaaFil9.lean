/-
  The first slot that may be filled: the program. A thing is put: the program.
-/
import Derived.Test.YtgijpflojffckaaAllO
import Derived.Test.YtgijpflojffckaaIFree
namespace Go.Proofs.Ytgijpflojffckaa
open Go.RowKit
set_option linter.unusedVariables false
set_option maxRecDepth 100000

def fills (x : Ob) : Bool := (x.kind == 0) && decide (x.gen < 999)
def firstFill (os : List Ob) : Int := match os.findIdx? fills with | some k => k | none => -1
theorem firstFill_at {os : List Ob} {k : Nat} (h : k < os.length) (hk : fills (obAt os k) = true) (ha : ∀ e, e ∈ os.take k → fills e = false) : firstFill os = k := by
  have e : os.findIdx? fills = some k := by
    rw [List.findIdx?_eq_some_iff_getElem]
    refine ⟨h, by rw [← obAt_in h]; exact hk, fun j hj => ?_⟩
    rw [ha _ (by rw [List.mem_take_iff_getElem]; exact ⟨j, by omega, rfl⟩)]
    simp
  unfold firstFill
  rw [e]
theorem firstFill_no {os : List Ob} (ha : ∀ e, e ∈ os → fills e = false) : firstFill os = -1 := by
  have e : os.findIdx? fills = none := by
    rw [List.findIdx?_eq_none_iff]
    exact ha
  unfold firstFill
  rw [e]
theorem firstFill_le (os : List Ob) : -1 ≤ firstFill os ∧ firstFill os < os.length ∨ firstFill os = -1 := by
  unfold firstFill
  cases e : os.findIdx? fills with
  | none => right; rfl
  | some k =>
    left
    rw [List.findIdx?_eq_some_iff_getElem] at e
    obtain ⟨h, _⟩ := e
    simp only
    omega
theorem mayBeFilled_any (x : Ob) (l d m : Value) (w : World) :
    Calls Try.prog 29 #[obV x l d m] w fun e w' => e = .returned (.bool (fills x)) ∧ Below w.heap.size w w' := by
  by_cases hk : x.kind = 0
  · have e : fills x = decide (x.gen < 999) := by unfold fills; rw [hk]; simp
    have qk : (x.kind == 0) = true := beq_iff_eq.2 hk
    rw [e]
    clear e hk
    go_enter Try.func29, Try.ntmps29
    go_wp2
    go_ret
    exact ⟨rfl, by go_grown⟩
  · have e : fills x = false := by unfold fills; rw [beq_eq_false_iff_ne.2 hk]; simp
    have qk : (x.kind == 0) = false := beq_eq_false_iff_ne.2 hk
    rw [e]
    clear e hk
    go_enter Try.func29, Try.ntmps29
    go_wp2
    go_ret
    exact ⟨rfl, by go_grown⟩
set_option maxHeartbeats 2000000 in
theorem indexFill_any (v : Value) (xs : List Ob) (w : World) (hx : IsArena w v xs) (hn : xs.length ≤ 1048576) :
    Calls Try.prog 28 #[v, .func (.func 29) #[] #[]] w fun e w' => e = .returned (.int .i64 (firstFill xs)) ∧ Below w.heap.size w w' := by
  have HX : Hid (∀ wr, Below w.heap.size w wr → IsArena wr v xs) := fun wr hb => hx.on hb
  obtain ⟨a, cap, rfl, hcap, _⟩ := hx
  go_enter Try.func28, Try.ntmps28
  go_wp2
  go_loopw [8] (fun i wr => ∃ k : Nat, k ≤ xs.length ∧ i = .int .i64 k ∧ Hid (∀ e, e ∈ xs.take k → fills e = false) ∧ Below w.heap.size w wr) (fun i _ => xs.length - (intOf i).toNat)
  case atStart => exact ⟨0, Nat.zero_le _, rfl, fun e he => absurd he (by simp), Below.refl _ _⟩
  case round =>
    obtain ⟨k, hk, rfl, hall, hnx⟩ := hrel
    by_cases hlt : k < xs.length
    · obtain ⟨p, q, l, d, m, rfl, hq, ⟨c0, c1, c2, c3, c4, c5, c6, c7, c8, c9, c10, c11, c12⟩, hu⟩ := (HX.out wr hnx).at hlt
      have C := mayBeFilled_any (obAt xs k) l d m wr
      cases hok : fills (obAt xs k) with
      | false =>
        rw [hok] at C
        have HA : Hid (∀ e, e ∈ xs.take (k + 1) → fills e = false) := fun e he => by
          rw [take_oneO hlt, List.mem_append] at he
          rcases he with h | h
          · exact hall.out e h
          · rw [List.mem_singleton] at h; rw [h]; exact hok
        clear hok hall
        generalize obAt xs k = x at *
        go_wp2_with fail
        refine C.mono ?_
        rintro e w1 ⟨rfl, hb⟩
        have HN := hid_of (below_more hnx hb)
        clear C hb hnx c0 c1 c2 c3 c4 c5 c6 c7 c8 c9 c10 c11 c12 hq hu
        go_wp2
        go_roundw
        case rel => exact ⟨k + 1, by omega, by go_num, HA, HN.out⟩
        case measure => simp [intOf]; omega
      | true =>
        rw [hok] at C
        have HE2 : Hid (firstFill xs = k) := firstFill_at hlt hok hall.out
        clear hok hall
        generalize obAt xs k = x at *
        go_wp2_with fail
        refine C.mono ?_
        rintro e w1 ⟨rfl, hb⟩
        have HN := hid_of (below_more hnx hb)
        clear C hb hnx c0 c1 c2 c3 c4 c5 c6 c7 c8 c9 c10 c11 c12 hq hu
        go_wp2
        go_ret
        exact ⟨by rw [HE2.out]; rfl, HN.out⟩
    · obtain rfl : k = xs.length := by omega
      have HE2 : Hid (firstFill xs = -1) := firstFill_no fun e he => hall.out e (by rw [List.take_length]; exact he)
      clear hall
      go_wp2
      go_ret
      exact ⟨by rw [HE2.out]; rfl, hnx⟩
end Go.Proofs.Ytgijpflojffckaa
namespace Go.Proofs.Ytgijpflojffckaa
open Go.RowKit
set_option linter.unusedVariables false
set_option maxRecDepth 100000

/-- The arena with a thing in slot k, in the next generation. -/
def putL (os : List Ob) (o : Ob) (k : Nat) : List Ob := os.set k { o with gen := (obAt os k).gen + 1 }
def putB (os : List Ob) (o : Ob) : Bool := arenaOk os && (!(o.kind == 0) && (decide (0 ≤ firstFill os) && arenaOk (putL os o (firstFill os).toNat)))
def putOf (os : List Ob) (o : Ob) : List Ob := if putB os o then putL os o (firstFill os).toNat else os
def putI (os : List Ob) (o : Ob) : Int := if putB os o then firstFill os else -1
def PutAns (os : List Ob) (x : Int) (w : World) (e : Ending) (w' : World) : Prop := ∃ g c fs rest, e = .returned (.tuple #[.slice (some ⟨g, 0, none⟩) os.length c, .int .i64 x]) ∧ arOf fs = os ∧ OwnA g c fs rest w.heap.size w'.heap.size w' ∧ Below w.heap.size w w'
theorem PutAns.no {os : List Ob} {o : Ob} (h : putB os o = false) : putOf os o = os ∧ putI os o = -1 := ⟨by unfold putOf; rw [h]; rfl, by unfold putI; rw [h]; rfl⟩
theorem firstFill_fills {os : List Ob} {k : Nat} (h : firstFill os = k) : k < os.length ∧ fills (obAt os k) = true := by
  unfold firstFill at h
  split at h
  · rename_i j hj
    obtain rfl : j = k := by omega
    obtain ⟨hl, hp, _⟩ := List.findIdx?_eq_some_iff_getElem.1 hj
    exact ⟨hl, by rw [obAt_in hl]; exact hp⟩
  · omega
theorem putL_length (os : List Ob) (o : Ob) (k : Nat) : (putL os o k).length = os.length := by simp [putL]
theorem putL_obs (os : List Ob) (o : Ob) (k i : Nat) : obAt (putL os o k) i = { o with gen := (obAt os k).gen + 1 } ∧ i = k ∧ k < os.length ∨ obAt (putL os o k) i = obAt os i := by
  unfold putL obAt List.getD
  rw [List.getElem?_set]
  by_cases e : k = i
  · rw [if_pos e]
    by_cases h : k < os.length
    · rw [if_pos h]; exact .inl ⟨rfl, e.symm, h⟩
    · rw [if_neg h]; right; rw [List.getElem?_eq_none (by omega)]
  · rw [if_neg e]; exact .inr rfl
theorem putL_small {os : List Ob} {o : Ob} (hs : Small8 os) (ho : obN o ≤ 1048576) (k : Nat) : Small8 (putL os o k) := fun i => by
  rcases putL_obs os o k i with ⟨h, _⟩ | h
  · rw [h]; exact ho
  · rw [h]; exact hs i
/-- One number of a thing of the call's own is written. -/
theorem OwnA.gen {g cap : Nat} {es : List El} {rest : List Value} {lo hi : Nat} {w : World} (h : OwnA g cap es rest lo hi w) {k : Nat} (hk : k < es.length) (x : Int) :
    OwnA g cap (es.set k ⟨{ (elAt es k).o with gen := x }, (elAt es k).l, (elAt es k).d, (elAt es k).m⟩) rest lo hi (w.setCell ⟨g, k * 13, none⟩ (.int .i64 x)) := by
  have hgz := lt_of_block h.at'
  have hoo := h.own k hk
  have hne := h.ne k hk
  have HTW : Touch [g] w (w.setCell ⟨g, k * 13, none⟩ (.int .i64 x)) := touch_one (grownBy_set w g _ _) hgz
  have hk3 : ∀ b y, b ∈ blks (elAt es k) → w.heap[b]? = some y → (w.setCell ⟨g, k * 13, none⟩ (.int .i64 x)).heap[b]? = some y := fun b y hb hy => HTW.block _ _ (by simp; intro e; rw [e] at hb; exact hne hb) hy
  refine h.mark hk (o' := { (elAt es k).o with gen := x }) ?_ ⟨hoo.ls.keepIf fun b y hb hy => hk3 b y (by unfold blks; simp [hb]) hy, hoo.ds.keepIf fun b y hb hy => hk3 b y (by unfold blks; simp [hb]) hy, hoo.qs.keepIf fun b y hb hy => hk3 b y (by unfold blks; simp [hb]) hy, hoo.nd⟩ (fun b y hbg _ hy => HTW.block _ _ (by simpa using hbg) hy)
  have e := heap_setCell_same w g (k * 13) _ 28 (.int .i64 x) h.at'
  rw [e, ecells_put1 hk rest ⟨{ (elAt es k).o with gen := x }, (elAt es k).l, (elAt es k).d, (elAt es k).m⟩ 0 (.int .i64 x) (by decide) (by simp [elV])]
  simp only [List.setIfInBounds_toArray]
  rfl
set_option maxRecDepth 100000 in
set_option maxHeartbeats 8000000 in
theorem implPut_any (p : Addr) (cap : Nat) (os : List Ob) (o : Ob) (l d m : Value) (w : World) (hx : IsArena w (.slice (some p) os.length cap) os) (hy : Lists w l d m o) (hn : os.length ≤ 1048576) (hs : Small8 os) (ho : obN o ≤ 1048576) :
    Calls Try.prog 7 #[.slice (some p) os.length cap, obV o l d m] w fun e w' => PutAns (putOf os o) (putI os o) w e w' := by
  have HC : Hid (∀ w', Below w.heap.size w w' → Calls Try.prog 26 #[.slice (some p) os.length cap] w' fun e w'' => ArenaOwn os w' e w'') := fun w' hb => implCopyA_any p _ cap os w' (hx.on hb) rfl hn hs
  have HA : Hid (∀ w', Below w.heap.size w w' → Calls Try.prog 27 #[.slice (some p) os.length cap] w' fun e w'' => e = .returned (.bool (arenaOk os)) ∧ Below w'.heap.size w' w'') := fun w' hb => implArenaOk_any _ os w' (hx.on hb) hn hs
  have HF : Hid (∀ v w', IsArena w' v os → Calls Try.prog 28 #[v, .func (.func 29) #[] #[]] w' fun e w'' => e = .returned (.int .i64 (firstFill os)) ∧ Below w'.heap.size w' w'') := fun v w' h => indexFill_any v os w' h hn
  have HO : Hid (∀ w', Below w.heap.size w w' → Calls Try.prog 30 #[obV o l d m] w' fun e w'' => (∃ l' d' m', e = .returned (obV o l' d' m') ∧ OwnO w'.heap.size w''.heap.size w'' l' d' m' o) ∧ Below w'.heap.size w' w'') := fun w' hb => implCloneO_any o l d m w' (hy.on hb) ho
  have HB0 : Hid (Below w.heap.size w (w.alloc (boxO o l d m))) := below_alloc w _
  have HBX : Hid ((w.alloc (boxO o l d m)).heap[w.heap.size]? = some (boxO o l d m)) := heap_alloc_new w _
  have hcap : os.length ≤ cap := by obtain ⟨_, _, hv, h, _⟩ := hx; cases hv; exact h
  have HG : Hid (∀ k, k < os.length → arenaOk os = true → 0 ≤ (obAt os k).gen ∧ (obAt os k).gen ≤ 999) := fun k hk h => by
    have hall : os.all obOk = true := by unfold arenaOk at h; simp only [Bool.and_eq_true] at h; exact h.2.1
    have e := obOk_at hall hk
    unfold obOk at e
    simp only [Bool.and_eq_true] at e
    exact inB_true e.1
  have HP : Hid (∀ k w' v, IsArena w' v (putL os o k) → Calls Try.prog 27 #[v] w' fun e w'' => e = .returned (.bool (arenaOk (putL os o k))) ∧ Below w'.heap.size w' w'') := fun k w' v h => implArenaOk_any v _ w' h (by rw [putL_length]; exact hn) (putL_small hs ho k)
  clear hx hy hs ho
  cases hv : arenaOk os with
  | false =>
    obtain ⟨e1, e2⟩ := PutAns.no (os := os) (o := o) (by unfold putB; rw [hv]; rfl)
    rw [e1, e2]
    simp only [hv] at HA
    clear hv e1 e2 HF HO HG HP
    go_enter Try.func7, Try.ntmps7
    go_wp2_with fail
    refine (HC.out _ HB0.out).mono ?_
    rintro e w1 ⟨g, c, fs, rest, rfl, hfs, hown, hb1⟩
    have HB1 : Hid (Below w.heap.size w w1) := below_more HB0.out hb1
    have HOWN : Hid (arOf fs = os ∧ OwnA g c fs rest w.heap.size w1.heap.size w1) := ⟨hfs, hown.wide HB0.out.size (Nat.le_refl _)⟩
    have HBX1 : Hid (w1.heap[w.heap.size]? = some (boxO o l d m)) := keep HBX.out hb1
    clear hfs hown hb1
    go_wp2_with fail
    refine (HA.out _ HB1.out).mono ?_
    rintro e w2 ⟨rfl, hb2⟩
    have HB2 : Hid (Below w1.heap.size w1 w2) := hb2
    have HBX2 : Hid (w2.heap[w.heap.size]? = some (boxO o l d m)) := keep HBX1.out hb2
    clear hb2
    go_wp2
    go_returns
    exact ⟨g, c, fs, rest, rfl, HOWN.out.1, (HOWN.out.2.on HB2.out).wide (Nat.le_refl _) HB2.out.size, below_more HB1.out HB2.out⟩
  | true =>
    simp only [hv] at HA
    by_cases hz : o.kind = 0
    · obtain ⟨e1, e2⟩ := PutAns.no (os := os) (o := o) (by unfold putB; rw [hv, hz]; rfl)
      rw [e1, e2]
      have qz : (o.kind == 0) = true := beq_iff_eq.2 hz
      clear hv e1 e2 HF HO HG HP hz
      go_enter Try.func7, Try.ntmps7
      go_wp2_with fail
      refine (HC.out _ HB0.out).mono ?_
      rintro e w1 ⟨g, c, fs, rest, rfl, hfs, hown, hb1⟩
      have HB1 : Hid (Below w.heap.size w w1) := below_more HB0.out hb1
      have HOWN : Hid (arOf fs = os ∧ OwnA g c fs rest w.heap.size w1.heap.size w1) := ⟨hfs, hown.wide HB0.out.size (Nat.le_refl _)⟩
      have HBX1 : Hid (w1.heap[w.heap.size]? = some (boxO o l d m)) := keep HBX.out hb1
      clear hfs hown hb1
      go_wp2_with fail
      refine (HA.out _ HB1.out).mono ?_
      rintro e w2 ⟨rfl, hb2⟩
      have HB2 : Hid (Below w1.heap.size w1 w2) := hb2
      have HBX2 : Hid (w2.heap[w.heap.size]? = some (boxO o l d m)) := keep HBX1.out hb2
      clear hb2
      have b1 : w2.cell? ⟨w.heap.size, 1, none⟩ = some (.int .i64 o.kind) := by simp [World.cell?, HBX2.out]
      go_wp2
      go_returns
      exact ⟨g, c, fs, rest, rfl, HOWN.out.1, (HOWN.out.2.on HB2.out).wide (Nat.le_refl _) HB2.out.size, below_more HB1.out HB2.out⟩
    · have qz : (o.kind == 0) = false := beq_eq_false_iff_ne.2 hz
      have HNZ := hid_of hz
      clear hz
      rcases firstFill_le os with hff | hff
      rotate_left
      · obtain ⟨e1, e2⟩ := PutAns.no (os := os) (o := o) (by unfold putB; rw [hff]; simp)
        rw [e1, e2]
        rw [hff] at HF
        clear hv e1 e2 HO HG HP hff
        go_enter Try.func7, Try.ntmps7
        go_wp2_with fail
        refine (HC.out _ HB0.out).mono ?_
        rintro e w1 ⟨g, c, fs, rest, rfl, hfs, hown, hb1⟩
        have HB1 : Hid (Below w.heap.size w w1) := below_more HB0.out hb1
        have HOWN : Hid (arOf fs = os ∧ OwnA g c fs rest w.heap.size w1.heap.size w1) := ⟨hfs, hown.wide HB0.out.size (Nat.le_refl _)⟩
        have HBX1 : Hid (w1.heap[w.heap.size]? = some (boxO o l d m)) := keep HBX.out hb1
        clear hfs hown hb1
        go_wp2_with fail
        refine (HA.out _ HB1.out).mono ?_
        rintro e w2 ⟨rfl, hb2⟩
        have HB2 : Hid (Below w1.heap.size w1 w2) := hb2
        have HBX2 : Hid (w2.heap[w.heap.size]? = some (boxO o l d m)) := keep HBX1.out hb2
        clear hb2
        have b1 : w2.cell? ⟨w.heap.size, 1, none⟩ = some (.int .i64 o.kind) := by simp [World.cell?, HBX2.out]
        go_wp2_with fail
        refine (HF.out _ _ (by rw [← HOWN.out.1, arOf_length]; exact (HOWN.out.2.on HB2.out).arena)).mono ?_
        rintro e w3 ⟨rfl, hb3⟩
        have HB3 : Hid (Below w1.heap.size w1 w3) := below_more HB2.out hb3
        clear hb3 b1
        go_wp2
        go_returns
        exact ⟨g, c, fs, rest, rfl, HOWN.out.1, (HOWN.out.2.on HB3.out).wide (Nat.le_refl _) HB3.out.size, below_more HB1.out HB3.out⟩
      · by_cases hm1 : firstFill os = -1
        · obtain ⟨e1, e2⟩ := PutAns.no (os := os) (o := o) (by unfold putB; rw [hm1]; simp)
          rw [e1, e2]
          rw [hm1] at HF
          clear hv e1 e2 HO HG HP hff hm1
          go_enter Try.func7, Try.ntmps7
          go_wp2_with fail
          refine (HC.out _ HB0.out).mono ?_
          rintro e w1 ⟨g, c, fs, rest, rfl, hfs, hown, hb1⟩
          have HB1 : Hid (Below w.heap.size w w1) := below_more HB0.out hb1
          have HOWN : Hid (arOf fs = os ∧ OwnA g c fs rest w.heap.size w1.heap.size w1) := ⟨hfs, hown.wide HB0.out.size (Nat.le_refl _)⟩
          have HBX1 : Hid (w1.heap[w.heap.size]? = some (boxO o l d m)) := keep HBX.out hb1
          clear hfs hown hb1
          go_wp2_with fail
          refine (HA.out _ HB1.out).mono ?_
          rintro e w2 ⟨rfl, hb2⟩
          have HB2 : Hid (Below w1.heap.size w1 w2) := hb2
          have HBX2 : Hid (w2.heap[w.heap.size]? = some (boxO o l d m)) := keep HBX1.out hb2
          clear hb2
          have b1 : w2.cell? ⟨w.heap.size, 1, none⟩ = some (.int .i64 o.kind) := by simp [World.cell?, HBX2.out]
          go_wp2_with fail
          refine (HF.out _ _ (by rw [← HOWN.out.1, arOf_length]; exact (HOWN.out.2.on HB2.out).arena)).mono ?_
          rintro e w3 ⟨rfl, hb3⟩
          have HB3 : Hid (Below w1.heap.size w1 w3) := below_more HB2.out hb3
          clear hb3 b1
          go_wp2
          go_returns
          exact ⟨g, c, fs, rest, rfl, HOWN.out.1, (HOWN.out.2.on HB3.out).wide (Nat.le_refl _) HB3.out.size, below_more HB1.out HB3.out⟩
        · obtain ⟨k, hfk⟩ : ∃ k : Nat, firstFill os = k := ⟨(firstFill os).toNat, by omega⟩
          obtain ⟨hk, hfil⟩ := firstFill_fills hfk
          have hgn := HG.out k hk hv
          have hw : wrap64 ((obAt os k).gen + 1) = (obAt os k).gen + 1 := by unfold wrap64; omega
          rw [hfk] at HF
          have HOK : Hid (arenaOk os = true) := hv
          have HFK : Hid (firstFill os = k) := hfk
          have HPK := hid_of (HP.out k)
          clear HG HP hff hm1 hfil hv hfk hgn
          have hk0 : ¬ ((k : Int) < 0) := by omega
          cases hr : arenaOk (putL os o k) with
          | true =>
            rw [hr] at HPK
            have HPB : Hid (putB os o = true) := by show _ = _; unfold putB; rw [HOK.out, HFK.out, Int.toNat_natCast, hr, qz]; simp
            have e1 : putOf os o = putL os o k := by unfold putOf; rw [HPB.out, HFK.out, Int.toNat_natCast]; rfl
            have e2 : putI os o = k := by unfold putI; rw [HPB.out, HFK.out]; rfl
            rw [e1, e2]
            clear e1 e2 hr
            go_enter Try.func7, Try.ntmps7
            go_wp2_with fail
            refine (HC.out _ HB0.out).mono ?_
            rintro e w1 ⟨g, c, fs, rest, rfl, hfs, hown, hb1⟩
            have HB1 : Hid (Below w.heap.size w w1) := below_more HB0.out hb1
            have HOWN : Hid (arOf fs = os ∧ OwnA g c fs rest w.heap.size w1.heap.size w1) := ⟨hfs, hown.wide HB0.out.size (Nat.le_refl _)⟩
            have HBX1 : Hid (w1.heap[w.heap.size]? = some (boxO o l d m)) := keep HBX.out hb1
            clear hfs hown hb1
            go_wp2_with fail
            refine (HA.out _ HB1.out).mono ?_
            rintro e w2 ⟨rfl, hb2⟩
            have HB2 : Hid (Below w1.heap.size w1 w2) := hb2
            have HBX2 : Hid (w2.heap[w.heap.size]? = some (boxO o l d m)) := keep HBX1.out hb2
            clear hb2
            have b1 : w2.cell? ⟨w.heap.size, 1, none⟩ = some (.int .i64 o.kind) := by simp [World.cell?, HBX2.out]
            go_wp2_with fail
            refine (HF.out _ _ (by rw [← HOWN.out.1, arOf_length]; exact (HOWN.out.2.on HB2.out).arena)).mono ?_
            rintro e w3 ⟨rfl, hb3⟩
            have HB3 : Hid (Below w1.heap.size w1 w3) := below_more HB2.out hb3
            have HBX3 : Hid (w3.heap[w.heap.size]? = some (boxO o l d m)) := keep HBX2.out hb3
            have HOWN3 : Hid (arOf fs = os ∧ OwnA g c fs rest w.heap.size w3.heap.size w3) := ⟨HOWN.out.1, (HOWN.out.2.on HB3.out).wide (Nat.le_refl _) HB3.out.size⟩
            clear hb3 b1
            have hfl : fs.length = os.length := by rw [← HOWN.out.1, arOf_length]
            have hkf : k < fs.length := by rw [hfl]; exact hk
            obtain ⟨d0, d1, d2, d3, d4, d5, d6, d7, d8, d9, d10, d11, d12⟩ := HOWN3.out.2.cells hkf
            rw [show (elAt fs k).o = obAt os k by rw [← arOf_at, HOWN.out.1]] at d0
            have HB03 := hid_of (below_more HB1.out HB3.out)
            have b0 : w3.cell? ⟨w.heap.size, 0, none⟩ = some (.int .i64 o.gen) := by simp [World.cell?, HBX3.out]
            have b1 : w3.cell? ⟨w.heap.size, 1, none⟩ = some (.int .i64 o.kind) := by simp [World.cell?, HBX3.out]
            have b2 : w3.cell? ⟨w.heap.size, 2, none⟩ = some (.int .i64 o.into) := by simp [World.cell?, HBX3.out]
            have b3 : w3.cell? ⟨w.heap.size, 3, none⟩ = some (.int .i64 o.res) := by simp [World.cell?, HBX3.out]
            have b4 : w3.cell? ⟨w.heap.size, 4, none⟩ = some (.int .i64 o.unt) := by simp [World.cell?, HBX3.out]
            have b5 : w3.cell? ⟨w.heap.size, 5, none⟩ = some (.int .i64 o.pages) := by simp [World.cell?, HBX3.out]
            have b6 : w3.cell? ⟨w.heap.size, 6, none⟩ = some (.int .i64 o.wait) := by simp [World.cell?, HBX3.out]
            have b7 : w3.cell? ⟨w.heap.size, 7, none⟩ = some (.int .i64 o.got) := by simp [World.cell?, HBX3.out]
            have b8 : w3.cell? ⟨w.heap.size, 8, none⟩ = some (.int .i64 o.ran) := by simp [World.cell?, HBX3.out]
            have b9 : w3.cell? ⟨w.heap.size, 9, none⟩ = some (.bool o.mark) := by simp [World.cell?, HBX3.out]
            have b10 : w3.cell? ⟨w.heap.size, 10, none⟩ = some (l) := by simp [World.cell?, HBX3.out]
            have b11 : w3.cell? ⟨w.heap.size, 11, none⟩ = some (d) := by simp [World.cell?, HBX3.out]
            have b12 : w3.cell? ⟨w.heap.size, 12, none⟩ = some (m) := by simp [World.cell?, HBX3.out]
            have hlc : os.length ≤ c := by have e := HOWN.out.2.cap; rw [hfl] at e; exact e
            obtain ⟨x, hx0⟩ : ∃ x, x = (obAt os k).gen := ⟨_, rfl⟩
            rw [← hx0] at d0 hw
            have HX0 := hid_of hx0
            clear hx0
            go_wp2_with fail
            refine (HO.out _ HB03.out).mono ?_
            rintro e w4 ⟨⟨l', d', m', rfl, hoo⟩, hb4⟩
            have HB4 := hid_of (below_more HB3.out hb4)
            have HOWN4 : Hid (OwnA g c fs rest w.heap.size w3.heap.size w4) := HOWN3.out.2.on hb4
            have hput := HOWN4.out.put (e := ⟨o, l', d', m'⟩) hoo hb4.size hkf
            have HARP : Hid (arOf (fs.set k ⟨o, l', d', m'⟩) = os.set k o) := by show arOf _ = _; rw [arOf_set, HOWN.out.1]
            have hkf2 : k < (fs.set k ⟨o, l', d', m'⟩).length := by rw [List.length_set]; exact hkf
            have hgen := hput.gen hkf2 (x + 1)
            rw [elAt_set_same hkf] at hgen
            have HFIN : Hid (arOf ((fs.set k ⟨o, l', d', m'⟩).set k ⟨{ o with gen := x + 1 }, l', d', m'⟩) = putL os o k) := by
              show arOf _ = _
              rw [arOf_set, HARP.out, List.set_set, HX0.out]; rfl
            have HGEN : Hid (OwnA g c ((fs.set k ⟨o, l', d', m'⟩).set k ⟨{ o with gen := x + 1 }, l', d', m'⟩) rest w.heap.size w4.heap.size ((w13 w4 g (k * 13) o l' d' m').setCell ⟨g, k * 13, none⟩ (.int .i64 (x + 1)))) := hgen
            have HBG : Hid (Below w.heap.size w ((w13 w4 g (k * 13) o l' d' m').setCell ⟨g, k * 13, none⟩ (.int .i64 (x + 1)))) := (below_w13 (below_more HB1.out HB4.out) HOWN.out.2.lo _ _ _ _ _).setCell HOWN.out.2.lo _
            have HPC := HPK.out ((w13 w4 g (k * 13) o l' d' m').setCell ⟨g, k * 13, none⟩ (.int .i64 (x + 1))) (.slice (some ⟨g, 0, none⟩) os.length c) (by have e := HGEN.out.arena; rw [HFIN.out, List.length_set, List.length_set, hfl] at e; exact e)
            have HPC2 := hid_of HPC
            obtain ⟨q0, q1, q2, q3, q4, q5, q6, q7, q8, q9, q10, q11, q12⟩ := HOWN4.out.cells hkf
            have hff := HOWN4.out.free
            have f0 := hff (k * 13)
            have f1 := hff (k * 13 + 1)
            have f2 := hff (k * 13 + 2)
            have f3 := hff (k * 13 + 3)
            have f4 := hff (k * 13 + 4)
            have f5 := hff (k * 13 + 5)
            have f6 := hff (k * 13 + 6)
            have f7 := hff (k * 13 + 7)
            have f8 := hff (k * 13 + 8)
            have f9 := hff (k * 13 + 9)
            have f10 := hff (k * 13 + 10)
            have f11 := hff (k * 13 + 11)
            have f12 := hff (k * 13 + 12)
            have hq0 := (hput.cells hkf2).c0
            have hqf := hput.free (k * 13)
            rw [elAt_set_same hkf] at hq0
            obtain ⟨x1, y1, rfl, _⟩ := id hoo.ls
            obtain ⟨x2, y2, rfl, _⟩ := id hoo.ds
            obtain ⟨x3, y3, rfl, _⟩ := id hoo.qs
            clear hoo hb4 hput hgen HPC hff HOWN3 HBX3 b0 b1 b2 b3 b4 b5 b6 b7 b8 b9 b10 b11 b12 d0 d1 d2 d3 d4 d5 d6 d7 d8 d9 d10 d11 d12
            go_wp2_with fail
            refine HPC2.out.mono ?_
            rintro e w5 ⟨rfl, hb5⟩
            have HZ : Hid (OwnA g c ((fs.set k ⟨o, .slice x1 o.ls.length y1, .slice x2 o.ds.length y2, .slice x3 o.qs.length y3⟩).set k ⟨{ o with gen := x + 1 }, .slice x1 o.ls.length y1, .slice x2 o.ds.length y2, .slice x3 o.qs.length y3⟩) rest w.heap.size w5.heap.size w5 ∧ Below w.heap.size w w5) := ⟨(HGEN.out.on hb5).fit, below_more HBG.out hb5⟩
            clear hb5
            go_wp2
            go_returns
            exact ⟨g, c, _, rest, by rw [putL_length]; rfl, HFIN.out, HZ.out.1, HZ.out.2⟩
          | false =>
            rw [hr] at HPK
            have HPB : Hid (putB os o = false) := by show _ = _; unfold putB; rw [HOK.out, HFK.out, Int.toNat_natCast, hr, qz]; simp
            obtain ⟨e1, e2⟩ := PutAns.no HPB.out
            rw [e1, e2]
            clear e1 e2 hr
            go_enter Try.func7, Try.ntmps7
            go_wp2_with fail
            refine (HC.out _ HB0.out).mono ?_
            rintro e w1 ⟨g, c, fs, rest, rfl, hfs, hown, hb1⟩
            have HB1 : Hid (Below w.heap.size w w1) := below_more HB0.out hb1
            have HOWN : Hid (arOf fs = os ∧ OwnA g c fs rest w.heap.size w1.heap.size w1) := ⟨hfs, hown.wide HB0.out.size (Nat.le_refl _)⟩
            have HBX1 : Hid (w1.heap[w.heap.size]? = some (boxO o l d m)) := keep HBX.out hb1
            clear hfs hown hb1
            go_wp2_with fail
            refine (HA.out _ HB1.out).mono ?_
            rintro e w2 ⟨rfl, hb2⟩
            have HB2 : Hid (Below w1.heap.size w1 w2) := hb2
            have HBX2 : Hid (w2.heap[w.heap.size]? = some (boxO o l d m)) := keep HBX1.out hb2
            clear hb2
            have b1 : w2.cell? ⟨w.heap.size, 1, none⟩ = some (.int .i64 o.kind) := by simp [World.cell?, HBX2.out]
            go_wp2_with fail
            refine (HF.out _ _ (by rw [← HOWN.out.1, arOf_length]; exact (HOWN.out.2.on HB2.out).arena)).mono ?_
            rintro e w3 ⟨rfl, hb3⟩
            have HB3 : Hid (Below w1.heap.size w1 w3) := below_more HB2.out hb3
            have HBX3 : Hid (w3.heap[w.heap.size]? = some (boxO o l d m)) := keep HBX2.out hb3
            have HOWN3 : Hid (arOf fs = os ∧ OwnA g c fs rest w.heap.size w3.heap.size w3) := ⟨HOWN.out.1, (HOWN.out.2.on HB3.out).wide (Nat.le_refl _) HB3.out.size⟩
            clear hb3 b1
            have hfl : fs.length = os.length := by rw [← HOWN.out.1, arOf_length]
            have hkf : k < fs.length := by rw [hfl]; exact hk
            obtain ⟨d0, d1, d2, d3, d4, d5, d6, d7, d8, d9, d10, d11, d12⟩ := HOWN3.out.2.cells hkf
            rw [show (elAt fs k).o = obAt os k by rw [← arOf_at, HOWN.out.1]] at d0
            have HB03 := hid_of (below_more HB1.out HB3.out)
            have b0 : w3.cell? ⟨w.heap.size, 0, none⟩ = some (.int .i64 o.gen) := by simp [World.cell?, HBX3.out]
            have b1 : w3.cell? ⟨w.heap.size, 1, none⟩ = some (.int .i64 o.kind) := by simp [World.cell?, HBX3.out]
            have b2 : w3.cell? ⟨w.heap.size, 2, none⟩ = some (.int .i64 o.into) := by simp [World.cell?, HBX3.out]
            have b3 : w3.cell? ⟨w.heap.size, 3, none⟩ = some (.int .i64 o.res) := by simp [World.cell?, HBX3.out]
            have b4 : w3.cell? ⟨w.heap.size, 4, none⟩ = some (.int .i64 o.unt) := by simp [World.cell?, HBX3.out]
            have b5 : w3.cell? ⟨w.heap.size, 5, none⟩ = some (.int .i64 o.pages) := by simp [World.cell?, HBX3.out]
            have b6 : w3.cell? ⟨w.heap.size, 6, none⟩ = some (.int .i64 o.wait) := by simp [World.cell?, HBX3.out]
            have b7 : w3.cell? ⟨w.heap.size, 7, none⟩ = some (.int .i64 o.got) := by simp [World.cell?, HBX3.out]
            have b8 : w3.cell? ⟨w.heap.size, 8, none⟩ = some (.int .i64 o.ran) := by simp [World.cell?, HBX3.out]
            have b9 : w3.cell? ⟨w.heap.size, 9, none⟩ = some (.bool o.mark) := by simp [World.cell?, HBX3.out]
            have b10 : w3.cell? ⟨w.heap.size, 10, none⟩ = some (l) := by simp [World.cell?, HBX3.out]
            have b11 : w3.cell? ⟨w.heap.size, 11, none⟩ = some (d) := by simp [World.cell?, HBX3.out]
            have b12 : w3.cell? ⟨w.heap.size, 12, none⟩ = some (m) := by simp [World.cell?, HBX3.out]
            have hlc : os.length ≤ c := by have e := HOWN.out.2.cap; rw [hfl] at e; exact e
            obtain ⟨x, hx0⟩ : ∃ x, x = (obAt os k).gen := ⟨_, rfl⟩
            rw [← hx0] at d0 hw
            have HX0 := hid_of hx0
            clear hx0
            go_wp2_with fail
            refine (HO.out _ HB03.out).mono ?_
            rintro e w4 ⟨⟨l', d', m', rfl, hoo⟩, hb4⟩
            have HB4 := hid_of (below_more HB3.out hb4)
            have HOWN4 : Hid (OwnA g c fs rest w.heap.size w3.heap.size w4) := HOWN3.out.2.on hb4
            have hput := HOWN4.out.put (e := ⟨o, l', d', m'⟩) hoo hb4.size hkf
            have HARP : Hid (arOf (fs.set k ⟨o, l', d', m'⟩) = os.set k o) := by show arOf _ = _; rw [arOf_set, HOWN.out.1]
            have hkf2 : k < (fs.set k ⟨o, l', d', m'⟩).length := by rw [List.length_set]; exact hkf
            have hgen := hput.gen hkf2 (x + 1)
            rw [elAt_set_same hkf] at hgen
            have HFIN : Hid (arOf ((fs.set k ⟨o, l', d', m'⟩).set k ⟨{ o with gen := x + 1 }, l', d', m'⟩) = putL os o k) := by
              show arOf _ = _
              rw [arOf_set, HARP.out, List.set_set, HX0.out]; rfl
            have HGEN : Hid (OwnA g c ((fs.set k ⟨o, l', d', m'⟩).set k ⟨{ o with gen := x + 1 }, l', d', m'⟩) rest w.heap.size w4.heap.size ((w13 w4 g (k * 13) o l' d' m').setCell ⟨g, k * 13, none⟩ (.int .i64 (x + 1)))) := hgen
            have HBG : Hid (Below w.heap.size w ((w13 w4 g (k * 13) o l' d' m').setCell ⟨g, k * 13, none⟩ (.int .i64 (x + 1)))) := (below_w13 (below_more HB1.out HB4.out) HOWN.out.2.lo _ _ _ _ _).setCell HOWN.out.2.lo _
            have HPC := HPK.out ((w13 w4 g (k * 13) o l' d' m').setCell ⟨g, k * 13, none⟩ (.int .i64 (x + 1))) (.slice (some ⟨g, 0, none⟩) os.length c) (by have e := HGEN.out.arena; rw [HFIN.out, List.length_set, List.length_set, hfl] at e; exact e)
            have HPC2 := hid_of HPC
            obtain ⟨q0, q1, q2, q3, q4, q5, q6, q7, q8, q9, q10, q11, q12⟩ := HOWN4.out.cells hkf
            have hff := HOWN4.out.free
            have f0 := hff (k * 13)
            have f1 := hff (k * 13 + 1)
            have f2 := hff (k * 13 + 2)
            have f3 := hff (k * 13 + 3)
            have f4 := hff (k * 13 + 4)
            have f5 := hff (k * 13 + 5)
            have f6 := hff (k * 13 + 6)
            have f7 := hff (k * 13 + 7)
            have f8 := hff (k * 13 + 8)
            have f9 := hff (k * 13 + 9)
            have f10 := hff (k * 13 + 10)
            have f11 := hff (k * 13 + 11)
            have f12 := hff (k * 13 + 12)
            have hq0 := (hput.cells hkf2).c0
            have hqf := hput.free (k * 13)
            rw [elAt_set_same hkf] at hq0
            obtain ⟨x1, y1, rfl, _⟩ := id hoo.ls
            obtain ⟨x2, y2, rfl, _⟩ := id hoo.ds
            obtain ⟨x3, y3, rfl, _⟩ := id hoo.qs
            clear hoo hb4 hput hgen HPC hff HOWN3 HBX3 b0 b1 b2 b3 b4 b5 b6 b7 b8 b9 b10 b11 b12 d0 d1 d2 d3 d4 d5 d6 d7 d8 d9 d10 d11 d12
            go_wp2_with fail
            refine HPC2.out.mono ?_
            rintro e w5 ⟨rfl, hb5⟩
            have HB5 := hid_of (below_more HBG.out hb5)
            clear hb5
            go_wp2_with fail
            refine (HC.out _ HB5.out).mono ?_
            rintro e w6 ⟨g6, c6, fs6, rest6, rfl, hfs6, hown6, hb6⟩
            have HZ : Hid (arOf fs6 = os ∧ OwnA g6 c6 fs6 rest6 w.heap.size w6.heap.size w6 ∧ Below w.heap.size w w6) := ⟨hfs6, hown6.wide HB5.out.size (Nat.le_refl _), below_more HB5.out hb6⟩
            clear hfs6 hown6 hb6
            go_wp2
            go_returns
            exact ⟨g6, c6, fs6, rest6, rfl, HZ.out.1, HZ.out.2.1, HZ.out.2.2⟩
end Go.Proofs.Ytgijpflojffckaa
