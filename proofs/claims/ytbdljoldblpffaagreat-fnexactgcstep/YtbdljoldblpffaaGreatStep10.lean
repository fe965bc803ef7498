/-
  A heap in a box: its numbers, its list, its things are laid anew; a round begins; may a thing be freed? A step of sweeping: the program. A thing is shaded, and what else is held stays. What a step of marking answers, plainly. A thing is shaded, the model's way, and what else is held stays. A step of marking: the program. A step of the collector: the program.
-/
import Derived.Test.YtbdljoldblpffaaGreatShade10
import Derived.Test.YtbdljoldblpffaaGreatIFree
import Derived.Test.YtbdljoldblpffaaGreatCap9
import Derived.OwnWalk
import Derived.Test.YtbdljoldblpffaaGreatBoxH10
import Derived.Test.YtbdljoldblpffaaGreatVisit10
namespace Go.Proofs.YtbdljoldblpffaaGreat
open Go.RowKit
set_option linter.unusedVariables false
set_option maxRecDepth 100000

section
variable {lo b : Nat} {bs : List Nat} {p t r : Int} {os : List Ob} {xs : List Int} {g c : Nat} {G : Value} {w w1 w2 : World}
/-- Other numbers in the box. -/
theorem BoxH.reBox (h : BoxH lo b bs p t r os xs g c G w) {p' t' r' : Int} (hbx : w2.heap[b]? = some (boxH (.slice (some ⟨g, 0, none⟩) os.length c) p' t' r' G)) (hk : ∀ k x, k ≠ b → w.heap[k]? = some x → w2.heap[k]? = some x) (hs : w2.heap.size = w.heap.size) : BoxH lo b bs p' t' r' os xs g c G w2 := by
  obtain ⟨fs, rest, la, ha, e1, e2, e3, e4, e5, e6⟩ := h.got
  refine ⟨hbx, h.low, ?_, h.not, fs, rest, la, ha, e1, e2.keepIn2 (fun k x k1 k2 hx => hk k x (by have := e6 b (by simp); omega) hx), e3, by omega, e5, e6⟩
  have e : OwnI lo w.heap.size w2 G xs := h.own.keepIf fun k x hm hx => hk k x (fun e => h.not b (by simp) (e ▸ hm)) hx
  rw [hs]; exact e
/-- Another list in the box, of memory of its own. -/
theorem BoxH.reGrey (h : BoxH lo b bs p t r os xs g c G w) (hb : Below w.heap.size w w1) {v' : Value} {ys : List Int} (ho : OwnI w.heap.size w1.heap.size w1 v' ys) (hl : lo ≤ w.heap.size) (hbs : ∀ k, k ∈ b :: bs → k < w.heap.size) {p' t' r' : Int} (hbx : w2.heap[b]? = some (boxH (.slice (some ⟨g, 0, none⟩) os.length c) p' t' r' v')) (hk : ∀ k x, k ≠ b → w1.heap[k]? = some x → w2.heap[k]? = some x) (hs : w2.heap.size = w1.heap.size) : BoxH lo b bs p' t' r' os ys g c v' w2 := by
  obtain ⟨fs, rest, la, ha, e1, e2, e3, e4, e5, e6⟩ := h.got
  have hz := hb.size
  refine ⟨hbx, h.low, ?_, fun k hk' hm => ?_, fs, rest, la, ha, e1, (e2.on hb).keepIn2 (fun k x k1 k2 hx => hk k x (by have := e6 b (by simp); omega) hx), e3, by omega, fun k hm => .inr (by have := (ho.blk hm).1; omega), e6⟩
  · have e : OwnI lo w1.heap.size w2 v' ys := (ho.keepIf fun k x hm hx => hk k x (fun e => by have := (ho.blk hm).1; have := hbs b (by simp); omega) hx).move (fun _ _ _ _ x => x) hl (Nat.le_refl _)
    rw [hs]; exact e
  · have := hbs k hk'
    have := (ho.blk hm).1
    omega
/-- Other things in the box, of memory of their own. -/
theorem BoxH.reArena (h : BoxH lo b bs p t r os xs g c G w) (hb : Below w.heap.size w w1) {g' c' : Nat} {fs' : List El} {rest' : List Value} {os' : List Ob} (he : arOf fs' = os') (ho : OwnA g' c' fs' rest' w.heap.size w1.heap.size w1) (hl : lo ≤ w.heap.size) (hbs : ∀ k, k ∈ b :: bs → k < w.heap.size) {p' t' r' : Int} (hbx : w2.heap[b]? = some (boxH (.slice (some ⟨g', 0, none⟩) os'.length c') p' t' r' G)) (hk : ∀ k x, k ≠ b → w1.heap[k]? = some x → w2.heap[k]? = some x) (hs : w2.heap.size = w1.heap.size) : BoxH lo b bs p' t' r' os' xs g' c' G w2 := by
  have hz := hb.size
  refine ⟨hbx, h.low, ?_, h.not, fs', rest', w.heap.size, w1.heap.size, he, ho.keepIn2 (fun k x k1 k2 hx => hk k x (by have := hbs b (by simp); omega) hx), hl, by omega, fun k hm => .inl (h.own.blk hm).2.2, fun k hm => .inl (hbs k hm)⟩
  have e : OwnI lo w1.heap.size w2 G xs := (ownI_more h.own hb).keepIf fun k x hm hx => hk k x (fun e => h.not b (by simp) (e ▸ hm)) hx
  rw [hs]; exact e
end
theorem box_cell {w : World} {b : Nat} {v0 v1 v2 v3 v4 : Value} {T : TypeId} (h : w.heap[b]? = some (.cells #[v0, v1, v2, v3, v4] T (0, 0))) (j : Nat) (u : Value) : (w.setCell ⟨b, j, none⟩ u).heap[b]? = some (.cells (#[v0, v1, v2, v3, v4].setIfInBounds j u) T (0, 0)) := heap_setCell_same w b j _ _ u h
theorem box_others (w : World) (b j : Nat) (u : Value) : ∀ k x, k ≠ b → w.heap[k]? = some x → (w.setCell ⟨b, j, none⟩ u).heap[k]? = some x := fun k x hk hx => setCell_keep hx hk
/-- May a thing be freed? -/
def frB (o : Ob) (now : Int) : Bool := !(o.kind == 0) && (expB o now || !o.mark)
set_option maxHeartbeats 1000000 in
theorem mayBeFreed_any (o : Ob) (a1 a2 a3 : Option Addr) (n1 n2 n3 d1 d2 d3 : Nat) (now : Int) (w : World) :
    Calls Tryz.prog 90 #[obV o (.slice a1 n1 d1) (.slice a2 n2 d2) (.slice a3 n3 d3), .int .i64 now] w fun e w' => e = .returned (.bool (frB o now)) ∧ Below w.heap.size w w' := by
  have C : Hid (∀ w', Below w.heap.size w w' → _) := fun w' (_ : Below w.heap.size w w') => implExp_any o (.slice a1 n1 d1) (.slice a2 n2 d2) (.slice a3 n3 d3) now w'
  unfold frB
  by_cases hk : o.kind = 0
  · have n0 : (o.kind != 0) = false := by simp [hk]
    have n00 : (o.kind == 0) = true := by simp [hk]
    rw [n00]
    clear hk C
    go_enter Tryz.func90, Tryz.ntmps90
    go_wp2
    go_ret
    exact ⟨by simp, by go_grown⟩
  · have n0 : (o.kind != 0) = true := by simp [hk]
    have n00 : (o.kind == 0) = false := by simp [hk]
    rw [n00]
    clear hk
    have HM : Hid ((w.alloc (boxO o (.slice a1 n1 d1) (.slice a2 n2 d2) (.slice a3 n3 d3))).cell? ⟨w.heap.size, 9, none⟩ = some (.bool o.mark)) := by show _ = _; simp
    generalize expB o now = x at C ⊢
    cases x with
    | true =>
      go_enter Tryz.func90, Tryz.ntmps90
      go_wp2_with fail
      refine (C.out _ (by go_grown)).mono ?_
      rintro e w1 ⟨rfl, hb⟩
      have HB : Hid (Below w.heap.size w w1) := below_more (by go_grown) hb
      clear hb C
      go_wp2
      go_ret
      exact ⟨rfl, HB.out⟩
    | false =>
      go_enter Tryz.func90, Tryz.ntmps90
      go_wp2_with fail
      refine (C.out _ (by go_grown)).mono ?_
      rintro e w1 ⟨rfl, hb⟩
      have HB : Hid (Below w.heap.size w w1) := below_more (by go_grown) hb
      have hm : w1.cell? ⟨w.heap.size, 9, none⟩ = some (.bool o.mark) := (hb.cell (p := ⟨w.heap.size, 9, none⟩) (World.block_lt_of_cell? _ _ HM.out)).trans HM.out
      clear hb C HM
      go_wp2
      go_ret
      exact ⟨by cases o.mark <;> rfl, HB.out⟩
/-- How many rounds there were, at most MaxTime. -/
def rdUp (r : Int) : Int := if r + 1 ≤ 1000000 then r + 1 else 1000000
set_option maxHeartbeats 2000000 in
theorem beginRound_any (lo b : Nat) (p t r : Int) (os : List Ob) (xs : List Int) (g c : Nat) (G : Value) (w : World) (h : BoxH lo b [] p t r os xs g c G w) (hl : lo ≤ w.heap.size) (ho : 0 < os.length) (hr : 0 ≤ r ∧ r ≤ 1000000) :
    Calls Tryz.prog 92 #[.pointer (some ⟨b, 0, none⟩)] w fun e w' => (∃ v, e = .returned v) ∧ (∃ G', BoxH lo b [] 0 0 (rdUp r) (os.set 0 (marked (obAt os 0) true)) [0] g c G' w') ∧ Below lo w w' := by
  have hbz := lt_of_block h.box
  obtain ⟨k0, k1, k2, k3, k4⟩ := cells5 h.box
  have hw : wrap64 (r + 1) = r + 1 := by unfold wrap64; omega
  have HMIN : Hid (rdUp r = min (r + 1) 1000000) := by show _ = _; unfold rdUp; split <;> omega
  have HF : Hid (∀ w1 gn, Below w.heap.size w w1 → OwnI w.heap.size w1.heap.size w1 (.slice (some ⟨gn, 0, none⟩) 1 1) [0] → BoxH lo b [] 0 0 (rdUp r) (os.set 0 (marked (obAt os 0) true)) [0] g c (.slice (some ⟨gn, 0, none⟩) 1 1) (((wq4 w1 b 1 0 0 0 (.slice (some ⟨gn, 0, none⟩) 1 1)).setCell ⟨b, 3, none⟩ (.int .i64 (rdUp r))).setCell ⟨g, 0 * 13 + 9, none⟩ (.bool true)) ∧ Below lo w (((wq4 w1 b 1 0 0 0 (.slice (some ⟨gn, 0, none⟩) 1 1)).setCell ⟨b, 3, none⟩ (.int .i64 (rdUp r))).setCell ⟨g, 0 * 13 + 9, none⟩ (.bool true))) := fun w1 gn hb hown => by
    have e0 := keep h.box hb
    have hbx : ((wq4 w1 b 1 0 0 0 (.slice (some ⟨gn, 0, none⟩) 1 1)).setCell ⟨b, 3, none⟩ (.int .i64 (rdUp r))).heap[b]? = some (boxH (.slice (some ⟨g, 0, none⟩) os.length c) 0 0 (rdUp r) (.slice (some ⟨gn, 0, none⟩) 1 1)) := by
      have e1 := box_cell e0 1 (.int .i64 0)
      simp at e1
      have e2 := box_cell e1 (1 + 1) (.int .i64 0)
      simp at e2
      have e3 := box_cell e2 (1 + 2) (.int .i64 0)
      simp at e3
      have e4 := box_cell e3 (1 + 3) (.slice (some ⟨gn, 0, none⟩) 1 1)
      simp at e4
      have e5 := box_cell e4 3 (.int .i64 (rdUp r))
      simp at e5
      exact e5
    have hB := h.reGrey hb hown hl (fun k hk => by simp at hk; omega) (p' := 0) (t' := 0) (r' := rdUp r) hbx (fun k x hk hx => setCell_keep (heap_wq4_other hx hk _ _ _ _ _) hk) (by simp [size_wq4])
    have hm := hB.mark ho true
    refine ⟨hm, hB.below (Nat.le_refl _) (((below_wq4 ((Below.refl lo w).trans (hb.mono hl)) (g := b) h.low 1 0 0 0 _)).setCell h.low _) _ _⟩
  have HV : Hid (∀ w1, Below w.heap.size w w1 → w1.heap[b]? = some (boxH (.slice (some ⟨g, 0, none⟩) os.length c) p t r G) ∧ BoxH lo b [] p t r os xs g c G w1) := fun w1 hb => ⟨keep h.box hb, h.on hb⟩
  obtain ⟨uG, dG, rfl, _, _⟩ := id h.own
  have hoz : (0 : Int) < (os.length : Int) := by omega
  have hgb : b ≠ g := by
    obtain ⟨fs, rest, la, ha, _, e2, _, _, _, e6⟩ := h.got
    have := e6 b (by simp)
    have := e2.lo
    have := e2.hi
    omega
  have hgb2 : g ≠ b := Ne.symm hgb
  have HO := hid_of ho
  obtain ⟨z, hz⟩ : ∃ z, z = rdUp r := ⟨_, rfl⟩
  rw [← hz] at HF HMIN
  have hmin : min (r + 1) 1000000 = z := HMIN.out.symm
  have hif : (if r + 1 ≤ 1000000 then r + 1 else 1000000) = z := hz.symm
  have hif2 : (if 1000000 < r + 1 then 1000000 else r + 1) = z := by rw [hz]; unfold rdUp; split <;> split <;> omega
  rw [← hz]
  clear h hl ho hr HMIN hz
  go_enter Tryz.func92, Tryz.ntmps92
  go_wp2_with fail
  refine (implGcNew_any _).mono ?_
  rintro e w1 ⟨⟨gn, rfl, hown⟩, hb⟩
  have H := hid_of (HF.out w1 gn hb hown)
  have hh := HV.out w1 hb
  obtain ⟨i0, i1, i2, i3, i4⟩ := cells5 hh.1
  have jf := frozen_of hh.1
  obtain ⟨l, d, m, hc, hff, _⟩ := hh.2.at HO.out
  have c9 := hc.c9
  have f9 := hff 9
  rw [Nat.zero_mul, Nat.zero_add] at c9
  clear hown hb hh HF HV hc hff k0 k1 k2 k3 k4
  go_wp2
  go_returns
  exact ⟨⟨_, rfl⟩, ⟨_, H.out.1⟩, H.out.2⟩
end Go.Proofs.YtbdljoldblpffaaGreat
namespace Go.Proofs.YtbdljoldblpffaaGreat
open Go.RowKit
set_option linter.unusedVariables false
set_option maxRecDepth 100000

def swB (os : List Ob) (k : Nat) (now : Int) : Bool := !(decide (k = 0)) && frB (obAt os k) now
def swOs (os : List Ob) (k : Nat) (now : Int) : List Ob := if swB os k now then freeOf os k else os.set k (marked (obAt os k) false)
def swF (os : List Ob) (k : Nat) (now : Int) : Int := if swB os k now then (k : Int) else -1
theorem freeOf_len (os : List Ob) (i : Int) : (freeOf os i).length = os.length := by unfold freeOf; split <;> simp
theorem swOs_length (os : List Ob) (k : Nat) (now : Int) : (swOs os k now).length = os.length := by unfold swOs; split <;> simp [freeOf_len]
theorem arenaOk_parts' {os : List Ob} (h : arenaOk os = true) : os.length = 10 := by
  unfold arenaOk at h
  simp only [Bool.and_eq_true, decide_eq_true_eq] at h
  exact h.1
/-- What a step of sweeping leaves: at the last slot a new round begins. -/
def swP (k : Nat) : Int := if k = 9 then 0 else 1
def swT (k : Nat) : Int := if k = 9 then 0 else (k : Int) + 1
def swR (r : Int) (k : Nat) : Int := if k = 9 then rdUp r else r
def swL (os : List Ob) (k : Nat) : List Ob := if k = 9 then os.set 0 (marked (obAt os 0) true) else os
def swX (k : Nat) : List Int := if k = 9 then [0] else []
def SwAns (lo b : Nat) (k : Nat) (r : Int) (os : List Ob) (f : Int) (w : World) (e : Ending) (w' : World) : Prop := e = .returned (.int .i64 f) ∧ (∃ g c G, BoxH lo b [] (swP k) (swT k) (swR r k) (swL os k) (swX k) g c G w') ∧ Below lo w w'
theorem atUp {lo b : Nat} {p t r : Int} {os : List Ob} {xs : List Int} {g c : Nat} {G : Value} {w : World} (h : BoxH lo b [] p t r os xs g c G w) (t' : Int) : BoxH lo b [] p t' r os xs g c G (w.setCell ⟨b, 2, none⟩ (.int .i64 t')) := by
  have e := box_cell h.box 2 (.int .i64 t')
  simp at e
  exact h.reBox e (box_others w b 2 _) (by simp)
theorem sl_at {lo b : Nat} {bs : List Nat} {p t r : Int} {os : List Ob} {xs : List Int} {g c : Nat} {G : Value} {w : World} (h : BoxH lo b bs p t r os xs g c G w) {k : Nat} (hk : k < os.length) : ∃ a1 n1 d1 a2 n2 d2 a3 n3 d3, ObCells w ⟨g, k * 13, none⟩ (obAt os k) (.slice a1 n1 d1) (.slice a2 n2 d2) (.slice a3 n3 d3) ∧ (∀ i, w.frozen? ⟨g, i, none⟩ = false) := by
  obtain ⟨l, d, m, h1, h2, ⟨a, c, rfl, _, _⟩, ⟨a', c', rfl, _, _⟩, ⟨a'', c'', rfl, _, _⟩⟩ := h.at hk
  exact ⟨_, _, _, _, _, _, _, _, _, h1, h2⟩
set_option maxHeartbeats 8000000 in
theorem sw_root (lo b k : Nat) (r : Int) (os : List Ob) (g c : Nat) (G : Value) (now : Int) (w : World) (h : BoxH lo b [] 1 k r os [] g c G w) (hl : lo ≤ w.heap.size) (hok : arenaOk os = true) (hk : k < 10) (hr : 0 ≤ r ∧ r ≤ 1000000) (hs : Small8 os) (ht : (os.length : Int) + arN os ≤ 1048576) (h0 : k = 0) :
    Calls Tryz.prog 69 #[.pointer (some ⟨b, 0, none⟩), .int .i64 now] w fun e w' => SwAns lo b k r (os.set k (marked (obAt os k) false)) (-1) w e w' := by
  have hten := (arenaOk_parts' hok)
  have hko : k < os.length := by omega
  obtain ⟨k0, k1, k2, k3, k4⟩ := cells5 h.box
  obtain ⟨a1, n1, d1, a2, n2, d2, a3, n3, d3, hc, hff⟩ := sl_at h hko
  have HK : Hid (k < os.length) := hko
  have HR := hid_of hr
  have HLW := hid_of hl
  have hkz : (k : Int) < (os.length : Int) := by omega
  have f9 := hff (k * 13 + 9)
  obtain ⟨uG, dG, eG, _, _⟩ := id h.own
  subst eG
  have H1 : Hid (BoxH lo b [] 1 k r (os.set k (marked (obAt os k) false)) [] g c (.slice uG ([] : List Int).length dG) (w.setCell ⟨g, k * 13 + 9, none⟩ (.bool false))) := h.mark hko false
  have HB1 : Hid (Below lo w (w.setCell ⟨g, k * 13 + 9, none⟩ (.bool false))) := h.below (Nat.le_refl _) (Below.refl _ _) _ _
  have HL : Hid ((os.set k (marked (obAt os k) false)).length = os.length) := by show _ = _; simp
  have c9 := hc.c9
  have n0 : ((k : Int) != 0) = false := by simp [h0]
  clear h hl hok hr hs ht hc hff hten hko h0
  go_enter Tryz.func69, Tryz.ntmps69
  have H2 := hid_of (atUp H1.out ((k : Int) + 1))
  have HB2 := hid_of (HB1.out.setCell (p := ⟨b, 2, none⟩) H1.out.low (.int .i64 ((k : Int) + 1)))
  obtain ⟨j0, j1, j2, j3, j4⟩ := cells5 H1.out.box
  have jf := frozen_of H1.out.box
  rw [HL.out] at j0
  have hwk : wrap64 ((k : Int) + 1) = (k : Int) + 1 := by unfold wrap64; omega
  by_cases h9 : k = 9
  · have n9 : (((k : Int) + 1) == 10) = true := by simp; omega
    have HBR := hid_of (beginRound_any lo b 1 ((k : Int) + 1) r (os.set k (marked (obAt os k) false)) [] g c _ _ H2.out (by have := HLW.out; have := HB2.out.size; omega) (by rw [HL.out]; have := HK.out; omega) HR.out)
    have HE : Hid (swP k = 0 ∧ swT k = 0 ∧ swR r k = rdUp r ∧ swL (os.set k (marked (obAt os k) false)) k = (os.set k (marked (obAt os k) false)).set 0 (marked (obAt (os.set k (marked (obAt os k) false)) 0) true) ∧ swX k = [0]) := by show _ ∧ _; unfold swP swT swR swL swX; simp [h9]
    clear h9 H1 HB1
    go_wp2_with fail
    refine HBR.out.mono ?_
    rintro e w9 ⟨⟨v9, rfl⟩, ⟨G9, hx9⟩, hb9⟩
    have H9 := hid_of (And.intro hx9 (HB2.out.trans hb9))
    clear hx9 hb9 HBR H2 HB2 j0 j1 j2 j3 j4 jf
    go_wp2
    go_ret
    exact ⟨rfl, ⟨_, _, _, by rw [HE.out.1, HE.out.2.1, HE.out.2.2.1, HE.out.2.2.2.1, HE.out.2.2.2.2]; exact H9.out.1⟩, H9.out.2⟩
  · have n9 : (((k : Int) + 1) == 10) = false := by simp; omega
    have HE : Hid (swP k = 1 ∧ swT k = (k : Int) + 1 ∧ swR r k = r ∧ swL (os.set k (marked (obAt os k) false)) k = (os.set k (marked (obAt os k) false)) ∧ swX k = []) := by show _ ∧ _; unfold swP swT swR swL swX; simp [h9]
    clear h9 H1 HB1
    go_wp2
    go_ret
    exact ⟨rfl, ⟨_, _, _, by rw [HE.out.1, HE.out.2.1, HE.out.2.2.1, HE.out.2.2.2.1, HE.out.2.2.2.2]; exact H2.out⟩, HB2.out⟩
set_option maxHeartbeats 8000000 in
theorem sw_stay (lo b k : Nat) (r : Int) (os : List Ob) (g c : Nat) (G : Value) (now : Int) (w : World) (h : BoxH lo b [] 1 k r os [] g c G w) (hl : lo ≤ w.heap.size) (hok : arenaOk os = true) (hk : k < 10) (hr : 0 ≤ r ∧ r ≤ 1000000) (hs : Small8 os) (ht : (os.length : Int) + arN os ≤ 1048576) (h0 : k ≠ 0) (hf : frB (obAt os k) now = false) :
    Calls Tryz.prog 69 #[.pointer (some ⟨b, 0, none⟩), .int .i64 now] w fun e w' => SwAns lo b k r (os.set k (marked (obAt os k) false)) (-1) w e w' := by
  have hten := (arenaOk_parts' hok)
  have hko : k < os.length := by omega
  obtain ⟨k0, k1, k2, k3, k4⟩ := cells5 h.box
  obtain ⟨a1, n1, d1, a2, n2, d2, a3, n3, d3, hc, hff⟩ := sl_at h hko
  have HK : Hid (k < os.length) := hko
  have HR := hid_of hr
  have HLW := hid_of hl
  have hkz : (k : Int) < (os.length : Int) := by omega
  have f9 := hff (k * 13 + 9)
  obtain ⟨uG, dG, eG, _, _⟩ := id h.own
  subst eG
  have C := mayBeFreed_any (obAt os k) a1 a2 a3 n1 n2 n3 d1 d2 d3 now w
  rw [hf] at C
  obtain ⟨c0, c1, c2, c3, c4, c5, c6, c7, c8, c9, c10, c11, c12⟩ := hc
  have n0 : ((k : Int) != 0) = true := by simp [h0]
  have HH := hid_of h
  clear h hl hok hr hs ht hff hten h0 hf f9
  go_enter Tryz.func69, Tryz.ntmps69
  go_wp2_with fail
  refine C.mono ?_
  rintro e w1 ⟨rfl, hb⟩
  have H0 := hid_of (HH.out.on hb)
  have HB0 : Hid (Below lo w w1) := hb.mono HLW.out
  obtain ⟨e1, e2, e3, e4, e5, e6, e7, e8, e9, hc2, hff2⟩ := sl_at H0.out hko
  have m9 := hc2.c9
  have f9 := hff2 (k * 13 + 9)
  obtain ⟨y0, y1, y2, y3, y4⟩ := cells5 H0.out.box
  have H1 : Hid (BoxH lo b [] 1 k r (os.set k (marked (obAt os k) false)) [] g c (.slice uG ([] : List Int).length dG) (w1.setCell ⟨g, k * 13 + 9, none⟩ (.bool false))) := H0.out.mark hko false
  have HB1 : Hid (Below lo w (w1.setCell ⟨g, k * 13 + 9, none⟩ (.bool false))) := H0.out.below (Nat.le_refl _) HB0.out _ _
  have HL : Hid ((os.set k (marked (obAt os k) false)).length = os.length) := by show _ = _; simp
  clear hb hc2 hff2 C HH k0 k1 k2 k3 k4 c0 c1 c2 c3 c4 c5 c6 c7 c8 c9 c10 c11 c12 hko H0 HB0
  have H2 := hid_of (atUp H1.out ((k : Int) + 1))
  have HB2 := hid_of (HB1.out.setCell (p := ⟨b, 2, none⟩) H1.out.low (.int .i64 ((k : Int) + 1)))
  obtain ⟨j0, j1, j2, j3, j4⟩ := cells5 H1.out.box
  have jf := frozen_of H1.out.box
  rw [HL.out] at j0
  have hwk : wrap64 ((k : Int) + 1) = (k : Int) + 1 := by unfold wrap64; omega
  by_cases h9 : k = 9
  · have n9 : (((k : Int) + 1) == 10) = true := by simp; omega
    have HBR := hid_of (beginRound_any lo b 1 ((k : Int) + 1) r (os.set k (marked (obAt os k) false)) [] g c _ _ H2.out (by have := HLW.out; have := HB2.out.size; omega) (by rw [HL.out]; have := HK.out; omega) HR.out)
    have HE : Hid (swP k = 0 ∧ swT k = 0 ∧ swR r k = rdUp r ∧ swL (os.set k (marked (obAt os k) false)) k = (os.set k (marked (obAt os k) false)).set 0 (marked (obAt (os.set k (marked (obAt os k) false)) 0) true) ∧ swX k = [0]) := by show _ ∧ _; unfold swP swT swR swL swX; simp [h9]
    clear h9 H1 HB1
    go_wp2_with fail
    refine HBR.out.mono ?_
    rintro e w9 ⟨⟨v9, rfl⟩, ⟨G9, hx9⟩, hb9⟩
    have H9 := hid_of (And.intro hx9 (HB2.out.trans hb9))
    clear hx9 hb9 HBR H2 HB2 j0 j1 j2 j3 j4 jf
    go_wp2
    go_ret
    exact ⟨rfl, ⟨_, _, _, by rw [HE.out.1, HE.out.2.1, HE.out.2.2.1, HE.out.2.2.2.1, HE.out.2.2.2.2]; exact H9.out.1⟩, H9.out.2⟩
  · have n9 : (((k : Int) + 1) == 10) = false := by simp; omega
    have HE : Hid (swP k = 1 ∧ swT k = (k : Int) + 1 ∧ swR r k = r ∧ swL (os.set k (marked (obAt os k) false)) k = (os.set k (marked (obAt os k) false)) ∧ swX k = []) := by show _ ∧ _; unfold swP swT swR swL swX; simp [h9]
    clear h9 H1 HB1
    go_wp2
    go_ret
    exact ⟨rfl, ⟨_, _, _, by rw [HE.out.1, HE.out.2.1, HE.out.2.2.1, HE.out.2.2.2.1, HE.out.2.2.2.2]; exact H2.out⟩, HB2.out⟩
set_option maxHeartbeats 8000000 in
theorem sw_free (lo b k : Nat) (r : Int) (os : List Ob) (g c : Nat) (G : Value) (now : Int) (w : World) (h : BoxH lo b [] 1 k r os [] g c G w) (hl : lo ≤ w.heap.size) (hok : arenaOk os = true) (hk : k < 10) (hr : 0 ≤ r ∧ r ≤ 1000000) (hs : Small8 os) (ht : (os.length : Int) + arN os ≤ 1048576) (h0 : k ≠ 0) (hf : frB (obAt os k) now = true) :
    Calls Tryz.prog 69 #[.pointer (some ⟨b, 0, none⟩), .int .i64 now] w fun e w' => SwAns lo b k r (freeOf os (k : Int)) k w e w' := by
  have hten := (arenaOk_parts' hok)
  have hko : k < os.length := by omega
  obtain ⟨k0, k1, k2, k3, k4⟩ := cells5 h.box
  obtain ⟨a1, n1, d1, a2, n2, d2, a3, n3, d3, hc, hff⟩ := sl_at h hko
  have HK : Hid (k < os.length) := hko
  have HR := hid_of hr
  have HLW := hid_of hl
  have hkz : (k : Int) < (os.length : Int) := by omega
  have f9 := hff (k * 13 + 9)
  obtain ⟨uG, dG, eG, _, _⟩ := id h.own
  subst eG
  have C := mayBeFreed_any (obAt os k) a1 a2 a3 n1 n2 n3 d1 d2 d3 now w
  rw [hf] at C
  obtain ⟨c0, c1, c2, c3, c4, c5, c6, c7, c8, c9, c10, c11, c12⟩ := hc
  have n0 : ((k : Int) != 0) = true := by simp [h0]
  have HH := hid_of h
  have HF : Hid (∀ w', Below w.heap.size w w' → Calls Tryz.prog 91 #[.slice (some ⟨g, 0, none⟩) os.length c, .int .i64 (k : Int)] w' fun e w'' => FreeAns (freeOf os k) (freeB os k) w' e w'') := fun w' hb => implFree_any ⟨g, 0, none⟩ c os k w' (h.on hb).arena (by omega) hs ht
  have HL : Hid ((freeOf os (k : Int)).length = os.length) := freeOf_len os k
  clear h hl hok hr hs ht hff hten h0 hf f9 hko
  go_enter Tryz.func69, Tryz.ntmps69
  go_wp2_with fail
  refine C.mono ?_
  rintro e w1 ⟨rfl, hb⟩
  have H0 := hid_of (HH.out.on hb)
  have HB0 : Hid (Below lo w w1) := hb.mono HLW.out
  have HF1 := hid_of (HF.out w1 hb)
  obtain ⟨y0, y1, y2, y3, y4⟩ := cells5 H0.out.box
  clear hb C HH HF k0 k1 k2 k3 k4 c0 c1 c2 c3 c4 c5 c6 c7 c8 c9 c10 c11 c12
  go_wp2_with fail
  refine HF1.out.mono ?_
  rintro e w2 ⟨g', c', fs', rest', rfl, he, ho, hb⟩
  rw [HL.out]
  have hlo1 : lo ≤ w1.heap.size := by have := HLW.out; have := HB0.out.size; omega
  have e0 := keep H0.out.box hb
  have e1 := box_cell e0 0 (.slice (some ⟨g', 0, none⟩) os.length c')
  simp at e1
  have H1 : Hid (BoxH lo b [] 1 k r (freeOf os (k : Int)) [] g' c' (.slice uG ([] : List Int).length dG) (w2.setCell ⟨b, 0, none⟩ (.slice (some ⟨g', 0, none⟩) os.length c'))) := H0.out.reArena hb he ho hlo1 (fun k hk => by simp at hk; subst hk; exact lt_of_block H0.out.box) (by rw [HL.out]; exact e1) (box_others w2 b 0 _) (by simp)
  have HB1 : Hid (Below lo w (w2.setCell ⟨b, 0, none⟩ (.slice (some ⟨g', 0, none⟩) os.length c'))) := (HB0.out.trans (hb.mono hlo1)).setCell H0.out.low _
  obtain ⟨z0, z1, z2, z3, z4⟩ := cells5 e0
  have zf := frozen_of e0
  clear hb he ho hlo1 e0 e1 H0 HB0 HF1 y0 y1 y2 y3 y4
  have H2 := hid_of (atUp H1.out ((k : Int) + 1))
  have HB2 := hid_of (HB1.out.setCell (p := ⟨b, 2, none⟩) H1.out.low (.int .i64 ((k : Int) + 1)))
  obtain ⟨j0, j1, j2, j3, j4⟩ := cells5 H1.out.box
  have jf := frozen_of H1.out.box
  rw [HL.out] at j0
  have hwk : wrap64 ((k : Int) + 1) = (k : Int) + 1 := by unfold wrap64; omega
  by_cases h9 : k = 9
  · have n9 : (((k : Int) + 1) == 10) = true := by simp; omega
    have HBR := hid_of (beginRound_any lo b 1 ((k : Int) + 1) r (freeOf os (k : Int)) [] g' c' _ _ H2.out (by have := HLW.out; have := HB2.out.size; omega) (by rw [HL.out]; have := HK.out; omega) HR.out)
    have HE : Hid (swP k = 0 ∧ swT k = 0 ∧ swR r k = rdUp r ∧ swL (freeOf os (k : Int)) k = (freeOf os (k : Int)).set 0 (marked (obAt (freeOf os (k : Int)) 0) true) ∧ swX k = [0]) := by show _ ∧ _; unfold swP swT swR swL swX; simp [h9]
    clear h9 H1 HB1
    go_wp2_with fail
    refine HBR.out.mono ?_
    rintro e w9 ⟨⟨v9, rfl⟩, ⟨G9, hx9⟩, hb9⟩
    have H9 := hid_of (And.intro hx9 (HB2.out.trans hb9))
    clear hx9 hb9 HBR H2 HB2 j0 j1 j2 j3 j4 jf
    go_wp2
    go_ret
    exact ⟨rfl, ⟨_, _, _, by rw [HE.out.1, HE.out.2.1, HE.out.2.2.1, HE.out.2.2.2.1, HE.out.2.2.2.2]; exact H9.out.1⟩, H9.out.2⟩
  · have n9 : (((k : Int) + 1) == 10) = false := by simp; omega
    have HE : Hid (swP k = 1 ∧ swT k = (k : Int) + 1 ∧ swR r k = r ∧ swL (freeOf os (k : Int)) k = (freeOf os (k : Int)) ∧ swX k = []) := by show _ ∧ _; unfold swP swT swR swL swX; simp [h9]
    clear h9 H1 HB1
    go_wp2
    go_ret
    exact ⟨rfl, ⟨_, _, _, by rw [HE.out.1, HE.out.2.1, HE.out.2.2.1, HE.out.2.2.2.1, HE.out.2.2.2.2]; exact H2.out⟩, HB2.out⟩
theorem sweepNext_any (lo b k : Nat) (r : Int) (os : List Ob) (g c : Nat) (G : Value) (now : Int) (w : World) (h : BoxH lo b [] 1 k r os [] g c G w) (hl : lo ≤ w.heap.size) (hok : arenaOk os = true) (hk : k < 10) (hr : 0 ≤ r ∧ r ≤ 1000000) (hs : Small8 os) (ht : (os.length : Int) + arN os ≤ 1048576) :
    Calls Tryz.prog 69 #[.pointer (some ⟨b, 0, none⟩), .int .i64 now] w fun e w' => SwAns lo b k r (swOs os k now) (swF os k now) w e w' := by
  unfold swOs swF swB
  by_cases h0 : k = 0
  · rw [decide_eq_true h0]
    exact sw_root lo b k r os g c G now w h hl hok hk hr hs ht h0
  · rw [decide_eq_false h0]
    cases hf : frB (obAt os k) now with
    | false => exact sw_stay lo b k r os g c G now w h hl hok hk hr hs ht h0 hf
    | true => exact sw_free lo b k r os g c G now w h hl hok hk hr hs ht h0 hf
end Go.Proofs.YtbdljoldblpffaaGreat
namespace Go.Proofs.YtbdljoldblpffaaGreat
open Go.RowKit
set_option linter.unusedVariables false
set_option maxRecDepth 100000

theorem keepCell {g o k : Nat} {v : Value} (hne : k ≠ g) (w : World) (_u : Unit := ()) : (w.setCell ⟨g, o, none⟩ v).heap[k]? = w.heap[k]? := heap_setCell_other _ _ _ _ (by simpa using hne)
theorem BoxH.ne_g {lo b : Nat} {bs : List Nat} {p t r : Int} {os : List Ob} {xs : List Int} {g c : Nat} {G : Value} {w : World} (h : BoxH lo b bs p t r os xs g c G w) {k : Nat} (hk : k ∈ bs) : k ≠ g := by
  obtain ⟨fs, rest, la, ha, _, e2, _, _, _, e6⟩ := h.got
  have := e6 k (by simp [hk])
  have := e2.lo
  have := e2.hi
  omega
set_option maxHeartbeats 4000000 in
theorem iShb_phase (lo b : Nat) (bs : List Nat) (p t r : Int) (os : List Ob) (xs : List Int) (g c : Nat) (G : Value) (k : Nat) (w : World) (h : BoxH lo b bs p t r os xs g c G w) (hk : k < os.length) (hl : lo ≤ w.heap.size) (hn : xs.length + 1 ≤ 1048576) (hbs : ∀ k, k ∈ b :: bs → k < w.heap.size) (hbn : b ∉ bs) (h1 : p ≠ 0) :
    Calls Tryz.prog 31 #[.pointer (some ⟨b, 0, none⟩), .int .i64 (k : Int)] w fun e w' => (∃ v, e = .returned v) ∧ (∃ G', BoxH lo b bs p t r os xs g c G' w') ∧ Below lo w w' ∧ ∀ k, k ∈ bs → w'.heap[k]? = w.heap[k]? := by
  obtain ⟨k0, k1, k2, k3, k4⟩ := cells5 h.box
  obtain ⟨l, d, m, hc, hff, _⟩ := h.at hk
  have c1 := hc.c1
  have c9 := hc.c9
  have hkz : (k : Int) < (os.length : Int) := by omega
  obtain ⟨u, d0, eG, _, _⟩ := id h.own
  subst eG
  have n1 : (p != 0) = true := by simp [h1]
  have H := hid_of h
  clear h hk hl hn hc hff c1 c9 h1 hbs hbn
  go_enter Tryz.func31, Tryz.ntmps31
  go_wp2
  go_returns
  exact ⟨⟨_, rfl⟩, ⟨_, H.out⟩, Below.refl _ _, fun _ _ => rfl⟩
set_option maxHeartbeats 4000000 in
theorem iShb_none (lo b : Nat) (bs : List Nat) (p t r : Int) (os : List Ob) (xs : List Int) (g c : Nat) (G : Value) (k : Nat) (w : World) (h : BoxH lo b bs p t r os xs g c G w) (hk : k < os.length) (hl : lo ≤ w.heap.size) (hn : xs.length + 1 ≤ 1048576) (hbs : ∀ k, k ∈ b :: bs → k < w.heap.size) (hbn : b ∉ bs) (h1 : p = 0) (h2 : (obAt os k).kind = 0) :
    Calls Tryz.prog 31 #[.pointer (some ⟨b, 0, none⟩), .int .i64 (k : Int)] w fun e w' => (∃ v, e = .returned v) ∧ (∃ G', BoxH lo b bs p t r os xs g c G' w') ∧ Below lo w w' ∧ ∀ k, k ∈ bs → w'.heap[k]? = w.heap[k]? := by
  obtain ⟨k0, k1, k2, k3, k4⟩ := cells5 h.box
  obtain ⟨l, d, m, hc, hff, _⟩ := h.at hk
  have c1 := hc.c1
  have c9 := hc.c9
  have hkz : (k : Int) < (os.length : Int) := by omega
  obtain ⟨u, d0, eG, _, _⟩ := id h.own
  subst eG
  subst h1
  rw [h2] at c1
  have H := hid_of h
  clear h hl hn hc hff c9 h2 hbs hbn
  go_enter Tryz.func31, Tryz.ntmps31
  go_wp2
  go_returns
  exact ⟨⟨_, rfl⟩, ⟨_, H.out⟩, Below.refl _ _, fun _ _ => rfl⟩
set_option maxHeartbeats 4000000 in
theorem iShb_dark (lo b : Nat) (bs : List Nat) (p t r : Int) (os : List Ob) (xs : List Int) (g c : Nat) (G : Value) (k : Nat) (w : World) (h : BoxH lo b bs p t r os xs g c G w) (hk : k < os.length) (hl : lo ≤ w.heap.size) (hn : xs.length + 1 ≤ 1048576) (hbs : ∀ k, k ∈ b :: bs → k < w.heap.size) (hbn : b ∉ bs) (h1 : p = 0) (h2 : (obAt os k).kind ≠ 0) (h3 : (obAt os k).mark = true) :
    Calls Tryz.prog 31 #[.pointer (some ⟨b, 0, none⟩), .int .i64 (k : Int)] w fun e w' => (∃ v, e = .returned v) ∧ (∃ G', BoxH lo b bs p t r os xs g c G' w') ∧ Below lo w w' ∧ ∀ k, k ∈ bs → w'.heap[k]? = w.heap[k]? := by
  obtain ⟨k0, k1, k2, k3, k4⟩ := cells5 h.box
  obtain ⟨l, d, m, hc, hff, _⟩ := h.at hk
  have c1 := hc.c1
  have c9 := hc.c9
  have hkz : (k : Int) < (os.length : Int) := by omega
  obtain ⟨u, d0, eG, _, _⟩ := id h.own
  subst eG
  subst h1
  rw [h3] at c9
  have n2 : ((obAt os k).kind == 0) = false := by simp [h2]
  generalize (obAt os k).kind = kd at c1 n2
  have H := hid_of h
  clear h hl hn hc hff h2 h3 hbs hbn
  go_enter Tryz.func31, Tryz.ntmps31
  go_wp2
  go_returns
  exact ⟨⟨_, rfl⟩, ⟨_, H.out⟩, Below.refl _ _, fun _ _ => rfl⟩
set_option maxHeartbeats 4000000 in
theorem iShb_held (lo b : Nat) (bs : List Nat) (p t r : Int) (os : List Ob) (xs : List Int) (g c : Nat) (G : Value) (k : Nat) (w : World) (h : BoxH lo b bs p t r os xs g c G w) (hk : k < os.length) (hl : lo ≤ w.heap.size) (hn : xs.length + 1 ≤ 1048576) (hbs : ∀ k, k ∈ b :: bs → k < w.heap.size) (hbn : b ∉ bs) (h1 : p = 0) (h2 : (obAt os k).kind ≠ 0) (h3 : (obAt os k).mark = false) (h4 : hasI xs (k : Int) = true) :
    Calls Tryz.prog 31 #[.pointer (some ⟨b, 0, none⟩), .int .i64 (k : Int)] w fun e w' => (∃ v, e = .returned v) ∧ (∃ G', BoxH lo b bs p t r (os.set k (marked (obAt os k) true)) xs g c G' w') ∧ Below lo w w' ∧ ∀ k, k ∈ bs → w'.heap[k]? = w.heap[k]? := by
  obtain ⟨k0, k1, k2, k3, k4⟩ := cells5 h.box
  obtain ⟨l, d, m, hc, hff, _⟩ := h.at hk
  have c1 := hc.c1
  have c9 := hc.c9
  have hkz : (k : Int) < (os.length : Int) := by omega
  obtain ⟨u, d0, eG, _, _⟩ := id h.own
  subst eG
  subst h1
  rw [h3] at c9
  have n2 : ((obAt os k).kind == 0) = false := by simp [h2]
  generalize (obAt os k).kind = kd at c1 n2
  have f9 := hff (k * 13 + 9)
  have HM : Hid (BoxH lo b bs 0 t r (os.set k (marked (obAt os k) true)) xs g c (.slice u xs.length d0) (w.setCell ⟨g, k * 13 + 9, none⟩ (.bool true))) := h.mark hk true
  have HB : Hid (Below lo w (w.setCell ⟨g, k * 13 + 9, none⟩ (.bool true))) := h.below (Nat.le_refl _) (Below.refl _ _) _ _
  have HL : Hid ((os.set k (marked (obAt os k) true)).length = os.length) := by show _ = _; simp
  obtain ⟨j0, j1, j2, j3, j4⟩ := cells5 HM.out.box
  have jf := frozen_of HM.out.box
  have C := contains_any (.slice u xs.length d0) xs (k : Int) (w.setCell ⟨g, k * 13 + 9, none⟩ (.bool true)) HM.out.ints (by omega)
  rw [h4] at C
  rw [List.length_set] at j0
  have hbz := lt_of_block HM.out.box
  have HN := hid_of (And.intro hn hl)
  have HKB : Hid (∀ k', k' ∈ bs → (w.setCell ⟨g, k * 13 + 9, none⟩ (.bool true)).heap[k']? = w.heap[k']?) := fun k' hk' => keepCell (h.ne_g hk') _
  have HBS := hid_of (And.intro hbs hbn)
  clear h hl hn hc hff h2 h3 h4 hbs hbn
  clear hbz
  go_enter Tryz.func31, Tryz.ntmps31
  go_wp2_with fail
  refine C.mono ?_
  rintro e w1 ⟨rfl, rfl⟩
  clear C
  go_wp2
  go_returns
  exact ⟨⟨_, rfl⟩, ⟨_, HM.out⟩, HB.out, HKB.out⟩
set_option maxHeartbeats 4000000 in
theorem iShb_more (lo b : Nat) (bs : List Nat) (p t r : Int) (os : List Ob) (xs : List Int) (g c : Nat) (G : Value) (k : Nat) (w : World) (h : BoxH lo b bs p t r os xs g c G w) (hk : k < os.length) (hl : lo ≤ w.heap.size) (hn : xs.length + 1 ≤ 1048576) (hbs : ∀ k, k ∈ b :: bs → k < w.heap.size) (hbn : b ∉ bs) (h1 : p = 0) (h2 : (obAt os k).kind ≠ 0) (h3 : (obAt os k).mark = false) (h4 : hasI xs (k : Int) = false) :
    Calls Tryz.prog 31 #[.pointer (some ⟨b, 0, none⟩), .int .i64 (k : Int)] w fun e w' => (∃ v, e = .returned v) ∧ (∃ G', BoxH lo b bs p t r (os.set k (marked (obAt os k) true)) (xs ++ [(k : Int)]) g c G' w') ∧ Below lo w w' ∧ ∀ k, k ∈ bs → w'.heap[k]? = w.heap[k]? := by
  obtain ⟨k0, k1, k2, k3, k4⟩ := cells5 h.box
  obtain ⟨l, d, m, hc, hff, _⟩ := h.at hk
  have c1 := hc.c1
  have c9 := hc.c9
  have hkz : (k : Int) < (os.length : Int) := by omega
  obtain ⟨u, d0, eG, _, _⟩ := id h.own
  subst eG
  subst h1
  rw [h3] at c9
  have n2 : ((obAt os k).kind == 0) = false := by simp [h2]
  generalize (obAt os k).kind = kd at c1 n2
  have f9 := hff (k * 13 + 9)
  have HM : Hid (BoxH lo b bs 0 t r (os.set k (marked (obAt os k) true)) xs g c (.slice u xs.length d0) (w.setCell ⟨g, k * 13 + 9, none⟩ (.bool true))) := h.mark hk true
  have HB : Hid (Below lo w (w.setCell ⟨g, k * 13 + 9, none⟩ (.bool true))) := h.below (Nat.le_refl _) (Below.refl _ _) _ _
  have HL : Hid ((os.set k (marked (obAt os k) true)).length = os.length) := by show _ = _; simp
  obtain ⟨j0, j1, j2, j3, j4⟩ := cells5 HM.out.box
  have jf := frozen_of HM.out.box
  have C := contains_any (.slice u xs.length d0) xs (k : Int) (w.setCell ⟨g, k * 13 + 9, none⟩ (.bool true)) HM.out.ints (by omega)
  rw [h4] at C
  rw [List.length_set] at j0
  have hbz := lt_of_block HM.out.box
  have HN := hid_of (And.intro hn hl)
  have HKB : Hid (∀ k', k' ∈ bs → (w.setCell ⟨g, k * 13 + 9, none⟩ (.bool true)).heap[k']? = w.heap[k']?) := fun k' hk' => keepCell (h.ne_g hk') _
  have HBS := hid_of (And.intro hbs hbn)
  clear h hl hn hc hff h2 h3 h4 hbs hbn
  obtain ⟨W, hW⟩ : ∃ W, W = w.setCell ⟨g, k * 13 + 9, none⟩ (.bool true) := ⟨_, rfl⟩
  have HA : Hid (∃ v' w', (Builtin.append_ #[23, 23] 23 #[.slice u xs.length d0, .slice (some ⟨W.heap.size, 0, none⟩) 1 1]).run Tryz.prog (W.alloc (.cells #[.int .i64 (k : Int)] 3 (0, 0))) = .ok v' w' ∧ (∃ a n c', v' = .slice a n c') ∧ (∃ A c1 c2 c3 c4, w'.heap[b]? = some (.cells #[A, c1, c2, c3, c4] 32 (0, 0))) ∧ BoxH lo b bs 0 t r (os.set k (marked (obAt os k) true)) (xs ++ [(k : Int)]) g c v' (w'.setCell ⟨b, 4, none⟩ v') ∧ Below lo w (w'.setCell ⟨b, 4, none⟩ v') ∧ ∀ k', k' ∈ bs → (w'.setCell ⟨b, 4, none⟩ v').heap[k']? = w.heap[k']?) := by
    have hm := HM.out
    rw [← hW] at hm hbz
    have hb2 := below_alloc W (.cells #[.int .i64 (k : Int)] 3 (0, 0))
    have hwz : W.heap.size = w.heap.size := by rw [hW]; simp
    have hn := HN.out
    obtain ⟨v', w', e1, e2, e3, e4, e5, e6⟩ := (hm.on hb2).grey (fun x hx => by have := HBS.out.1 x hx; simp; omega) (by simp; omega) (k : Int) hn.1 23 W.heap.size (heap_alloc_new W _)
    refine ⟨v', w', e1, e2, ⟨_, _, _, _, _, e3⟩, e6, ?_, fun k' hk' => ?_⟩
    rotate_left
    · have e8 := keepCell (g := b) (k := k') (o := 4) (v := v') (fun e => HBS.out.2 (e ▸ hk')) w'
      have e9 := heap_alloc_old W (.cells #[.int .i64 (k : Int)] 3 (0, 0)) (r := k') (by have := HBS.out.1 k' (by simp [hk']); omega)
      rw [e8, e4 k' hk', e9, hW]
      exact HKB.out k' hk'
    have e7 : Below lo w W := by rw [hW]; exact HB.out
    exact ((e7.trans (hb2.mono (by omega))).trans e5).setCell hm.low _
  have HWZ : Hid (W.heap.size = w.heap.size) := by show _ = _; rw [hW]; simp
  clear hbz HM HN HKB HBS
  go_enter Tryz.func31, Tryz.ntmps31
  go_wp2_with fail
  refine C.mono ?_
  rintro e w1 ⟨rfl, rfl⟩
  clear C
  rw [← hW] at j0 j1 j2 j3 j4 jf ⊢
  clear hW
  go_wp2_with (at_builtin; refine wpList_appH (P := fun v' w' => (∃ a n c', v' = .slice a n c') ∧ (∃ A c1 c2 c3 c4, w'.heap[b]? = some (.cells #[A, c1, c2, c3, c4] 32 (0, 0))) ∧ BoxH lo b bs 0 t r (os.set k (marked (obAt os k) true)) (xs ++ [(k : Int)]) g c v' (w'.setCell ⟨b, 4, none⟩ v') ∧ Below lo w (w'.setCell ⟨b, 4, none⟩ v') ∧ ∀ k', k' ∈ bs → (w'.setCell ⟨b, 4, none⟩ v').heap[k']? = w.heap[k']?) rfl (.tmp 51) (.tmp 53) rfl (W.alloc (.cells #[.int .i64 (k : Int)] 3 (0, 0))) _ _ rfl rfl HA.out ?_; rintro v' w' ⟨⟨a1, n1, c1', rfl⟩, ⟨bA, b1, b2, b3, b4, hbx⟩, hX, hB'⟩; have HX := hid_of (And.intro hX hB'); obtain ⟨i0, i1, i2, i3, i4⟩ := cells5 hbx; have kf := frozen_of hbx; clear hX hB' hbx HA j0 j1 j2 j3 j4 jf k0 k1 k2 k3 k4)
  go_returns
  exact ⟨⟨_, rfl⟩, ⟨_, HX.out.1⟩, HX.out.2.1, HX.out.2.2⟩
theorem implShb_any (lo b : Nat) (bs : List Nat) (p t r : Int) (os : List Ob) (xs : List Int) (g c : Nat) (G : Value) (k : Nat) (w : World) (h : BoxH lo b bs p t r os xs g c G w) (hk : k < os.length) (hl : lo ≤ w.heap.size) (hn : xs.length + 1 ≤ 1048576) (hbs : ∀ k, k ∈ b :: bs → k < w.heap.size) (hbn : b ∉ bs) :
    Calls Tryz.prog 31 #[.pointer (some ⟨b, 0, none⟩), .int .i64 (k : Int)] w fun e w' => (∃ v, e = .returned v) ∧ (∃ G', BoxH lo b bs p t r (shOs p os k) (shXs p os xs k) g c G' w') ∧ Below lo w w' ∧ ∀ k, k ∈ bs → w'.heap[k]? = w.heap[k]? := by
  by_cases h1 : p = 0
  · by_cases h2 : (obAt os k).kind = 0
    · have e : shB p os k = false := by unfold shB; simp [h2]
      rw [shOs_no e, shXs_no e]
      exact iShb_none lo b bs p t r os xs g c G k w h hk hl hn hbs hbn h1 h2
    · cases h3 : (obAt os k).mark with
      | true =>
        have e : shB p os k = false := by unfold shB; simp [h3]
        rw [shOs_no e, shXs_no e]
        exact iShb_dark lo b bs p t r os xs g c G k w h hk hl hn hbs hbn h1 h2 h3
      | false =>
        have e : shB p os k = true := by unfold shB; simp [h1, h2, h3]
        unfold shOs shXs
        rw [e]
        cases h4 : hasI xs (k : Int) with
        | true => exact iShb_held lo b bs p t r os xs g c G k w h hk hl hn hbs hbn h1 h2 h3 h4
        | false => exact iShb_more lo b bs p t r os xs g c G k w h hk hl hn hbs hbn h1 h2 h3 h4
  · have e : shB p os k = false := by unfold shB; simp [h1]
    rw [shOs_no e, shXs_no e]
    exact iShb_phase lo b bs p t r os xs g c G k w h hk hl hn hbs hbn h1
end Go.Proofs.YtbdljoldblpffaaGreat
namespace Go.Proofs.YtbdljoldblpffaaGreat
open Go.RowKit
set_option linter.unusedVariables false
set_option maxRecDepth 100000

/-- What is led to is shaded, one by one. -/
def shTo (now : Int) (es : List Int) (os : List Ob) (xs : List Int) : Nat → List Ob × List Int
  | 0 => (os, xs)
  | n + 1 => let s := shTo now es os xs n
    if expB (obAt s.1 (es.getD n 0).toNat) now then s else (shOs 0 s.1 (es.getD n 0).toNat, shXs 0 s.1 s.2 (es.getD n 0).toNat)
theorem shTo_skip {now : Int} {es : List Int} {os : List Ob} {xs : List Int} {n : Nat} (h : expB (obAt (shTo now es os xs n).1 (es.getD n 0).toNat) now = true) : shTo now es os xs (n + 1) = shTo now es os xs n := by
  show (if _ then _ else _) = _
  rw [if_pos h]
theorem shTo_more {now : Int} {es : List Int} {os : List Ob} {xs : List Int} {n : Nat} (h : expB (obAt (shTo now es os xs n).1 (es.getD n 0).toNat) now = false) : shTo now es os xs (n + 1) = (shOs 0 (shTo now es os xs n).1 (es.getD n 0).toNat, shXs 0 (shTo now es os xs n).1 (shTo now es os xs n).2 (es.getD n 0).toNat) := by
  show (if _ then _ else _) = _
  rw [if_neg (by rw [h]; simp)]
theorem shTo_len (now : Int) (es : List Int) (os : List Ob) (xs : List Int) : ∀ n, (shTo now es os xs n).1.length = os.length ∧ (shTo now es os xs n).2.length ≤ xs.length + n
  | 0 => ⟨rfl, Nat.le_refl _⟩
  | n + 1 => by
    have ih := shTo_len now es os xs n
    cases h : expB (obAt (shTo now es os xs n).1 (es.getD n 0).toNat) now with
    | true => rw [shTo_skip h]; exact ⟨ih.1, by omega⟩
    | false =>
      rw [shTo_more h]
      have := shXs_length 0 (shTo now es os xs n).1 (shTo now es os xs n).2 (es.getD n 0).toNat
      exact ⟨by show (shOs _ _ _).length = _; rw [shOs_length]; exact ih.1, by show (shXs _ _ _ _).length ≤ _; omega⟩
/-- The thing that is looked at: the last of the list. -/
def lastI (xs : List Int) : Nat := (xs.getD (xs.length - 1) 0).toNat
def mkGone (os : List Ob) (xs : List Int) (now : Int) : Bool := !(decide (lastI xs = 0)) && expB (obAt os (lastI xs)) now
def mkAll (os : List Ob) (xs : List Int) (now : Int) : List Ob × List Int :=
  if xs.length = 0 then (os, xs)
  else if mkGone os xs now then (os, xs.take (xs.length - 1))
  else shTo now (edgesTo os (lastI xs) 10) (os.set (lastI xs) (marked (obAt os (lastI xs)) true)) (xs.take (xs.length - 1)) (edgesTo os (lastI xs) 10).length
def mkP (xs : List Int) : Int := if xs.length = 0 then 1 else 0
theorem expB_marked (o : Ob) (v : Bool) (now : Int) : expB (marked o v) now = expB o now := rfl
theorem obAt_marked {os : List Ob} {k : Nat} (hk : k < os.length) (v : Bool) (i : Nat) : obAt (os.set k (marked (obAt os k) v)) i = if i = k then marked (obAt os k) v else obAt os i := by
  unfold obAt
  by_cases h : i = k
  · subst h; simp [hk]
  · rw [if_neg h]
    simp [List.getD, List.getElem?_set_ne (fun e => h e.symm)]
theorem edgesTo_marked {os : List Ob} {k : Nat} (hk : k < os.length) (v : Bool) (i n : Nat) : edgesTo (os.set k (marked (obAt os k) v)) i n = edgesTo os i n := by
  unfold edgesTo
  congr 1
  refine List.filter_congr fun m _ => ?_
  unfold edgeB holdsB
  rw [obAt_marked hk, obAt_marked hk]
  by_cases h1 : i = k
  · by_cases h2 : m = k
    · subst h1; subst h2; simp [marked]
    · subst h1; rw [if_pos rfl, if_neg h2]; rfl
  · by_cases h2 : m = k
    · subst h2; rw [if_neg h1, if_pos rfl]; rfl
    · rw [if_neg h1, if_neg h2]
/-- A list of the call's own is kept where its block is. -/
theorem ownI_blk {lo hi : Nat} {w w' : World} {v : Value} {xs : List Int} (h : OwnI lo hi w v xs) (hk : ∀ k, k ∈ Go.Proofs.YtbdljoldblpffaaGreat.blk v → w'.heap[k]? = w.heap[k]?) : OwnI lo hi w' v xs := h.keepIf fun b x hb hx => (hk b hb).trans hx
/-- Blocks that came later stay apart. -/
theorem BoxH.addBs {lo b : Nat} {p t r : Int} {os : List Ob} {xs : List Int} {g c : Nat} {G : Value} {w w1 : World} (h : BoxH lo b [] p t r os xs g c G w) (hb : Below w.heap.size w w1) (bs : List Nat) (hn : ∀ k, k ∈ bs → w.heap.size ≤ k) : BoxH lo b bs p t r os xs g c G w1 := by
  obtain ⟨fs, rest, la, ha, e1, e2, e3, e4, e5, e6⟩ := h.got
  have hz := hb.size
  refine ⟨keep h.box hb, h.low, ownI_more h.own hb, fun k hk hm => ?_, fs, rest, la, ha, e1, e2.on hb, e3, by omega, e5, fun k hk => ?_⟩
  · simp only [List.mem_cons] at hk
    rcases hk with rfl | hk
    · exact h.not _ (by simp) hm
    · have := hn k hk; have := (h.own.blk hm).2.2; omega
  · simp only [List.mem_cons] at hk
    rcases hk with rfl | hk
    · exact e6 _ (by simp)
    · have := hn k hk; right; omega
theorem BoxH.fewBs {lo b : Nat} {bs : List Nat} {p t r : Int} {os : List Ob} {xs : List Int} {g c : Nat} {G : Value} {w : World} (h : BoxH lo b bs p t r os xs g c G w) : BoxH lo b [] p t r os xs g c G w := by
  obtain ⟨fs, rest, la, ha, e1, e2, e3, e4, e5, e6⟩ := h.got
  exact ⟨h.box, h.low, h.own, fun k hk => h.not k (by simp at hk; simp [hk]), fs, rest, la, ha, e1, e2, e3, e4, e5, fun k hk => e6 k (by simp at hk; simp [hk])⟩
end Go.Proofs.YtbdljoldblpffaaGreat
namespace Go.Proofs.YtbdljoldblpffaaGreat
open Go.RowKit
set_option linter.unusedVariables false
set_option maxRecDepth 100000

/-- A heap of the call's own, and blocks that are none of its. -/
def GotB (lo hi : Nat) (bs : List Nat) (os : List Ob) (xs : List Int) (A G : Value) (w : World) : Prop := ∃ g c fs rest la ha, A = .slice (some ⟨g, 0, none⟩) os.length c ∧ arOf fs = os ∧ OwnA g c fs rest la ha w ∧ OwnI lo hi w G xs ∧ (∀ b, b ∈ Go.Proofs.YtbdljoldblpffaaGreat.blk G → b < la ∨ ha ≤ b) ∧ lo ≤ la ∧ ha ≤ hi ∧ ha ≤ w.heap.size ∧ ∀ k, k ∈ bs → (k < la ∨ ha ≤ k) ∧ k ∉ Go.Proofs.YtbdljoldblpffaaGreat.blk G
theorem GotB.got {lo hi : Nat} {bs : List Nat} {os : List Ob} {xs : List Int} {A G : Value} {w : World} (h : GotB lo hi bs os xs A G w) : GotH lo hi os xs A G w := by
  obtain ⟨g, c, fs, rest, la, ha, h1, h2, h3, h4, h5, h6, h7, h8, _⟩ := h
  exact ⟨g, c, fs, rest, la, ha, h1, h2, h3, h4, h5, h6, h7, h8⟩
theorem GotB.on {lo : Nat} {bs : List Nat} {os : List Ob} {xs : List Int} {A G : Value} {w w' : World} (h : GotB lo w.heap.size bs os xs A G w) (hb : Below w.heap.size w w') : GotB lo w'.heap.size bs os xs A G w' := by
  obtain ⟨g, c, fs, rest, la, ha, h1, h2, h3, h4, h5, h6, h7, h8, h9⟩ := h
  exact ⟨g, c, fs, rest, la, ha, h1, h2, h3.on hb, ownI_more h4 hb, h5, h6, Nat.le_trans h7 hb.size, Nat.le_trans h8 hb.size, h9⟩
/-- A heap in a box, the cell into which the answer goes, and what stays. -/
structure EndT (w0 : World) (lo b R : Nat) (bs : List Nat) (p t r : Int) (os : List Ob) (xs : List Int) (g c : Nat) (G : Value) (wz : World) : Prop where
  base : Below lo w0 wz
  bx : BoxH lo b (R :: bs) p t r os xs g c G wz
  res : ∃ v0 v1 v2 v3 v4, wz.heap[R]? = some (.cells #[v0, v1, v2, v3, v4] 32 (0, 0))
  ne : b ≠ R
  low : lo ≤ R
  nb : b ∉ bs
  nr : R ∉ bs
  same : ∀ k, k ∈ bs → wz.heap[k]? = w0.heap[k]?
  few : ∀ k, k ∈ b :: R :: bs → k < wz.heap.size
theorem GotB.boxed {lo : Nat} {bs : List Nat} {p t r : Int} {os : List Ob} {xs : List Int} {g c : Nat} {G : Value} {w : World} (h : GotB lo w.heap.size bs os xs (.slice (some ⟨g, 0, none⟩) os.length c) G w) (hl : lo ≤ w.heap.size) (hbs : ∀ k, k ∈ bs → k < w.heap.size) : EndT w lo w.heap.size (w.heap.size + 1) bs p t r os xs g c G ((w.alloc (boxH (.slice (some ⟨g, 0, none⟩) os.length c) p t r G)).alloc (boxH (.slice none 0 0) 0 0 0 (.slice none 0 0))) := by
  obtain ⟨g', c', fs, rest, la, ha, e, h2, h3, h4, h5, h6, h7, h8, h9⟩ := h
  simp at e
  obtain ⟨rfl, rfl⟩ := e
  have hb1 := below_alloc w (boxH (.slice (some ⟨g, 0, none⟩) os.length c) p t r G)
  have hb2 := below_alloc (w.alloc (boxH (.slice (some ⟨g, 0, none⟩) os.length c) p t r G)) (boxH (.slice none 0 0) 0 0 0 (.slice none 0 0))
  have hb : Below w.heap.size w ((w.alloc (boxH (.slice (some ⟨g, 0, none⟩) os.length c) p t r G)).alloc (boxH (.slice none 0 0) 0 0 0 (.slice none 0 0))) := below_more hb1 hb2
  refine ⟨hb.mono hl, ⟨(heap_alloc_old _ _ (by simp)).trans (heap_alloc_new w _), hl, ownI_more h4 hb, fun k hk hm => ?_, fs, rest, la, ha, h2, h3.on hb, h6, Nat.le_trans h8 hb.size, h5, fun k hk => ?_⟩, ⟨_, _, _, _, _, heap_alloc_at0 w _ _⟩, by omega, by omega, fun hk => by have := hbs _ hk; omega, fun hk => by have := hbs _ hk; omega, fun k hk => (hb.block k (hbs k hk)), fun k hk => ?_⟩
  · simp only [List.mem_cons] at hk
    rcases hk with rfl | rfl | hk
    · have := (h4.blk hm).2.1; omega
    · have := (h4.blk hm).2.1; omega
    · exact (h9 k hk).2 hm
  · simp only [List.mem_cons] at hk
    rcases hk with rfl | rfl | hk
    · right; omega
    · right; omega
    · exact (h9 k hk).1
  · simp only [List.mem_cons] at hk
    have hz : ((w.alloc (boxH (.slice (some ⟨g, 0, none⟩) os.length c) p t r G)).alloc (boxH (.slice none 0 0) 0 0 0 (.slice none 0 0))).heap.size = w.heap.size + 1 + 1 := by simp
    rcases hk with rfl | rfl | hk
    · omega
    · omega
    · have := hbs k hk; omega
theorem wq5_same (w : World) (R : Nat) (a : Value) (p t r : Int) (v : Value) {k : Nat} (hk : k ≠ R) (hz : k < w.heap.size) : (wq5 w R 0 a p t r v).heap[k]? = w.heap[k]? := by
  obtain ⟨x, hx⟩ : ∃ x, w.heap[k]? = some x := ⟨w.heap[k], by simp [hz]⟩
  rw [hx]
  exact heap_wq5_other hx hk _ _ _ _ _ _
section
variable {w0 : World} {lo b R : Nat} {bs : List Nat} {p t r : Int} {os : List Ob} {xs : List Int} {g c : Nat} {G : Value} {wz w' : World}
theorem EndT.ans (h : EndT w0 lo b R bs p t r os xs g c G wz) (p' t' r' : Int) : (wq5 wz R 0 (.slice (some ⟨g, 0, none⟩) os.length c) p' t' r' G).heap[R]? = some (boxH (.slice (some ⟨g, 0, none⟩) os.length c) p' t' r' G) ∧ GotB lo (wq5 wz R 0 (.slice (some ⟨g, 0, none⟩) os.length c) p' t' r' G).heap.size bs os xs (.slice (some ⟨g, 0, none⟩) os.length c) G (wq5 wz R 0 (.slice (some ⟨g, 0, none⟩) os.length c) p' t' r' G) ∧ Below lo w0 (wq5 wz R 0 (.slice (some ⟨g, 0, none⟩) os.length c) p' t' r' G) ∧ ∀ k, k ∈ bs → (wq5 wz R 0 (.slice (some ⟨g, 0, none⟩) os.length c) p' t' r' G).heap[k]? = w0.heap[k]? := by
  obtain ⟨_, _, _, _, _, h2⟩ := h.res
  obtain ⟨fs, rest, la, ha, e1, e2, e3, e4, e5, e6⟩ := h.bx.got
  have hR := e6 R (by simp)
  refine ⟨heap_wq5_new h2 _ _ _ _ _, ⟨g, c, fs, rest, la, ha, rfl, e1, e2.keepIn2 (fun k x k1 k2 hx => heap_wq5_other hx (by omega) _ _ _ _ _ _), ?_, e5, e3, by rw [size_wq5]; exact e4, by rw [size_wq5]; exact e4, fun k hk => ⟨e6 k (by simp [hk]), h.bx.not k (by simp [hk])⟩⟩, below_wq5 h.base h.low 0 _ _ _ _ _, fun k hk => ?_⟩
  · rw [size_wq5]
    exact h.bx.own.keepIf fun k x hk hx => heap_wq5_other (g := R) hx (fun e => h.bx.not R (by simp) (e ▸ hk)) _ _ _ _ _ _
  · rw [wq5_same wz R _ _ _ _ _ (k := k) (fun e => h.nr (by rw [← e]; exact hk)) (h.few k (by simp [hk]))]
    exact h.same k hk
theorem EndT.on (h : EndT w0 lo b R bs p t r os xs g c G wz) (hb : Below wz.heap.size wz w') (hl : lo ≤ wz.heap.size) : EndT w0 lo b R bs p t r os xs g c G w' := by
  obtain ⟨_, _, _, _, _, h2⟩ := h.res
  exact ⟨h.base.trans (hb.mono hl), h.bx.on hb, ⟨_, _, _, _, _, keep h2 hb⟩, h.ne, h.low, h.nb, h.nr, fun k hk => (hb.block k (h.few k (by simp [hk]))).trans (h.same k hk), fun k hk => Nat.lt_of_lt_of_le (h.few k hk) hb.size⟩
theorem EndT.mark (h : EndT w0 lo b R bs p t r os xs g c G wz) {k : Nat} (hk : k < os.length) (v : Bool) : EndT w0 lo b R bs p t r (os.set k (marked (obAt os k) v)) xs g c G (wz.setCell ⟨g, k * 13 + 9, none⟩ (.bool v)) := by
  obtain ⟨_, _, _, _, _, h2⟩ := h.res
  exact ⟨h.bx.below (Nat.le_refl _) h.base _ _, h.bx.mark hk v, ⟨_, _, _, _, _, setCell_keep h2 (h.bx.ne_g (by simp))⟩, h.ne, h.low, h.nb, h.nr, fun k' hk' => (keepCell (h.bx.ne_g (by simp [hk'])) _).trans (h.same k' hk'), fun k' hk' => by simpa using h.few k' hk'⟩
end
set_option maxHeartbeats 4000000 in
theorem sShb_phase (lo : Nat) (p t r : Int) (os : List Ob) (xs : List Int) (g c : Nat) (G : Value) (k : Nat) (w : World) (bs : List Nat) (hbs : ∀ k, k ∈ bs → k < w.heap.size) (h : GotB lo w.heap.size bs os xs (.slice (some ⟨g, 0, none⟩) os.length c) G w) (hk : k < os.length) (hl : lo ≤ w.heap.size) (hn : xs.length + 1 ≤ 1048576) (h1 : p ≠ 0) :
    Calls Tryz.prog 25 #[hpV (.slice (some ⟨g, 0, none⟩) os.length c) p t r G, .int .i64 (k : Int)] w fun e w' => (∃ G', e = .returned (hpV (.slice (some ⟨g, 0, none⟩) os.length c) p t r G') ∧ GotB lo w'.heap.size bs os xs (.slice (some ⟨g, 0, none⟩) os.length c) G' w') ∧ Below lo w w' ∧ ∀ k, k ∈ bs → w'.heap[k]? = w.heap[k]? := by
  obtain ⟨_, _, u, d0, eA, rfl⟩ := h.got.form
  simp at eA
  obtain ⟨rfl, rfl⟩ := eA
  obtain ⟨W, hW⟩ : ∃ W, W = (w.alloc (boxH (.slice (some ⟨g, 0, none⟩) os.length c) p t r (.slice u xs.length d0))).alloc (boxH (.slice none 0 0) 0 0 0 (.slice none 0 0)) := ⟨_, rfl⟩
  have HE := hid_of (h.boxed (p := p) (t := t) (r := r) hl hbs)
  have hws : W.heap.size = w.heap.size + 1 + 1 := by rw [hW]; simp
  obtain ⟨l, d, m, hc, hff, _⟩ := HE.out.bx.at hk
  obtain ⟨k0, k1, k2, k3, k4⟩ := cells5 HE.out.bx.box
  have c1 := hc.c1
  have c9 := hc.c9
  have hkz : (k : Int) < (os.length : Int) := by omega
  have n1 : (p == 0) = false := by simp [h1]
  have HG : Hid (∀ w', Below w.heap.size w w' → GotB lo w'.heap.size bs os xs (.slice (some ⟨g, 0, none⟩) os.length c) (.slice u xs.length d0) w' ∧ Below lo w w' ∧ ∀ k, k ∈ bs → w'.heap[k]? = w.heap[k]?) := fun w' hb => ⟨h.on hb, hb.mono hl, fun k hk => hb.block k (hbs k hk)⟩
  clear h hk hl hbs hn hc hff c1 c9 h1 hW hws HE k0 k1 k2 k3 k4
  go_enter Tryz.func25, Tryz.ntmps25
  go_wp2
  refine bodyPost_ret (v := hpV (.slice (some ⟨g, 0, none⟩) os.length c) p t r (.slice u xs.length d0)) (by simp [results, go_sem]) rfl ⟨⟨_, rfl, (HG.out _ (by go_grown)).1⟩, (HG.out _ (by go_grown)).2⟩
set_option maxHeartbeats 4000000 in
theorem sShb_none (lo : Nat) (p t r : Int) (os : List Ob) (xs : List Int) (g c : Nat) (G : Value) (k : Nat) (w : World) (bs : List Nat) (hbs : ∀ k, k ∈ bs → k < w.heap.size) (h : GotB lo w.heap.size bs os xs (.slice (some ⟨g, 0, none⟩) os.length c) G w) (hk : k < os.length) (hl : lo ≤ w.heap.size) (hn : xs.length + 1 ≤ 1048576) (h1 : p = 0) (h2 : (obAt os k).kind = 0) :
    Calls Tryz.prog 25 #[hpV (.slice (some ⟨g, 0, none⟩) os.length c) p t r G, .int .i64 (k : Int)] w fun e w' => (∃ G', e = .returned (hpV (.slice (some ⟨g, 0, none⟩) os.length c) p t r G') ∧ GotB lo w'.heap.size bs os xs (.slice (some ⟨g, 0, none⟩) os.length c) G' w') ∧ Below lo w w' ∧ ∀ k, k ∈ bs → w'.heap[k]? = w.heap[k]? := by
  subst h1
  obtain ⟨_, _, u, d0, eA, rfl⟩ := h.got.form
  simp at eA
  obtain ⟨rfl, rfl⟩ := eA
  obtain ⟨W, hW⟩ : ∃ W, W = (w.alloc (boxH (.slice (some ⟨g, 0, none⟩) os.length c) 0 t r (.slice u xs.length d0))).alloc (boxH (.slice none 0 0) 0 0 0 (.slice none 0 0)) := ⟨_, rfl⟩
  have HE := hid_of (h.boxed (p := 0) (t := t) (r := r) hl hbs)
  have hws : W.heap.size = w.heap.size + 1 + 1 := by rw [hW]; simp
  obtain ⟨l, d, m, hc, hff, _⟩ := HE.out.bx.at hk
  obtain ⟨k0, k1, k2, k3, k4⟩ := cells5 HE.out.bx.box
  have c1 := hc.c1
  have c9 := hc.c9
  have hkz : (k : Int) < (os.length : Int) := by omega
  rw [h2] at c1
  have HG : Hid (∀ w', Below w.heap.size w w' → GotB lo w'.heap.size bs os xs (.slice (some ⟨g, 0, none⟩) os.length c) (.slice u xs.length d0) w' ∧ Below lo w w' ∧ ∀ k, k ∈ bs → w'.heap[k]? = w.heap[k]?) := fun w' hb => ⟨h.on hb, hb.mono hl, fun k hk => hb.block k (hbs k hk)⟩
  clear h hl hbs hn hc hff c9 h2 hW hws HE
  go_enter Tryz.func25, Tryz.ntmps25
  go_wp2
  refine bodyPost_ret (v := hpV (.slice (some ⟨g, 0, none⟩) os.length c) 0 t r (.slice u xs.length d0)) (by simp [results, go_sem]) rfl ⟨⟨_, rfl, (HG.out _ (by go_grown)).1⟩, (HG.out _ (by go_grown)).2⟩
set_option maxHeartbeats 4000000 in
theorem sShb_dark (lo : Nat) (p t r : Int) (os : List Ob) (xs : List Int) (g c : Nat) (G : Value) (k : Nat) (w : World) (bs : List Nat) (hbs : ∀ k, k ∈ bs → k < w.heap.size) (h : GotB lo w.heap.size bs os xs (.slice (some ⟨g, 0, none⟩) os.length c) G w) (hk : k < os.length) (hl : lo ≤ w.heap.size) (hn : xs.length + 1 ≤ 1048576) (h1 : p = 0) (h2 : (obAt os k).kind ≠ 0) (h3 : (obAt os k).mark = true) :
    Calls Tryz.prog 25 #[hpV (.slice (some ⟨g, 0, none⟩) os.length c) p t r G, .int .i64 (k : Int)] w fun e w' => (∃ G', e = .returned (hpV (.slice (some ⟨g, 0, none⟩) os.length c) p t r G') ∧ GotB lo w'.heap.size bs os xs (.slice (some ⟨g, 0, none⟩) os.length c) G' w') ∧ Below lo w w' ∧ ∀ k, k ∈ bs → w'.heap[k]? = w.heap[k]? := by
  subst h1
  obtain ⟨_, _, u, d0, eA, rfl⟩ := h.got.form
  simp at eA
  obtain ⟨rfl, rfl⟩ := eA
  obtain ⟨W, hW⟩ : ∃ W, W = (w.alloc (boxH (.slice (some ⟨g, 0, none⟩) os.length c) 0 t r (.slice u xs.length d0))).alloc (boxH (.slice none 0 0) 0 0 0 (.slice none 0 0)) := ⟨_, rfl⟩
  have HE := hid_of (h.boxed (p := 0) (t := t) (r := r) hl hbs)
  have hws : W.heap.size = w.heap.size + 1 + 1 := by rw [hW]; simp
  obtain ⟨l, d, m, hc, hff, _⟩ := HE.out.bx.at hk
  obtain ⟨k0, k1, k2, k3, k4⟩ := cells5 HE.out.bx.box
  have c1 := hc.c1
  have c9 := hc.c9
  have hkz : (k : Int) < (os.length : Int) := by omega
  rw [h3] at c9
  have n2 : ((obAt os k).kind != 0) = true := by simp [h2]
  generalize (obAt os k).kind = kd at c1 n2
  have HG : Hid (∀ w', Below w.heap.size w w' → GotB lo w'.heap.size bs os xs (.slice (some ⟨g, 0, none⟩) os.length c) (.slice u xs.length d0) w' ∧ Below lo w w' ∧ ∀ k, k ∈ bs → w'.heap[k]? = w.heap[k]?) := fun w' hb => ⟨h.on hb, hb.mono hl, fun k hk => hb.block k (hbs k hk)⟩
  clear h hl hbs hn hc hff h2 h3 hW hws HE
  go_enter Tryz.func25, Tryz.ntmps25
  go_wp2
  refine bodyPost_ret (v := hpV (.slice (some ⟨g, 0, none⟩) os.length c) 0 t r (.slice u xs.length d0)) (by simp [results, go_sem]) rfl ⟨⟨_, rfl, (HG.out _ (by go_grown)).1⟩, (HG.out _ (by go_grown)).2⟩
set_option maxHeartbeats 4000000 in
theorem sShb_held (lo : Nat) (p t r : Int) (os : List Ob) (xs : List Int) (g c : Nat) (G : Value) (k : Nat) (w : World) (bs : List Nat) (hbs : ∀ k, k ∈ bs → k < w.heap.size) (h : GotB lo w.heap.size bs os xs (.slice (some ⟨g, 0, none⟩) os.length c) G w) (hk : k < os.length) (hl : lo ≤ w.heap.size) (hn : xs.length + 1 ≤ 1048576) (h1 : p = 0) (h2 : (obAt os k).kind ≠ 0) (h3 : (obAt os k).mark = false) (h4 : hasI xs (k : Int) = true) :
    Calls Tryz.prog 25 #[hpV (.slice (some ⟨g, 0, none⟩) os.length c) p t r G, .int .i64 (k : Int)] w fun e w' => (∃ G', e = .returned (hpV (.slice (some ⟨g, 0, none⟩) os.length c) p t r G') ∧ GotB lo w'.heap.size bs (os.set k (marked (obAt os k) true)) xs (.slice (some ⟨g, 0, none⟩) os.length c) G' w') ∧ Below lo w w' ∧ ∀ k, k ∈ bs → w'.heap[k]? = w.heap[k]? := by
  subst h1
  obtain ⟨_, _, u, d0, eA, rfl⟩ := h.got.form
  simp at eA
  obtain ⟨rfl, rfl⟩ := eA
  obtain ⟨W, hW⟩ : ∃ W, W = (w.alloc (boxH (.slice (some ⟨g, 0, none⟩) os.length c) 0 t r (.slice u xs.length d0))).alloc (boxH (.slice none 0 0) 0 0 0 (.slice none 0 0)) := ⟨_, rfl⟩
  have HE := hid_of (h.boxed (p := 0) (t := t) (r := r) hl hbs)
  have hws : W.heap.size = w.heap.size + 1 + 1 := by rw [hW]; simp
  obtain ⟨l, d, m, hc, hff, _⟩ := HE.out.bx.at hk
  obtain ⟨k0, k1, k2, k3, k4⟩ := cells5 HE.out.bx.box
  have c1 := hc.c1
  have c9 := hc.c9
  have hkz : (k : Int) < (os.length : Int) := by omega
  rw [h3] at c9
  have n2 : ((obAt os k).kind != 0) = true := by simp [h2]
  generalize (obAt os k).kind = kd at c1 n2
  have f9 := hff (k * 13 + 9)
  have HM : Hid (EndT w lo w.heap.size (w.heap.size + 1) bs 0 t r (os.set k (marked (obAt os k) true)) xs g c (.slice u xs.length d0) (((w.alloc (boxH (.slice (some ⟨g, 0, none⟩) os.length c) 0 t r (.slice u xs.length d0))).alloc (boxH (.slice none 0 0) 0 0 0 (.slice none 0 0))).setCell ⟨g, k * 13 + 9, none⟩ (.bool true))) := HE.out.mark hk true
  have HL : Hid ((os.set k (marked (obAt os k) true)).length = os.length) := by show _ = _; simp
  obtain ⟨j0, j1, j2, j3, j4⟩ := cells5 HM.out.bx.box
  obtain ⟨r0, r1, r2, r3, r4, hrs⟩ := HM.out.res
  obtain ⟨m0, m1, m2, m3, m4⟩ := cells5 hrs
  have mf := frozen_of hrs
  have C := specHas_any (.slice u xs.length d0) xs (k : Int) (((w.alloc (boxH (.slice (some ⟨g, 0, none⟩) os.length c) 0 t r (.slice u xs.length d0))).alloc (boxH (.slice none 0 0) 0 0 0 (.slice none 0 0))).setCell ⟨g, k * 13 + 9, none⟩ (.bool true)) HM.out.bx.ints (by omega)
  rw [h4] at C
  rw [List.length_set] at j0
  have HN := hid_of (And.intro hn hl)
  clear h hl hbs hn hc hff h2 h3 h4 hrs HE
  clear hW hws
  go_enter Tryz.func25, Tryz.ntmps25
  go_wp2_with fail
  refine C.mono ?_
  rintro e w1 ⟨rfl, rfl⟩
  clear C
  go_wp2
  have HA := hid_of (HM.out.ans 0 t r)
  rw [HL.out] at HA
  show bodyPost _ _ _ _ _ (wq5 _ (w.heap.size + 1) 0 (.slice (some ⟨g, 0, none⟩) os.length c) 0 t r (.slice u xs.length d0))
  refine bodyPost_ret (v := hpV (.slice (some ⟨g, 0, none⟩) os.length c) 0 t r (.slice u xs.length d0)) (by have e := HA.out.1; simp [results, go_sem, World.cell?, e]) rfl ⟨⟨_, rfl, HA.out.2.1⟩, HA.out.2.2⟩
set_option maxHeartbeats 4000000 in
theorem sShb_more (lo : Nat) (p t r : Int) (os : List Ob) (xs : List Int) (g c : Nat) (G : Value) (k : Nat) (w : World) (bs : List Nat) (hbs : ∀ k, k ∈ bs → k < w.heap.size) (h : GotB lo w.heap.size bs os xs (.slice (some ⟨g, 0, none⟩) os.length c) G w) (hk : k < os.length) (hl : lo ≤ w.heap.size) (hn : xs.length + 1 ≤ 1048576) (h1 : p = 0) (h2 : (obAt os k).kind ≠ 0) (h3 : (obAt os k).mark = false) (h4 : hasI xs (k : Int) = false) :
    Calls Tryz.prog 25 #[hpV (.slice (some ⟨g, 0, none⟩) os.length c) p t r G, .int .i64 (k : Int)] w fun e w' => (∃ G', e = .returned (hpV (.slice (some ⟨g, 0, none⟩) os.length c) p t r G') ∧ GotB lo w'.heap.size bs (os.set k (marked (obAt os k) true)) (xs ++ [(k : Int)]) (.slice (some ⟨g, 0, none⟩) os.length c) G' w') ∧ Below lo w w' ∧ ∀ k, k ∈ bs → w'.heap[k]? = w.heap[k]? := by
  subst h1
  obtain ⟨_, _, u, d0, eA, rfl⟩ := h.got.form
  simp at eA
  obtain ⟨rfl, rfl⟩ := eA
  obtain ⟨W, hW⟩ : ∃ W, W = (w.alloc (boxH (.slice (some ⟨g, 0, none⟩) os.length c) 0 t r (.slice u xs.length d0))).alloc (boxH (.slice none 0 0) 0 0 0 (.slice none 0 0)) := ⟨_, rfl⟩
  have HE := hid_of (h.boxed (p := 0) (t := t) (r := r) hl hbs)
  have hws : W.heap.size = w.heap.size + 1 + 1 := by rw [hW]; simp
  obtain ⟨l, d, m, hc, hff, _⟩ := HE.out.bx.at hk
  obtain ⟨k0, k1, k2, k3, k4⟩ := cells5 HE.out.bx.box
  have c1 := hc.c1
  have c9 := hc.c9
  have hkz : (k : Int) < (os.length : Int) := by omega
  rw [h3] at c9
  have n2 : ((obAt os k).kind != 0) = true := by simp [h2]
  generalize (obAt os k).kind = kd at c1 n2
  have f9 := hff (k * 13 + 9)
  have HM : Hid (EndT w lo w.heap.size (w.heap.size + 1) bs 0 t r (os.set k (marked (obAt os k) true)) xs g c (.slice u xs.length d0) (((w.alloc (boxH (.slice (some ⟨g, 0, none⟩) os.length c) 0 t r (.slice u xs.length d0))).alloc (boxH (.slice none 0 0) 0 0 0 (.slice none 0 0))).setCell ⟨g, k * 13 + 9, none⟩ (.bool true))) := HE.out.mark hk true
  have HL : Hid ((os.set k (marked (obAt os k) true)).length = os.length) := by show _ = _; simp
  obtain ⟨j0, j1, j2, j3, j4⟩ := cells5 HM.out.bx.box
  obtain ⟨r0, r1, r2, r3, r4, hrs⟩ := HM.out.res
  obtain ⟨m0, m1, m2, m3, m4⟩ := cells5 hrs
  have mf := frozen_of hrs
  have C := specHas_any (.slice u xs.length d0) xs (k : Int) (((w.alloc (boxH (.slice (some ⟨g, 0, none⟩) os.length c) 0 t r (.slice u xs.length d0))).alloc (boxH (.slice none 0 0) 0 0 0 (.slice none 0 0))).setCell ⟨g, k * 13 + 9, none⟩ (.bool true)) HM.out.bx.ints (by omega)
  rw [h4] at C
  rw [List.length_set] at j0
  have HN := hid_of (And.intro hn hl)
  clear h hl hbs hn hc hff h2 h3 h4 hrs HE
  obtain ⟨V, hV⟩ : ∃ V, V = ((w.alloc (boxH (.slice (some ⟨g, 0, none⟩) os.length c) 0 t r (.slice u xs.length d0))).alloc (boxH (.slice none 0 0) 0 0 0 (.slice none 0 0))).setCell ⟨g, k * 13 + 9, none⟩ (.bool true) := ⟨_, rfl⟩
  have HP : Hid (∃ v' w', (Builtin.append_ #[23, 23] 23 #[.slice u xs.length d0, .slice (some ⟨V.heap.size, 0, none⟩) 1 1]).run Tryz.prog (V.alloc (.cells #[.int .i64 (k : Int)] 3 (0, 0))) = .ok v' w' ∧ (∃ a n c', v' = .slice a n c') ∧ (∃ A c1 c2 c3 c4, w'.heap[w.heap.size]? = some (.cells #[A, c1, c2, c3, c4] 32 (0, 0))) ∧ EndT w lo w.heap.size (w.heap.size + 1) bs 0 t r (os.set k (marked (obAt os k) true)) (xs ++ [(k : Int)]) g c v' (w'.setCell ⟨w.heap.size, 4, none⟩ v')) := by
    have hm := HM.out
    rw [← hV] at hm
    have hb2 := below_alloc V (.cells #[.int .i64 (k : Int)] 3 (0, 0))
    have hwz : V.heap.size = w.heap.size + 1 + 1 := by rw [hV]; simp
    have hn := HN.out
    have hlv : lo ≤ V.heap.size := by omega
    have hE := hm.on hb2 hlv
    obtain ⟨v', w', e1, e2, e3, e4, e5, e6⟩ := hE.bx.grey (fun x hx => by have := hE.few x hx; exact this) (by simp; omega) (k : Int) hn.1 23 V.heap.size (heap_alloc_new V _)
    refine ⟨v', w', e1, e2, ⟨_, _, _, _, _, e3⟩, ?_, e6, ?_, hE.ne, hE.low, hE.nb, hE.nr, fun k' hk' => ((keepCell (k := k') (g := w.heap.size) (fun e => hE.nb (by rw [← e]; exact hk')) _).trans (e4 k' (by simp [hk']))).trans (hE.same k' hk'), fun k' hk' => by have h1 := hE.few k' hk'; have h2 := e5.size; simp; omega⟩
    · exact (hE.base.trans e5).setCell hm.bx.low _
    · obtain ⟨_, _, _, _, _, hr⟩ := hE.res
      exact ⟨_, _, _, _, _, setCell_keep ((e4 (w.heap.size + 1) (by simp)).trans hr) (Ne.symm hE.ne)⟩
  clear HM HN hW hws
  go_enter Tryz.func25, Tryz.ntmps25
  go_wp2_with fail
  refine C.mono ?_
  rintro e w1 ⟨rfl, rfl⟩
  clear C
  rw [← hV] at j0 j1 j2 j3 j4 m0 m1 m2 m3 m4 mf ⊢
  clear hV k0 k1 k2 k3 k4 m0 m1 m2 m3 m4 mf
  go_wp2_with (at_builtin; refine wpList_appH (P := fun v' w' => (∃ a n c', v' = .slice a n c') ∧ (∃ A c1 c2 c3 c4, w'.heap[w.heap.size]? = some (.cells #[A, c1, c2, c3, c4] 32 (0, 0))) ∧ EndT w lo w.heap.size (w.heap.size + 1) bs 0 t r (os.set k (marked (obAt os k) true)) (xs ++ [(k : Int)]) g c v' (w'.setCell ⟨w.heap.size, 4, none⟩ v')) rfl (.tmp 40) (.tmp 42) rfl (V.alloc (.cells #[.int .i64 (k : Int)] 3 (0, 0))) _ _ rfl rfl HP.out ?_; rintro v' w' ⟨⟨a1, n1, c1', rfl⟩, ⟨bA, b1, b2, b3, b4, hbx⟩, hX⟩; have HX := hid_of hX; obtain ⟨i0, i1, i2, i3, i4⟩ := cells5 hbx; have kf := frozen_of hbx; obtain ⟨y0, y1, y2, y3, y4⟩ := cells5 hX.bx.box; have yf := frozen_of hX.bx.box; obtain ⟨r0, r1, r2, r3, r4, hrs⟩ := hX.res; obtain ⟨m0, m1, m2, m3, m4⟩ := cells5 hrs; have mf := frozen_of hrs; rw [List.length_set] at y0; clear hrs hX hbx HP j0 j1 j2 j3 j4)
  have HA := hid_of (HX.out.ans 0 t r)
  rw [HL.out] at HA
  show bodyPost _ _ _ _ _ (wq5 _ (w.heap.size + 1) 0 (.slice (some ⟨g, 0, none⟩) os.length c) 0 t r (.slice a1 n1 c1'))
  refine bodyPost_ret (v := hpV (.slice (some ⟨g, 0, none⟩) os.length c) 0 t r (.slice a1 n1 c1')) (by have e := HA.out.1; simp [results, go_sem, World.cell?, e]) rfl ⟨⟨_, rfl, HA.out.2.1⟩, HA.out.2.2⟩
theorem specShbV_any (lo : Nat) (p t r : Int) (os : List Ob) (xs : List Int) (g c : Nat) (G : Value) (k : Nat) (w : World) (bs : List Nat) (hbs : ∀ k, k ∈ bs → k < w.heap.size) (h : GotB lo w.heap.size bs os xs (.slice (some ⟨g, 0, none⟩) os.length c) G w) (hk : k < os.length) (hl : lo ≤ w.heap.size) (hn : xs.length + 1 ≤ 1048576) :
    Calls Tryz.prog 25 #[hpV (.slice (some ⟨g, 0, none⟩) os.length c) p t r G, .int .i64 (k : Int)] w fun e w' => (∃ G', e = .returned (hpV (.slice (some ⟨g, 0, none⟩) os.length c) p t r G') ∧ GotB lo w'.heap.size bs (shOs p os k) (shXs p os xs k) (.slice (some ⟨g, 0, none⟩) os.length c) G' w') ∧ Below lo w w' ∧ ∀ k, k ∈ bs → w'.heap[k]? = w.heap[k]? := by
  by_cases h1 : p = 0
  · by_cases h2 : (obAt os k).kind = 0
    · have e : shB p os k = false := by unfold shB; simp [h2]
      rw [shOs_no e, shXs_no e]
      exact sShb_none lo p t r os xs g c G k w bs hbs h hk hl hn h1 h2
    · cases h3 : (obAt os k).mark with
      | true =>
        have e : shB p os k = false := by unfold shB; simp [h3]
        rw [shOs_no e, shXs_no e]
        exact sShb_dark lo p t r os xs g c G k w bs hbs h hk hl hn h1 h2 h3
      | false =>
        have e : shB p os k = true := by unfold shB; simp [h1, h2, h3]
        unfold shOs shXs
        rw [e]
        cases h4 : hasI xs (k : Int) with
        | true => exact sShb_held lo p t r os xs g c G k w bs hbs h hk hl hn h1 h2 h3 h4
        | false => exact sShb_more lo p t r os xs g c G k w bs hbs h hk hl hn h1 h2 h3 h4
  · have e : shB p os k = false := by unfold shB; simp [h1]
    rw [shOs_no e, shXs_no e]
    exact sShb_phase lo p t r os xs g c G k w bs hbs h hk hl hn h1
end Go.Proofs.YtbdljoldblpffaaGreat
namespace Go.Proofs.YtbdljoldblpffaaGreat
open Go.RowKit
set_option linter.unusedVariables false
set_option maxRecDepth 100000

theorem meas_lt {n j : Nat} (h : j < n) : n - (intOf (.int .i64 ((j : Int) + 1))).toNat < n - (intOf (.int .i64 (j : Int))).toNat := by simp [intOf]; omega
theorem grey_slot {xs : List Int} (h : greyB xs = true) {m : Nat} (hm : m < xs.length) : ∃ k : Nat, xs.getD m 0 = (k : Int) ∧ k < 10 := by
  unfold greyB at h
  simp only [Bool.and_eq_true] at h
  have h1 := List.all_eq_true.1 h.1 _ (all_memI hm)
  have h2 := inB_true h1
  exact ⟨(xs.getD m 0).toNat, by omega, by omega⟩
theorem heapOk_grey {os : List Ob} {t r : Int} {xs : List Int} (h : heapOk os 0 t r xs = true) : greyB xs = true := by
  unfold heapOk rightB at h
  simp at h
  exact h.2.2.1.2
set_option maxHeartbeats 4000000 in
theorem mk_none (lo b : Nat) (r : Int) (os : List Ob) (xs : List Int) (g c : Nat) (G : Value) (now : Int) (w : World) (h : BoxH lo b [] 0 0 r os xs g c G w) (hl : lo ≤ w.heap.size) (hok : heapOk os 0 0 r xs = true) (hs : Small8 os) (hn : xs.length + 10 ≤ 1048576) (h0 : xs.length = 0) :
    Calls Tryz.prog 66 #[.pointer (some ⟨b, 0, none⟩), .int .i64 now] w fun e w' => e = .returned (.int .i64 (-1)) ∧ (∃ G', BoxH lo b [] 1 0 r os xs g c G' w') ∧ Below lo w w' := by
  obtain ⟨k0, k1, k2, k3, k4⟩ := cells5 h.box
  have kf := frozen_of h.box
  have e := box_cell h.box 1 (.int .i64 1)
  simp at e
  have H := hid_of (h.reBox e (box_others w b 1 _) (by simp))
  have HB : Hid (Below lo w (w.setCell ⟨b, 1, none⟩ (.int .i64 1))) := (Below.refl lo w).setCell h.low _
  obtain ⟨uG, dG, eG, _, _⟩ := id h.own
  subst eG
  rw [h0] at k4 e H
  clear h hl hok hs hn e h0
  go_enter Tryz.func66, Tryz.ntmps66
  go_wp2
  go_ret
  exact ⟨rfl, ⟨_, H.out⟩, HB.out⟩
set_option maxHeartbeats 16000000 in
theorem mk_root (lo b : Nat) (r : Int) (os : List Ob) (xs : List Int) (g c : Nat) (G : Value) (now : Int) (w : World) (h : BoxH lo b [] 0 0 r os xs g c G w) (hl : lo ≤ w.heap.size) (hok : heapOk os 0 0 r xs = true) (hs : Small8 os) (hn : xs.length + 10 ≤ 1048576) (h0 : xs.length ≠ 0) (h1 : lastI xs = 0) :
    Calls Tryz.prog 66 #[.pointer (some ⟨b, 0, none⟩), .int .i64 now] w fun e w' => e = .returned (.int .i64 (-1)) ∧ (∃ G', BoxH lo b [] 0 0 r (shTo now (edgesTo os (lastI xs) 10) (os.set (lastI xs) (marked (obAt os (lastI xs)) true)) (xs.take (xs.length - 1)) (edgesTo os (lastI xs) 10).length).1 (shTo now (edgesTo os (lastI xs) 10) (os.set (lastI xs) (marked (obAt os (lastI xs)) true)) (xs.take (xs.length - 1)) (edgesTo os (lastI xs) 10).length).2 g c G' w') ∧ Below lo w w' := by
  have hten := heapOk_ten hok
  obtain ⟨m, hm⟩ : ∃ m, xs.length = m + 1 := ⟨xs.length - 1, by omega⟩
  obtain ⟨k, hk, hk10⟩ := grey_slot (heapOk_grey hok) (m := m) (by omega)
  have hlast : lastI xs = k := by unfold lastI; rw [hm, Nat.add_sub_cancel, hk]; rfl
  have hko : k < os.length := by omega
  obtain ⟨k0, k1, k2, k3, k4⟩ := cells5 h.box
  have kf := frozen_of h.box
  have CF := firstGrey_any G xs m w h.ints (by omega) (by omega)
  obtain ⟨uG, dG, eG, _, _⟩ := id h.own
  subst eG
  obtain ⟨pg, rfl, hcg⟩ : ∃ pg, uG = some pg ∧ w.cell? (pg.add m) = some (.int .i64 (k : Int)) := by
    obtain ⟨a', cap', hv, _, hx⟩ := h.ints
    obtain ⟨pg, e1, e2⟩ := hx m (by omega)
    have e := (Value.slice.inj hv).1
    rw [hk] at e2
    exact ⟨pg, by rw [e, e1], e2⟩
  have hmz : (m : Int) < (xs.length : Int) := by omega
  have hsub : (xs.length : Int) - 1 = (m : Int) := by omega
  have hwr : wrap64 (m : Int) = (m : Int) := by unfold wrap64; omega
  have hkz : (k : Int) < (os.length : Int) := by omega
  have htl : (xs.take m).length = m := by rw [List.length_take]; omega
  have HK : Hid (k < os.length ∧ os.length = 10 ∧ m + 11 ≤ 1048576 ∧ lo ≤ w.heap.size) := ⟨hko, hten, by omega, hl⟩
  have HH := hid_of h
  have HS := hid_of hs
  have hxm : xs.length - 1 = m := by omega
  rw [hlast, hxm]
  obtain ⟨ys, hys⟩ : ∃ ys, ys = xs.take m := ⟨_, rfl⟩
  rw [← hys] at CF htl ⊢
  have HTL := hid_of htl
  have n0 : ((k : Int) != 0) = false := by rw [← hlast, h1]; rfl
  clear h hl hok hs hn h0 h1 hten hlast hk hys hxm hm htl
  go_enter Tryz.func66, Tryz.ntmps66
  go_wp2_with fail
  refine CF.mono ?_
  rintro e w1 ⟨⟨a1, n1, c1, rfl, hown⟩, hb⟩
  obtain rfl : n1 = ys.length := by
    obtain ⟨_, _, hv, _, _⟩ := hown
    exact (Value.slice.inj hv).2.1
  have e0 := keep HH.out.box hb
  have e1 := box_cell e0 4 (.slice a1 ys.length c1)
  simp at e1
  have hbw := lt_of_block HH.out.box
  have H1 := hid_of (HH.out.reGrey hb hown HK.out.2.2.2 (fun k hk => by simp at hk; omega) (p' := 0) (t' := 0) (r' := r) e1 (box_others w1 b 4 _) (by simp))
  have HB1 : Hid (Below lo w (w1.setCell ⟨b, 4, none⟩ (.slice a1 ys.length c1))) := ((Below.refl lo w).trans (hb.mono HK.out.2.2.2)).setCell HH.out.low _
  have HC1 := hid_of (And.intro e0 hb.size)
  obtain ⟨q1, z1, d1, q2, z2, d2, q3, z3, d3, hc, hff⟩ := sl_at (HH.out.on hb) HK.out.1
  obtain ⟨c0', c1', c2', c3', c4', c5', c6', c7', c8', c9', c10', c11', c12'⟩ := hc
  have hgb : b ≠ g := by
    obtain ⟨fs, rest, la, ha, _, f2, _, _, _, f6⟩ := HH.out.got
    have := f6 b (by simp)
    have := f2.lo
    have := f2.hi
    omega
  have hgb2 : g ≠ b := Ne.symm hgb
  clear hown hb e0 e1 HH CF hcg k0 k1 k2 k3 k4 kf hmz hsub hwr hbw
  obtain ⟨k0, k1, k2, k3, k4⟩ := cells5 HC1.out.1
  have kf := frozen_of HC1.out.1
  obtain ⟨y0, y1, y2, y3, y4⟩ := cells5 H1.out.box
  clear c0' c1' c2' c3' c4' c5' c6' c7' c8' c10' c11' c12'
  have f9 := hff (k * 13 + 9)
  have H2 := hid_of (H1.out.mark HK.out.1 true)
  have HB2 := hid_of (H1.out.below (Nat.le_refl _) HB1.out (k * 13 + 9) (.bool true))
  obtain ⟨j0, j1, j2, j3, j4⟩ := cells5 H2.out.box
  have hsl : (os.set k (marked (obAt os k) true)).length = os.length := by simp
  rw [hsl] at j0
  have HE := hid_of (implEdgesOf_any (.slice (some ⟨g, 0, none⟩) os.length c) (os.set k (marked (obAt os k) true)) k _ (by have e := H2.out.arena; rw [hsl] at e; exact e) (by rw [hsl]; exact HK.out.1) (by rw [hsl]; have := HK.out.2.1; omega) (by rw [obAt_marked HK.out.1, if_pos rfl]; have := HS.out k; unfold obN at this; show (obAt os k).ls.length ≤ _; omega))
  have he10 : edgesTo os k os.length = edgesTo os k 10 := by rw [HK.out.2.1]
  rw [hsl, edgesTo_marked HK.out.1, he10] at HE
  have HL2 : Hid ((os.set k (marked (obAt os k) true)).length = 10) := by show _ = _; rw [hsl]; exact HK.out.2.1
  obtain ⟨es, hes⟩ : ∃ es, es = edgesTo os k 10 := ⟨_, rfl⟩
  have HES : Hid (es.length ≤ 10 ∧ ∀ j, j < es.length → ∃ m : Nat, es.getD j 0 = (m : Int) ∧ m < 10) := ⟨by rw [hes]; exact edgesTo_len os k 10, fun j hj => by
    rw [hes] at hj ⊢
    obtain ⟨m, e1, e2, _⟩ := edges_at hj
    exact ⟨m, e1, e2⟩⟩
  have HEQ := hid_of hes
  rw [← hes] at HE
  obtain ⟨os2, hos2⟩ : ∃ os2, os2 = os.set k (marked (obAt os k) true) := ⟨_, rfl⟩
  rw [← hos2] at H2 HL2
  have HO2 := hid_of hos2
  clear hsl hes hos2 he10
  go_wp2_with fail
  refine HE.out.mono ?_
  rintro e w5 ⟨ve, rfl, hrow, hb⟩
  obtain ⟨av, cv, hve⟩ := owns_len hrow
  have hoi := ownI_row hrow
  have hbv : ∀ x, x ∈ Go.Proofs.YtbdljoldblpffaaGreat.blk ve → _ := fun x hx => (hoi.blk hx)
  have hbz := lt_of_block H2.out.box
  have H3 := hid_of (H2.out.addBs hb (Go.Proofs.YtbdljoldblpffaaGreat.blk ve) (fun x hx => (hbv x hx).1))
  have HN3 : Hid ((∀ x, x ∈ b :: Go.Proofs.YtbdljoldblpffaaGreat.blk ve → x < w5.heap.size) ∧ b ∉ Go.Proofs.YtbdljoldblpffaaGreat.blk ve) := ⟨fun x hx => by
    simp only [List.mem_cons] at hx
    rcases hx with rfl | hx
    · have := hb.size; omega
    · exact (hbv x hx).2.2, fun hx => by have := (hbv b hx).1; omega⟩
  have HO3 : Hid (∃ l0 h0, OwnI l0 h0 w5 ve es) := ⟨_, _, hoi⟩
  have HB3 : Hid (Below lo w w5) := HB2.out.trans (hb.mono (by have := HB2.out.size; have := HK.out.2.2.2; omega))
  subst hve
  clear hrow hb hoi hbv hbz H2 HB2 HE j0 j1 j2 j3 j4
  go_wp2
  go_loopw [68] (fun i wr => ∃ j : Nat, j ≤ es.length ∧ i = .int .i64 j ∧ Hid (∃ Gj, BoxH lo b (Go.Proofs.YtbdljoldblpffaaGreat.blk (.slice av es.length cv)) 0 0 r (shTo now es os2 ys j).1 (shTo now es os2 ys j).2 g c Gj wr) ∧ Hid (∃ l0 h0, OwnI l0 h0 wr (.slice av es.length cv) es) ∧ Hid (Below lo w wr ∧ w5.heap.size ≤ wr.heap.size)) (fun i _ => es.length - (intOf i).toNat)
  case atStart => exact ⟨0, Nat.zero_le _, rfl, ⟨_, H3.out⟩, HO3.out, HB3.out, Nat.le_refl _⟩
  case round =>
    obtain ⟨j, hj, rfl, hbx, hoj, hbj⟩ := hrel
    by_cases hlt : j < es.length
    · have HX := hid_of hbx.out.choose_spec
      generalize hbx.out.choose = Gj at HX
      obtain ⟨mm, hmm, hm10⟩ := HES.out.2 j hlt
      have hst := shTo_len now es os2 ys j
      have HSK : Hid (expB (obAt (shTo now es os2 ys j).1 mm) now = true → shTo now es os2 ys (j + 1) = shTo now es os2 ys j) := fun h => shTo_skip (by rw [hmm]; exact h)
      have HSM : Hid (expB (obAt (shTo now es os2 ys j).1 mm) now = false → shTo now es os2 ys (j + 1) = (shOs 0 (shTo now es os2 ys j).1 mm, shXs 0 (shTo now es os2 ys j).1 (shTo now es os2 ys j).2 mm)) := fun h => by
        have e := shTo_more (now := now) (es := es) (os := os2) (xs := ys) (n := j) (by rw [hmm]; exact h)
        rw [hmm] at e
        exact e
      generalize shTo now es os2 ys j = s at *
      have hsl : s.1.length = 10 := hst.1.trans HL2.out
      have HSL : Hid (s.1.length = 10 ∧ s.2.length + 1 ≤ 1048576) := ⟨hsl, by have := hst.2; have := HK.out.2.2.1; have := HES.out.1; have := HTL.out; omega⟩
      obtain ⟨p5, rfl, hc5⟩ : ∃ p5, av = some p5 ∧ wr.cell? (p5.add j) = some (.int .i64 (mm : Int)) := by
        obtain ⟨l0, h0, ho⟩ := hoj.out
        obtain ⟨a', cap', hv, _, hx⟩ := ho.ints
        obtain ⟨p5, e1, e2⟩ := hx j hlt
        have e := (Value.slice.inj hv).1
        rw [hmm] at e2
        exact ⟨p5, by rw [e, e1], e2⟩
      obtain ⟨x0, x1, x2, x3, x4⟩ := cells5 HX.out.box
      rw [hsl] at x0
      obtain ⟨q1, z1, d1, q2, z2, d2, q3, z3, d3, hc, hff⟩ := sl_at HX.out (k := mm) (by omega)
      obtain ⟨c0', c1', c2', c3', c4', c5', c6', c7', c8', c9', c10', c11', c12'⟩ := hc
      have CE := implExp_any (obAt s.1 mm) (.slice q1 z1 d1) (.slice q2 z2 d2) (.slice q3 z3 d3) now wr
      have hmz : (mm : Int) < 10 := by omega
      clear hst hsl hmm hff hbx
      have hjw : wrap64 ((j : Int) + 1) = (j : Int) + 1 := by unfold wrap64; have := HES.out.1; omega
      cases hx : expB (obAt s.1 mm) now with
      | true =>
        rw [hx] at CE
        have HQ := hid_of (HSK.out hx)
        clear hx HSK HSM
        generalize obAt s.1 mm = o at CE c0' c1' c2' c3' c4' c5' c6' c7' c8' c9' c10' c11' c12'
        go_wp2_with fail
        refine CE.mono ?_
        rintro e w6 ⟨rfl, hb⟩
        have HR : Hid ((∃ Gj, BoxH lo b (Go.Proofs.YtbdljoldblpffaaGreat.blk (.slice (some p5) es.length cv)) 0 0 r (shTo now es os2 ys (j + 1)).1 (shTo now es os2 ys (j + 1)).2 g c Gj w6) ∧ (∃ l0 h0, OwnI l0 h0 w6 (.slice (some p5) es.length cv) es) ∧ Below lo w w6 ∧ w5.heap.size ≤ w6.heap.size) := by
          rw [HQ.out]
          obtain ⟨l0, h0, ho⟩ := hoj.out
          exact ⟨⟨_, HX.out.on hb⟩, ⟨l0, h0, ownI_on ho hb⟩, hbj.out.1.trans (hb.mono (by have := hbj.out.1.size; have := HK.out.2.2.2; omega)), Nat.le_trans hbj.out.2 hb.size⟩
        clear hb CE HX hoj hbj HQ x0 x1 x2 x3 x4 c0' c1' c2' c3' c4' c5' c6' c7' c8' c9' c10' c11' c12' hc5
        go_wp2
        go_roundw
        case rel => exact ⟨j + 1, by omega, by go_num, HR.out.1, HR.out.2.1, HR.out.2.2⟩
        case measure => rw [hjw]; exact meas_lt hlt
      | false =>
        rw [hx] at CE
        have HQ := hid_of (HSM.out hx)
        clear hx HSK HSM
        generalize obAt s.1 mm = o at CE c0' c1' c2' c3' c4' c5' c6' c7' c8' c9' c10' c11' c12'
        go_wp2_with fail
        refine CE.mono ?_
        rintro e w6 ⟨rfl, hb⟩
        have HX6 := hid_of (HX.out.on hb)
        have HN6 : Hid (∀ x, x ∈ b :: Go.Proofs.YtbdljoldblpffaaGreat.blk (.slice (some p5) es.length cv) → x < w6.heap.size) := fun x hx => by
          have := HN3.out.1 x hx
          have := hbj.out.2
          have := hb.size
          omega
        have HO6 : Hid (∃ l0 h0, OwnI l0 h0 w6 (.slice (some p5) es.length cv) es) := by
          obtain ⟨l0, h0, ho⟩ := hoj.out
          exact ⟨l0, h0, ownI_on ho hb⟩
        have HB6 : Hid (Below lo w w6 ∧ w5.heap.size ≤ w6.heap.size) := ⟨hbj.out.1.trans (hb.mono (by have := hbj.out.1.size; have := HK.out.2.2.2; omega)), Nat.le_trans hbj.out.2 hb.size⟩
        have hc6 : w6.cell? (p5.add j) = some (.int .i64 (mm : Int)) := (hb.cell (World.block_lt_of_cell? _ _ hc5)).trans hc5
        clear hb CE HX hoj hbj x0 x1 x2 x3 x4 c0' c1' c2' c3' c4' c5' c6' c7' c8' c9' c10' c11' c12' hc5
        go_wp2_with fail
        refine (implShb_any lo b (Go.Proofs.YtbdljoldblpffaaGreat.blk (.slice (some p5) es.length cv)) 0 0 r s.1 s.2 g c Gj mm w6 HX6.out (by have := HSL.out.1; omega) (by have := HB6.out.1.size; have := HK.out.2.2.2; omega) HSL.out.2 HN6.out HN3.out.2).mono ?_
        rintro e w7 ⟨⟨v7, rfl⟩, ⟨G7, hx7⟩, hb7, hk7⟩
        have HR : Hid ((∃ Gj, BoxH lo b (Go.Proofs.YtbdljoldblpffaaGreat.blk (.slice (some p5) es.length cv)) 0 0 r (shTo now es os2 ys (j + 1)).1 (shTo now es os2 ys (j + 1)).2 g c Gj w7) ∧ (∃ l0 h0, OwnI l0 h0 w7 (.slice (some p5) es.length cv) es) ∧ Below lo w w7 ∧ w5.heap.size ≤ w7.heap.size) := by
          rw [HQ.out]
          obtain ⟨l0, h0, ho⟩ := HO6.out
          exact ⟨⟨_, hx7⟩, ⟨l0, h0, ownI_blk ho hk7⟩, HB6.out.1.trans hb7, Nat.le_trans HB6.out.2 hb7.size⟩
        clear hx7 hb7 hk7 HX6 HN6 HO6 HB6 HQ hc6
        go_wp2
        go_roundw
        case rel => exact ⟨j + 1, by omega, by go_num, HR.out.1, HR.out.2.1, HR.out.2.2⟩
        case measure => rw [hjw]; exact meas_lt hlt
    · obtain rfl : j = es.length := by omega
      have HR : Hid (∃ Gj, BoxH lo b [] 0 0 r (shTo now es os2 ys es.length).1 (shTo now es os2 ys es.length).2 g c Gj wr) := by
        obtain ⟨Gj, h⟩ := hbx.out
        exact ⟨Gj, h.fewBs⟩
      go_wp2
      go_ret
      exact ⟨rfl, by rw [← HEQ.out, ← HO2.out]; exact HR.out, hbj.out.1⟩
set_option maxHeartbeats 16000000 in
theorem mk_gone (lo b : Nat) (r : Int) (os : List Ob) (xs : List Int) (g c : Nat) (G : Value) (now : Int) (w : World) (h : BoxH lo b [] 0 0 r os xs g c G w) (hl : lo ≤ w.heap.size) (hok : heapOk os 0 0 r xs = true) (hs : Small8 os) (hn : xs.length + 10 ≤ 1048576) (h0 : xs.length ≠ 0) (h1 : lastI xs ≠ 0) (h2 : expB (obAt os (lastI xs)) now = true) :
    Calls Tryz.prog 66 #[.pointer (some ⟨b, 0, none⟩), .int .i64 now] w fun e w' => e = .returned (.int .i64 (-1)) ∧ (∃ G', BoxH lo b [] 0 0 r os (xs.take (xs.length - 1)) g c G' w') ∧ Below lo w w' := by
  have hten := heapOk_ten hok
  obtain ⟨m, hm⟩ : ∃ m, xs.length = m + 1 := ⟨xs.length - 1, by omega⟩
  obtain ⟨k, hk, hk10⟩ := grey_slot (heapOk_grey hok) (m := m) (by omega)
  have hlast : lastI xs = k := by unfold lastI; rw [hm, Nat.add_sub_cancel, hk]; rfl
  have hko : k < os.length := by omega
  obtain ⟨k0, k1, k2, k3, k4⟩ := cells5 h.box
  have kf := frozen_of h.box
  have CF := firstGrey_any G xs m w h.ints (by omega) (by omega)
  obtain ⟨uG, dG, eG, _, _⟩ := id h.own
  subst eG
  obtain ⟨pg, rfl, hcg⟩ : ∃ pg, uG = some pg ∧ w.cell? (pg.add m) = some (.int .i64 (k : Int)) := by
    obtain ⟨a', cap', hv, _, hx⟩ := h.ints
    obtain ⟨pg, e1, e2⟩ := hx m (by omega)
    have e := (Value.slice.inj hv).1
    rw [hk] at e2
    exact ⟨pg, by rw [e, e1], e2⟩
  have hmz : (m : Int) < (xs.length : Int) := by omega
  have hsub : (xs.length : Int) - 1 = (m : Int) := by omega
  have hwr : wrap64 (m : Int) = (m : Int) := by unfold wrap64; omega
  have hkz : (k : Int) < (os.length : Int) := by omega
  have htl : (xs.take m).length = m := by rw [List.length_take]; omega
  have HK : Hid (k < os.length ∧ os.length = 10 ∧ m + 11 ≤ 1048576 ∧ lo ≤ w.heap.size) := ⟨hko, hten, by omega, hl⟩
  have HH := hid_of h
  have HS := hid_of hs
  have hxm : xs.length - 1 = m := by omega
  rw [hxm]
  obtain ⟨ys, hys⟩ : ∃ ys, ys = xs.take m := ⟨_, rfl⟩
  rw [← hys] at CF htl ⊢
  have HTL := hid_of htl
  have n0 : ((k : Int) != 0) = true := by rw [hlast] at h1; simp [h1]
  have HX : Hid (expB (obAt os k) now = true) := by rw [← hlast]; exact h2
  clear h hl hok hs hn h0 h1 h2 hten hlast hk hys hxm hm htl
  go_enter Tryz.func66, Tryz.ntmps66
  go_wp2_with fail
  refine CF.mono ?_
  rintro e w1 ⟨⟨a1, n1, c1, rfl, hown⟩, hb⟩
  obtain rfl : n1 = ys.length := by
    obtain ⟨_, _, hv, _, _⟩ := hown
    exact (Value.slice.inj hv).2.1
  have e0 := keep HH.out.box hb
  have e1 := box_cell e0 4 (.slice a1 ys.length c1)
  simp at e1
  have hbw := lt_of_block HH.out.box
  have H1 := hid_of (HH.out.reGrey hb hown HK.out.2.2.2 (fun k hk => by simp at hk; omega) (p' := 0) (t' := 0) (r' := r) e1 (box_others w1 b 4 _) (by simp))
  have HB1 : Hid (Below lo w (w1.setCell ⟨b, 4, none⟩ (.slice a1 ys.length c1))) := ((Below.refl lo w).trans (hb.mono HK.out.2.2.2)).setCell HH.out.low _
  have HC1 := hid_of (And.intro e0 hb.size)
  obtain ⟨q1, z1, d1, q2, z2, d2, q3, z3, d3, hc, hff⟩ := sl_at (HH.out.on hb) HK.out.1
  obtain ⟨c0', c1', c2', c3', c4', c5', c6', c7', c8', c9', c10', c11', c12'⟩ := hc
  have hgb : b ≠ g := by
    obtain ⟨fs, rest, la, ha, _, f2, _, _, _, f6⟩ := HH.out.got
    have := f6 b (by simp)
    have := f2.lo
    have := f2.hi
    omega
  have hgb2 : g ≠ b := Ne.symm hgb
  clear hown hb e0 e1 HH CF hcg k0 k1 k2 k3 k4 kf hmz hsub hwr hbw
  obtain ⟨k0, k1, k2, k3, k4⟩ := cells5 HC1.out.1
  have kf := frozen_of HC1.out.1
  obtain ⟨y0, y1, y2, y3, y4⟩ := cells5 H1.out.box
  clear hff
  have CE := implExp_any (obAt os k) (.slice q1 z1 d1) (.slice q2 z2 d2) (.slice q3 z3 d3) now (w1.setCell ⟨b, 4, none⟩ (.slice a1 ys.length c1))
  rw [HX.out] at CE
  generalize obAt os k = o at c0' c1' c2' c3' c4' c5' c6' c7' c8' c9' c10' c11' c12' CE
  go_wp2_with fail
  refine CE.mono ?_
  rintro e w2 ⟨rfl, hb⟩
  have H3 := hid_of (H1.out.on hb)
  have HB3 : Hid (Below lo w w2) := HB1.out.trans (hb.mono (by have := HB1.out.size; have := HK.out.2.2.2; omega))
  go_wp2
  go_ret
  exact ⟨rfl, ⟨_, H3.out⟩, HB3.out⟩
set_option maxHeartbeats 16000000 in
theorem mk_look (lo b : Nat) (r : Int) (os : List Ob) (xs : List Int) (g c : Nat) (G : Value) (now : Int) (w : World) (h : BoxH lo b [] 0 0 r os xs g c G w) (hl : lo ≤ w.heap.size) (hok : heapOk os 0 0 r xs = true) (hs : Small8 os) (hn : xs.length + 10 ≤ 1048576) (h0 : xs.length ≠ 0) (h1 : lastI xs ≠ 0) (h2 : expB (obAt os (lastI xs)) now = false) :
    Calls Tryz.prog 66 #[.pointer (some ⟨b, 0, none⟩), .int .i64 now] w fun e w' => e = .returned (.int .i64 (-1)) ∧ (∃ G', BoxH lo b [] 0 0 r (shTo now (edgesTo os (lastI xs) 10) (os.set (lastI xs) (marked (obAt os (lastI xs)) true)) (xs.take (xs.length - 1)) (edgesTo os (lastI xs) 10).length).1 (shTo now (edgesTo os (lastI xs) 10) (os.set (lastI xs) (marked (obAt os (lastI xs)) true)) (xs.take (xs.length - 1)) (edgesTo os (lastI xs) 10).length).2 g c G' w') ∧ Below lo w w' := by
  have hten := heapOk_ten hok
  obtain ⟨m, hm⟩ : ∃ m, xs.length = m + 1 := ⟨xs.length - 1, by omega⟩
  obtain ⟨k, hk, hk10⟩ := grey_slot (heapOk_grey hok) (m := m) (by omega)
  have hlast : lastI xs = k := by unfold lastI; rw [hm, Nat.add_sub_cancel, hk]; rfl
  have hko : k < os.length := by omega
  obtain ⟨k0, k1, k2, k3, k4⟩ := cells5 h.box
  have kf := frozen_of h.box
  have CF := firstGrey_any G xs m w h.ints (by omega) (by omega)
  obtain ⟨uG, dG, eG, _, _⟩ := id h.own
  subst eG
  obtain ⟨pg, rfl, hcg⟩ : ∃ pg, uG = some pg ∧ w.cell? (pg.add m) = some (.int .i64 (k : Int)) := by
    obtain ⟨a', cap', hv, _, hx⟩ := h.ints
    obtain ⟨pg, e1, e2⟩ := hx m (by omega)
    have e := (Value.slice.inj hv).1
    rw [hk] at e2
    exact ⟨pg, by rw [e, e1], e2⟩
  have hmz : (m : Int) < (xs.length : Int) := by omega
  have hsub : (xs.length : Int) - 1 = (m : Int) := by omega
  have hwr : wrap64 (m : Int) = (m : Int) := by unfold wrap64; omega
  have hkz : (k : Int) < (os.length : Int) := by omega
  have htl : (xs.take m).length = m := by rw [List.length_take]; omega
  have HK : Hid (k < os.length ∧ os.length = 10 ∧ m + 11 ≤ 1048576 ∧ lo ≤ w.heap.size) := ⟨hko, hten, by omega, hl⟩
  have HH := hid_of h
  have HS := hid_of hs
  have hxm : xs.length - 1 = m := by omega
  rw [hlast, hxm]
  obtain ⟨ys, hys⟩ : ∃ ys, ys = xs.take m := ⟨_, rfl⟩
  rw [← hys] at CF htl ⊢
  have HTL := hid_of htl
  have n0 : ((k : Int) != 0) = true := by rw [hlast] at h1; simp [h1]
  have HX : Hid (expB (obAt os k) now = false) := by rw [← hlast]; exact h2
  clear h hl hok hs hn h0 h1 h2 hten hlast hk hys hxm hm htl
  go_enter Tryz.func66, Tryz.ntmps66
  go_wp2_with fail
  refine CF.mono ?_
  rintro e w1 ⟨⟨a1, n1, c1, rfl, hown⟩, hb⟩
  obtain rfl : n1 = ys.length := by
    obtain ⟨_, _, hv, _, _⟩ := hown
    exact (Value.slice.inj hv).2.1
  have e0 := keep HH.out.box hb
  have e1 := box_cell e0 4 (.slice a1 ys.length c1)
  simp at e1
  have hbw := lt_of_block HH.out.box
  have H1 := hid_of (HH.out.reGrey hb hown HK.out.2.2.2 (fun k hk => by simp at hk; omega) (p' := 0) (t' := 0) (r' := r) e1 (box_others w1 b 4 _) (by simp))
  have HB1 : Hid (Below lo w (w1.setCell ⟨b, 4, none⟩ (.slice a1 ys.length c1))) := ((Below.refl lo w).trans (hb.mono HK.out.2.2.2)).setCell HH.out.low _
  have HC1 := hid_of (And.intro e0 hb.size)
  obtain ⟨q1, z1, d1, q2, z2, d2, q3, z3, d3, hc, hff⟩ := sl_at (HH.out.on hb) HK.out.1
  obtain ⟨c0', c1', c2', c3', c4', c5', c6', c7', c8', c9', c10', c11', c12'⟩ := hc
  have hgb : b ≠ g := by
    obtain ⟨fs, rest, la, ha, _, f2, _, _, _, f6⟩ := HH.out.got
    have := f6 b (by simp)
    have := f2.lo
    have := f2.hi
    omega
  have hgb2 : g ≠ b := Ne.symm hgb
  clear hown hb e0 e1 HH CF hcg k0 k1 k2 k3 k4 kf hmz hsub hwr hbw
  obtain ⟨k0, k1, k2, k3, k4⟩ := cells5 HC1.out.1
  have kf := frozen_of HC1.out.1
  obtain ⟨y0, y1, y2, y3, y4⟩ := cells5 H1.out.box
  clear hff
  have CE := implExp_any (obAt os k) (.slice q1 z1 d1) (.slice q2 z2 d2) (.slice q3 z3 d3) now (w1.setCell ⟨b, 4, none⟩ (.slice a1 ys.length c1))
  rw [HX.out] at CE
  generalize obAt os k = o at c0' c1' c2' c3' c4' c5' c6' c7' c8' c9' c10' c11' c12' CE
  go_wp2_with fail
  refine CE.mono ?_
  rintro e w2 ⟨rfl, hb⟩
  have H3 := hid_of (H1.out.on hb)
  have HB3 : Hid (Below lo w w2) := HB1.out.trans (hb.mono (by have := HB1.out.size; have := HK.out.2.2.2; omega))
  clear hb CE H1 HB1 HC1 k0 k1 k2 k3 k4 kf y0 y1 y2 y3 y4 c0' c1' c2' c3' c4' c5' c6' c7' c8' c9' c10' c11' c12'
  obtain ⟨y0, y1, y2, y3, y4⟩ := cells5 H3.out.box
  obtain ⟨q1, z1, d1, q2, z2, d2, q3, z3, d3, hc, hff⟩ := sl_at H3.out HK.out.1
  have c9' := hc.c9
  have f9 := hff (k * 13 + 9)
  clear hc hff
  have H2 := hid_of (H3.out.mark HK.out.1 true)
  have HB2 := hid_of (H3.out.below (Nat.le_refl _) HB3.out (k * 13 + 9) (.bool true))
  obtain ⟨j0, j1, j2, j3, j4⟩ := cells5 H2.out.box
  have hsl : (os.set k (marked (obAt os k) true)).length = os.length := by simp
  rw [hsl] at j0
  have HE := hid_of (implEdgesOf_any (.slice (some ⟨g, 0, none⟩) os.length c) (os.set k (marked (obAt os k) true)) k _ (by have e := H2.out.arena; rw [hsl] at e; exact e) (by rw [hsl]; exact HK.out.1) (by rw [hsl]; have := HK.out.2.1; omega) (by rw [obAt_marked HK.out.1, if_pos rfl]; have := HS.out k; unfold obN at this; show (obAt os k).ls.length ≤ _; omega))
  have he10 : edgesTo os k os.length = edgesTo os k 10 := by rw [HK.out.2.1]
  rw [hsl, edgesTo_marked HK.out.1, he10] at HE
  have HL2 : Hid ((os.set k (marked (obAt os k) true)).length = 10) := by show _ = _; rw [hsl]; exact HK.out.2.1
  obtain ⟨es, hes⟩ : ∃ es, es = edgesTo os k 10 := ⟨_, rfl⟩
  have HES : Hid (es.length ≤ 10 ∧ ∀ j, j < es.length → ∃ m : Nat, es.getD j 0 = (m : Int) ∧ m < 10) := ⟨by rw [hes]; exact edgesTo_len os k 10, fun j hj => by
    rw [hes] at hj ⊢
    obtain ⟨m, e1, e2, _⟩ := edges_at hj
    exact ⟨m, e1, e2⟩⟩
  have HEQ := hid_of hes
  rw [← hes] at HE
  obtain ⟨os2, hos2⟩ : ∃ os2, os2 = os.set k (marked (obAt os k) true) := ⟨_, rfl⟩
  rw [← hos2] at H2 HL2
  have HO2 := hid_of hos2
  clear hsl hes hos2 he10
  go_wp2_with fail
  refine HE.out.mono ?_
  rintro e w5 ⟨ve, rfl, hrow, hb⟩
  obtain ⟨av, cv, hve⟩ := owns_len hrow
  have hoi := ownI_row hrow
  have hbv : ∀ x, x ∈ Go.Proofs.YtbdljoldblpffaaGreat.blk ve → _ := fun x hx => (hoi.blk hx)
  have hbz := lt_of_block H2.out.box
  have H3 := hid_of (H2.out.addBs hb (Go.Proofs.YtbdljoldblpffaaGreat.blk ve) (fun x hx => (hbv x hx).1))
  have HN3 : Hid ((∀ x, x ∈ b :: Go.Proofs.YtbdljoldblpffaaGreat.blk ve → x < w5.heap.size) ∧ b ∉ Go.Proofs.YtbdljoldblpffaaGreat.blk ve) := ⟨fun x hx => by
    simp only [List.mem_cons] at hx
    rcases hx with rfl | hx
    · have := hb.size; omega
    · exact (hbv x hx).2.2, fun hx => by have := (hbv b hx).1; omega⟩
  have HO3 : Hid (∃ l0 h0, OwnI l0 h0 w5 ve es) := ⟨_, _, hoi⟩
  have HB3 : Hid (Below lo w w5) := HB2.out.trans (hb.mono (by have := HB2.out.size; have := HK.out.2.2.2; omega))
  subst hve
  clear hrow hb hoi hbv hbz H2 HB2 HE j0 j1 j2 j3 j4
  go_wp2
  go_loopw [68] (fun i wr => ∃ j : Nat, j ≤ es.length ∧ i = .int .i64 j ∧ Hid (∃ Gj, BoxH lo b (Go.Proofs.YtbdljoldblpffaaGreat.blk (.slice av es.length cv)) 0 0 r (shTo now es os2 ys j).1 (shTo now es os2 ys j).2 g c Gj wr) ∧ Hid (∃ l0 h0, OwnI l0 h0 wr (.slice av es.length cv) es) ∧ Hid (Below lo w wr ∧ w5.heap.size ≤ wr.heap.size)) (fun i _ => es.length - (intOf i).toNat)
  case atStart => exact ⟨0, Nat.zero_le _, rfl, ⟨_, H3.out⟩, HO3.out, HB3.out, Nat.le_refl _⟩
  case round =>
    obtain ⟨j, hj, rfl, hbx, hoj, hbj⟩ := hrel
    by_cases hlt : j < es.length
    · have HX := hid_of hbx.out.choose_spec
      generalize hbx.out.choose = Gj at HX
      obtain ⟨mm, hmm, hm10⟩ := HES.out.2 j hlt
      have hst := shTo_len now es os2 ys j
      have HSK : Hid (expB (obAt (shTo now es os2 ys j).1 mm) now = true → shTo now es os2 ys (j + 1) = shTo now es os2 ys j) := fun h => shTo_skip (by rw [hmm]; exact h)
      have HSM : Hid (expB (obAt (shTo now es os2 ys j).1 mm) now = false → shTo now es os2 ys (j + 1) = (shOs 0 (shTo now es os2 ys j).1 mm, shXs 0 (shTo now es os2 ys j).1 (shTo now es os2 ys j).2 mm)) := fun h => by
        have e := shTo_more (now := now) (es := es) (os := os2) (xs := ys) (n := j) (by rw [hmm]; exact h)
        rw [hmm] at e
        exact e
      generalize shTo now es os2 ys j = s at *
      have hsl : s.1.length = 10 := hst.1.trans HL2.out
      have HSL : Hid (s.1.length = 10 ∧ s.2.length + 1 ≤ 1048576) := ⟨hsl, by have := hst.2; have := HK.out.2.2.1; have := HES.out.1; have := HTL.out; omega⟩
      obtain ⟨p5, rfl, hc5⟩ : ∃ p5, av = some p5 ∧ wr.cell? (p5.add j) = some (.int .i64 (mm : Int)) := by
        obtain ⟨l0, h0, ho⟩ := hoj.out
        obtain ⟨a', cap', hv, _, hx⟩ := ho.ints
        obtain ⟨p5, e1, e2⟩ := hx j hlt
        have e := (Value.slice.inj hv).1
        rw [hmm] at e2
        exact ⟨p5, by rw [e, e1], e2⟩
      obtain ⟨x0, x1, x2, x3, x4⟩ := cells5 HX.out.box
      rw [hsl] at x0
      obtain ⟨q1, z1, d1, q2, z2, d2, q3, z3, d3, hc, hff⟩ := sl_at HX.out (k := mm) (by omega)
      obtain ⟨c0', c1', c2', c3', c4', c5', c6', c7', c8', c9', c10', c11', c12'⟩ := hc
      have CE := implExp_any (obAt s.1 mm) (.slice q1 z1 d1) (.slice q2 z2 d2) (.slice q3 z3 d3) now wr
      have hmz : (mm : Int) < 10 := by omega
      clear hst hsl hmm hff hbx
      have hjw : wrap64 ((j : Int) + 1) = (j : Int) + 1 := by unfold wrap64; have := HES.out.1; omega
      cases hx : expB (obAt s.1 mm) now with
      | true =>
        rw [hx] at CE
        have HQ := hid_of (HSK.out hx)
        clear hx HSK HSM
        generalize obAt s.1 mm = o at CE c0' c1' c2' c3' c4' c5' c6' c7' c8' c9' c10' c11' c12'
        go_wp2_with fail
        refine CE.mono ?_
        rintro e w6 ⟨rfl, hb⟩
        have HR : Hid ((∃ Gj, BoxH lo b (Go.Proofs.YtbdljoldblpffaaGreat.blk (.slice (some p5) es.length cv)) 0 0 r (shTo now es os2 ys (j + 1)).1 (shTo now es os2 ys (j + 1)).2 g c Gj w6) ∧ (∃ l0 h0, OwnI l0 h0 w6 (.slice (some p5) es.length cv) es) ∧ Below lo w w6 ∧ w5.heap.size ≤ w6.heap.size) := by
          rw [HQ.out]
          obtain ⟨l0, h0, ho⟩ := hoj.out
          exact ⟨⟨_, HX.out.on hb⟩, ⟨l0, h0, ownI_on ho hb⟩, hbj.out.1.trans (hb.mono (by have := hbj.out.1.size; have := HK.out.2.2.2; omega)), Nat.le_trans hbj.out.2 hb.size⟩
        clear hb CE HX hoj hbj HQ x0 x1 x2 x3 x4 c0' c1' c2' c3' c4' c5' c6' c7' c8' c9' c10' c11' c12' hc5
        go_wp2
        go_roundw
        case rel => exact ⟨j + 1, by omega, by go_num, HR.out.1, HR.out.2.1, HR.out.2.2⟩
        case measure => rw [hjw]; exact meas_lt hlt
      | false =>
        rw [hx] at CE
        have HQ := hid_of (HSM.out hx)
        clear hx HSK HSM
        generalize obAt s.1 mm = o at CE c0' c1' c2' c3' c4' c5' c6' c7' c8' c9' c10' c11' c12'
        go_wp2_with fail
        refine CE.mono ?_
        rintro e w6 ⟨rfl, hb⟩
        have HX6 := hid_of (HX.out.on hb)
        have HN6 : Hid (∀ x, x ∈ b :: Go.Proofs.YtbdljoldblpffaaGreat.blk (.slice (some p5) es.length cv) → x < w6.heap.size) := fun x hx => by
          have := HN3.out.1 x hx
          have := hbj.out.2
          have := hb.size
          omega
        have HO6 : Hid (∃ l0 h0, OwnI l0 h0 w6 (.slice (some p5) es.length cv) es) := by
          obtain ⟨l0, h0, ho⟩ := hoj.out
          exact ⟨l0, h0, ownI_on ho hb⟩
        have HB6 : Hid (Below lo w w6 ∧ w5.heap.size ≤ w6.heap.size) := ⟨hbj.out.1.trans (hb.mono (by have := hbj.out.1.size; have := HK.out.2.2.2; omega)), Nat.le_trans hbj.out.2 hb.size⟩
        have hc6 : w6.cell? (p5.add j) = some (.int .i64 (mm : Int)) := (hb.cell (World.block_lt_of_cell? _ _ hc5)).trans hc5
        clear hb CE HX hoj hbj x0 x1 x2 x3 x4 c0' c1' c2' c3' c4' c5' c6' c7' c8' c9' c10' c11' c12' hc5
        go_wp2_with fail
        refine (implShb_any lo b (Go.Proofs.YtbdljoldblpffaaGreat.blk (.slice (some p5) es.length cv)) 0 0 r s.1 s.2 g c Gj mm w6 HX6.out (by have := HSL.out.1; omega) (by have := HB6.out.1.size; have := HK.out.2.2.2; omega) HSL.out.2 HN6.out HN3.out.2).mono ?_
        rintro e w7 ⟨⟨v7, rfl⟩, ⟨G7, hx7⟩, hb7, hk7⟩
        have HR : Hid ((∃ Gj, BoxH lo b (Go.Proofs.YtbdljoldblpffaaGreat.blk (.slice (some p5) es.length cv)) 0 0 r (shTo now es os2 ys (j + 1)).1 (shTo now es os2 ys (j + 1)).2 g c Gj w7) ∧ (∃ l0 h0, OwnI l0 h0 w7 (.slice (some p5) es.length cv) es) ∧ Below lo w w7 ∧ w5.heap.size ≤ w7.heap.size) := by
          rw [HQ.out]
          obtain ⟨l0, h0, ho⟩ := HO6.out
          exact ⟨⟨_, hx7⟩, ⟨l0, h0, ownI_blk ho hk7⟩, HB6.out.1.trans hb7, Nat.le_trans HB6.out.2 hb7.size⟩
        clear hx7 hb7 hk7 HX6 HN6 HO6 HB6 HQ hc6
        go_wp2
        go_roundw
        case rel => exact ⟨j + 1, by omega, by go_num, HR.out.1, HR.out.2.1, HR.out.2.2⟩
        case measure => rw [hjw]; exact meas_lt hlt
    · obtain rfl : j = es.length := by omega
      have HR : Hid (∃ Gj, BoxH lo b [] 0 0 r (shTo now es os2 ys es.length).1 (shTo now es os2 ys es.length).2 g c Gj wr) := by
        obtain ⟨Gj, h⟩ := hbx.out
        exact ⟨Gj, h.fewBs⟩
      go_wp2
      go_ret
      exact ⟨rfl, by rw [← HEQ.out, ← HO2.out]; exact HR.out, hbj.out.1⟩
theorem markNext_any (lo b : Nat) (r : Int) (os : List Ob) (xs : List Int) (g c : Nat) (G : Value) (now : Int) (w : World) (h : BoxH lo b [] 0 0 r os xs g c G w) (hl : lo ≤ w.heap.size) (hok : heapOk os 0 0 r xs = true) (hs : Small8 os) (hn : xs.length + 10 ≤ 1048576) :
    Calls Tryz.prog 66 #[.pointer (some ⟨b, 0, none⟩), .int .i64 now] w fun e w' => e = .returned (.int .i64 (-1)) ∧ (∃ G', BoxH lo b [] (mkP xs) 0 r (mkAll os xs now).1 (mkAll os xs now).2 g c G' w') ∧ Below lo w w' := by
  unfold mkP mkAll mkGone
  by_cases h0 : xs.length = 0
  · rw [if_pos h0, if_pos h0]
    exact mk_none lo b r os xs g c G now w h hl hok hs hn h0
  · rw [if_neg h0, if_neg h0]
    by_cases h1 : lastI xs = 0
    · have e : (!(decide (lastI xs = 0)) && expB (obAt os (lastI xs)) now) = false := by rw [decide_eq_true h1]; rfl
      rw [e]
      exact mk_root lo b r os xs g c G now w h hl hok hs hn h0 h1
    · cases h2 : expB (obAt os (lastI xs)) now with
      | true =>
        rw [decide_eq_false h1]
        exact mk_gone lo b r os xs g c G now w h hl hok hs hn h0 h1 h2
      | false =>
        rw [decide_eq_false h1]
        exact mk_look lo b r os xs g c G now w h hl hok hs hn h0 h1 h2
end Go.Proofs.YtbdljoldblpffaaGreat
namespace Go.Proofs.YtbdljoldblpffaaGreat
open Go.RowKit
set_option linter.unusedVariables false
set_option maxRecDepth 100000

/-- What a step answers, field by field. -/
def gsP (os : List Ob) (p t r : Int) (xs : List Int) : Int := if heapOk os p t r xs then (if p = 0 then mkP xs else swP t.toNat) else p
def gsT (os : List Ob) (p t r : Int) (xs : List Int) : Int := if heapOk os p t r xs then (if p = 0 then 0 else swT t.toNat) else t
def gsR (os : List Ob) (p t r : Int) (xs : List Int) : Int := if heapOk os p t r xs then (if p = 0 then r else swR r t.toNat) else r
def gsOs (os : List Ob) (p t r : Int) (xs : List Int) (now : Int) : List Ob := if heapOk os p t r xs then (if p = 0 then (mkAll os xs now).1 else swL (swOs os t.toNat now) t.toNat) else os
def gsXs (os : List Ob) (p t r : Int) (xs : List Int) (now : Int) : List Int := if heapOk os p t r xs then (if p = 0 then (mkAll os xs now).2 else swX t.toNat) else xs
def gsF (os : List Ob) (p t r : Int) (xs : List Int) (now : Int) : Int := if heapOk os p t r xs then (if p = 0 then -1 else swF os t.toNat now) else -1
/-- A heap and a number that a call answers. -/
def AnsHI (p t r : Int) (os : List Ob) (xs : List Int) (f : Int) (w : World) (e : Ending) (w' : World) : Prop := (∃ A G, e = .returned (.tuple #[hpV A p t r G, .int .i64 f]) ∧ GotH w.heap.size w'.heap.size os xs A G w') ∧ Below w.heap.size w w'
theorem heapOk_parts {os : List Ob} {p t r : Int} {xs : List Int} (h : heapOk os p t r xs = true) : arenaOk os = true ∧ (0 ≤ r ∧ r ≤ 1000000) ∧ (p = 0 ∨ p = 1) ∧ (p = 0 → t = 0) ∧ (p = 1 → xs = [] ∧ ∃ k : Nat, t = (k : Int) ∧ k < 10) := by
  unfold heapOk at h
  simp only [Bool.and_eq_true] at h
  obtain ⟨h1, h2, h3, h4⟩ := h
  have hp := inB_true h2
  refine ⟨h1, inB_true h4, by omega, fun e => ?_, fun e => ?_⟩
  · unfold rightB at h3
    rw [if_pos e] at h3
    simp only [Bool.and_eq_true, decide_eq_true_eq] at h3
    exact h3.1
  · unfold rightB at h3
    rw [if_neg (by omega)] at h3
    simp only [Bool.and_eq_true, decide_eq_true_eq] at h3
    have := inB_true h3.1
    exact ⟨List.length_eq_zero_iff.1 h3.2, t.toNat, by omega, by omega⟩
theorem shTo_os (now : Int) (es : List Int) (os : List Ob) (xs : List Int) (n : Nat) : (shTo now es os xs n).1.length = os.length := (shTo_len now es os xs n).1
theorem mkAll_length (os : List Ob) (xs : List Int) (now : Int) : (mkAll os xs now).1.length = os.length := by
  unfold mkAll
  split
  · rfl
  · split
    · rfl
    · rw [shTo_os]; simp
theorem swL_length (os : List Ob) (k : Nat) : (swL os k).length = os.length := by unfold swL; split <;> simp
theorem EndH.turn2 {w : World} {b : Nat} {p t r : Int} {os : List Ob} {xs : List Int} {g c : Nat} {G : Value} {wz w' : World} (h : EndH w b p t r os xs g c G wz) {p' t' r' : Int} {os' : List Ob} {xs' : List Int} {g' c' : Nat} {G' : Value} (hx : BoxH (w.heap.size + 1 + 1) b [] p' t' r' os' xs' g' c' G' w') (hb : Below (w.heap.size + 1 + 1) wz w') : EndH w b p' t' r' os' xs' g' c' G' w' := by
  obtain ⟨_, _, _, _, _, h1⟩ := h.par
  obtain ⟨_, _, _, _, _, h2⟩ := h.res
  exact ⟨h.base.trans (hb.mono (by omega)), hx, ⟨_, _, _, _, _, (hb.block _ (by omega)).trans h1⟩, ⟨_, _, _, _, _, (hb.block _ (by omega)).trans h2⟩⟩
set_option maxHeartbeats 8000000 in
theorem iStep_no (pa : Addr) (c : Nat) (p t r : Int) (G : Value) (os : List Ob) (xs : List Int) (now : Int) (w : World) (ha : IsArena w (.slice (some pa) os.length c) os) (hx : IsInts w G xs) (hs : Small8 os) (ht : (os.length : Int) + arN os + xs.length ≤ 1048576) (h1 : heapOk os p t r xs = false) :
    Calls Tryz.prog 17 #[hpV (.slice (some pa) os.length c) p t r G, .int .i64 now] w fun e w' => AnsHI p t r os xs (-1) w e w' := by
  have CC : Hid (∀ w', Below w.heap.size w w' → Calls Tryz.prog 28 #[hpV (.slice (some pa) os.length c) p t r G] w' fun e w'' => AnsH p t r os xs w' e w'') := fun w' hb => cloneHeap_any pa c p t r G os xs w' (ha.on hb) (hx.on hb) (by omega) hs (by omega)
  have CO : Hid (∀ w', Below w.heap.size w w' → Calls Tryz.prog 29 #[hpV (.slice (some pa) os.length c) p t r G] w' fun e w'' => e = .returned (.bool (heapOk os p t r xs)) ∧ Below w'.heap.size w' w'') := fun w' hb => implHeapOk_any _ p t r _ os xs w' (ha.on hb) (hx.on hb) (by omega) hs (by omega)
  rw [h1] at CO
  obtain ⟨ag, cg, rfl, _, _⟩ := id hx
  clear ha hx hs ht h1
  go_enter Tryz.func17, Tryz.ntmps17
  go_wp2_with fail
  refine (CC.out _ (by go_grown)).mono ?_
  rintro e w1 ⟨⟨A1, G1, rfl, hgot⟩, hb⟩
  obtain ⟨g1, c1, u1, d1, rfl, rfl⟩ := hgot.form
  have HE := hid_of (EndH.made hb hgot)
  clear hb hgot CC
  obtain ⟨i0, i1, i2, i3, i4⟩ := cells5 HE.out.2
  obtain ⟨W1, hW1⟩ : ∃ W1, W1 = w1.alloc (boxH (.slice (some ⟨g1, 0, none⟩) os.length c1) p t r (.slice u1 xs.length d1)) := ⟨_, rfl⟩
  go_wp2_with fail
  clear i0 i1 i2 i3 i4
  rw [← hW1] at HE ⊢
  obtain ⟨b, hbb⟩ : ∃ b, b = w1.heap.size := ⟨_, rfl⟩
  rw [← hbb] at HE ⊢
  clear hbb hW1
  refine (CO.out _ HE.out.1.base).mono ?_
  rintro e w2 ⟨rfl, hb⟩
  have HE2 := hid_of (HE.out.1.on hb)
  have HP2 := hid_of (keep HE.out.2 hb)
  clear hb CO HE
  obtain ⟨k0, k1, k2, k3, k4⟩ := cells5 HE2.out.bx.box
  have kf := frozen_of HE2.out.bx.box
  obtain ⟨r0, r1, r2, r3, r4, hrs⟩ := HE2.out.res
  obtain ⟨m0, m1, m2, m3, m4⟩ := cells5 hrs
  have mf := frozen_of hrs
  clear hrs
  go_wp2
  have HA := hid_of (HE2.out.ans p t r)
  clear k0 k1 k2 k3 k4 kf m0 m1 m2 m3 m4 mf
  show bodyPost _ _ _ _ _ (wq5 _ (w.heap.size + 1) 0 (.slice (some ⟨g1, 0, none⟩) os.length c1) p t r (.slice u1 xs.length d1))
  refine bodyPost_ret (v := .tuple #[hpV (.slice (some ⟨g1, 0, none⟩) os.length c1) p t r (.slice u1 xs.length d1), .int .i64 (-1)]) (by have e := HA.out.1; simp [results, go_sem, World.cell?, e]) rfl ⟨⟨_, _, rfl, HA.out.2.1⟩, HA.out.2.2⟩
set_option maxHeartbeats 8000000 in
theorem iStep_mark (pa : Addr) (c : Nat) (p t r : Int) (G : Value) (os : List Ob) (xs : List Int) (now : Int) (w : World) (ha : IsArena w (.slice (some pa) os.length c) os) (hx : IsInts w G xs) (hs : Small8 os) (ht : (os.length : Int) + arN os + xs.length ≤ 1048576) (hp : p = 0) (h1 : heapOk os p t r xs = true) :
    Calls Tryz.prog 17 #[hpV (.slice (some pa) os.length c) p t r G, .int .i64 now] w fun e w' => AnsHI (mkP xs) 0 r (mkAll os xs now).1 (mkAll os xs now).2 (-1) w e w' := by
  obtain rfl := (heapOk_parts h1).2.2.2.1 hp
  subst hp
  have CC : Hid (∀ w', Below w.heap.size w w' → Calls Tryz.prog 28 #[hpV (.slice (some pa) os.length c) 0 0 r G] w' fun e w'' => AnsH 0 0 r os xs w' e w'') := fun w' hb => cloneHeap_any pa c 0 0 r G os xs w' (ha.on hb) (hx.on hb) (by omega) hs (by omega)
  have CO : Hid (∀ w', Below w.heap.size w w' → Calls Tryz.prog 29 #[hpV (.slice (some pa) os.length c) 0 0 r G] w' fun e w'' => e = .returned (.bool (heapOk os 0 0 r xs)) ∧ Below w'.heap.size w' w'') := fun w' hb => implHeapOk_any _ 0 0 r _ os xs w' (ha.on hb) (hx.on hb) (by omega) hs (by omega)
  rw [h1] at CO
  have CP := fun w (a : Option Addr) (n c : Nat) (u : Option Addr) (m d : Nat) => phaseOf_mark a n c 0 r u m d w
  have hfd := fdMark1
  have HN : Hid (heapOk os 0 0 r xs = true ∧ Small8 os ∧ xs.length + 10 ≤ 1048576) := ⟨h1, hs, by have := heapOk_ten h1; omega⟩
  obtain ⟨ag, cg, rfl, _, _⟩ := id hx
  clear ha hx hs ht h1
  go_enter Tryz.func17, Tryz.ntmps17
  go_wp2_with fail
  refine (CC.out _ (by go_grown)).mono ?_
  rintro e w1 ⟨⟨A1, G1, rfl, hgot⟩, hb⟩
  obtain ⟨g1, c1, u1, d1, rfl, rfl⟩ := hgot.form
  have HE := hid_of (EndH.made hb hgot)
  clear hb hgot CC
  obtain ⟨i0, i1, i2, i3, i4⟩ := cells5 HE.out.2
  obtain ⟨W1, hW1⟩ : ∃ W1, W1 = w1.alloc (boxH (.slice (some ⟨g1, 0, none⟩) os.length c1) 0 0 r (.slice u1 xs.length d1)) := ⟨_, rfl⟩
  go_wp2_with fail
  clear i0 i1 i2 i3 i4
  rw [← hW1] at HE ⊢
  obtain ⟨b, hbb⟩ : ∃ b, b = w1.heap.size := ⟨_, rfl⟩
  rw [← hbb] at HE ⊢
  clear hbb hW1
  refine (CO.out _ HE.out.1.base).mono ?_
  rintro e w2 ⟨rfl, hb⟩
  have HE2 := hid_of (HE.out.1.on hb)
  have HP2 := hid_of (keep HE.out.2 hb)
  clear hb CO HE
  obtain ⟨j0, j1, j2, j3, j4⟩ := cells5 HP2.out
  go_wp2_with fail
  refine (CP _ _ _ _ _ _ _).mono ?_
  rintro e w3 ⟨rfl, hb⟩
  have HE3 := hid_of (HE2.out.on hb)
  clear hb HE2 CP j0 j1 j2 j3 j4 HP2
  go_wp2_with fail
  have hlo : w.heap.size + 1 + 1 ≤ w3.heap.size := by have := HE3.out.bx.low; have := lt_of_block HE3.out.bx.box; omega
  refine (markNext_any (w.heap.size + 1 + 1) b r os xs g1 c1 (.slice u1 xs.length d1) now w3 HE3.out.bx hlo HN.out.1 HN.out.2.1 HN.out.2.2).mono ?_
  rintro e w4 ⟨rfl, ⟨G4, hx4⟩, hb4⟩
  obtain ⟨g4, hg4⟩ : ∃ g4, g4 = g1 := ⟨_, rfl⟩
  obtain ⟨c4, hc4⟩ : ∃ c4, c4 = c1 := ⟨_, rfl⟩
  rw [← hg4, ← hc4] at hx4
  clear hg4 hc4
  have HE4 := hid_of (HE3.out.turn2 hx4 hb4)
  obtain ⟨u4, d4, eG4, _, _⟩ := id HE4.out.bx.own
  subst eG4
  have HL : Hid ((mkAll os xs now).1.length = os.length) := mkAll_length os xs now
  clear hx4 hb4 hlo HE3 HN
  obtain ⟨k0, k1, k2, k3, k4⟩ := cells5 HE4.out.bx.box
  rw [HL.out] at k0
  have kf := frozen_of HE4.out.bx.box
  obtain ⟨r0, r1, r2, r3, r4, hrs⟩ := HE4.out.res
  obtain ⟨m0, m1, m2, m3, m4⟩ := cells5 hrs
  have mf := frozen_of hrs
  clear hrs
  go_wp2
  have HA := hid_of (HE4.out.ans (mkP xs) 0 r)
  rw [HL.out] at HA
  clear k0 k1 k2 k3 k4 kf m0 m1 m2 m3 m4 mf
  show bodyPost _ _ _ _ _ (wq5 _ (w.heap.size + 1) 0 (.slice (some ⟨g4, 0, none⟩) os.length c4) (mkP xs) 0 r (.slice u4 (mkAll os xs now).2.length d4))
  refine bodyPost_ret (v := .tuple #[hpV (.slice (some ⟨g4, 0, none⟩) os.length c4) (mkP xs) 0 r (.slice u4 (mkAll os xs now).2.length d4), .int .i64 (-1)]) (by have e := HA.out.1; simp [results, go_sem, World.cell?, e]) rfl ⟨⟨_, _, rfl, HA.out.2.1⟩, HA.out.2.2⟩
set_option maxHeartbeats 8000000 in
theorem iStep_sweep (pa : Addr) (c : Nat) (p t r : Int) (G : Value) (os : List Ob) (xs : List Int) (now : Int) (w : World) (ha : IsArena w (.slice (some pa) os.length c) os) (hx : IsInts w G xs) (hs : Small8 os) (ht : (os.length : Int) + arN os + xs.length ≤ 1048576) (k : Nat) (hp : p = 1) (hx0 : xs = []) (htk : t = (k : Int)) (hk : k < 10) (h1 : heapOk os p t r xs = true) :
    Calls Tryz.prog 17 #[hpV (.slice (some pa) os.length c) p t r G, .int .i64 now] w fun e w' => AnsHI (swP k) (swT k) (swR r k) (swL (swOs os k now) k) (swX k) (swF os k now) w e w' := by
  subst hp
  subst htk
  have HX0 := hid_of hx0
  clear hx0
  have CC : Hid (∀ w', Below w.heap.size w w' → Calls Tryz.prog 28 #[hpV (.slice (some pa) os.length c) 1 k r G] w' fun e w'' => AnsH 1 k r os xs w' e w'') := fun w' hb => cloneHeap_any pa c 1 k r G os xs w' (ha.on hb) (hx.on hb) (by omega) hs (by omega)
  have CO : Hid (∀ w', Below w.heap.size w w' → Calls Tryz.prog 29 #[hpV (.slice (some pa) os.length c) 1 k r G] w' fun e w'' => e = .returned (.bool (heapOk os 1 k r xs)) ∧ Below w'.heap.size w' w'') := fun w' hb => implHeapOk_any _ 1 k r _ os xs w' (ha.on hb) (hx.on hb) (by omega) hs (by omega)
  rw [h1] at CO
  have CP := fun w (a : Option Addr) (n c : Nat) (u : Option Addr) (m d : Nat) => phaseOf_sweep a n c k r u m d w
  have hfd := fdSweep1
  have HN : Hid (arenaOk os = true ∧ k < 10 ∧ (0 ≤ r ∧ r ≤ 1000000) ∧ Small8 os ∧ (os.length : Int) + arN os ≤ 1048576) := ⟨(heapOk_parts h1).1, hk, (heapOk_parts h1).2.1, hs, by omega⟩
  obtain ⟨ag, cg, rfl, _, _⟩ := id hx
  clear ha hx hs ht h1
  go_enter Tryz.func17, Tryz.ntmps17
  go_wp2_with fail
  refine (CC.out _ (by go_grown)).mono ?_
  rintro e w1 ⟨⟨A1, G1, rfl, hgot⟩, hb⟩
  obtain ⟨g1, c1, u1, d1, rfl, rfl⟩ := hgot.form
  have HE := hid_of (EndH.made hb hgot)
  clear hb hgot CC
  obtain ⟨i0, i1, i2, i3, i4⟩ := cells5 HE.out.2
  obtain ⟨W1, hW1⟩ : ∃ W1, W1 = w1.alloc (boxH (.slice (some ⟨g1, 0, none⟩) os.length c1) 1 k r (.slice u1 xs.length d1)) := ⟨_, rfl⟩
  go_wp2_with fail
  clear i0 i1 i2 i3 i4
  rw [← hW1] at HE ⊢
  obtain ⟨b, hbb⟩ : ∃ b, b = w1.heap.size := ⟨_, rfl⟩
  rw [← hbb] at HE ⊢
  clear hbb hW1
  refine (CO.out _ HE.out.1.base).mono ?_
  rintro e w2 ⟨rfl, hb⟩
  have HE2 := hid_of (HE.out.1.on hb)
  have HP2 := hid_of (keep HE.out.2 hb)
  clear hb CO HE
  obtain ⟨j0, j1, j2, j3, j4⟩ := cells5 HP2.out
  go_wp2_with fail
  refine (CP _ _ _ _ _ _ _).mono ?_
  rintro e w3 ⟨rfl, hb⟩
  have HE3 := hid_of (HE2.out.on hb)
  clear hb HE2 CP j0 j1 j2 j3 j4 HP2
  go_wp2_with fail
  have hlo : w.heap.size + 1 + 1 ≤ w3.heap.size := by have := HE3.out.bx.low; have := lt_of_block HE3.out.bx.box; omega
  refine (sweepNext_any (w.heap.size + 1 + 1) b k r os g1 c1 (.slice u1 ([] : List Int).length d1) now w3 (by have e := HE3.out.bx; rw [HX0.out] at e; exact e) hlo HN.out.1 HN.out.2.1 HN.out.2.2.1 HN.out.2.2.2.1 HN.out.2.2.2.2).mono ?_
  rintro e w4 ⟨rfl, ⟨g4, c4, G4, hx4⟩, hb4⟩
  have HE4 := hid_of (HE3.out.turn2 hx4 hb4)
  obtain ⟨u4, d4, eG4, _, _⟩ := id HE4.out.bx.own
  subst eG4
  have HL : Hid ((swL (swOs os k now) k).length = os.length) := by show (swL _ _).length = _; rw [swL_length, swOs_length]
  clear hx4 hb4 hlo HE3 HN
  obtain ⟨k0, k1, k2, k3, k4⟩ := cells5 HE4.out.bx.box
  rw [HL.out] at k0
  have kf := frozen_of HE4.out.bx.box
  obtain ⟨r0, r1, r2, r3, r4, hrs⟩ := HE4.out.res
  obtain ⟨m0, m1, m2, m3, m4⟩ := cells5 hrs
  have mf := frozen_of hrs
  clear hrs
  go_wp2
  have HA := hid_of (HE4.out.ans (swP k) (swT k) (swR r k))
  rw [HL.out] at HA
  clear k0 k1 k2 k3 k4 kf m0 m1 m2 m3 m4 mf
  show bodyPost _ _ _ _ _ (wq5 _ (w.heap.size + 1) 0 (.slice (some ⟨g4, 0, none⟩) os.length c4) (swP k) (swT k) (swR r k) (.slice u4 (swX k).length d4))
  refine bodyPost_ret (v := .tuple #[hpV (.slice (some ⟨g4, 0, none⟩) os.length c4) (swP k) (swT k) (swR r k) (.slice u4 (swX k).length d4), .int .i64 (swF os k now)]) (by have e := HA.out.1; simp [results, go_sem, World.cell?, e]) rfl ⟨⟨_, _, rfl, HA.out.2.1⟩, HA.out.2.2⟩
theorem implStep_any (pa : Addr) (c : Nat) (p t r : Int) (G : Value) (os : List Ob) (xs : List Int) (now : Int) (w : World) (ha : IsArena w (.slice (some pa) os.length c) os) (hx : IsInts w G xs) (hs : Small8 os) (ht : (os.length : Int) + arN os + xs.length ≤ 1048576) :
    Calls Tryz.prog 17 #[hpV (.slice (some pa) os.length c) p t r G, .int .i64 now] w fun e w' => AnsHI (gsP os p t r xs) (gsT os p t r xs) (gsR os p t r xs) (gsOs os p t r xs now) (gsXs os p t r xs now) (gsF os p t r xs now) w e w' := by
  unfold gsP gsT gsR gsOs gsXs gsF
  cases h1 : heapOk os p t r xs with
  | false => exact iStep_no pa c p t r G os xs now w ha hx hs ht h1
  | true =>
    have h2 := heapOk_parts h1
    by_cases hp : p = 0
    · simp only [if_pos hp, if_true]
      exact iStep_mark pa c p t r G os xs now w ha hx hs ht hp h1
    · have hp1 : p = 1 := h2.2.2.1.resolve_left hp
      obtain ⟨hx0, k, hk, hk10⟩ := h2.2.2.2.2 hp1
      have e : t.toNat = k := by rw [hk, Int.toNat_natCast]
      simp only [if_neg hp, if_true, e]
      exact iStep_sweep pa c p t r G os xs now w ha hx hs ht k hp1 hx0 hk hk10 h1
end Go.Proofs.YtbdljoldblpffaaGreat
