/-
  A heap of the call's own in a box: what is written into it. A thing that is born: the program and the model.
-/
import Derived.Test.YtbdljoldblpffaaGreatCopyH10
import Derived.Test.YtbdljoldblpffaaGreatLead
import Derived.Test.YtbdljoldblpffaaGreatBend9
import Derived.Test.YtbdljoldblpffaaGreatOkH10
namespace Go.Proofs.YtbdljoldblpffaaGreat
open Go.RowKit
set_option linter.unusedVariables false
set_option maxRecDepth 100000

/-- One cell of a thing is written: not one of its lists. -/
theorem OwnA.bendV {g cap : Nat} {es : List El} {rest : List Value} {lo hi : Nat} {w : World} (h : OwnA g cap es rest lo hi w) {k : Nat} (hk : k < es.length) (j : Nat) (x : Value) (o' : Ob) (hj : j < 13) (hl : o'.ls = (elAt es k).o.ls ∧ o'.ds = (elAt es k).o.ds ∧ o'.qs = (elAt es k).o.qs)
    (he : elV ⟨o', (elAt es k).l, (elAt es k).d, (elAt es k).m⟩ = (elV (elAt es k)).set j x) :
    OwnA g cap (es.set k ⟨o', (elAt es k).l, (elAt es k).d, (elAt es k).m⟩) rest lo hi (w.setCell ⟨g, k * 13 + j, none⟩ x) := by
  have hgz := lt_of_block h.at'
  have hoo := h.own k hk
  have hne := h.ne k hk
  have HTW : Touch [g] w (w.setCell ⟨g, k * 13 + j, none⟩ x) := touch_one (grownBy_set w g _ _) hgz
  have hk3 : ∀ b y, b ∈ blks (elAt es k) → w.heap[b]? = some y → (w.setCell ⟨g, k * 13 + j, none⟩ x).heap[b]? = some y := fun b y hb hy => HTW.block _ _ (by simp; intro e; rw [e] at hb; exact hne hb) hy
  refine h.mark hk (o' := o') ?_ ⟨by rw [hl.1]; exact hoo.ls.keepIf fun b y hb hy => hk3 b y (by unfold blks; simp [hb]) hy, by rw [hl.2.1]; exact hoo.ds.keepIf fun b y hb hy => hk3 b y (by unfold blks; simp [hb]) hy, by rw [hl.2.2]; exact hoo.qs.keepIf fun b y hb hy => hk3 b y (by unfold blks; simp [hb]) hy, hoo.nd⟩ (fun b y hbg _ hy => HTW.block _ _ (by simpa using hbg) hy)
  have e := heap_setCell_same w g (k * 13 + j) _ 55 x h.at'
  rw [e, ecells_put1 hk rest ⟨o', (elAt es k).l, (elAt es k).d, (elAt es k).m⟩ j x hj he]
  simp only [List.setIfInBounds_toArray]
/-- A thing with another mark. -/
def marked (o : Ob) (v : Bool) : Ob := { o with mark := v }
/-- A heap of the call's own in a box of the call's own. -/
structure BoxH (lo b : Nat) (bs : List Nat) (p t r : Int) (os : List Ob) (xs : List Int) (g c : Nat) (G : Value) (w : World) : Prop where
  box : w.heap[b]? = some (boxH (.slice (some ⟨g, 0, none⟩) os.length c) p t r G)
  low : lo ≤ b
  own : OwnI lo w.heap.size w G xs
  not : ∀ k, k ∈ b :: bs → k ∉ Go.Proofs.YtbdljoldblpffaaGreat.blk G
  got : ∃ fs rest la ha, arOf fs = os ∧ OwnA g c fs rest la ha w ∧ lo ≤ la ∧ ha ≤ w.heap.size ∧ (∀ k, k ∈ Go.Proofs.YtbdljoldblpffaaGreat.blk G → k < la ∨ ha ≤ k) ∧ ∀ k, k ∈ b :: bs → k < la ∨ ha ≤ k
theorem BoxH.on {lo b : Nat} {bs : List Nat} {p t r : Int} {os : List Ob} {xs : List Int} {g c : Nat} {G : Value} {w w' : World} (h : BoxH lo b bs p t r os xs g c G w) (hb : Below w.heap.size w w') : BoxH lo b bs p t r os xs g c G w' := by
  obtain ⟨fs, rest, la, ha, h1, h2, h3, h4, h5, h6⟩ := h.got
  exact ⟨keep h.box hb, h.low, ownI_more h.own hb, h.not, fs, rest, la, ha, h1, h2.on hb, h3, Nat.le_trans h4 hb.size, h5, h6⟩
theorem BoxH.ints {lo b : Nat} {bs : List Nat} {p t r : Int} {os : List Ob} {xs : List Int} {g c : Nat} {G : Value} {w : World} (h : BoxH lo b bs p t r os xs g c G w) : IsInts w G xs := h.own.ints
theorem BoxH.arena {lo b : Nat} {bs : List Nat} {p t r : Int} {os : List Ob} {xs : List Int} {g c : Nat} {G : Value} {w : World} (h : BoxH lo b bs p t r os xs g c G w) : IsArena w (.slice (some ⟨g, 0, none⟩) os.length c) os := by
  obtain ⟨fs, rest, la, ha, h1, h2, _⟩ := h.got
  exact own_is h1 h2
/-- A copy is laid into a box. -/
theorem GotH.boxed {lo : Nat} {p t r : Int} {os : List Ob} {xs : List Int} {g c : Nat} {G : Value} {w1 : World} (h : GotH lo w1.heap.size os xs (.slice (some ⟨g, 0, none⟩) os.length c) G w1) (hl : lo ≤ w1.heap.size) : BoxH lo w1.heap.size [] p t r os xs g c G (w1.alloc (boxH (.slice (some ⟨g, 0, none⟩) os.length c) p t r G)) := by
  obtain ⟨g', c', fs, rest, la, ha, e, h2, h3, h4, h5, h6, h7, h8⟩ := h
  simp at e
  obtain ⟨rfl, rfl⟩ := e
  have hb := below_alloc w1 (boxH (.slice (some ⟨g, 0, none⟩) os.length c) p t r G)
  exact ⟨heap_alloc_new w1 _, hl, ownI_more h4 hb, fun k hk hm => by simp at hk; subst hk; have := (h4.blk hm).2.1; omega, fs, rest, la, ha, h2, h3.on hb, h6, Nat.le_trans h8 hb.size, h5, fun k hk => by simp at hk; subst hk; exact .inr h8⟩
/-- It is answered. -/
theorem BoxH.answer {lo b : Nat} {bs : List Nat} {p t r : Int} {os : List Ob} {xs : List Int} {g c : Nat} {G : Value} {w : World} (h : BoxH lo b bs p t r os xs g c G w) {R : Nat} (hR : R < lo) (a : Value) (p' t' r' : Int) (v : Value) {l0 : Nat} (h0 : l0 ≤ lo) : GotH l0 (wq5 w R 0 a p' t' r' v).heap.size os xs (.slice (some ⟨g, 0, none⟩) os.length c) G (wq5 w R 0 a p' t' r' v) := by
  obtain ⟨fs, rest, la, ha, h1, h2, h3, h4, h5, h6⟩ := h.got
  rw [size_wq5]
  exact ⟨g, c, fs, rest, la, ha, rfl, h1, h2.keepIn (fun k x hk hx => heap_wq5_other hx (by omega) _ _ _ _ _ _), h.own.move (fun k x hk _ hx => heap_wq5_other hx (by omega) _ _ _ _ _ _) h0 (Nat.le_refl _), h5, by omega, h4, by rw [size_wq5]; exact h4⟩
/-- A thing of it is marked, or not. -/
theorem BoxH.mark {lo b : Nat} {bs : List Nat} {p t r : Int} {os : List Ob} {xs : List Int} {g c : Nat} {G : Value} {w : World} (h : BoxH lo b bs p t r os xs g c G w) {k : Nat} (hk : k < os.length) (v : Bool) :
    BoxH lo b bs p t r (os.set k (marked (obAt os k) v)) xs g c G (w.setCell ⟨g, k * 13 + 9, none⟩ (.bool v)) := by
  obtain ⟨fs, rest, la, ha, h1, h2, h3, h4, h5, h6⟩ := h.got
  have hfl : k < fs.length := by rw [← arOf_length, h1]; exact hk
  have hog : (elAt fs k).o = obAt os k := by rw [← h1, arOf_at]
  have hgl := h2.lo
  have hgh := h2.hi
  have hm := h2.bendV hfl 9 (.bool v) (marked (obAt os k) v) (by decide) (by rw [hog]; exact ⟨rfl, rfl, rfl⟩) (by simp [elV, marked, hog])
  have hbg : b ≠ g := by have := h6 b (by simp); omega
  refine ⟨?_, h.low, ?_, h.not, _, rest, la, ha, ?_, hm, h3, by simpa using h4, h5, h6⟩
  · rw [List.length_set]; exact setCell_keep h.box hbg
  · have e : OwnI lo w.heap.size (w.setCell ⟨g, k * 13 + 9, none⟩ (.bool v)) G xs := h.own.keepIf fun b' x hb' hx => setCell_keep (g := g) hx (by have := h5 b' hb'; omega)
    simpa using e
  · rw [arOf_set, h1]
theorem BoxH.below {lo b : Nat} {bs : List Nat} {p t r : Int} {os : List Ob} {xs : List Int} {g c : Nat} {G : Value} {w : World} (h : BoxH lo b bs p t r os xs g c G w) {B : Nat} {w0 : World} (hB : B ≤ lo) (hb : Below B w0 w) (o : Nat) (v : Value) : Below B w0 (w.setCell ⟨g, o, none⟩ v) := by
  obtain ⟨fs, rest, la, ha, h1, h2, h3, _⟩ := h.got
  exact hb.setCell (by show B ≤ g; have := h2.lo; omega) v
/-- Where the mark of a thing lies. -/
theorem BoxH.at {lo b : Nat} {bs : List Nat} {p t r : Int} {os : List Ob} {xs : List Int} {g c : Nat} {G : Value} {w : World} (h : BoxH lo b bs p t r os xs g c G w) {k : Nat} (hk : k < os.length) : ∃ l d m, ObCells w ⟨g, k * 13, none⟩ (obAt os k) l d m ∧ (∀ i, w.frozen? ⟨g, i, none⟩ = false) ∧ Lists w l d m (obAt os k) := by
  obtain ⟨fs, rest, la, ha, h1, h2, _⟩ := h.got
  have hfl : k < fs.length := by rw [← arOf_length, h1]; exact hk
  have hog : (elAt fs k).o = obAt os k := by rw [← h1, arOf_at]
  refine ⟨(elAt fs k).l, (elAt fs k).d, (elAt fs k).m, ?_, fun i => h2.free i, ?_⟩
  · rw [← hog]; exact h2.cells hfl
  · rw [← hog]; exact (h2.own k hfl).lists
end Go.Proofs.YtbdljoldblpffaaGreat
namespace Go.Proofs.YtbdljoldblpffaaGreat
open Go.RowKit
set_option linter.unusedVariables false
set_option maxRecDepth 100000

theorem ar_at {w : World} {pa : Addr} {c n : Nat} {os : List Ob} (h : IsArena w (.slice (some pa) n c) os) {k : Nat} (hk : k < os.length) : ∃ q l d m, pa.add (k * 13) = q ∧ ObCells w q (obAt os k) l d m := by
  obtain ⟨p, q, l, d, m, e1, e2, e3, _⟩ := h.at hk
  cases e1
  exact ⟨q, l, d, m, e2, e3⟩
/-- Is a thing there to be marked? -/
def bornB (os : List Ob) (p t r : Int) (xs : List Int) (i : Int) : Bool := heapOk os p t r xs && (inB i 0 9 && !((obAt os i.toNat).kind == 0))
def bornOf (os : List Ob) (p t r : Int) (xs : List Int) (i : Int) : List Ob := if bornB os p t r xs i then os.set i.toNat (marked (obAt os i.toNat) (decide (t ≤ i))) else os
theorem bornOf_length (os : List Ob) (p t r : Int) (xs : List Int) (i : Int) : (bornOf os p t r xs i).length = os.length := by unfold bornOf; split <;> simp
theorem heapOk_ten {os : List Ob} {p t r : Int} {xs : List Int} (h : heapOk os p t r xs = true) : os.length = 10 := by
  unfold heapOk at h
  simp only [Bool.and_eq_true] at h
  have h1 := h.1
  unfold arenaOk at h1
  simp only [Bool.and_eq_true, decide_eq_true_eq] at h1
  exact h1.1
theorem heapOk_at {os : List Ob} {t r : Int} {xs : List Int} (h : heapOk os 0 t r xs = true) : t = 0 := by
  unfold heapOk rightB at h
  simp at h
  exact h.2.2.1.1
/-- The answer of a call that lays its result into its own cell. -/
structure EndH (w : World) (b : Nat) (p t r : Int) (os : List Ob) (xs : List Int) (g c : Nat) (G : Value) (wz : World) : Prop where
  base : Below w.heap.size w wz
  bx : BoxH (w.heap.size + 1 + 1) b [] p t r os xs g c G wz
  par : ∃ v0 v1 v2 v3 v4, wz.heap[w.heap.size]? = some (.cells #[v0, v1, v2, v3, v4] 32 (0, 0))
  res : ∃ v0 v1 v2 v3 v4, wz.heap[w.heap.size + 1]? = some (.cells #[v0, v1, v2, v3, v4] 32 (0, 0))
theorem EndH.on {w : World} {b : Nat} {p t r : Int} {os : List Ob} {xs : List Int} {g c : Nat} {G : Value} {wz w' : World} (h : EndH w b p t r os xs g c G wz) (hb : Below wz.heap.size wz w') : EndH w b p t r os xs g c G w' := by
  obtain ⟨_, _, _, _, _, h1⟩ := h.par
  obtain ⟨_, _, _, _, _, h2⟩ := h.res
  exact ⟨below_more h.base hb, h.bx.on hb, ⟨_, _, _, _, _, keep h1 hb⟩, ⟨_, _, _, _, _, keep h2 hb⟩⟩
theorem EndH.mark {w : World} {b : Nat} {p t r : Int} {os : List Ob} {xs : List Int} {g c : Nat} {G : Value} {wz : World} (h : EndH w b p t r os xs g c G wz) {k : Nat} (hk : k < os.length) (v : Bool) : EndH w b p t r (os.set k (marked (obAt os k) v)) xs g c G (wz.setCell ⟨g, k * 13 + 9, none⟩ (.bool v)) := by
  obtain ⟨_, _, _, _, _, h1⟩ := h.par
  obtain ⟨_, _, _, _, _, h2⟩ := h.res
  have hg : w.heap.size + 1 + 1 ≤ g := by
    obtain ⟨fs, rest, la, ha, _, h2, h3, _⟩ := h.bx.got
    have := h2.lo
    omega
  exact ⟨h.bx.below (by omega) h.base _ _, h.bx.mark hk v, ⟨_, _, _, _, _, setCell_keep h1 (by omega)⟩, ⟨_, _, _, _, _, setCell_keep h2 (by omega)⟩⟩
theorem EndH.ans {w : World} {b : Nat} {p t r : Int} {os : List Ob} {xs : List Int} {g c : Nat} {G : Value} {wz : World} (h : EndH w b p t r os xs g c G wz) (p' t' r' : Int) : (wq5 wz (w.heap.size + 1) 0 (.slice (some ⟨g, 0, none⟩) os.length c) p' t' r' G).heap[w.heap.size + 1]? = some (boxH (.slice (some ⟨g, 0, none⟩) os.length c) p' t' r' G) ∧ GotH w.heap.size (wq5 wz (w.heap.size + 1) 0 (.slice (some ⟨g, 0, none⟩) os.length c) p' t' r' G).heap.size os xs (.slice (some ⟨g, 0, none⟩) os.length c) G (wq5 wz (w.heap.size + 1) 0 (.slice (some ⟨g, 0, none⟩) os.length c) p' t' r' G) ∧ Below w.heap.size w (wq5 wz (w.heap.size + 1) 0 (.slice (some ⟨g, 0, none⟩) os.length c) p' t' r' G) := by
  obtain ⟨_, _, _, _, _, h2⟩ := h.res
  exact ⟨heap_wq5_new h2 _ _ _ _ _, h.bx.answer (by omega) _ _ _ _ _ (by omega), below_wq5 h.base (by omega) 0 _ _ _ _ _⟩
/-- Behind the copy. -/
theorem EndH.made {w w1 : World} {p t r : Int} {A0 G0 : Value} {os : List Ob} {xs : List Int} {g c : Nat} {G : Value} (hb : Below ((w.alloc (boxH A0 p t r G0)).alloc (boxH (.slice none 0 0) 0 0 0 (.slice none 0 0))).heap.size ((w.alloc (boxH A0 p t r G0)).alloc (boxH (.slice none 0 0) 0 0 0 (.slice none 0 0))) w1) (h : GotH ((w.alloc (boxH A0 p t r G0)).alloc (boxH (.slice none 0 0) 0 0 0 (.slice none 0 0))).heap.size w1.heap.size os xs (.slice (some ⟨g, 0, none⟩) os.length c) G w1) :
    EndH w w1.heap.size p t r os xs g c G (w1.alloc (boxH (.slice (some ⟨g, 0, none⟩) os.length c) p t r G)) ∧ (w1.alloc (boxH (.slice (some ⟨g, 0, none⟩) os.length c) p t r G)).heap[w.heap.size]? = some (boxH A0 p t r G0) := by
  have e0 : ((w.alloc (boxH A0 p t r G0)).alloc (boxH (.slice none 0 0) 0 0 0 (.slice none 0 0))).heap[w.heap.size]? = some (boxH A0 p t r G0) := (heap_alloc_old _ _ (by simp)).trans (heap_alloc_new w _)
  have e1 : ((w.alloc (boxH A0 p t r G0)).alloc (boxH (.slice none 0 0) 0 0 0 (.slice none 0 0))).heap[w.heap.size + 1]? = some (boxH (.slice none 0 0) 0 0 0 (.slice none 0 0)) := heap_alloc_at0 w _ _
  have es : ((w.alloc (boxH A0 p t r G0)).alloc (boxH (.slice none 0 0) 0 0 0 (.slice none 0 0))).heap.size = w.heap.size + 1 + 1 := by simp
  have e2 : Below w.heap.size w ((w.alloc (boxH A0 p t r G0)).alloc (boxH (.slice none 0 0) 0 0 0 (.slice none 0 0))) := ((below_alloc w _)).trans ((below_alloc _ _).mono (by simp))
  have hal := below_alloc w1 (boxH (.slice (some ⟨g, 0, none⟩) os.length c) p t r G)
  refine ⟨⟨?_, ?_, ⟨_, _, _, _, _, keep (keep e0 hb) hal⟩, ⟨_, _, _, _, _, keep (keep e1 hb) hal⟩⟩, keep (keep e0 hb) hal⟩
  · exact below_more (below_more e2 hb) hal
  · rw [es] at h
    exact h.boxed (by have := hb.size; omega)
set_option maxHeartbeats 8000000 in
theorem implBorn_no (pa : Addr) (c : Nat) (p t r : Int) (G : Value) (os : List Ob) (xs : List Int) (i : Int) (w : World) (ha : IsArena w (.slice (some pa) os.length c) os) (hx : IsInts w G xs) (hl : os.length ≤ 1048576) (hs : Small8 os) (hn : xs.length ≤ 1048576) (h1 : heapOk os p t r xs = false) :
    Calls Tryz.prog 15 #[hpV (.slice (some pa) os.length c) p t r G, .int .i64 i] w fun e w' => AnsH p t r os xs w e w' := by
  have CC : Hid (∀ w', Below w.heap.size w w' → Calls Tryz.prog 28 #[hpV (.slice (some pa) os.length c) p t r G] w' fun e w'' => AnsH p t r os xs w' e w'') := fun w' hb => cloneHeap_any pa c p t r G os xs w' (ha.on hb) (hx.on hb) hl hs hn
  have CO : Hid (∀ w', Below w.heap.size w w' → Calls Tryz.prog 29 #[hpV (.slice (some pa) os.length c) p t r G] w' fun e w'' => e = .returned (.bool (heapOk os p t r xs)) ∧ Below w'.heap.size w' w'') := fun w' hb => implHeapOk_any _ p t r _ os xs w' (ha.on hb) (hx.on hb) hl hs hn
  have CS := fun w => isSlot_b i w
  rw [h1] at CO
  obtain ⟨ag, cg, rfl, _, _⟩ := id hx
  clear ha hx hl hs hn h1
  go_enter Tryz.func15, Tryz.ntmps15
  go_wp2_with fail
  refine (CC.out _ (by go_grown)).mono ?_
  rintro e w1 ⟨⟨A1, G1, rfl, hgot⟩, hb⟩
  obtain ⟨g1, c1, u1, d1, rfl, rfl⟩ := hgot.form
  have HE := hid_of (EndH.made hb hgot)
  clear hb hgot CC
  obtain ⟨i0, i1, i2, i3, i4⟩ := cells5 HE.out.2
  obtain ⟨W1, hW1⟩ : ∃ W1, W1 = w1.alloc (boxH (.slice (some ⟨g1, 0, none⟩) os.length c1) p t r (.slice u1 xs.length d1)) := ⟨_, rfl⟩
  go_wp2_with fail
  clear i0 i1 i2 i3 i4
  rw [← hW1] at HE ⊢
  obtain ⟨b, hbb⟩ : ∃ b, b = w1.heap.size := ⟨_, rfl⟩
  rw [← hbb] at HE ⊢
  clear hbb hW1
  refine (CO.out _ HE.out.1.base).mono ?_
  rintro e w2 ⟨rfl, hb⟩
  have HE2 := hid_of (HE.out.1.on hb)
  have HP2 := hid_of (keep HE.out.2 hb)
  clear hb CO HE
  clear CS
  obtain ⟨k0, k1, k2, k3, k4⟩ := cells5 HE2.out.bx.box
  have kf := frozen_of HE2.out.bx.box
  obtain ⟨r0, r1, r2, r3, r4, hrs⟩ := HE2.out.res
  obtain ⟨m0, m1, m2, m3, m4⟩ := cells5 hrs
  have mf := frozen_of hrs
  clear hrs
  go_wp2
  have HA := hid_of (HE2.out.ans p t r)
  clear k0 k1 k2 k3 k4 kf m0 m1 m2 m3 m4 mf
  show bodyPost _ _ _ _ _ (wq5 _ (w.heap.size + 1) 0 (.slice (some ⟨g1, 0, none⟩) os.length c1) p t r (.slice u1 xs.length d1))
  refine bodyPost_ret (v := hpV (.slice (some ⟨g1, 0, none⟩) os.length c1) p t r (.slice u1 xs.length d1)) (by have e := HA.out.1; simp [results, go_sem, World.cell?, e]) rfl ⟨⟨_, _, rfl, HA.out.2.1⟩, HA.out.2.2⟩
set_option maxHeartbeats 8000000 in
theorem implBorn_slot (pa : Addr) (c : Nat) (p t r : Int) (G : Value) (os : List Ob) (xs : List Int) (i : Int) (w : World) (ha : IsArena w (.slice (some pa) os.length c) os) (hx : IsInts w G xs) (hl : os.length ≤ 1048576) (hs : Small8 os) (hn : xs.length ≤ 1048576) (h1 : heapOk os p t r xs = true) (h2 : inB i 0 9 = false) :
    Calls Tryz.prog 15 #[hpV (.slice (some pa) os.length c) p t r G, .int .i64 i] w fun e w' => AnsH p t r os xs w e w' := by
  have CC : Hid (∀ w', Below w.heap.size w w' → Calls Tryz.prog 28 #[hpV (.slice (some pa) os.length c) p t r G] w' fun e w'' => AnsH p t r os xs w' e w'') := fun w' hb => cloneHeap_any pa c p t r G os xs w' (ha.on hb) (hx.on hb) hl hs hn
  have CO : Hid (∀ w', Below w.heap.size w w' → Calls Tryz.prog 29 #[hpV (.slice (some pa) os.length c) p t r G] w' fun e w'' => e = .returned (.bool (heapOk os p t r xs)) ∧ Below w'.heap.size w' w'') := fun w' hb => implHeapOk_any _ p t r _ os xs w' (ha.on hb) (hx.on hb) hl hs hn
  have CS := fun w => isSlot_b i w
  rw [h1] at CO
  rw [h2] at CS
  obtain ⟨ag, cg, rfl, _, _⟩ := id hx
  clear ha hx hl hs hn h1 h2
  go_enter Tryz.func15, Tryz.ntmps15
  go_wp2_with fail
  refine (CC.out _ (by go_grown)).mono ?_
  rintro e w1 ⟨⟨A1, G1, rfl, hgot⟩, hb⟩
  obtain ⟨g1, c1, u1, d1, rfl, rfl⟩ := hgot.form
  have HE := hid_of (EndH.made hb hgot)
  clear hb hgot CC
  obtain ⟨i0, i1, i2, i3, i4⟩ := cells5 HE.out.2
  obtain ⟨W1, hW1⟩ : ∃ W1, W1 = w1.alloc (boxH (.slice (some ⟨g1, 0, none⟩) os.length c1) p t r (.slice u1 xs.length d1)) := ⟨_, rfl⟩
  go_wp2_with fail
  clear i0 i1 i2 i3 i4
  rw [← hW1] at HE ⊢
  obtain ⟨b, hbb⟩ : ∃ b, b = w1.heap.size := ⟨_, rfl⟩
  rw [← hbb] at HE ⊢
  clear hbb hW1
  refine (CO.out _ HE.out.1.base).mono ?_
  rintro e w2 ⟨rfl, hb⟩
  have HE2 := hid_of (HE.out.1.on hb)
  have HP2 := hid_of (keep HE.out.2 hb)
  clear hb CO HE
  go_wp2_with fail
  refine (CS _).mono ?_
  rintro e w3 ⟨rfl, rfl⟩
  clear CS
  obtain ⟨k0, k1, k2, k3, k4⟩ := cells5 HE2.out.bx.box
  have kf := frozen_of HE2.out.bx.box
  obtain ⟨r0, r1, r2, r3, r4, hrs⟩ := HE2.out.res
  obtain ⟨m0, m1, m2, m3, m4⟩ := cells5 hrs
  have mf := frozen_of hrs
  clear hrs
  go_wp2
  have HA := hid_of (HE2.out.ans p t r)
  clear k0 k1 k2 k3 k4 kf m0 m1 m2 m3 m4 mf
  show bodyPost _ _ _ _ _ (wq5 _ (w.heap.size + 1) 0 (.slice (some ⟨g1, 0, none⟩) os.length c1) p t r (.slice u1 xs.length d1))
  refine bodyPost_ret (v := hpV (.slice (some ⟨g1, 0, none⟩) os.length c1) p t r (.slice u1 xs.length d1)) (by have e := HA.out.1; simp [results, go_sem, World.cell?, e]) rfl ⟨⟨_, _, rfl, HA.out.2.1⟩, HA.out.2.2⟩
set_option maxHeartbeats 8000000 in
theorem implBorn_none (pa : Addr) (c : Nat) (p t r : Int) (G : Value) (os : List Ob) (xs : List Int) (i : Int) (w : World) (ha : IsArena w (.slice (some pa) os.length c) os) (hx : IsInts w G xs) (hl : os.length ≤ 1048576) (hs : Small8 os) (hn : xs.length ≤ 1048576) (h1 : heapOk os p t r xs = true) (h2 : inB i 0 9 = true) (h3 : (obAt os i.toNat).kind = 0) :
    Calls Tryz.prog 15 #[hpV (.slice (some pa) os.length c) p t r G, .int .i64 i] w fun e w' => AnsH p t r os xs w e w' := by
  have CC : Hid (∀ w', Below w.heap.size w w' → Calls Tryz.prog 28 #[hpV (.slice (some pa) os.length c) p t r G] w' fun e w'' => AnsH p t r os xs w' e w'') := fun w' hb => cloneHeap_any pa c p t r G os xs w' (ha.on hb) (hx.on hb) hl hs hn
  have CO : Hid (∀ w', Below w.heap.size w w' → Calls Tryz.prog 29 #[hpV (.slice (some pa) os.length c) p t r G] w' fun e w'' => e = .returned (.bool (heapOk os p t r xs)) ∧ Below w'.heap.size w' w'') := fun w' hb => implHeapOk_any _ p t r _ os xs w' (ha.on hb) (hx.on hb) hl hs hn
  have CS := fun w => isSlot_b i w
  rw [h1] at CO
  rw [h2] at CS
  obtain ⟨k, rfl⟩ : ∃ k : Nat, i = (k : Int) := ⟨i.toNat, by have := inB_true h2; omega⟩
  have hk10 : k < os.length := by have := inB_true h2; have := heapOk_ten h1; omega
  have hkz : (k : Int) < (os.length : Int) := by omega
  rw [Int.toNat_natCast] at h3
  have HAT : Hid (∀ w', Below w.heap.size w w' → ∃ q l d m, pa.add (k * 13) = q ∧ ObCells w' q (obAt os k) l d m) := fun w' hb => ar_at (ha.on hb) hk10
  have n3 : ((obAt os k).kind != 0) = false := by simp [h3]
  obtain ⟨ag, cg, rfl, _, _⟩ := id hx
  clear ha hx hl hs hn h1 h2
  go_enter Tryz.func15, Tryz.ntmps15
  go_wp2_with fail
  refine (CC.out _ (by go_grown)).mono ?_
  rintro e w1 ⟨⟨A1, G1, rfl, hgot⟩, hb⟩
  obtain ⟨g1, c1, u1, d1, rfl, rfl⟩ := hgot.form
  have HE := hid_of (EndH.made hb hgot)
  clear hb hgot CC
  obtain ⟨i0, i1, i2, i3, i4⟩ := cells5 HE.out.2
  obtain ⟨W1, hW1⟩ : ∃ W1, W1 = w1.alloc (boxH (.slice (some ⟨g1, 0, none⟩) os.length c1) p t r (.slice u1 xs.length d1)) := ⟨_, rfl⟩
  go_wp2_with fail
  clear i0 i1 i2 i3 i4
  rw [← hW1] at HE ⊢
  obtain ⟨b, hbb⟩ : ∃ b, b = w1.heap.size := ⟨_, rfl⟩
  rw [← hbb] at HE ⊢
  clear hbb hW1
  refine (CO.out _ HE.out.1.base).mono ?_
  rintro e w2 ⟨rfl, hb⟩
  have HE2 := hid_of (HE.out.1.on hb)
  have HP2 := hid_of (keep HE.out.2 hb)
  clear hb CO HE
  go_wp2_with fail
  refine (CS _).mono ?_
  rintro e w3 ⟨rfl, rfl⟩
  clear CS
  obtain ⟨q, l, d, m, hq, hc⟩ := HAT.out _ HE2.out.base
  obtain ⟨j0, j1, j2, j3, j4⟩ := cells5 HP2.out
  have c1' := hc.c1
  rw [h3] at c1'
  clear h3 hc HAT
  obtain ⟨k0, k1, k2, k3, k4⟩ := cells5 HE2.out.bx.box
  have kf := frozen_of HE2.out.bx.box
  obtain ⟨r0, r1, r2, r3, r4, hrs⟩ := HE2.out.res
  obtain ⟨m0, m1, m2, m3, m4⟩ := cells5 hrs
  have mf := frozen_of hrs
  clear hrs
  go_wp2
  have HA := hid_of (HE2.out.ans p t r)
  clear j0 j1 j2 j3 j4 k0 k1 k2 k3 k4 kf m0 m1 m2 m3 m4 mf
  show bodyPost _ _ _ _ _ (wq5 _ (w.heap.size + 1) 0 (.slice (some ⟨g1, 0, none⟩) os.length c1) p t r (.slice u1 xs.length d1))
  refine bodyPost_ret (v := hpV (.slice (some ⟨g1, 0, none⟩) os.length c1) p t r (.slice u1 xs.length d1)) (by have e := HA.out.1; simp [results, go_sem, World.cell?, e]) rfl ⟨⟨_, _, rfl, HA.out.2.1⟩, HA.out.2.2⟩
set_option maxHeartbeats 8000000 in
theorem implBorn_yes (pa : Addr) (c : Nat) (p t r : Int) (G : Value) (os : List Ob) (xs : List Int) (i : Int) (w : World) (ha : IsArena w (.slice (some pa) os.length c) os) (hx : IsInts w G xs) (hl : os.length ≤ 1048576) (hs : Small8 os) (hn : xs.length ≤ 1048576) (h1 : heapOk os p t r xs = true) (h2 : inB i 0 9 = true) (h3 : (obAt os i.toNat).kind ≠ 0) :
    Calls Tryz.prog 15 #[hpV (.slice (some pa) os.length c) p t r G, .int .i64 i] w fun e w' => AnsH p t r (os.set i.toNat (marked (obAt os i.toNat) (decide (t ≤ i)))) xs w e w' := by
  have CC : Hid (∀ w', Below w.heap.size w w' → Calls Tryz.prog 28 #[hpV (.slice (some pa) os.length c) p t r G] w' fun e w'' => AnsH p t r os xs w' e w'') := fun w' hb => cloneHeap_any pa c p t r G os xs w' (ha.on hb) (hx.on hb) hl hs hn
  have CO : Hid (∀ w', Below w.heap.size w w' → Calls Tryz.prog 29 #[hpV (.slice (some pa) os.length c) p t r G] w' fun e w'' => e = .returned (.bool (heapOk os p t r xs)) ∧ Below w'.heap.size w' w'') := fun w' hb => implHeapOk_any _ p t r _ os xs w' (ha.on hb) (hx.on hb) hl hs hn
  have CS := fun w => isSlot_b i w
  rw [h1] at CO
  rw [h2] at CS
  obtain ⟨k, rfl⟩ : ∃ k : Nat, i = (k : Int) := ⟨i.toNat, by have := inB_true h2; omega⟩
  have hk10 : k < os.length := by have := inB_true h2; have := heapOk_ten h1; omega
  have hkz : (k : Int) < (os.length : Int) := by omega
  rw [Int.toNat_natCast] at h3
  have HAT : Hid (∀ w', Below w.heap.size w w' → ∃ q l d m, pa.add (k * 13) = q ∧ ObCells w' q (obAt os k) l d m) := fun w' hb => ar_at (ha.on hb) hk10
  rw [Int.toNat_natCast]
  have n3 : ((obAt os k).kind != 0) = true := by simp [h3]
  have n4 : ((obAt os k).kind == 0) = false := by simp [h3]
  obtain ⟨vb, hvb⟩ : ∃ vb, vb = decide (t ≤ (k : Int)) := ⟨_, rfl⟩
  rw [← hvb]
  obtain ⟨ag, cg, rfl, _, _⟩ := id hx
  clear ha hx hl hs hn h1 h2 h3
  go_enter Tryz.func15, Tryz.ntmps15
  go_wp2_with fail
  refine (CC.out _ (by go_grown)).mono ?_
  rintro e w1 ⟨⟨A1, G1, rfl, hgot⟩, hb⟩
  obtain ⟨g1, c1, u1, d1, rfl, rfl⟩ := hgot.form
  have HE := hid_of (EndH.made hb hgot)
  clear hb hgot CC
  obtain ⟨i0, i1, i2, i3, i4⟩ := cells5 HE.out.2
  obtain ⟨W1, hW1⟩ : ∃ W1, W1 = w1.alloc (boxH (.slice (some ⟨g1, 0, none⟩) os.length c1) p t r (.slice u1 xs.length d1)) := ⟨_, rfl⟩
  go_wp2_with fail
  clear i0 i1 i2 i3 i4
  rw [← hW1] at HE ⊢
  obtain ⟨b, hbb⟩ : ∃ b, b = w1.heap.size := ⟨_, rfl⟩
  rw [← hbb] at HE ⊢
  clear hbb hW1
  refine (CO.out _ HE.out.1.base).mono ?_
  rintro e w2 ⟨rfl, hb⟩
  have HE2 := hid_of (HE.out.1.on hb)
  have HP2 := hid_of (keep HE.out.2 hb)
  clear hb CO HE
  go_wp2_with fail
  refine (CS _).mono ?_
  rintro e w3 ⟨rfl, rfl⟩
  clear CS
  obtain ⟨q, l, d, m, hq, hc⟩ := HAT.out _ HE2.out.base
  obtain ⟨j0, j1, j2, j3, j4⟩ := cells5 HP2.out
  have c1' := hc.c1
  obtain ⟨l', d', m', hc2, hff, _⟩ := HE2.out.bx.at hk10
  have c9 := hc2.c9
  have f9 := hff (k * 13 + 9)
  have HE3 : Hid (EndH w b p t r (os.set k (marked (obAt os k) vb)) xs g1 c1 (.slice u1 xs.length d1) (w2.setCell ⟨g1, k * 13 + 9, none⟩ (.bool vb))) := HE2.out.mark hk10 vb
  have HL : Hid ((os.set k (marked (obAt os k) vb)).length = os.length) := by show _ = _; simp
  generalize obAt os k = o at c1' c9 n3 n4
  clear hc hc2 hff HAT
  obtain ⟨k0, k1, k2, k3, k4⟩ := cells5 HE2.out.bx.box
  have kf := frozen_of HE2.out.bx.box
  obtain ⟨r0, r1, r2, r3, r4, hrs⟩ := HE2.out.res
  obtain ⟨m0, m1, m2, m3, m4⟩ := cells5 hrs
  have mf := frozen_of hrs
  clear hrs
  have hgb : g1 ≠ b := by
    obtain ⟨fs, rest, la, ha, _, e2, _, _, _, e6⟩ := HE2.out.bx.got
    have := e6 b (by simp)
    have := e2.lo
    have := e2.hi
    omega
  have hgr : w.heap.size + 1 < g1 := by
    obtain ⟨fs, rest, la, ha, _, e2, e3, _⟩ := HE2.out.bx.got
    have := e2.lo
    omega
  have hgb' : b ≠ g1 := Ne.symm hgb
  have hgr' : w.heap.size + 1 ≠ g1 := by omega
  have hge : decide (t ≤ (k : Int)) = vb := hvb.symm
  clear hvb
  clear HE2 HP2
  go_wp2
  have HA := hid_of (HE3.out.ans p t r)
  rw [HL.out] at HA
  clear j0 j1 j2 j3 j4 k0 k1 k2 k3 k4 kf m0 m1 m2 m3 m4 mf
  show bodyPost _ _ _ _ _ (wq5 (w2.setCell ⟨g1, k * 13 + 9, none⟩ (.bool vb)) (w.heap.size + 1) 0 (.slice (some ⟨g1, 0, none⟩) os.length c1) p t r (.slice u1 xs.length d1))
  refine bodyPost_ret (v := hpV (.slice (some ⟨g1, 0, none⟩) os.length c1) p t r (.slice u1 xs.length d1)) (by have e := HA.out.1; simp [results, go_sem, World.cell?, e]) rfl ⟨⟨_, _, rfl, HA.out.2.1⟩, HA.out.2.2⟩
theorem implBorn_any (pa : Addr) (c : Nat) (p t r : Int) (G : Value) (os : List Ob) (xs : List Int) (i : Int) (w : World) (ha : IsArena w (.slice (some pa) os.length c) os) (hx : IsInts w G xs) (hl : os.length ≤ 1048576) (hs : Small8 os) (hn : xs.length ≤ 1048576) :
    Calls Tryz.prog 15 #[hpV (.slice (some pa) os.length c) p t r G, .int .i64 i] w fun e w' => AnsH p t r (bornOf os p t r xs i) xs w e w' := by
  unfold bornOf bornB
  cases h1 : heapOk os p t r xs with
  | false => exact implBorn_no pa c p t r G os xs i w ha hx hl hs hn h1
  | true =>
    cases h2 : inB i 0 9 with
    | false => exact implBorn_slot pa c p t r G os xs i w ha hx hl hs hn h1 h2
    | true =>
      by_cases h3 : (obAt os i.toNat).kind = 0
      · have e : ((obAt os i.toNat).kind == 0) = true := by simp [h3]
        rw [e]
        exact implBorn_none pa c p t r G os xs i w ha hx hl hs hn h1 h2 h3
      · have e : ((obAt os i.toNat).kind == 0) = false := by simp [h3]
        rw [e]
        exact implBorn_yes pa c p t r G os xs i w ha hx hl hs hn h1 h2 h3
set_option maxHeartbeats 8000000 in
theorem specBorn_no (pa : Addr) (c : Nat) (p t r : Int) (pg : Addr) (cg : Nat) (os : List Ob) (xs : List Int) (i : Int) (w : World) (ha : IsArena w (.slice (some pa) os.length c) os) (hx : IsInts w (.slice (some pg) xs.length cg) xs) (hl : os.length ≤ 1048576) (hs : Small8 os) (hf : AllFit os) (hn : xs.length ≤ 1048576) (h1 : heapOk os p t r xs = false) :
    Calls Tryz.prog 14 #[hpV (.slice (some pa) os.length c) p t r (.slice (some pg) xs.length cg), .int .i64 i] w fun e w' => AnsH p t r os xs w e w' := by
  have CC : Hid (∀ w', Below w.heap.size w w' → Calls Tryz.prog 22 #[hpV (.slice (some pa) os.length c) p t r (.slice (some pg) xs.length cg)] w' fun e w'' => AnsH p t r os xs w' e w'') := fun w' hb => specCopyH_any pa c p t r pg cg os xs w' (ha.on hb) (hx.on hb) hl hs hn
  have CO : Hid (∀ w', Below w.heap.size w w' → Calls Tryz.prog 23 #[hpV (.slice (some pa) os.length c) p t r (.slice (some pg) xs.length cg)] w' fun e w'' => e = .returned (.bool (heapOk os p t r xs)) ∧ Below w'.heap.size w' w'') := fun w' hb => specHeapOk_any _ p t r _ os xs w' (ha.on hb) (hx.on hb) hl hs hf hn
  have CS := fun w => specSlot_b i w
  rw [h1] at CO
  clear ha hx hl hs hn hf h1
  go_enter Tryz.func14, Tryz.ntmps14
  go_wp2_with fail
  refine (CC.out _ (by go_grown)).mono ?_
  rintro e w1 ⟨⟨A1, G1, rfl, hgot⟩, hb⟩
  obtain ⟨g1, c1, u1, d1, rfl, rfl⟩ := hgot.form
  have HE := hid_of (EndH.made hb hgot)
  clear hb hgot CC
  obtain ⟨i0, i1, i2, i3, i4⟩ := cells5 HE.out.2
  obtain ⟨W1, hW1⟩ : ∃ W1, W1 = w1.alloc (boxH (.slice (some ⟨g1, 0, none⟩) os.length c1) p t r (.slice u1 xs.length d1)) := ⟨_, rfl⟩
  go_wp2_with fail
  clear i0 i1 i2 i3 i4
  rw [← hW1] at HE ⊢
  obtain ⟨b, hbb⟩ : ∃ b, b = w1.heap.size := ⟨_, rfl⟩
  rw [← hbb] at HE ⊢
  clear hbb hW1
  refine (CO.out _ HE.out.1.base).mono ?_
  rintro e w2 ⟨rfl, hb⟩
  have HE2 := hid_of (HE.out.1.on hb)
  have HP2 := hid_of (keep HE.out.2 hb)
  clear hb CO HE
  clear CS
  obtain ⟨k0, k1, k2, k3, k4⟩ := cells5 HE2.out.bx.box
  have kf := frozen_of HE2.out.bx.box
  obtain ⟨r0, r1, r2, r3, r4, hrs⟩ := HE2.out.res
  obtain ⟨m0, m1, m2, m3, m4⟩ := cells5 hrs
  have mf := frozen_of hrs
  clear hrs
  go_wp2
  have HA := hid_of (HE2.out.ans p t r)
  clear k0 k1 k2 k3 k4 kf m0 m1 m2 m3 m4 mf
  show bodyPost _ _ _ _ _ (wq5 _ (w.heap.size + 1) 0 (.slice (some ⟨g1, 0, none⟩) os.length c1) p t r (.slice u1 xs.length d1))
  refine bodyPost_ret (v := hpV (.slice (some ⟨g1, 0, none⟩) os.length c1) p t r (.slice u1 xs.length d1)) (by have e := HA.out.1; simp [results, go_sem, World.cell?, e]) rfl ⟨⟨_, _, rfl, HA.out.2.1⟩, HA.out.2.2⟩
set_option maxHeartbeats 8000000 in
theorem specBorn_slot (pa : Addr) (c : Nat) (p t r : Int) (pg : Addr) (cg : Nat) (os : List Ob) (xs : List Int) (i : Int) (w : World) (ha : IsArena w (.slice (some pa) os.length c) os) (hx : IsInts w (.slice (some pg) xs.length cg) xs) (hl : os.length ≤ 1048576) (hs : Small8 os) (hf : AllFit os) (hn : xs.length ≤ 1048576) (h1 : heapOk os p t r xs = true) (h2 : inB i 0 9 = false) :
    Calls Tryz.prog 14 #[hpV (.slice (some pa) os.length c) p t r (.slice (some pg) xs.length cg), .int .i64 i] w fun e w' => AnsH p t r os xs w e w' := by
  have CC : Hid (∀ w', Below w.heap.size w w' → Calls Tryz.prog 22 #[hpV (.slice (some pa) os.length c) p t r (.slice (some pg) xs.length cg)] w' fun e w'' => AnsH p t r os xs w' e w'') := fun w' hb => specCopyH_any pa c p t r pg cg os xs w' (ha.on hb) (hx.on hb) hl hs hn
  have CO : Hid (∀ w', Below w.heap.size w w' → Calls Tryz.prog 23 #[hpV (.slice (some pa) os.length c) p t r (.slice (some pg) xs.length cg)] w' fun e w'' => e = .returned (.bool (heapOk os p t r xs)) ∧ Below w'.heap.size w' w'') := fun w' hb => specHeapOk_any _ p t r _ os xs w' (ha.on hb) (hx.on hb) hl hs hf hn
  have CS := fun w => specSlot_b i w
  rw [h1] at CO
  rw [h2] at CS
  clear ha hx hl hs hn hf h1 h2
  go_enter Tryz.func14, Tryz.ntmps14
  go_wp2_with fail
  refine (CC.out _ (by go_grown)).mono ?_
  rintro e w1 ⟨⟨A1, G1, rfl, hgot⟩, hb⟩
  obtain ⟨g1, c1, u1, d1, rfl, rfl⟩ := hgot.form
  have HE := hid_of (EndH.made hb hgot)
  clear hb hgot CC
  obtain ⟨i0, i1, i2, i3, i4⟩ := cells5 HE.out.2
  obtain ⟨W1, hW1⟩ : ∃ W1, W1 = w1.alloc (boxH (.slice (some ⟨g1, 0, none⟩) os.length c1) p t r (.slice u1 xs.length d1)) := ⟨_, rfl⟩
  go_wp2_with fail
  clear i0 i1 i2 i3 i4
  rw [← hW1] at HE ⊢
  obtain ⟨b, hbb⟩ : ∃ b, b = w1.heap.size := ⟨_, rfl⟩
  rw [← hbb] at HE ⊢
  clear hbb hW1
  refine (CO.out _ HE.out.1.base).mono ?_
  rintro e w2 ⟨rfl, hb⟩
  have HE2 := hid_of (HE.out.1.on hb)
  have HP2 := hid_of (keep HE.out.2 hb)
  clear hb CO HE
  go_wp2_with fail
  refine (CS _).mono ?_
  rintro e w3 ⟨rfl, rfl⟩
  clear CS
  obtain ⟨k0, k1, k2, k3, k4⟩ := cells5 HE2.out.bx.box
  have kf := frozen_of HE2.out.bx.box
  obtain ⟨r0, r1, r2, r3, r4, hrs⟩ := HE2.out.res
  obtain ⟨m0, m1, m2, m3, m4⟩ := cells5 hrs
  have mf := frozen_of hrs
  clear hrs
  go_wp2
  have HA := hid_of (HE2.out.ans p t r)
  clear k0 k1 k2 k3 k4 kf m0 m1 m2 m3 m4 mf
  show bodyPost _ _ _ _ _ (wq5 _ (w.heap.size + 1) 0 (.slice (some ⟨g1, 0, none⟩) os.length c1) p t r (.slice u1 xs.length d1))
  refine bodyPost_ret (v := hpV (.slice (some ⟨g1, 0, none⟩) os.length c1) p t r (.slice u1 xs.length d1)) (by have e := HA.out.1; simp [results, go_sem, World.cell?, e]) rfl ⟨⟨_, _, rfl, HA.out.2.1⟩, HA.out.2.2⟩
set_option maxHeartbeats 8000000 in
theorem specBorn_none (pa : Addr) (c : Nat) (p t r : Int) (pg : Addr) (cg : Nat) (os : List Ob) (xs : List Int) (i : Int) (w : World) (ha : IsArena w (.slice (some pa) os.length c) os) (hx : IsInts w (.slice (some pg) xs.length cg) xs) (hl : os.length ≤ 1048576) (hs : Small8 os) (hf : AllFit os) (hn : xs.length ≤ 1048576) (h1 : heapOk os p t r xs = true) (h2 : inB i 0 9 = true) (h3 : (obAt os i.toNat).kind = 0) :
    Calls Tryz.prog 14 #[hpV (.slice (some pa) os.length c) p t r (.slice (some pg) xs.length cg), .int .i64 i] w fun e w' => AnsH p t r os xs w e w' := by
  have CC : Hid (∀ w', Below w.heap.size w w' → Calls Tryz.prog 22 #[hpV (.slice (some pa) os.length c) p t r (.slice (some pg) xs.length cg)] w' fun e w'' => AnsH p t r os xs w' e w'') := fun w' hb => specCopyH_any pa c p t r pg cg os xs w' (ha.on hb) (hx.on hb) hl hs hn
  have CO : Hid (∀ w', Below w.heap.size w w' → Calls Tryz.prog 23 #[hpV (.slice (some pa) os.length c) p t r (.slice (some pg) xs.length cg)] w' fun e w'' => e = .returned (.bool (heapOk os p t r xs)) ∧ Below w'.heap.size w' w'') := fun w' hb => specHeapOk_any _ p t r _ os xs w' (ha.on hb) (hx.on hb) hl hs hf hn
  have CS := fun w => specSlot_b i w
  rw [h1] at CO
  rw [h2] at CS
  obtain ⟨k, rfl⟩ : ∃ k : Nat, i = (k : Int) := ⟨i.toNat, by have := inB_true h2; omega⟩
  have hk10 : k < os.length := by have := inB_true h2; have := heapOk_ten h1; omega
  have hkz : (k : Int) < (os.length : Int) := by omega
  rw [Int.toNat_natCast] at h3
  have HAT : Hid (∀ w', Below w.heap.size w w' → ∃ q l d m, pa.add (k * 13) = q ∧ ObCells w' q (obAt os k) l d m) := fun w' hb => ar_at (ha.on hb) hk10
  have n3 : ((obAt os k).kind != 0) = false := by simp [h3]
  clear ha hx hl hs hn hf h1 h2
  go_enter Tryz.func14, Tryz.ntmps14
  go_wp2_with fail
  refine (CC.out _ (by go_grown)).mono ?_
  rintro e w1 ⟨⟨A1, G1, rfl, hgot⟩, hb⟩
  obtain ⟨g1, c1, u1, d1, rfl, rfl⟩ := hgot.form
  have HE := hid_of (EndH.made hb hgot)
  clear hb hgot CC
  obtain ⟨i0, i1, i2, i3, i4⟩ := cells5 HE.out.2
  obtain ⟨W1, hW1⟩ : ∃ W1, W1 = w1.alloc (boxH (.slice (some ⟨g1, 0, none⟩) os.length c1) p t r (.slice u1 xs.length d1)) := ⟨_, rfl⟩
  go_wp2_with fail
  clear i0 i1 i2 i3 i4
  rw [← hW1] at HE ⊢
  obtain ⟨b, hbb⟩ : ∃ b, b = w1.heap.size := ⟨_, rfl⟩
  rw [← hbb] at HE ⊢
  clear hbb hW1
  refine (CO.out _ HE.out.1.base).mono ?_
  rintro e w2 ⟨rfl, hb⟩
  have HE2 := hid_of (HE.out.1.on hb)
  have HP2 := hid_of (keep HE.out.2 hb)
  clear hb CO HE
  go_wp2_with fail
  refine (CS _).mono ?_
  rintro e w3 ⟨rfl, rfl⟩
  clear CS
  obtain ⟨q, l, d, m, hq, hc⟩ := HAT.out _ HE2.out.base
  obtain ⟨j0, j1, j2, j3, j4⟩ := cells5 HP2.out
  have c1' := hc.c1
  rw [h3] at c1'
  clear h3 hc HAT
  obtain ⟨k0, k1, k2, k3, k4⟩ := cells5 HE2.out.bx.box
  have kf := frozen_of HE2.out.bx.box
  obtain ⟨r0, r1, r2, r3, r4, hrs⟩ := HE2.out.res
  obtain ⟨m0, m1, m2, m3, m4⟩ := cells5 hrs
  have mf := frozen_of hrs
  clear hrs
  go_wp2
  have HA := hid_of (HE2.out.ans p t r)
  clear j0 j1 j2 j3 j4 k0 k1 k2 k3 k4 kf m0 m1 m2 m3 m4 mf
  show bodyPost _ _ _ _ _ (wq5 _ (w.heap.size + 1) 0 (.slice (some ⟨g1, 0, none⟩) os.length c1) p t r (.slice u1 xs.length d1))
  refine bodyPost_ret (v := hpV (.slice (some ⟨g1, 0, none⟩) os.length c1) p t r (.slice u1 xs.length d1)) (by have e := HA.out.1; simp [results, go_sem, World.cell?, e]) rfl ⟨⟨_, _, rfl, HA.out.2.1⟩, HA.out.2.2⟩
set_option maxHeartbeats 8000000 in
theorem specBorn_yes (pa : Addr) (c : Nat) (p t r : Int) (pg : Addr) (cg : Nat) (os : List Ob) (xs : List Int) (i : Int) (w : World) (ha : IsArena w (.slice (some pa) os.length c) os) (hx : IsInts w (.slice (some pg) xs.length cg) xs) (hl : os.length ≤ 1048576) (hs : Small8 os) (hf : AllFit os) (hn : xs.length ≤ 1048576) (h1 : heapOk os p t r xs = true) (h2 : inB i 0 9 = true) (h3 : (obAt os i.toNat).kind ≠ 0) :
    Calls Tryz.prog 14 #[hpV (.slice (some pa) os.length c) p t r (.slice (some pg) xs.length cg), .int .i64 i] w fun e w' => AnsH p t r (os.set i.toNat (marked (obAt os i.toNat) (decide (t ≤ i)))) xs w e w' := by
  have CC : Hid (∀ w', Below w.heap.size w w' → Calls Tryz.prog 22 #[hpV (.slice (some pa) os.length c) p t r (.slice (some pg) xs.length cg)] w' fun e w'' => AnsH p t r os xs w' e w'') := fun w' hb => specCopyH_any pa c p t r pg cg os xs w' (ha.on hb) (hx.on hb) hl hs hn
  have CO : Hid (∀ w', Below w.heap.size w w' → Calls Tryz.prog 23 #[hpV (.slice (some pa) os.length c) p t r (.slice (some pg) xs.length cg)] w' fun e w'' => e = .returned (.bool (heapOk os p t r xs)) ∧ Below w'.heap.size w' w'') := fun w' hb => specHeapOk_any _ p t r _ os xs w' (ha.on hb) (hx.on hb) hl hs hf hn
  have CS := fun w => specSlot_b i w
  rw [h1] at CO
  rw [h2] at CS
  obtain ⟨k, rfl⟩ : ∃ k : Nat, i = (k : Int) := ⟨i.toNat, by have := inB_true h2; omega⟩
  have hk10 : k < os.length := by have := inB_true h2; have := heapOk_ten h1; omega
  have hkz : (k : Int) < (os.length : Int) := by omega
  rw [Int.toNat_natCast] at h3
  have HAT : Hid (∀ w', Below w.heap.size w w' → ∃ q l d m, pa.add (k * 13) = q ∧ ObCells w' q (obAt os k) l d m) := fun w' hb => ar_at (ha.on hb) hk10
  rw [Int.toNat_natCast]
  have n3 : ((obAt os k).kind != 0) = true := by simp [h3]
  have n4 : ((obAt os k).kind == 0) = false := by simp [h3]
  obtain ⟨vb, hvb⟩ : ∃ vb, vb = decide (t ≤ (k : Int)) := ⟨_, rfl⟩
  rw [← hvb]
  have HP : Hid (p = 0 → vb = true) := fun e => by subst e; have := heapOk_at h1; subst this; rw [hvb]; simp
  clear ha hx hl hs hn hf h1 h2 h3
  go_enter Tryz.func14, Tryz.ntmps14
  go_wp2_with fail
  refine (CC.out _ (by go_grown)).mono ?_
  rintro e w1 ⟨⟨A1, G1, rfl, hgot⟩, hb⟩
  obtain ⟨g1, c1, u1, d1, rfl, rfl⟩ := hgot.form
  have HE := hid_of (EndH.made hb hgot)
  clear hb hgot CC
  obtain ⟨i0, i1, i2, i3, i4⟩ := cells5 HE.out.2
  obtain ⟨W1, hW1⟩ : ∃ W1, W1 = w1.alloc (boxH (.slice (some ⟨g1, 0, none⟩) os.length c1) p t r (.slice u1 xs.length d1)) := ⟨_, rfl⟩
  go_wp2_with fail
  clear i0 i1 i2 i3 i4
  rw [← hW1] at HE ⊢
  obtain ⟨b, hbb⟩ : ∃ b, b = w1.heap.size := ⟨_, rfl⟩
  rw [← hbb] at HE ⊢
  clear hbb hW1
  refine (CO.out _ HE.out.1.base).mono ?_
  rintro e w2 ⟨rfl, hb⟩
  have HE2 := hid_of (HE.out.1.on hb)
  have HP2 := hid_of (keep HE.out.2 hb)
  clear hb CO HE
  go_wp2_with fail
  refine (CS _).mono ?_
  rintro e w3 ⟨rfl, rfl⟩
  clear CS
  obtain ⟨q, l, d, m, hq, hc⟩ := HAT.out _ HE2.out.base
  obtain ⟨j0, j1, j2, j3, j4⟩ := cells5 HP2.out
  have c1' := hc.c1
  obtain ⟨l', d', m', hc2, hff, _⟩ := HE2.out.bx.at hk10
  have c9 := hc2.c9
  have f9 := hff (k * 13 + 9)
  have HE3 : Hid (EndH w b p t r (os.set k (marked (obAt os k) vb)) xs g1 c1 (.slice u1 xs.length d1) (w2.setCell ⟨g1, k * 13 + 9, none⟩ (.bool vb))) := HE2.out.mark hk10 vb
  have HL : Hid ((os.set k (marked (obAt os k) vb)).length = os.length) := by show _ = _; simp
  generalize obAt os k = o at c1' c9 n3 n4
  clear hc hc2 hff HAT
  obtain ⟨k0, k1, k2, k3, k4⟩ := cells5 HE2.out.bx.box
  have kf := frozen_of HE2.out.bx.box
  obtain ⟨r0, r1, r2, r3, r4, hrs⟩ := HE2.out.res
  obtain ⟨m0, m1, m2, m3, m4⟩ := cells5 hrs
  have mf := frozen_of hrs
  clear hrs
  have hgb : g1 ≠ b := by
    obtain ⟨fs, rest, la, ha, _, e2, _, _, _, e6⟩ := HE2.out.bx.got
    have := e6 b (by simp)
    have := e2.lo
    have := e2.hi
    omega
  have hgr : w.heap.size + 1 < g1 := by
    obtain ⟨fs, rest, la, ha, _, e2, e3, _⟩ := HE2.out.bx.got
    have := e2.lo
    omega
  have hgb' : b ≠ g1 := Ne.symm hgb
  have hgr' : w.heap.size + 1 ≠ g1 := by omega
  clear HE2 HP2
  by_cases hp : p = 0
  · subst hp
    obtain rfl := HP.out rfl
    clear HP hvb
    go_wp2
    have HA := hid_of (HE3.out.ans 0 t r)
    rw [HL.out] at HA
    clear j0 j1 j2 j3 j4 k0 k1 k2 k3 k4 kf m0 m1 m2 m3 m4 mf
    show bodyPost _ _ _ _ _ (wq5 (w2.setCell ⟨g1, k * 13 + 9, none⟩ (.bool true)) (w.heap.size + 1) 0 (.slice (some ⟨g1, 0, none⟩) os.length c1) 0 t r (.slice u1 xs.length d1))
    refine bodyPost_ret (v := hpV (.slice (some ⟨g1, 0, none⟩) os.length c1) 0 t r (.slice u1 xs.length d1)) (by have e := HA.out.1; simp [results, go_sem, World.cell?, e]) rfl ⟨⟨_, _, rfl, HA.out.2.1⟩, HA.out.2.2⟩
  · have hp2 : (p == 0) = false := by simp [hp]
    have hge : decide (t ≤ (k : Int)) = vb := hvb.symm
    clear HP hvb
    go_wp2
    have HA := hid_of (HE3.out.ans p t r)
    rw [HL.out] at HA
    clear j0 j1 j2 j3 j4 k0 k1 k2 k3 k4 kf m0 m1 m2 m3 m4 mf
    show bodyPost _ _ _ _ _ (wq5 (w2.setCell ⟨g1, k * 13 + 9, none⟩ (.bool vb)) (w.heap.size + 1) 0 (.slice (some ⟨g1, 0, none⟩) os.length c1) p t r (.slice u1 xs.length d1))
    refine bodyPost_ret (v := hpV (.slice (some ⟨g1, 0, none⟩) os.length c1) p t r (.slice u1 xs.length d1)) (by have e := HA.out.1; simp [results, go_sem, World.cell?, e]) rfl ⟨⟨_, _, rfl, HA.out.2.1⟩, HA.out.2.2⟩
theorem specBorn_any (pa : Addr) (c : Nat) (p t r : Int) (pg : Addr) (cg : Nat) (os : List Ob) (xs : List Int) (i : Int) (w : World) (ha : IsArena w (.slice (some pa) os.length c) os) (hx : IsInts w (.slice (some pg) xs.length cg) xs) (hl : os.length ≤ 1048576) (hs : Small8 os) (hf : AllFit os) (hn : xs.length ≤ 1048576) :
    Calls Tryz.prog 14 #[hpV (.slice (some pa) os.length c) p t r (.slice (some pg) xs.length cg), .int .i64 i] w fun e w' => AnsH p t r (bornOf os p t r xs i) xs w e w' := by
  unfold bornOf bornB
  cases h1 : heapOk os p t r xs with
  | false => exact specBorn_no pa c p t r pg cg os xs i w ha hx hl hs hf hn h1
  | true =>
    cases h2 : inB i 0 9 with
    | false => exact specBorn_slot pa c p t r pg cg os xs i w ha hx hl hs hf hn h1 h2
    | true =>
      by_cases h3 : (obAt os i.toNat).kind = 0
      · have e : ((obAt os i.toNat).kind == 0) = true := by simp [h3]
        rw [e]
        exact specBorn_none pa c p t r pg cg os xs i w ha hx hl hs hf hn h1 h2 h3
      · have e : ((obAt os i.toNat).kind == 0) = false := by simp [h3]
        rw [e]
        exact specBorn_yes pa c p t r pg cg os xs i w ha hx hl hs hf hn h1 h2 h3
end Go.Proofs.YtbdljoldblpffaaGreat
