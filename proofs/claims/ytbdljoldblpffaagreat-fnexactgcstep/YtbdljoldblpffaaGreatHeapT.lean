/-
  Heaps: the laws' own copies, their size, two alike.
-/
import Derived.Test.YtbdljoldblpffaaGreatArT
namespace Go.Proofs.YtbdljoldblpffaaGreat
open Go.RowKit
set_option linter.unusedVariables false
set_option maxRecDepth 100000

/-- A heap: its things, and what the collector knows. -/
structure Hp where
  os : List Ob
  ph : Int
  pos : Int
  rd : Int
  gr : List Int
abbrev gcV (p t r : Int) (g : Value) : Value := .agg #[.int .i64 p, .int .i64 t, .int .i64 r, g]
abbrev hpV (a : Value) (p t r : Int) (g : Value) : Value := .agg #[a, .int .i64 p, .int .i64 t, .int .i64 r, g]
abbrev boxG (p t r : Int) (g : Value) : Obj := .cells #[.int .i64 p, .int .i64 t, .int .i64 r, g] 30 (0, 0)
abbrev boxGL (p t r : Int) (g : Value) : Obj := .cells #[.int .i64 p, .int .i64 t, .int .i64 r, g] 25 (0, 0)
abbrev boxH (a : Value) (p t r : Int) (g : Value) : Obj := .cells #[a, .int .i64 p, .int .i64 t, .int .i64 r, g] 32 (0, 0)
abbrev boxHL (a : Value) (p t r : Int) (g : Value) : Obj := .cells #[a, .int .i64 p, .int .i64 t, .int .i64 r, g] 27 (0, 0)
/-- How much a heap holds. -/
def hpN (os : List Ob) (gr : List Int) : Nat := os.length + arN os + gr.length
theorem szGc_any (p t r : Int) (g : Value) (xs : List Int) (left : Int) (w : World) (hx : IsInts w g xs) (h0 : 0 ≤ left) (h1 : left ≤ 1048576) (n1 : xs.length ≤ 9223372036854775807) :
    Calls Tryz.prog 21 #[gcV p t r g, .int .i64 left] w fun e w' => e = .returned (.int .i64 (szOf left xs.length)) ∧ Below w.heap.size w w' := by
  obtain ⟨a, c, rfl, _, _⟩ := hx
  have C := fun w => szIntS_any a xs.length c left w h0 h1 n1
  by_cases hl : (xs.length : Int) ≤ left
  · rw [szOf_yes hl] at C ⊢
    have hn : ¬ (left - (xs.length : Int) < 0) := by omega
    go_enter Tryz.func21, Tryz.ntmps21
    go_wp2_with fail
    refine (C _).mono ?_
    rintro e w1 ⟨rfl, rfl⟩
    go_wp2
    go_ret
    exact ⟨rfl, by go_grown⟩
  · rw [szOf_no hl] at C ⊢
    go_enter Tryz.func21, Tryz.ntmps21
    go_wp2_with fail
    refine (C _).mono ?_
    rintro e w1 ⟨rfl, rfl⟩
    go_wp2
    go_ret
    exact ⟨rfl, by go_grown⟩
theorem szHeap_any (a : Value) (p t r : Int) (g : Value) (os : List Ob) (xs : List Int) (left : Int) (w : World) (ha : IsArena w a os) (hx : IsInts w g xs) (h0 : 0 ≤ left) (h1 : left ≤ 1048576) (n0 : os.length ≤ 9223372036854775807) (hm : Wide os) (n1 : xs.length ≤ 9223372036854775807) :
    Calls Tryz.prog 7 #[hpV a p t r g, .int .i64 left] w fun e w' => e = .returned (.int .i64 (szOf left (hpN os xs))) ∧ Below w.heap.size w w' := by
  have CA : Hid (∀ w', Below w.heap.size w w' → _) := fun w' (hb : Below w.heap.size w w') => szObjS_any a os left w' (ha.on hb) h0 h1 n0 hm
  obtain ⟨aa, ca, rfl, _, _⟩ := ha
  by_cases hl : ((os.length : Int) + arN os) ≤ left
  · rw [szA_yes hl] at CA
    have hn : ¬ (left - (os.length : Int) - (arN os : Int) < 0) := by omega
    have CG : Hid (∀ w', Below w.heap.size w w' → _) := fun w' (hb : Below w.heap.size w w') => szGc_any p t r g xs (left - os.length - arN os) w' (hx.on hb) (by omega) (by omega) n1
    obtain ⟨ag, cg, rfl, _, _⟩ := hx
    by_cases hl2 : (xs.length : Int) ≤ left - os.length - arN os
    · rw [szOf_yes hl2] at CG
      have E : szOf left (hpN os xs) = left - os.length - arN os - xs.length := by rw [szOf_yes (by unfold hpN; omega)]; unfold hpN; omega
      rw [E]
      clear E
      have hn2 : ¬ (left - (os.length : Int) - (arN os : Int) - (xs.length : Int) < 0) := by omega
      go_enter Tryz.func7, Tryz.ntmps7
      go_wp2_with fail
      refine (CA.out _ (by go_grown)).mono ?_
      rintro e w1 ⟨rfl, hb1⟩
      obtain ⟨hc1, hf1⟩ := bcell hb1
      have HB1 : Hid (Below w.heap.size w w1) := below_more (by go_grown) hb1
      clear hb1 CA
      go_wp2_with fail
      refine (CG.out _ HB1.out).mono ?_
      rintro e w2 ⟨rfl, hb2⟩
      have HB2 : Hid (Below w.heap.size w w2) := below_more HB1.out hb2
      clear hb2 CG HB1 hc1 hf1
      go_wp2
      go_ret
      exact ⟨rfl, HB2.out⟩
    · rw [szOf_no hl2] at CG
      have E : szOf left (hpN os xs) = -1 := szOf_no (by unfold hpN; omega)
      rw [E]
      clear E
      go_enter Tryz.func7, Tryz.ntmps7
      go_wp2_with fail
      refine (CA.out _ (by go_grown)).mono ?_
      rintro e w1 ⟨rfl, hb1⟩
      obtain ⟨hc1, hf1⟩ := bcell hb1
      have HB1 : Hid (Below w.heap.size w w1) := below_more (by go_grown) hb1
      clear hb1 CA
      go_wp2_with fail
      refine (CG.out _ HB1.out).mono ?_
      rintro e w2 ⟨rfl, hb2⟩
      have HB2 : Hid (Below w.heap.size w w2) := below_more HB1.out hb2
      clear hb2 CG HB1 hc1 hf1
      go_wp2
      go_ret
      exact ⟨rfl, HB2.out⟩
  · rw [szA_no hl] at CA
    have E : szOf left (hpN os xs) = -1 := szOf_no (by unfold hpN; omega)
    rw [E]
    clear E
    obtain ⟨ag, cg, rfl, _, _⟩ := hx
    go_enter Tryz.func7, Tryz.ntmps7
    go_wp2_with fail
    refine (CA.out _ (by go_grown)).mono ?_
    rintro e w1 ⟨rfl, hb1⟩
    have HB1 : Hid (Below w.heap.size w w1) := below_more (by go_grown) hb1
    clear hb1 CA
    go_wp2
    go_ret
    exact ⟨rfl, HB1.out⟩
theorem eqGc_same (p t r : Int) (g u : Value) (xs : List Int) (w : World) (hx : IsInts w g xs) (hy : IsInts w u xs) (hn : xs.length ≤ 1048576) :
    Calls Tryz.prog 33 #[gcV p t r g, gcV p t r u] w fun e w' => e = .returned (.bool true) ∧ Below w.heap.size w w' := by
  have CL : Hid (∀ w', Below w.heap.size w w' → _) := fun w' (hb : Below w.heap.size w w') => eqIntS_any g u xs xs w' (hx.on hb) (hy.on hb) hn
  simp only [sameInts_refl] at CL
  obtain ⟨a, c, rfl, _, _⟩ := hx
  obtain ⟨b, k, rfl, _, _⟩ := hy
  clear hn
  have hne : ∀ x : Int, (x != x) = false := by simp
  go_enter Tryz.func33, Tryz.ntmps33
  go_wp2_with fail
  refine (CL.out _ (by go_grown)).mono ?_
  rintro e w1 ⟨rfl, hb1⟩
  have HB1 : Hid (Below w.heap.size w w1) := below_more (by go_grown) hb1
  clear hb1 CL
  go_wp2
  go_ret
  exact ⟨rfl, HB1.out⟩
theorem eqHeap_same (a b : Value) (p t r : Int) (g u : Value) (os : List Ob) (xs : List Int) (w : World) (ha : IsArena w a os) (hb : IsArena w b os) (hx : IsInts w g xs) (hy : IsInts w u xs) (hl : os.length ≤ 1048576) (hs : ∀ i, obN (obAt os i) ≤ 1048576) (hn : xs.length ≤ 1048576) :
    Calls Tryz.prog 11 #[hpV a p t r g, hpV b p t r u] w fun e w' => e = .returned (.bool true) ∧ Below w.heap.size w w' := by
  have CA : Hid (∀ w', Below w.heap.size w w' → _) := fun w' (h : Below w.heap.size w w') => eqObjS_same a b os w' (ha.on h) (hb.on h) hl hs
  have CG : Hid (∀ w', Below w.heap.size w w' → _) := fun w' (h : Below w.heap.size w w') => eqGc_same p t r g u xs w' (hx.on h) (hy.on h) hn
  obtain ⟨aa, ca, rfl, _, _⟩ := ha
  obtain ⟨ab, cb, rfl, _, _⟩ := hb
  obtain ⟨ag, cg, rfl, _, _⟩ := hx
  obtain ⟨au, cu, rfl, _, _⟩ := hy
  clear hn hl hs
  go_enter Tryz.func11, Tryz.ntmps11
  go_wp2_with fail
  refine (CA.out _ (by go_grown)).mono ?_
  rintro e w1 ⟨rfl, hb1⟩
  obtain ⟨hc1, hf1⟩ := bcell hb1
  have hz1 := hb1.size
  have y10 : w.heap.size < w1.heap.size := by simp at hz1; omega
  have y11 : w.heap.size + 1 < w1.heap.size := by simp at hz1; omega
  have HB1 : Hid (Below w.heap.size w w1) := below_more (by go_grown) hb1
  clear hb1 CA
  go_wp2_with fail
  refine (CG.out _ HB1.out).mono ?_
  rintro e w2 ⟨rfl, hb2⟩
  have HB2 : Hid (Below w.heap.size w w2) := below_more HB1.out hb2
  clear hb2 CG HB1 hc1 hf1
  go_wp2
  go_ret
  exact ⟨rfl, HB2.out⟩
theorem heap_alloc_at2 (w : World) (A B C : Obj) : (((w.alloc A).alloc B).alloc C).heap[w.heap.size + 1 + 1]? = some C := by
  have h := heap_alloc_new ((w.alloc A).alloc B) C
  simpa using h
theorem OwnA.setOther {g cap : Nat} {es : List El} {rest : List Value} {lo hi : Nat} {w : World} (h : OwnA g cap es rest lo hi w) {b o : Nat} {v : Value} (hb : b < lo ∨ hi ≤ b) : OwnA g cap es rest lo hi (w.setCell ⟨b, o, none⟩ v) :=
  ⟨setCell_keep h.at' (by have := h.lo; have := h.hi; omega), h.cap, h.lo, h.hi, fun i hi' => (h.own i hi').move (fun b' x h1 h2 hx => setCell_keep hx (by omega)) (Nat.le_refl _) (Nat.le_refl _), h.ne, h.apart⟩
theorem OwnA.keepIn {g cap : Nat} {es : List El} {rest : List Value} {lo hi : Nat} {w w' : World} (h : OwnA g cap es rest lo hi w) (hk : ∀ k x, lo ≤ k → w.heap[k]? = some x → w'.heap[k]? = some x) : OwnA g cap es rest lo hi w' :=
  ⟨hk _ _ h.lo h.at', h.cap, h.lo, h.hi, fun i hi' => (h.own i hi').move (fun b' x h1 _ hx => hk b' x h1 hx) (Nat.le_refl _) (Nat.le_refl _), h.ne, h.apart⟩
/-- Four cells are written. -/
def wq4 (w : World) (g i : Nat) (p t r : Int) (u : Value) : World := ((((w).setCell ⟨g, i, none⟩ (.int .i64 p)).setCell ⟨g, i + 1, none⟩ (.int .i64 t)).setCell ⟨g, i + 2, none⟩ (.int .i64 r)).setCell ⟨g, i + 3, none⟩ (u)
theorem heap_wq4_new {w : World} {g : Nat} {ty : TypeId} {b0 b1 b2 b3 : Value} (h : w.heap[g]? = some (.cells #[b0, b1, b2, b3] ty (0, 0))) (p t r : Int) (u : Value) : (wq4 w g 0 p t r u).heap[g]? = some (.cells #[.int .i64 p, .int .i64 t, .int .i64 r, u] ty (0, 0)) := by
  have h0 := heap_setCell_same _ g 0 _ ty (.int .i64 p) h
  have h1 := heap_setCell_same _ g (0 + 1) _ ty (.int .i64 t) h0
  have h2 := heap_setCell_same _ g (0 + 2) _ ty (.int .i64 r) h1
  have h3 := heap_setCell_same _ g (0 + 3) _ ty (u) h2
  unfold wq4
  rw [h3]
  simp
theorem heap_wq4_other {w : World} {g k : Nat} {x : Obj} (h : w.heap[k]? = some x) (hne : k ≠ g) (i : Nat) (p t r : Int) (u : Value) : (wq4 w g i p t r u).heap[k]? = some x := (setCell_keep (setCell_keep (setCell_keep (setCell_keep h hne) hne) hne) hne)
theorem below_wq4 {B : Nat} {w w' : World} (h : Below B w w') {g : Nat} (hg : B ≤ g) (i : Nat) (p t r : Int) (u : Value) : Below B w (wq4 w' g i p t r u) := (Below.setCell (Below.setCell (Below.setCell (Below.setCell h hg _) hg _) hg _) hg _)
theorem size_wq4 (w : World) (g i : Nat) (p t r : Int) (u : Value) : (wq4 w g i p t r u).heap.size = w.heap.size := by unfold wq4; simp
/-- Five cells are written. -/
def wq5 (w : World) (g i : Nat) (a : Value) (p t r : Int) (u : Value) : World := (((((w).setCell ⟨g, i, none⟩ (a)).setCell ⟨g, i + 1, none⟩ (.int .i64 p)).setCell ⟨g, i + 2, none⟩ (.int .i64 t)).setCell ⟨g, i + 3, none⟩ (.int .i64 r)).setCell ⟨g, i + 4, none⟩ (u)
theorem heap_wq5_new {w : World} {g : Nat} {ty : TypeId} {b0 b1 b2 b3 b4 : Value} (h : w.heap[g]? = some (.cells #[b0, b1, b2, b3, b4] ty (0, 0))) (a : Value) (p t r : Int) (u : Value) : (wq5 w g 0 a p t r u).heap[g]? = some (.cells #[a, .int .i64 p, .int .i64 t, .int .i64 r, u] ty (0, 0)) := by
  have h0 := heap_setCell_same _ g 0 _ ty (a) h
  have h1 := heap_setCell_same _ g (0 + 1) _ ty (.int .i64 p) h0
  have h2 := heap_setCell_same _ g (0 + 2) _ ty (.int .i64 t) h1
  have h3 := heap_setCell_same _ g (0 + 3) _ ty (.int .i64 r) h2
  have h4 := heap_setCell_same _ g (0 + 4) _ ty (u) h3
  unfold wq5
  rw [h4]
  simp
theorem heap_wq5_other {w : World} {g k : Nat} {x : Obj} (h : w.heap[k]? = some x) (hne : k ≠ g) (i : Nat) (a : Value) (p t r : Int) (u : Value) : (wq5 w g i a p t r u).heap[k]? = some x := (setCell_keep (setCell_keep (setCell_keep (setCell_keep (setCell_keep h hne) hne) hne) hne) hne)
theorem below_wq5 {B : Nat} {w w' : World} (h : Below B w w') {g : Nat} (hg : B ≤ g) (i : Nat) (a : Value) (p t r : Int) (u : Value) : Below B w (wq5 w' g i a p t r u) := (Below.setCell (Below.setCell (Below.setCell (Below.setCell (Below.setCell h hg _) hg _) hg _) hg _) hg _)
theorem size_wq5 (w : World) (g i : Nat) (a : Value) (p t r : Int) (u : Value) : (wq5 w g i a p t r u).heap.size = w.heap.size := by unfold wq5; simp
set_option maxHeartbeats 4000000 in
theorem toGc_any (p t r : Int) (g : Value) (xs : List Int) (w : World) (hx : IsInts w g xs) (hn : xs.length ≤ 1048576) :
    Calls Tryz.prog 27 #[gcV p t r g] w fun e w' => (∃ gu : Nat, e = .returned (gcV p t r (.slice (some ⟨gu, 0, none⟩) xs.length xs.length)) ∧ OwnI w.heap.size w'.heap.size w' (.slice (some ⟨gu, 0, none⟩) xs.length xs.length) xs) ∧ Below w.heap.size w w' := by
  have CL : Hid (∀ w', Below w.heap.size w w' → _) := fun w' (hb : Below w.heap.size w w') => toIntS_any g xs w' (hx.on hb) hn
  obtain ⟨a, c, rfl, _, _⟩ := hx
  have HNN : Hid (xs.length ≤ maxLen) := by simp only [maxLen]; show _ ≤ _; omega
  clear hn
  go_enter Tryz.func27, Tryz.ntmps27
  go_wp2_with fail
  refine (CL.out _ (by go_grown)).mono ?_
  rintro e w1 ⟨rfl, hr1, hb1⟩
  have HR1 := hid_of (show RowIn w1 (w.heap.size + 1 + 1 + 1) xs [] by simpa using hr1)
  have hz1 : w.heap.size + 1 + 1 + 1 < w1.heap.size := lt_of_block HR1.out
  have y10 : w.heap.size < w1.heap.size := by omega
  have y11 : w.heap.size + 1 < w1.heap.size := by omega
  have y12 : w.heap.size + 1 + 1 < w1.heap.size := by omega
  have HZ1 := hid_of (keep (show _ = some (Obj.cells #[.int .i64 0, .int .i64 0, .int .i64 0, .slice none 0 0] 30 (0, 0)) from heap_alloc_at1 _ _ _ _) hb1)
  obtain ⟨hc1, hf1⟩ := bcell hb1
  have HB1 : Hid (Below w.heap.size w w1) := below_more (by go_grown) hb1
  clear hb1 CL hr1
  go_wp2
  obtain ⟨u, hu⟩ : ∃ u, u = Value.slice (some ⟨w.heap.size + 1 + 1 + 1, 0, none⟩) xs.length xs.length := ⟨_, rfl⟩
  show bodyPost _ _ _ _ _ (wq4 (w1.setCell ⟨w.heap.size + 1 + 1, 3, none⟩ (.slice (some ⟨w.heap.size + 1 + 1 + 1, 0, none⟩) xs.length xs.length)) (w.heap.size + 1) 0 p t r (.slice (some ⟨w.heap.size + 1 + 1 + 1, 0, none⟩) xs.length xs.length))
  clear hc1 hf1
  have hfin := heap_wq4_new (setCell_keep (g := w.heap.size + 1 + 1) (o := 3) (v := .slice (some ⟨w.heap.size + 1 + 1 + 1, 0, none⟩) xs.length xs.length) HZ1.out (by omega)) p t r (.slice (some ⟨w.heap.size + 1 + 1 + 1, 0, none⟩) xs.length xs.length)
  have hrow : (wq4 (w1.setCell ⟨w.heap.size + 1 + 1, 3, none⟩ (.slice (some ⟨w.heap.size + 1 + 1 + 1, 0, none⟩) xs.length xs.length)) (w.heap.size + 1) 0 p t r (.slice (some ⟨w.heap.size + 1 + 1 + 1, 0, none⟩) xs.length xs.length)).heap[w.heap.size + 1 + 1 + 1]? = _ := heap_wq4_other (setCell_keep HR1.out (by omega)) (by omega) _ _ _ _ _
  have hB4 := below_wq4 (HB1.out.setCell (p := ⟨w.heap.size + 1 + 1, 3, none⟩) (by show w.heap.size ≤ w.heap.size + 1 + 1; omega) (.slice (some ⟨w.heap.size + 1 + 1 + 1, 0, none⟩) xs.length xs.length)) (g := w.heap.size + 1) (by omega) 0 p t r (.slice (some ⟨w.heap.size + 1 + 1 + 1, 0, none⟩) xs.length xs.length)
  have hz4 := size_wq4 (w1.setCell ⟨w.heap.size + 1 + 1, 3, none⟩ (.slice (some ⟨w.heap.size + 1 + 1 + 1, 0, none⟩) xs.length xs.length)) (w.heap.size + 1) 0 p t r (.slice (some ⟨w.heap.size + 1 + 1 + 1, 0, none⟩) xs.length xs.length)
  rw [show (w1.setCell ⟨w.heap.size + 1 + 1, 3, none⟩ (.slice (some ⟨w.heap.size + 1 + 1 + 1, 0, none⟩) xs.length xs.length)).heap.size = w1.heap.size by simp] at hz4
  generalize wq4 (w1.setCell ⟨w.heap.size + 1 + 1, 3, none⟩ (.slice (some ⟨w.heap.size + 1 + 1 + 1, 0, none⟩) xs.length xs.length)) (w.heap.size + 1) 0 p t r (.slice (some ⟨w.heap.size + 1 + 1 + 1, 0, none⟩) xs.length xs.length) = W at hfin hrow hB4 hz4 ⊢
  refine bodyPost_ret (v := gcV p t r (.slice (some ⟨w.heap.size + 1 + 1 + 1, 0, none⟩) xs.length xs.length)) (by simp [results, go_sem, World.cell?, hfin]) rfl ⟨⟨_, rfl, ?_⟩, hB4⟩
  exact RowIn.own (rs := []) hrow (by omega) (by omega) (Nat.le_refl _) rfl HNN.out
set_option maxHeartbeats 4000000 in
theorem toHeap_any (a : Value) (p t r : Int) (g : Value) (os : List Ob) (xs : List Int) (w : World) (ha : IsArena w a os) (hx : IsInts w g xs) (hl : os.length ≤ 1048576) (hs : ∀ i, obN (obAt os i) ≤ 1048576) (hn : xs.length ≤ 1048576) :
    Calls Tryz.prog 9 #[hpV a p t r g] w fun e w' => (∃ b m gu : Nat, e = .returned (hpV (.slice (some ⟨b, 0, none⟩) os.length os.length) p t r (.slice (some ⟨gu, 0, none⟩) xs.length xs.length)) ∧ (∃ fs, arOf fs = os ∧ OwnA b os.length fs [] w.heap.size m w') ∧ OwnI m w'.heap.size w' (.slice (some ⟨gu, 0, none⟩) xs.length xs.length) xs ∧ w.heap.size ≤ m ∧ m ≤ w'.heap.size) ∧ Below w.heap.size w w' := by
  have CA : Hid (∀ w', Below w.heap.size w w' → _) := fun w' (hb : Below w.heap.size w w') => toObjS_any a os w' (ha.on hb) hl hs
  have CG : Hid (∀ w', Below w.heap.size w w' → _) := fun w' (hb : Below w.heap.size w w') => toGc_any p t r g xs w' (hx.on hb) hn
  obtain ⟨aa, ca, rfl, _, _⟩ := ha
  obtain ⟨ag, cg, rfl, _, _⟩ := hx
  clear hn hl hs
  go_enter Tryz.func9, Tryz.ntmps9
  go_wp2_with fail
  refine (CA.out _ (by go_grown)).mono ?_
  rintro e w1 ⟨rfl, ho1, hb1⟩
  have HO1 : Hid (∃ fs, arOf fs = os ∧ OwnA (w.heap.size + 1 + 1 + 1) os.length fs [] (w.heap.size + 1 + 1 + 1) w1.heap.size w1) := by simp at ho1; exact ho1
  have hz1 : w.heap.size + 1 + 1 + 1 < w1.heap.size := by
    obtain ⟨fs, _, h⟩ := HO1.out
    exact lt_of_block h.at'
  have y10 : w.heap.size < w1.heap.size := by omega
  have y11 : w.heap.size + 1 < w1.heap.size := by omega
  have y12 : w.heap.size + 1 + 1 < w1.heap.size := by omega
  have HZ1 := hid_of (keep (show _ = some (Obj.cells #[.slice none 0 0, .int .i64 0, .int .i64 0, .int .i64 0, .slice none 0 0] 32 (0, 0)) from heap_alloc_at1 _ _ _ _) hb1)
  have HY1 := hid_of (keep (show _ = some (Obj.cells #[.slice none 0 0, .int .i64 0, .int .i64 0, .int .i64 0, .slice none 0 0] 32 (0, 0)) from heap_alloc_at2 _ _ _ _) hb1)
  obtain ⟨hc1, hf1⟩ := bcell hb1
  have HB1 : Hid (Below w.heap.size w w1) := below_more (by go_grown) hb1
  clear hb1 CA ho1
  go_wp2_with fail
  refine (CG.out _ (HB1.out.setCell (by show _ ≤ _; first | omega | (simp; done) | (simp; omega)) _)).mono ?_
  rintro e w2 ⟨⟨gu, rfl, ho2⟩, hb2⟩
  have hs1 : (w1.setCell ⟨w.heap.size + 1 + 1, 0, none⟩ (.slice (some ⟨w.heap.size + 1 + 1 + 1, 0, none⟩) os.length os.length)).heap.size = w1.heap.size := by simp
  have hz2 : w1.heap.size ≤ w2.heap.size := by have := hb2.size; rw [hs1] at this; exact this
  obtain ⟨hc2', hf2'⟩ := bcell hb2
  have hc2 := fun b o (h : b < w1.heap.size) => hc2' b o (by simpa using h)
  have hf2 := fun b o (h : b < w1.heap.size) => hf2' b o (by simpa using h)
  clear hc2' hf2'
  have y20 : w.heap.size < w2.heap.size := by omega
  have y21 : w.heap.size + 1 < w2.heap.size := by omega
  have y22 : w.heap.size + 1 + 1 < w2.heap.size := by omega
  have HB2 : Hid (Below w.heap.size w w2) := below_more (HB1.out.setCell (by show _ ≤ _; first | omega | (simp; done) | (simp; omega)) _) hb2
  have HZ2 := hid_of (keep (setCell_keep HZ1.out (by omega)) hb2)
  have HY2 := hid_of (keep (heap_setCell_same _ _ _ _ _ _ HY1.out) hb2)
  have HI2 : Hid (OwnI w1.heap.size w2.heap.size w2 (.slice (some ⟨gu, 0, none⟩) xs.length xs.length) xs) := by rw [hs1] at ho2; exact ho2
  have HO2 : Hid (∃ fs, arOf fs = os ∧ OwnA (w.heap.size + 1 + 1 + 1) os.length fs [] (w.heap.size + 1 + 1 + 1) w1.heap.size w2) := by
    obtain ⟨fs, h1, h2⟩ := HO1.out
    exact ⟨fs, h1, (h2.setOther (by omega)).on hb2⟩
  clear hb2 HB1 HZ1 HY1 HO1 CG ho2
  go_wp2
  clear hc1 hf1 hc2 hf2
  show bodyPost _ _ _ _ _ (wq5 (wq4 w2 (w.heap.size + 1 + 1) 1 p t r (.slice (some ⟨gu, 0, none⟩) xs.length xs.length)) (w.heap.size + 1) 0 (.slice (some ⟨w.heap.size + 1 + 1 + 1, 0, none⟩) os.length os.length) p t r (.slice (some ⟨gu, 0, none⟩) xs.length xs.length))
  have hfin := heap_wq5_new (heap_wq4_other HZ2.out (g := w.heap.size + 1 + 1) (by omega) 1 p t r (.slice (some ⟨gu, 0, none⟩) xs.length xs.length)) (.slice (some ⟨w.heap.size + 1 + 1 + 1, 0, none⟩) os.length os.length) p t r (.slice (some ⟨gu, 0, none⟩) xs.length xs.length)
  have hs5 : ∀ k x, w.heap.size + 1 + 1 + 1 ≤ k → w2.heap[k]? = some x → (wq5 (wq4 w2 (w.heap.size + 1 + 1) 1 p t r (.slice (some ⟨gu, 0, none⟩) xs.length xs.length)) (w.heap.size + 1) 0 (.slice (some ⟨w.heap.size + 1 + 1 + 1, 0, none⟩) os.length os.length) p t r (.slice (some ⟨gu, 0, none⟩) xs.length xs.length)).heap[k]? = some x := fun k x hk h => heap_wq5_other (heap_wq4_other h (by omega) _ _ _ _ _) (by omega) _ _ _ _ _ _
  have hB5 := below_wq5 (below_wq4 HB2.out (g := w.heap.size + 1 + 1) (by omega) 1 p t r (.slice (some ⟨gu, 0, none⟩) xs.length xs.length)) (g := w.heap.size + 1) (by omega) 0 (.slice (some ⟨w.heap.size + 1 + 1 + 1, 0, none⟩) os.length os.length) p t r (.slice (some ⟨gu, 0, none⟩) xs.length xs.length)
  have hz5 := size_wq5 (wq4 w2 (w.heap.size + 1 + 1) 1 p t r (.slice (some ⟨gu, 0, none⟩) xs.length xs.length)) (w.heap.size + 1) 0 (.slice (some ⟨w.heap.size + 1 + 1 + 1, 0, none⟩) os.length os.length) p t r (.slice (some ⟨gu, 0, none⟩) xs.length xs.length)
  rw [size_wq4] at hz5
  generalize wq5 (wq4 w2 (w.heap.size + 1 + 1) 1 p t r (.slice (some ⟨gu, 0, none⟩) xs.length xs.length)) (w.heap.size + 1) 0 (.slice (some ⟨w.heap.size + 1 + 1 + 1, 0, none⟩) os.length os.length) p t r (.slice (some ⟨gu, 0, none⟩) xs.length xs.length) = W at hfin hs5 hB5 hz5 ⊢
  refine bodyPost_ret (v := hpV (.slice (some ⟨w.heap.size + 1 + 1 + 1, 0, none⟩) os.length os.length) p t r (.slice (some ⟨gu, 0, none⟩) xs.length xs.length)) (by simp [results, go_sem, World.cell?, hfin]) rfl ⟨⟨_, w1.heap.size, _, rfl, ?_, ?_, by omega, by omega⟩, hB5⟩
  · obtain ⟨fs, h1, h2⟩ := HO2.out
    exact ⟨fs, h1, (h2.keepIn (fun k x hk h => hs5 k x hk h)).wide (by omega) (Nat.le_refl _)⟩
  · exact HI2.out.move (fun k x h1 _ h => hs5 k x (by omega) h) (Nat.le_refl _) (by omega)
end Go.Proofs.YtbdljoldblpffaaGreat
