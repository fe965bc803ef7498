/-
  l3Any: the walk.
-/
import Derived.Test.YtbahokkofidmeaaDrawA
namespace Go.Proofs.Ytbahokkofidmeaa
open Go.RowKit
set_option linter.unusedVariables false

theorem anyE_start {w w1 : World} {g s0 : Nat} {r : Value} {xs : List Int} (hs : s0 ≤ w.heap.size) (hown : w1.ownsRow ((w.alloc (.cells #[.slice none 0 0] 26 (0, 0))).heap.size + 1) 3 1 r xs.length (icells xs)) (hc : CurE w1 g s0)
    (hg : (w.alloc (.cells #[.slice none 0 0] 26 (0, 0))).grownBy w1 (some g)) : AnyE w g s0 w1.heap.size r xs (w1.alloc (.cells #[r] 26 (0, 0))) := by
  have hlt := hc.lt
  have h0 : w1.heap[w.heap.size]? = some (.cells #[.slice none 0 0] 26 (0, 0)) := grown_kept hg (heap_alloc_new w _) (by simp; omega)
  have h1 := lt_of_block h0
  refine ⟨keep2 h0 (below_alloc w1 _), heap_alloc_new w1 _, by omega, ?_, hc.alloc _ (by omega), ?_⟩
  · exact own_kept (own_from2 hown (by simp)) fun k o n c _ _ ho => keep2 ho (below_alloc w1 _)
  · exact grown_then (grownBy_trans (World.grownBy_alloc _ _ _) hg) ((Below.refl w.heap.size w1).alloc (by omega) _) (Nat.le_refl _)
theorem AnyE.drew {w wr : World} {g s0 B : Nat} {out : Value} {xs : List Int} (h : AnyE w g s0 B out xs wr) : AnyE w g s0 B out xs wr.drew :=
  ⟨h.b0, h.bB, h.hB, own_kept h.own fun k o n c _ _ ho => ho, h.cur.drew, ⟨h.grown.os, h.grown.tape, h.grown.output, h.grown.size, h.grown.block⟩⟩
theorem AnyE.end' {w wr : World} {g s0 B : Nat} {out : Value} {xs : List Int} (h : AnyE w g s0 B out xs wr) (hs : s0 ≤ w.heap.size) (r : Value) :
    (wr.setCell ⟨w.heap.size, 0, none⟩ r).ownsRow (w.heap.size + 1) 3 1 out xs.length (icells xs) ∧ CurE (wr.setCell ⟨w.heap.size, 0, none⟩ r) g s0 ∧ w.grownBy (wr.setCell ⟨w.heap.size, 0, none⟩ r) (some g) :=
  ⟨ownsRow_setCell_below h.own (by simp) _, h.cur.set _ _ _ hs, grown_then h.grown ((Below.refl w.heap.size wr).setCell (Nat.le_refl _) _) (Nat.le_refl _)⟩

theorem AnyE.app {w wr w' : World} {g s0 B : Nat} {out v : Value} {xs ys : List Int} (h : AnyE w g s0 B out xs wr) (hs : s0 ≤ w.heap.size) (hg : wr.grownBy w' out.ownBlock) (hown : w'.ownsRow (w.heap.size + 1) 3 1 v ys.length (icells ys)) :
    w'.heap[B]? = some (.cells #[out] 26 (0, 0)) ∧ AnyE w g s0 B v ys (w'.setCell ⟨B, 0, none⟩ v) := by
  have hB := h.hB
  have hsz : w.heap.size ≤ wr.heap.size := h.grown.size
  have hlt := fun k hk => h.own.lt k hk
  have hbB : w'.heap[B]? = some (.cells #[out] 26 (0, 0)) := grown_kept hg h.bB (ownBlock_ne h.own h.bB)
  have hb0 : w'.heap[w.heap.size]? = some (.cells #[.slice none 0 0] 26 (0, 0)) := grown_kept hg h.b0 (fun e => by have := (hlt _ e).1; omega)
  have hbel : Below w.heap.size wr w' := ⟨hg.os, hg.tape, hg.output, hg.size, fun k hk => hg.block k (by omega) (fun e => by have := (hlt k e.symm).1; omega)⟩
  refine ⟨hbB, ?_, one_setCell hbB, hB, own_set_box hown hbB, ?_, ?_⟩
  · rw [heap_setCell_other _ _ _ _ (by simp; omega)]; exact hb0
  · exact (h.cur.below (hbel.mono hs)).set _ _ _ (by omega)
  · exact grown_then (grown_then h.grown hbel (Nat.le_refl _)) ((Below.refl w.heap.size w').setCell (by simp; omega) _) (Nat.le_refl _)
theorem AnyE.setRow {w wr : World} {g s0 B gr cap : Nat} {xs : List Int} {rest : List Value} (h : AnyE w g s0 B (.slice (some ⟨gr, 0, none⟩) xs.length cap) xs wr) (hs : s0 ≤ w.heap.size) (hr : RowIn wr gr xs rest) (hgr : w.heap.size + 1 ≤ gr) (hc : xs.length ≤ cap) (hm : cap ≤ maxLen) (hl : (icells xs ++ rest).length = cap) (x : Nat) (hx : x < xs.length) (y : Int) :
    AnyE w g s0 B (.slice (some ⟨gr, 0, none⟩) xs.length cap) (xs.set x y) (wr.setCell ⟨gr, x, none⟩ (.int .i64 y)) := by
  have hB := h.hB
  have hne : B ≠ gr := by
    rintro rfl
    have := h.bB
    unfold RowIn at hr
    rw [hr] at this
    simp at this
  have hr' := hr.set x hx y
  have ho := hr'.own (w.heap.size + 1) hgr (cap := cap) (by simp; exact hc) hm (by simp only [List.length_append, icells_length, List.length_set] at hl ⊢; exact hl)
  rw [List.length_set] at ho
  refine ⟨?_, ?_, hB, by rw [List.length_set]; exact ho, h.cur.set _ _ _ (by omega), ?_⟩
  · rw [heap_setCell_other _ _ _ _ (by simp; omega)]; exact h.b0
  · rw [heap_setCell_other _ _ _ _ (by simpa using hne)]; exact h.bB
  · exact grown_then h.grown ((Below.refl w.heap.size wr).setCell (by simp; omega) _) (Nat.le_refl _)

abbrev P2 : Obj := .cells #[.int .i64 (-1), .int .i64 4] 3 (0, 0)

set_option maxRecDepth 100000 in
set_option maxHeartbeats 4000000 in
theorem l3Any_any (w : World) (g s0 : Nat) (hc : CurE w g s0) (hs : s0 ≤ w.heap.size) :
    Calls Try.prog 60 #[.pointer (some ⟨g, 0, none⟩)] w fun e w' => ∃ r xs, e = .returned (.agg #[r]) ∧ xs.length ≤ 5 ∧ w'.ownsRow (w.heap.size + 1) 3 1 r xs.length (icells xs) ∧ CurE w' g s0 ∧ w.grownBy w' (some g) ∧ ∃ b n c, r = .slice (some ⟨b, 0, none⟩) n c := by
  have C1 := l3Label_any (w.alloc (.cells #[.slice none 0 0] 26 (0, 0))) g s0 (hc.alloc _ hs) (by simp; omega)
  have C4 : Hid (∀ w', CurE w' g s0 → _) := fun w' h => belowE w' g s0 4 h (by omega) (by omega)
  have C14 : Hid (∀ w', CurE w' g s0 → _) := fun w' h => belowE w' g s0 14 h (by omega) (by omega)
  have Hs : Hid (s0 ≤ w.heap.size) := hs
  clear hc hs
  go_enter Try.func60, Try.ntmps60
  go_wp2_with fail
  refine C1.mono ?_
  rintro e w1 ⟨r, xs, rfl, hx4, hown, hcur, hgr⟩
  have HE1 : Hid (AnyE w g s0 w1.heap.size r xs (w1.alloc (.cells #[r] 26 (0, 0)))) := anyE_start Hs.out hown hcur hgr
  obtain ⟨gr, cap, rfl, hcap, hmax, hgr1, -⟩ := own_take hown (by omega) 0 (by omega)
  rw [hx4] at hcap HE1 ⊢
  have Hx4 : Hid (xs.length = 4) := hx4
  unfold maxLen at hmax
  clear C1 hown hcur hgr hgr1 hx4
  go_wp2_with fail
  refine (C14.out _ HE1.out.cur).mono ?_
  rintro e w2 ⟨v, rfl, hv, hc2, hg2⟩
  have HE2 : Hid (AnyE w g s0 w1.heap.size (.slice (some ⟨gr, 0, none⟩) 4 cap) xs w2) := HE1.out.by' Hs.out hc2 hg2
  clear HE1 hc2 hg2 C14
  have o2 := cell_of_one HE2.out.bB
  by_cases h0 : v = 0
  · subst h0
    go_wp2_with fail
    go_region_with (go_at_call 59; refine (C4.out _ HE2.out.drew.cur).mono ?_; rintro e w3 ⟨x, rfl, hx, hc3, hg3⟩; have HE3 : Hid (AnyE w g s0 w1.heap.size (.slice (some ⟨gr, 0, none⟩) 4 cap) xs w3) := HE2.out.drew.by' Hs.out hc3 hg3; have o3 := cell_of_one HE3.out.bB; have f3 := free_of_one HE3.out.bB; have x0 : (0 : Int) ≤ (x : Int) := (by omega); have x1 : (x : Int) ≤ (cap : Int) := (by omega); have x2 : (x : Int) < 4 := (by omega); clear hc3 hg3)
    all_goals
      obtain ⟨g', cap', hv', -, -, -, hown4⟩ := own_take HE3.out.own (by rw [Hx4.out]; omega) x (by rw [Hx4.out]; omega)
      simp only [Value.slice.injEq, Option.some.injEq, Addr.mk.injEq, and_true] at hv'
      obtain ⟨rfl, -, rfl⟩ := hv'
      have HE4 : Hid (AnyE w g s0 w1.heap.size (.slice (some ⟨gr, 0, none⟩) x cap) (xs.take x) (w3.setCell ⟨w1.heap.size, 0, none⟩ (.slice (some ⟨gr, 0, none⟩) x cap))) := HE3.out.put Hs.out hown4
      clear hown4
      have o4 := cell_of_one HE4.out.bB
      have z4 := cell_of_one HE4.out.b0
      have f4 := free_of_one HE4.out.b0
      clear o3 f3
      go_wp2
      have q0 : ((w3.setCell ⟨w1.heap.size, 0, none⟩ (.slice (some ⟨gr, 0, none⟩) x cap)).setCell ⟨w.heap.size, 0, none⟩ (.slice (some ⟨gr, 0, none⟩) x cap)).cell? ⟨w.heap.size, 0, none⟩ = some (.slice (some ⟨gr, 0, none⟩) x cap) := World.cell?_setCell_same _ _ _ z4
      obtain ⟨e1, e2, e3⟩ := HE4.out.end' Hs.out (.slice (some ⟨gr, 0, none⟩) x cap)
      refine bodyPost_ret (v := .agg #[.slice (some ⟨gr, 0, none⟩) x cap]) (by simp [results, go_sem, q0]) rfl ⟨_, _, rfl, ?_, e1, e2, e3, _, _, _, rfl⟩
      simp; omega
  · by_cases h1 : v = 1
    · subst h1
      have t2 : w1.heap.size < w2.heap.size := lt_of_block HE2.out.bB
      have C53 : Hid (∀ w' m, CurE w' g s0 → s0 ≤ m → w'.heap[m]? = some P2 → _) := fun w' m h hm hl => pickE w' g s0 m [-1, 4] 2 rfl (by omega) (by omega) h hm hl
      go_wp2_with fail
      go_region_with (first
        | (go_at_call 59; refine (C4.out _ ?_).mono ?_; (first | exact HE2.out.drew.cur | exact (HE2.out.drew.on Hs.out (below_alloc _ P2)).cur); rintro e w3 ⟨x, rfl, hx, hc3, hg3⟩; have HE3 : Hid (AnyE w g s0 w1.heap.size (.slice (some ⟨gr, 0, none⟩) 4 cap) xs w3) := (by first | exact HE2.out.drew.by' Hs.out hc3 hg3 | exact (HE2.out.drew.on Hs.out (below_alloc _ P2)).by' Hs.out hc3 hg3); (try (have PX3 : Hid (w3.heap[w2.heap.size]? = some P2) := grown_kept hg3 (heap_alloc_new w2.drew P2) (by have := hc3.lt; have := Hs.out; have := HE2.out.grown.size; simp; omega))); have o3 := cell_of_one HE3.out.bB; have t3 : w1.heap.size < w3.heap.size := lt_of_block HE3.out.bB; have x0 : (0 : Int) ≤ (x : Int) := (by omega); have x2 : (x : Int) < 4 := (by omega); clear hc3 hg3)
        | (go_at_call 62; refine (C53.out _ _ ?_ ?_ ?_).mono ?_; (first | exact HE3.out.cur | exact (HE3.out.on Hs.out (below_alloc _ P2)).cur); (first | (have := Hs.out; have := HE2.out.grown.size; omega) | (have := Hs.out; have := HE3.out.grown.size; omega)); (first | exact PX3.out | exact heap_alloc_new w3 P2); rintro e w4 ⟨y, rfl, hc4, hg4⟩; have HE4' : Hid (AnyE w g s0 w1.heap.size (.slice (some ⟨gr, 0, none⟩) 4 cap) xs w4) := (by first | exact HE3.out.by' Hs.out hc4 hg4 | exact (HE3.out.on Hs.out (below_alloc _ P2)).by' Hs.out hc4 hg4); have o4 := cell_of_one HE4'.out.bB; obtain ⟨g', cap', rest, hv', hb', hcc, hmm, hll, hrr⟩ := rowIn_own HE4'.out.own (by rw [Hx4.out]; omega); simp only [Value.slice.injEq, Option.some.injEq, Addr.mk.injEq, and_true] at hv'; obtain ⟨rfl, -, rfl⟩ := hv'; obtain ⟨z, r4⟩ : ∃ z, w4.cell? ⟨gr, x, none⟩ = some (.int .i64 z) := ⟨_, hrr.cell x (by rw [Hx4.out]; omega)⟩; have rf4 : w4.frozen? ⟨gr, x, none⟩ = false := hrr.free x; have HR4 : Hid (RowIn w4 gr xs rest ∧ w.heap.size + 1 ≤ gr ∧ xs.length ≤ cap ∧ cap ≤ maxLen ∧ (icells xs ++ rest).length = cap) := ⟨hrr, hb', hcc, hmm, hll⟩; clear hc4 hg4 hrr hb' hcc hmm hll))
      all_goals
        obtain ⟨hrr, hb', hcc, hmm, hll⟩ := HR4.out
        have HE9 : Hid (AnyE w g s0 w1.heap.size (.slice (some ⟨gr, 0, none⟩) 4 cap) (xs.set x y) (w4.setCell ⟨gr, x, none⟩ (.int .i64 y))) := by
          have hA : AnyE w g s0 w1.heap.size (.slice (some ⟨gr, 0, none⟩) xs.length cap) xs w4 := by rw [Hx4.out]; exact HE4'.out
          have := hA.setRow Hs.out hrr hb' hcc hmm hll x (by rw [Hx4.out]; exact hx) y
          rw [Hx4.out] at this
          exact this
        clear hrr hb' hcc hmm hll
        have o9 := cell_of_one HE9.out.bB
        have z9 := cell_of_one HE9.out.b0
        have f9 := free_of_one HE9.out.b0
        clear o2 o3 o4 r4 rf4
        go_wp2
        have q0 : ((w4.setCell ⟨gr, x, none⟩ (.int .i64 y)).setCell ⟨w.heap.size, 0, none⟩ (.slice (some ⟨gr, 0, none⟩) 4 cap)).cell? ⟨w.heap.size, 0, none⟩ = some (.slice (some ⟨gr, 0, none⟩) 4 cap) := World.cell?_setCell_same _ _ _ z9
        obtain ⟨e1, e2, e3⟩ := HE9.out.end' Hs.out (.slice (some ⟨gr, 0, none⟩) 4 cap)
        refine bodyPost_ret (v := .agg #[.slice (some ⟨gr, 0, none⟩) 4 cap]) (by simp [results, go_sem, q0]) rfl ⟨_, _, rfl, ?_, e1, e2, e3, _, _, _, rfl⟩
        rw [List.length_set, Hx4.out]; omega
    · by_cases h2 : v = 2
      · subst h2
        have t2 : w1.heap.size < w2.heap.size := lt_of_block HE2.out.bB
        have HE3 : Hid (AnyE w g s0 w1.heap.size (.slice (some ⟨gr, 0, none⟩) 4 cap) xs (w2.alloc (.cells #[.int .i64 0] 3 (0, 0)))) := HE2.out.on Hs.out (below_alloc _ _)
        have H2 : Hid (∀ (j : Nat) u, (icells [0])[j]? = some u → (w2.alloc (.cells #[.int .i64 0] 3 (0, 0))).cell? ⟨w2.heap.size, j, none⟩ = some u) := fun j u hj => by
          have := heap_alloc_new w2 (.cells #[.int .i64 0] 3 (0, 0))
          simp only [World.cell?, this]
          simpa [icells] using hj
        have Hsz : Hid (w.heap.size + 1 ≤ (w2.alloc (.cells #[.int .i64 0] 3 (0, 0))).heap.size) := by have h1 := HE2.out.hB; show _ ≤ _; simp; omega
        go_wp2_with (refine wpList_appG rfl (.tmp 29) (.tmp 30) rfl _ (w.heap.size + 1) w2.heap.size _ xs [0] 1 1 rfl rfl HE3.out.own H2.out rfl (by rw [Hx4.out]; omega) Hsz.out ?_; intro v' w3 hown' hg3; obtain ⟨hB3, hE9⟩ := HE3.out.app Hs.out hg3.out hown'.out; obtain ⟨a1, n1, c1, rfl⟩ := own_shape hown'.out; have o3 := cell_of_one hB3; have f3 := free_of_one hB3; have HE9 : Hid (AnyE w g s0 w1.heap.size (.slice a1 n1 c1) (xs ++ [0]) (w3.setCell ⟨w1.heap.size, 0, none⟩ (.slice a1 n1 c1))) := hE9; have o9 := cell_of_one HE9.out.bB; have z9 := cell_of_one HE9.out.b0; have f9 := free_of_one HE9.out.b0; clear hE9 hB3)
        have q0 : ((w3.setCell ⟨w1.heap.size, 0, none⟩ (.slice a1 n1 c1)).setCell ⟨w.heap.size, 0, none⟩ (.slice a1 n1 c1)).cell? ⟨w.heap.size, 0, none⟩ = some (.slice a1 n1 c1) := World.cell?_setCell_same _ _ _ z9
        obtain ⟨e1, e2, e3⟩ := HE9.out.end' Hs.out (.slice a1 n1 c1)
        refine bodyPost_ret (v := .agg #[.slice a1 n1 c1]) (by simp [results, go_sem, q0]) rfl ⟨_, _, rfl, ?_, e1, e2, e3, ?_⟩
        · rw [List.length_append, Hx4.out]; decide
        · obtain ⟨b, c, _, hb, _⟩ := rowIn_own e1 (by rw [List.length_append]; simp)
          exact ⟨_, _, _, hb⟩
      · have q1 : ((v : Int) == 0) = false := by simp; omega
        have q2 : ((v : Int) == 1) = false := by simp; omega
        have q3 : ((v : Int) == 2) = false := by simp; omega
        have HE9 : Hid (AnyE w g s0 w1.heap.size (.slice (some ⟨gr, 0, none⟩) 4 cap) xs w2) := HE2.out
        have o9 := cell_of_one HE9.out.bB
        have z9 := cell_of_one HE9.out.b0
        have f9 := free_of_one HE9.out.b0
        clear o2
        go_wp2
        have q0 : ((w2).setCell ⟨w.heap.size, 0, none⟩ (.slice (some ⟨gr, 0, none⟩) 4 cap)).cell? ⟨w.heap.size, 0, none⟩ = some (.slice (some ⟨gr, 0, none⟩) 4 cap) := World.cell?_setCell_same _ _ _ z9
        obtain ⟨e1, e2, e3⟩ := HE9.out.end' Hs.out (.slice (some ⟨gr, 0, none⟩) 4 cap)
        refine bodyPost_ret (v := .agg #[.slice (some ⟨gr, 0, none⟩) 4 cap]) (by simp [results, go_sem, q0]) rfl ⟨_, _, rfl, ?_, e1, e2, e3, _, _, _, rfl⟩
        rw [Hx4.out]; omega
end Go.Proofs.Ytbahokkofidmeaa
