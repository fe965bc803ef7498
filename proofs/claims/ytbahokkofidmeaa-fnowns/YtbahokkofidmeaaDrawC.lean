/-
  l3Two: two labels are drawn.
-/
import Derived.Test.YtbahokkofidmeaaDrawB
namespace Go.Proofs.Ytbahokkofidmeaa
open Go.RowKit
set_option linter.unusedVariables false

abbrev ZL : Obj := .cells #[.slice none 0 0] 26 (0, 0)
theorem own_len {w : World} {lo n m c : Nat} {a : Option Addr} {xs : List Value} (h : w.ownsRow lo 3 1 (.slice a n c) m xs) : n = m := by
  rcases h.2 with ⟨hv, hm⟩ | ⟨g, cap, cur, hv, _⟩
  · simp at hv; omega
  · simp at hv; exact hv.2.1
/-- What l3Two leaves behind. -/
def TwoDrawn (w : World) (g s0 : Nat) (r1 r2 : Value) (w' : World) : Prop :=
  ∃ xs ys : List Int, xs.length ≤ 5 ∧ ys.length ≤ 5 ∧ w'.ownsRow (w.heap.size + 1 + 1) 3 1 r1 xs.length (icells xs) ∧ w'.ownsRow (w.heap.size + 1 + 1) 3 1 r2 ys.length (icells ys) ∧ CurE w' g s0 ∧ w.grownBy w' (some g)
theorem twoDrawn_end {w w3 : World} {g s0 : Nat} {r1 r2 : Value} {xs ys : List Int} (hs : s0 ≤ w.heap.size) (h1 : xs.length ≤ 5) (h2 : ys.length ≤ 5) (o1 : w3.ownsRow (w.heap.size + 1 + 1) 3 1 r1 xs.length (icells xs)) (o2 : w3.ownsRow (w.heap.size + 1 + 1) 3 1 r2 ys.length (icells ys)) (hc : CurE w3 g s0) (hg : w.grownBy w3 (some g)) (u v : Value) :
    TwoDrawn w g s0 r1 r2 ((w3.setCell ⟨w.heap.size, 0, none⟩ u).setCell ⟨w.heap.size + 1, 0, none⟩ v) :=
  ⟨xs, ys, h1, h2, ownsRow_setCell_below (ownsRow_setCell_below o1 (by simp; omega) _) (by simp) _, ownsRow_setCell_below (ownsRow_setCell_below o2 (by simp; omega) _) (by simp) _,
    (hc.set _ _ _ hs).set _ _ _ (by omega), grown_then (grown_then hg ((Below.refl w.heap.size w3).setCell (Nat.le_refl _) _) (Nat.le_refl _)) ((Below.refl w.heap.size _).setCell (by simp) _) (Nat.le_refl _)⟩

theorem ownR_setRow {b g lo hi cap : Nat} {xs : List Int} {rest : List Value} {wr : World} (h : OwnR b (.slice (some ⟨g, 0, none⟩) xs.length cap) xs lo hi wr) (hr : RowIn wr g xs rest) (hb : lo ≤ g) (hc : xs.length ≤ cap) (hm : cap ≤ maxLen) (hl : (icells xs ++ rest).length = cap) (x : Nat) (hx : x < xs.length) (y : Int) :
    OwnR b (.slice (some ⟨g, 0, none⟩) xs.length cap) (xs.set x y) lo hi (wr.setCell ⟨g, x, none⟩ (.int .i64 y)) := by
  have hne : b ≠ g := by
    rintro rfl
    have := h.box
    unfold RowIn at hr
    rw [hr] at this
    simp at this
  have hr' := hr.set x hx y
  have ho := hr'.own lo hb (cap := cap) (by simp; exact hc) hm (by simp only [List.length_append, icells_length, List.length_set] at hl ⊢; exact hl)
  rw [List.length_set] at ho
  refine ⟨?_, by rw [List.length_set]; exact ho, h.top⟩
  rw [heap_setCell_other _ _ _ _ (by simpa using hne)]; exact h.box

theorem AnyE.far {w wr : World} {g s0 B : Nat} {out : Value} {xs : List Int} (h : AnyE (w.alloc ZL) g s0 B out xs wr) (hs : s0 ≤ (w.alloc ZL).heap.size) (b k : Nat) (v : Value) {t : Nat} (hb : t ≤ b) (ht : w.heap.size + 1 + 1 ≤ t) (hB : B < t) (hr : out.ownBlock ≠ some b) : AnyE (w.alloc ZL) g s0 B out xs (wr.setCell ⟨b, k, none⟩ v) := by
  have hss : (w.alloc ZL).heap.size = w.heap.size + 1 := by simp
  refine ⟨?_, ?_, h.hB, ?_, h.cur.set _ _ _ (by omega), ?_⟩
  · rw [heap_setCell_other _ _ _ _ (by simp; omega)]; exact h.b0
  · rw [heap_setCell_other _ _ _ _ (by simp; omega)]; exact h.bB
  · refine own_kept h.own fun q o n c hv _ ho => ?_
    rw [heap_setCell_other _ _ _ _ (by rintro rfl; rw [hv] at hr; simp [Value.ownBlock] at hr)]; exact ho
  · exact grown_then h.grown ((Below.refl (w.alloc ZL).heap.size wr).setCell (by simp; omega) _) (Nat.le_refl _)
theorem TwoDrawn.drew {w w' : World} {g s0 : Nat} {r1 r2 : Value} (h : TwoDrawn w g s0 r1 r2 w') : TwoDrawn w g s0 r1 r2 w'.drew := by
  obtain ⟨xs, ys, h1, h2, o1, o2, hc, hg⟩ := h
  exact ⟨xs, ys, h1, h2, own_kept o1 fun k o n c _ _ ho => ho, own_kept o2 fun k o n c _ _ ho => ho, hc.drew, ⟨hg.os, hg.tape, hg.output, hg.size, hg.block⟩⟩

set_option maxRecDepth 100000 in
set_option maxHeartbeats 4000000 in
theorem l3Two_any (w : World) (g s0 : Nat) (hc : CurE w g s0) (hs : s0 ≤ w.heap.size) :
    Calls Try.prog 38 #[.pointer (some ⟨g, 0, none⟩)] w fun e w' => ∃ r1 r2, e = .returned (.tuple #[.agg #[r1], .agg #[r2]]) ∧ TwoDrawn w g s0 r1 r2 w' := by
  have C1 := l3Any_any ((w.alloc ZL).alloc ZL) g s0 ((hc.alloc _ hs).alloc _ (by simp; omega)) (by simp; omega)
  have CA : Hid (∀ w', CurE w' g s0 → s0 ≤ w'.heap.size → _) := fun w' h h' => l3Any_any w' g s0 h h'
  have CO : Hid (∀ w', CurE w' g s0 → _) := fun w' h => onceE w' g s0 2 h (by omega) (by omega)
  have C2 : Hid (∀ w', CurE w' g s0 → _) := fun w' h => belowE w' g s0 2 h (by omega) (by omega)
  have Hs : Hid (s0 ≤ w.heap.size) := hs
  have Hg : Hid (g < s0) := hc.lt
  have hss : (w.alloc ZL).heap.size = w.heap.size + 1 := by simp
  clear hc hs
  go_enter Try.func38, Try.ntmps38
  go_wp2_with fail
  refine C1.mono ?_
  rintro e w1 ⟨r, xs, rfl, hx5, hown, hcur, hgr, b4, n4, c4, rfl⟩
  have HE1 : Hid (AnyE (w.alloc ZL) g s0 w1.heap.size (.slice (some ⟨b4, 0, none⟩) n4 c4) xs (w1.alloc (.cells #[.slice (some ⟨b4, 0, none⟩) n4 c4] 26 (0, 0)))) := anyE_start (w := w.alloc ZL) (by rw [hss]; have := Hs.out; omega) hown hcur hgr
  have Hx5 : Hid (xs.length ≤ 5 ∧ n4 = xs.length) := ⟨hx5, own_len hown⟩
  have HS1 : Hid (s0 ≤ (w.alloc ZL).heap.size) := by show _ ≤ _; rw [hss]; have := Hs.out; omega
  clear C1 hown hcur hgr hx5
  go_wp2_with fail
  refine (CO.out _ HE1.out.cur).mono ?_
  rintro e w2 ⟨o, rfl, hc2, hg2⟩
  have HE2 : Hid (AnyE (w.alloc ZL) g s0 w1.heap.size (.slice (some ⟨b4, 0, none⟩) n4 c4) xs w2) := HE1.out.by' HS1.out hc2 hg2
  clear HE1 hc2 hg2
  have o2 := cell_of_one HE2.out.bB
  cases o
  · go_wp2_with fail
    go_region_with (go_at_call 60; refine (CA.out _ HE2.out.drew.cur ?_).mono ?_; (have h1 := HE2.out.grown.size; have h2 := HS1.out; show _ ≤ _; simp at h1 h2 ⊢; omega); rintro e w3 ⟨r, ys, rfl, hy5, hown, hcur, hgr, b5, n5, c5, rfl⟩; have HE3 : Hid (AnyE (w.alloc ZL) g s0 w1.heap.size (.slice (some ⟨b4, 0, none⟩) n4 c4) xs w3) := HE2.out.drew.by' HS1.out hcur hgr; have HB0 : Hid (w3.heap[w.heap.size]? = some ZL) := grown_kept HE3.out.grown (heap_alloc_new w ZL) (by have := Hs.out; have := Hg.out; simp; omega); have HB1 : Hid (w3.heap[w.heap.size + 1]? = some ZL) := (by have := HE3.out.b0; rw [hss] at this; exact this); have HW3 : Hid (ys.length ≤ 5 ∧ w3.ownsRow (w.heap.size + 1 + 1) 3 1 (.slice (some ⟨b5, 0, none⟩) n5 c5) ys.length (icells ys)) := ⟨hy5, own_from2 hown (by have h1 := lt_of_block HE2.out.b0; simp at h1 ⊢; omega)⟩; have o3 := cell_of_one HE3.out.bB; have z0 := cell_of_one HB0.out; have z1 := cell_of_one HB1.out; have f0 := free_of_one HB0.out; have f1 := free_of_one HB1.out; clear hy5 hown hcur hgr)
    all_goals
      have q0 : ((w3.setCell ⟨w.heap.size, 0, none⟩ (.slice (some ⟨b4, 0, none⟩) n4 c4)).setCell ⟨w.heap.size + 1, 0, none⟩ (.slice (some ⟨b5, 0, none⟩) n5 c5)).cell? ⟨w.heap.size, 0, none⟩ = some (.slice (some ⟨b4, 0, none⟩) n4 c4) := by
        rw [World.cell?_setCell_other _ _ _ _ (by simp)]; exact World.cell?_setCell_same _ _ _ z0
      have q1 : ((w3.setCell ⟨w.heap.size, 0, none⟩ (.slice (some ⟨b4, 0, none⟩) n4 c4)).setCell ⟨w.heap.size + 1, 0, none⟩ (.slice (some ⟨b5, 0, none⟩) n5 c5)).cell? ⟨w.heap.size + 1, 0, none⟩ = some (.slice (some ⟨b5, 0, none⟩) n5 c5) := by
        refine World.cell?_setCell_same _ _ _ (u := .slice none 0 0) ?_
        rw [World.cell?_setCell_other _ _ _ _ (by simp)]; exact z1
      clear o2 o3 z0 z1 f0 f1
      go_wp2
      refine bodyPost_ret (v := .tuple #[.agg #[.slice (some ⟨b4, 0, none⟩) n4 c4], .agg #[.slice (some ⟨b5, 0, none⟩) n5 c5]]) (by simp [results, go_sem, q0, q1]) rfl ⟨_, _, rfl, ?_⟩
      have hown4 := HE3.out.own
      rw [hss] at hown4
      exact twoDrawn_end Hs.out Hx5.out.1 HW3.out.1 hown4 HW3.out.2 HE3.out.cur (grownBy_trans (World.grownBy_alloc _ _ _) HE3.out.grown) _ _
  · have HE3 : Hid (AnyE (w.alloc ZL) g s0 w1.heap.size (.slice (some ⟨b4, 0, none⟩) n4 c4) xs (w2.alloc (.cells #[] 3 (0, 0)))) := HE2.out.on HS1.out (below_alloc _ _)
    have H1 : Hid ((w2.alloc (.cells #[] 3 (0, 0))).ownsRow w2.heap.size 3 1 (.slice (some ⟨w2.heap.size, 0, none⟩) 0 0) ([] : List Int).length (icells [])) := owns_empty w2
    have H2 : Hid (∀ (j : Nat) u, (icells xs)[j]? = some u → (w2.alloc (.cells #[] 3 (0, 0))).cell? ⟨b4, j, none⟩ = some u) := fun j u hj => by have h := HE3.out.own.cells rfl j u hj; rw [add_head] at h; exact h
    have t2 : w1.heap.size < w2.heap.size := lt_of_block HE2.out.bB
    by_cases hz : 0 < n4
    · have hz' : (0 : Int) < (n4 : Int) := by omega
      go_wp2_with (refine wpList_appG rfl (.tmp 11) (.tmp 13) rfl _ w2.heap.size b4 (.slice (some ⟨w2.heap.size, 0, none⟩) 0 0) [] xs n4 c4 rfl rfl H1.out H2.out Hx5.out.2.symm (by have := Hx5.out; simp; omega) (by simp) ?_; intro v' w3 hown' hg3; have hb3 : Below w2.heap.size w2 w3 := ⟨hg3.out.os, hg3.out.tape, hg3.out.output, Nat.le_trans (by simp) hg3.out.size, fun k hk => (hg3.out.block k (by simp; omega) (by simp [Value.ownBlock]; omega)).trans (heap_alloc_old _ _ hk)⟩; have hown5 : w3.ownsRow w2.heap.size 3 1 v' xs.length (icells xs) := hown'.out; obtain ⟨a1, n1, c1, rfl⟩ := own_shape hown5; have hn1 : n1 = n4 := (own_len hown5).trans Hx5.out.2.symm; subst hn1; have HE4 : Hid (AnyE (w.alloc ZL) g s0 w1.heap.size (.slice (some ⟨b4, 0, none⟩) n1 c4) xs (w3.alloc (.cells #[.slice a1 n1 c1] 26 (0, 0)))) := (HE2.out.on HS1.out hb3).on HS1.out (below_alloc _ _); have HO4 : Hid (OwnR w3.heap.size (.slice a1 n1 c1) xs w2.heap.size w3.heap.size (w3.alloc (.cells #[.slice a1 n1 c1] 26 (0, 0)))) := ownR_new hown5 (Nat.le_refl _); have HQ : Hid (w1.heap.size < w2.heap.size ∧ w2.heap.size ≤ w3.heap.size) := ⟨t2, hb3.size⟩; clear hown' hg3 hb3 hown5)
      have HL : Hid (w.heap.size + 1 + 1 ≤ w2.heap.size) := by have h1 := HE2.out.hB; rw [hss] at h1; have h2 := HQ.out; show _ ≤ _; omega
      have H4 : Hid (b4 < w2.heap.size) := (HE2.out.own.lt b4 rfl).2
      have C5 : Hid (∀ w', CurE w' g s0 → _) := fun w' h => belowE w' g s0 n1 h hz (by have := Hx5.out; omega)
      refine (CO.out _ HE4.out.cur).mono ?_
      rintro e w5 ⟨o, rfl, hc5, hg5⟩
      have HE5 : Hid (AnyE (w.alloc ZL) g s0 w1.heap.size (.slice (some ⟨b4, 0, none⟩) n1 c4) xs w5) := HE4.out.by' HS1.out hc5 hg5
      have HO5 : Hid (OwnR w3.heap.size (.slice a1 n1 c1) xs w2.heap.size w3.heap.size w5) := HO4.out.by' hg5 fun k e => by have h0 := Option.some.inj e; have := HL.out; have := HQ.out; have := Hs.out; have := Hg.out; omega
      clear hc5 hg5 HE4 HO4 HE3 H1 H2 o2 t2
      cases o
      · skip
        have HB0 : Hid ((w5).heap[w.heap.size]? = some ZL) := grown_kept (HE5).out.grown (heap_alloc_new w ZL) (by have := Hs.out; have := Hg.out; simp; omega)
        have HB1 : Hid ((w5).heap[w.heap.size + 1]? = some ZL) := (by have h := (HE5).out.b0; rw [hss] at h; exact h)
        have k4 := cell_of_one (HE5).out.bB
        have k5 := (HO5).out.cell
        have z0 := cell_of_one (HB0.out)
        have z1 := cell_of_one (HB1.out)
        have f0 := free_of_one (HB0.out)
        have f1 := free_of_one (HB1.out)
        have d4 : w.heap.size + 1 < w1.heap.size := by have h1 := HE5.out.hB; rw [hss] at h1; omega
        have d5 : w.heap.size + 1 < w3.heap.size := by have := HL.out; have := HQ.out; omega
        have q0 : (((w5).setCell ⟨w.heap.size, 0, none⟩ (.slice (some ⟨b4, 0, none⟩) n1 c4)).setCell ⟨w.heap.size + 1, 0, none⟩ (.slice a1 n1 c1)).cell? ⟨w.heap.size, 0, none⟩ = some (.slice (some ⟨b4, 0, none⟩) n1 c4) := (by rw [World.cell?_setCell_other _ _ _ _ (by simp)]; exact World.cell?_setCell_same _ _ _ (z0))
        have q1 : (((w5).setCell ⟨w.heap.size, 0, none⟩ (.slice (some ⟨b4, 0, none⟩) n1 c4)).setCell ⟨w.heap.size + 1, 0, none⟩ (.slice a1 n1 c1)).cell? ⟨w.heap.size + 1, 0, none⟩ = some (.slice a1 n1 c1) := (by refine World.cell?_setCell_same _ _ _ (u := .slice none 0 0) ?_; rw [World.cell?_setCell_other _ _ _ _ (by simp)]; exact z1)
        go_wp2_with fail
        go_region_with (fail)
        all_goals clear k4 k5 z0 z1 f0 f1
        all_goals go_wp2
        all_goals refine bodyPost_ret (v := .tuple #[.agg #[.slice (some ⟨b4, 0, none⟩) n1 c4], .agg #[.slice a1 n1 c1]]) (by simp [results, go_sem, q0, q1]) rfl ⟨_, _, rfl, ?_⟩
        all_goals first | exact (twoDrawn_end Hs.out Hx5.out.1 Hx5.out.1 (by have h := (HE5).out.own; rw [hss] at h; exact h) (own_from2 (HO5).out.own HL.out) (HE5).out.cur (grownBy_trans (World.grownBy_alloc _ _ _) (HE5).out.grown) _ _).drew | exact twoDrawn_end Hs.out Hx5.out.1 Hx5.out.1 (by have h := (HE5).out.own; rw [hss] at h; exact h) (own_from2 (HO5).out.own HL.out) (HE5).out.cur (grownBy_trans (World.grownBy_alloc _ _ _) (HE5).out.grown) _ _
      · obtain ⟨b5, cap5, rest, hv', hb', hcc, hmm, hll, hrr⟩ := rowIn_own HO5.out.own (by have := Hx5.out; omega)
        simp only [Value.slice.injEq] at hv'
        obtain ⟨rfl, -, rfl⟩ := hv'
        have HB45 : Hid ((Value.slice (some ⟨b4, 0, none⟩) n1 c4).ownBlock ≠ some b5) := by have h4 := H4.out; show _ ≠ _; simp [Value.ownBlock]; omega
        clear rest hcc hmm hll hrr
        have k5 := HO5.out.cell
        go_wp2_with fail
        refine (C5.out _ HE5.out.cur).mono ?_
        rintro e w6 ⟨k, rfl, hk, hc6, hg6⟩
        have HE6 : Hid (AnyE (w.alloc ZL) g s0 w1.heap.size (.slice (some ⟨b4, 0, none⟩) n1 c4) xs w6) := HE5.out.by' HS1.out hc6 hg6
        have HO6 : Hid (OwnR w3.heap.size (.slice (some ⟨b5, 0, none⟩) n1 c1) xs w2.heap.size w3.heap.size w6) := HO5.out.by' hg6 fun k e => by have h0 := Option.some.inj e; have := HL.out; have := HQ.out; have := Hs.out; have := Hg.out; omega
        clear hc6 hg6 HE5 HO5 k5 C5
        have y0 : (0 : Int) ≤ (k : Int) := by omega
        have y1 : (k : Int) < (n1 : Int) := by omega
        have k6 := HO6.out.cell
        obtain ⟨z, r6⟩ : ∃ z, w6.cell? ⟨b5, k, none⟩ = some (.int .i64 z) := by
          have hx := Hx5.out.2
          obtain ⟨g', cap', rest, hv', hb', hcc, hmm, hll, hrr⟩ := rowIn_own HO6.out.own (by omega)
          simp only [Value.slice.injEq, Option.some.injEq, Addr.mk.injEq, and_true] at hv'
          obtain ⟨rfl, -, rfl⟩ := hv'
          exact ⟨_, hrr.cell k (by omega)⟩
        go_upto_region 6 with fail
        go_cut [] (fun wx => ∃ zs : List Int, Hid (zs.length ≤ 5) ∧ Hid (AnyE (w.alloc ZL) g s0 w1.heap.size (.slice (some ⟨b4, 0, none⟩) n1 c4) xs wx) ∧ Hid (OwnR w3.heap.size (.slice (some ⟨b5, 0, none⟩) n1 c1) zs w2.heap.size w3.heap.size wx))
        case first =>
          go_region_with (go_at_call 59; refine (C2.out _ HE6.out.drew.cur).mono ?_; rintro e w7 ⟨x, rfl, hx, hc7, hg7⟩; have HE7 : Hid (AnyE (w.alloc ZL) g s0 w1.heap.size (.slice (some ⟨b4, 0, none⟩) n1 c4) xs w7) := HE6.out.drew.by' HS1.out hc7 hg7; have HO7 : Hid (OwnR w3.heap.size (.slice (some ⟨b5, 0, none⟩) n1 c1) xs w2.heap.size w3.heap.size w7) := HO6.out.drew.by' hg7 (fun k e => by have h0 := Option.some.inj e; have := HL.out; have := HQ.out; have := Hs.out; have := Hg.out; omega); have r7 : w7.cell? ⟨b5, k, none⟩ = some (.int .i64 z) := hg7.cell (w := w6.drew) r6 (by have h3 := Hg.out; have h4 := HL.out; have h5 := Hs.out; simp; omega); have k7 := HO7.out.cell; have rf7 : w7.frozen? ⟨b5, k, none⟩ = false := (by have hx := Hx5.out.2; obtain ⟨g', cap', rest, hv', -, -, -, -, hrr⟩ := rowIn_own HO7.out.own (by omega); simp only [Value.slice.injEq, Option.some.injEq, Addr.mk.injEq, and_true] at hv'; obtain ⟨rfl, -, rfl⟩ := hv'; exact hrr.free k); clear hc7 hg7)
          all_goals
            have hx := Hx5.out.2
            obtain ⟨g', cap', rest, hv', hb', hcc, hmm, hll, hrr⟩ := rowIn_own HO7.out.own (by omega)
            simp only [Value.slice.injEq, Option.some.injEq, Addr.mk.injEq, and_true] at hv'
            obtain ⟨rfl, -, rfl⟩ := hv'
            have HO8 : ∀ y : Int, Hid (OwnR w3.heap.size (.slice (some ⟨b5, 0, none⟩) n1 c1) (xs.set k y) w2.heap.size w3.heap.size (w7.setCell ⟨b5, k, none⟩ (.int .i64 y))) := fun y => by
              have h := HO7.out
              rw [hx] at h
              have := ownR_setRow h hrr hb' hcc hmm hll k (by omega) y
              rw [← hx] at this
              exact this
            have HE8 : ∀ y : Int, Hid (AnyE (w.alloc ZL) g s0 w1.heap.size (.slice (some ⟨b4, 0, none⟩) n1 c4) xs (w7.setCell ⟨b5, k, none⟩ (.int .i64 y))) := fun y => HE7.out.far HS1.out b5 k _ hb' HL.out HQ.out.1 HB45.out
            go_wp2_with fail
            go_meet
            exact ⟨_, by rw [Hid, List.length_set]; exact Hx5.out.1, HE8 _, HO8 _⟩
        case rest =>
        obtain ⟨zs, hzs, HE8, HO8⟩ := hcut
        clear HE6 HO6 k6 r6
        have HB0 : Hid ((wc).heap[w.heap.size]? = some ZL) := grown_kept (HE8).out.grown (heap_alloc_new w ZL) (by have := Hs.out; have := Hg.out; simp; omega)
        have HB1 : Hid ((wc).heap[w.heap.size + 1]? = some ZL) := (by have h := (HE8).out.b0; rw [hss] at h; exact h)
        have k4 := cell_of_one (HE8).out.bB
        have k5 := (HO8).out.cell
        have z0 := cell_of_one (HB0.out)
        have z1 := cell_of_one (HB1.out)
        have f0 := free_of_one (HB0.out)
        have f1 := free_of_one (HB1.out)
        have d4 : w.heap.size + 1 < w1.heap.size := by have h1 := HE8.out.hB; rw [hss] at h1; omega
        have d5 : w.heap.size + 1 < w3.heap.size := by have := HL.out; have := HQ.out; omega
        have q0 : (((wc).setCell ⟨w.heap.size, 0, none⟩ (.slice (some ⟨b4, 0, none⟩) n1 c4)).setCell ⟨w.heap.size + 1, 0, none⟩ (.slice (some ⟨b5, 0, none⟩) n1 c1)).cell? ⟨w.heap.size, 0, none⟩ = some (.slice (some ⟨b4, 0, none⟩) n1 c4) := (by rw [World.cell?_setCell_other _ _ _ _ (by simp)]; exact World.cell?_setCell_same _ _ _ (z0))
        have q1 : (((wc).setCell ⟨w.heap.size, 0, none⟩ (.slice (some ⟨b4, 0, none⟩) n1 c4)).setCell ⟨w.heap.size + 1, 0, none⟩ (.slice (some ⟨b5, 0, none⟩) n1 c1)).cell? ⟨w.heap.size + 1, 0, none⟩ = some (.slice (some ⟨b5, 0, none⟩) n1 c1) := (by refine World.cell?_setCell_same _ _ _ (u := .slice none 0 0) ?_; rw [World.cell?_setCell_other _ _ _ _ (by simp)]; exact z1)
        go_wp2_with fail
        go_region_with (fail)
        all_goals clear k4 k5 z0 z1 f0 f1
        all_goals go_wp2
        all_goals refine bodyPost_ret (v := .tuple #[.agg #[.slice (some ⟨b4, 0, none⟩) n1 c4], .agg #[.slice (some ⟨b5, 0, none⟩) n1 c1]]) (by simp [results, go_sem, q0, q1]) rfl ⟨_, _, rfl, ?_⟩
        all_goals first | exact (twoDrawn_end Hs.out Hx5.out.1 hzs.out (by have h := (HE8).out.own; rw [hss] at h; exact h) (own_from2 (HO8).out.own HL.out) (HE8).out.cur (grownBy_trans (World.grownBy_alloc _ _ _) (HE8).out.grown) _ _).drew | exact twoDrawn_end Hs.out Hx5.out.1 hzs.out (by have h := (HE8).out.own; rw [hss] at h; exact h) (own_from2 (HO8).out.own HL.out) (HE8).out.cur (grownBy_trans (World.grownBy_alloc _ _ _) (HE8).out.grown) _ _
    · obtain rfl : n4 = 0 := by omega
      have HL : Hid (w.heap.size + 1 + 1 ≤ w2.heap.size) := by have h1 := HE2.out.hB; rw [hss] at h1; show _ ≤ _; omega
      have HEX : Hid (AnyE (w.alloc ZL) g s0 w1.heap.size (.slice (some ⟨b4, 0, none⟩) 0 c4) xs ((w2.alloc (.cells #[] 3 (0, 0))).alloc (.cells #[.slice (some ⟨w2.heap.size, 0, none⟩) 0 0] 26 (0, 0)))) := HE3.out.on HS1.out (below_alloc _ _)
      have HOX : Hid (OwnR (w2.heap.size + 1) (.slice (some ⟨w2.heap.size, 0, none⟩) 0 0) [] w2.heap.size (w2.heap.size + 1) ((w2.alloc (.cells #[] 3 (0, 0))).alloc (.cells #[.slice (some ⟨w2.heap.size, 0, none⟩) 0 0] 26 (0, 0)))) := by
        have h := ownR_new (lo := w2.heap.size) H1.out (Nat.le_refl _)
        rw [show (w2.alloc (.cells #[] 3 (0, 0))).heap.size = w2.heap.size + 1 by simp] at h
        exact h
      go_wp2
      clear H1 H2 HE3 o2
      generalize (w2.alloc (.cells #[] 3 (0, 0))).alloc (.cells #[.slice (some ⟨w2.heap.size, 0, none⟩) 0 0] 26 (0, 0)) = X at HEX HOX ⊢
      have HB0 : Hid ((X).heap[w.heap.size]? = some ZL) := grown_kept (HEX).out.grown (heap_alloc_new w ZL) (by have := Hs.out; have := Hg.out; simp; omega)
      have HB1 : Hid ((X).heap[w.heap.size + 1]? = some ZL) := (by have h := (HEX).out.b0; rw [hss] at h; exact h)
      have k4 := cell_of_one (HEX).out.bB
      have k5 := (HOX).out.cell
      have z0 := cell_of_one (HB0.out)
      have z1 := cell_of_one (HB1.out)
      have f0 := free_of_one (HB0.out)
      have f1 := free_of_one (HB1.out)
      have d4 : w.heap.size + 1 < w1.heap.size := by have h1 := HEX.out.hB; rw [hss] at h1; omega
      have d5 : w.heap.size + 1 < (w2.heap.size + 1) := by have := HL.out; omega
      have q0 : (((X).setCell ⟨w.heap.size, 0, none⟩ (.slice (some ⟨b4, 0, none⟩) 0 c4)).setCell ⟨w.heap.size + 1, 0, none⟩ (.slice (some ⟨w2.heap.size, 0, none⟩) 0 0)).cell? ⟨w.heap.size, 0, none⟩ = some (.slice (some ⟨b4, 0, none⟩) 0 c4) := (by rw [World.cell?_setCell_other _ _ _ _ (by simp)]; exact World.cell?_setCell_same _ _ _ (z0))
      have q1 : (((X).setCell ⟨w.heap.size, 0, none⟩ (.slice (some ⟨b4, 0, none⟩) 0 c4)).setCell ⟨w.heap.size + 1, 0, none⟩ (.slice (some ⟨w2.heap.size, 0, none⟩) 0 0)).cell? ⟨w.heap.size + 1, 0, none⟩ = some (.slice (some ⟨w2.heap.size, 0, none⟩) 0 0) := (by refine World.cell?_setCell_same _ _ _ (u := .slice none 0 0) ?_; rw [World.cell?_setCell_other _ _ _ _ (by simp)]; exact z1)
      go_region_with (fail)
      all_goals clear k4 k5 z0 z1 f0 f1
      all_goals go_wp2
      all_goals refine bodyPost_ret (v := .tuple #[.agg #[.slice (some ⟨b4, 0, none⟩) 0 c4], .agg #[.slice (some ⟨w2.heap.size, 0, none⟩) 0 0]]) (by simp [results, go_sem, q0, q1]) rfl ⟨_, _, rfl, ?_⟩
      all_goals first | exact (twoDrawn_end (ys := []) Hs.out Hx5.out.1 (by simp) (by have h := (HEX).out.own; rw [hss] at h; exact h) (own_from2 (HOX).out.own HL.out) (HEX).out.cur (grownBy_trans (World.grownBy_alloc _ _ _) (HEX).out.grown) _ _).drew | exact twoDrawn_end (ys := []) Hs.out Hx5.out.1 (by simp) (by have h := (HEX).out.own; rw [hss] at h; exact h) (own_from2 (HOX).out.own HL.out) (HEX).out.cur (grownBy_trans (World.grownBy_alloc _ _ _) (HEX).out.grown) _ _
end Go.Proofs.Ytbahokkofidmeaa
