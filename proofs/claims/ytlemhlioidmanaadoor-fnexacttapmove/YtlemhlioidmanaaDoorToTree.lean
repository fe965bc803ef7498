/-
  The laws' own copies of trees; two trees alike.
-/
import Derived.Test.YtlemhlioidmanaaDoorTree
import Derived.Test.YtlemhlioidmanaaDoorWhole
namespace Go.Proofs.YtlemhlioidmanaaDoor
open Go.RowKit
set_option linter.unusedVariables false
set_option maxRecDepth 100000

set_option maxHeartbeats 1000000 in
theorem toResS_any (v : Value) (ts : List Re) (w : World) (hx : IsTree w v ts) (hn : ts.length ≤ 1048576) :
    Calls Tryd.prog 41 #[v] w fun e w' => e = .returned (.slice (some ⟨w.heap.size, 0, none⟩) ts.length ts.length) ∧ TreeAt w' w.heap.size ts ∧ Below w.heap.size w w' := by
  have hx0 := hx
  obtain ⟨a, cap, rfl, hcap, _⟩ := hx
  have hm := make_tree ts.length (by omega) w
  have hs0 : TreeAt (w.alloc (.cells (rcells (List.replicate ts.length noRe)).toArray 51 (0, 0))) w.heap.size (fillT ts 0) := by rw [fillT_start]; exact heap_alloc_new w _
  have hb0 : Below w.heap.size w (w.alloc (.cells (rcells (List.replicate ts.length noRe)).toArray 51 (0, 0))) := (Below.refl _ _).alloc (Nat.le_refl _) _
  obtain ⟨W, hW⟩ : ∃ W, W = w.alloc (.cells (rcells (List.replicate ts.length noRe)).toArray 51 (0, 0)) := ⟨_, rfl⟩
  rw [← hW] at hm hs0 hb0
  have HX : Hid (∀ wr, Below w.heap.size w wr → IsTree wr (.slice a ts.length cap) ts) := fun wr hb => hx0.on hb
  have HS : Hid (TreeAt W w.heap.size (fillT ts 0)) := hs0
  obtain ⟨g, hg⟩ : ∃ g, g = w.heap.size := ⟨_, rfl⟩
  have HG : Hid (g = w.heap.size) := hg
  rw [← hg] at hm HS hb0 HX ⊢
  clear hx0 hs0 hW hg
  go_enter Tryd.func41, Tryd.ntmps41
  go_wp2
  go_loopw [4] (fun i wr => ∃ k : Nat, k ≤ ts.length ∧ i = .int .i64 k ∧ Hid (TreeAt wr g (fillT ts k)) ∧ Below g w wr) (fun i _ => ts.length - (intOf i).toNat)
  case atStart => exact ⟨0, Nat.zero_le _, rfl, HS, hb0⟩
  case round =>
    obtain ⟨k, hk, rfl, hrow, hnx⟩ := hrel
    clear HS hb0 hm
    by_cases hlt : k < ts.length
    · obtain ⟨p, q, rfl, hq, hc⟩ := (HX.out wr hnx).at hlt
      have H1 : Hid (∀ w', Below wr.heap.size wr w' → TreeAt (w5 w' g (k * 5) (reAt ts k).live (reAt ts k).par (reAt ts k).a (reAt ts k).b (reAt ts k).c) g (fillT ts (k + 1)) ∧ Spare5 w' g (k * 5)) := fun w' hb => by
        rw [← fillT_set ts k hlt]
        exact ⟨(hrow.out.on hb).set k (by rw [fillT_length _ _ hk]; exact hlt) _, (hrow.out.on hb).spare k (by rw [fillT_length _ _ hk]; exact hlt)⟩
      have C := toRes_any (reAt ts k).live (reAt ts k).par (reAt ts k).a (reAt ts k).b (reAt ts k).c wr
      obtain ⟨c0, c1, c2, c3, c4⟩ := hc
      generalize reAt ts k = r at c0 c1 c2 c3 c4 H1 C
      obtain ⟨l, p1, x, y, z⟩ := r
      simp only at c0 c1 c2 c3 c4 C
      go_wp2_with fail
      refine C.mono ?_
      rintro e w1 ⟨rfl, hb1⟩
      obtain ⟨hset, ⟨u0, d0⟩, ⟨u1, d1⟩, ⟨u2, d2⟩, ⟨u3, d3⟩, ⟨u4, d4⟩, hf⟩ := H1.out w1 hb1
      have f0 := hf (k * 5)
      have f1 := hf (k * 5 + 1)
      have f2 := hf (k * 5 + 2)
      have f3 := hf (k * 5 + 3)
      have f4 := hf (k * 5 + 4)
      have H2 : Hid (TreeAt (w5 w1 g (k * 5) l p1 x y z) g (fillT ts (k + 1))) := hset
      have hgs : g ≤ wr.heap.size := by rw [HG.out]; exact hnx.size
      have hnx' : Below g w (w5 w1 g (k * 5) l p1 x y z) := below_w5 (hnx.trans (hb1.mono hgs)) (Nat.le_refl _) _ _ _ _ _
      clear C H1 hb1 hrow hnx c0 c1 c2 c3 c4 hq hset hf
      go_wp2
      go_roundw
      case rel => exact ⟨k + 1, by omega, by go_num, H2, hnx'⟩
      case measure => simp [intOf]; omega
    · obtain rfl : k = ts.length := by omega
      have hend : Hid (TreeAt wr g ts) := by have := hrow.out; rw [fillT_end] at this; exact this
      go_wp2
      go_ret
      exact ⟨rfl, hend.out, hnx⟩

set_option maxHeartbeats 2000000 in
theorem eqResS_same (v u : Value) (ts : List Re) (w : World) (hx : IsTree w v ts) (hy : IsTree w u ts) (hn : ts.length ≤ 1048576) :
    Calls Tryd.prog 59 #[v, u] w fun e w' => e = .returned (.bool true) ∧ Below w.heap.size w w' := by
  have hx0 := hx
  have hy0 := hy
  obtain ⟨a, cap, rfl, hcap, _⟩ := hx
  obtain ⟨b, cap', rfl, hcap', _⟩ := hy
  have HX : Hid (∀ wr, Below w.heap.size w wr → IsTree wr (.slice a ts.length cap) ts) := fun wr hb => hx0.on hb
  have HY : Hid (∀ wr, Below w.heap.size w wr → IsTree wr (.slice b ts.length cap') ts) := fun wr hb => hy0.on hb
  have hne : ((ts.length : Int) != ts.length) = false := by simp
  clear hx0 hy0
  go_enter Tryd.func59, Tryd.ntmps59
  go_wp2
  go_loopw [5] (fun i wr => ∃ k : Nat, k ≤ ts.length ∧ i = .int .i64 k ∧ Below w.heap.size w wr) (fun i _ => ts.length - (intOf i).toNat)
  case atStart => exact ⟨0, Nat.zero_le _, rfl, Below.refl _ _⟩
  case round =>
    obtain ⟨k, hk, rfl, hnx⟩ := hrel
    by_cases hlt : k < ts.length
    · obtain ⟨p, q, rfl, hq, c0, c1, c2, c3, c4⟩ := (HX.out wr hnx).at hlt
      obtain ⟨p', q', rfl, hq', c0', c1', c2', c3', c4'⟩ := (HY.out wr hnx).at hlt
      have C : Hid (∀ w, _) := eqRes_same (reAt ts k).live (reAt ts k).par (reAt ts k).a (reAt ts k).b (reAt ts k).c
      generalize reAt ts k = r at c0 c1 c2 c3 c4 c0' c1' c2' c3' c4' C
      obtain ⟨l, p1, x, y, z⟩ := r
      simp only at c0 c1 c2 c3 c4 c0' c1' c2' c3' c4' C
      have HQ : Hid (Cells5 wr q ⟨l, p1, x, y, z⟩) := ⟨c0, c1, c2, c3, c4⟩
      have HQ' : Hid (Cells5 wr q' ⟨l, p1, x, y, z⟩) := ⟨c0', c1', c2', c3', c4'⟩
      clear c0 c1 c2 c3 c4 c0' c1' c2' c3' c4'
      go_wp2_with fail
      refine wp_region_whole (by kernel_rfl) (by kernel_rfl) (by kernel_rfl) (by kernel_rfl) (Flat (fun wz => Below w.heap.size w wz ∧ Below wr.heap.size wr wz) (gVals [.slice (some p) ts.length cap, .int .i64 k, .pointer (some q), reV l p1 x y z, .slice (some p') ts.length cap', .int .i64 k, .pointer (some q'), reV l p1 x y z, .bool true, .bool false])) (flat_start ⟨hnx.drew, (below_draw wr)⟩) ?_ ?_
      · refine ⟨?_, ?_, ?_, ?_, ?_, ?_, ?_, ?_, ?_, ?_, trivial⟩
        · intro b0 us wz L hslot hoth hLi hR hcl hdo K hK
          have s0 : b0.tmps.getD 0 undef = .slice (some p) ts.length cap := hoth 0 (by rfl)
          clear hslot hoth hdo hcl hLi
          refine guard_none (by rfl) ?_
          go_simp
          exact hK _ _ (flat_mark (hR.1) (fun _ _ h => h) hR.2 rfl)
        · intro b0 us wz L hslot hoth hLi hR hcl hdo K hK
          have s5 : b0.tmps.getD 5 undef = .int .i64 k := hoth 5 (by rfl)
          clear hslot hoth hdo hcl hLi
          refine guard_none (by rfl) ?_
          go_simp
          exact hK _ _ (flat_mark (hR.1) (fun _ _ h => h) hR.2 rfl)
        · intro b0 us wz L hslot hoth hLi hR hcl hdo K hK
          have s17 : b0.tmps.getD 17 undef = .slice (some p) ts.length cap := (hslot 0 17 (by rfl)).trans (hR.2 0 (done_at hdo 0 (by rfl)))
          have s18 : b0.tmps.getD 18 undef = .int .i64 k := (hslot 1 18 (by rfl)).trans (hR.2 1 (done_at hdo 1 (by rfl)))
          clear hslot hoth hdo hcl hLi
          refine guard_none (by rfl) ?_
          go_simp
          exact hK _ _ (flat_mark (hR.1) (fun _ _ h => h) hR.2 rfl)
        · intro b0 us wz L hslot hoth hLi hR hcl hdo K hK
          have s19 : b0.tmps.getD 19 undef = .pointer (some q) := (hslot 2 19 (by rfl)).trans (hR.2 2 (done_at hdo 2 (by rfl)))
          have c := (HQ.out.on hR.1.2)
          have k0 := c.c0
          have k1 := c.c1
          have k2 := c.c2
          have k3 := c.c3
          have k4 := c.c4
          simp only at k0 k1 k2 k3 k4
          clear c
          clear hslot hoth hdo hcl hLi
          refine guard_none (by rfl) ?_
          go_simp
          exact hK _ _ (flat_mark (hR.1) (fun _ _ h => h) hR.2 rfl)
        · intro b0 us wz L hslot hoth hLi hR hcl hdo K hK
          have s1 : b0.tmps.getD 1 undef = .slice (some p') ts.length cap' := hoth 1 (by rfl)
          clear hslot hoth hdo hcl hLi
          refine guard_none (by rfl) ?_
          go_simp
          exact hK _ _ (flat_mark (hR.1) (fun _ _ h => h) hR.2 rfl)
        · intro b0 us wz L hslot hoth hLi hR hcl hdo K hK
          have s5 : b0.tmps.getD 5 undef = .int .i64 k := hoth 5 (by rfl)
          clear hslot hoth hdo hcl hLi
          refine guard_none (by rfl) ?_
          go_simp
          exact hK _ _ (flat_mark (hR.1) (fun _ _ h => h) hR.2 rfl)
        · intro b0 us wz L hslot hoth hLi hR hcl hdo K hK
          have s21 : b0.tmps.getD 21 undef = .slice (some p') ts.length cap' := (hslot 4 21 (by rfl)).trans (hR.2 4 (done_at hdo 4 (by rfl)))
          have s22 : b0.tmps.getD 22 undef = .int .i64 k := (hslot 5 22 (by rfl)).trans (hR.2 5 (done_at hdo 5 (by rfl)))
          clear hslot hoth hdo hcl hLi
          refine guard_none (by rfl) ?_
          go_simp
          exact hK _ _ (flat_mark (hR.1) (fun _ _ h => h) hR.2 rfl)
        · intro b0 us wz L hslot hoth hLi hR hcl hdo K hK
          have s23 : b0.tmps.getD 23 undef = .pointer (some q') := (hslot 6 23 (by rfl)).trans (hR.2 6 (done_at hdo 6 (by rfl)))
          have c := (HQ'.out.on hR.1.2)
          have k0 := c.c0
          have k1 := c.c1
          have k2 := c.c2
          have k3 := c.c3
          have k4 := c.c4
          simp only at k0 k1 k2 k3 k4
          clear c
          clear hslot hoth hdo hcl hLi
          refine guard_none (by rfl) ?_
          go_simp
          exact hK _ _ (flat_mark (hR.1) (fun _ _ h => h) hR.2 rfl)
        · intro b0 us wz L hslot hoth hLi hR hcl hdo K hK
          have s20 : b0.tmps.getD 20 undef = reV l p1 x y z := (hslot 3 20 (by rfl)).trans (hR.2 3 (done_at hdo 3 (by rfl)))
          have s24 : b0.tmps.getD 24 undef = reV l p1 x y z := (hslot 7 24 (by rfl)).trans (hR.2 7 (done_at hdo 7 (by rfl)))
          clear hslot hoth hdo hcl hLi
          refine guard_none (by rfl) ?_
          go_simp
          refine (C.out _).mono ?_
          rintro e w' ⟨rfl, hb⟩
          exact hK _ _ (flat_mark ⟨below_more hR.1.1 hb, below_more hR.1.2 hb⟩ (fun _ _ h => h) hR.2 rfl)
        · intro b0 us wz L hslot hoth hLi hR hcl hdo K hK
          have s25 : b0.tmps.getD 25 undef = .bool true := (hslot 8 25 (by rfl)).trans (hR.2 8 (done_at hdo 8 (by rfl)))
          clear hslot hoth hdo hcl hLi
          refine guard_none (by rfl) ?_
          go_simp
          exact hK _ _ (flat_mark (hR.1) (fun _ _ h => h) hR.2 rfl)
      · intro us wn L hall hR a' ha'
        have g0 : us 0 = .slice (some p) ts.length cap := hR.2 0 (hall 0 (by decide))
        have g1 : us 1 = .int .i64 k := hR.2 1 (hall 1 (by decide))
        have g2 : us 2 = .pointer (some q) := hR.2 2 (hall 2 (by decide))
        have g3 : us 3 = reV l p1 x y z := hR.2 3 (hall 3 (by decide))
        have g4 : us 4 = .slice (some p') ts.length cap' := hR.2 4 (hall 4 (by decide))
        have g5 : us 5 = .int .i64 k := hR.2 5 (hall 5 (by decide))
        have g6 : us 6 = .pointer (some q') := hR.2 6 (hall 6 (by decide))
        have g7 : us 7 = reV l p1 x y z := hR.2 7 (hall 7 (by decide))
        have g8 : us 8 = .bool true := hR.2 8 (hall 8 (by decide))
        have g9 : us 9 = .bool false := hR.2 9 (hall 9 (by decide))
        have HB1 : Hid (Below w.heap.size w wn) := hR.1.1
        clear hR hall
        simp only [putAll, g0, g1, g2, g3, g4, g5, g6, g7, g8, g9] at ha'
        subst ha'
        go_frame
        clear hq hq' HQ HQ' C
        go_wp2
        exact ⟨⟨k + 1, by omega, by go_num, HB1.out⟩, by simp [intOf]; omega⟩
    · obtain rfl : k = ts.length := by omega
      go_wp2
      go_ret
      exact ⟨rfl, hnx⟩
end Go.Proofs.YtlemhlioidmanaaDoor
