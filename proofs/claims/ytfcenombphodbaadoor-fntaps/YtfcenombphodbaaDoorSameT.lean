/-
  The law's sameTree of two trees that read alike.
-/
import Derived.Test.YtfcenombphodbaaDoorMathSplit
import Derived.Test.YtfcenombphodbaaDoorDrawT
import Derived.Test.YtfcenombphodbaaDoorRegion3
import Derived.Laws.StructEq
namespace Go.Proofs.YtfcenombphodbaaDoor
open Go.RowKit
set_option linter.unusedVariables false
set_option maxRecDepth 100000

set_option maxRecDepth 100000 in
set_option maxHeartbeats 4000000 in
theorem sameTree_any (v u : Value) (ts : List Re) (w : World) (hx : IsTree w v ts) (hy : IsTree w u ts) (hn : ts.length ≤ 1048576) :
    Calls Tryd.prog 8 #[v, u] w fun e w' => e = .returned (.bool true) ∧ Below w.heap.size w w' := by
  have hx0 := hx
  have hy0 := hy
  obtain ⟨a, cap, rfl, hcap, _⟩ := hx
  obtain ⟨a', cap', rfl, hcap', _⟩ := hy
  have HX : Hid (IsTree w (.slice a ts.length cap) ts) := hx0
  have HY : Hid (IsTree w (.slice a' ts.length cap') ts) := hy0
  clear hx0 hy0
  go_enter Tryd.func8, Tryd.ntmps8
  go_wp2
  go_loopw [5] (fun i wr => ∃ k : Nat, k ≤ ts.length ∧ i = .int .i64 k ∧ Below w.heap.size w wr) (fun i _ => ts.length - (intOf i).toNat)
  case atStart => exact ⟨0, Nat.zero_le _, rfl, Below.refl _ _⟩
  case round =>
    obtain ⟨k, hk, rfl, hnx⟩ := hrel
    have HNX := hid_of hnx
    by_cases hlt : k < ts.length
    · obtain ⟨p, q, rfl, hq, hc⟩ := (HX.out.on hnx).at hlt
      obtain ⟨p', q', rfl, hq', hc'⟩ := (HY.out.on hnx).at hlt
      generalize reAt ts k = r at hc hc'
      obtain ⟨l, p1, x, y, z⟩ := r
      have HQ : Hid (Cells5 wr q ⟨l, p1, x, y, z⟩) := hc
      have HQ' : Hid (Cells5 wr q' ⟨l, p1, x, y, z⟩) := hc'
      clear hc hc' hnx
      go_wp2_with fail
      refine wp_region_whole (by kernel_rfl) (by kernel_rfl) (by kernel_rfl) (by kernel_rfl) (Flat (fun wz => Below wr.heap.size wr wz) (gVals [.slice (some p) ts.length cap, .int .i64 k, .pointer (some q), reV l p1 x y z, .slice (some p') ts.length cap', .int .i64 k, .pointer (some q'), reV l p1 x y z, .bool false])) (flat_start (below_draw wr)) ?_ ?_
      · refine ⟨?_, ?_, ?_, ?_, ?_, ?_, ?_, ?_, ?_, trivial⟩
        · intro b0 us wz L hslot hoth hLi hR hcl hdo K hK
          have s0 : b0.tmps.getD 0 undef = .slice (some p) ts.length cap := hoth 0 (by rfl)
          clear hslot hoth hdo hcl hLi
          refine guard_none (by rfl) ?_
          go_simp
          exact hK _ _ (flat_mark (hR.1) (fun _ _ h => h) hR.2 rfl)
        · intro b0 us wz L hslot hoth hLi hR hcl hdo K hK
          have s5 : b0.tmps.getD 5 undef = .int .i64 k := hoth 5 (by rfl)
          clear hslot hoth hdo hcl hLi
          refine guard_none (by rfl) ?_
          go_simp
          exact hK _ _ (flat_mark (hR.1) (fun _ _ h => h) hR.2 rfl)
        · intro b0 us wz L hslot hoth hLi hR hcl hdo K hK
          have s17 : b0.tmps.getD 17 undef = .slice (some p) ts.length cap := (hslot 0 17 (by rfl)).trans (hR.2 0 (done_at hdo 0 (by rfl)))
          have s18 : b0.tmps.getD 18 undef = .int .i64 k := (hslot 1 18 (by rfl)).trans (hR.2 1 (done_at hdo 1 (by rfl)))
          clear hslot hoth hdo hcl hLi
          refine guard_none (by rfl) ?_
          go_simp
          exact hK _ _ (flat_mark (hR.1) (fun _ _ h => h) hR.2 rfl)
        · intro b0 us wz L hslot hoth hLi hR hcl hdo K hK
          have s19 : b0.tmps.getD 19 undef = .pointer (some q) := (hslot 2 19 (by rfl)).trans (hR.2 2 (done_at hdo 2 (by rfl)))
          have c := HQ.out.on hR.1
          have k0 := c.c0
          have k1 := c.c1
          have k2 := c.c2
          have k3 := c.c3
          have k4 := c.c4
          simp only at k0 k1 k2 k3 k4
          clear c
          clear hslot hoth hdo hcl hLi
          refine guard_none (by rfl) ?_
          go_simp
          exact hK _ _ (flat_mark (hR.1) (fun _ _ h => h) hR.2 rfl)
        · intro b0 us wz L hslot hoth hLi hR hcl hdo K hK
          have s1 : b0.tmps.getD 1 undef = .slice (some p') ts.length cap' := hoth 1 (by rfl)
          clear hslot hoth hdo hcl hLi
          refine guard_none (by rfl) ?_
          go_simp
          exact hK _ _ (flat_mark (hR.1) (fun _ _ h => h) hR.2 rfl)
        · intro b0 us wz L hslot hoth hLi hR hcl hdo K hK
          have s5 : b0.tmps.getD 5 undef = .int .i64 k := hoth 5 (by rfl)
          clear hslot hoth hdo hcl hLi
          refine guard_none (by rfl) ?_
          go_simp
          exact hK _ _ (flat_mark (hR.1) (fun _ _ h => h) hR.2 rfl)
        · intro b0 us wz L hslot hoth hLi hR hcl hdo K hK
          have s21 : b0.tmps.getD 21 undef = .slice (some p') ts.length cap' := (hslot 4 21 (by rfl)).trans (hR.2 4 (done_at hdo 4 (by rfl)))
          have s22 : b0.tmps.getD 22 undef = .int .i64 k := (hslot 5 22 (by rfl)).trans (hR.2 5 (done_at hdo 5 (by rfl)))
          clear hslot hoth hdo hcl hLi
          refine guard_none (by rfl) ?_
          go_simp
          exact hK _ _ (flat_mark (hR.1) (fun _ _ h => h) hR.2 rfl)
        · intro b0 us wz L hslot hoth hLi hR hcl hdo K hK
          have s23 : b0.tmps.getD 23 undef = .pointer (some q') := (hslot 6 23 (by rfl)).trans (hR.2 6 (done_at hdo 6 (by rfl)))
          have c := HQ'.out.on hR.1
          have k0 := c.c0
          have k1 := c.c1
          have k2 := c.c2
          have k3 := c.c3
          have k4 := c.c4
          simp only at k0 k1 k2 k3 k4
          clear c
          clear hslot hoth hdo hcl hLi
          refine guard_none (by rfl) ?_
          go_simp
          exact hK _ _ (flat_mark (hR.1) (fun _ _ h => h) hR.2 rfl)
        · intro b0 us wz L hslot hoth hLi hR hcl hdo K hK
          have s20 : b0.tmps.getD 20 undef = reV l p1 x y z := (hslot 3 20 (by rfl)).trans (hR.2 3 (done_at hdo 3 (by rfl)))
          have s24 : b0.tmps.getD 24 undef = reV l p1 x y z := (hslot 7 24 (by rfl)).trans (hR.2 7 (done_at hdo 7 (by rfl)))
          clear hslot hoth hdo hcl hLi
          refine guard_none (by rfl) ?_
          go_simp
          exact hK _ _ (flat_mark (hR.1) (fun _ _ h => h) hR.2 rfl)
      · intro us wn L hall hR a' ha'
        have g0 : us 0 = .slice (some p) ts.length cap := hR.2 0 (hall 0 (by decide))
        have g1 : us 1 = .int .i64 k := hR.2 1 (hall 1 (by decide))
        have g2 : us 2 = .pointer (some q) := hR.2 2 (hall 2 (by decide))
        have g3 : us 3 = reV l p1 x y z := hR.2 3 (hall 3 (by decide))
        have g4 : us 4 = .slice (some p') ts.length cap' := hR.2 4 (hall 4 (by decide))
        have g5 : us 5 = .int .i64 k := hR.2 5 (hall 5 (by decide))
        have g6 : us 6 = .pointer (some q') := hR.2 6 (hall 6 (by decide))
        have g7 : us 7 = reV l p1 x y z := hR.2 7 (hall 7 (by decide))
        have g8 : us 8 = .bool false := hR.2 8 (hall 8 (by decide))
        have HB1 : Hid (Below wr.heap.size wr wn) := hR.1
        clear hR hall
        simp only [putAll, g0, g1, g2, g3, g4, g5, g6, g7, g8] at ha'
        subst ha'
        go_frame
        have HB2 := hid_of (below_more HNX.out HB1.out)
        clear hq hq' HQ HQ' HNX HB1
        go_wp2
        exact ⟨⟨k + 1, by omega, by go_num, HB2.out⟩, by simp [intOf]; omega⟩
    · obtain rfl : k = ts.length := by omega
      go_wp2
      go_ret
      exact ⟨rfl, HNX.out⟩
def AtAns (w : World) (e : Ending) (w' : World) : Prop := ∃ n : Nat, e = .returned (.int .i64 (n : Int)) ∧ w = w'
end Go.Proofs.YtfcenombphodbaaDoor
