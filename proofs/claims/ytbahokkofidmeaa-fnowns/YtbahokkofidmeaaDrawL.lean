/-
  l3Label: a label is drawn.
-/
import Derived.Test.YtbahokkofidmeaaDrawE
import Derived.Test.YtbahokkofidmeaaIRight
namespace Go.Proofs.Ytbahokkofidmeaa
open Go.RowKit
set_option linter.unusedVariables false

/-- The answer's place, the label that grows, and a cursor that is right. -/
structure GrowE (w : World) (g s0 : Nat) (out : Value) (xs : List Int) (wr : World) : Prop where
  b0 : wr.heap[w.heap.size]? = some (.cells #[.slice none 0 0] 26 (0, 0))
  b1 : wr.heap[w.heap.size + 1]? = some (.cells #[out] 26 (0, 0))
  own : wr.ownsRow (w.heap.size + 1 + 1) 3 1 out xs.length (icells xs)
  cur : CurE wr g s0
  grown : w.grownBy wr (some g)
theorem grown_then {w wr w' : World} {row : Option Nat} {B : Nat} (h : w.grownBy wr row) (hb : Below B wr w') (hB : w.heap.size ≤ B) : w.grownBy w' row :=
  ⟨hb.os.trans h.os, hb.tape.trans h.tape, hb.output.trans h.output, Nat.le_trans h.size hb.size, fun k hk hne => (hb.block k (by omega)).trans (h.block k hk hne)⟩
theorem undrew {wr w' : World} {row : Option Nat} (h : wr.drew.grownBy w' row) : wr.grownBy w' row := ⟨h.os, h.tape, h.output, h.size, h.block⟩
theorem growE_by {w wr w' : World} {g s0 : Nat} {out : Value} {xs : List Int} (h : GrowE w g s0 out xs wr) (hs : s0 ≤ w.heap.size) (hc : CurE w' g s0) (hg : wr.grownBy w' (some g)) : GrowE w g s0 out xs w' := by
  have hlt := hc.lt
  exact ⟨grown_kept hg h.b0 (by simp; omega), grown_kept hg h.b1 (by simp; omega), own_kept h.own fun k o n c _ hl ho => grown_kept hg ho (by simp; omega), hc, grownBy_trans h.grown hg⟩
theorem GrowE.size {w wr : World} {g s0 : Nat} {out : Value} {xs : List Int} (h : GrowE w g s0 out xs wr) : w.heap.size + 1 + 1 ≤ wr.heap.size := lt_of_block h.b1
theorem growE_put {w wr w3 : World} {g s0 : Nat} {out v : Value} {xs ys : List Int} (h : GrowE w g s0 out xs wr) (hs : s0 ≤ w.heap.size) (hb : Below (w.heap.size + 1 + 1) wr w3) (hown : w3.ownsRow (w.heap.size + 1 + 1) 3 1 v ys.length (icells ys)) : GrowE w g s0 v ys (w3.setCell ⟨w.heap.size + 1, 0, none⟩ v) := by
  refine ⟨?_, ?_, ownsRow_setCell_below hown (by simp) v, ?_, ?_⟩
  · rw [heap_setCell_other _ _ _ _ (by simp), hb.block _ (by omega)]; exact h.b0
  · exact one_setCell (by rw [hb.block _ (by omega)]; exact h.b1)
  · exact (h.cur.below (hb.mono (by omega))).set _ _ _ (by omega)
  · exact grown_then (grown_then h.grown hb (by omega)) ((Below.refl w.heap.size w3).setCell (by simp) _) (Nat.le_refl _)
def growEW (w : World) : World := (w.alloc (.cells #[.slice none 0 0] 26 (0, 0))).alloc (.cells #[.slice none 0 0] 26 (0, 0))
theorem growE_start {w : World} {g s0 : Nat} (h : CurE w g s0) (hs : s0 ≤ w.heap.size) : GrowE w g s0 (.slice none 0 0) [] (growEW w) := by
  have hb : Below w.heap.size w (growEW w) := ((Below.refl _ _).alloc (Nat.le_refl _) _).alloc (by simp) _
  refine ⟨?_, ?_, World.ownsRow_nil _ _ _ _, h.below (hb.mono hs), grown_then (World.grownBy.refl _ _) hb (Nat.le_refl _)⟩
  · unfold growEW
    rw [heap_alloc_old _ _ (by simp)]
    exact heap_alloc_new w _
  · have := heap_alloc_new (w.alloc (.cells #[.slice none 0 0] 26 (0, 0))) (.cells #[.slice none 0 0] 26 (0, 0))
    simpa [growEW] using this

set_option maxRecDepth 100000 in
set_option maxHeartbeats 2000000 in
theorem l3Label_any (w : World) (g s0 : Nat) (hc : CurE w g s0) (hs : s0 ≤ w.heap.size) :
    Calls Try.prog 64 #[.pointer (some ⟨g, 0, none⟩)] w fun e w' => ∃ r xs, e = .returned (.agg #[r]) ∧ xs.length = 4 ∧ w'.ownsRow (w.heap.size + 1) 3 1 r xs.length (icells xs) ∧ CurE w' g s0 ∧ w.grownBy w' (some g) := by
  have HG0 : Hid (GrowE w g s0 (.slice none 0 0) [] (growEW w)) := growE_start hc hs
  have Hs : Hid (s0 ≤ w.heap.size) := hs
  clear hc hs
  go_enter Try.func64, Try.ntmps64
  go_wp2
  go_loopw [4] (fun i wr => ∃ (k : Nat) (out : Value) (xs : List Int), k ≤ 4 ∧ i = .int .i64 k ∧ xs.length = k ∧ Hid (GrowE w g s0 out xs wr)) (fun i _ => 4 - (intOf i).toNat)
  case atStart => exact ⟨0, _, _, Nat.zero_le _, rfl, rfl, HG0⟩
  case round =>
    obtain ⟨k, out, xs, hk, rfl, hxs, hg⟩ := hrel
    clear HG0
    by_cases hlt : k < 4
    · have o1 := cell_of_one hg.out.b1
      have hxk : Hid (xs.length = k) := hxs
      clear hxs
      go_wp2
      go_region_law (first
        | (refine step_below rfl (.tmp 12) 4 rfl g s0 rfl hg.out.cur.drew (by omega) (by omega) ?_; intro v w5 hv hcE hgr; have HG5 : Hid (GrowE w g s0 out xs w5) := growE_by hg.out Hs.out hcE.out (undrew hgr.out); have o5 := cell_of_one HG5.out.b1; have o5' : ∀ o : Obj, (w5.alloc o).cell? ⟨w.heap.size + 1, 0, none⟩ = some out := fun o => (World.cell?_alloc_lt _ _ _ (lt_of_block HG5.out.b1)).trans o5)
        | (refine step_appI rfl (.tmp 11) (.tmp 14) rfl w5 _ (w.heap.size + 1 + 1) w5.heap.size out xs [(v : Int)] _ 1 rfl rfl (HG5.out.own.alloc _) (heap_alloc_new w5 _) rfl rfl (by rw [hxk.out]; omega) (by simp; have := HG5.out.size; omega) ((Below.refl _ _).alloc HG5.out.size _) ?_; intro v' w3 hown' hnx'; obtain ⟨a1, n1, c1, rfl⟩ := own_shape hown'.out; have g1 := cell_of_one (show w3.heap[w.heap.size + 1]? = _ by rw [hnx'.block _ (by omega)]; exact HG5.out.b1); have g2 := free_of_one (show w3.heap[w.heap.size + 1]? = _ by rw [hnx'.block _ (by omega)]; exact HG5.out.b1)))
      all_goals clear o1 o5 o5' g1 g2
      all_goals go_wp2
      all_goals exact ⟨⟨k + 1, _, _, by omega, by go_num, by rw [List.length_append, hxk.out]; rfl, growE_put HG5.out Hs.out hnx' hown'.out⟩, by simp [intOf]; omega⟩
    · obtain rfl : k = 4 := by omega
      obtain ⟨a1, n1, c1, rfl⟩ := own_shape hg.out.own
      have o0 := cell_of_one hg.out.b0
      have o1 := cell_of_one hg.out.b1
      have f0 := free_of_one hg.out.b0
      have hxk : Hid (xs.length = 4) := hxs
      clear hxs
      go_wp2
      have q0 : (wr.setCell ⟨w.heap.size, 0, none⟩ (.slice a1 n1 c1)).cell? ⟨w.heap.size, 0, none⟩ = some (.slice a1 n1 c1) := World.cell?_setCell_same _ _ _ o0
      refine bodyPost_ret (v := .agg #[.slice a1 n1 c1]) (by simp [results, go_sem, q0]) rfl ⟨_, xs, rfl, hxk.out, ?_, ?_, ?_⟩
      · exact own_from (ownsRow_setCell_below hg.out.own (by first | (simp; done) | (simp; omega)) _) (by omega)
      · exact hg.out.cur.set _ _ _ Hs.out
      · exact grown_then hg.out.grown ((Below.refl w.heap.size wr).setCell (Nat.le_refl _) _) (Nat.le_refl _)
end Go.Proofs.Ytbahokkofidmeaa
