/-
  A new arena: the model's and the program's.
-/
import Derived.Test.YtfjgbncbcmgjiabHeldA
namespace Go.Proofs.Ytfjgbncbcmgjiab
open Go.RowKit
set_option linter.unusedVariables false

def rootOb : Ob := ⟨0, 1, -1, 0, 1000000, 0, 0, 0, 0, false, [-1, -1], [], []⟩
def newA : List Ob := rootOb :: List.replicate 9 noOb
theorem OwnA.turned {g cap : Nat} {es : List El} {rest : List Value} {lo hi l0 h0 : Nat} {w w' : World} (h : OwnA g cap es rest lo hi w) (ht : Turned8 l0 h0 w w') (hd : hi ≤ l0 ∨ h0 ≤ lo) : OwnA g cap es rest lo hi w' :=
  ⟨ht.block _ _ h.at' (by have := h.lo; have := h.hi; omega), h.cap, h.lo, h.hi, fun i hi' => (h.own i hi').move (fun b x h1 h2 hx => ht.block _ _ hx (by omega)) (Nat.le_refl _) (Nat.le_refl _), h.ne, h.apart⟩
/-- An arena of the call's own is handed back. -/
def ArenaAns (os : List Ob) (w : World) (e : Ending) (w' : World) : Prop := ∃ g c fs rest, e = .returned (.slice (some ⟨g, 0, none⟩) os.length c) ∧ arOf fs = os ∧ OwnA g c fs rest w.heap.size w'.heap.size w' ∧ Below w.heap.size w w'
set_option maxRecDepth 100000 in
set_option maxHeartbeats 4000000 in
theorem specNew_any (w : World) :
    Calls Try.prog 7 #[] w fun e w' => ArenaAns newA w e w' := by
  have hm : (Instr.makeSlice 22 (.int .i64 10) (.int .i64 10)).run Try.prog w = .ok (.slice (some ⟨w.heap.size, 0, none⟩) 10 10) (w.alloc (.cells (ecells (List.replicate 10 noEl)).toArray 39 (0, 0))) := make_obs 10 (by omega) w
  have hs0 := ownA_zero w 10
  have hb0 : Below w.heap.size w (w.alloc (.cells (ecells (List.replicate 10 noEl)).toArray 39 (0, 0))) := below_alloc w _
  obtain ⟨W, hW⟩ : ∃ W, W = w.alloc (.cells (ecells (List.replicate 10 noEl)).toArray 39 (0, 0)) := ⟨_, rfl⟩
  rw [← hW] at hm hs0 hb0
  have hs1 := hs0.on (below_alloc W (.cells #[.int .i64 (-1), .int .i64 (-1)] 3 (0, 0)))
  have hb1 : Below w.heap.size w (W.alloc (.cells #[.int .i64 (-1), .int .i64 (-1)] 3 (0, 0))) := below_more hb0 (below_alloc W _)
  have hrow : RowIn (W.alloc (.cells #[.int .i64 (-1), .int .i64 (-1)] 3 (0, 0))) W.heap.size [-1, -1] [] := heap_alloc_new W _
  have hz : (W.alloc (.cells #[.int .i64 (-1), .int .i64 (-1)] 3 (0, 0))).heap.size = W.heap.size + 1 := by simp
  have ho : OwnO W.heap.size (W.alloc (.cells #[.int .i64 (-1), .int .i64 (-1)] 3 (0, 0))).heap.size (W.alloc (.cells #[.int .i64 (-1), .int .i64 (-1)] 3 (0, 0))) (.slice (some ⟨W.heap.size, 0, none⟩) 2 2) (.slice none 0 0) (.slice none 0 0) rootOb :=
    ⟨⟨_, 2, rfl, Nat.le_refl _, fun _ => ⟨W.heap.size, [], rfl, Nat.le_refl _, by omega, hrow⟩⟩, ⟨none, 0, rfl, Nat.le_refl _, fun h => absurd rfl h⟩, ⟨none, 0, rfl, Nat.le_refl _, fun h => absurd rfl h⟩, by simp [blk]⟩
  have h3 := hs1.put (e := ⟨rootOb, .slice (some ⟨W.heap.size, 0, none⟩) 2 2, .slice none 0 0, .slice none 0 0⟩) ho (by omega) (k := 0) (by simp)
  have hc := hs1.cells (i := 0) (by simp)
  rw [show elAt (List.replicate 10 noEl) 0 = noEl from rfl] at hc
  have d0 : (W.alloc (.cells #[.int .i64 (-1), .int .i64 (-1)] 3 (0, 0))).cell? ⟨w.heap.size, 0, none⟩ = some (.int .i64 0) := hc.c0
  have d1 : (W.alloc (.cells #[.int .i64 (-1), .int .i64 (-1)] 3 (0, 0))).cell? ⟨w.heap.size, 1, none⟩ = some (.int .i64 0) := hc.c1
  have d2 : (W.alloc (.cells #[.int .i64 (-1), .int .i64 (-1)] 3 (0, 0))).cell? ⟨w.heap.size, 2, none⟩ = some (.int .i64 0) := hc.c2
  have d3 : (W.alloc (.cells #[.int .i64 (-1), .int .i64 (-1)] 3 (0, 0))).cell? ⟨w.heap.size, 3, none⟩ = some (.int .i64 0) := hc.c3
  have d4 : (W.alloc (.cells #[.int .i64 (-1), .int .i64 (-1)] 3 (0, 0))).cell? ⟨w.heap.size, 4, none⟩ = some (.int .i64 0) := hc.c4
  have d5 : (W.alloc (.cells #[.int .i64 (-1), .int .i64 (-1)] 3 (0, 0))).cell? ⟨w.heap.size, 5, none⟩ = some (.int .i64 0) := hc.c5
  have d6 : (W.alloc (.cells #[.int .i64 (-1), .int .i64 (-1)] 3 (0, 0))).cell? ⟨w.heap.size, 6, none⟩ = some (.int .i64 0) := hc.c6
  have d7 : (W.alloc (.cells #[.int .i64 (-1), .int .i64 (-1)] 3 (0, 0))).cell? ⟨w.heap.size, 7, none⟩ = some (.int .i64 0) := hc.c7
  have d8 : (W.alloc (.cells #[.int .i64 (-1), .int .i64 (-1)] 3 (0, 0))).cell? ⟨w.heap.size, 8, none⟩ = some (.int .i64 0) := hc.c8
  have d9 : (W.alloc (.cells #[.int .i64 (-1), .int .i64 (-1)] 3 (0, 0))).cell? ⟨w.heap.size, 9, none⟩ = some (.bool false) := hc.c9
  have d10 : (W.alloc (.cells #[.int .i64 (-1), .int .i64 (-1)] 3 (0, 0))).cell? ⟨w.heap.size, 10, none⟩ = some (.slice none 0 0) := hc.c10
  have d11 : (W.alloc (.cells #[.int .i64 (-1), .int .i64 (-1)] 3 (0, 0))).cell? ⟨w.heap.size, 11, none⟩ = some (.slice none 0 0) := hc.c11
  have d12 : (W.alloc (.cells #[.int .i64 (-1), .int .i64 (-1)] 3 (0, 0))).cell? ⟨w.heap.size, 12, none⟩ = some (.slice none 0 0) := hc.c12
  have hf := hs1.free
  have f0 := hf 0
  have f1 := hf 1
  have f2 := hf 2
  have f3 := hf 3
  have f4 := hf 4
  have f5 := hf 5
  have f6 := hf 6
  have f7 := hf 7
  have f8 := hf 8
  have f9 := hf 9
  have f10 := hf 10
  have f11 := hf 11
  have f12 := hf 12
  have h4 := below_w13 hb1 (g := w.heap.size) (Nat.le_refl _) (0 * 13) rootOb (.slice (some ⟨W.heap.size, 0, none⟩) 2 2) (.slice none 0 0) (.slice none 0 0)
  have hz4 := size_w13 (W.alloc (.cells #[.int .i64 (-1), .int .i64 (-1)] 3 (0, 0))) w.heap.size (0 * 13) rootOb (.slice (some ⟨W.heap.size, 0, none⟩) 2 2) (.slice none 0 0) (.slice none 0 0)
  have H3 : Hid (OwnA w.heap.size 10 ((List.replicate 10 noEl).set 0 ⟨rootOb, .slice (some ⟨W.heap.size, 0, none⟩) 2 2, .slice none 0 0, .slice none 0 0⟩) [] w.heap.size (w13 (W.alloc (.cells #[.int .i64 (-1), .int .i64 (-1)] 3 (0, 0))) w.heap.size (0 * 13) rootOb (.slice (some ⟨W.heap.size, 0, none⟩) 2 2) (.slice none 0 0) (.slice none 0 0)).heap.size (w13 (W.alloc (.cells #[.int .i64 (-1), .int .i64 (-1)] 3 (0, 0))) w.heap.size (0 * 13) rootOb (.slice (some ⟨W.heap.size, 0, none⟩) 2 2) (.slice none 0 0) (.slice none 0 0))) := by rw [hz4]; exact h3
  have H4 := hid_of h4
  clear hs0 hs1 hb0 hb1 hrow hz ho h3 hc hf h4 hz4 hW
  go_enter Try.func7, Try.ntmps7
  go_wp2
  go_ret
  exact ⟨w.heap.size, 10, _, [], rfl, rfl, H3.out, H4.out⟩
set_option maxRecDepth 100000 in
set_option maxHeartbeats 4000000 in
theorem implNew_any (w : World) :
    Calls Try.prog 8 #[] w fun e w' => ArenaAns newA w e w' := by
  have hm : (Instr.makeSlice 22 (.int .i64 10) (.int .i64 10)).run Try.prog w = .ok (.slice (some ⟨w.heap.size, 0, none⟩) 10 10) (w.alloc (.cells (ecells (List.replicate 10 noEl)).toArray 39 (0, 0))) := make_obs 10 (by omega) w
  have hs0 := ownA_zero w 10
  have hb0 : Below w.heap.size w (w.alloc (.cells (ecells (List.replicate 10 noEl)).toArray 39 (0, 0))) := below_alloc w _
  obtain ⟨W, hW⟩ : ∃ W, W = w.alloc (.cells (ecells (List.replicate 10 noEl)).toArray 39 (0, 0)) := ⟨_, rfl⟩
  rw [← hW] at hm hs0 hb0
  have hs1 := hs0.on (below_alloc W (.cells #[.int .i64 (-1), .int .i64 (-1)] 3 (0, 0)))
  have hb1 : Below w.heap.size w (W.alloc (.cells #[.int .i64 (-1), .int .i64 (-1)] 3 (0, 0))) := below_more hb0 (below_alloc W _)
  have hrow : RowIn (W.alloc (.cells #[.int .i64 (-1), .int .i64 (-1)] 3 (0, 0))) W.heap.size [-1, -1] [] := heap_alloc_new W _
  have hz : (W.alloc (.cells #[.int .i64 (-1), .int .i64 (-1)] 3 (0, 0))).heap.size = W.heap.size + 1 := by simp
  have ho : OwnO W.heap.size (W.alloc (.cells #[.int .i64 (-1), .int .i64 (-1)] 3 (0, 0))).heap.size (W.alloc (.cells #[.int .i64 (-1), .int .i64 (-1)] 3 (0, 0))) (.slice (some ⟨W.heap.size, 0, none⟩) 2 2) (.slice none 0 0) (.slice none 0 0) rootOb :=
    ⟨⟨_, 2, rfl, Nat.le_refl _, fun _ => ⟨W.heap.size, [], rfl, Nat.le_refl _, by omega, hrow⟩⟩, ⟨none, 0, rfl, Nat.le_refl _, fun h => absurd rfl h⟩, ⟨none, 0, rfl, Nat.le_refl _, fun h => absurd rfl h⟩, by simp [blk]⟩
  have h3 := hs1.put (e := ⟨rootOb, .slice (some ⟨W.heap.size, 0, none⟩) 2 2, .slice none 0 0, .slice none 0 0⟩) ho (by omega) (k := 0) (by simp)
  have hc := hs1.cells (i := 0) (by simp)
  rw [show elAt (List.replicate 10 noEl) 0 = noEl from rfl] at hc
  have d0 : (W.alloc (.cells #[.int .i64 (-1), .int .i64 (-1)] 3 (0, 0))).cell? ⟨w.heap.size, 0, none⟩ = some (.int .i64 0) := hc.c0
  have d1 : (W.alloc (.cells #[.int .i64 (-1), .int .i64 (-1)] 3 (0, 0))).cell? ⟨w.heap.size, 1, none⟩ = some (.int .i64 0) := hc.c1
  have d2 : (W.alloc (.cells #[.int .i64 (-1), .int .i64 (-1)] 3 (0, 0))).cell? ⟨w.heap.size, 2, none⟩ = some (.int .i64 0) := hc.c2
  have d3 : (W.alloc (.cells #[.int .i64 (-1), .int .i64 (-1)] 3 (0, 0))).cell? ⟨w.heap.size, 3, none⟩ = some (.int .i64 0) := hc.c3
  have d4 : (W.alloc (.cells #[.int .i64 (-1), .int .i64 (-1)] 3 (0, 0))).cell? ⟨w.heap.size, 4, none⟩ = some (.int .i64 0) := hc.c4
  have d5 : (W.alloc (.cells #[.int .i64 (-1), .int .i64 (-1)] 3 (0, 0))).cell? ⟨w.heap.size, 5, none⟩ = some (.int .i64 0) := hc.c5
  have d6 : (W.alloc (.cells #[.int .i64 (-1), .int .i64 (-1)] 3 (0, 0))).cell? ⟨w.heap.size, 6, none⟩ = some (.int .i64 0) := hc.c6
  have d7 : (W.alloc (.cells #[.int .i64 (-1), .int .i64 (-1)] 3 (0, 0))).cell? ⟨w.heap.size, 7, none⟩ = some (.int .i64 0) := hc.c7
  have d8 : (W.alloc (.cells #[.int .i64 (-1), .int .i64 (-1)] 3 (0, 0))).cell? ⟨w.heap.size, 8, none⟩ = some (.int .i64 0) := hc.c8
  have d9 : (W.alloc (.cells #[.int .i64 (-1), .int .i64 (-1)] 3 (0, 0))).cell? ⟨w.heap.size, 9, none⟩ = some (.bool false) := hc.c9
  have d10 : (W.alloc (.cells #[.int .i64 (-1), .int .i64 (-1)] 3 (0, 0))).cell? ⟨w.heap.size, 10, none⟩ = some (.slice none 0 0) := hc.c10
  have d11 : (W.alloc (.cells #[.int .i64 (-1), .int .i64 (-1)] 3 (0, 0))).cell? ⟨w.heap.size, 11, none⟩ = some (.slice none 0 0) := hc.c11
  have d12 : (W.alloc (.cells #[.int .i64 (-1), .int .i64 (-1)] 3 (0, 0))).cell? ⟨w.heap.size, 12, none⟩ = some (.slice none 0 0) := hc.c12
  have hf := hs1.free
  have f0 := hf 0
  have f1 := hf 1
  have f2 := hf 2
  have f3 := hf 3
  have f4 := hf 4
  have f5 := hf 5
  have f6 := hf 6
  have f7 := hf 7
  have f8 := hf 8
  have f9 := hf 9
  have f10 := hf 10
  have f11 := hf 11
  have f12 := hf 12
  have h4 := below_w13 hb1 (g := w.heap.size) (Nat.le_refl _) (0 * 13) rootOb (.slice (some ⟨W.heap.size, 0, none⟩) 2 2) (.slice none 0 0) (.slice none 0 0)
  have hz4 := size_w13 (W.alloc (.cells #[.int .i64 (-1), .int .i64 (-1)] 3 (0, 0))) w.heap.size (0 * 13) rootOb (.slice (some ⟨W.heap.size, 0, none⟩) 2 2) (.slice none 0 0) (.slice none 0 0)
  have H3 : Hid (OwnA w.heap.size 10 ((List.replicate 10 noEl).set 0 ⟨rootOb, .slice (some ⟨W.heap.size, 0, none⟩) 2 2, .slice none 0 0, .slice none 0 0⟩) [] w.heap.size (w13 (W.alloc (.cells #[.int .i64 (-1), .int .i64 (-1)] 3 (0, 0))) w.heap.size (0 * 13) rootOb (.slice (some ⟨W.heap.size, 0, none⟩) 2 2) (.slice none 0 0) (.slice none 0 0)).heap.size (w13 (W.alloc (.cells #[.int .i64 (-1), .int .i64 (-1)] 3 (0, 0))) w.heap.size (0 * 13) rootOb (.slice (some ⟨W.heap.size, 0, none⟩) 2 2) (.slice none 0 0) (.slice none 0 0))) := by rw [hz4]; exact h3
  have H4 := hid_of h4
  clear hs0 hs1 hb0 hb1 hrow hz ho h3 hc hf h4 hz4 hW
  go_enter Try.func8, Try.ntmps8
  go_wp2
  go_ret
  exact ⟨w.heap.size, 10, _, [], rfl, rfl, H3.out, H4.out⟩
end Go.Proofs.Ytfjgbncbcmgjiab
