/-
  DrawFlows and DrawJoin: two labels out of a code.
-/
import Derived.Test.YtpdhlnnepgkmkaaDrawC
namespace Go.Proofs.Ytpdhlnnepgkmkaa
open Go.RowKit
set_option linter.unusedVariables false

/-- Two labels, drawn. -/
def TwoLabels (w : World) (r1 r2 : Value) (w' : World) : Prop :=
  ∃ xs ys : List Int, xs.length ≤ 5 ∧ ys.length ≤ 5 ∧ w'.ownsRow (w.heap.size + 1 + 1) 3 1 r1 xs.length (icells xs) ∧ w'.ownsRow (w.heap.size + 1 + 1) 3 1 r2 ys.length (icells ys) ∧ Below w.heap.size w w'
theorem two_end {w w1 w3 : World} {g s0 : Nat} {r1 r2 : Value} (hb : Below (w.heap.size + 1 + 1) ((w.alloc ZL).alloc ZL) w1) (hg : w.heap.size + 1 + 1 ≤ g) (h : TwoDrawn w1 g s0 r1 r2 w3) (u v : Value) :
    TwoLabels w r1 r2 ((w3.setCell ⟨w.heap.size, 0, none⟩ u).setCell ⟨w.heap.size + 1, 0, none⟩ v) := by
  obtain ⟨xs, ys, h1, h2, o1, o2, hc, hgr⟩ := h
  have hsz : w.heap.size + 1 + 1 ≤ w1.heap.size := by have := hb.size; simp at this; omega
  refine ⟨xs, ys, h1, h2, ?_, ?_, ?_⟩
  · exact own_from2 (ownsRow_setCell_below (ownsRow_setCell_below o1 (by simp; omega) _) (by simp; omega) _) (by omega)
  · exact own_from2 (ownsRow_setCell_below (ownsRow_setCell_below o2 (by simp; omega) _) (by simp; omega) _) (by omega)
  · have h0 : Below w.heap.size w w1 := (((Below.refl w.heap.size w).alloc (Nat.le_refl _) _).alloc (by simp) _).trans (hb.mono (by omega))
    have h3 : Below w.heap.size w w3 := h0.grown hgr h0.size (fun k e => by have := Option.some.inj e; omega)
    exact (h3.setCell (by simp) _).setCell (by simp) _

set_option maxHeartbeats 1000000 in
theorem drawFlows_any (w : World) (a : Option Addr) (len cap : Nat) (cb : Nat → Nat) (hc : Code0 w a len cb) :
    Calls Try.prog 10 #[.slice a len cap] w fun e w' => ∃ r1 r2, e = .returned (.tuple #[.agg #[r1], .agg #[r2]]) ∧ TwoLabels w r1 r2 w' := by
  have hb0 : Below w.heap.size w ((w.alloc ZL).alloc ZL) := ((Below.refl _ _).alloc (Nat.le_refl _) _).alloc (by simp) _
  have C1 := newE ((w.alloc ZL).alloc ZL) a len cap cb (hc.on hb0)
  have hss : ((w.alloc ZL).alloc ZL).heap.size = w.heap.size + 1 + 1 := by simp
  rw [hss] at C1
  have HZ0 : Hid (((w.alloc ZL).alloc ZL).heap[w.heap.size]? = some ZL) := by show _ = _; rw [heap_alloc_old _ _ (by simp)]; exact heap_alloc_new w _
  have HZ1 : Hid (((w.alloc ZL).alloc ZL).heap[w.heap.size + 1]? = some ZL) := by
    have h := heap_alloc_new (w.alloc ZL) ZL
    rw [show (w.alloc ZL).heap.size = w.heap.size + 1 by simp] at h
    exact h
  clear hc hb0 hss
  go_enter Try.func10, Try.ntmps10
  go_wp2_with fail
  refine C1.mono ?_
  rintro e w1 ⟨rfl, hcur, hb⟩
  clear C1
  have C2 := l3Two_any w1 (w.heap.size + 1 + 1) w1.heap.size hcur (Nat.le_refl _)
  have HB : Hid (Below (w.heap.size + 1 + 1) ((w.alloc ZL).alloc ZL) w1) := hb
  clear hcur hb
  go_wp2_with fail
  refine C2.mono ?_
  rintro e w3 ⟨r1, r2, rfl, ht⟩
  clear C2
  have HT : Hid (TwoDrawn w1 (w.heap.size + 1 + 1) w1.heap.size r1 r2 w3) := ht
  obtain ⟨xs, ys, h1, h2, o1, o2, hc, hgr⟩ := ht
  have hz0 : w3.heap[w.heap.size]? = some ZL := grown_kept hgr (by rw [HB.out.block _ (by omega)]; exact HZ0.out) (by simp; omega)
  have hz1 : w3.heap[w.heap.size + 1]? = some ZL := grown_kept hgr (by rw [HB.out.block _ (by omega)]; exact HZ1.out) (by simp)
  have z0 := cell_of_one hz0
  have z1 := cell_of_one hz1
  have f0 := free_of_one hz0
  have f1 := free_of_one hz1
  obtain ⟨a1, n1, c1, rfl⟩ := own_shape o1
  obtain ⟨a2, n2, c2, rfl⟩ := own_shape o2
  have q0 : ((w3.setCell ⟨w.heap.size, 0, none⟩ (.slice a1 n1 c1)).setCell ⟨w.heap.size + 1, 0, none⟩ (.slice a2 n2 c2)).cell? ⟨w.heap.size, 0, none⟩ = some (.slice a1 n1 c1) := by
    rw [World.cell?_setCell_other _ _ _ _ (by simp)]; exact World.cell?_setCell_same _ _ _ z0
  have q1 : ((w3.setCell ⟨w.heap.size, 0, none⟩ (.slice a1 n1 c1)).setCell ⟨w.heap.size + 1, 0, none⟩ (.slice a2 n2 c2)).cell? ⟨w.heap.size + 1, 0, none⟩ = some (.slice a2 n2 c2) := by
    refine World.cell?_setCell_same _ _ _ (u := .slice none 0 0) ?_
    rw [World.cell?_setCell_other _ _ _ _ (by simp)]; exact z1
  clear o1 o2 hc hgr hz0 hz1 h1 h2 HZ0 HZ1
  go_wp2
  refine bodyPost_ret (v := .tuple #[.agg #[.slice a1 n1 c1], .agg #[.slice a2 n2 c2]]) (by simp [results, go_sem, q0, q1]) rfl ⟨_, _, rfl, two_end HB.out (Nat.le_refl _) HT.out _ _⟩

set_option maxHeartbeats 1000000 in
theorem drawJoin_any (w : World) (a : Option Addr) (len cap : Nat) (cb : Nat → Nat) (hc : Code0 w a len cb) :
    Calls Try.prog 11 #[.slice a len cap] w fun e w' => ∃ r1 r2, e = .returned (.tuple #[.agg #[r1], .agg #[r2]]) ∧ TwoLabels w r1 r2 w' := by
  have hb0 : Below w.heap.size w ((w.alloc ZL).alloc ZL) := ((Below.refl _ _).alloc (Nat.le_refl _) _).alloc (by simp) _
  have C1 := newE ((w.alloc ZL).alloc ZL) a len cap cb (hc.on hb0)
  have hss : ((w.alloc ZL).alloc ZL).heap.size = w.heap.size + 1 + 1 := by simp
  rw [hss] at C1
  have HZ0 : Hid (((w.alloc ZL).alloc ZL).heap[w.heap.size]? = some ZL) := by show _ = _; rw [heap_alloc_old _ _ (by simp)]; exact heap_alloc_new w _
  have HZ1 : Hid (((w.alloc ZL).alloc ZL).heap[w.heap.size + 1]? = some ZL) := by
    have h := heap_alloc_new (w.alloc ZL) ZL
    rw [show (w.alloc ZL).heap.size = w.heap.size + 1 by simp] at h
    exact h
  clear hc hb0 hss
  go_enter Try.func11, Try.ntmps11
  go_wp2_with fail
  refine C1.mono ?_
  rintro e w1 ⟨rfl, hcur, hb⟩
  clear C1
  have C2 := l3Two_any w1 (w.heap.size + 1 + 1) w1.heap.size hcur (Nat.le_refl _)
  have HB : Hid (Below (w.heap.size + 1 + 1) ((w.alloc ZL).alloc ZL) w1) := hb
  clear hcur hb
  go_wp2_with fail
  refine C2.mono ?_
  rintro e w3 ⟨r1, r2, rfl, ht⟩
  clear C2
  have HT : Hid (TwoDrawn w1 (w.heap.size + 1 + 1) w1.heap.size r1 r2 w3) := ht
  obtain ⟨xs, ys, h1, h2, o1, o2, hc, hgr⟩ := ht
  have hz0 : w3.heap[w.heap.size]? = some ZL := grown_kept hgr (by rw [HB.out.block _ (by omega)]; exact HZ0.out) (by simp; omega)
  have hz1 : w3.heap[w.heap.size + 1]? = some ZL := grown_kept hgr (by rw [HB.out.block _ (by omega)]; exact HZ1.out) (by simp)
  have z0 := cell_of_one hz0
  have z1 := cell_of_one hz1
  have f0 := free_of_one hz0
  have f1 := free_of_one hz1
  obtain ⟨a1, n1, c1, rfl⟩ := own_shape o1
  obtain ⟨a2, n2, c2, rfl⟩ := own_shape o2
  have q0 : ((w3.setCell ⟨w.heap.size, 0, none⟩ (.slice a1 n1 c1)).setCell ⟨w.heap.size + 1, 0, none⟩ (.slice a2 n2 c2)).cell? ⟨w.heap.size, 0, none⟩ = some (.slice a1 n1 c1) := by
    rw [World.cell?_setCell_other _ _ _ _ (by simp)]; exact World.cell?_setCell_same _ _ _ z0
  have q1 : ((w3.setCell ⟨w.heap.size, 0, none⟩ (.slice a1 n1 c1)).setCell ⟨w.heap.size + 1, 0, none⟩ (.slice a2 n2 c2)).cell? ⟨w.heap.size + 1, 0, none⟩ = some (.slice a2 n2 c2) := by
    refine World.cell?_setCell_same _ _ _ (u := .slice none 0 0) ?_
    rw [World.cell?_setCell_other _ _ _ _ (by simp)]; exact z1
  clear o1 o2 hc hgr hz0 hz1 h1 h2 HZ0 HZ1
  go_wp2
  refine bodyPost_ret (v := .tuple #[.agg #[.slice a1 n1 c1], .agg #[.slice a2 n2 c2]]) (by simp [results, go_sem, q0, q1]) rfl ⟨_, _, rfl, two_end HB.out (Nat.le_refl _) HT.out _ _⟩
end Go.Proofs.Ytpdhlnnepgkmkaa
