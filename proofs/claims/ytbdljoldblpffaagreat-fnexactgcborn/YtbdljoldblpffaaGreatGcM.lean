/-
  Marks on what a collector knows, and held.
-/
import Derived.Test.YtbdljoldblpffaaGreatHeapT
import Derived.Test.YtbdljoldblpffaaGreatMarkA
namespace Go.Proofs.YtbdljoldblpffaaGreat
open Go.RowKit
set_option linter.unusedVariables false
set_option maxRecDepth 100000

theorem turned_alloc {lo hi : Nat} {w : World} (o : Obj) (hl : lo ≤ w.heap.size) : Turned8 lo hi w (w.alloc o) := ⟨fun k x h _ => keep h (below_alloc w o), fun B w0 hB h => h.alloc (by omega) _⟩
theorem Turned8.then {lo hi : Nat} {w w1 w2 : World} (h1 : Turned8 lo hi w w1) (h2 : Turned8 lo hi w1 w2) : Turned8 lo hi w w2 :=
  ⟨fun k x h hc => h2.block k x (h1.block k x h hc) hc, fun B w0 hB h => h2.below B w0 hB (h1.below B w0 hB h)⟩
theorem Turned8.wide {lo hi lo' hi' : Nat} {w w1 : World} (h : Turned8 lo hi w w1) (h1 : lo' ≤ lo) (h2 : hi ≤ hi') : Turned8 lo' hi' w w1 :=
  ⟨fun k x hk hc => h.block k x hk (by omega), fun B w0 hB hb => h.below B w0 (by omega) hb⟩
theorem turned_touch {lo hi : Nat} {w w1 : World} {bs : List Nat} (ht : Touch bs w w1) (hb : ∀ b, b ∈ bs → lo ≤ b ∧ b < hi) : Turned8 lo hi w w1 := (Turned8.refl lo hi w).touch ht hb
theorem turned_of_below (lo hi : Nat) {w w' : World} (h : Below w.heap.size w w') (hl : lo ≤ w.heap.size) : Turned8 lo hi w w' := ⟨fun k x hk _ => keep hk h, fun B w0 hB hb => hb.trans (h.mono (by omega))⟩
theorem ownI_on {lo hi : Nat} {w w' : World} {v : Value} {xs : List Int} (h : OwnI lo hi w v xs) (hb : Below w.heap.size w w') : OwnI lo hi w' v xs := h.move (fun g x _ _ hx => keep hx hb) (Nat.le_refl _) (Nat.le_refl _)
theorem ownI_turned {lo hi l0 h0 : Nat} {w w' : World} {v : Value} {xs : List Int} (h : OwnI lo hi w v xs) (ht : Turned8 l0 h0 w w') (hd : hi ≤ l0 ∨ h0 ≤ lo) : OwnI lo hi w' v xs := h.move (fun g x h1 h2 hx => ht.block _ _ hx (by omega)) (Nat.le_refl _) (Nat.le_refl _)
theorem markGc_own (lo hi : Nat) (p t r : Int) (g : Value) (xs : List Int) (k0 : Int) (w : World) (h : OwnI lo hi w g xs) (hn : xs.length ≤ 1048576) (h0 : 0 ≤ k0) (h1 : k0 ≤ 1099511627776) (hlo : lo ≤ w.heap.size) :
    Calls Tryz.prog 35 #[gcV p t r g, .int .i64 k0] w fun e w' => e = .returned (.int .i64 (k0 + xs.length)) ∧ OwnI lo hi w' g (upFrom k0 xs.length) ∧ Turned8 lo hi w w' := by
  have C := markI_own lo hi g xs k0 (w.alloc (boxG p t r g)) (ownI_on h (below_alloc w _)) hn h0 h1
  have HT : Hid (Turned8 lo hi w (w.alloc (boxG p t r g))) := turned_alloc _ hlo
  have HB : Hid (∀ b, b ∈ Go.Proofs.YtbdljoldblpffaaGreat.blk g → lo ≤ b ∧ b < hi) := fun b hb => ⟨(h.blk hb).1, (h.blk hb).2.1⟩
  obtain ⟨a, c, rfl, _, _⟩ := id h
  clear h hn h0 h1 hlo
  go_enter Tryz.func35, Tryz.ntmps35
  go_wp2_with fail
  refine C.mono ?_
  rintro e w1 ⟨rfl, ho, ht⟩
  have HO := hid_of (show OwnI lo hi w1 (.slice a xs.length c) (upFrom k0 xs.length) ∧ Turned8 lo hi w w1 from ⟨ho, HT.out.touch ht HB.out⟩)
  clear ho ht C
  go_wp2
  go_ret
  exact ⟨rfl, HO.out⟩
theorem heldGc_up (p t r : Int) (g : Value) (n : Nat) (k0 : Int) (w : World) (hx : IsInts w g (upFrom k0 n)) (hn : n ≤ 1048576) (h0 : 0 ≤ k0) (h1 : k0 ≤ 1099511627776) :
    Calls Tryz.prog 37 #[gcV p t r g, .int .i64 k0] w fun e w' => e = .returned (.int .i64 (k0 + n)) ∧ Below w.heap.size w w' := by
  have C := heldIntS_up g n k0 (w.alloc (boxG p t r g)) (hx.on (below_alloc w _)) hn h0 h1
  have hz : ¬ (k0 + (n : Int) < 0) := by omega
  obtain ⟨a, c, rfl, _, _⟩ := hx
  generalize (k0 + (n : Int)) = z at C hz ⊢
  clear hn h0 h1
  go_enter Tryz.func37, Tryz.ntmps37
  go_wp2_with fail
  refine C.mono ?_
  rintro e w1 ⟨rfl, rfl⟩
  go_wp2
  go_ret
  exact ⟨rfl, by go_grown⟩
theorem implGcNew_any (w : World) :
    Calls Tryz.prog 109 #[] w fun e w' => (∃ g, e = .returned (gcV 0 0 0 (.slice (some ⟨g, 0, none⟩) 1 1)) ∧ OwnI w.heap.size w'.heap.size w' (.slice (some ⟨g, 0, none⟩) 1 1) [0]) ∧ Below w.heap.size w w' := by
  go_enter Tryz.func109, Tryz.ntmps109
  go_wp2
  refine bodyPost_ret (v := gcV 0 0 0 (.slice (some ⟨w.heap.size + 1, 0, none⟩) 1 1)) (by simp [results, go_sem]) rfl ⟨⟨w.heap.size + 1, rfl, ?_⟩, by go_grown⟩
  have e := heap_alloc_new (w.alloc (boxG 0 0 0 (.slice (some ⟨w.heap.size + 1, 0, none⟩) 1 1))) (.cells #[.int .i64 0] 3 (0, 0))
  exact RowIn.own (xs := [0]) (rs := []) (n := 1) (g := w.heap.size + 1) (by unfold RowIn; simpa [icells] using e) (by omega) (by simp) (by decide) rfl (by decide)
theorem cells4 {w : World} {b : Nat} {v0 v1 v2 v3 : Value} {T : TypeId} (h : w.heap[b]? = some (.cells #[v0, v1, v2, v3] T (0, 0))) : w.cell? ⟨b, 0, none⟩ = some v0 ∧ w.cell? ⟨b, 1, none⟩ = some v1 ∧ w.cell? ⟨b, 2, none⟩ = some v2 ∧ w.cell? ⟨b, 3, none⟩ = some v3 := by
  refine ⟨?_, ?_, ?_, ?_⟩ <;> simp [World.cell?, h]
end Go.Proofs.YtbdljoldblpffaaGreat
