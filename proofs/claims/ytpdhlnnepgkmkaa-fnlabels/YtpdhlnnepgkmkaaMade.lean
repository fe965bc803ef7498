/-
  A label that a call has made, laid in a box, wherever the box was made.
-/
import Derived.Test.YtpdhlnnepgkmkaaOwnR
namespace Go.Proofs.Ytpdhlnnepgkmkaa
open Go.RowKit
set_option linter.unusedVariables false

abbrev Z26 : Obj := .cells #[.slice none 0 0] 26 (0, 0)
theorem ownR_put {w5 : World} {B s lo : Nat} {z r : Value} {js : List Int} (hbox : w5.heap[B]? = some (.cells #[z] 26 (0, 0))) (hown : w5.ownsRow s 3 1 r js.length (icells js)) (hB : B < s) (hlo : lo ≤ s) :
    OwnR B r js lo w5.heap.size (w5.setCell ⟨B, 0, none⟩ r) := by
  refine ⟨one_setCell hbox, own_kept (own_from2 hown hlo) fun k o n c hv hl ho => ?_, fun k n c hv => ?_⟩
  · have hk : k ≠ B := by
      rcases hown.2 with ⟨hn, _⟩ | ⟨g, cap, cur, hv2, hb, hg, rest⟩
      · rw [hn] at hv; simp at hv
      · rw [hv2] at hv
        simp at hv
        omega
    rw [heap_setCell_other _ _ _ _ (by simpa using hk)]; exact ho
  · rcases hown.2 with ⟨hn, _⟩ | ⟨g, cap, cur, hv2, hb, hg, rest⟩
    · rw [hn] at hv; simp at hv
    · rw [hv2] at hv
      simp at hv
      rw [← hv.1]; exact lt_of_block hg
theorem Two.put {w wr : World} {v u : Value} (h : Two w v u wr) (B : Nat) (r : Value) (hB : w.heap.size + 1 + 1 ≤ B) : Two w v u (wr.setCell ⟨B, 0, none⟩ r) :=
  h.by' (grownBy_set wr B 0 r) fun k e => by have := Option.some.inj e; omega
theorem OwnR.wide {b : Nat} {v : Value} {xs : List Int} {lo hi hi' : Nat} {wr : World} (h : OwnR b v xs lo hi wr) (hh : hi ≤ hi') : OwnR b v xs lo hi' wr := ⟨h.box, h.own, fun k n c hv => Nat.lt_of_lt_of_le (h.top k n c hv) hh⟩
/-- The arguments in boxes, and a label that the call has made, in a box. -/
def Made (w : World) (v u : Value) (js : List Int) (B : Nat) (wx : World) : Prop :=
  Two w v u wx ∧ ∃ r H, OwnR B r js (w.heap.size + 1 + 1) H wx ∧ B < H ∧ H ≤ wx.heap.size ∧ w.heap.size + 1 + 1 ≤ B
theorem made_new {w w5 : World} {v u r : Value} {js : List Int} {s : Nat} (h : Two w v u w5) (hown : w5.ownsRow s 3 1 r js.length (icells js)) (hs : w.heap.size + 1 + 1 ≤ s) : Made w v u js w5.heap.size (w5.alloc (.cells #[r] 26 (0, 0))) :=
  ⟨h.alloc _, r, w5.heap.size + 1, (ownR_new hown hs).wide (by omega), by omega, by simp, lt_of_block h.b1⟩
theorem made_put {w w5 : World} {v u z r : Value} {js : List Int} {B s : Nat} (h : Two w v u w5) (hbox : w5.heap[B]? = some (.cells #[z] 26 (0, 0))) (hown : w5.ownsRow s 3 1 r js.length (icells js)) (hB : B < s) (hs : w.heap.size + 1 + 1 ≤ B) : Made w v u js B (w5.setCell ⟨B, 0, none⟩ r) :=
  ⟨h.put B r hs, r, w5.heap.size, ownR_put hbox hown hB (by omega), lt_of_block hbox, by simp, hs⟩
theorem OwnR.put {b : Nat} {v : Value} {xs : List Int} {lo hi : Nat} {wr : World} (h : OwnR b v xs lo hi wr) (B : Nat) (r : Value) (hb : b < B) (hh : hi ≤ B) : OwnR b v xs lo hi (wr.setCell ⟨B, 0, none⟩ r) :=
  h.by' (grownBy_set wr B 0 r) fun k e => by have := Option.some.inj e; omega
end Go.Proofs.Ytpdhlnnepgkmkaa
