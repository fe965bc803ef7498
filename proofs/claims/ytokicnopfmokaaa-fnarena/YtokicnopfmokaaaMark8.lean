/-
  Marks on messages, numbers and things of the call's own.
-/
import Derived.Test.YtokicnopfmokaaaArT
namespace Go.Proofs.Ytokicnopfmokaaa
open Go.RowKit
set_option linter.unusedVariables false
set_option maxRecDepth 100000

/-- n messages that are marked from k on. -/
def upMsgs (k : Int) (n : Nat) : List Ms := (List.range n).map fun (i : Nat) => ⟨k + 2 * (i : Int), k + 2 * (i : Int) + 1⟩
theorem upMsgs_length (k : Int) (n : Nat) : (upMsgs k n).length = n := by simp [upMsgs]
theorem upMsgs_at (k : Int) (n i : Nat) (h : i < n) : msAt (upMsgs k n) i = ⟨k + 2 * (i : Int), k + 2 * (i : Int) + 1⟩ := by simp [msAt, upMsgs, List.getD, h]
def markM (ms : List Ms) (k0 : Int) (k : Nat) : List Ms := upMsgs k0 k ++ ms.drop k
theorem markM_start (ms : List Ms) (k0 : Int) : markM ms k0 0 = ms := by simp [markM, upMsgs]
theorem markM_end (ms : List Ms) (k0 : Int) : markM ms k0 ms.length = upMsgs k0 ms.length := by simp [markM]
theorem markM_length (ms : List Ms) (k0 : Int) (k : Nat) (h : k ≤ ms.length) : (markM ms k0 k).length = ms.length := by simp [markM, upMsgs]; omega
theorem markM_set (ms : List Ms) (k0 : Int) (k : Nat) (h : k < ms.length) : (markM ms k0 k).set k ⟨k0 + 2 * (k : Int), k0 + 2 * (k : Int) + 1⟩ = markM ms k0 (k + 1) := by
  unfold markM
  have e : upMsgs k0 (k + 1) = upMsgs k0 k ++ [⟨k0 + 2 * (k : Int), k0 + 2 * (k : Int) + 1⟩] := by simp [upMsgs, List.range_succ]
  rw [List.set_append_right _ _ (by rw [upMsgs_length]; exact Nat.le_refl _), upMsgs_length, Nat.sub_self, e, List.append_assoc, List.drop_eq_getElem_cons h, List.set_cons_zero]
  rfl
/-- Nothing is turned but some blocks. -/
structure Touch (bs : List Nat) (w w' : World) : Prop where
  block : ∀ k x, k ∉ bs → w.heap[k]? = some x → w'.heap[k]? = some x
  below : ∀ B w0, (∀ b, b ∈ bs → B ≤ b) → Below B w0 w → Below B w0 w'
theorem touch_one {w w' : World} {g : Nat} (hg : w.grownBy w' (some g)) (h3 : g < w.heap.size) : Touch [g] w w' :=
  ⟨fun k x hk hx => grown_kept hg hx (fun e => by cases e; simp at hk), fun B w0 hB hb => hb.grown hg (by have := hB g (by simp); omega) (fun k e => by cases e; exact hB g (by simp))⟩
theorem touch_none (w : World) : Touch [] w w := ⟨fun _ _ _ h => h, fun _ _ _ h => h⟩
theorem upFrom_nil (k : Int) : upFrom k 0 = [] := rfl
end Go.Proofs.Ytokicnopfmokaaa
