/-
  Dec answers as its model at every number.
-/
import Derived.Test.YtkjabochhhalhacDoorRows
import Derived.Test.YtkjabochhhalhacDoorShelf
import Derived.Test.YtkjabochhhalhacDoorMathDec
import Derived.Test.YtkjabochhhalhacDoorCards
import Derived.Test.YtkjabochhhalhacDoorTie
import Derived.WalkKit
import Derived.WalkSpells
import Derived.WalkLawsBesides
import Derived.Laws.IdiomStrings
import Derived.Laws.IdiomRangeMap
import Derived.Outline
import Derived.ProofKit
import Derived.OpenShut
import Derived.ShutString
import Derived.Lib.AppendIntMem
import Derived.Lib.LaidTab
import Derived.Stop.LaidErr
import Derived.Deep.DeepHandedRow
namespace Go.Proofs.YtkjabochhhalhacDoor
open Go.ChangeShapes Go.WideShapes Go.ChangeAt Go.RowKit Go.Lib
set_option linter.unusedVariables false

/-- 'string([]byte{b})'. -/
theorem conv_one (wr : World) (b : UInt8) (v : Int) (hv : v = (b.toNat : Int)) :
    (convert 22 9 (.slice (some ⟨wr.heap.size, 0, none⟩) 1 1)).run Tryd.prog (wr.alloc (.cells #[.int .u8 v] 5)) = .ok (.string ⟨#[b]⟩) (wr.alloc (.cells #[.int .u8 v] 5)) := by
  refine run_convert_bytes_back (wr.alloc (.cells #[.int .u8 v] 5)) 22 9 5 ⟨wr.heap.size, 0, none⟩ 1 [b] Tryd.underlying22 Tryd.underlying5 Tryd.underlying9 ?_
  intro j hj
  obtain rfl : j = 0 := by simp at hj; omega
  have hnew : (wr.alloc (.cells #[.int .u8 v] 5)).heap[wr.heap.size]? = some (.cells #[.int .u8 v] 5 (0, 0)) := heap_alloc_new wr _
  have hc : (wr.alloc (.cells #[.int .u8 v] 5)).cell? ⟨wr.heap.size, 0, none⟩ = some (.int .u8 v) := by simp only [World.cell?, hnew]; rfl
  subst hv
  exact hc

theorem grow_below (w : World) (k : Nat) (os : Array Obj) : Below w.heap.size w (Sort.grow (w.drewN k) os) :=
  ⟨rfl, rfl, rfl, by show w.heap.size ≤ (w.heap ++ os).size; simp, fun j hj => by show (w.heap ++ os)[j]? = _; rw [Array.getElem?_append_left hj]⟩

/-- The table of powers of ten, as the library reads it. -/
def Pow (w : World) : Prop := Lib.TabIs Tryd.prog w "internal/strconv.uint64pow10" .u64 Lib.pow10Tab
theorem Pow.on {w w' : World} (h : Pow w) (hb : Below w.heap.size w w') : Pow w' := tabBelow_of_tabIs h w' hb

set_option maxHeartbeats 400000 in
theorem implDec_any (n : Int) (w : World) (h0 : -9223372036854775808 ≤ n) (h1 : n ≤ 9223372036854775807) (hp : Pow w) :
    Calls Tryd.prog 12 #[.int .i64 n] w fun e w' => e = .returned (.string ⟨(itoa n).toArray⟩) ∧ Below w.heap.size w w' := by
  obtain ⟨s, hs⟩ : ∃ s : ByteArray, s = ⟨(itoa n).toArray⟩ := ⟨_, rfl⟩
  have c := Tryd.strconv_Itoa n h0 h1 w hp
  rw [← hs] at c ⊢
  clear hs hp
  go_enter Tryd.func12, Tryd.ntmps12
  go_wp2_with fail
  refine c.mono ?_
  rintro e w' ⟨rfl, k, os, rfl⟩
  generalize hW : Sort.grow (w.drewN k) os = W
  have hb : Below w.heap.size w W := by rw [← hW]; exact grow_below w k os
  clear hW c
  go_wp2
  go_ret
  exact ⟨rfl, hb⟩

end Go.Proofs.YtkjabochhhalhacDoor

