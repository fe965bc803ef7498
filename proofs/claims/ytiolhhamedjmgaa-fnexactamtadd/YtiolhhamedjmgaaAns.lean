/-
  The laws of AmtAdd, AmtSub and AmtFits: what lies there while an answer is fetched.
-/
import Derived.Test.YtiolhhamedjmgaaArgs
namespace Go.Proofs.Ytiolhhamedjmgaa
open Go.RowKit
set_option linter.unusedVariables false

/-- What each operation leaves: two amounts are read, the call's answer is laid into a place. -/
def gAns (B : Nat) (a b c d e f x y z : Int) (o : Bool) (L : Nat → Bool) : Nat → Value → World → Prop
  | 0, u, _ => u = amt a b c
  | 1, u, _ => u = amt a b c
  | 2, u, _ => u = amt d e f
  | 3, u, _ => u = amt d e f
  | 4, u, _ => u = .tuple #[amt x y z, .bool o]
  | 5, u, _ => u = .tuple #[amt x y z, .bool o]
  | 6, u, _ => u = amt x y z
  | 7, u, _ => u = .bool o
  | 8, u, w => ∃ g p q r, u = .pointer (some ⟨g, 0, none⟩) ∧ B ≤ g ∧ Box3 w g 25 p q r ∧ (L 9 = true → p = x ∧ q = y ∧ r = z)
  | 10, u, _ => u = .bool o
  | _, _, _ => True
theorem gAns_on {B : Nat} {a b c d e f x y z : Int} {o : Bool} {L : Nat → Bool} {w w' : World} (i : Nat) (hi : i ≠ 9) (hb : Below w.heap.size w w') : ∀ j u, gAns B a b c d e f x y z o L j u w → gAns B a b c d e f x y z o (markd L i) j u w'
  | 0, _, h => h
  | 1, _, h => h
  | 2, _, h => h
  | 3, _, h => h
  | 4, _, h => h
  | 5, _, h => h
  | 6, _, h => h
  | 7, _, h => h
  | 8, _, h => by
    obtain ⟨g, p, q, r, hu, hg, hbx, hl⟩ := h
    exact ⟨g, p, q, r, hu, hg, hbx.on hb (lt_of_block hbx.at'), fun h9 => hl (by rw [markd_other L (fun e => hi e.symm)] at h9; exact h9)⟩
  | 9, _, h => trivial
  | 10, _, h => h
  | _ + 11, _, _ => trivial
/-- What each operation leaves where the answer is a bool. -/
def gFit (a b c d e f : Int) (o : Bool) : Nat → Value → World → Prop
  | 0, u, _ => u = amt a b c
  | 1, u, _ => u = amt a b c
  | 2, u, _ => u = amt d e f
  | 3, u, _ => u = amt d e f
  | _, u, _ => u = .bool o
/-- Both arguments in boxes. -/
structure Args2 (w : World) (a b c d e f : Int) (wr : World) : Prop where
  below : Below w.heap.size w wr
  x : Box3 wr w.heap.size 36 a b c
  y : Box3 wr (w.heap.size + 1) 36 d e f
theorem Args2.on {w wr w' : World} {a b c d e f : Int} (h : Args2 w a b c d e f wr) (hb : Below wr.heap.size wr w') : Args2 w a b c d e f w' :=
  ⟨h.below.trans (hb.mono h.below.size), h.x.on hb (lt_of_block h.x.at'), h.y.on hb (lt_of_block h.y.at')⟩
theorem args2_start (w : World) (a b c d e f : Int) : Args2 w a b c d e f ((w.alloc (.cells #[.int .i64 a, .int .i64 b, .int .i64 c] 36 (0, 0))).alloc (.cells #[.int .i64 d, .int .i64 e, .int .i64 f] 36 (0, 0))) := by
  refine ⟨by go_grown, ⟨?_⟩, ⟨?_⟩⟩
  · rw [heap_alloc_old _ _ (by simp)]; exact heap_alloc_new w _
  · have := heap_alloc_new (w.alloc (.cells #[.int .i64 a, .int .i64 b, .int .i64 c] 36 (0, 0))) (.cells #[.int .i64 d, .int .i64 e, .int .i64 f] 36 (0, 0))
    simpa using this
end Go.Proofs.Ytiolhhamedjmgaa
