/-
  What is reached, and what is not: the program.
-/
import Derived.Test.YtbdljoldblpffaaGreatReachI9
import Derived.Test.YtbdljoldblpffaaGreatEdgeS9
namespace Go.Proofs.YtbdljoldblpffaaGreat
open Go.RowKit
set_option linter.unusedVariables false
set_option maxRecDepth 100000

def reachAns (os : List Ob) (now : Int) : List Bool := if arenaOk os then reached (ledB os now) else []
theorem reached_len (os : List Ob) (now : Int) : (reached (ledB os now)).length = 10 := (reached_right ledB_lt).len
theorem boolsAns_nil (w w' : World) (h : Below w.heap.size w w') : BoolsAns [] w (.returned (.slice none 0 0)) w' := ⟨none, 0, 0, rfl, rfl, Nat.le_refl _, fun h => absurd rfl h, h⟩
theorem BoolsAns.from {xs : List Bool} {w w1 : World} {e : Ending} {w' : World} (hb : Below w.heap.size w w1) (h : BoolsAns xs w1 e w') : BoolsAns xs w e w' := by
  obtain ⟨a, n, c, he, hn, hc, hg, hb2⟩ := h
  exact ⟨a, n, c, he, hn, hc, fun h0 => by obtain ⟨g, h1, h2, h3⟩ := hg h0; exact ⟨g, h1, Nat.le_trans hb.size h2, h3⟩, below_more hb hb2⟩
theorem ls_small {os : List Ob} (hs : Small8 os) (i : Nat) : (obAt os i).ls.length ≤ 9223372036854775807 := by have := hs i; unfold obN at this; omega
def lostB (os : List Ob) (r : List Bool) (k : Nat) : Bool := !((obAt os k).kind == 0) && !(gAt r k)
def lostTo (os : List Ob) (r : List Bool) (n : Nat) : List Int := ((List.range n).filter (lostB os r)).map fun (k : Nat) => (k : Int)
theorem lostTo_next (os : List Ob) (r : List Bool) (n : Nat) : lostTo os r (n + 1) = if lostB os r n = true then lostTo os r n ++ [(n : Int)] else lostTo os r n := by
  unfold lostTo
  rw [List.range_succ, List.filter_append, List.map_append]
  cases h : lostB os r n <;> simp [h]
theorem lostTo_yes {os : List Ob} {r : List Bool} {n : Nat} (h : lostB os r n = true) : lostTo os r (n + 1) = lostTo os r n ++ [(n : Int)] := by rw [lostTo_next, if_pos h]
theorem lostTo_no {os : List Ob} {r : List Bool} {n : Nat} (h : lostB os r n = false) : lostTo os r (n + 1) = lostTo os r n := by rw [lostTo_next, if_neg (by rw [h]; simp)]
theorem lostTo_len (os : List Ob) (r : List Bool) (n : Nat) : (lostTo os r n).length ≤ n := by
  have := List.length_filter_le (lostB os r) (List.range n)
  rw [List.length_range] at this
  unfold lostTo
  rw [List.length_map]; exact this
def garbAns (os : List Ob) (now : Int) : List Int := if arenaOk os then lostTo os (reached (ledB os now)) 10 else []
theorem garbAns_len (os : List Ob) (now : Int) : (garbAns os now).length ≤ 1048576 := by
  unfold garbAns
  split
  · exact Nat.le_trans (lostTo_len _ _ _) (by decide)
  · simp
end Go.Proofs.YtbdljoldblpffaaGreat
