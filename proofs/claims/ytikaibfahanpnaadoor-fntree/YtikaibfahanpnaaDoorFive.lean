/-
  The program's functions over a tree of five places, as the law meets them.
-/
import Derived.Test.YtikaibfahanpnaaDoorMathT
import Derived.Test.YtikaibfahanpnaaDoorSameT
import Derived.Test.YtikaibfahanpnaaDoorISplit
import Derived.Test.YtikaibfahanpnaaDoorIGive
import Derived.Test.YtikaibfahanpnaaDoorIPay
import Derived.Test.YtikaibfahanpnaaDoorIBack
import Derived.Test.YtikaibfahanpnaaDoorIDrop
import Derived.Test.YtikaibfahanpnaaDoorIntsT
import Derived.Test.YtikaibfahanpnaaDoorBig
namespace Go.Proofs.YtikaibfahanpnaaDoor
open Go.RowKit
set_option linter.unusedVariables false
set_option maxRecDepth 100000

theorem isTree_len {w : World} {a : Option Addr} {n c : Nat} {ts : List Re} (h : IsTree w (.slice a n c) ts) : ts.length = n := by
  obtain ⟨a', c', e, _⟩ := h
  simp at e
  omega
theorem isTree_cap {w : World} {a : Option Addr} {n c : Nat} {ts : List Re} (h : IsTree w (.slice a n c) ts) : n ≤ c := by
  obtain ⟨a', c', e, hc, _⟩ := h
  simp at e
  omega
theorem isTree_cell {w : World} {g n c i : Nat} {ts : List Re} (h : IsTree w (.slice (some ⟨g, 0, none⟩) n c) ts) (hi : i < n) : Cells5 w ⟨g, i * 5, none⟩ (reAt ts i) := by
  have hl := isTree_len h
  subst hl
  obtain ⟨p, q, e1, e2, hc⟩ := h.at hi
  simp at e1
  subst e1
  rw [add_head] at e2
  subst e2
  exact hc
def Tree5 (ns : List Re) (o : Bool) (w : World) (e : Ending) (w' : World) : Prop := ∃ g c, e = .returned (.tuple #[.slice (some ⟨g, 0, none⟩) 5 c, .bool o]) ∧ IsTree w' (.slice (some ⟨g, 0, none⟩) 5 c) ns ∧ Below w.heap.size w w'
theorem tree5_of {n : Nat} {ns : List Re} {o : Bool} {w w' : World} {e : Ending} (h : TreeAns n ns o w e w') (hn : n = 5) (hl : ns.length = 5) : Tree5 ns o w e w' := by
  obtain ⟨g, c, rs, rfl, ho, hb⟩ := h
  subst hn
  have := ho.tree
  rw [hl] at this
  exact ⟨g, c, rfl, this, hb⟩
def Split5 (ns : List Re) (k : Int) (o : Bool) (w : World) (e : Ending) (w' : World) : Prop := ∃ g c, e = .returned (.tuple #[.slice (some ⟨g, 0, none⟩) 5 c, .int .i64 k, .bool o]) ∧ IsTree w' (.slice (some ⟨g, 0, none⟩) 5 c) ns ∧ Below w.heap.size w w'
theorem split5 (g cap : Nat) (ts : List Re) (i a b c : Int) (w : World) (hx : IsTree w (.slice (some ⟨g, 0, none⟩) 5 cap) ts) (hse : Sent w) :
    Calls Tryd.prog 7 #[.slice (some ⟨g, 0, none⟩) 5 cap, .int .i64 i, amt a b c] w fun e w' => Split5 (splitOf ts i a b c) (splitK ts i a b c) (splitOk ts i a b c) w e w' := by
  have hl := isTree_len hx
  have C := implSplit_any ⟨g, 0, none⟩ cap ts i a b c w (by rw [hl]; exact hx) (by omega) hse
  rw [hl] at C
  refine C.mono ?_
  rintro e w' ⟨g', c', rs, rfl, ho, hb⟩
  have := ho.tree
  rw [splitOf_length, hl] at this
  exact ⟨g', c', rfl, this, hb⟩
theorem splitN (g cap n : Nat) (ts : List Re) (i a b c : Int) (w : World) (hx : IsTree w (.slice (some ⟨g, 0, none⟩) n cap) ts) (hn : n ≤ 5) (hse : Sent w) (hno : treeOk ts = false) :
    Calls Tryd.prog 7 #[.slice (some ⟨g, 0, none⟩) n cap, .int .i64 i, amt a b c] w fun e w' => ∃ v k, e = .returned (.tuple #[v, .int .i64 k, .bool false]) ∧ Below w.heap.size w w' := by
  have hl := isTree_len hx
  have C := implSplit_any ⟨g, 0, none⟩ cap ts i a b c w (by rw [hl]; exact hx) (by omega) hse
  rw [hl, split_not hno] at C
  refine C.mono ?_
  rintro e w' ⟨g', c', rs, rfl, ho, hb⟩
  exact ⟨_, _, rfl, hb⟩
theorem pay5 (g cap : Nat) (ts : List Re) (i a b c : Int) (w : World) (hx : IsTree w (.slice (some ⟨g, 0, none⟩) 5 cap) ts) (hse : Sent w) :
    Calls Tryd.prog 12 #[.slice (some ⟨g, 0, none⟩) 5 cap, .int .i64 i, amt a b c] w fun e w' => Tree5 (payOf ts i a b c) (payOk ts i a b c) w e w' := by
  have hl := isTree_len hx
  have C := implTreePay_any ⟨g, 0, none⟩ cap ts i a b c w (by rw [hl]; exact hx) (by omega) hse
  rw [hl] at C
  refine C.mono fun e w' h => tree5_of h rfl ?_
  unfold payOf
  split
  · rw [payT_length]; exact hl
  · exact hl
theorem back5 (g cap : Nat) (ts : List Re) (i a b c : Int) (w : World) (hx : IsTree w (.slice (some ⟨g, 0, none⟩) 5 cap) ts) :
    Calls Tryd.prog 13 #[.slice (some ⟨g, 0, none⟩) 5 cap, .int .i64 i, amt a b c] w fun e w' => Tree5 (backOf ts i a b c) (backOk ts a b c) w e w' := by
  have hl := isTree_len hx
  have C := implBack_any ⟨g, 0, none⟩ cap ts i a b c w (by rw [hl]; exact hx) (by omega)
  rw [hl] at C
  refine C.mono fun e w' h => tree5_of h rfl ?_
  unfold backOf backT
  split
  · rw [List.length_set]; exact hl
  · exact hl
theorem give5 (g cap : Nat) (ts : List Re) (i k a b c : Int) (w : World) (hx : IsTree w (.slice (some ⟨g, 0, none⟩) 5 cap) ts) (hse : Sent w) :
    Calls Tryd.prog 15 #[.slice (some ⟨g, 0, none⟩) 5 cap, .int .i64 i, .int .i64 k, amt a b c] w fun e w' => Tree5 (giveOf ts i k a b c) (giveOk ts i k a b c) w e w' := by
  have hl := isTree_len hx
  have C := implGive_any ⟨g, 0, none⟩ cap ts i k a b c w (by rw [hl]; exact hx) (by omega) hse
  rw [hl] at C
  refine C.mono fun e w' h => tree5_of h rfl ?_
  unfold giveOf backOf backT
  split
  · split
    · rw [List.length_set, payT_length]; exact hl
    · rw [payT_length]; exact hl
  · exact hl
theorem drop5 (g cap : Nat) (ts : List Re) (i : Int) (w : World) (hx : IsTree w (.slice (some ⟨g, 0, none⟩) 5 cap) ts) :
    Calls Tryd.prog 11 #[.slice (some ⟨g, 0, none⟩) 5 cap, .int .i64 i] w fun e w' => Tree5 (dropOf ts i) (dropOk ts i) w e w' := by
  have hl := isTree_len hx
  have C := implDrop_any ⟨g, 0, none⟩ cap ts i w (by rw [hl]; exact hx) (by omega)
  rw [hl] at C
  exact C.mono fun e w' h => tree5_of h rfl (by rw [dropOf_length]; exact hl)
/-- What the law has at hand: the tree that was drawn, the amount, the code. -/
structure Law0 (w : World) (gt ct : Nat) (ts : List Re) (gb : Nat) (a b c : Int) (ad : Option Addr) (len : Nat) (cb : Nat → Nat) (wz : World) : Prop where
  t : IsTree wz (.slice (some ⟨gt, 0, none⟩) 5 ct) ts
  box : Box3 wz gb 26 a b c
  below : Below w.heap.size w wz
  sent : Sent wz
  code : Code0 wz ad len cb
theorem Law0.on {w : World} {gt ct : Nat} {ts : List Re} {gb : Nat} {a b c : Int} {ad : Option Addr} {len : Nat} {cb : Nat → Nat} {wz w' : World} (h : Law0 w gt ct ts gb a b c ad len cb wz) (hb : Below wz.heap.size wz w') : Law0 w gt ct ts gb a b c ad len cb w' :=
  ⟨h.t.on hb, box_on h.box hb, below_more h.below hb, h.sent.on hb, h.code.on hb⟩
/-- The same, and the sum. -/
structure Law1 (w : World) (gt ct : Nat) (ts : List Re) (gb : Nat) (a b c : Int) (ad : Option Addr) (len : Nat) (cb : Nat → Nat) (gs : Nat) (A B C : Int) (wz : World) : Prop where
  o : Law0 w gt ct ts gb a b c ad len cb wz
  sum : Box3 wz gs 26 A B C
theorem Law1.on {w : World} {gt ct : Nat} {ts : List Re} {gb : Nat} {a b c : Int} {ad : Option Addr} {len : Nat} {cb : Nat → Nat} {gs : Nat} {A B C : Int} {wz w' : World} (h : Law1 w gt ct ts gb a b c ad len cb gs A B C wz) (hb : Below wz.heap.size wz w') : Law1 w gt ct ts gb a b c ad len cb gs A B C w' :=
  ⟨h.o.on hb, box_on h.sum hb⟩
theorem specOk5 {w : World} {g c : Nat} {ts : List Re} (h : IsTree w (.slice (some ⟨g, 0, none⟩) 5 c) ts) (hok : treeOk ts = true) : Calls Tryd.prog 6 #[.slice (some ⟨g, 0, none⟩) 5 c] w fun e w' => e = .returned (.bool true) ∧ Below w.heap.size w w' := by
  have := specOk_any _ ts w h (by have := isTree_len h; omega)
  rw [hok] at this
  exact this
theorem sum5 {w : World} {g c : Nat} {ts us : List Re} {A B C : Int} (h : IsTree w (.slice (some ⟨g, 0, none⟩) 5 c) us) (hs : SameSum ts us) (hA : sumT Re.a ts = A) (hB : sumT Re.b ts = B) (hC : sumT Re.c ts = C) : Calls Tryd.prog 8 #[.slice (some ⟨g, 0, none⟩) 5 c] w fun e w' => e = .returned (amt A B C) ∧ Below w.heap.size w w' := by
  have := implTreeSum_any _ us w h (by have := isTree_len h; omega)
  rw [hs.a, hs.b, hs.c, hA, hB, hC] at this
  exact this
theorem same5 {w : World} {g c g' c' : Nat} {ts : List Re} (h : IsTree w (.slice (some ⟨g, 0, none⟩) 5 c) ts) (h' : IsTree w (.slice (some ⟨g', 0, none⟩) 5 c') ts) : Calls Tryd.prog 10 #[.slice (some ⟨g, 0, none⟩) 5 c, .slice (some ⟨g', 0, none⟩) 5 c'] w fun e w' => e = .returned (.bool true) ∧ Below w.heap.size w w' :=
  sameTree_any _ _ ts w h h' (by have := isTree_len h; omega)
theorem guard_und {o : Oper} {ops : Array Oper} {us : Nat → Value} {j : Nat} {want : Bool} {d : Tmp} {A B : Prop} (hg : o.guard = some (j, want)) (hd : dstAt ops.toList j = some d) (hu : us j = undef) (h : B) : if Region.wanted o (yieldUs ops us) = true then A else B := by
  have hw : Region.wanted o (yieldUs ops us) = false := by
    unfold dstAt at hd
    have hd' : (ops[j]?).bind (·.dst) = some d := by simpa using hd
    simp [Region.wanted, hg, yieldUs, hd', hu, undef]
  rw [if_neg (by rw [hw]; exact Bool.false_ne_true)]; exact h
end Go.Proofs.YtikaibfahanpnaaDoor
