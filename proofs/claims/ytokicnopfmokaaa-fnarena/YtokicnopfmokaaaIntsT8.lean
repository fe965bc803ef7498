/-
  Slices of ints: what is read of one, what the laws' own helpers do with them, append.
-/
import Derived.Test.YtokicnopfmokaaaBase8
import Derived.Lib.LazyBuf
namespace Go.Proofs.Ytokicnopfmokaaa
open Go.RowKit
set_option linter.unusedVariables false
set_option maxRecDepth 100000

theorem grownBy_set (w : World) (g i : Nat) (v : Value) : w.grownBy (w.setCell ⟨g, i, none⟩ v) (some g) :=
  ⟨rfl, rfl, rfl, by simp, fun k hk hne => Below.heap_setCell w ⟨g, i, none⟩ v k (by simpa using hne)⟩
theorem grownBy_trans {w w1 w2 : World} {row : Option Nat} (h1 : w.grownBy w1 row) (h2 : w1.grownBy w2 row) : w.grownBy w2 row := by
  obtain ⟨a1, b1, c1, d1, e1⟩ := h1
  obtain ⟨a2, b2, c2, d2, e2⟩ := h2
  exact ⟨a2.trans a1, b2.trans b1, c2.trans c1, Nat.le_trans d1 d2, fun k hk hne => (e2 k (by omega) hne).trans (e1 k hk hne)⟩
/-- The cells of a list of ints. -/
def icells (xs : List Int) : List Value := xs.map (Value.int .i64)
theorem icells_length (xs : List Int) : (icells xs).length = xs.length := by simp [icells]
theorem icells_append (a b : List Int) : icells (a ++ b) = icells a ++ icells b := by simp [icells]
/-- A slice of ints that reads as 'xs'. -/
def IsInts (w : World) (v : Value) (xs : List Int) : Prop :=
  ∃ (a : Option Addr) (cap : Nat), v = .slice a xs.length cap ∧ xs.length ≤ cap ∧ ∀ i, i < xs.length → ∃ p, a = some p ∧ w.cell? (p.add i) = some (.int .i64 (xs.getD i 0))
theorem IsInts.on {w w' : World} {v : Value} {xs : List Int} (h : IsInts w v xs) (hb : Below w.heap.size w w') : IsInts w' v xs := by
  obtain ⟨a, cap, hv, hc, hx⟩ := h
  refine ⟨a, cap, hv, hc, fun i hi => ?_⟩
  obtain ⟨p, hp, hcell⟩ := hx i hi
  exact ⟨p, hp, (hb.cell (World.block_lt_of_cell? w _ hcell)).trans hcell⟩
theorem isInts_own {w : World} {base : Nat} {v : Value} {xs : List Int} (h : w.ownsRow base 3 1 v xs.length (icells xs)) : IsInts w v xs := by
  rcases h.2 with ⟨rfl, h0⟩ | ⟨g, cap, cur, rfl, hb, hg, hcap, hm, hs, htake⟩
  · exact ⟨none, 0, by rw [h0], by omega, fun i hi => by omega⟩
  · refine ⟨some ⟨g, 0, none⟩, cap, rfl, hcap, fun i hi => ⟨_, rfl, ?_⟩⟩
    exact h.cells rfl i _ (by simp [icells, hi])
theorem info3 : (Try.prog.info? 3).map (fun i => (i.zero, i.size, i.bytes)) = some (some (.int .i64 0), 1, 8) := by kernel_rfl
theorem icells_set (xs : List Int) (k : Nat) (n : Int) : (icells xs).set k (.int .i64 n) = icells (xs.set k n) := by simp [icells, List.map_set]
/-- Are two lists the same? -/
def sameInts (xs ys : List Int) : Bool := decide (xs = ys)
theorem sameInts_refl (xs : List Int) : sameInts xs xs = true := by simp [sameInts]
theorem sameInts_no {xs ys : List Int} (h : xs ≠ ys) : sameInts xs ys = false := by simp [sameInts, h]
theorem take_more {xs ys : List Int} {k : Nat} (hx : k < xs.length) (hy : k < ys.length) (h : xs.take k = ys.take k) (he : xs.getD k 0 = ys.getD k 0) : xs.take (k + 1) = ys.take (k + 1) := by
  rw [List.take_add_one, List.take_add_one, h, List.getElem?_eq_getElem hx, List.getElem?_eq_getElem hy]
  simp [List.getD, hx, hy] at he
  rw [he]
theorem getD_ne {xs ys : List Int} {k : Nat} (he : xs.getD k 0 ≠ ys.getD k 0) : xs ≠ ys := fun h => he (by rw [h])
/-- n numbers from k on. -/
def upFrom (k : Int) (n : Nat) : List Int := (List.range n).map fun (i : Nat) => k + (i : Int)
theorem upFrom_length (k : Int) (n : Nat) : (upFrom k n).length = n := by simp [upFrom]
theorem upFrom_getD (k : Int) (n i : Nat) (h : i < n) : (upFrom k n).getD i 0 = k + (i : Int) := by simp [upFrom, List.getD, h]
/-- A row of ints at a block's head, and what is spare behind them. -/
def RowIn (w : World) (g : Nat) (xs : List Int) (rest : List Value) : Prop := w.heap[g]? = some (.cells (icells xs ++ rest).toArray 3 (0, 0))
theorem RowIn.cell {w : World} {g : Nat} {xs : List Int} {rest : List Value} (h : RowIn w g xs rest) (i : Nat) (hi : i < xs.length) : w.cell? ⟨g, i, none⟩ = some (.int .i64 (xs.getD i 0)) := by
  unfold RowIn at h
  simp only [World.cell?, h]
  have e : (icells xs ++ rest)[i]? = some (.int .i64 (xs.getD i 0)) := by
    rw [List.getElem?_append_left (by rw [icells_length]; exact hi)]
    simp [icells, hi]
  simpa using e
theorem RowIn.free {w : World} {g : Nat} {xs : List Int} {rest : List Value} (h : RowIn w g xs rest) (i : Nat) : w.frozen? ⟨g, i, none⟩ = false := by
  unfold RowIn at h
  simp [World.frozen?, h]
theorem RowIn.set {w : World} {g : Nat} {xs : List Int} {rest : List Value} (h : RowIn w g xs rest) (i : Nat) (hi : i < xs.length) (n : Int) : RowIn (w.setCell ⟨g, i, none⟩ (.int .i64 n)) g (xs.set i n) rest := by
  have := heap_setCell_same w g i _ 3 (.int .i64 n) h
  unfold RowIn
  rw [this, ← icells_set]
  simp
  rw [List.set_append_left _ _ (by rw [icells_length]; exact hi)]
theorem rowIn_own {w : World} {base : Nat} {v : Value} {xs : List Int} (h : w.ownsRow base 3 1 v xs.length (icells xs)) (hx : 0 < xs.length) : ∃ g cap rest, v = .slice (some ⟨g, 0, none⟩) xs.length cap ∧ base ≤ g ∧ xs.length ≤ cap ∧ cap ≤ maxLen ∧ (icells xs ++ rest).length = cap ∧ RowIn w g xs rest := by
  rcases h.2 with ⟨rfl, h0⟩ | ⟨g, cap, cur, rfl, hb, hg, hcap, hm, hs, htake⟩
  · omega
  · refine ⟨g, cap, cur.toList.drop xs.length, rfl, hb, hcap, hm, ?_, ?_⟩
    · have : (icells xs ++ cur.toList.drop xs.length) = cur.toList := by rw [← htake, Nat.mul_one, List.take_append_drop]
      rw [this]; simp [hs]
    · have : (icells xs ++ cur.toList.drop xs.length) = cur.toList := by rw [← htake, Nat.mul_one, List.take_append_drop]
      unfold RowIn
      rw [this]; simpa using hg
/-- The row as it is marked as far as 'k'. -/
def markOf (xs : List Int) (k0 : Int) (k : Nat) : List Int := upFrom k0 k ++ xs.drop k
theorem markOf_start (xs : List Int) (k0 : Int) : markOf xs k0 0 = xs := by simp [markOf, upFrom]
theorem markOf_end (xs : List Int) (k0 : Int) : markOf xs k0 xs.length = upFrom k0 xs.length := by simp [markOf]
theorem markOf_length (xs : List Int) (k0 : Int) (k : Nat) (h : k ≤ xs.length) : (markOf xs k0 k).length = xs.length := by simp [markOf, upFrom]; omega
theorem markOf_set (xs : List Int) (k0 : Int) (k : Nat) (h : k < xs.length) : (markOf xs k0 k).set k (k0 + (k : Int)) = markOf xs k0 (k + 1) := by
  unfold markOf
  have e : upFrom k0 (k + 1) = upFrom k0 k ++ [k0 + (k : Int)] := by simp [upFrom, List.range_succ]
  rw [List.set_append_right _ _ (by rw [upFrom_length]; exact Nat.le_refl _), upFrom_length, Nat.sub_self, e, List.append_assoc, List.drop_eq_getElem_cons h, List.set_cons_zero]
  rfl
theorem icells_one (xs : List Int) : ∀ v ∈ icells xs, v.oneCell' = true := by
  intro v hv
  obtain ⟨n, _, rfl⟩ := List.mem_map.1 hv
  rfl
theorem own_shape {w : World} {base : Nat} {e : TypeId} {size : Nat} {v : Value} {n : Nat} {xs : List Value} (h : w.ownsRow base e size v n xs) : ∃ a n c, v = .slice a n c := by
  rcases h.2 with ⟨rfl, _⟩ | ⟨g, cap, cur, rfl, _⟩
  · exact ⟨_, _, _, rfl⟩
  · exact ⟨_, _, _, rfl⟩
theorem wpList_appI {ops : Array Oper} {rest : List Oper} {o : Oper} {a : Act} {Q : Exit → Act → World → Prop} (hgd : o.guard = none) (s x : Operand)
    (ho : o.op = .call { callee := .builtin .append, args := #[s, x], argTypes := #[25, 25] }) (w0 W : World) (base g : Nat) (v : Value) (acc new : List Int) (k c : Nat)
    (hs : a.eval s = v) (hx : a.eval x = .slice (some ⟨g, 0, none⟩) k c) (hown : W.ownsRow base 3 1 v acc.length (icells acc)) (hcell : ∀ (j : Nat) u, (icells new)[j]? = some u → W.cell? ⟨g, j, none⟩ = some u) (hk : new.length = k)
    (hb : acc.length + k ≤ 17592186044416) (hbase : base ≤ W.heap.size) (hnx : Below base w0 W)
    (h : ∀ v' w', Hid (w'.ownsRow base 3 1 v' (acc ++ new).length (icells (acc ++ new))) → Hid (Below base w0 w') → wpList Try.prog ops Q rest (a.put o.dst v') w') : wpList Try.prog ops Q (o :: rest) a W := by
  subst hk
  obtain ⟨i0, hi, hz0, hz1, hz2⟩ := info_parts info3
  refine wpList_append_own _ hgd s x 25 ho base 3 i0 (.int .i64 0) 1 8 Try.underlying25 hi hz0 hz1 hz2 rfl (by decide) v acc.length (icells acc) hs hown ⟨g, 0, none⟩ new.length c (icells new) hx (by rw [icells_length]; omega) ?_ (icells_one _) (by simp only [maxLen]; omega) (by omega) hbase ?_
  · intro j u hj
    have : (⟨g, 0, none⟩ : Addr).add j = ⟨g, j, none⟩ := by unfold Addr.add; split <;> simp_all
    rw [this]
    exact hcell j u hj
  · intro v' w' h1 h2 _
    refine h v' w' ?_ ?_
    · show World.ownsRow _ _ _ _ _ _ _
      rw [icells_append, List.length_append]; exact h1
    · exact hnx.grown h2 hbase (fun k hk => (hown.lt k hk).1)
theorem owns_empty (w : World) : (w.alloc (.cells #[] 3 (0, 0))).ownsRow w.heap.size 3 1 (.slice (some ⟨w.heap.size, 0, none⟩) 0 0) 0 [] :=
  ⟨by simp, .inr ⟨w.heap.size, 0, #[], rfl, Nat.le_refl _, heap_alloc_new w _, Nat.le_refl _, Nat.zero_le _, by simp, by simp⟩⟩
end Go.Proofs.Ytokicnopfmokaaa
