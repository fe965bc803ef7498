/-
  The model's Join.
-/
import Derived.Test.YtbahokkofidmeaaMark
import Derived.Deep.RegionLaw
namespace Go.Proofs.Ytbahokkofidmeaa
open Go.RowKit
set_option linter.unusedVariables false

theorem icells_one (xs : List Int) : ∀ v ∈ icells xs, v.oneCell' = true := by
  intro v hv
  obtain ⟨n, _, rfl⟩ := List.mem_map.1 hv
  rfl
/-- append to the call's own row of ints, as one step of a region that draws. -/
theorem step_appI {ops : Array Oper} {o : Oper} {a : Act} {K : Act → World → Prop} {Q : Exit → Act → World → Prop} {E : Prop} (hgd : o.guard = none) (s x : Operand)
    (ho : o.op = .call { callee := .builtin .append, args := #[s, x], argTypes := #[24, 24] }) (w0 W : World) (base g : Nat) (v : Value) (acc new : List Int) (vs : Array Value) (k : Nat)
    (hs : a.eval s = v) (hx : a.eval x = .slice (some ⟨g, 0, none⟩) k k) (hown : W.ownsRow base 3 1 v acc.length (icells acc)) (hg : W.heap[g]? = some (.cells vs 3 (0, 0))) (hvs : vs = (icells new).toArray) (hk : new.length = k)
    (hb : acc.length + k ≤ 17592186044416) (hbase : base ≤ W.heap.size) (hnx : Below base w0 W)
    (h : ∀ v' w', Hid (w'.ownsRow base 3 1 v' (acc ++ new).length (icells (acc ++ new))) → Below base w0 w' → K (a.put o.dst v') w') :
    if Region.wanted o (yielded ops a.tmps) = true then Oper.wp Try.prog o a W K Q else E := by
  have hw : Region.wanted o (yielded ops a.tmps) = true := by simp [Region.wanted, hgd]
  rw [if_pos hw]
  subst hvs hk
  obtain ⟨i0, hi, hz0, hz1, hz2⟩ := info_parts info3
  refine wp_append_own W s x 24 ho base 3 i0 (.int .i64 0) 1 8 Try.underlying24 hi hz0 hz1 hz2 rfl (by decide) v acc.length (icells acc) hs hown ⟨g, 0, none⟩ new.length new.length (icells new) hx (by rw [icells_length]; omega) ?_ (icells_one _) (by simp only [maxLen]; omega) (by omega) hbase ?_
  · intro j u hj
    have : (⟨g, 0, none⟩ : Addr).add j = ⟨g, j, none⟩ := by unfold Addr.add; split <;> simp_all
    rw [this]
    simp only [World.cell?, hg]
    simpa using hj
  · intro v' w' h1 h2 _
    refine h v' w' ?_ ?_
    · rw [icells_append, List.length_append]; exact h1
    · exact hnx.grown h2 hbase (fun k hk => (hown.lt k hk).1)

theorem own_shape {w : World} {base : Nat} {e : TypeId} {size : Nat} {v : Value} {n : Nat} {xs : List Value} (h : w.ownsRow base e size v n xs) : ∃ a n c, v = .slice a n c := by
  rcases h.2 with ⟨rfl, _⟩ | ⟨g, cap, cur, rfl, _⟩
  · exact ⟨_, _, _, rfl⟩
  · exact ⟨_, _, _, rfl⟩
theorem own_less {w : World} {s : Nat} {e : TypeId} {size : Nat} {v : Value} {n : Nat} {xs : List Value} (h : w.ownsRow (s + 1 + 1 + 1 + 1) e size v n xs) : w.ownsRow s e size v n xs := by
  refine ⟨h.1, ?_⟩
  rcases h.2 with hn | ⟨g, cap, cur, hv, hb, rest⟩
  · exact .inl hn
  · exact .inr ⟨g, cap, cur, hv, by omega, rest⟩
/-- Four blocks: two labels, the answer's place, and the label that grows. -/
structure Four (w : World) (v u out : Value) (wr : World) : Prop where
  b0 : wr.heap[w.heap.size]? = some (.cells #[v] 26 (0, 0))
  b1 : wr.heap[w.heap.size + 1]? = some (.cells #[u] 26 (0, 0))
  b2 : wr.heap[w.heap.size + 1 + 1]? = some (.cells #[.slice none 0 0] 26 (0, 0))
  b3 : wr.heap[w.heap.size + 1 + 1 + 1]? = some (.cells #[out] 26 (0, 0))
  below : Below w.heap.size w wr
theorem Four.size {w wr : World} {v u out : Value} (h : Four w v u out wr) : w.heap.size + 1 + 1 + 1 + 1 ≤ wr.heap.size := by
  have := lt_of_block h.b3; omega
theorem Four.on {w wr w' : World} {v u out : Value} (h : Four w v u out wr) (hb : Below (w.heap.size + 1 + 1 + 1 + 1) wr w') : Four w v u out w' :=
  ⟨by rw [hb.block _ (by omega)]; exact h.b0, by rw [hb.block _ (by omega)]; exact h.b1, by rw [hb.block _ (by omega)]; exact h.b2, by rw [hb.block _ (by omega)]; exact h.b3, h.below.trans (hb.mono (by omega))⟩
theorem Four.put {w wr : World} {v u out : Value} (h : Four w v u out wr) (out' : Value) : Four w v u out' (wr.setCell ⟨w.heap.size + 1 + 1 + 1, 0, none⟩ out') :=
  ⟨by rw [heap_setCell_other _ _ _ _ (by simp; omega)]; exact h.b0, by rw [heap_setCell_other _ _ _ _ (by first | (simp; done) | (simp; omega))]; exact h.b1, by rw [heap_setCell_other _ _ _ _ (by simp)]; exact h.b2, one_setCell h.b3, h.below.setCell (by simp; omega) _⟩
theorem cell_of_one {w : World} {b : Nat} {t : TypeId} {v : Value} (h : w.heap[b]? = some (.cells #[v] t (0, 0))) : w.cell? ⟨b, 0, none⟩ = some v := by simp [World.cell?, h]
theorem free_of_one {w : World} {b : Nat} {t : TypeId} {v : Value} (h : w.heap[b]? = some (.cells #[v] t (0, 0))) : w.frozen? ⟨b, 0, none⟩ = false := by simp [World.frozen?, h]
def fourOf (w : World) (v u : Value) : World := (((w.alloc (.cells #[v] 26 (0, 0))).alloc (.cells #[u] 26 (0, 0))).alloc (.cells #[.slice none 0 0] 26 (0, 0))).alloc (.cells #[.slice none 0 0] 26 (0, 0))
theorem fourOf_four (w : World) (v u : Value) : Four w v u (.slice none 0 0) (fourOf w v u) := by
  refine ⟨?_, ?_, ?_, ?_, ?_⟩
  · unfold fourOf
    rw [heap_alloc_old _ _ (by simp; omega), heap_alloc_old _ _ (by simp; omega), heap_alloc_old _ _ (by simp)]
    exact heap_alloc_new w _
  · unfold fourOf
    rw [heap_alloc_old _ _ (by first | (simp; done) | (simp; omega)), heap_alloc_old _ _ (by simp)]
    have := heap_alloc_new (w.alloc (.cells #[v] 26 (0, 0))) (.cells #[u] 26 (0, 0))
    simpa using this
  · unfold fourOf
    rw [heap_alloc_old _ _ (by simp)]
    have := heap_alloc_new ((w.alloc (.cells #[v] 26 (0, 0))).alloc (.cells #[u] 26 (0, 0))) (.cells #[.slice none 0 0] 26 (0, 0))
    simpa using this
  · have := heap_alloc_new (((w.alloc (.cells #[v] 26 (0, 0))).alloc (.cells #[u] 26 (0, 0))).alloc (.cells #[.slice none 0 0] 26 (0, 0))) (.cells #[.slice none 0 0] 26 (0, 0))
    simpa [fourOf] using this
  · exact ((((Below.refl _ _).alloc (Nat.le_refl _) _).alloc (by simp) _).alloc (by simp; omega) _).alloc (by simp; omega) _

/-- The greater of both, one by one, as far as 'k'. -/
def joinTo (xs ys : List Int) (k : Nat) : List Int := (List.range k).map fun (i : Nat) => max (xs.getD i 0) (ys.getD i 0)
def joinOf (xs ys : List Int) : List Int := if labelOk xs && labelOk ys then joinTo xs ys 4 else []
theorem joinTo_length (xs ys : List Int) (k : Nat) : (joinTo xs ys k).length = k := by simp [joinTo]
theorem joinTo_succ (xs ys : List Int) (k : Nat) : joinTo xs ys (k + 1) = joinTo xs ys k ++ [max (xs.getD k 0) (ys.getD k 0)] := by simp [joinTo, List.range_succ]

theorem own_next {w w3 : World} {xs ys : List Int} {k : Nat} {m : Int} {v : Value} (hj : joinTo xs ys (k + 1) = joinTo xs ys k ++ [m])
    (h : w3.ownsRow (w.heap.size + 1 + 1 + 1 + 1) 3 1 v (joinTo xs ys k ++ [m]).length (icells (joinTo xs ys k ++ [m]))) :
    (w3.setCell ⟨w.heap.size + 1 + 1 + 1, 0, none⟩ v).ownsRow (w.heap.size + 1 + 1 + 1 + 1) 3 1 v (k + 1) (icells (joinTo xs ys (k + 1))) := by
  rw [← hj, joinTo_length] at h
  exact ownsRow_setCell_below h (by simp) v

end Go.Proofs.Ytbahokkofidmeaa
