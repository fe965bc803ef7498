/-
  l3Any: a label is drawn that may not be right.
-/
import Derived.Test.YtbahokkofidmeaaDrawL
import Derived.Deep.RegionWith
namespace Go.Proofs.Ytbahokkofidmeaa
open Go.RowKit
set_option linter.unusedVariables false

theorem wpList_appG {ops : Array Oper} {rest : List Oper} {o : Oper} {a : Act} {Q : Exit → Act → World → Prop} (hgd : o.guard = none) (s x : Operand)
    (ho : o.op = .call { callee := .builtin .append, args := #[s, x], argTypes := #[24, 24] }) (W : World) (base g : Nat) (v : Value) (acc new : List Int) (k c : Nat)
    (hs : a.eval s = v) (hx : a.eval x = .slice (some ⟨g, 0, none⟩) k c) (hown : W.ownsRow base 3 1 v acc.length (icells acc)) (hcell : ∀ (j : Nat) u, (icells new)[j]? = some u → W.cell? ⟨g, j, none⟩ = some u) (hk : new.length = k)
    (hb : acc.length + k ≤ 17592186044416) (hbase : base ≤ W.heap.size)
    (h : ∀ v' w', Hid (w'.ownsRow base 3 1 v' (acc ++ new).length (icells (acc ++ new))) → Hid (W.grownBy w' v.ownBlock) → wpList Try.prog ops Q rest (a.put o.dst v') w') : wpList Try.prog ops Q (o :: rest) a W := by
  subst hk
  obtain ⟨i0, hi, hz0, hz1, hz2⟩ := info_parts info3
  refine wpList_append_own _ hgd s x 24 ho base 3 i0 (.int .i64 0) 1 8 Try.underlying24 hi hz0 hz1 hz2 rfl (by decide) v acc.length (icells acc) hs hown ⟨g, 0, none⟩ new.length c (icells new) hx (by rw [icells_length]; omega) ?_ (icells_one _) (by simp only [maxLen]; omega) (by omega) hbase ?_
  · intro j u hj
    have : (⟨g, 0, none⟩ : Addr).add j = ⟨g, j, none⟩ := by unfold Addr.add; split <;> simp_all
    rw [this]
    exact hcell j u hj
  · intro v' w' h1 h2 _
    refine h v' w' ?_ h2
    show World.ownsRow _ _ _ _ _ _ _
    rw [icells_append, List.length_append]; exact h1

/-- A box is not the row of an owned label. -/
theorem own_set_box {w3 : World} {lo n B : Nat} {v z r : Value} {xs : List Value} (hown : w3.ownsRow lo 3 1 v n xs) (hB : w3.heap[B]? = some (.cells #[z] 26 (0, 0))) : (w3.setCell ⟨B, 0, none⟩ r).ownsRow lo 3 1 v n xs := by
  refine ⟨hown.1, ?_⟩
  rcases hown.2 with hn | ⟨g, cap, cur, hv, hb, hg, rest⟩
  · exact .inl hn
  · refine .inr ⟨g, cap, cur, hv, hb, ?_, rest⟩
    have hne : g ≠ B := by
      rintro rfl
      rw [hB] at hg
      simp at hg
    rw [heap_setCell_other _ _ _ _ (by simpa using hne)]; exact hg
theorem ownBlock_ne {w3 : World} {lo n B : Nat} {v z : Value} {xs : List Value} (hown : w3.ownsRow lo 3 1 v n xs) (hB : w3.heap[B]? = some (.cells #[z] 26 (0, 0))) : v.ownBlock ≠ some B := by
  rcases hown.2 with ⟨rfl, hn⟩ | ⟨g, cap, cur, rfl, hb, hg, rest⟩
  · simp [Value.ownBlock]
  · simp [Value.ownBlock]
    rintro rfl
    rw [hB] at hg
    simp at hg

/-- The answer's place, a label in a box, and a cursor that is right. -/
structure AnyE (w : World) (g s0 B : Nat) (out : Value) (xs : List Int) (wr : World) : Prop where
  b0 : wr.heap[w.heap.size]? = some (.cells #[.slice none 0 0] 26 (0, 0))
  bB : wr.heap[B]? = some (.cells #[out] 26 (0, 0))
  hB : w.heap.size + 1 ≤ B
  own : wr.ownsRow (w.heap.size + 1) 3 1 out xs.length (icells xs)
  cur : CurE wr g s0
  grown : w.grownBy wr (some g)
theorem AnyE.by' {w wr w' : World} {g s0 B : Nat} {out : Value} {xs : List Int} (h : AnyE w g s0 B out xs wr) (hs : s0 ≤ w.heap.size) (hc : CurE w' g s0) (hg : wr.grownBy w' (some g)) : AnyE w g s0 B out xs w' := by
  have hlt := hc.lt
  have hB := h.hB
  exact ⟨grown_kept hg h.b0 (by simp; omega), grown_kept hg h.bB (by simp; omega), hB, own_kept h.own fun k o n c _ hl ho => grown_kept hg ho (by simp; omega), hc, grownBy_trans h.grown hg⟩
theorem AnyE.put {w wr : World} {g s0 B : Nat} {out v : Value} {xs ys : List Int} (h : AnyE w g s0 B out xs wr) (hs : s0 ≤ w.heap.size) (hown : wr.ownsRow (w.heap.size + 1) 3 1 v ys.length (icells ys)) : AnyE w g s0 B v ys (wr.setCell ⟨B, 0, none⟩ v) := by
  have hB := h.hB
  refine ⟨?_, one_setCell h.bB, hB, own_set_box hown h.bB, h.cur.set _ _ _ (by omega), ?_⟩
  · rw [heap_setCell_other _ _ _ _ (by simp; omega)]; exact h.b0
  · exact grown_then h.grown ((Below.refl w.heap.size wr).setCell (by simp; omega) _) (Nat.le_refl _)
theorem AnyE.on {w wr w' : World} {g s0 B : Nat} {out : Value} {xs : List Int} (h : AnyE w g s0 B out xs wr) (hs : s0 ≤ w.heap.size) (hb : Below wr.heap.size wr w') : AnyE w g s0 B out xs w' := by
  have hsz : w.heap.size ≤ wr.heap.size := h.grown.size
  exact ⟨keep2 h.b0 hb, keep2 h.bB hb, h.hB, own_kept h.own fun k o n c _ _ ho => keep2 ho hb, h.cur.below (hb.mono (by omega)), grown_then h.grown hb hsz⟩
/-- The first levels of an owned label. -/
theorem own_take {w : World} {lo : Nat} {v : Value} {xs : List Int} (h : w.ownsRow lo 3 1 v xs.length (icells xs)) (hx : 0 < xs.length) (n : Nat) (hn : n ≤ xs.length) :
    ∃ g cap, v = .slice (some ⟨g, 0, none⟩) xs.length cap ∧ xs.length ≤ cap ∧ cap ≤ maxLen ∧ lo ≤ g ∧ w.ownsRow lo 3 1 (.slice (some ⟨g, 0, none⟩) n cap) (xs.take n).length (icells (xs.take n)) := by
  obtain ⟨g, cap, rest, rfl, hb, hc, hm, hl, hr⟩ := rowIn_own h hx
  have hl2 : (xs.take n).length = n := by simp; omega
  refine ⟨g, cap, rfl, hc, hm, hb, ?_⟩
  have hr' : RowIn w g (xs.take n) (icells (xs.drop n) ++ rest) := by
    unfold RowIn at hr ⊢
    rw [hr, ← List.append_assoc, ← icells_append, List.take_append_drop]
  have := hr'.own lo hb (cap := cap) (by omega) hm (by rw [← List.append_assoc, ← icells_append, List.take_append_drop]; exact hl)
  rw [hl2] at this ⊢
  exact this
end Go.Proofs.Ytbahokkofidmeaa
