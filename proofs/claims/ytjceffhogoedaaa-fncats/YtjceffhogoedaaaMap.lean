/-
  A map from ints to ints, as a plain function.
-/
import Derived.Test.YtjceffhogoedaaaBase
import Derived.Maps.OwnSet
namespace Go.Proofs.Ytjceffhogoedaaa
open Go.RowKit Go.Maps
set_option linter.unusedVariables false

theorem keyed3 : Keyed Try.prog 3 := int_keyed Try.underlying3
theorem zero3 (w : World) : (zeroValue 3).run Try.prog w = .ok (.int .i64 0) w := by kernel_rfl
/-- Block b is a map of at most n entries that holds what 'f' says. -/
def MapII (w : World) (b n : Nat) (f : Int → Option Int) : Prop :=
  ∃ D : DataW Unit, w.ownsMap Try.prog 3 (plainElem Try.prog 3) b n D ∧ ∀ x : Int, Maps.has D (.int .i64 x) = (f x).isSome ∧ D.atKey (.int .i64 x) (.lit (.int .i64 0)) = .lit (.int .i64 ((f x).getD 0))
theorem MapII.made (w : World) : MapII (w.alloc (.map #[] 0)) w.heap.size 0 (fun _ => none) :=
  ⟨.map [], World.ownsMap_made _ _ _ _, fun x => ⟨rfl, rfl⟩⟩
theorem MapII.lt {w : World} {b n : Nat} {f : Int → Option Int} (h : MapII w b n f) : b < w.heap.size := by
  obtain ⟨D, h, _⟩ := h; exact h.lt
theorem MapII.kept {w w' : World} {row : Option Nat} {b n : Nat} {f : Int → Option Int} (h : MapII w b n f) (hg : w.grownBy w' row) (hne : some b ≠ row) : MapII w' b n f := by
  obtain ⟨D, h, r⟩ := h; exact ⟨D, h.kept hg hne, r⟩
theorem MapII.mono {w : World} {b n n' : Nat} {f : Int → Option Int} (h : MapII w b n f) (hn : n ≤ n') : MapII w b n' f := by
  obtain ⟨D, h, r⟩ := h; exact ⟨D, h.mono hn, r⟩
/-- One entry more, or another one. -/
def putAt (f : Int → Option Int) (k v : Int) : Int → Option Int := fun x => if x = k then some v else f x
/-- One entry less. -/
def delAt (f : Int → Option Int) (k : Int) : Int → Option Int := fun x => if x = k then none else f x

section
variable (w : World) {ops : Array Oper} {rest : List Oper} {o : Oper} {a : Act} {Q : Exit → Act → World → Prop}
theorem wpList_look (hg : o.guard = none) (m x : Operand) (hop : o.op = Op.lookup 47 m x false) (b n : Nat) (f : Int → Option Int) (hm : a.eval m = .map (some b)) (h : MapII w b n f) (k : Int) (hx : a.eval x = .int .i64 k) (hk : Fits64 k)
    (hK : wpList Try.prog ops Q rest (a.put o.dst (.int .i64 ((f k).getD 0))) w) : wpList Try.prog ops Q (o :: rest) a w := by
  obtain ⟨D, h, r⟩ := h
  refine wpList_lookup_own_int w hg m x 47 hop 3 3 .i64 keyed3 Try.underlying47 Try.underlying3 (zero3 _) b n D hm h _ _ hx (keyOf_int_mk Try.underlying3 hk.wf) ?_
  intro c hat hwc
  rw [(r k).2] at hat
  simp at hat
  rw [← hat]; exact hK
theorem wpList_look_ok (hg : o.guard = none) (m x : Operand) (hop : o.op = Op.lookup 47 m x true) (b n : Nat) (f : Int → Option Int) (hm : a.eval m = .map (some b)) (h : MapII w b n f) (k : Int) (hx : a.eval x = .int .i64 k) (hk : Fits64 k)
    (hK : wpList Try.prog ops Q rest (a.put o.dst (.tuple #[.int .i64 ((f k).getD 0), .bool (f k).isSome])) w) : wpList Try.prog ops Q (o :: rest) a w := by
  obtain ⟨D, h, r⟩ := h
  refine wpList_lookup_own_ok_int w hg m x 47 hop 3 3 .i64 keyed3 Try.underlying47 Try.underlying3 (zero3 _) b n D hm h _ _ hx (keyOf_int_mk Try.underlying3 hk.wf) ?_
  intro c hat hwc
  rw [(r k).2] at hat
  simp at hat
  rw [← hat, (r k).1]; exact hK
theorem wpList_store (hg : o.guard = none) (m x v : Operand) (hop : o.op = Op.mapUpdate 47 m x v) (b n : Nat) (f : Int → Option Int) (hm : a.eval m = .map (some b)) (h : MapII w b n f) (hn : n < maxLen) (k u : Int) (hx : a.eval x = .int .i64 k) (hv : a.eval v = .int .i64 u) (hk : Fits64 k) (hu : Fits64 u)
    (hK : ∀ w', MapII w' b (n + 1) (putAt f k u) → w.grownBy w' (some b) → wpList Try.prog ops Q rest (a.put o.dst undef) w') : wpList Try.prog ops Q (o :: rest) a w := by
  obtain ⟨D, h, r⟩ := h
  refine wpList_mapUpdate_in w hg m x v 47 hop 3 3 keyed3 Try.underlying47 _ b n D hm h hn _ _ _ hx hv (keyOf_int_mk Try.underlying3 hk.wf) _ [] (plainElem_int Try.underlying3 hu.wf) ?_
  intro w1 h1 ht
  refine hK w1 ⟨_, h1, fun y => ?_⟩ ht.grown
  unfold putAt
  by_cases hy : y = k
  · subst hy
    have hkl : WideAt.IsKeyLit (Lit.int .i64 y) := trivial
    rw [Maps.has_put_same h.isMap hkl, Maps.atKey_put_same h.isMap hkl]; simp
  · have hne : (Lit.int .i64 y) ≠ .int .i64 k := by intro e; cases e; exact hy rfl
    rw [Maps.has_put_other hne, Maps.atKey_put_other hne, if_neg hy]; exact r y
theorem wpList_del (hg : o.guard = none) (m x : Operand) (hop : o.op = Op.call { callee := Callee.builtin Builtin.delete, args := #[m, x], argTypes := #[47, 3] }) (b n : Nat) (f : Int → Option Int) (hm : a.eval m = .map (some b)) (h : MapII w b n f) (k : Int) (hx : a.eval x = .int .i64 k) (hk : Fits64 k)
    (hK : ∀ w', MapII w' b n (delAt f k) → w.grownBy w' (some b) → wpList Try.prog ops Q rest (a.put o.dst (.tuple #[])) w') : wpList Try.prog ops Q (o :: rest) a w := by
  obtain ⟨D, h, r⟩ := h
  refine wpList_delete_own w hg m x 47 3 hop 3 keyed3 Try.underlying47 _ b n D hm h _ _ hx (keyOf_int_mk Try.underlying3 hk.wf) ?_
  intro w1 h1 ht
  refine hK w1 ⟨_, h1, fun y => ?_⟩ ht.grown
  unfold delAt
  by_cases hy : y = k
  · subst hy
    rw [Maps.has_del_same, Maps.atKey_del_same]; simp
  · have hne : (Lit.int .i64 y) ≠ .int .i64 k := by intro e; cases e; exact hy rfl
    rw [Maps.has_del_other hne, Maps.atKey_del_other hne, if_neg hy]; exact r y
end
end Go.Proofs.Ytjceffhogoedaaa
