/-
  The program's slices.Clone and rightOrZero.
-/
import Derived.Test.YtpdhlnnepgkmkaaJoin
import Derived.Test.YtpdhlnnepgkmkaaLvl
import Derived.Lib.LazyBuf
namespace Go.Proofs.Ytpdhlnnepgkmkaa
open Go.RowKit
set_option linter.unusedVariables false

theorem wpList_appI {ops : Array Oper} {rest : List Oper} {o : Oper} {a : Act} {Q : Exit → Act → World → Prop} (hgd : o.guard = none) (s x : Operand)
    (ho : o.op = .call { callee := .builtin .append, args := #[s, x], argTypes := #[24, 24] }) (w0 W : World) (base g : Nat) (v : Value) (acc new : List Int) (k c : Nat)
    (hs : a.eval s = v) (hx : a.eval x = .slice (some ⟨g, 0, none⟩) k c) (hown : W.ownsRow base 3 1 v acc.length (icells acc)) (hcell : ∀ (j : Nat) u, (icells new)[j]? = some u → W.cell? ⟨g, j, none⟩ = some u) (hk : new.length = k)
    (hb : acc.length + k ≤ 17592186044416) (hbase : base ≤ W.heap.size) (hnx : Below base w0 W)
    (h : ∀ v' w', Hid (w'.ownsRow base 3 1 v' (acc ++ new).length (icells (acc ++ new))) → Hid (Below base w0 w') → wpList Try.prog ops Q rest (a.put o.dst v') w') : wpList Try.prog ops Q (o :: rest) a W := by
  subst hk
  obtain ⟨i0, hi, hz0, hz1, hz2⟩ := info_parts info3
  refine wpList_append_own _ hgd s x 24 ho base 3 i0 (.int .i64 0) 1 8 Try.underlying24 hi hz0 hz1 hz2 rfl (by decide) v acc.length (icells acc) hs hown ⟨g, 0, none⟩ new.length c (icells new) hx (by rw [icells_length]; omega) ?_ (icells_one _) (by simp only [maxLen]; omega) (by omega) hbase ?_
  · intro j u hj
    have : (⟨g, 0, none⟩ : Addr).add j = ⟨g, j, none⟩ := by unfold Addr.add; split <;> simp_all
    rw [this]
    exact hcell j u hj
  · intro v' w' h1 h2 _
    refine h v' w' ?_ ?_
    · show World.ownsRow _ _ _ _ _ _ _
      rw [icells_append, List.length_append]; exact h1
    · exact hnx.grown h2 hbase (fun k hk => (hown.lt k hk).1)

theorem owns_empty (w : World) : (w.alloc (.cells #[] 3 (0, 0))).ownsRow w.heap.size 3 1 (.slice (some ⟨w.heap.size, 0, none⟩) 0 0) 0 [] :=
  ⟨by simp, .inr ⟨w.heap.size, 0, #[], rfl, Nat.le_refl _, heap_alloc_new w _, Nat.le_refl _, Nat.zero_le _, by simp, by simp⟩⟩

set_option maxHeartbeats 400000 in
theorem clone_four (g : Nat) (xs : List Int) (w : World) (hl : xs.length = 4) (hg : ∀ (j : Nat) u, (icells xs)[j]? = some u → w.cell? ⟨g, j, none⟩ = some u) :
    Calls Try.prog 51 #[.slice (some ⟨g, 0, none⟩) 4 4] w fun e w' => ∃ r, e = .returned r ∧ w'.ownsRow w.heap.size 3 1 r 4 (icells xs) ∧ Below w.heap.size w w' := by
  have hq : (binOp .eql 24 (.slice (some ⟨g, 0, none⟩) 4 4) (.slice none 0 0)).run Try.prog w = .ok (.bool false) w := run_eql_slice_nil w 24 3 _ 4 4 Try.underlying24
  have H1 : Hid ((w.alloc (.cells #[] 3 (0, 0))).ownsRow w.heap.size 3 1 (.slice (some ⟨w.heap.size, 0, none⟩) 0 0) ([] : List Int).length (icells [])) := owns_empty w
  have H2 : Hid (∀ (j : Nat) u, (icells xs)[j]? = some u → (w.alloc (.cells #[] 3 (0, 0))).cell? ⟨g, j, none⟩ = some u) := fun j u hj => by
    have := hg j u hj
    rw [World.cell?_alloc_lt _ _ _ (World.block_lt_of_cell? w _ this)]; exact this
  have H3 : Hid (Below w.heap.size w (w.alloc (.cells #[] 3 (0, 0)))) := (Below.refl _ _).alloc (Nat.le_refl _) _
  have H4 : Hid (xs.length = 4) := hl
  clear hg hl
  go_enter Try.func51, Try.ntmps51
  go_wp2_with (refine wpList_appI rfl (.tmp 5) (.tmp 6) rfl w _ w.heap.size g _ [] xs 4 4 rfl rfl H1.out H2.out H4.out (by simp) (by simp) H3.out ?_; intro v' w3 hown' hnx')
  go_ret
  refine ⟨_, rfl, ?_, hnx'.out⟩
  have := hown'.out
  simpa [H4.out] using this

/-- A right label's four levels, or none. -/
def rightOf (xs : List Int) : List Int := if labelOk xs then xs else []
theorem rightOf_yes {xs : List Int} (h : labelOk xs = true) : rightOf xs = xs := by simp [rightOf, h]
theorem rightOf_no {xs : List Int} (h : labelOk xs = false) : rightOf xs = [] := by simp [rightOf, h]
/-- The world in which rightOrZero clones. -/
def rightW (w : World) (a b c d : Int) : World :=
  ((w.alloc (.cells #[.int .i64 a, .int .i64 b, .int .i64 c, .int .i64 d] 49 (0, 0))).alloc (.cells #[.slice none 0 0] 26 (0, 0))).alloc (.cells #[.int .i64 a, .int .i64 b, .int .i64 c, .int .i64 d] 49 (0, 0))
theorem rightW_below (w : World) (a b c d : Int) : Below w.heap.size w (rightW w a b c d) := (((Below.refl _ _).alloc (Nat.le_refl _) _).alloc (by simp) _).alloc (by simp; omega) _
theorem rightW_size (w : World) (a b c d : Int) : (rightW w a b c d).heap.size = w.heap.size + 1 + 1 + 1 := by simp [rightW]
theorem rightW_zero (w : World) (a b c d : Int) : (rightW w a b c d).heap[w.heap.size]? = some (.cells #[.int .i64 a, .int .i64 b, .int .i64 c, .int .i64 d] 49 (0, 0)) := by
  unfold rightW
  rw [heap_alloc_old _ _ (by simp; omega), heap_alloc_old _ _ (by simp)]
  exact heap_alloc_new w _
theorem rightW_one (w : World) (a b c d : Int) : (rightW w a b c d).heap[w.heap.size + 1]? = some (.cells #[.slice none 0 0] 26 (0, 0)) := by
  unfold rightW
  rw [heap_alloc_old _ _ (by simp)]
  have := heap_alloc_new (w.alloc (.cells #[.int .i64 a, .int .i64 b, .int .i64 c, .int .i64 d] 49 (0, 0))) (.cells #[.slice none 0 0] 26 (0, 0))
  simpa using this
theorem own_from {w : World} {s t : Nat} {e : TypeId} {size : Nat} {v : Value} {n : Nat} {xs : List Value} (h : w.ownsRow t e size v n xs) (hst : s ≤ t) : w.ownsRow s e size v n xs := by
  refine ⟨h.1, ?_⟩
  rcases h.2 with hn | ⟨g, cap, cur, hv, hb, rest⟩
  · exact .inl hn
  · exact .inr ⟨g, cap, cur, hv, by omega, rest⟩

set_option maxHeartbeats 400000 in
theorem rightOrZero_any (a b c d : Int) (w : World) :
    Calls Try.prog 40 #[arr4 a b c d] w fun e w' => ∃ r, e = .returned (.agg #[r]) ∧ w'.ownsRow w.heap.size 3 1 r (rightOf [a, b, c, d]).length (icells (rightOf [a, b, c, d])) ∧ Below w.heap.size w w' := by
  have C := fun w => levelsOk_any a b c d w
  by_cases ho : labelOk [a, b, c, d] = true
  · rw [rightOf_yes ho]
    rw [ho] at C
    have C2 := clone_four w.heap.size [a, b, c, d] (rightW w a b c d) rfl (fun j u hj => by
      simp only [World.cell?, rightW_zero]
      simpa [icells] using hj)
    have HB : Hid (Below w.heap.size w (rightW w a b c d)) := rightW_below w a b c d
    have HO : Hid ((rightW w a b c d).heap[w.heap.size + 1]? = some (.cells #[.slice none 0 0] 26 (0, 0))) := rightW_one w a b c d
    have HS : Hid ((rightW w a b c d).heap.size = w.heap.size + 1 + 1 + 1) := rightW_size w a b c d
    clear ho
    go_enter Try.func40, Try.ntmps40
    go_wp2_with (go_at_call 50; refine (C _).mono ?_; rintro e w' ⟨rfl, rfl⟩)
    clear C
    refine C2.mono ?_
    rintro e w3 ⟨r, rfl, hown, hb⟩
    clear C2
    have h1 : w3.heap[w.heap.size + 1]? = some (.cells #[.slice none 0 0] 26 (0, 0)) := by rw [hb.block _ (by rw [HS.out]; omega)]; exact HO.out
    have c1 := cell_of_one h1
    have f1 := free_of_one h1
    have HB2 : Hid (Below w.heap.size w w3) := HB.out.trans (hb.mono (by rw [HS.out]; omega))
    have HW : Hid (w3.ownsRow (w.heap.size + 1 + 1 + 1) 3 1 r 4 (icells [a, b, c, d])) := by rw [← HS.out]; exact hown
    obtain ⟨a1, n1, c2, rfl⟩ := own_shape hown
    clear hown hb HB HO HS h1
    go_wp2
    have q0 : (w3.setCell ⟨w.heap.size + 1, 0, none⟩ (.slice a1 n1 c2)).cell? ⟨w.heap.size + 1, 0, none⟩ = some (.slice a1 n1 c2) := World.cell?_setCell_same _ _ _ c1
    refine bodyPost_ret (v := .agg #[.slice a1 n1 c2]) (by simp [results, go_sem, q0]) rfl ⟨_, rfl, ?_, ?_⟩
    · exact own_from (ownsRow_setCell_below HW.out (by first | (simp; done) | (simp; omega)) _) (by omega)
    · exact HB2.out.setCell (by simp) _
  · have ho' : labelOk [a, b, c, d] = false := by simpa using ho
    rw [rightOf_no ho']
    rw [ho'] at C
    have HB : Hid (Below w.heap.size w (rightW w a b c d)) := rightW_below w a b c d
    clear ho ho'
    go_enter Try.func40, Try.ntmps40
    go_wp2_with (go_at_call 50; refine (C _).mono ?_; rintro e w' ⟨rfl, rfl⟩)
    refine bodyPost_ret (v := .agg #[.slice none 0 0]) ?_ rfl ⟨_, rfl, World.ownsRow_nil _ _ _ _, HB.out⟩
    have hres : Try.f40.results = #[.cell 2 26] := by kernel_rfl
    simp only [results, hres]
    go_simp
end Go.Proofs.Ytpdhlnnepgkmkaa
