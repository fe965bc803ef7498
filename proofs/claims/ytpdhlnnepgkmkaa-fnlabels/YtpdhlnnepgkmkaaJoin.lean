/-
  The model's Join.
-/
import Derived.Test.YtpdhlnnepgkmkaaMark
import Derived.Deep.RegionLaw
namespace Go.Proofs.Ytpdhlnnepgkmkaa
open Go.RowKit
set_option linter.unusedVariables false

theorem icells_one (xs : List Int) : ∀ v ∈ icells xs, v.oneCell' = true := by
  intro v hv
  obtain ⟨n, _, rfl⟩ := List.mem_map.1 hv
  rfl
/-- append to the call's own row of ints, as one step of a region that draws. -/
theorem step_appI {ops : Array Oper} {o : Oper} {a : Act} {K : Act → World → Prop} {Q : Exit → Act → World → Prop} {E : Prop} (hgd : o.guard = none) (s x : Operand)
    (ho : o.op = .call { callee := .builtin .append, args := #[s, x], argTypes := #[24, 24] }) (w0 W : World) (base g : Nat) (v : Value) (acc new : List Int) (vs : Array Value) (k : Nat)
    (hs : a.eval s = v) (hx : a.eval x = .slice (some ⟨g, 0, none⟩) k k) (hown : W.ownsRow base 3 1 v acc.length (icells acc)) (hg : W.heap[g]? = some (.cells vs 3 (0, 0))) (hvs : vs = (icells new).toArray) (hk : new.length = k)
    (hb : acc.length + k ≤ 17592186044416) (hbase : base ≤ W.heap.size) (hnx : Below base w0 W)
    (h : ∀ v' w', Hid (w'.ownsRow base 3 1 v' (acc ++ new).length (icells (acc ++ new))) → Below base w0 w' → K (a.put o.dst v') w') :
    if Region.wanted o (yielded ops a.tmps) = true then Oper.wp Try.prog o a W K Q else E := by
  have hw : Region.wanted o (yielded ops a.tmps) = true := by simp [Region.wanted, hgd]
  rw [if_pos hw]
  subst hvs hk
  obtain ⟨i0, hi, hz0, hz1, hz2⟩ := info_parts info3
  refine wp_append_own W s x 24 ho base 3 i0 (.int .i64 0) 1 8 Try.underlying24 hi hz0 hz1 hz2 rfl (by decide) v acc.length (icells acc) hs hown ⟨g, 0, none⟩ new.length new.length (icells new) hx (by rw [icells_length]; omega) ?_ (icells_one _) (by simp only [maxLen]; omega) (by omega) hbase ?_
  · intro j u hj
    have : (⟨g, 0, none⟩ : Addr).add j = ⟨g, j, none⟩ := by unfold Addr.add; split <;> simp_all
    rw [this]
    simp only [World.cell?, hg]
    simpa using hj
  · intro v' w' h1 h2 _
    refine h v' w' ?_ ?_
    · rw [icells_append, List.length_append]; exact h1
    · exact hnx.grown h2 hbase (fun k hk => (hown.lt k hk).1)

theorem own_shape {w : World} {base : Nat} {e : TypeId} {size : Nat} {v : Value} {n : Nat} {xs : List Value} (h : w.ownsRow base e size v n xs) : ∃ a n c, v = .slice a n c := by
  rcases h.2 with ⟨rfl, _⟩ | ⟨g, cap, cur, rfl, _⟩
  · exact ⟨_, _, _, rfl⟩
  · exact ⟨_, _, _, rfl⟩
theorem own_less {w : World} {s : Nat} {e : TypeId} {size : Nat} {v : Value} {n : Nat} {xs : List Value} (h : w.ownsRow (s + 1 + 1 + 1 + 1) e size v n xs) : w.ownsRow s e size v n xs := by
  refine ⟨h.1, ?_⟩
  rcases h.2 with hn | ⟨g, cap, cur, hv, hb, rest⟩
  · exact .inl hn
  · exact .inr ⟨g, cap, cur, hv, by omega, rest⟩
/-- Four blocks: two labels, the answer's place, and the label that grows. -/
structure Four (w : World) (v u out : Value) (wr : World) : Prop where
  b0 : wr.heap[w.heap.size]? = some (.cells #[v] 26 (0, 0))
  b1 : wr.heap[w.heap.size + 1]? = some (.cells #[u] 26 (0, 0))
  b2 : wr.heap[w.heap.size + 1 + 1]? = some (.cells #[.slice none 0 0] 26 (0, 0))
  b3 : wr.heap[w.heap.size + 1 + 1 + 1]? = some (.cells #[out] 26 (0, 0))
  below : Below w.heap.size w wr
theorem Four.size {w wr : World} {v u out : Value} (h : Four w v u out wr) : w.heap.size + 1 + 1 + 1 + 1 ≤ wr.heap.size := by
  have := lt_of_block h.b3; omega
theorem Four.on {w wr w' : World} {v u out : Value} (h : Four w v u out wr) (hb : Below (w.heap.size + 1 + 1 + 1 + 1) wr w') : Four w v u out w' :=
  ⟨by rw [hb.block _ (by omega)]; exact h.b0, by rw [hb.block _ (by omega)]; exact h.b1, by rw [hb.block _ (by omega)]; exact h.b2, by rw [hb.block _ (by omega)]; exact h.b3, h.below.trans (hb.mono (by omega))⟩
theorem Four.put {w wr : World} {v u out : Value} (h : Four w v u out wr) (out' : Value) : Four w v u out' (wr.setCell ⟨w.heap.size + 1 + 1 + 1, 0, none⟩ out') :=
  ⟨by rw [heap_setCell_other _ _ _ _ (by simp; omega)]; exact h.b0, by rw [heap_setCell_other _ _ _ _ (by first | (simp; done) | (simp; omega))]; exact h.b1, by rw [heap_setCell_other _ _ _ _ (by simp)]; exact h.b2, one_setCell h.b3, h.below.setCell (by simp; omega) _⟩
theorem cell_of_one {w : World} {b : Nat} {t : TypeId} {v : Value} (h : w.heap[b]? = some (.cells #[v] t (0, 0))) : w.cell? ⟨b, 0, none⟩ = some v := by simp [World.cell?, h]
theorem free_of_one {w : World} {b : Nat} {t : TypeId} {v : Value} (h : w.heap[b]? = some (.cells #[v] t (0, 0))) : w.frozen? ⟨b, 0, none⟩ = false := by simp [World.frozen?, h]
def fourOf (w : World) (v u : Value) : World := (((w.alloc (.cells #[v] 26 (0, 0))).alloc (.cells #[u] 26 (0, 0))).alloc (.cells #[.slice none 0 0] 26 (0, 0))).alloc (.cells #[.slice none 0 0] 26 (0, 0))
theorem fourOf_four (w : World) (v u : Value) : Four w v u (.slice none 0 0) (fourOf w v u) := by
  refine ⟨?_, ?_, ?_, ?_, ?_⟩
  · unfold fourOf
    rw [heap_alloc_old _ _ (by simp; omega), heap_alloc_old _ _ (by simp; omega), heap_alloc_old _ _ (by simp)]
    exact heap_alloc_new w _
  · unfold fourOf
    rw [heap_alloc_old _ _ (by first | (simp; done) | (simp; omega)), heap_alloc_old _ _ (by simp)]
    have := heap_alloc_new (w.alloc (.cells #[v] 26 (0, 0))) (.cells #[u] 26 (0, 0))
    simpa using this
  · unfold fourOf
    rw [heap_alloc_old _ _ (by simp)]
    have := heap_alloc_new ((w.alloc (.cells #[v] 26 (0, 0))).alloc (.cells #[u] 26 (0, 0))) (.cells #[.slice none 0 0] 26 (0, 0))
    simpa using this
  · have := heap_alloc_new (((w.alloc (.cells #[v] 26 (0, 0))).alloc (.cells #[u] 26 (0, 0))).alloc (.cells #[.slice none 0 0] 26 (0, 0))) (.cells #[.slice none 0 0] 26 (0, 0))
    simpa [fourOf] using this
  · exact ((((Below.refl _ _).alloc (Nat.le_refl _) _).alloc (by simp) _).alloc (by simp; omega) _).alloc (by simp; omega) _

/-- The greater of both, one by one, as far as 'k'. -/
def joinTo (xs ys : List Int) (k : Nat) : List Int := (List.range k).map fun (i : Nat) => max (xs.getD i 0) (ys.getD i 0)
def joinOf (xs ys : List Int) : List Int := if labelOk xs && labelOk ys then joinTo xs ys 4 else []
theorem joinTo_length (xs ys : List Int) (k : Nat) : (joinTo xs ys k).length = k := by simp [joinTo]
theorem joinTo_succ (xs ys : List Int) (k : Nat) : joinTo xs ys (k + 1) = joinTo xs ys k ++ [max (xs.getD k 0) (ys.getD k 0)] := by simp [joinTo, List.range_succ]

theorem own_next {w w3 : World} {xs ys : List Int} {k : Nat} {m : Int} {v : Value} (hj : joinTo xs ys (k + 1) = joinTo xs ys k ++ [m])
    (h : w3.ownsRow (w.heap.size + 1 + 1 + 1 + 1) 3 1 v (joinTo xs ys k ++ [m]).length (icells (joinTo xs ys k ++ [m]))) :
    (w3.setCell ⟨w.heap.size + 1 + 1 + 1, 0, none⟩ v).ownsRow (w.heap.size + 1 + 1 + 1 + 1) 3 1 v (k + 1) (icells (joinTo xs ys (k + 1))) := by
  rw [← hj, joinTo_length] at h
  exact ownsRow_setCell_below h (by simp) v

set_option maxRecDepth 100000 in
set_option maxHeartbeats 4000000 in
theorem specJoin_yes (v u : Value) (xs ys : List Int) (w : World) (hx : IsInts w v xs) (hy : IsInts w u ys) (h1 : labelOk xs = true) (h2 : labelOk ys = true) :
    Calls Try.prog 27 #[.agg #[v], .agg #[u]] w fun e w' => ∃ r, e = .returned (.agg #[r]) ∧ w'.ownsRow w.heap.size 3 1 r 4 (icells (joinTo xs ys 4)) ∧ Below w.heap.size w w' := by
  have l1 := labelOk_four h1
  have l2 := labelOk_four h2
  have F0 := fourOf_four w v u
  have C1 := specLabelOk_any v xs (fourOf w v u) (hx.on F0.below) (by omega)
  have c2 := fun w' (hb : Below w.heap.size w w') => specLabelOk_any u ys w' (hy.on hb) (by omega)
  have C2 : Hid (∀ w', Below w.heap.size w w' → _) := c2
  have HF0 : Hid (Four w v u (.slice none 0 0) (fourOf w v u)) := F0
  simp only [h2] at C2
  rw [h1] at C1
  obtain ⟨a, cap, rfl, hcap, hx⟩ := hx
  obtain ⟨b, cap2, rfl, hcap2, hy⟩ := hy
  have HX : Hid (∀ i, i < xs.length → ∃ p, a = some p ∧ w.cell? (p.add i) = some (.int .i64 (xs.getD i 0))) := hx
  have HY : Hid (∀ i, i < ys.length → ∃ p, b = some p ∧ w.cell? (p.add i) = some (.int .i64 (ys.getD i 0))) := hy
  rw [l1] at C1 HX HF0 hcap ⊢
  rw [l2] at C1 C2 HY HF0 hcap2 ⊢
  clear hx hy h1 h2 l1 l2 F0 c2
  go_enter Try.func27, Try.ntmps27
  go_wp2_with fail
  refine C1.mono ?_
  rintro e w1 ⟨rfl, hb1⟩
  clear C1
  have F1 := HF0.out.on (hb1.mono HF0.out.size)
  have x2 := cell_of_one F1.b1
  have HF1 : Hid (Four w (.slice a 4 cap) (.slice b 4 cap2) (.slice none 0 0) w1) := F1
  clear F1 HF0 hb1
  go_wp2_with fail
  refine (C2.out w1 HF1.out.below).mono ?_
  rintro e w2 ⟨rfl, hb2⟩
  have F2 : Hid (Four w (.slice a 4 cap) (.slice b 4 cap2) (.slice none 0 0) w2) := HF1.out.on (hb2.mono HF1.out.size)
  clear C2 x2 HF1 hb2
  go_wp2
  go_loopw [6] (fun i wr => ∃ (k : Nat) (out : Value), k ≤ 4 ∧ i = .int .i64 k ∧ Hid (Four w (.slice a 4 cap) (.slice b 4 cap2) out wr) ∧ Hid (wr.ownsRow (w.heap.size + 1 + 1 + 1 + 1) 3 1 out k (icells (joinTo xs ys k)))) (fun i _ => 4 - (intOf i).toNat)
  case atStart => exact ⟨0, _, Nat.zero_le _, rfl, F2, World.ownsRow_nil _ _ _ _⟩
  case round =>
    obtain ⟨k, out, hk, rfl, hf, hown⟩ := hrel
    clear F2
    by_cases hlt : k < 4
    · obtain ⟨p, rfl, hc1⟩ := HX.out k hlt
      obtain ⟨q, rfl, hc2⟩ := HY.out k hlt
      have d1 : wr.cell? (p.add k) = some (.int .i64 (xs.getD k 0)) := (hf.out.below.cell (World.block_lt_of_cell? w _ hc1)).trans hc1
      have d2 : wr.cell? (q.add k) = some (.int .i64 (ys.getD k 0)) := (hf.out.below.cell (World.block_lt_of_cell? w _ hc2)).trans hc2
      have o0 := cell_of_one hf.out.b0
      have o1 := cell_of_one hf.out.b1
      have o3 := cell_of_one hf.out.b3
      have HJ : Hid (joinTo xs ys (k + 1) = joinTo xs ys k ++ [max (xs.getD k 0) (ys.getD k 0)]) := joinTo_succ xs ys k
      obtain ⟨x, hx⟩ : ∃ x, x = xs.getD k 0 := ⟨_, rfl⟩
      obtain ⟨y, hy⟩ : ∃ y, y = ys.getD k 0 := ⟨_, rfl⟩
      rw [← hx] at d1 HJ
      rw [← hy] at d2 HJ
      clear hc1 hc2 hx hy
      have hsz := hf.out.size
      have hown1 : Hid (wr.ownsRow (w.heap.size + 1 + 1 + 1 + 1) 3 1 out (joinTo xs ys k).length (icells (joinTo xs ys k))) := by rw [joinTo_length]; exact hown
      have hjl : (joinTo xs ys k).length + 1 ≤ 17592186044416 := by rw [joinTo_length]; omega
      have o3' : ∀ o : Obj, (wr.alloc o).cell? ⟨w.heap.size + 1 + 1 + 1, 0, none⟩ = some out := fun o => (World.cell?_alloc_lt _ _ _ (by simp; omega)).trans o3
      have i0 : (0 : Int) ≤ (k : Int) := by omega
      have i1 : (k : Int) < 4 := by omega
      clear hown
      obtain ⟨m, hm⟩ : ∃ m, m = max x y := ⟨_, rfl⟩
      have hif : (if x < y then y else x) = m := by rw [hm]; split <;> omega
      rw [← hm] at HJ
      clear hm
      go_wp2
      go_region_law (refine step_appI rfl (.tmp 22) (.tmp 34) rfl wr _ (w.heap.size + 1 + 1 + 1 + 1) wr.heap.size out (joinTo xs ys k) [m] _ 1 rfl rfl (hown1.out.alloc _) (heap_alloc_new wr _) rfl rfl hjl (by simp; omega) (((Below.refl _ _).alloc hsz _).drew) ?_; intro v' w3 hown' hnx'; obtain ⟨a1, n1, c1, rfl⟩ := own_shape hown'.out; have g1 := cell_of_one (hf.out.on hnx').b3; have g2 := free_of_one (hf.out.on hnx').b3)
      all_goals clear o0 o1 o3 o3' d1 d2 g1 g2 hown1
      all_goals go_wp2
      all_goals exact ⟨⟨k + 1, _, by omega, by go_num, (hf.out.on hnx').put _, own_next HJ.out hown'.out⟩, by simp [intOf]; omega⟩
    · obtain rfl : k = 4 := by omega
      obtain ⟨a1, n1, c1, rfl⟩ := own_shape hown.out
      have o2 := cell_of_one hf.out.b2
      have o3 := cell_of_one hf.out.b3
      have f2 := free_of_one hf.out.b2
      go_wp2
      have q0 : (wr.setCell ⟨w.heap.size + 1 + 1, 0, none⟩ (.slice a1 n1 c1)).cell? ⟨w.heap.size + 1 + 1, 0, none⟩ = some (.slice a1 n1 c1) := World.cell?_setCell_same _ _ _ o2
      refine bodyPost_ret (v := .agg #[.slice a1 n1 c1]) (by simp [results, go_sem, q0]) rfl ⟨_, rfl, ?_, ?_⟩
      · exact own_less (ownsRow_setCell_below hown.out (by first | (simp; done) | (simp; omega)) _)
      · exact hf.out.below.setCell (by first | (simp; done) | (simp; omega)) _
end Go.Proofs.Ytpdhlnnepgkmkaa
