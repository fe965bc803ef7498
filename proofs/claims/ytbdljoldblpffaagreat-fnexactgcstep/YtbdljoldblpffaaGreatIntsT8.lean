/-
  Slices of ints: what is read of one, what the laws' own helpers do with them, append.
-/
import Derived.Test.YtbdljoldblpffaaGreatBase8
import Derived.Lib.LazyBuf
namespace Go.Proofs.YtbdljoldblpffaaGreat
open Go.RowKit
set_option linter.unusedVariables false
set_option maxRecDepth 100000

theorem grownBy_set (w : World) (g i : Nat) (v : Value) : w.grownBy (w.setCell ⟨g, i, none⟩ v) (some g) :=
  ⟨rfl, rfl, rfl, by simp, fun k hk hne => Below.heap_setCell w ⟨g, i, none⟩ v k (by simpa using hne)⟩
theorem grownBy_trans {w w1 w2 : World} {row : Option Nat} (h1 : w.grownBy w1 row) (h2 : w1.grownBy w2 row) : w.grownBy w2 row := by
  obtain ⟨a1, b1, c1, d1, e1⟩ := h1
  obtain ⟨a2, b2, c2, d2, e2⟩ := h2
  exact ⟨a2.trans a1, b2.trans b1, c2.trans c1, Nat.le_trans d1 d2, fun k hk hne => (e2 k (by omega) hne).trans (e1 k hk hne)⟩
/-- The cells of a list of ints. -/
def icells (xs : List Int) : List Value := xs.map (Value.int .i64)
theorem icells_length (xs : List Int) : (icells xs).length = xs.length := by simp [icells]
theorem icells_append (a b : List Int) : icells (a ++ b) = icells a ++ icells b := by simp [icells]
/-- A slice of ints that reads as 'xs'. -/
def IsInts (w : World) (v : Value) (xs : List Int) : Prop :=
  ∃ (a : Option Addr) (cap : Nat), v = .slice a xs.length cap ∧ xs.length ≤ cap ∧ ∀ i, i < xs.length → ∃ p, a = some p ∧ w.cell? (p.add i) = some (.int .i64 (xs.getD i 0))
theorem IsInts.on {w w' : World} {v : Value} {xs : List Int} (h : IsInts w v xs) (hb : Below w.heap.size w w') : IsInts w' v xs := by
  obtain ⟨a, cap, hv, hc, hx⟩ := h
  refine ⟨a, cap, hv, hc, fun i hi => ?_⟩
  obtain ⟨p, hp, hcell⟩ := hx i hi
  exact ⟨p, hp, (hb.cell (World.block_lt_of_cell? w _ hcell)).trans hcell⟩
theorem isInts_own {w : World} {base : Nat} {v : Value} {xs : List Int} (h : w.ownsRow base 3 1 v xs.length (icells xs)) : IsInts w v xs := by
  rcases h.2 with ⟨rfl, h0⟩ | ⟨g, cap, cur, rfl, hb, hg, hcap, hm, hs, htake⟩
  · exact ⟨none, 0, by rw [h0], by omega, fun i hi => by omega⟩
  · refine ⟨some ⟨g, 0, none⟩, cap, rfl, hcap, fun i hi => ⟨_, rfl, ?_⟩⟩
    exact h.cells rfl i _ (by simp [icells, hi])
theorem info3 : (Tryz.prog.info? 3).map (fun i => (i.zero, i.size, i.bytes)) = some (some (.int .i64 0), 1, 8) := by kernel_rfl
theorem icells_set (xs : List Int) (k : Nat) (n : Int) : (icells xs).set k (.int .i64 n) = icells (xs.set k n) := by simp [icells, List.map_set]
/-- Are two lists the same? -/
def sameInts (xs ys : List Int) : Bool := decide (xs = ys)
theorem sameInts_refl (xs : List Int) : sameInts xs xs = true := by simp [sameInts]
theorem sameInts_no {xs ys : List Int} (h : xs ≠ ys) : sameInts xs ys = false := by simp [sameInts, h]
theorem take_more {xs ys : List Int} {k : Nat} (hx : k < xs.length) (hy : k < ys.length) (h : xs.take k = ys.take k) (he : xs.getD k 0 = ys.getD k 0) : xs.take (k + 1) = ys.take (k + 1) := by
  rw [List.take_add_one, List.take_add_one, h, List.getElem?_eq_getElem hx, List.getElem?_eq_getElem hy]
  simp [List.getD, hx, hy] at he
  rw [he]
theorem getD_ne {xs ys : List Int} {k : Nat} (he : xs.getD k 0 ≠ ys.getD k 0) : xs ≠ ys := fun h => he (by rw [h])
set_option maxHeartbeats 400000 in
theorem eqIntS_any (v u : Value) (xs ys : List Int) (w : World) (hx : IsInts w v xs) (hy : IsInts w u ys) (hn : xs.length ≤ 1048576) :
    Calls Tryz.prog 60 #[v, u] w fun e w' => e = .returned (.bool (sameInts xs ys)) ∧ Below w.heap.size w w' := by
  obtain ⟨a, cap, rfl, hcap, hx⟩ := hx
  obtain ⟨b, cap2, rfl, hcap2, hy⟩ := hy
  by_cases hl : xs.length = ys.length
  · have HX : Hid (∀ i, i < xs.length → ∃ p, a = some p ∧ w.cell? (p.add i) = some (.int .i64 (xs.getD i 0))) := hx
    have HY : Hid (∀ i, i < ys.length → ∃ p, b = some p ∧ w.cell? (p.add i) = some (.int .i64 (ys.getD i 0))) := hy
    have HL : Hid (xs.length = ys.length) := hl
    obtain ⟨n, hn'⟩ : ∃ n, n = xs.length := ⟨_, rfl⟩
    rw [← hn'] at hl hcap HX hn HL ⊢
    rw [← hl] at hcap2 HY ⊢
    have HN : Hid (n = xs.length ∧ n = ys.length) := ⟨hn', hl⟩
    clear hx hy hl hn' HL
    go_enter Tryz.func60, Tryz.ntmps60
    go_wp2
    go_loopw [5] (fun i wr => ∃ k : Nat, k ≤ n ∧ i = .int .i64 k ∧ Hid (xs.take k = ys.take k) ∧ Below w.heap.size w wr) (fun i _ => n - (intOf i).toNat)
    case atStart => exact ⟨0, Nat.zero_le _, rfl, rfl, Below.refl _ _⟩
    case round =>
      obtain ⟨k, hk, rfl, htk, hnx⟩ := hrel
      by_cases hlt : k < n
      · obtain ⟨p, rfl, hc1⟩ := HX.out k hlt
        obtain ⟨q, rfl, hc2⟩ := HY.out k hlt
        have d1 : wr.cell? (p.add k) = some (.int .i64 (xs.getD k 0)) := (hnx.cell (World.block_lt_of_cell? w _ hc1)).trans hc1
        have d2 : wr.cell? (q.add k) = some (.int .i64 (ys.getD k 0)) := (hnx.cell (World.block_lt_of_cell? w _ hc2)).trans hc2
        have H1 : Hid (xs.getD k 0 = ys.getD k 0 → xs.take (k + 1) = ys.take (k + 1)) := fun he => take_more (by rw [← HN.out.1]; exact hlt) (by rw [← HN.out.2]; exact hlt) htk.out he
        have H2 : Hid (xs.getD k 0 ≠ ys.getD k 0 → sameInts xs ys = false) := fun he => sameInts_no (getD_ne he)
        obtain ⟨x, hx⟩ : ∃ x, x = xs.getD k 0 := ⟨_, rfl⟩
        obtain ⟨y, hy⟩ : ∃ y, y = ys.getD k 0 := ⟨_, rfl⟩
        rw [← hx] at d1 H1 H2
        rw [← hy] at d2 H1 H2
        clear hc1 hc2 hx hy
        by_cases hxy : x = y
        · have hne : (x != y) = false := by simp [hxy]
          have H3 : Hid (xs.take (k + 1) = ys.take (k + 1)) := H1.out hxy
          clear H1 H2 hxy
          go_wp2
          go_quiet (fail)
          go_wp2
          go_roundw
          case rel => exact ⟨k + 1, by omega, by go_num, H3, below_drewN hnx _⟩
          case measure => simp [intOf]; omega
        · have hne : (x != y) = true := by simp [hxy]
          have H3 : Hid (sameInts xs ys = false) := H2.out hxy
          clear H1 H2 hxy
          go_wp2
          go_quiet (fail)
          go_wp2
          go_ret
          rw [H3.out]
          exact ⟨rfl, below_drewN hnx _⟩
      · obtain rfl : k = n := by omega
        have H3 : Hid (sameInts xs ys = true) := by
          have := htk.out
          rw [List.take_of_length_le (by rw [← HN.out.1]; exact Nat.le_refl _), List.take_of_length_le (by rw [← HN.out.2]; exact Nat.le_refl _)] at this
          rw [Hid, this]; exact sameInts_refl _
        go_wp2
        go_ret
        rw [H3.out]
        exact ⟨rfl, hnx⟩
  · rw [sameInts_no (fun h => hl (by rw [h]))]
    have hne : ((xs.length : Int) != (ys.length : Int)) = true := by simp; omega
    clear hx hy
    go_enter Tryz.func60, Tryz.ntmps60
    go_wp2
    go_ret
    exact ⟨rfl, Below.refl _ _⟩
/-- n numbers from k on. -/
def upFrom (k : Int) (n : Nat) : List Int := (List.range n).map fun (i : Nat) => k + (i : Int)
theorem upFrom_length (k : Int) (n : Nat) : (upFrom k n).length = n := by simp [upFrom]
theorem upFrom_getD (k : Int) (n i : Nat) (h : i < n) : (upFrom k n).getD i 0 = k + (i : Int) := by simp [upFrom, List.getD, h]
/-- A row of ints at a block's head, and what is spare behind them. -/
def RowIn (w : World) (g : Nat) (xs : List Int) (rest : List Value) : Prop := w.heap[g]? = some (.cells (icells xs ++ rest).toArray 3 (0, 0))
theorem RowIn.cell {w : World} {g : Nat} {xs : List Int} {rest : List Value} (h : RowIn w g xs rest) (i : Nat) (hi : i < xs.length) : w.cell? ⟨g, i, none⟩ = some (.int .i64 (xs.getD i 0)) := by
  unfold RowIn at h
  simp only [World.cell?, h]
  have e : (icells xs ++ rest)[i]? = some (.int .i64 (xs.getD i 0)) := by
    rw [List.getElem?_append_left (by rw [icells_length]; exact hi)]
    simp [icells, hi]
  simpa using e
theorem RowIn.free {w : World} {g : Nat} {xs : List Int} {rest : List Value} (h : RowIn w g xs rest) (i : Nat) : w.frozen? ⟨g, i, none⟩ = false := by
  unfold RowIn at h
  simp [World.frozen?, h]
theorem RowIn.set {w : World} {g : Nat} {xs : List Int} {rest : List Value} (h : RowIn w g xs rest) (i : Nat) (hi : i < xs.length) (n : Int) : RowIn (w.setCell ⟨g, i, none⟩ (.int .i64 n)) g (xs.set i n) rest := by
  have := heap_setCell_same w g i _ 3 (.int .i64 n) h
  unfold RowIn
  rw [this, ← icells_set]
  simp
  rw [List.set_append_left _ _ (by rw [icells_length]; exact hi)]
theorem rowIn_own {w : World} {base : Nat} {v : Value} {xs : List Int} (h : w.ownsRow base 3 1 v xs.length (icells xs)) (hx : 0 < xs.length) : ∃ g cap rest, v = .slice (some ⟨g, 0, none⟩) xs.length cap ∧ base ≤ g ∧ xs.length ≤ cap ∧ cap ≤ maxLen ∧ (icells xs ++ rest).length = cap ∧ RowIn w g xs rest := by
  rcases h.2 with ⟨rfl, h0⟩ | ⟨g, cap, cur, rfl, hb, hg, hcap, hm, hs, htake⟩
  · omega
  · refine ⟨g, cap, cur.toList.drop xs.length, rfl, hb, hcap, hm, ?_, ?_⟩
    · have : (icells xs ++ cur.toList.drop xs.length) = cur.toList := by rw [← htake, Nat.mul_one, List.take_append_drop]
      rw [this]; simp [hs]
    · have : (icells xs ++ cur.toList.drop xs.length) = cur.toList := by rw [← htake, Nat.mul_one, List.take_append_drop]
      unfold RowIn
      rw [this]; simpa using hg
/-- The row as it is marked as far as 'k'. -/
def markOf (xs : List Int) (k0 : Int) (k : Nat) : List Int := upFrom k0 k ++ xs.drop k
theorem markOf_start (xs : List Int) (k0 : Int) : markOf xs k0 0 = xs := by simp [markOf, upFrom]
theorem markOf_end (xs : List Int) (k0 : Int) : markOf xs k0 xs.length = upFrom k0 xs.length := by simp [markOf]
theorem markOf_length (xs : List Int) (k0 : Int) (k : Nat) (h : k ≤ xs.length) : (markOf xs k0 k).length = xs.length := by simp [markOf, upFrom]; omega
theorem markOf_set (xs : List Int) (k0 : Int) (k : Nat) (h : k < xs.length) : (markOf xs k0 k).set k (k0 + (k : Int)) = markOf xs k0 (k + 1) := by
  unfold markOf
  have e : upFrom k0 (k + 1) = upFrom k0 k ++ [k0 + (k : Int)] := by simp [upFrom, List.range_succ]
  rw [List.set_append_right _ _ (by rw [upFrom_length]; exact Nat.le_refl _), upFrom_length, Nat.sub_self, e, List.append_assoc, List.drop_eq_getElem_cons h, List.set_cons_zero]
  rfl
set_option maxHeartbeats 400000 in
theorem markIntS_row (g cap : Nat) (xs : List Int) (rest : List Value) (k0 : Int) (w : World) (hr : RowIn w g xs rest) (hc : xs.length ≤ cap) (hn : xs.length ≤ 1048576) (h0 : 0 ≤ k0) (h1 : k0 ≤ 1099511627776) :
    Calls Tryz.prog 61 #[.slice (some ⟨g, 0, none⟩) xs.length cap, .int .i64 k0] w fun e w' => e = .returned (.int .i64 (k0 + xs.length)) ∧ RowIn w' g (upFrom k0 xs.length) rest ∧ w.grownBy w' (some g) := by
  have HR : Hid (RowIn w g (markOf xs k0 0) rest) := by rw [markOf_start]; exact hr
  clear hr
  go_enter Tryz.func61, Tryz.ntmps61
  go_wp2
  go_loopw [1, 5] (fun q i wr => ∃ k : Nat, k ≤ xs.length ∧ i = .int .i64 k ∧ q = .int .i64 (k0 + (k : Int)) ∧ Hid (RowIn wr g (markOf xs k0 k) rest) ∧ Hid (w.grownBy wr (some g))) (fun _ i _ => xs.length - (intOf i).toNat)
  case atStart => exact ⟨0, Nat.zero_le _, rfl, by simp, HR, World.grownBy.refl _ _⟩
  case round =>
    obtain ⟨k, hk, rfl, rfl, hrow, hgr⟩ := hrel
    clear HR
    by_cases hlt : k < xs.length
    · have hc2 := hrow.out.cell k (by rw [markOf_length _ _ _ hk]; exact hlt)
      have hf2 := hrow.out.free k
      have hrow' : Hid (RowIn (wr.setCell ⟨g, k, none⟩ (.int .i64 (k0 + (k : Int)))) g (markOf xs k0 (k + 1)) rest) := by
        show RowIn _ _ _ _
        rw [← markOf_set xs k0 k hlt]; exact hrow.out.set k (by rw [markOf_length _ _ _ hk]; exact hlt) _
      have hgr' : Hid (w.grownBy (wr.setCell ⟨g, k, none⟩ (.int .i64 (k0 + (k : Int)))) (some g)) := grownBy_trans hgr.out (grownBy_set wr g k _)
      have hw : wrap64 (k0 + (k : Int) + 1) = k0 + (k : Int) + 1 := by unfold wrap64; omega
      clear hrow hgr
      go_wp2
      go_roundw
      case rel => exact ⟨k + 1, by omega, by go_num, by rw [show k0 + ((k + 1 : Nat) : Int) = k0 + (k : Int) + 1 by omega], hrow', hgr'⟩
      case measure => simp [intOf]; omega
    · obtain rfl : k = xs.length := by omega
      have hend : Hid (RowIn wr g (upFrom k0 xs.length) rest) := by have := hrow.out; rw [markOf_end] at this; exact this
      clear hrow
      go_wp2
      go_ret
      exact ⟨rfl, hend.out, hgr.out⟩
set_option maxHeartbeats 400000 in
theorem heldIntS_up (v : Value) (n : Nat) (k0 : Int) (w : World) (hx : IsInts w v (upFrom k0 n)) (hn : n ≤ 1048576) (h0 : 0 ≤ k0) (h1 : k0 ≤ 1099511627776) :
    Calls Tryz.prog 63 #[v, .int .i64 k0] w fun e w' => e = .returned (.int .i64 (k0 + n)) ∧ w = w' := by
  obtain ⟨a, cap, rfl, hcap, hx⟩ := hx
  rw [upFrom_length] at hcap hx ⊢
  have HX : Hid (∀ i, i < n → ∃ p, a = some p ∧ w.cell? (p.add i) = some (.int .i64 ((upFrom k0 n).getD i 0))) := hx
  clear hx
  go_enter Tryz.func63, Tryz.ntmps63
  go_wp2
  go_loop [1, 5] (fun q i => ∃ k : Nat, k ≤ n ∧ i = .int .i64 k ∧ q = .int .i64 (k0 + (k : Int))) (fun _ i => n - (intOf i).toNat)
  case atStart => exact ⟨0, Nat.zero_le _, rfl, by simp⟩
  case round =>
    obtain ⟨k, hk, rfl, rfl⟩ := hrel
    by_cases hlt : k < n
    · obtain ⟨p, rfl, hc⟩ := HX.out k hlt
      rw [upFrom_getD _ _ _ hlt] at hc
      have hw : wrap64 (k0 + (k : Int) + 1) = k0 + (k : Int) + 1 := by unfold wrap64; omega
      go_wp2
      exact ⟨⟨k + 1, by omega, by go_num, by rw [show k0 + ((k + 1 : Nat) : Int) = k0 + (k : Int) + 1 by omega]⟩, by simp [intOf]; omega⟩
    · obtain rfl : k = n := by omega
      go_wp2
      go_ret
      exact ⟨rfl, rfl⟩
theorem icells_one (xs : List Int) : ∀ v ∈ icells xs, v.oneCell' = true := by
  intro v hv
  obtain ⟨n, _, rfl⟩ := List.mem_map.1 hv
  rfl
theorem own_shape {w : World} {base : Nat} {e : TypeId} {size : Nat} {v : Value} {n : Nat} {xs : List Value} (h : w.ownsRow base e size v n xs) : ∃ a n c, v = .slice a n c := by
  rcases h.2 with ⟨rfl, _⟩ | ⟨g, cap, cur, rfl, _⟩
  · exact ⟨_, _, _, rfl⟩
  · exact ⟨_, _, _, rfl⟩
theorem wpList_appI {ops : Array Oper} {rest : List Oper} {o : Oper} {a : Act} {Q : Exit → Act → World → Prop} (hgd : o.guard = none) (s x : Operand)
    (ho : o.op = .call { callee := .builtin .append, args := #[s, x], argTypes := #[23, 23] }) (w0 W : World) (base g : Nat) (v : Value) (acc new : List Int) (k c : Nat)
    (hs : a.eval s = v) (hx : a.eval x = .slice (some ⟨g, 0, none⟩) k c) (hown : W.ownsRow base 3 1 v acc.length (icells acc)) (hcell : ∀ (j : Nat) u, (icells new)[j]? = some u → W.cell? ⟨g, j, none⟩ = some u) (hk : new.length = k)
    (hb : acc.length + k ≤ 17592186044416) (hbase : base ≤ W.heap.size) (hnx : Below base w0 W)
    (h : ∀ v' w', Hid (w'.ownsRow base 3 1 v' (acc ++ new).length (icells (acc ++ new))) → Hid (Below base w0 w') → wpList Tryz.prog ops Q rest (a.put o.dst v') w') : wpList Tryz.prog ops Q (o :: rest) a W := by
  subst hk
  obtain ⟨i0, hi, hz0, hz1, hz2⟩ := info_parts info3
  refine wpList_append_own _ hgd s x 23 ho base 3 i0 (.int .i64 0) 1 8 Tryz.underlying23 hi hz0 hz1 hz2 rfl (by decide) v acc.length (icells acc) hs hown ⟨g, 0, none⟩ new.length c (icells new) hx (by rw [icells_length]; omega) ?_ (icells_one _) (by simp only [maxLen]; omega) (by omega) hbase ?_
  · intro j u hj
    have : (⟨g, 0, none⟩ : Addr).add j = ⟨g, j, none⟩ := by unfold Addr.add; split <;> simp_all
    rw [this]
    exact hcell j u hj
  · intro v' w' h1 h2 _
    refine h v' w' ?_ ?_
    · show World.ownsRow _ _ _ _ _ _ _
      rw [icells_append, List.length_append]; exact h1
    · exact hnx.grown h2 hbase (fun k hk => (hown.lt k hk).1)
theorem owns_empty (w : World) : (w.alloc (.cells #[] 3 (0, 0))).ownsRow w.heap.size 3 1 (.slice (some ⟨w.heap.size, 0, none⟩) 0 0) 0 [] :=
  ⟨by simp, .inr ⟨w.heap.size, 0, #[], rfl, Nat.le_refl _, heap_alloc_new w _, Nat.le_refl _, Nat.zero_le _, by simp, by simp⟩⟩
end Go.Proofs.YtbdljoldblpffaaGreat
