/-
  Copies of lists: append to an empty one, slices.Clone.
-/
import Derived.Test.YtokicnopfmokaaaArT
import Derived.Maps.AppendAt
import Derived.Laws.OwnMore
import Derived.Lib.SliceRun
namespace Go.Proofs.Ytokicnopfmokaaa
open Go.RowKit
set_option linter.unusedVariables false
set_option maxRecDepth 100000

theorem ints_cells {w : World} {p : Addr} {n cap : Nat} {xs : List Int} (h : IsInts w (.slice (some p) n cap) xs) (j : Nat) (u : Value) (hj : (icells xs)[j]? = some u) : w.cell? (p.add j) = some u := by
  have hl : j < xs.length := by
    rcases Nat.lt_or_ge j xs.length with h | h
    · exact h
    · rw [List.getElem?_eq_none (by rw [icells_length]; exact h)] at hj; cases hj
  obtain ⟨p', hp, hc⟩ := h.at hl
  obtain rfl : p = p' := by simpa using hp
  rw [hc]
  simp [icells, hl] at hj
  simp [List.getD, hl, hj]
theorem msgs_cells {w : World} {p : Addr} {n cap : Nat} {ms : List Ms} (h : IsMsgs w (.slice (some p) n cap) ms) (j : Nat) (u : Value) (hj : (mcells ms)[j]? = some u) : w.cell? (p.add j) = some u := by
  have hl : j < ms.length * 2 := by
    rcases Nat.lt_or_ge j (ms.length * 2) with h | h
    · exact h
    · rw [List.getElem?_eq_none (by rw [mcells_length]; exact h)] at hj; cases hj
  obtain ⟨k, hk⟩ : ∃ k, j = k * 2 ∨ j = k * 2 + 1 := ⟨j / 2, by omega⟩
  obtain ⟨p', q, hp, hq, c0, c1⟩ := h.at (i := k) (by omega)
  obtain rfl : p = p' := by simpa using hp
  have hm := mcells_at ms k (by omega)
  rcases hk with rfl | rfl
  · rw [hm.1] at hj
    cases hj
    rw [hq]; exact c0
  · rw [hm.2] at hj
    cases hj
    rw [add_up _ _ _ (by omega), hq]; exact c1
theorem mcells_one (ms : List Ms) : ∀ v ∈ mcells ms, v.oneCell' = true := by
  intro v hv
  unfold mcells at hv
  rw [List.mem_flatMap] at hv
  obtain ⟨m, _, hm⟩ := hv
  simp at hm
  rcases hm with rfl | rfl <;> rfl
theorem appNoneI (W : World) (c : Nat) (ty : TypeId) : (Builtin.append_ #[25, 25] ty #[.slice (some ⟨W.heap.size, 0, none⟩) 0 0, .slice none 0 c]).run Try.prog (W.alloc (.cells #[] 3 (0, 0))) = .ok (.slice (some ⟨W.heap.size, 0, none⟩) 0 0) (W.alloc (.cells #[] 3 (0, 0))) := by
  obtain ⟨i0, hi, hz0, hz1, hz2⟩ := info_parts info3
  simp [Builtin.append_, run_underlying Try.underlying25, sizeOf, typeInfo, hi, Builtin.lenOf, Builtin.firstCells, storeCells]
theorem owns0I (w : World) : (w.alloc (.cells #[] 3 (0, 0))).ownsRow w.heap.size 3 1 (.slice (some ⟨w.heap.size, 0, none⟩) 0 0) 0 [] :=
  ⟨by simp, .inr ⟨w.heap.size, 0, #[], rfl, Nat.le_refl _, heap_alloc_new w _, Nat.le_refl _, Nat.zero_le _, by simp, by simp⟩⟩
theorem run_copyI (W : World) (v : Value) (xs : List Int) (hv : IsInts W v xs) (hn : xs.length ≤ 1048576) (ty : TypeId) :
    ∃ v' w', (Builtin.append_ #[25, 25] ty #[.slice (some ⟨W.heap.size, 0, none⟩) 0 0, v]).run Try.prog (W.alloc (.cells #[] 3 (0, 0))) = .ok v' w' ∧ OwnI W.heap.size w'.heap.size w' v' xs ∧ Below W.heap.size W w' := by
  obtain ⟨a, cap, rfl, hcap, hx⟩ := id hv
  cases a with
  | none =>
    have h0 : xs = [] := by
      cases xs with
      | nil => rfl
      | cons x xs =>
        have e := hx 0 (by simp)
        obtain ⟨p, hp, _⟩ := e
        cases hp
    subst h0
    exact ⟨_, _, appNoneI W cap ty, ⟨_, 0, rfl, Nat.le_refl _, fun h => absurd rfl h⟩, below_alloc W _⟩
  | some p =>
    obtain ⟨i0, hi, hz0, hz1, hz2⟩ := info_parts info3
    have hcells : ∀ (j : Nat) u, (icells xs)[j]? = some u → (W.alloc (.cells #[] 3 (0, 0))).cell? (p.add j) = some u := fun j u hj => by
      have e := ints_cells hv j u hj
      exact ((below_alloc W _).cell (World.block_lt_of_cell? W _ e)).trans e
    obtain ⟨v', w', hr, h2, h3, h4, h5⟩ := run_append_own_at (P := Try.prog) (W.alloc (.cells #[] 3 (0, 0))) W.heap.size 25 ty 3 i0 _ 1 8 Try.underlying25 hi hz0 hz1 hz2 rfl (by decide) (.slice (some ⟨W.heap.size, 0, none⟩) 0 0) 0 [] (owns0I W) p xs.length cap (icells xs) (by rw [icells_length]; omega) hcells (icells_one _) (by simp only [maxLen]; omega) (by omega) (by simp)
    refine ⟨v', w', hr, ?_, (below_alloc W _).grown h3 (by simp) (fun k hk => by simp [Value.ownBlock] at hk; omega)⟩
    rw [Nat.zero_add, List.nil_append] at h2
    have hne : v' ≠ .slice none 0 0 := fun e => by have := (h4.1 e).1; cases this
    rcases h2.2 with ⟨h0, _⟩ | ⟨g, cap', cur, rfl, hbg, hg, hcap', hm, hsz, htake⟩
    · exact absurd h0 hne
    · refine ⟨_, cap', rfl, hcap', fun _ => ⟨g, cur.toList.drop (xs.length * 1), rfl, hbg, lt_of_block hg, ?_, (by
      have e : cur.toList.length = cap' * 1 := by simpa using hsz
      rw [List.length_drop, e]; omega), hm⟩⟩
      unfold RowIn
      rw [← htake, List.take_append_drop]
      exact hg
/-- append([]T{}, x...), as one step. -/
theorem wpList_copyI {ops : Array Oper} {rest : List Oper} {o : Oper} {a : Act} {Q : Exit → Act → World → Prop} (hgd : o.guard = none) (s x : Operand)
    (ho : o.op = .call { callee := .builtin .append, args := #[s, x], argTypes := #[25, 25] }) (W : World) (v : Value) (xs : List Int) (hs : a.eval s = .slice (some ⟨W.heap.size, 0, none⟩) 0 0) (hx : a.eval x = v) (hv : IsInts W v xs) (hn : xs.length ≤ 1048576)
    (h : ∀ v' w', Hid (OwnI W.heap.size w'.heap.size w' v' xs) → Hid (Below W.heap.size W w') → wpList Try.prog ops Q rest (a.put o.dst v') w') : wpList Try.prog ops Q (o :: rest) a (W.alloc (.cells #[] 3 (0, 0))) := by
  refine wpList_plain hgd fun K hK => ?_
  obtain ⟨v', w', hr, h2, h3⟩ := run_copyI W v xs hv hn o.type
  unfold Oper.wp execOp
  simp only [ho, resolve, invoke, builtin, Sem.run_bind, Sem.run_pure, Result.andThen_ok, List.map_toArray, List.map_cons, List.map_nil, hs, hx, hr]
  exact hK _ _ (h v' w' h2 h3)
set_option maxHeartbeats 1000000 in
theorem cloneI_any (v : Value) (xs : List Int) (w : World) (hv : IsInts w v xs) (hn : xs.length ≤ 1048576) :
    Calls Try.prog 43 #[v] w fun e w' => (∃ v', e = .returned v' ∧ OwnI w.heap.size w'.heap.size w' v' xs) ∧ Below w.heap.size w w' := by
  obtain ⟨a, cap, rfl, hcap, hx⟩ := id hv
  have q22 : ∀ (w : World) (a : Option Addr) (n c n' c' : Nat), (binOp .eql 25 (.slice a n c) (.slice none n' c')).run Try.prog w = .ok (.bool a.isNone) w := fun w a n c n' c' => Lib.run_eql_slice_nil w _ _ a n c n' c' Try.underlying25
  cases a with
  | none =>
    have h0 : xs.length = 0 := by
      cases xs with
      | nil => rfl
      | cons x xs =>
        have e := hx 0 (by simp)
        obtain ⟨p, hp, _⟩ := e
        cases hp
    clear hv hx
    go_enter Try.func43, Try.ntmps43
    go_wp2
    go_ret
    exact ⟨⟨.slice none 0 0, rfl, ⟨none, 0, by rw [h0], by omega, fun h => absurd rfl h⟩⟩, Below.refl _ _⟩
  | some p =>
    have HV := hid_of hv
    clear hv hx
    go_enter Try.func43, Try.ntmps43
    go_wp2_with (refine wpList_copyI rfl (.tmp 5) (.tmp 6) rfl w (.slice (some p) xs.length cap) xs rfl rfl HV.out hn ?_; intro v' w' ho hb)
    go_ret
    exact ⟨⟨_, rfl, ho.out⟩, hb.out⟩
theorem appNoneM (W : World) (c : Nat) (ty : TypeId) : (Builtin.append_ #[26, 26] ty #[.slice (some ⟨W.heap.size, 0, none⟩) 0 0, .slice none 0 c]).run Try.prog (W.alloc (.cells #[] 63 (0, 0))) = .ok (.slice (some ⟨W.heap.size, 0, none⟩) 0 0) (W.alloc (.cells #[] 63 (0, 0))) := by
  obtain ⟨i0, hi, hz0, hz1, hz2⟩ := info_parts infoMsg
  simp [Builtin.append_, run_underlying Try.underlying26, sizeOf, typeInfo, hi, Builtin.lenOf, Builtin.firstCells, storeCells]
theorem owns0M (w : World) : (w.alloc (.cells #[] 63 (0, 0))).ownsRow w.heap.size 63 2 (.slice (some ⟨w.heap.size, 0, none⟩) 0 0) 0 [] :=
  ⟨by simp, .inr ⟨w.heap.size, 0, #[], rfl, Nat.le_refl _, heap_alloc_new w _, Nat.le_refl _, Nat.zero_le _, by simp, by simp⟩⟩
theorem run_copyM (W : World) (v : Value) (xs : List Ms) (hv : IsMsgs W v xs) (hn : xs.length ≤ 1048576) (ty : TypeId) :
    ∃ v' w', (Builtin.append_ #[26, 26] ty #[.slice (some ⟨W.heap.size, 0, none⟩) 0 0, v]).run Try.prog (W.alloc (.cells #[] 63 (0, 0))) = .ok v' w' ∧ OwnM W.heap.size w'.heap.size w' v' xs ∧ Below W.heap.size W w' := by
  obtain ⟨a, cap, rfl, hcap, hx⟩ := id hv
  cases a with
  | none =>
    have h0 : xs = [] := by
      cases xs with
      | nil => rfl
      | cons x xs =>
        have e := hx 0 (by simp)
        obtain ⟨p, hp, _⟩ := e
        cases hp
    subst h0
    exact ⟨_, _, appNoneM W cap ty, ⟨_, 0, rfl, Nat.le_refl _, fun h => absurd rfl h⟩, below_alloc W _⟩
  | some p =>
    obtain ⟨i0, hi, hz0, hz1, hz2⟩ := info_parts infoMsg
    have hcells : ∀ (j : Nat) u, (mcells xs)[j]? = some u → (W.alloc (.cells #[] 63 (0, 0))).cell? (p.add j) = some u := fun j u hj => by
      have e := msgs_cells hv j u hj
      exact ((below_alloc W _).cell (World.block_lt_of_cell? W _ e)).trans e
    obtain ⟨v', w', hr, h2, h3, h4, h5⟩ := run_append_own_at (P := Try.prog) (W.alloc (.cells #[] 63 (0, 0))) W.heap.size 26 ty 63 i0 _ 2 16 Try.underlying26 hi hz0 hz1 hz2 rfl (by decide) (.slice (some ⟨W.heap.size, 0, none⟩) 0 0) 0 [] (owns0M W) p xs.length cap (mcells xs) (by rw [mcells_length]) hcells (mcells_one _) (by simp only [maxLen]; omega) (by omega) (by simp)
    refine ⟨v', w', hr, ?_, (below_alloc W _).grown h3 (by simp) (fun k hk => by simp [Value.ownBlock] at hk; omega)⟩
    rw [Nat.zero_add, List.nil_append] at h2
    have hne : v' ≠ .slice none 0 0 := fun e => by have := (h4.1 e).1; cases this
    rcases h2.2 with ⟨h0, _⟩ | ⟨g, cap', cur, rfl, hbg, hg, hcap', hm, hsz, htake⟩
    · exact absurd h0 hne
    · refine ⟨_, cap', rfl, hcap', fun _ => ⟨g, cur.toList.drop (xs.length * 2), rfl, hbg, lt_of_block hg, ?_, (by
      have e : cur.toList.length = cap' * 2 := by simpa using hsz
      rw [List.length_drop, e]; omega), hm⟩⟩
      unfold MsgIn
      rw [← htake, List.take_append_drop]
      exact hg
/-- append([]T{}, x...), as one step. -/
theorem wpList_copyM {ops : Array Oper} {rest : List Oper} {o : Oper} {a : Act} {Q : Exit → Act → World → Prop} (hgd : o.guard = none) (s x : Operand)
    (ho : o.op = .call { callee := .builtin .append, args := #[s, x], argTypes := #[26, 26] }) (W : World) (v : Value) (xs : List Ms) (hs : a.eval s = .slice (some ⟨W.heap.size, 0, none⟩) 0 0) (hx : a.eval x = v) (hv : IsMsgs W v xs) (hn : xs.length ≤ 1048576)
    (h : ∀ v' w', Hid (OwnM W.heap.size w'.heap.size w' v' xs) → Hid (Below W.heap.size W w') → wpList Try.prog ops Q rest (a.put o.dst v') w') : wpList Try.prog ops Q (o :: rest) a (W.alloc (.cells #[] 63 (0, 0))) := by
  refine wpList_plain hgd fun K hK => ?_
  obtain ⟨v', w', hr, h2, h3⟩ := run_copyM W v xs hv hn o.type
  unfold Oper.wp execOp
  simp only [ho, resolve, invoke, builtin, Sem.run_bind, Sem.run_pure, Result.andThen_ok, List.map_toArray, List.map_cons, List.map_nil, hs, hx, hr]
  exact hK _ _ (h v' w' h2 h3)
set_option maxHeartbeats 1000000 in
theorem cloneM_any (v : Value) (xs : List Ms) (w : World) (hv : IsMsgs w v xs) (hn : xs.length ≤ 1048576) :
    Calls Try.prog 44 #[v] w fun e w' => (∃ v', e = .returned v' ∧ OwnM w.heap.size w'.heap.size w' v' xs) ∧ Below w.heap.size w w' := by
  obtain ⟨a, cap, rfl, hcap, hx⟩ := id hv
  have q22 : ∀ (w : World) (a : Option Addr) (n c n' c' : Nat), (binOp .eql 26 (.slice a n c) (.slice none n' c')).run Try.prog w = .ok (.bool a.isNone) w := fun w a n c n' c' => Lib.run_eql_slice_nil w _ _ a n c n' c' Try.underlying26
  cases a with
  | none =>
    have h0 : xs.length = 0 := by
      cases xs with
      | nil => rfl
      | cons x xs =>
        have e := hx 0 (by simp)
        obtain ⟨p, hp, _⟩ := e
        cases hp
    clear hv hx
    go_enter Try.func44, Try.ntmps44
    go_wp2
    go_ret
    exact ⟨⟨.slice none 0 0, rfl, ⟨none, 0, by rw [h0], by omega, fun h => absurd rfl h⟩⟩, Below.refl _ _⟩
  | some p =>
    have HV := hid_of hv
    clear hv hx
    go_enter Try.func44, Try.ntmps44
    go_wp2_with (refine wpList_copyM rfl (.tmp 5) (.tmp 6) rfl w (.slice (some p) xs.length cap) xs rfl rfl HV.out hn ?_; intro v' w' ho hb)
    go_ret
    exact ⟨⟨_, rfl, ho.out⟩, hb.out⟩
end Go.Proofs.Ytokicnopfmokaaa
