/-
  Two things held against each other: the program.
-/
import Derived.Test.YtokicnopfmokaaaArT
import Derived.Laws.StructEq
import Derived.Laws.Tables
import Derived.Laws.Cover2
import Derived.KernelRfl
namespace Go.Proofs.Ytokicnopfmokaaa
open Go.RowKit
set_option linter.unusedVariables false
set_option maxRecDepth 100000

set_option maxHeartbeats 400000 in
theorem eqInts_any (v u : Value) (xs ys : List Int) (w : World) (hx : IsInts w v xs) (hy : IsInts w u ys) (hn : xs.length ≤ 1048576) :
    Calls Try.prog 67 #[v, u] w fun e w' => e = .returned (.bool (sameInts xs ys)) ∧ Below w.heap.size w w' := by
  obtain ⟨a, cap, rfl, hcap, hx⟩ := hx
  obtain ⟨b, cap2, rfl, hcap2, hy⟩ := hy
  by_cases hl : xs.length = ys.length
  · have HX : Hid (∀ i, i < xs.length → ∃ p, a = some p ∧ w.cell? (p.add i) = some (.int .i64 (xs.getD i 0))) := hx
    have HY : Hid (∀ i, i < ys.length → ∃ p, b = some p ∧ w.cell? (p.add i) = some (.int .i64 (ys.getD i 0))) := hy
    have HL : Hid (xs.length = ys.length) := hl
    obtain ⟨n, hn'⟩ : ∃ n, n = xs.length := ⟨_, rfl⟩
    rw [← hn'] at hl hcap HX hn HL ⊢
    rw [← hl] at hcap2 HY ⊢
    have HN : Hid (n = xs.length ∧ n = ys.length) := ⟨hn', hl⟩
    clear hx hy hl hn' HL
    go_enter Try.func67, Try.ntmps67
    go_wp2
    go_loopw [13] (fun i wr => ∃ k : Nat, k ≤ n ∧ i = .int .i64 k ∧ Hid (xs.take k = ys.take k) ∧ Below w.heap.size w wr) (fun i _ => n - (intOf i).toNat)
    case atStart => exact ⟨0, Nat.zero_le _, rfl, rfl, Below.refl _ _⟩
    case round =>
      obtain ⟨k, hk, rfl, htk, hnx⟩ := hrel
      by_cases hlt : k < n
      · obtain ⟨p, rfl, hc1⟩ := HX.out k hlt
        obtain ⟨q, rfl, hc2⟩ := HY.out k hlt
        have d1 : wr.cell? (p.add k) = some (.int .i64 (xs.getD k 0)) := (hnx.cell (World.block_lt_of_cell? w _ hc1)).trans hc1
        have d2 : wr.cell? (q.add k) = some (.int .i64 (ys.getD k 0)) := (hnx.cell (World.block_lt_of_cell? w _ hc2)).trans hc2
        have H1 : Hid (xs.getD k 0 = ys.getD k 0 → xs.take (k + 1) = ys.take (k + 1)) := fun he => take_more (by rw [← HN.out.1]; exact hlt) (by rw [← HN.out.2]; exact hlt) htk.out he
        have H2 : Hid (xs.getD k 0 ≠ ys.getD k 0 → sameInts xs ys = false) := fun he => sameInts_no (getD_ne he)
        obtain ⟨x, hx⟩ : ∃ x, x = xs.getD k 0 := ⟨_, rfl⟩
        obtain ⟨y, hy⟩ : ∃ y, y = ys.getD k 0 := ⟨_, rfl⟩
        rw [← hx] at d1 H1 H2
        rw [← hy] at d2 H1 H2
        clear hc1 hc2 hx hy
        by_cases hxy : x = y
        · have hne : (x != y) = false := by simp [hxy]
          have H3 : Hid (xs.take (k + 1) = ys.take (k + 1)) := H1.out hxy
          clear H1 H2 hxy
          go_wp2
          go_quiet (fail)
          go_wp2
          go_roundw
          case rel => exact ⟨k + 1, by omega, by go_num, H3, below_drewN hnx _⟩
          case measure => simp [intOf]; omega
        · have hne : (x != y) = true := by simp [hxy]
          have H3 : Hid (sameInts xs ys = false) := H2.out hxy
          clear H1 H2 hxy
          go_wp2
          go_quiet (fail)
          go_wp2
          go_ret
          rw [H3.out]
          exact ⟨rfl, below_drewN hnx _⟩
      · obtain rfl : k = n := by omega
        have H3 : Hid (sameInts xs ys = true) := by
          have := htk.out
          rw [List.take_of_length_le (by rw [← HN.out.1]; exact Nat.le_refl _), List.take_of_length_le (by rw [← HN.out.2]; exact Nat.le_refl _)] at this
          rw [Hid, this]; exact sameInts_refl _
        go_wp2
        go_ret
        rw [H3.out]
        exact ⟨rfl, hnx⟩
  · rw [sameInts_no (fun h => hl (by rw [h]))]
    have hne : ((xs.length : Int) != (ys.length : Int)) = true := by simp; omega
    clear hx hy
    go_enter Try.func67, Try.ntmps67
    go_wp2
    go_ret
    exact ⟨rfl, Below.refl _ _⟩
/-- A message as a pair. -/
def prM (m : Ms) : Int × Int := (m.f, m.n)
def sameMsgs (xs ys : List Ms) : Bool := decide (xs.map prM = ys.map prM)
theorem sameMsgs_refl (xs : List Ms) : sameMsgs xs xs = true := by simp [sameMsgs]
theorem sameMsgs_no {xs ys : List Ms} (h : xs.map prM ≠ ys.map prM) : sameMsgs xs ys = false := by simp [sameMsgs, h]
theorem msAt_pr {xs : List Ms} {k : Nat} (h : k < xs.length) : (xs.map prM)[k]? = some (prM (msAt xs k)) := by simp [msAt, List.getD, h]
theorem takeM_more {xs ys : List Ms} {k : Nat} (hx : k < xs.length) (hy : k < ys.length) (h : (xs.map prM).take k = (ys.map prM).take k) (he : prM (msAt xs k) = prM (msAt ys k)) : (xs.map prM).take (k + 1) = (ys.map prM).take (k + 1) := by
  rw [List.take_add_one, List.take_add_one, h, msAt_pr hx, msAt_pr hy, he]
theorem prM_ne {xs ys : List Ms} {k : Nat} (hx : k < xs.length) (hy : k < ys.length) (he : prM (msAt xs k) ≠ prM (msAt ys k)) : xs.map prM ≠ ys.map prM := fun h => he (by
  have e := congrArg (fun l => l[k]?) h
  simp only [msAt_pr hx, msAt_pr hy] at e
  simpa using e)
set_option maxHeartbeats 2000000 in
theorem eqMsgs_any (v u : Value) (xs ys : List Ms) (w : World) (hx : IsMsgs w v xs) (hy : IsMsgs w u ys) (hn : xs.length ≤ 1048576) :
    Calls Try.prog 68 #[v, u] w fun e w' => e = .returned (.bool (sameMsgs xs ys)) ∧ Below w.heap.size w w' := by
  obtain ⟨a, cap, rfl, hcap, _⟩ := id hx
  obtain ⟨b, cap2, rfl, hcap2, _⟩ := id hy
  by_cases hl : xs.length = ys.length
  · have HX : Hid (∀ wr, Below w.heap.size w wr → IsMsgs wr (.slice a xs.length cap) xs) := fun wr hb => hx.on hb
    have HY : Hid (∀ wr, Below w.heap.size w wr → IsMsgs wr (.slice b ys.length cap2) ys) := fun wr hb => hy.on hb
    obtain ⟨n, hn'⟩ : ∃ n, n = xs.length := ⟨_, rfl⟩
    rw [← hn'] at hl hcap HX hn ⊢
    rw [← hl] at hcap2 HY ⊢
    have HN : Hid (n = xs.length ∧ n = ys.length) := ⟨hn', hl⟩
    clear hx hy hl hn'
    go_enter Try.func68, Try.ntmps68
    go_wp2
    go_loopw [13] (fun i wr => ∃ k : Nat, k ≤ n ∧ i = .int .i64 k ∧ Hid ((xs.map prM).take k = (ys.map prM).take k) ∧ Below w.heap.size w wr) (fun i _ => n - (intOf i).toNat)
    case atStart => exact ⟨0, Nat.zero_le _, rfl, rfl, Below.refl _ _⟩
    case round =>
      obtain ⟨k, hk, rfl, htk, hnx⟩ := hrel
      by_cases hlt : k < n
      · have hkx : k < xs.length := by rw [← HN.out.1]; exact hlt
        have hky : k < ys.length := by rw [← HN.out.2]; exact hlt
        obtain ⟨p, q, rfl, hq, c0, c1⟩ := (HX.out wr hnx).at hkx
        obtain ⟨p', q', rfl, hq', d0, d1⟩ := (HY.out wr hnx).at hky
        have H1 : Hid (prM (msAt xs k) = prM (msAt ys k) → (xs.map prM).take (k + 1) = (ys.map prM).take (k + 1)) := fun he => takeM_more hkx hky htk.out he
        have H2 : Hid (prM (msAt xs k) ≠ prM (msAt ys k) → sameMsgs xs ys = false) := fun he => sameMsgs_no (prM_ne hkx hky he)
        clear hkx hky
        generalize msAt xs k = x at c0 c1 H1 H2
        generalize msAt ys k = y at d0 d1 H1 H2
        obtain ⟨f, n1⟩ := x
        obtain ⟨f', n2⟩ := y
        simp only at c0 c1 d0 d1
        by_cases hf : f = f'
        · by_cases hnn : n1 = n2
          · subst hf
            subst hnn
            have H3 : Hid ((xs.map prM).take (k + 1) = (ys.map prM).take (k + 1)) := H1.out rfl
            clear H1 H2
            go_wp2
            go_quiet (fail)
            go_wp2
            go_roundw
            case rel => exact ⟨k + 1, by omega, by go_num, H3, below_drewN hnx _⟩
            case measure => simp [intOf]; omega
          · have H3 : Hid (sameMsgs xs ys = false) := H2.out (by simp [prM, hnn])
            have hne : (n1 == n2) = false := by simp [hnn]
            clear H1 H2
            go_wp2
            go_quiet (fail)
            go_wp2
            go_ret
            rw [H3.out]
            exact ⟨rfl, below_drewN hnx _⟩
        · have H3 : Hid (sameMsgs xs ys = false) := H2.out (by simp [prM, hf])
          have hne : (f == f') = false := by simp [hf]
          clear H1 H2
          go_wp2
          go_quiet (fail)
          go_wp2
          go_ret
          rw [H3.out]
          exact ⟨rfl, below_drewN hnx _⟩
      · obtain rfl : k = n := by omega
        have H3 : Hid (sameMsgs xs ys = true) := by
          have := htk.out
          rw [List.take_of_length_le (by rw [List.length_map, ← HN.out.1]; exact Nat.le_refl _), List.take_of_length_le (by rw [List.length_map, ← HN.out.2]; exact Nat.le_refl _)] at this
          show sameMsgs xs ys = true
          unfold sameMsgs
          rw [this]; simp
        go_wp2
        go_ret
        rw [H3.out]
        exact ⟨rfl, hnx⟩
  · rw [sameMsgs_no (fun h => hl (by have := congrArg List.length h; simpa using this))]
    have hne : ((xs.length : Int) != (ys.length : Int)) = true := by simp; omega
    clear hx hy
    go_enter Try.func68, Try.ntmps68
    go_wp2
    go_ret
    exact ⟨rfl, Below.refl _ _⟩
/-- The nine numbers of a thing. -/
abbrev arr9 (o : Ob) : Value := .agg #[.int .i64 o.gen, .int .i64 o.kind, .int .i64 o.into, .int .i64 o.res, .int .i64 o.unt, .int .i64 o.pages, .int .i64 o.wait, .int .i64 o.got, .int .i64 o.ran]
theorem fieldsOf_any (o : Ob) (l d m : Value) (w : World) :
    Calls Try.prog 66 #[obV o l d m] w fun e w' => e = .returned (arr9 o) ∧ Below w.heap.size w w' := by
  go_enter Try.func66, Try.ntmps66
  go_wp2
  go_returns
  exact ⟨rfl, by go_grown⟩
set_option maxHeartbeats 8000000 in
theorem eq9 (x0 x1 x2 x3 x4 x5 x6 x7 x8 y0 y1 y2 y3 y4 y5 y6 y7 y8 : Int) (w : World) : (Op.equalIn 10000 83 (.agg #[.int .i64 x0, .int .i64 x1, .int .i64 x2, .int .i64 x3, .int .i64 x4, .int .i64 x5, .int .i64 x6, .int .i64 x7, .int .i64 x8]) (.agg #[.int .i64 y0, .int .i64 y1, .int .i64 y2, .int .i64 y3, .int .i64 y4, .int .i64 y5, .int .i64 y6, .int .i64 y7, .int .i64 y8])).run Try.prog w = .ok (x0 == y0 && x1 == y1 && x2 == y2 && x3 == y3 && x4 == y4 && x5 == y5 && x6 == y6 && x7 == y7 && x8 == y8) w := by
  have u3 := Try.underlying3
  have a3 := Try.isAgg3
  have z3 := Try.sizeOf3
  rw [show (10000 : Nat) = 9999 + 1 from rfl, Op.equalIn]
  simp only [Sem.run_bind, run_underlying Try.underlying83, Result.andThen_ok]
  simp only [Std.Legacy.Range.forIn_eq_forIn_range', Std.Legacy.Range.size, Nat.sub_zero, Nat.add_sub_cancel, Nat.div_one, List.range'_succ, List.range'_zero, List.forIn_cons, List.forIn_nil]
  go_simp
  by_cases h0 : x0 = y0
  rotate_left
  · simp [h0]
  by_cases h1 : x1 = y1
  rotate_left
  · simp [h1, h0]
  by_cases h2 : x2 = y2
  rotate_left
  · simp [h2, h0, h1]
  by_cases h3 : x3 = y3
  rotate_left
  · simp [h3, h0, h1, h2]
  by_cases h4 : x4 = y4
  rotate_left
  · simp [h4, h0, h1, h2, h3]
  by_cases h5 : x5 = y5
  rotate_left
  · simp [h5, h0, h1, h2, h3, h4]
  by_cases h6 : x6 = y6
  rotate_left
  · simp [h6, h0, h1, h2, h3, h4, h5]
  by_cases h7 : x7 = y7
  rotate_left
  · simp [h7, h0, h1, h2, h3, h4, h5, h6]
  by_cases h8 : x8 = y8
  rotate_left
  · simp [h8, h0, h1, h2, h3, h4, h5, h6, h7]
  simp [h0, h1, h2, h3, h4, h5, h6, h7, h8]
/-- Have two things the same nine numbers? -/
def sameF (a b : Ob) : Bool := a.gen == b.gen && a.kind == b.kind && a.into == b.into && a.res == b.res && a.unt == b.unt && a.pages == b.pages && a.wait == b.wait && a.got == b.got && a.ran == b.ran
/-- Are two things alike? -/
def sameO (a b : Ob) : Bool := sameF a b && ((a.mark == b.mark) && (sameInts a.ls b.ls && (sameInts a.ds b.ds && sameMsgs a.qs b.qs)))
theorem eq9_ob (a b : Ob) (w : World) : (Op.equalIn 10000 83 (arr9 a) (arr9 b)).run Try.prog w = .ok (sameF a b) w := eq9 a.gen a.kind a.into a.res a.unt a.pages a.wait a.got a.ran b.gen b.kind b.into b.res b.unt b.pages b.wait b.got b.ran w
/-- A thing in a box of its own. -/
structure Box13 (w : World) (g : Nat) (o : Ob) (l d m : Value) : Prop where
  at' : w.heap[g]? = some (boxO o l d m)
theorem Box13.on {w w' : World} {g : Nat} {o : Ob} {l d m : Value} (x : Box13 w g o l d m) (hb : Below w.heap.size w w') : Box13 w' g o l d m := ⟨keep x.at' hb⟩
theorem Box13.c0 {w : World} {g : Nat} {o : Ob} {l d m : Value} (x : Box13 w g o l d m) : w.cell? ⟨g, 0, none⟩ = some (.int .i64 o.gen) := by simp [World.cell?, x.at']
theorem Box13.c1 {w : World} {g : Nat} {o : Ob} {l d m : Value} (x : Box13 w g o l d m) : w.cell? ⟨g, 1, none⟩ = some (.int .i64 o.kind) := by simp [World.cell?, x.at']
theorem Box13.c2 {w : World} {g : Nat} {o : Ob} {l d m : Value} (x : Box13 w g o l d m) : w.cell? ⟨g, 2, none⟩ = some (.int .i64 o.into) := by simp [World.cell?, x.at']
theorem Box13.c3 {w : World} {g : Nat} {o : Ob} {l d m : Value} (x : Box13 w g o l d m) : w.cell? ⟨g, 3, none⟩ = some (.int .i64 o.res) := by simp [World.cell?, x.at']
theorem Box13.c4 {w : World} {g : Nat} {o : Ob} {l d m : Value} (x : Box13 w g o l d m) : w.cell? ⟨g, 4, none⟩ = some (.int .i64 o.unt) := by simp [World.cell?, x.at']
theorem Box13.c5 {w : World} {g : Nat} {o : Ob} {l d m : Value} (x : Box13 w g o l d m) : w.cell? ⟨g, 5, none⟩ = some (.int .i64 o.pages) := by simp [World.cell?, x.at']
theorem Box13.c6 {w : World} {g : Nat} {o : Ob} {l d m : Value} (x : Box13 w g o l d m) : w.cell? ⟨g, 6, none⟩ = some (.int .i64 o.wait) := by simp [World.cell?, x.at']
theorem Box13.c7 {w : World} {g : Nat} {o : Ob} {l d m : Value} (x : Box13 w g o l d m) : w.cell? ⟨g, 7, none⟩ = some (.int .i64 o.got) := by simp [World.cell?, x.at']
theorem Box13.c8 {w : World} {g : Nat} {o : Ob} {l d m : Value} (x : Box13 w g o l d m) : w.cell? ⟨g, 8, none⟩ = some (.int .i64 o.ran) := by simp [World.cell?, x.at']
theorem Box13.c9 {w : World} {g : Nat} {o : Ob} {l d m : Value} (x : Box13 w g o l d m) : w.cell? ⟨g, 9, none⟩ = some (.bool o.mark) := by simp [World.cell?, x.at']
theorem Box13.c10 {w : World} {g : Nat} {o : Ob} {l d m : Value} (x : Box13 w g o l d m) : w.cell? ⟨g, 10, none⟩ = some (l) := by simp [World.cell?, x.at']
theorem Box13.c11 {w : World} {g : Nat} {o : Ob} {l d m : Value} (x : Box13 w g o l d m) : w.cell? ⟨g, 11, none⟩ = some (d) := by simp [World.cell?, x.at']
theorem Box13.c12 {w : World} {g : Nat} {o : Ob} {l d m : Value} (x : Box13 w g o l d m) : w.cell? ⟨g, 12, none⟩ = some (m) := by simp [World.cell?, x.at']
set_option maxRecDepth 100000 in
set_option maxHeartbeats 8000000 in
theorem sameObj_go (a b : Ob) (l d m l' d' m' : Value) (w : World) (r q : Bool) (h3 : (r = false ∧ Hid (sameF a b = false)) ∨ (r = false ∧ Hid (sameF a b = true ∧ (a.mark == b.mark) = false)) ∨ (r = false ∧ Hid (sameF a b = true ∧ (a.mark == b.mark) = true ∧ (∀ w', Below w.heap.size w w' → Calls Try.prog 67 #[l, l'] w' fun e w'' => e = .returned (.bool false) ∧ Below w'.heap.size w' w''))) ∨ (r = false ∧ Hid (sameF a b = true ∧ (a.mark == b.mark) = true ∧ (∀ w', Below w.heap.size w w' → Calls Try.prog 67 #[l, l'] w' fun e w'' => e = .returned (.bool true) ∧ Below w'.heap.size w' w'') ∧ (∀ w', Below w.heap.size w w' → Calls Try.prog 67 #[d, d'] w' fun e w'' => e = .returned (.bool false) ∧ Below w'.heap.size w' w''))) ∨ (q = r ∧ Hid (sameF a b = true ∧ (a.mark == b.mark) = true ∧ (∀ w', Below w.heap.size w w' → Calls Try.prog 67 #[l, l'] w' fun e w'' => e = .returned (.bool true) ∧ Below w'.heap.size w' w'') ∧ (∀ w', Below w.heap.size w w' → Calls Try.prog 67 #[d, d'] w' fun e w'' => e = .returned (.bool true) ∧ Below w'.heap.size w' w'') ∧ (∀ w', Below w.heap.size w w' → Calls Try.prog 68 #[m, m'] w' fun e w'' => e = .returned (.bool q) ∧ Below w'.heap.size w' w'')))) :
    Calls Try.prog 58 #[obV a l d m, obV b l' d' m'] w fun e w' => e = .returned (.bool r) ∧ Below w.heap.size w w' := by
  have CF := fun w => fieldsOf_any a l d m w
  have CG := fun w => fieldsOf_any b l' d' m' w
  have HB0 : Hid (Below w.heap.size w ((w.alloc (boxO a l d m)).alloc (boxO b l' d' m'))) := by show Below _ _ _; go_grown
  have HA0 : Hid (Box13 ((w.alloc (boxO a l d m)).alloc (boxO b l' d' m')) w.heap.size a l d m) := ⟨keep (heap_alloc_new w _) (below_alloc _ _)⟩
  have HC0 : Hid (Box13 ((w.alloc (boxO a l d m)).alloc (boxO b l' d' m')) (w.heap.size + 1) b l' d' m') := ⟨by have := heap_alloc_new (w.alloc (boxO a l d m)) (boxO b l' d' m'); simpa using this⟩
  have HL : Hid (∃ l0, (l0 = [obV a l d m, arr9 a, obV b l' d' m', arr9 b, .bool false, .bool false, undef, undef, undef, undef, undef, .bool false, .bool false, undef, undef, undef, undef, undef, .bool false, .bool false, undef, undef, undef, undef, undef, .bool false, .bool false, undef, undef, undef, undef, undef, .bool false, .bool false] ∧ r = false ∧ Hid (sameF a b = false)) ∨ (l0 = [obV a l d m, arr9 a, obV b l' d' m', arr9 b, .bool true, .bool true, .pointer (some ⟨w.heap.size, 9, none⟩), .bool a.mark, .pointer (some ⟨w.heap.size + 1, 9, none⟩), .bool b.mark, .bool false, .bool false, .bool false, undef, undef, undef, undef, undef, .bool false, .bool false, undef, undef, undef, undef, undef, .bool false, .bool false, undef, undef, undef, undef, undef, .bool false, .bool false] ∧ r = false ∧ Hid (sameF a b = true ∧ (a.mark == b.mark) = false)) ∨ (l0 = [obV a l d m, arr9 a, obV b l' d' m', arr9 b, .bool true, .bool true, .pointer (some ⟨w.heap.size, 9, none⟩), .bool a.mark, .pointer (some ⟨w.heap.size + 1, 9, none⟩), .bool b.mark, .bool true, .bool true, .bool true, .pointer (some ⟨w.heap.size, 10, none⟩), l, .pointer (some ⟨w.heap.size + 1, 10, none⟩), l', .bool false, .bool false, .bool false, undef, undef, undef, undef, undef, .bool false, .bool false, undef, undef, undef, undef, undef, .bool false, .bool false] ∧ r = false ∧ Hid (sameF a b = true ∧ (a.mark == b.mark) = true ∧ (∀ w', Below w.heap.size w w' → Calls Try.prog 67 #[l, l'] w' fun e w'' => e = .returned (.bool false) ∧ Below w'.heap.size w' w''))) ∨ (l0 = [obV a l d m, arr9 a, obV b l' d' m', arr9 b, .bool true, .bool true, .pointer (some ⟨w.heap.size, 9, none⟩), .bool a.mark, .pointer (some ⟨w.heap.size + 1, 9, none⟩), .bool b.mark, .bool true, .bool true, .bool true, .pointer (some ⟨w.heap.size, 10, none⟩), l, .pointer (some ⟨w.heap.size + 1, 10, none⟩), l', .bool true, .bool true, .bool true, .pointer (some ⟨w.heap.size, 11, none⟩), d, .pointer (some ⟨w.heap.size + 1, 11, none⟩), d', .bool false, .bool false, .bool false, undef, undef, undef, undef, undef, .bool false, .bool false] ∧ r = false ∧ Hid (sameF a b = true ∧ (a.mark == b.mark) = true ∧ (∀ w', Below w.heap.size w w' → Calls Try.prog 67 #[l, l'] w' fun e w'' => e = .returned (.bool true) ∧ Below w'.heap.size w' w'') ∧ (∀ w', Below w.heap.size w w' → Calls Try.prog 67 #[d, d'] w' fun e w'' => e = .returned (.bool false) ∧ Below w'.heap.size w' w''))) ∨ (l0 = [obV a l d m, arr9 a, obV b l' d' m', arr9 b, .bool true, .bool true, .pointer (some ⟨w.heap.size, 9, none⟩), .bool a.mark, .pointer (some ⟨w.heap.size + 1, 9, none⟩), .bool b.mark, .bool true, .bool true, .bool true, .pointer (some ⟨w.heap.size, 10, none⟩), l, .pointer (some ⟨w.heap.size + 1, 10, none⟩), l', .bool true, .bool true, .bool true, .pointer (some ⟨w.heap.size, 11, none⟩), d, .pointer (some ⟨w.heap.size + 1, 11, none⟩), d', .bool true, .bool true, .bool true, .pointer (some ⟨w.heap.size, 12, none⟩), m, .pointer (some ⟨w.heap.size + 1, 12, none⟩), m', .bool q, .bool q, .bool q] ∧ q = r ∧ Hid (sameF a b = true ∧ (a.mark == b.mark) = true ∧ (∀ w', Below w.heap.size w w' → Calls Try.prog 67 #[l, l'] w' fun e w'' => e = .returned (.bool true) ∧ Below w'.heap.size w' w'') ∧ (∀ w', Below w.heap.size w w' → Calls Try.prog 67 #[d, d'] w' fun e w'' => e = .returned (.bool true) ∧ Below w'.heap.size w' w'') ∧ (∀ w', Below w.heap.size w w' → Calls Try.prog 68 #[m, m'] w' fun e w'' => e = .returned (.bool q) ∧ Below w'.heap.size w' w'')))) := by
    rcases h3 with h | h | h | h | h
    · exact ⟨_, .inl ⟨rfl, h⟩⟩
    · exact ⟨_, .inr (.inl ⟨rfl, h⟩)⟩
    · exact ⟨_, .inr (.inr (.inl ⟨rfl, h⟩))⟩
    · exact ⟨_, .inr (.inr (.inr (.inl ⟨rfl, h⟩)))⟩
    · exact ⟨_, .inr (.inr (.inr (.inr (⟨rfl, h⟩))))⟩
  obtain ⟨l0, HL⟩ := HL.out
  have HL : Hid ((l0 = [obV a l d m, arr9 a, obV b l' d' m', arr9 b, .bool false, .bool false, undef, undef, undef, undef, undef, .bool false, .bool false, undef, undef, undef, undef, undef, .bool false, .bool false, undef, undef, undef, undef, undef, .bool false, .bool false, undef, undef, undef, undef, undef, .bool false, .bool false] ∧ r = false ∧ Hid (sameF a b = false)) ∨ (l0 = [obV a l d m, arr9 a, obV b l' d' m', arr9 b, .bool true, .bool true, .pointer (some ⟨w.heap.size, 9, none⟩), .bool a.mark, .pointer (some ⟨w.heap.size + 1, 9, none⟩), .bool b.mark, .bool false, .bool false, .bool false, undef, undef, undef, undef, undef, .bool false, .bool false, undef, undef, undef, undef, undef, .bool false, .bool false, undef, undef, undef, undef, undef, .bool false, .bool false] ∧ r = false ∧ Hid (sameF a b = true ∧ (a.mark == b.mark) = false)) ∨ (l0 = [obV a l d m, arr9 a, obV b l' d' m', arr9 b, .bool true, .bool true, .pointer (some ⟨w.heap.size, 9, none⟩), .bool a.mark, .pointer (some ⟨w.heap.size + 1, 9, none⟩), .bool b.mark, .bool true, .bool true, .bool true, .pointer (some ⟨w.heap.size, 10, none⟩), l, .pointer (some ⟨w.heap.size + 1, 10, none⟩), l', .bool false, .bool false, .bool false, undef, undef, undef, undef, undef, .bool false, .bool false, undef, undef, undef, undef, undef, .bool false, .bool false] ∧ r = false ∧ Hid (sameF a b = true ∧ (a.mark == b.mark) = true ∧ (∀ w', Below w.heap.size w w' → Calls Try.prog 67 #[l, l'] w' fun e w'' => e = .returned (.bool false) ∧ Below w'.heap.size w' w''))) ∨ (l0 = [obV a l d m, arr9 a, obV b l' d' m', arr9 b, .bool true, .bool true, .pointer (some ⟨w.heap.size, 9, none⟩), .bool a.mark, .pointer (some ⟨w.heap.size + 1, 9, none⟩), .bool b.mark, .bool true, .bool true, .bool true, .pointer (some ⟨w.heap.size, 10, none⟩), l, .pointer (some ⟨w.heap.size + 1, 10, none⟩), l', .bool true, .bool true, .bool true, .pointer (some ⟨w.heap.size, 11, none⟩), d, .pointer (some ⟨w.heap.size + 1, 11, none⟩), d', .bool false, .bool false, .bool false, undef, undef, undef, undef, undef, .bool false, .bool false] ∧ r = false ∧ Hid (sameF a b = true ∧ (a.mark == b.mark) = true ∧ (∀ w', Below w.heap.size w w' → Calls Try.prog 67 #[l, l'] w' fun e w'' => e = .returned (.bool true) ∧ Below w'.heap.size w' w'') ∧ (∀ w', Below w.heap.size w w' → Calls Try.prog 67 #[d, d'] w' fun e w'' => e = .returned (.bool false) ∧ Below w'.heap.size w' w''))) ∨ (l0 = [obV a l d m, arr9 a, obV b l' d' m', arr9 b, .bool true, .bool true, .pointer (some ⟨w.heap.size, 9, none⟩), .bool a.mark, .pointer (some ⟨w.heap.size + 1, 9, none⟩), .bool b.mark, .bool true, .bool true, .bool true, .pointer (some ⟨w.heap.size, 10, none⟩), l, .pointer (some ⟨w.heap.size + 1, 10, none⟩), l', .bool true, .bool true, .bool true, .pointer (some ⟨w.heap.size, 11, none⟩), d, .pointer (some ⟨w.heap.size + 1, 11, none⟩), d', .bool true, .bool true, .bool true, .pointer (some ⟨w.heap.size, 12, none⟩), m, .pointer (some ⟨w.heap.size + 1, 12, none⟩), m', .bool q, .bool q, .bool q] ∧ q = r ∧ Hid (sameF a b = true ∧ (a.mark == b.mark) = true ∧ (∀ w', Below w.heap.size w w' → Calls Try.prog 67 #[l, l'] w' fun e w'' => e = .returned (.bool true) ∧ Below w'.heap.size w' w'') ∧ (∀ w', Below w.heap.size w w' → Calls Try.prog 67 #[d, d'] w' fun e w'' => e = .returned (.bool true) ∧ Below w'.heap.size w' w'') ∧ (∀ w', Below w.heap.size w w' → Calls Try.prog 68 #[m, m'] w' fun e w'' => e = .returned (.bool q) ∧ Below w'.heap.size w' w'')))) := HL
  clear h3
  go_enter Try.func58, Try.ntmps58
  go_wp2_with fail
  refine wp_region_whole (by kernel_rfl) (by kernel_rfl) (by kernel_rfl) (by kernel_rfl) (Flat (fun wz => Below w.heap.size w wz ∧ Box13 wz w.heap.size a l d m ∧ Box13 wz (w.heap.size + 1) b l' d' m') (gVals l0)) (flat_start ⟨HB0.out.drew, HA0.out.on (below_draw _), HC0.out.on (below_draw _)⟩) ?_ ?_
  · refine ⟨?_, ?_, ?_, ?_, ?_, ?_, ?_, ?_, ?_, ?_, ?_, ?_, ?_, ?_, ?_, ?_, ?_, ?_, ?_, ?_, ?_, ?_, ?_, ?_, ?_, ?_, ?_, ?_, ?_, ?_, ?_, ?_, ?_, ?_, trivial⟩
    · intro b0 us wz L hslot hoth hLi hR hcl hdo K hK
      rcases HL.out with ⟨rfl, rfl, hf⟩ | ⟨rfl, rfl, hf⟩ | ⟨rfl, rfl, hf⟩ | ⟨rfl, rfl, hf⟩ | ⟨rfl, rfl, hf⟩
      · have s2 : b0.tmps.getD 2 undef = .pointer (some ⟨w.heap.size, 0, none⟩) := hoth 2 (by rfl)
        have k0 := (hR.1.2.1).c0
        have k1 := (hR.1.2.1).c1
        have k2 := (hR.1.2.1).c2
        have k3 := (hR.1.2.1).c3
        have k4 := (hR.1.2.1).c4
        have k5 := (hR.1.2.1).c5
        have k6 := (hR.1.2.1).c6
        have k7 := (hR.1.2.1).c7
        have k8 := (hR.1.2.1).c8
        have k9 := (hR.1.2.1).c9
        have k10 := (hR.1.2.1).c10
        have k11 := (hR.1.2.1).c11
        have k12 := (hR.1.2.1).c12
        clear hslot hoth hdo hcl hLi
        refine guard_none (by rfl) ?_
        go_simp
        exact hK _ _ (flat_mark (hR.1) (fun _ _ h => h) hR.2 rfl)
      · have s2 : b0.tmps.getD 2 undef = .pointer (some ⟨w.heap.size, 0, none⟩) := hoth 2 (by rfl)
        have k0 := (hR.1.2.1).c0
        have k1 := (hR.1.2.1).c1
        have k2 := (hR.1.2.1).c2
        have k3 := (hR.1.2.1).c3
        have k4 := (hR.1.2.1).c4
        have k5 := (hR.1.2.1).c5
        have k6 := (hR.1.2.1).c6
        have k7 := (hR.1.2.1).c7
        have k8 := (hR.1.2.1).c8
        have k9 := (hR.1.2.1).c9
        have k10 := (hR.1.2.1).c10
        have k11 := (hR.1.2.1).c11
        have k12 := (hR.1.2.1).c12
        clear hslot hoth hdo hcl hLi
        refine guard_none (by rfl) ?_
        go_simp
        exact hK _ _ (flat_mark (hR.1) (fun _ _ h => h) hR.2 rfl)
      · have s2 : b0.tmps.getD 2 undef = .pointer (some ⟨w.heap.size, 0, none⟩) := hoth 2 (by rfl)
        have k0 := (hR.1.2.1).c0
        have k1 := (hR.1.2.1).c1
        have k2 := (hR.1.2.1).c2
        have k3 := (hR.1.2.1).c3
        have k4 := (hR.1.2.1).c4
        have k5 := (hR.1.2.1).c5
        have k6 := (hR.1.2.1).c6
        have k7 := (hR.1.2.1).c7
        have k8 := (hR.1.2.1).c8
        have k9 := (hR.1.2.1).c9
        have k10 := (hR.1.2.1).c10
        have k11 := (hR.1.2.1).c11
        have k12 := (hR.1.2.1).c12
        clear hslot hoth hdo hcl hLi
        refine guard_none (by rfl) ?_
        go_simp
        exact hK _ _ (flat_mark (hR.1) (fun _ _ h => h) hR.2 rfl)
      · have s2 : b0.tmps.getD 2 undef = .pointer (some ⟨w.heap.size, 0, none⟩) := hoth 2 (by rfl)
        have k0 := (hR.1.2.1).c0
        have k1 := (hR.1.2.1).c1
        have k2 := (hR.1.2.1).c2
        have k3 := (hR.1.2.1).c3
        have k4 := (hR.1.2.1).c4
        have k5 := (hR.1.2.1).c5
        have k6 := (hR.1.2.1).c6
        have k7 := (hR.1.2.1).c7
        have k8 := (hR.1.2.1).c8
        have k9 := (hR.1.2.1).c9
        have k10 := (hR.1.2.1).c10
        have k11 := (hR.1.2.1).c11
        have k12 := (hR.1.2.1).c12
        clear hslot hoth hdo hcl hLi
        refine guard_none (by rfl) ?_
        go_simp
        exact hK _ _ (flat_mark (hR.1) (fun _ _ h => h) hR.2 rfl)
      · have s2 : b0.tmps.getD 2 undef = .pointer (some ⟨w.heap.size, 0, none⟩) := hoth 2 (by rfl)
        have k0 := (hR.1.2.1).c0
        have k1 := (hR.1.2.1).c1
        have k2 := (hR.1.2.1).c2
        have k3 := (hR.1.2.1).c3
        have k4 := (hR.1.2.1).c4
        have k5 := (hR.1.2.1).c5
        have k6 := (hR.1.2.1).c6
        have k7 := (hR.1.2.1).c7
        have k8 := (hR.1.2.1).c8
        have k9 := (hR.1.2.1).c9
        have k10 := (hR.1.2.1).c10
        have k11 := (hR.1.2.1).c11
        have k12 := (hR.1.2.1).c12
        clear hslot hoth hdo hcl hLi
        refine guard_none (by rfl) ?_
        go_simp
        exact hK _ _ (flat_mark (hR.1) (fun _ _ h => h) hR.2 rfl)
    · intro b0 us wz L hslot hoth hLi hR hcl hdo K hK
      rcases HL.out with ⟨rfl, rfl, hf⟩ | ⟨rfl, rfl, hf⟩ | ⟨rfl, rfl, hf⟩ | ⟨rfl, rfl, hf⟩ | ⟨rfl, rfl, hf⟩
      · have s5 : b0.tmps.getD 5 undef = obV a l d m := (hslot 0 5 (by rfl)).trans (hR.2 0 (done_at hdo 0 (by rfl)))
        clear hslot hoth hdo hcl hLi
        refine guard_none (by rfl) ?_
        go_simp
        refine (CF wz).mono ?_
        rintro e w' ⟨rfl, hb⟩
        exact hK _ _ (flat_mark ⟨below_more hR.1.1 hb, hR.1.2.1.on hb, hR.1.2.2.on hb⟩ (fun _ _ h => h) hR.2 rfl)
      · have s5 : b0.tmps.getD 5 undef = obV a l d m := (hslot 0 5 (by rfl)).trans (hR.2 0 (done_at hdo 0 (by rfl)))
        clear hslot hoth hdo hcl hLi
        refine guard_none (by rfl) ?_
        go_simp
        refine (CF wz).mono ?_
        rintro e w' ⟨rfl, hb⟩
        exact hK _ _ (flat_mark ⟨below_more hR.1.1 hb, hR.1.2.1.on hb, hR.1.2.2.on hb⟩ (fun _ _ h => h) hR.2 rfl)
      · have s5 : b0.tmps.getD 5 undef = obV a l d m := (hslot 0 5 (by rfl)).trans (hR.2 0 (done_at hdo 0 (by rfl)))
        clear hslot hoth hdo hcl hLi
        refine guard_none (by rfl) ?_
        go_simp
        refine (CF wz).mono ?_
        rintro e w' ⟨rfl, hb⟩
        exact hK _ _ (flat_mark ⟨below_more hR.1.1 hb, hR.1.2.1.on hb, hR.1.2.2.on hb⟩ (fun _ _ h => h) hR.2 rfl)
      · have s5 : b0.tmps.getD 5 undef = obV a l d m := (hslot 0 5 (by rfl)).trans (hR.2 0 (done_at hdo 0 (by rfl)))
        clear hslot hoth hdo hcl hLi
        refine guard_none (by rfl) ?_
        go_simp
        refine (CF wz).mono ?_
        rintro e w' ⟨rfl, hb⟩
        exact hK _ _ (flat_mark ⟨below_more hR.1.1 hb, hR.1.2.1.on hb, hR.1.2.2.on hb⟩ (fun _ _ h => h) hR.2 rfl)
      · have s5 : b0.tmps.getD 5 undef = obV a l d m := (hslot 0 5 (by rfl)).trans (hR.2 0 (done_at hdo 0 (by rfl)))
        clear hslot hoth hdo hcl hLi
        refine guard_none (by rfl) ?_
        go_simp
        refine (CF wz).mono ?_
        rintro e w' ⟨rfl, hb⟩
        exact hK _ _ (flat_mark ⟨below_more hR.1.1 hb, hR.1.2.1.on hb, hR.1.2.2.on hb⟩ (fun _ _ h => h) hR.2 rfl)
    · intro b0 us wz L hslot hoth hLi hR hcl hdo K hK
      rcases HL.out with ⟨rfl, rfl, hf⟩ | ⟨rfl, rfl, hf⟩ | ⟨rfl, rfl, hf⟩ | ⟨rfl, rfl, hf⟩ | ⟨rfl, rfl, hf⟩
      · have s3 : b0.tmps.getD 3 undef = .pointer (some ⟨w.heap.size + 1, 0, none⟩) := hoth 3 (by rfl)
        have k0 := (hR.1.2.2).c0
        have k1 := (hR.1.2.2).c1
        have k2 := (hR.1.2.2).c2
        have k3 := (hR.1.2.2).c3
        have k4 := (hR.1.2.2).c4
        have k5 := (hR.1.2.2).c5
        have k6 := (hR.1.2.2).c6
        have k7 := (hR.1.2.2).c7
        have k8 := (hR.1.2.2).c8
        have k9 := (hR.1.2.2).c9
        have k10 := (hR.1.2.2).c10
        have k11 := (hR.1.2.2).c11
        have k12 := (hR.1.2.2).c12
        clear hslot hoth hdo hcl hLi
        refine guard_none (by rfl) ?_
        go_simp
        exact hK _ _ (flat_mark (hR.1) (fun _ _ h => h) hR.2 rfl)
      · have s3 : b0.tmps.getD 3 undef = .pointer (some ⟨w.heap.size + 1, 0, none⟩) := hoth 3 (by rfl)
        have k0 := (hR.1.2.2).c0
        have k1 := (hR.1.2.2).c1
        have k2 := (hR.1.2.2).c2
        have k3 := (hR.1.2.2).c3
        have k4 := (hR.1.2.2).c4
        have k5 := (hR.1.2.2).c5
        have k6 := (hR.1.2.2).c6
        have k7 := (hR.1.2.2).c7
        have k8 := (hR.1.2.2).c8
        have k9 := (hR.1.2.2).c9
        have k10 := (hR.1.2.2).c10
        have k11 := (hR.1.2.2).c11
        have k12 := (hR.1.2.2).c12
        clear hslot hoth hdo hcl hLi
        refine guard_none (by rfl) ?_
        go_simp
        exact hK _ _ (flat_mark (hR.1) (fun _ _ h => h) hR.2 rfl)
      · have s3 : b0.tmps.getD 3 undef = .pointer (some ⟨w.heap.size + 1, 0, none⟩) := hoth 3 (by rfl)
        have k0 := (hR.1.2.2).c0
        have k1 := (hR.1.2.2).c1
        have k2 := (hR.1.2.2).c2
        have k3 := (hR.1.2.2).c3
        have k4 := (hR.1.2.2).c4
        have k5 := (hR.1.2.2).c5
        have k6 := (hR.1.2.2).c6
        have k7 := (hR.1.2.2).c7
        have k8 := (hR.1.2.2).c8
        have k9 := (hR.1.2.2).c9
        have k10 := (hR.1.2.2).c10
        have k11 := (hR.1.2.2).c11
        have k12 := (hR.1.2.2).c12
        clear hslot hoth hdo hcl hLi
        refine guard_none (by rfl) ?_
        go_simp
        exact hK _ _ (flat_mark (hR.1) (fun _ _ h => h) hR.2 rfl)
      · have s3 : b0.tmps.getD 3 undef = .pointer (some ⟨w.heap.size + 1, 0, none⟩) := hoth 3 (by rfl)
        have k0 := (hR.1.2.2).c0
        have k1 := (hR.1.2.2).c1
        have k2 := (hR.1.2.2).c2
        have k3 := (hR.1.2.2).c3
        have k4 := (hR.1.2.2).c4
        have k5 := (hR.1.2.2).c5
        have k6 := (hR.1.2.2).c6
        have k7 := (hR.1.2.2).c7
        have k8 := (hR.1.2.2).c8
        have k9 := (hR.1.2.2).c9
        have k10 := (hR.1.2.2).c10
        have k11 := (hR.1.2.2).c11
        have k12 := (hR.1.2.2).c12
        clear hslot hoth hdo hcl hLi
        refine guard_none (by rfl) ?_
        go_simp
        exact hK _ _ (flat_mark (hR.1) (fun _ _ h => h) hR.2 rfl)
      · have s3 : b0.tmps.getD 3 undef = .pointer (some ⟨w.heap.size + 1, 0, none⟩) := hoth 3 (by rfl)
        have k0 := (hR.1.2.2).c0
        have k1 := (hR.1.2.2).c1
        have k2 := (hR.1.2.2).c2
        have k3 := (hR.1.2.2).c3
        have k4 := (hR.1.2.2).c4
        have k5 := (hR.1.2.2).c5
        have k6 := (hR.1.2.2).c6
        have k7 := (hR.1.2.2).c7
        have k8 := (hR.1.2.2).c8
        have k9 := (hR.1.2.2).c9
        have k10 := (hR.1.2.2).c10
        have k11 := (hR.1.2.2).c11
        have k12 := (hR.1.2.2).c12
        clear hslot hoth hdo hcl hLi
        refine guard_none (by rfl) ?_
        go_simp
        exact hK _ _ (flat_mark (hR.1) (fun _ _ h => h) hR.2 rfl)
    · intro b0 us wz L hslot hoth hLi hR hcl hdo K hK
      rcases HL.out with ⟨rfl, rfl, hf⟩ | ⟨rfl, rfl, hf⟩ | ⟨rfl, rfl, hf⟩ | ⟨rfl, rfl, hf⟩ | ⟨rfl, rfl, hf⟩
      · have s7 : b0.tmps.getD 7 undef = obV b l' d' m' := (hslot 2 7 (by rfl)).trans (hR.2 2 (done_at hdo 2 (by rfl)))
        clear hslot hoth hdo hcl hLi
        refine guard_none (by rfl) ?_
        go_simp
        refine (CG wz).mono ?_
        rintro e w' ⟨rfl, hb⟩
        exact hK _ _ (flat_mark ⟨below_more hR.1.1 hb, hR.1.2.1.on hb, hR.1.2.2.on hb⟩ (fun _ _ h => h) hR.2 rfl)
      · have s7 : b0.tmps.getD 7 undef = obV b l' d' m' := (hslot 2 7 (by rfl)).trans (hR.2 2 (done_at hdo 2 (by rfl)))
        clear hslot hoth hdo hcl hLi
        refine guard_none (by rfl) ?_
        go_simp
        refine (CG wz).mono ?_
        rintro e w' ⟨rfl, hb⟩
        exact hK _ _ (flat_mark ⟨below_more hR.1.1 hb, hR.1.2.1.on hb, hR.1.2.2.on hb⟩ (fun _ _ h => h) hR.2 rfl)
      · have s7 : b0.tmps.getD 7 undef = obV b l' d' m' := (hslot 2 7 (by rfl)).trans (hR.2 2 (done_at hdo 2 (by rfl)))
        clear hslot hoth hdo hcl hLi
        refine guard_none (by rfl) ?_
        go_simp
        refine (CG wz).mono ?_
        rintro e w' ⟨rfl, hb⟩
        exact hK _ _ (flat_mark ⟨below_more hR.1.1 hb, hR.1.2.1.on hb, hR.1.2.2.on hb⟩ (fun _ _ h => h) hR.2 rfl)
      · have s7 : b0.tmps.getD 7 undef = obV b l' d' m' := (hslot 2 7 (by rfl)).trans (hR.2 2 (done_at hdo 2 (by rfl)))
        clear hslot hoth hdo hcl hLi
        refine guard_none (by rfl) ?_
        go_simp
        refine (CG wz).mono ?_
        rintro e w' ⟨rfl, hb⟩
        exact hK _ _ (flat_mark ⟨below_more hR.1.1 hb, hR.1.2.1.on hb, hR.1.2.2.on hb⟩ (fun _ _ h => h) hR.2 rfl)
      · have s7 : b0.tmps.getD 7 undef = obV b l' d' m' := (hslot 2 7 (by rfl)).trans (hR.2 2 (done_at hdo 2 (by rfl)))
        clear hslot hoth hdo hcl hLi
        refine guard_none (by rfl) ?_
        go_simp
        refine (CG wz).mono ?_
        rintro e w' ⟨rfl, hb⟩
        exact hK _ _ (flat_mark ⟨below_more hR.1.1 hb, hR.1.2.1.on hb, hR.1.2.2.on hb⟩ (fun _ _ h => h) hR.2 rfl)
    · intro b0 us wz L hslot hoth hLi hR hcl hdo K hK
      rcases HL.out with ⟨rfl, rfl, hf⟩ | ⟨rfl, rfl, hf⟩ | ⟨rfl, rfl, hf⟩ | ⟨rfl, rfl, hf⟩ | ⟨rfl, rfl, hf⟩
      · have s6 : b0.tmps.getD 6 undef = arr9 a := (hslot 1 6 (by rfl)).trans (hR.2 1 (done_at hdo 1 (by rfl)))
        have s8 : b0.tmps.getD 8 undef = arr9 b := (hslot 3 8 (by rfl)).trans (hR.2 3 (done_at hdo 3 (by rfl)))
        have HE : ∀ w, (Op.equalIn 10000 83 (arr9 a) (arr9 b)).run Try.prog w = .ok false w := fun w => by rw [eq9_ob, hf.out]
        clear hslot hoth hdo hcl hLi
        refine guard_none (by rfl) ?_
        go_simp
        exact hK _ _ (flat_mark (hR.1) (fun _ _ h => h) hR.2 rfl)
      · have s6 : b0.tmps.getD 6 undef = arr9 a := (hslot 1 6 (by rfl)).trans (hR.2 1 (done_at hdo 1 (by rfl)))
        have s8 : b0.tmps.getD 8 undef = arr9 b := (hslot 3 8 (by rfl)).trans (hR.2 3 (done_at hdo 3 (by rfl)))
        have HE : ∀ w, (Op.equalIn 10000 83 (arr9 a) (arr9 b)).run Try.prog w = .ok true w := fun w => by rw [eq9_ob, hf.out.1]
        clear hslot hoth hdo hcl hLi
        refine guard_none (by rfl) ?_
        go_simp
        exact hK _ _ (flat_mark (hR.1) (fun _ _ h => h) hR.2 rfl)
      · have s6 : b0.tmps.getD 6 undef = arr9 a := (hslot 1 6 (by rfl)).trans (hR.2 1 (done_at hdo 1 (by rfl)))
        have s8 : b0.tmps.getD 8 undef = arr9 b := (hslot 3 8 (by rfl)).trans (hR.2 3 (done_at hdo 3 (by rfl)))
        have HE : ∀ w, (Op.equalIn 10000 83 (arr9 a) (arr9 b)).run Try.prog w = .ok true w := fun w => by rw [eq9_ob, hf.out.1]
        clear hslot hoth hdo hcl hLi
        refine guard_none (by rfl) ?_
        go_simp
        exact hK _ _ (flat_mark (hR.1) (fun _ _ h => h) hR.2 rfl)
      · have s6 : b0.tmps.getD 6 undef = arr9 a := (hslot 1 6 (by rfl)).trans (hR.2 1 (done_at hdo 1 (by rfl)))
        have s8 : b0.tmps.getD 8 undef = arr9 b := (hslot 3 8 (by rfl)).trans (hR.2 3 (done_at hdo 3 (by rfl)))
        have HE : ∀ w, (Op.equalIn 10000 83 (arr9 a) (arr9 b)).run Try.prog w = .ok true w := fun w => by rw [eq9_ob, hf.out.1]
        clear hslot hoth hdo hcl hLi
        refine guard_none (by rfl) ?_
        go_simp
        exact hK _ _ (flat_mark (hR.1) (fun _ _ h => h) hR.2 rfl)
      · have s6 : b0.tmps.getD 6 undef = arr9 a := (hslot 1 6 (by rfl)).trans (hR.2 1 (done_at hdo 1 (by rfl)))
        have s8 : b0.tmps.getD 8 undef = arr9 b := (hslot 3 8 (by rfl)).trans (hR.2 3 (done_at hdo 3 (by rfl)))
        have HE : ∀ w, (Op.equalIn 10000 83 (arr9 a) (arr9 b)).run Try.prog w = .ok true w := fun w => by rw [eq9_ob, hf.out.1]
        clear hslot hoth hdo hcl hLi
        refine guard_none (by rfl) ?_
        go_simp
        exact hK _ _ (flat_mark (hR.1) (fun _ _ h => h) hR.2 rfl)
    · intro b0 us wz L hslot hoth hLi hR hcl hdo K hK
      rcases HL.out with ⟨rfl, rfl, hf⟩ | ⟨rfl, rfl, hf⟩ | ⟨rfl, rfl, hf⟩ | ⟨rfl, rfl, hf⟩ | ⟨rfl, rfl, hf⟩
      · have s9 : b0.tmps.getD 9 undef = .bool false := (hslot 4 9 (by rfl)).trans (hR.2 4 (done_at hdo 4 (by rfl)))
        clear hslot hoth hdo hcl hLi
        refine guard_none (by rfl) ?_
        go_simp
        exact hK _ _ (flat_mark (hR.1) (fun _ _ h => h) hR.2 rfl)
      · have s9 : b0.tmps.getD 9 undef = .bool true := (hslot 4 9 (by rfl)).trans (hR.2 4 (done_at hdo 4 (by rfl)))
        clear hslot hoth hdo hcl hLi
        refine guard_none (by rfl) ?_
        go_simp
        exact hK _ _ (flat_mark (hR.1) (fun _ _ h => h) hR.2 rfl)
      · have s9 : b0.tmps.getD 9 undef = .bool true := (hslot 4 9 (by rfl)).trans (hR.2 4 (done_at hdo 4 (by rfl)))
        clear hslot hoth hdo hcl hLi
        refine guard_none (by rfl) ?_
        go_simp
        exact hK _ _ (flat_mark (hR.1) (fun _ _ h => h) hR.2 rfl)
      · have s9 : b0.tmps.getD 9 undef = .bool true := (hslot 4 9 (by rfl)).trans (hR.2 4 (done_at hdo 4 (by rfl)))
        clear hslot hoth hdo hcl hLi
        refine guard_none (by rfl) ?_
        go_simp
        exact hK _ _ (flat_mark (hR.1) (fun _ _ h => h) hR.2 rfl)
      · have s9 : b0.tmps.getD 9 undef = .bool true := (hslot 4 9 (by rfl)).trans (hR.2 4 (done_at hdo 4 (by rfl)))
        clear hslot hoth hdo hcl hLi
        refine guard_none (by rfl) ?_
        go_simp
        exact hK _ _ (flat_mark (hR.1) (fun _ _ h => h) hR.2 rfl)
    · intro b0 us wz L hslot hoth hLi hR hcl hdo K hK
      rcases HL.out with ⟨rfl, rfl, hf⟩ | ⟨rfl, rfl, hf⟩ | ⟨rfl, rfl, hf⟩ | ⟨rfl, rfl, hf⟩ | ⟨rfl, rfl, hf⟩
      · have gg : us 5 = .bool false := hR.2 5 (done_at hdo 5 (by rfl))
        refine guard_off (j := 5) (want := true) (d := 10) (by rfl) (by rfl) gg (by rfl) ?_
        exact hK undef _ (flat_mark (hR.1) (fun _ _ h => h) hR.2 rfl)
      · have gg : us 5 = .bool true := hR.2 5 (done_at hdo 5 (by rfl))
        have s2 : b0.tmps.getD 2 undef = .pointer (some ⟨w.heap.size, 0, none⟩) := hoth 2 (by rfl)
        clear hslot hoth hdo hcl hLi
        refine guard_on (j := 5) (want := true) (d := 10) (by rfl) (by rfl) gg ?_
        go_simp
        exact hK _ _ (flat_mark (hR.1) (fun _ _ h => h) hR.2 rfl)
      · have gg : us 5 = .bool true := hR.2 5 (done_at hdo 5 (by rfl))
        have s2 : b0.tmps.getD 2 undef = .pointer (some ⟨w.heap.size, 0, none⟩) := hoth 2 (by rfl)
        clear hslot hoth hdo hcl hLi
        refine guard_on (j := 5) (want := true) (d := 10) (by rfl) (by rfl) gg ?_
        go_simp
        exact hK _ _ (flat_mark (hR.1) (fun _ _ h => h) hR.2 rfl)
      · have gg : us 5 = .bool true := hR.2 5 (done_at hdo 5 (by rfl))
        have s2 : b0.tmps.getD 2 undef = .pointer (some ⟨w.heap.size, 0, none⟩) := hoth 2 (by rfl)
        clear hslot hoth hdo hcl hLi
        refine guard_on (j := 5) (want := true) (d := 10) (by rfl) (by rfl) gg ?_
        go_simp
        exact hK _ _ (flat_mark (hR.1) (fun _ _ h => h) hR.2 rfl)
      · have gg : us 5 = .bool true := hR.2 5 (done_at hdo 5 (by rfl))
        have s2 : b0.tmps.getD 2 undef = .pointer (some ⟨w.heap.size, 0, none⟩) := hoth 2 (by rfl)
        clear hslot hoth hdo hcl hLi
        refine guard_on (j := 5) (want := true) (d := 10) (by rfl) (by rfl) gg ?_
        go_simp
        exact hK _ _ (flat_mark (hR.1) (fun _ _ h => h) hR.2 rfl)
    · intro b0 us wz L hslot hoth hLi hR hcl hdo K hK
      rcases HL.out with ⟨rfl, rfl, hf⟩ | ⟨rfl, rfl, hf⟩ | ⟨rfl, rfl, hf⟩ | ⟨rfl, rfl, hf⟩ | ⟨rfl, rfl, hf⟩
      · have gg : us 5 = .bool false := hR.2 5 (done_at hdo 5 (by rfl))
        refine guard_off (j := 5) (want := true) (d := 10) (by rfl) (by rfl) gg (by rfl) ?_
        exact hK undef _ (flat_mark (hR.1) (fun _ _ h => h) hR.2 rfl)
      · have gg : us 5 = .bool true := hR.2 5 (done_at hdo 5 (by rfl))
        have s11 : b0.tmps.getD 11 undef = .pointer (some ⟨w.heap.size, 9, none⟩) := (hslot 6 11 (by rfl)).trans (hR.2 6 (done_at hdo 6 (by rfl)))
        have k9 := (hR.1.2.1).c9
        clear hslot hoth hdo hcl hLi
        refine guard_on (j := 5) (want := true) (d := 10) (by rfl) (by rfl) gg ?_
        go_simp
        exact hK _ _ (flat_mark (hR.1) (fun _ _ h => h) hR.2 rfl)
      · have gg : us 5 = .bool true := hR.2 5 (done_at hdo 5 (by rfl))
        have s11 : b0.tmps.getD 11 undef = .pointer (some ⟨w.heap.size, 9, none⟩) := (hslot 6 11 (by rfl)).trans (hR.2 6 (done_at hdo 6 (by rfl)))
        have k9 := (hR.1.2.1).c9
        clear hslot hoth hdo hcl hLi
        refine guard_on (j := 5) (want := true) (d := 10) (by rfl) (by rfl) gg ?_
        go_simp
        exact hK _ _ (flat_mark (hR.1) (fun _ _ h => h) hR.2 rfl)
      · have gg : us 5 = .bool true := hR.2 5 (done_at hdo 5 (by rfl))
        have s11 : b0.tmps.getD 11 undef = .pointer (some ⟨w.heap.size, 9, none⟩) := (hslot 6 11 (by rfl)).trans (hR.2 6 (done_at hdo 6 (by rfl)))
        have k9 := (hR.1.2.1).c9
        clear hslot hoth hdo hcl hLi
        refine guard_on (j := 5) (want := true) (d := 10) (by rfl) (by rfl) gg ?_
        go_simp
        exact hK _ _ (flat_mark (hR.1) (fun _ _ h => h) hR.2 rfl)
      · have gg : us 5 = .bool true := hR.2 5 (done_at hdo 5 (by rfl))
        have s11 : b0.tmps.getD 11 undef = .pointer (some ⟨w.heap.size, 9, none⟩) := (hslot 6 11 (by rfl)).trans (hR.2 6 (done_at hdo 6 (by rfl)))
        have k9 := (hR.1.2.1).c9
        clear hslot hoth hdo hcl hLi
        refine guard_on (j := 5) (want := true) (d := 10) (by rfl) (by rfl) gg ?_
        go_simp
        exact hK _ _ (flat_mark (hR.1) (fun _ _ h => h) hR.2 rfl)
    · intro b0 us wz L hslot hoth hLi hR hcl hdo K hK
      rcases HL.out with ⟨rfl, rfl, hf⟩ | ⟨rfl, rfl, hf⟩ | ⟨rfl, rfl, hf⟩ | ⟨rfl, rfl, hf⟩ | ⟨rfl, rfl, hf⟩
      · have gg : us 5 = .bool false := hR.2 5 (done_at hdo 5 (by rfl))
        refine guard_off (j := 5) (want := true) (d := 10) (by rfl) (by rfl) gg (by rfl) ?_
        exact hK undef _ (flat_mark (hR.1) (fun _ _ h => h) hR.2 rfl)
      · have gg : us 5 = .bool true := hR.2 5 (done_at hdo 5 (by rfl))
        have s3 : b0.tmps.getD 3 undef = .pointer (some ⟨w.heap.size + 1, 0, none⟩) := hoth 3 (by rfl)
        clear hslot hoth hdo hcl hLi
        refine guard_on (j := 5) (want := true) (d := 10) (by rfl) (by rfl) gg ?_
        go_simp
        exact hK _ _ (flat_mark (hR.1) (fun _ _ h => h) hR.2 rfl)
      · have gg : us 5 = .bool true := hR.2 5 (done_at hdo 5 (by rfl))
        have s3 : b0.tmps.getD 3 undef = .pointer (some ⟨w.heap.size + 1, 0, none⟩) := hoth 3 (by rfl)
        clear hslot hoth hdo hcl hLi
        refine guard_on (j := 5) (want := true) (d := 10) (by rfl) (by rfl) gg ?_
        go_simp
        exact hK _ _ (flat_mark (hR.1) (fun _ _ h => h) hR.2 rfl)
      · have gg : us 5 = .bool true := hR.2 5 (done_at hdo 5 (by rfl))
        have s3 : b0.tmps.getD 3 undef = .pointer (some ⟨w.heap.size + 1, 0, none⟩) := hoth 3 (by rfl)
        clear hslot hoth hdo hcl hLi
        refine guard_on (j := 5) (want := true) (d := 10) (by rfl) (by rfl) gg ?_
        go_simp
        exact hK _ _ (flat_mark (hR.1) (fun _ _ h => h) hR.2 rfl)
      · have gg : us 5 = .bool true := hR.2 5 (done_at hdo 5 (by rfl))
        have s3 : b0.tmps.getD 3 undef = .pointer (some ⟨w.heap.size + 1, 0, none⟩) := hoth 3 (by rfl)
        clear hslot hoth hdo hcl hLi
        refine guard_on (j := 5) (want := true) (d := 10) (by rfl) (by rfl) gg ?_
        go_simp
        exact hK _ _ (flat_mark (hR.1) (fun _ _ h => h) hR.2 rfl)
    · intro b0 us wz L hslot hoth hLi hR hcl hdo K hK
      rcases HL.out with ⟨rfl, rfl, hf⟩ | ⟨rfl, rfl, hf⟩ | ⟨rfl, rfl, hf⟩ | ⟨rfl, rfl, hf⟩ | ⟨rfl, rfl, hf⟩
      · have gg : us 5 = .bool false := hR.2 5 (done_at hdo 5 (by rfl))
        refine guard_off (j := 5) (want := true) (d := 10) (by rfl) (by rfl) gg (by rfl) ?_
        exact hK undef _ (flat_mark (hR.1) (fun _ _ h => h) hR.2 rfl)
      · have gg : us 5 = .bool true := hR.2 5 (done_at hdo 5 (by rfl))
        have s13 : b0.tmps.getD 13 undef = .pointer (some ⟨w.heap.size + 1, 9, none⟩) := (hslot 8 13 (by rfl)).trans (hR.2 8 (done_at hdo 8 (by rfl)))
        have k9 := (hR.1.2.2).c9
        clear hslot hoth hdo hcl hLi
        refine guard_on (j := 5) (want := true) (d := 10) (by rfl) (by rfl) gg ?_
        go_simp
        exact hK _ _ (flat_mark (hR.1) (fun _ _ h => h) hR.2 rfl)
      · have gg : us 5 = .bool true := hR.2 5 (done_at hdo 5 (by rfl))
        have s13 : b0.tmps.getD 13 undef = .pointer (some ⟨w.heap.size + 1, 9, none⟩) := (hslot 8 13 (by rfl)).trans (hR.2 8 (done_at hdo 8 (by rfl)))
        have k9 := (hR.1.2.2).c9
        clear hslot hoth hdo hcl hLi
        refine guard_on (j := 5) (want := true) (d := 10) (by rfl) (by rfl) gg ?_
        go_simp
        exact hK _ _ (flat_mark (hR.1) (fun _ _ h => h) hR.2 rfl)
      · have gg : us 5 = .bool true := hR.2 5 (done_at hdo 5 (by rfl))
        have s13 : b0.tmps.getD 13 undef = .pointer (some ⟨w.heap.size + 1, 9, none⟩) := (hslot 8 13 (by rfl)).trans (hR.2 8 (done_at hdo 8 (by rfl)))
        have k9 := (hR.1.2.2).c9
        clear hslot hoth hdo hcl hLi
        refine guard_on (j := 5) (want := true) (d := 10) (by rfl) (by rfl) gg ?_
        go_simp
        exact hK _ _ (flat_mark (hR.1) (fun _ _ h => h) hR.2 rfl)
      · have gg : us 5 = .bool true := hR.2 5 (done_at hdo 5 (by rfl))
        have s13 : b0.tmps.getD 13 undef = .pointer (some ⟨w.heap.size + 1, 9, none⟩) := (hslot 8 13 (by rfl)).trans (hR.2 8 (done_at hdo 8 (by rfl)))
        have k9 := (hR.1.2.2).c9
        clear hslot hoth hdo hcl hLi
        refine guard_on (j := 5) (want := true) (d := 10) (by rfl) (by rfl) gg ?_
        go_simp
        exact hK _ _ (flat_mark (hR.1) (fun _ _ h => h) hR.2 rfl)
    · intro b0 us wz L hslot hoth hLi hR hcl hdo K hK
      rcases HL.out with ⟨rfl, rfl, hf⟩ | ⟨rfl, rfl, hf⟩ | ⟨rfl, rfl, hf⟩ | ⟨rfl, rfl, hf⟩ | ⟨rfl, rfl, hf⟩
      · have gg : us 5 = .bool false := hR.2 5 (done_at hdo 5 (by rfl))
        refine guard_off (j := 5) (want := true) (d := 10) (by rfl) (by rfl) gg (by rfl) ?_
        exact hK undef _ (flat_mark (hR.1) (fun _ _ h => h) hR.2 rfl)
      · have gg : us 5 = .bool true := hR.2 5 (done_at hdo 5 (by rfl))
        have s12 : b0.tmps.getD 12 undef = .bool a.mark := (hslot 7 12 (by rfl)).trans (hR.2 7 (done_at hdo 7 (by rfl)))
        have s14 : b0.tmps.getD 14 undef = .bool b.mark := (hslot 9 14 (by rfl)).trans (hR.2 9 (done_at hdo 9 (by rfl)))
        have hm : (a.mark == b.mark) = false := hf.out.2
        clear hslot hoth hdo hcl hLi
        refine guard_on (j := 5) (want := true) (d := 10) (by rfl) (by rfl) gg ?_
        go_simp
        exact hK _ _ (flat_mark (hR.1) (fun _ _ h => h) hR.2 rfl)
      · have gg : us 5 = .bool true := hR.2 5 (done_at hdo 5 (by rfl))
        have s12 : b0.tmps.getD 12 undef = .bool a.mark := (hslot 7 12 (by rfl)).trans (hR.2 7 (done_at hdo 7 (by rfl)))
        have s14 : b0.tmps.getD 14 undef = .bool b.mark := (hslot 9 14 (by rfl)).trans (hR.2 9 (done_at hdo 9 (by rfl)))
        have hm : (a.mark == b.mark) = true := hf.out.2.1
        clear hslot hoth hdo hcl hLi
        refine guard_on (j := 5) (want := true) (d := 10) (by rfl) (by rfl) gg ?_
        go_simp
        exact hK _ _ (flat_mark (hR.1) (fun _ _ h => h) hR.2 rfl)
      · have gg : us 5 = .bool true := hR.2 5 (done_at hdo 5 (by rfl))
        have s12 : b0.tmps.getD 12 undef = .bool a.mark := (hslot 7 12 (by rfl)).trans (hR.2 7 (done_at hdo 7 (by rfl)))
        have s14 : b0.tmps.getD 14 undef = .bool b.mark := (hslot 9 14 (by rfl)).trans (hR.2 9 (done_at hdo 9 (by rfl)))
        have hm : (a.mark == b.mark) = true := hf.out.2.1
        clear hslot hoth hdo hcl hLi
        refine guard_on (j := 5) (want := true) (d := 10) (by rfl) (by rfl) gg ?_
        go_simp
        exact hK _ _ (flat_mark (hR.1) (fun _ _ h => h) hR.2 rfl)
      · have gg : us 5 = .bool true := hR.2 5 (done_at hdo 5 (by rfl))
        have s12 : b0.tmps.getD 12 undef = .bool a.mark := (hslot 7 12 (by rfl)).trans (hR.2 7 (done_at hdo 7 (by rfl)))
        have s14 : b0.tmps.getD 14 undef = .bool b.mark := (hslot 9 14 (by rfl)).trans (hR.2 9 (done_at hdo 9 (by rfl)))
        have hm : (a.mark == b.mark) = true := hf.out.2.1
        clear hslot hoth hdo hcl hLi
        refine guard_on (j := 5) (want := true) (d := 10) (by rfl) (by rfl) gg ?_
        go_simp
        exact hK _ _ (flat_mark (hR.1) (fun _ _ h => h) hR.2 rfl)
    · intro b0 us wz L hslot hoth hLi hR hcl hdo K hK
      rcases HL.out with ⟨rfl, rfl, hf⟩ | ⟨rfl, rfl, hf⟩ | ⟨rfl, rfl, hf⟩ | ⟨rfl, rfl, hf⟩ | ⟨rfl, rfl, hf⟩
      · have s10 : b0.tmps.getD 10 undef = .bool false := (hslot 5 10 (by rfl)).trans (hR.2 5 (done_at hdo 5 (by rfl)))
        have s15 : b0.tmps.getD 15 undef = undef := (hslot 10 15 (by rfl)).trans (hR.2 10 (done_at hdo 10 (by rfl)))
        clear hslot hoth hdo hcl hLi
        refine guard_none (by rfl) ?_
        go_simp
        exact hK _ _ (flat_mark (hR.1) (fun _ _ h => h) hR.2 rfl)
      · have s10 : b0.tmps.getD 10 undef = .bool true := (hslot 5 10 (by rfl)).trans (hR.2 5 (done_at hdo 5 (by rfl)))
        have s15 : b0.tmps.getD 15 undef = .bool false := (hslot 10 15 (by rfl)).trans (hR.2 10 (done_at hdo 10 (by rfl)))
        clear hslot hoth hdo hcl hLi
        refine guard_none (by rfl) ?_
        go_simp
        exact hK _ _ (flat_mark (hR.1) (fun _ _ h => h) hR.2 rfl)
      · have s10 : b0.tmps.getD 10 undef = .bool true := (hslot 5 10 (by rfl)).trans (hR.2 5 (done_at hdo 5 (by rfl)))
        have s15 : b0.tmps.getD 15 undef = .bool true := (hslot 10 15 (by rfl)).trans (hR.2 10 (done_at hdo 10 (by rfl)))
        clear hslot hoth hdo hcl hLi
        refine guard_none (by rfl) ?_
        go_simp
        exact hK _ _ (flat_mark (hR.1) (fun _ _ h => h) hR.2 rfl)
      · have s10 : b0.tmps.getD 10 undef = .bool true := (hslot 5 10 (by rfl)).trans (hR.2 5 (done_at hdo 5 (by rfl)))
        have s15 : b0.tmps.getD 15 undef = .bool true := (hslot 10 15 (by rfl)).trans (hR.2 10 (done_at hdo 10 (by rfl)))
        clear hslot hoth hdo hcl hLi
        refine guard_none (by rfl) ?_
        go_simp
        exact hK _ _ (flat_mark (hR.1) (fun _ _ h => h) hR.2 rfl)
      · have s10 : b0.tmps.getD 10 undef = .bool true := (hslot 5 10 (by rfl)).trans (hR.2 5 (done_at hdo 5 (by rfl)))
        have s15 : b0.tmps.getD 15 undef = .bool true := (hslot 10 15 (by rfl)).trans (hR.2 10 (done_at hdo 10 (by rfl)))
        clear hslot hoth hdo hcl hLi
        refine guard_none (by rfl) ?_
        go_simp
        exact hK _ _ (flat_mark (hR.1) (fun _ _ h => h) hR.2 rfl)
    · intro b0 us wz L hslot hoth hLi hR hcl hdo K hK
      rcases HL.out with ⟨rfl, rfl, hf⟩ | ⟨rfl, rfl, hf⟩ | ⟨rfl, rfl, hf⟩ | ⟨rfl, rfl, hf⟩ | ⟨rfl, rfl, hf⟩
      · have s16 : b0.tmps.getD 16 undef = .bool false := (hslot 11 16 (by rfl)).trans (hR.2 11 (done_at hdo 11 (by rfl)))
        clear hslot hoth hdo hcl hLi
        refine guard_none (by rfl) ?_
        go_simp
        exact hK _ _ (flat_mark (hR.1) (fun _ _ h => h) hR.2 rfl)
      · have s16 : b0.tmps.getD 16 undef = .bool false := (hslot 11 16 (by rfl)).trans (hR.2 11 (done_at hdo 11 (by rfl)))
        clear hslot hoth hdo hcl hLi
        refine guard_none (by rfl) ?_
        go_simp
        exact hK _ _ (flat_mark (hR.1) (fun _ _ h => h) hR.2 rfl)
      · have s16 : b0.tmps.getD 16 undef = .bool true := (hslot 11 16 (by rfl)).trans (hR.2 11 (done_at hdo 11 (by rfl)))
        clear hslot hoth hdo hcl hLi
        refine guard_none (by rfl) ?_
        go_simp
        exact hK _ _ (flat_mark (hR.1) (fun _ _ h => h) hR.2 rfl)
      · have s16 : b0.tmps.getD 16 undef = .bool true := (hslot 11 16 (by rfl)).trans (hR.2 11 (done_at hdo 11 (by rfl)))
        clear hslot hoth hdo hcl hLi
        refine guard_none (by rfl) ?_
        go_simp
        exact hK _ _ (flat_mark (hR.1) (fun _ _ h => h) hR.2 rfl)
      · have s16 : b0.tmps.getD 16 undef = .bool true := (hslot 11 16 (by rfl)).trans (hR.2 11 (done_at hdo 11 (by rfl)))
        clear hslot hoth hdo hcl hLi
        refine guard_none (by rfl) ?_
        go_simp
        exact hK _ _ (flat_mark (hR.1) (fun _ _ h => h) hR.2 rfl)
    · intro b0 us wz L hslot hoth hLi hR hcl hdo K hK
      rcases HL.out with ⟨rfl, rfl, hf⟩ | ⟨rfl, rfl, hf⟩ | ⟨rfl, rfl, hf⟩ | ⟨rfl, rfl, hf⟩ | ⟨rfl, rfl, hf⟩
      · have gg : us 12 = .bool false := hR.2 12 (done_at hdo 12 (by rfl))
        refine guard_off (j := 12) (want := true) (d := 17) (by rfl) (by rfl) gg (by rfl) ?_
        exact hK undef _ (flat_mark (hR.1) (fun _ _ h => h) hR.2 rfl)
      · have gg : us 12 = .bool false := hR.2 12 (done_at hdo 12 (by rfl))
        refine guard_off (j := 12) (want := true) (d := 17) (by rfl) (by rfl) gg (by rfl) ?_
        exact hK undef _ (flat_mark (hR.1) (fun _ _ h => h) hR.2 rfl)
      · have gg : us 12 = .bool true := hR.2 12 (done_at hdo 12 (by rfl))
        have s2 : b0.tmps.getD 2 undef = .pointer (some ⟨w.heap.size, 0, none⟩) := hoth 2 (by rfl)
        clear hslot hoth hdo hcl hLi
        refine guard_on (j := 12) (want := true) (d := 17) (by rfl) (by rfl) gg ?_
        go_simp
        exact hK _ _ (flat_mark (hR.1) (fun _ _ h => h) hR.2 rfl)
      · have gg : us 12 = .bool true := hR.2 12 (done_at hdo 12 (by rfl))
        have s2 : b0.tmps.getD 2 undef = .pointer (some ⟨w.heap.size, 0, none⟩) := hoth 2 (by rfl)
        clear hslot hoth hdo hcl hLi
        refine guard_on (j := 12) (want := true) (d := 17) (by rfl) (by rfl) gg ?_
        go_simp
        exact hK _ _ (flat_mark (hR.1) (fun _ _ h => h) hR.2 rfl)
      · have gg : us 12 = .bool true := hR.2 12 (done_at hdo 12 (by rfl))
        have s2 : b0.tmps.getD 2 undef = .pointer (some ⟨w.heap.size, 0, none⟩) := hoth 2 (by rfl)
        clear hslot hoth hdo hcl hLi
        refine guard_on (j := 12) (want := true) (d := 17) (by rfl) (by rfl) gg ?_
        go_simp
        exact hK _ _ (flat_mark (hR.1) (fun _ _ h => h) hR.2 rfl)
    · intro b0 us wz L hslot hoth hLi hR hcl hdo K hK
      rcases HL.out with ⟨rfl, rfl, hf⟩ | ⟨rfl, rfl, hf⟩ | ⟨rfl, rfl, hf⟩ | ⟨rfl, rfl, hf⟩ | ⟨rfl, rfl, hf⟩
      · have gg : us 12 = .bool false := hR.2 12 (done_at hdo 12 (by rfl))
        refine guard_off (j := 12) (want := true) (d := 17) (by rfl) (by rfl) gg (by rfl) ?_
        exact hK undef _ (flat_mark (hR.1) (fun _ _ h => h) hR.2 rfl)
      · have gg : us 12 = .bool false := hR.2 12 (done_at hdo 12 (by rfl))
        refine guard_off (j := 12) (want := true) (d := 17) (by rfl) (by rfl) gg (by rfl) ?_
        exact hK undef _ (flat_mark (hR.1) (fun _ _ h => h) hR.2 rfl)
      · have gg : us 12 = .bool true := hR.2 12 (done_at hdo 12 (by rfl))
        have s18 : b0.tmps.getD 18 undef = .pointer (some ⟨w.heap.size, 10, none⟩) := (hslot 13 18 (by rfl)).trans (hR.2 13 (done_at hdo 13 (by rfl)))
        have k10 := (hR.1.2.1).c10
        clear hslot hoth hdo hcl hLi
        refine guard_on (j := 12) (want := true) (d := 17) (by rfl) (by rfl) gg ?_
        go_simp
        exact hK _ _ (flat_mark (hR.1) (fun _ _ h => h) hR.2 rfl)
      · have gg : us 12 = .bool true := hR.2 12 (done_at hdo 12 (by rfl))
        have s18 : b0.tmps.getD 18 undef = .pointer (some ⟨w.heap.size, 10, none⟩) := (hslot 13 18 (by rfl)).trans (hR.2 13 (done_at hdo 13 (by rfl)))
        have k10 := (hR.1.2.1).c10
        clear hslot hoth hdo hcl hLi
        refine guard_on (j := 12) (want := true) (d := 17) (by rfl) (by rfl) gg ?_
        go_simp
        exact hK _ _ (flat_mark (hR.1) (fun _ _ h => h) hR.2 rfl)
      · have gg : us 12 = .bool true := hR.2 12 (done_at hdo 12 (by rfl))
        have s18 : b0.tmps.getD 18 undef = .pointer (some ⟨w.heap.size, 10, none⟩) := (hslot 13 18 (by rfl)).trans (hR.2 13 (done_at hdo 13 (by rfl)))
        have k10 := (hR.1.2.1).c10
        clear hslot hoth hdo hcl hLi
        refine guard_on (j := 12) (want := true) (d := 17) (by rfl) (by rfl) gg ?_
        go_simp
        exact hK _ _ (flat_mark (hR.1) (fun _ _ h => h) hR.2 rfl)
    · intro b0 us wz L hslot hoth hLi hR hcl hdo K hK
      rcases HL.out with ⟨rfl, rfl, hf⟩ | ⟨rfl, rfl, hf⟩ | ⟨rfl, rfl, hf⟩ | ⟨rfl, rfl, hf⟩ | ⟨rfl, rfl, hf⟩
      · have gg : us 12 = .bool false := hR.2 12 (done_at hdo 12 (by rfl))
        refine guard_off (j := 12) (want := true) (d := 17) (by rfl) (by rfl) gg (by rfl) ?_
        exact hK undef _ (flat_mark (hR.1) (fun _ _ h => h) hR.2 rfl)
      · have gg : us 12 = .bool false := hR.2 12 (done_at hdo 12 (by rfl))
        refine guard_off (j := 12) (want := true) (d := 17) (by rfl) (by rfl) gg (by rfl) ?_
        exact hK undef _ (flat_mark (hR.1) (fun _ _ h => h) hR.2 rfl)
      · have gg : us 12 = .bool true := hR.2 12 (done_at hdo 12 (by rfl))
        have s3 : b0.tmps.getD 3 undef = .pointer (some ⟨w.heap.size + 1, 0, none⟩) := hoth 3 (by rfl)
        clear hslot hoth hdo hcl hLi
        refine guard_on (j := 12) (want := true) (d := 17) (by rfl) (by rfl) gg ?_
        go_simp
        exact hK _ _ (flat_mark (hR.1) (fun _ _ h => h) hR.2 rfl)
      · have gg : us 12 = .bool true := hR.2 12 (done_at hdo 12 (by rfl))
        have s3 : b0.tmps.getD 3 undef = .pointer (some ⟨w.heap.size + 1, 0, none⟩) := hoth 3 (by rfl)
        clear hslot hoth hdo hcl hLi
        refine guard_on (j := 12) (want := true) (d := 17) (by rfl) (by rfl) gg ?_
        go_simp
        exact hK _ _ (flat_mark (hR.1) (fun _ _ h => h) hR.2 rfl)
      · have gg : us 12 = .bool true := hR.2 12 (done_at hdo 12 (by rfl))
        have s3 : b0.tmps.getD 3 undef = .pointer (some ⟨w.heap.size + 1, 0, none⟩) := hoth 3 (by rfl)
        clear hslot hoth hdo hcl hLi
        refine guard_on (j := 12) (want := true) (d := 17) (by rfl) (by rfl) gg ?_
        go_simp
        exact hK _ _ (flat_mark (hR.1) (fun _ _ h => h) hR.2 rfl)
    · intro b0 us wz L hslot hoth hLi hR hcl hdo K hK
      rcases HL.out with ⟨rfl, rfl, hf⟩ | ⟨rfl, rfl, hf⟩ | ⟨rfl, rfl, hf⟩ | ⟨rfl, rfl, hf⟩ | ⟨rfl, rfl, hf⟩
      · have gg : us 12 = .bool false := hR.2 12 (done_at hdo 12 (by rfl))
        refine guard_off (j := 12) (want := true) (d := 17) (by rfl) (by rfl) gg (by rfl) ?_
        exact hK undef _ (flat_mark (hR.1) (fun _ _ h => h) hR.2 rfl)
      · have gg : us 12 = .bool false := hR.2 12 (done_at hdo 12 (by rfl))
        refine guard_off (j := 12) (want := true) (d := 17) (by rfl) (by rfl) gg (by rfl) ?_
        exact hK undef _ (flat_mark (hR.1) (fun _ _ h => h) hR.2 rfl)
      · have gg : us 12 = .bool true := hR.2 12 (done_at hdo 12 (by rfl))
        have s20 : b0.tmps.getD 20 undef = .pointer (some ⟨w.heap.size + 1, 10, none⟩) := (hslot 15 20 (by rfl)).trans (hR.2 15 (done_at hdo 15 (by rfl)))
        have k10 := (hR.1.2.2).c10
        clear hslot hoth hdo hcl hLi
        refine guard_on (j := 12) (want := true) (d := 17) (by rfl) (by rfl) gg ?_
        go_simp
        exact hK _ _ (flat_mark (hR.1) (fun _ _ h => h) hR.2 rfl)
      · have gg : us 12 = .bool true := hR.2 12 (done_at hdo 12 (by rfl))
        have s20 : b0.tmps.getD 20 undef = .pointer (some ⟨w.heap.size + 1, 10, none⟩) := (hslot 15 20 (by rfl)).trans (hR.2 15 (done_at hdo 15 (by rfl)))
        have k10 := (hR.1.2.2).c10
        clear hslot hoth hdo hcl hLi
        refine guard_on (j := 12) (want := true) (d := 17) (by rfl) (by rfl) gg ?_
        go_simp
        exact hK _ _ (flat_mark (hR.1) (fun _ _ h => h) hR.2 rfl)
      · have gg : us 12 = .bool true := hR.2 12 (done_at hdo 12 (by rfl))
        have s20 : b0.tmps.getD 20 undef = .pointer (some ⟨w.heap.size + 1, 10, none⟩) := (hslot 15 20 (by rfl)).trans (hR.2 15 (done_at hdo 15 (by rfl)))
        have k10 := (hR.1.2.2).c10
        clear hslot hoth hdo hcl hLi
        refine guard_on (j := 12) (want := true) (d := 17) (by rfl) (by rfl) gg ?_
        go_simp
        exact hK _ _ (flat_mark (hR.1) (fun _ _ h => h) hR.2 rfl)
    · intro b0 us wz L hslot hoth hLi hR hcl hdo K hK
      rcases HL.out with ⟨rfl, rfl, hf⟩ | ⟨rfl, rfl, hf⟩ | ⟨rfl, rfl, hf⟩ | ⟨rfl, rfl, hf⟩ | ⟨rfl, rfl, hf⟩
      · have gg : us 12 = .bool false := hR.2 12 (done_at hdo 12 (by rfl))
        refine guard_off (j := 12) (want := true) (d := 17) (by rfl) (by rfl) gg (by rfl) ?_
        exact hK undef _ (flat_mark (hR.1) (fun _ _ h => h) hR.2 rfl)
      · have gg : us 12 = .bool false := hR.2 12 (done_at hdo 12 (by rfl))
        refine guard_off (j := 12) (want := true) (d := 17) (by rfl) (by rfl) gg (by rfl) ?_
        exact hK undef _ (flat_mark (hR.1) (fun _ _ h => h) hR.2 rfl)
      · have gg : us 12 = .bool true := hR.2 12 (done_at hdo 12 (by rfl))
        have s19 : b0.tmps.getD 19 undef = l := (hslot 14 19 (by rfl)).trans (hR.2 14 (done_at hdo 14 (by rfl)))
        have s21 : b0.tmps.getD 21 undef = l' := (hslot 16 21 (by rfl)).trans (hR.2 16 (done_at hdo 16 (by rfl)))
        clear hslot hoth hdo hcl hLi
        refine guard_on (j := 12) (want := true) (d := 17) (by rfl) (by rfl) gg ?_
        go_simp
        refine ((hf.out.2.2 wz hR.1.1)).mono ?_
        rintro e w' ⟨rfl, hb⟩
        exact hK _ _ (flat_mark ⟨below_more hR.1.1 hb, hR.1.2.1.on hb, hR.1.2.2.on hb⟩ (fun _ _ h => h) hR.2 rfl)
      · have gg : us 12 = .bool true := hR.2 12 (done_at hdo 12 (by rfl))
        have s19 : b0.tmps.getD 19 undef = l := (hslot 14 19 (by rfl)).trans (hR.2 14 (done_at hdo 14 (by rfl)))
        have s21 : b0.tmps.getD 21 undef = l' := (hslot 16 21 (by rfl)).trans (hR.2 16 (done_at hdo 16 (by rfl)))
        clear hslot hoth hdo hcl hLi
        refine guard_on (j := 12) (want := true) (d := 17) (by rfl) (by rfl) gg ?_
        go_simp
        refine ((hf.out.2.2.1 wz hR.1.1)).mono ?_
        rintro e w' ⟨rfl, hb⟩
        exact hK _ _ (flat_mark ⟨below_more hR.1.1 hb, hR.1.2.1.on hb, hR.1.2.2.on hb⟩ (fun _ _ h => h) hR.2 rfl)
      · have gg : us 12 = .bool true := hR.2 12 (done_at hdo 12 (by rfl))
        have s19 : b0.tmps.getD 19 undef = l := (hslot 14 19 (by rfl)).trans (hR.2 14 (done_at hdo 14 (by rfl)))
        have s21 : b0.tmps.getD 21 undef = l' := (hslot 16 21 (by rfl)).trans (hR.2 16 (done_at hdo 16 (by rfl)))
        clear hslot hoth hdo hcl hLi
        refine guard_on (j := 12) (want := true) (d := 17) (by rfl) (by rfl) gg ?_
        go_simp
        refine ((hf.out.2.2.1 wz hR.1.1)).mono ?_
        rintro e w' ⟨rfl, hb⟩
        exact hK _ _ (flat_mark ⟨below_more hR.1.1 hb, hR.1.2.1.on hb, hR.1.2.2.on hb⟩ (fun _ _ h => h) hR.2 rfl)
    · intro b0 us wz L hslot hoth hLi hR hcl hdo K hK
      rcases HL.out with ⟨rfl, rfl, hf⟩ | ⟨rfl, rfl, hf⟩ | ⟨rfl, rfl, hf⟩ | ⟨rfl, rfl, hf⟩ | ⟨rfl, rfl, hf⟩
      · have s17 : b0.tmps.getD 17 undef = .bool false := (hslot 12 17 (by rfl)).trans (hR.2 12 (done_at hdo 12 (by rfl)))
        have s22 : b0.tmps.getD 22 undef = undef := (hslot 17 22 (by rfl)).trans (hR.2 17 (done_at hdo 17 (by rfl)))
        clear hslot hoth hdo hcl hLi
        refine guard_none (by rfl) ?_
        go_simp
        exact hK _ _ (flat_mark (hR.1) (fun _ _ h => h) hR.2 rfl)
      · have s17 : b0.tmps.getD 17 undef = .bool false := (hslot 12 17 (by rfl)).trans (hR.2 12 (done_at hdo 12 (by rfl)))
        have s22 : b0.tmps.getD 22 undef = undef := (hslot 17 22 (by rfl)).trans (hR.2 17 (done_at hdo 17 (by rfl)))
        clear hslot hoth hdo hcl hLi
        refine guard_none (by rfl) ?_
        go_simp
        exact hK _ _ (flat_mark (hR.1) (fun _ _ h => h) hR.2 rfl)
      · have s17 : b0.tmps.getD 17 undef = .bool true := (hslot 12 17 (by rfl)).trans (hR.2 12 (done_at hdo 12 (by rfl)))
        have s22 : b0.tmps.getD 22 undef = .bool false := (hslot 17 22 (by rfl)).trans (hR.2 17 (done_at hdo 17 (by rfl)))
        clear hslot hoth hdo hcl hLi
        refine guard_none (by rfl) ?_
        go_simp
        exact hK _ _ (flat_mark (hR.1) (fun _ _ h => h) hR.2 rfl)
      · have s17 : b0.tmps.getD 17 undef = .bool true := (hslot 12 17 (by rfl)).trans (hR.2 12 (done_at hdo 12 (by rfl)))
        have s22 : b0.tmps.getD 22 undef = .bool true := (hslot 17 22 (by rfl)).trans (hR.2 17 (done_at hdo 17 (by rfl)))
        clear hslot hoth hdo hcl hLi
        refine guard_none (by rfl) ?_
        go_simp
        exact hK _ _ (flat_mark (hR.1) (fun _ _ h => h) hR.2 rfl)
      · have s17 : b0.tmps.getD 17 undef = .bool true := (hslot 12 17 (by rfl)).trans (hR.2 12 (done_at hdo 12 (by rfl)))
        have s22 : b0.tmps.getD 22 undef = .bool true := (hslot 17 22 (by rfl)).trans (hR.2 17 (done_at hdo 17 (by rfl)))
        clear hslot hoth hdo hcl hLi
        refine guard_none (by rfl) ?_
        go_simp
        exact hK _ _ (flat_mark (hR.1) (fun _ _ h => h) hR.2 rfl)
    · intro b0 us wz L hslot hoth hLi hR hcl hdo K hK
      rcases HL.out with ⟨rfl, rfl, hf⟩ | ⟨rfl, rfl, hf⟩ | ⟨rfl, rfl, hf⟩ | ⟨rfl, rfl, hf⟩ | ⟨rfl, rfl, hf⟩
      · have s23 : b0.tmps.getD 23 undef = .bool false := (hslot 18 23 (by rfl)).trans (hR.2 18 (done_at hdo 18 (by rfl)))
        clear hslot hoth hdo hcl hLi
        refine guard_none (by rfl) ?_
        go_simp
        exact hK _ _ (flat_mark (hR.1) (fun _ _ h => h) hR.2 rfl)
      · have s23 : b0.tmps.getD 23 undef = .bool false := (hslot 18 23 (by rfl)).trans (hR.2 18 (done_at hdo 18 (by rfl)))
        clear hslot hoth hdo hcl hLi
        refine guard_none (by rfl) ?_
        go_simp
        exact hK _ _ (flat_mark (hR.1) (fun _ _ h => h) hR.2 rfl)
      · have s23 : b0.tmps.getD 23 undef = .bool false := (hslot 18 23 (by rfl)).trans (hR.2 18 (done_at hdo 18 (by rfl)))
        clear hslot hoth hdo hcl hLi
        refine guard_none (by rfl) ?_
        go_simp
        exact hK _ _ (flat_mark (hR.1) (fun _ _ h => h) hR.2 rfl)
      · have s23 : b0.tmps.getD 23 undef = .bool true := (hslot 18 23 (by rfl)).trans (hR.2 18 (done_at hdo 18 (by rfl)))
        clear hslot hoth hdo hcl hLi
        refine guard_none (by rfl) ?_
        go_simp
        exact hK _ _ (flat_mark (hR.1) (fun _ _ h => h) hR.2 rfl)
      · have s23 : b0.tmps.getD 23 undef = .bool true := (hslot 18 23 (by rfl)).trans (hR.2 18 (done_at hdo 18 (by rfl)))
        clear hslot hoth hdo hcl hLi
        refine guard_none (by rfl) ?_
        go_simp
        exact hK _ _ (flat_mark (hR.1) (fun _ _ h => h) hR.2 rfl)
    · intro b0 us wz L hslot hoth hLi hR hcl hdo K hK
      rcases HL.out with ⟨rfl, rfl, hf⟩ | ⟨rfl, rfl, hf⟩ | ⟨rfl, rfl, hf⟩ | ⟨rfl, rfl, hf⟩ | ⟨rfl, rfl, hf⟩
      · have gg : us 19 = .bool false := hR.2 19 (done_at hdo 19 (by rfl))
        refine guard_off (j := 19) (want := true) (d := 24) (by rfl) (by rfl) gg (by rfl) ?_
        exact hK undef _ (flat_mark (hR.1) (fun _ _ h => h) hR.2 rfl)
      · have gg : us 19 = .bool false := hR.2 19 (done_at hdo 19 (by rfl))
        refine guard_off (j := 19) (want := true) (d := 24) (by rfl) (by rfl) gg (by rfl) ?_
        exact hK undef _ (flat_mark (hR.1) (fun _ _ h => h) hR.2 rfl)
      · have gg : us 19 = .bool false := hR.2 19 (done_at hdo 19 (by rfl))
        refine guard_off (j := 19) (want := true) (d := 24) (by rfl) (by rfl) gg (by rfl) ?_
        exact hK undef _ (flat_mark (hR.1) (fun _ _ h => h) hR.2 rfl)
      · have gg : us 19 = .bool true := hR.2 19 (done_at hdo 19 (by rfl))
        have s2 : b0.tmps.getD 2 undef = .pointer (some ⟨w.heap.size, 0, none⟩) := hoth 2 (by rfl)
        clear hslot hoth hdo hcl hLi
        refine guard_on (j := 19) (want := true) (d := 24) (by rfl) (by rfl) gg ?_
        go_simp
        exact hK _ _ (flat_mark (hR.1) (fun _ _ h => h) hR.2 rfl)
      · have gg : us 19 = .bool true := hR.2 19 (done_at hdo 19 (by rfl))
        have s2 : b0.tmps.getD 2 undef = .pointer (some ⟨w.heap.size, 0, none⟩) := hoth 2 (by rfl)
        clear hslot hoth hdo hcl hLi
        refine guard_on (j := 19) (want := true) (d := 24) (by rfl) (by rfl) gg ?_
        go_simp
        exact hK _ _ (flat_mark (hR.1) (fun _ _ h => h) hR.2 rfl)
    · intro b0 us wz L hslot hoth hLi hR hcl hdo K hK
      rcases HL.out with ⟨rfl, rfl, hf⟩ | ⟨rfl, rfl, hf⟩ | ⟨rfl, rfl, hf⟩ | ⟨rfl, rfl, hf⟩ | ⟨rfl, rfl, hf⟩
      · have gg : us 19 = .bool false := hR.2 19 (done_at hdo 19 (by rfl))
        refine guard_off (j := 19) (want := true) (d := 24) (by rfl) (by rfl) gg (by rfl) ?_
        exact hK undef _ (flat_mark (hR.1) (fun _ _ h => h) hR.2 rfl)
      · have gg : us 19 = .bool false := hR.2 19 (done_at hdo 19 (by rfl))
        refine guard_off (j := 19) (want := true) (d := 24) (by rfl) (by rfl) gg (by rfl) ?_
        exact hK undef _ (flat_mark (hR.1) (fun _ _ h => h) hR.2 rfl)
      · have gg : us 19 = .bool false := hR.2 19 (done_at hdo 19 (by rfl))
        refine guard_off (j := 19) (want := true) (d := 24) (by rfl) (by rfl) gg (by rfl) ?_
        exact hK undef _ (flat_mark (hR.1) (fun _ _ h => h) hR.2 rfl)
      · have gg : us 19 = .bool true := hR.2 19 (done_at hdo 19 (by rfl))
        have s25 : b0.tmps.getD 25 undef = .pointer (some ⟨w.heap.size, 11, none⟩) := (hslot 20 25 (by rfl)).trans (hR.2 20 (done_at hdo 20 (by rfl)))
        have k11 := (hR.1.2.1).c11
        clear hslot hoth hdo hcl hLi
        refine guard_on (j := 19) (want := true) (d := 24) (by rfl) (by rfl) gg ?_
        go_simp
        exact hK _ _ (flat_mark (hR.1) (fun _ _ h => h) hR.2 rfl)
      · have gg : us 19 = .bool true := hR.2 19 (done_at hdo 19 (by rfl))
        have s25 : b0.tmps.getD 25 undef = .pointer (some ⟨w.heap.size, 11, none⟩) := (hslot 20 25 (by rfl)).trans (hR.2 20 (done_at hdo 20 (by rfl)))
        have k11 := (hR.1.2.1).c11
        clear hslot hoth hdo hcl hLi
        refine guard_on (j := 19) (want := true) (d := 24) (by rfl) (by rfl) gg ?_
        go_simp
        exact hK _ _ (flat_mark (hR.1) (fun _ _ h => h) hR.2 rfl)
    · intro b0 us wz L hslot hoth hLi hR hcl hdo K hK
      rcases HL.out with ⟨rfl, rfl, hf⟩ | ⟨rfl, rfl, hf⟩ | ⟨rfl, rfl, hf⟩ | ⟨rfl, rfl, hf⟩ | ⟨rfl, rfl, hf⟩
      · have gg : us 19 = .bool false := hR.2 19 (done_at hdo 19 (by rfl))
        refine guard_off (j := 19) (want := true) (d := 24) (by rfl) (by rfl) gg (by rfl) ?_
        exact hK undef _ (flat_mark (hR.1) (fun _ _ h => h) hR.2 rfl)
      · have gg : us 19 = .bool false := hR.2 19 (done_at hdo 19 (by rfl))
        refine guard_off (j := 19) (want := true) (d := 24) (by rfl) (by rfl) gg (by rfl) ?_
        exact hK undef _ (flat_mark (hR.1) (fun _ _ h => h) hR.2 rfl)
      · have gg : us 19 = .bool false := hR.2 19 (done_at hdo 19 (by rfl))
        refine guard_off (j := 19) (want := true) (d := 24) (by rfl) (by rfl) gg (by rfl) ?_
        exact hK undef _ (flat_mark (hR.1) (fun _ _ h => h) hR.2 rfl)
      · have gg : us 19 = .bool true := hR.2 19 (done_at hdo 19 (by rfl))
        have s3 : b0.tmps.getD 3 undef = .pointer (some ⟨w.heap.size + 1, 0, none⟩) := hoth 3 (by rfl)
        clear hslot hoth hdo hcl hLi
        refine guard_on (j := 19) (want := true) (d := 24) (by rfl) (by rfl) gg ?_
        go_simp
        exact hK _ _ (flat_mark (hR.1) (fun _ _ h => h) hR.2 rfl)
      · have gg : us 19 = .bool true := hR.2 19 (done_at hdo 19 (by rfl))
        have s3 : b0.tmps.getD 3 undef = .pointer (some ⟨w.heap.size + 1, 0, none⟩) := hoth 3 (by rfl)
        clear hslot hoth hdo hcl hLi
        refine guard_on (j := 19) (want := true) (d := 24) (by rfl) (by rfl) gg ?_
        go_simp
        exact hK _ _ (flat_mark (hR.1) (fun _ _ h => h) hR.2 rfl)
    · intro b0 us wz L hslot hoth hLi hR hcl hdo K hK
      rcases HL.out with ⟨rfl, rfl, hf⟩ | ⟨rfl, rfl, hf⟩ | ⟨rfl, rfl, hf⟩ | ⟨rfl, rfl, hf⟩ | ⟨rfl, rfl, hf⟩
      · have gg : us 19 = .bool false := hR.2 19 (done_at hdo 19 (by rfl))
        refine guard_off (j := 19) (want := true) (d := 24) (by rfl) (by rfl) gg (by rfl) ?_
        exact hK undef _ (flat_mark (hR.1) (fun _ _ h => h) hR.2 rfl)
      · have gg : us 19 = .bool false := hR.2 19 (done_at hdo 19 (by rfl))
        refine guard_off (j := 19) (want := true) (d := 24) (by rfl) (by rfl) gg (by rfl) ?_
        exact hK undef _ (flat_mark (hR.1) (fun _ _ h => h) hR.2 rfl)
      · have gg : us 19 = .bool false := hR.2 19 (done_at hdo 19 (by rfl))
        refine guard_off (j := 19) (want := true) (d := 24) (by rfl) (by rfl) gg (by rfl) ?_
        exact hK undef _ (flat_mark (hR.1) (fun _ _ h => h) hR.2 rfl)
      · have gg : us 19 = .bool true := hR.2 19 (done_at hdo 19 (by rfl))
        have s27 : b0.tmps.getD 27 undef = .pointer (some ⟨w.heap.size + 1, 11, none⟩) := (hslot 22 27 (by rfl)).trans (hR.2 22 (done_at hdo 22 (by rfl)))
        have k11 := (hR.1.2.2).c11
        clear hslot hoth hdo hcl hLi
        refine guard_on (j := 19) (want := true) (d := 24) (by rfl) (by rfl) gg ?_
        go_simp
        exact hK _ _ (flat_mark (hR.1) (fun _ _ h => h) hR.2 rfl)
      · have gg : us 19 = .bool true := hR.2 19 (done_at hdo 19 (by rfl))
        have s27 : b0.tmps.getD 27 undef = .pointer (some ⟨w.heap.size + 1, 11, none⟩) := (hslot 22 27 (by rfl)).trans (hR.2 22 (done_at hdo 22 (by rfl)))
        have k11 := (hR.1.2.2).c11
        clear hslot hoth hdo hcl hLi
        refine guard_on (j := 19) (want := true) (d := 24) (by rfl) (by rfl) gg ?_
        go_simp
        exact hK _ _ (flat_mark (hR.1) (fun _ _ h => h) hR.2 rfl)
    · intro b0 us wz L hslot hoth hLi hR hcl hdo K hK
      rcases HL.out with ⟨rfl, rfl, hf⟩ | ⟨rfl, rfl, hf⟩ | ⟨rfl, rfl, hf⟩ | ⟨rfl, rfl, hf⟩ | ⟨rfl, rfl, hf⟩
      · have gg : us 19 = .bool false := hR.2 19 (done_at hdo 19 (by rfl))
        refine guard_off (j := 19) (want := true) (d := 24) (by rfl) (by rfl) gg (by rfl) ?_
        exact hK undef _ (flat_mark (hR.1) (fun _ _ h => h) hR.2 rfl)
      · have gg : us 19 = .bool false := hR.2 19 (done_at hdo 19 (by rfl))
        refine guard_off (j := 19) (want := true) (d := 24) (by rfl) (by rfl) gg (by rfl) ?_
        exact hK undef _ (flat_mark (hR.1) (fun _ _ h => h) hR.2 rfl)
      · have gg : us 19 = .bool false := hR.2 19 (done_at hdo 19 (by rfl))
        refine guard_off (j := 19) (want := true) (d := 24) (by rfl) (by rfl) gg (by rfl) ?_
        exact hK undef _ (flat_mark (hR.1) (fun _ _ h => h) hR.2 rfl)
      · have gg : us 19 = .bool true := hR.2 19 (done_at hdo 19 (by rfl))
        have s26 : b0.tmps.getD 26 undef = d := (hslot 21 26 (by rfl)).trans (hR.2 21 (done_at hdo 21 (by rfl)))
        have s28 : b0.tmps.getD 28 undef = d' := (hslot 23 28 (by rfl)).trans (hR.2 23 (done_at hdo 23 (by rfl)))
        clear hslot hoth hdo hcl hLi
        refine guard_on (j := 19) (want := true) (d := 24) (by rfl) (by rfl) gg ?_
        go_simp
        refine ((hf.out.2.2.2 wz hR.1.1)).mono ?_
        rintro e w' ⟨rfl, hb⟩
        exact hK _ _ (flat_mark ⟨below_more hR.1.1 hb, hR.1.2.1.on hb, hR.1.2.2.on hb⟩ (fun _ _ h => h) hR.2 rfl)
      · have gg : us 19 = .bool true := hR.2 19 (done_at hdo 19 (by rfl))
        have s26 : b0.tmps.getD 26 undef = d := (hslot 21 26 (by rfl)).trans (hR.2 21 (done_at hdo 21 (by rfl)))
        have s28 : b0.tmps.getD 28 undef = d' := (hslot 23 28 (by rfl)).trans (hR.2 23 (done_at hdo 23 (by rfl)))
        clear hslot hoth hdo hcl hLi
        refine guard_on (j := 19) (want := true) (d := 24) (by rfl) (by rfl) gg ?_
        go_simp
        refine ((hf.out.2.2.2.1 wz hR.1.1)).mono ?_
        rintro e w' ⟨rfl, hb⟩
        exact hK _ _ (flat_mark ⟨below_more hR.1.1 hb, hR.1.2.1.on hb, hR.1.2.2.on hb⟩ (fun _ _ h => h) hR.2 rfl)
    · intro b0 us wz L hslot hoth hLi hR hcl hdo K hK
      rcases HL.out with ⟨rfl, rfl, hf⟩ | ⟨rfl, rfl, hf⟩ | ⟨rfl, rfl, hf⟩ | ⟨rfl, rfl, hf⟩ | ⟨rfl, rfl, hf⟩
      · have s24 : b0.tmps.getD 24 undef = .bool false := (hslot 19 24 (by rfl)).trans (hR.2 19 (done_at hdo 19 (by rfl)))
        have s29 : b0.tmps.getD 29 undef = undef := (hslot 24 29 (by rfl)).trans (hR.2 24 (done_at hdo 24 (by rfl)))
        clear hslot hoth hdo hcl hLi
        refine guard_none (by rfl) ?_
        go_simp
        exact hK _ _ (flat_mark (hR.1) (fun _ _ h => h) hR.2 rfl)
      · have s24 : b0.tmps.getD 24 undef = .bool false := (hslot 19 24 (by rfl)).trans (hR.2 19 (done_at hdo 19 (by rfl)))
        have s29 : b0.tmps.getD 29 undef = undef := (hslot 24 29 (by rfl)).trans (hR.2 24 (done_at hdo 24 (by rfl)))
        clear hslot hoth hdo hcl hLi
        refine guard_none (by rfl) ?_
        go_simp
        exact hK _ _ (flat_mark (hR.1) (fun _ _ h => h) hR.2 rfl)
      · have s24 : b0.tmps.getD 24 undef = .bool false := (hslot 19 24 (by rfl)).trans (hR.2 19 (done_at hdo 19 (by rfl)))
        have s29 : b0.tmps.getD 29 undef = undef := (hslot 24 29 (by rfl)).trans (hR.2 24 (done_at hdo 24 (by rfl)))
        clear hslot hoth hdo hcl hLi
        refine guard_none (by rfl) ?_
        go_simp
        exact hK _ _ (flat_mark (hR.1) (fun _ _ h => h) hR.2 rfl)
      · have s24 : b0.tmps.getD 24 undef = .bool true := (hslot 19 24 (by rfl)).trans (hR.2 19 (done_at hdo 19 (by rfl)))
        have s29 : b0.tmps.getD 29 undef = .bool false := (hslot 24 29 (by rfl)).trans (hR.2 24 (done_at hdo 24 (by rfl)))
        clear hslot hoth hdo hcl hLi
        refine guard_none (by rfl) ?_
        go_simp
        exact hK _ _ (flat_mark (hR.1) (fun _ _ h => h) hR.2 rfl)
      · have s24 : b0.tmps.getD 24 undef = .bool true := (hslot 19 24 (by rfl)).trans (hR.2 19 (done_at hdo 19 (by rfl)))
        have s29 : b0.tmps.getD 29 undef = .bool true := (hslot 24 29 (by rfl)).trans (hR.2 24 (done_at hdo 24 (by rfl)))
        clear hslot hoth hdo hcl hLi
        refine guard_none (by rfl) ?_
        go_simp
        exact hK _ _ (flat_mark (hR.1) (fun _ _ h => h) hR.2 rfl)
    · intro b0 us wz L hslot hoth hLi hR hcl hdo K hK
      rcases HL.out with ⟨rfl, rfl, hf⟩ | ⟨rfl, rfl, hf⟩ | ⟨rfl, rfl, hf⟩ | ⟨rfl, rfl, hf⟩ | ⟨rfl, rfl, hf⟩
      · have s30 : b0.tmps.getD 30 undef = .bool false := (hslot 25 30 (by rfl)).trans (hR.2 25 (done_at hdo 25 (by rfl)))
        clear hslot hoth hdo hcl hLi
        refine guard_none (by rfl) ?_
        go_simp
        exact hK _ _ (flat_mark (hR.1) (fun _ _ h => h) hR.2 rfl)
      · have s30 : b0.tmps.getD 30 undef = .bool false := (hslot 25 30 (by rfl)).trans (hR.2 25 (done_at hdo 25 (by rfl)))
        clear hslot hoth hdo hcl hLi
        refine guard_none (by rfl) ?_
        go_simp
        exact hK _ _ (flat_mark (hR.1) (fun _ _ h => h) hR.2 rfl)
      · have s30 : b0.tmps.getD 30 undef = .bool false := (hslot 25 30 (by rfl)).trans (hR.2 25 (done_at hdo 25 (by rfl)))
        clear hslot hoth hdo hcl hLi
        refine guard_none (by rfl) ?_
        go_simp
        exact hK _ _ (flat_mark (hR.1) (fun _ _ h => h) hR.2 rfl)
      · have s30 : b0.tmps.getD 30 undef = .bool false := (hslot 25 30 (by rfl)).trans (hR.2 25 (done_at hdo 25 (by rfl)))
        clear hslot hoth hdo hcl hLi
        refine guard_none (by rfl) ?_
        go_simp
        exact hK _ _ (flat_mark (hR.1) (fun _ _ h => h) hR.2 rfl)
      · have s30 : b0.tmps.getD 30 undef = .bool true := (hslot 25 30 (by rfl)).trans (hR.2 25 (done_at hdo 25 (by rfl)))
        clear hslot hoth hdo hcl hLi
        refine guard_none (by rfl) ?_
        go_simp
        exact hK _ _ (flat_mark (hR.1) (fun _ _ h => h) hR.2 rfl)
    · intro b0 us wz L hslot hoth hLi hR hcl hdo K hK
      rcases HL.out with ⟨rfl, rfl, hf⟩ | ⟨rfl, rfl, hf⟩ | ⟨rfl, rfl, hf⟩ | ⟨rfl, rfl, hf⟩ | ⟨rfl, rfl, hf⟩
      · have gg : us 26 = .bool false := hR.2 26 (done_at hdo 26 (by rfl))
        refine guard_off (j := 26) (want := true) (d := 31) (by rfl) (by rfl) gg (by rfl) ?_
        exact hK undef _ (flat_mark (hR.1) (fun _ _ h => h) hR.2 rfl)
      · have gg : us 26 = .bool false := hR.2 26 (done_at hdo 26 (by rfl))
        refine guard_off (j := 26) (want := true) (d := 31) (by rfl) (by rfl) gg (by rfl) ?_
        exact hK undef _ (flat_mark (hR.1) (fun _ _ h => h) hR.2 rfl)
      · have gg : us 26 = .bool false := hR.2 26 (done_at hdo 26 (by rfl))
        refine guard_off (j := 26) (want := true) (d := 31) (by rfl) (by rfl) gg (by rfl) ?_
        exact hK undef _ (flat_mark (hR.1) (fun _ _ h => h) hR.2 rfl)
      · have gg : us 26 = .bool false := hR.2 26 (done_at hdo 26 (by rfl))
        refine guard_off (j := 26) (want := true) (d := 31) (by rfl) (by rfl) gg (by rfl) ?_
        exact hK undef _ (flat_mark (hR.1) (fun _ _ h => h) hR.2 rfl)
      · have gg : us 26 = .bool true := hR.2 26 (done_at hdo 26 (by rfl))
        have s2 : b0.tmps.getD 2 undef = .pointer (some ⟨w.heap.size, 0, none⟩) := hoth 2 (by rfl)
        clear hslot hoth hdo hcl hLi
        refine guard_on (j := 26) (want := true) (d := 31) (by rfl) (by rfl) gg ?_
        go_simp
        exact hK _ _ (flat_mark (hR.1) (fun _ _ h => h) hR.2 rfl)
    · intro b0 us wz L hslot hoth hLi hR hcl hdo K hK
      rcases HL.out with ⟨rfl, rfl, hf⟩ | ⟨rfl, rfl, hf⟩ | ⟨rfl, rfl, hf⟩ | ⟨rfl, rfl, hf⟩ | ⟨rfl, rfl, hf⟩
      · have gg : us 26 = .bool false := hR.2 26 (done_at hdo 26 (by rfl))
        refine guard_off (j := 26) (want := true) (d := 31) (by rfl) (by rfl) gg (by rfl) ?_
        exact hK undef _ (flat_mark (hR.1) (fun _ _ h => h) hR.2 rfl)
      · have gg : us 26 = .bool false := hR.2 26 (done_at hdo 26 (by rfl))
        refine guard_off (j := 26) (want := true) (d := 31) (by rfl) (by rfl) gg (by rfl) ?_
        exact hK undef _ (flat_mark (hR.1) (fun _ _ h => h) hR.2 rfl)
      · have gg : us 26 = .bool false := hR.2 26 (done_at hdo 26 (by rfl))
        refine guard_off (j := 26) (want := true) (d := 31) (by rfl) (by rfl) gg (by rfl) ?_
        exact hK undef _ (flat_mark (hR.1) (fun _ _ h => h) hR.2 rfl)
      · have gg : us 26 = .bool false := hR.2 26 (done_at hdo 26 (by rfl))
        refine guard_off (j := 26) (want := true) (d := 31) (by rfl) (by rfl) gg (by rfl) ?_
        exact hK undef _ (flat_mark (hR.1) (fun _ _ h => h) hR.2 rfl)
      · have gg : us 26 = .bool true := hR.2 26 (done_at hdo 26 (by rfl))
        have s32 : b0.tmps.getD 32 undef = .pointer (some ⟨w.heap.size, 12, none⟩) := (hslot 27 32 (by rfl)).trans (hR.2 27 (done_at hdo 27 (by rfl)))
        have k12 := (hR.1.2.1).c12
        clear hslot hoth hdo hcl hLi
        refine guard_on (j := 26) (want := true) (d := 31) (by rfl) (by rfl) gg ?_
        go_simp
        exact hK _ _ (flat_mark (hR.1) (fun _ _ h => h) hR.2 rfl)
    · intro b0 us wz L hslot hoth hLi hR hcl hdo K hK
      rcases HL.out with ⟨rfl, rfl, hf⟩ | ⟨rfl, rfl, hf⟩ | ⟨rfl, rfl, hf⟩ | ⟨rfl, rfl, hf⟩ | ⟨rfl, rfl, hf⟩
      · have gg : us 26 = .bool false := hR.2 26 (done_at hdo 26 (by rfl))
        refine guard_off (j := 26) (want := true) (d := 31) (by rfl) (by rfl) gg (by rfl) ?_
        exact hK undef _ (flat_mark (hR.1) (fun _ _ h => h) hR.2 rfl)
      · have gg : us 26 = .bool false := hR.2 26 (done_at hdo 26 (by rfl))
        refine guard_off (j := 26) (want := true) (d := 31) (by rfl) (by rfl) gg (by rfl) ?_
        exact hK undef _ (flat_mark (hR.1) (fun _ _ h => h) hR.2 rfl)
      · have gg : us 26 = .bool false := hR.2 26 (done_at hdo 26 (by rfl))
        refine guard_off (j := 26) (want := true) (d := 31) (by rfl) (by rfl) gg (by rfl) ?_
        exact hK undef _ (flat_mark (hR.1) (fun _ _ h => h) hR.2 rfl)
      · have gg : us 26 = .bool false := hR.2 26 (done_at hdo 26 (by rfl))
        refine guard_off (j := 26) (want := true) (d := 31) (by rfl) (by rfl) gg (by rfl) ?_
        exact hK undef _ (flat_mark (hR.1) (fun _ _ h => h) hR.2 rfl)
      · have gg : us 26 = .bool true := hR.2 26 (done_at hdo 26 (by rfl))
        have s3 : b0.tmps.getD 3 undef = .pointer (some ⟨w.heap.size + 1, 0, none⟩) := hoth 3 (by rfl)
        clear hslot hoth hdo hcl hLi
        refine guard_on (j := 26) (want := true) (d := 31) (by rfl) (by rfl) gg ?_
        go_simp
        exact hK _ _ (flat_mark (hR.1) (fun _ _ h => h) hR.2 rfl)
    · intro b0 us wz L hslot hoth hLi hR hcl hdo K hK
      rcases HL.out with ⟨rfl, rfl, hf⟩ | ⟨rfl, rfl, hf⟩ | ⟨rfl, rfl, hf⟩ | ⟨rfl, rfl, hf⟩ | ⟨rfl, rfl, hf⟩
      · have gg : us 26 = .bool false := hR.2 26 (done_at hdo 26 (by rfl))
        refine guard_off (j := 26) (want := true) (d := 31) (by rfl) (by rfl) gg (by rfl) ?_
        exact hK undef _ (flat_mark (hR.1) (fun _ _ h => h) hR.2 rfl)
      · have gg : us 26 = .bool false := hR.2 26 (done_at hdo 26 (by rfl))
        refine guard_off (j := 26) (want := true) (d := 31) (by rfl) (by rfl) gg (by rfl) ?_
        exact hK undef _ (flat_mark (hR.1) (fun _ _ h => h) hR.2 rfl)
      · have gg : us 26 = .bool false := hR.2 26 (done_at hdo 26 (by rfl))
        refine guard_off (j := 26) (want := true) (d := 31) (by rfl) (by rfl) gg (by rfl) ?_
        exact hK undef _ (flat_mark (hR.1) (fun _ _ h => h) hR.2 rfl)
      · have gg : us 26 = .bool false := hR.2 26 (done_at hdo 26 (by rfl))
        refine guard_off (j := 26) (want := true) (d := 31) (by rfl) (by rfl) gg (by rfl) ?_
        exact hK undef _ (flat_mark (hR.1) (fun _ _ h => h) hR.2 rfl)
      · have gg : us 26 = .bool true := hR.2 26 (done_at hdo 26 (by rfl))
        have s34 : b0.tmps.getD 34 undef = .pointer (some ⟨w.heap.size + 1, 12, none⟩) := (hslot 29 34 (by rfl)).trans (hR.2 29 (done_at hdo 29 (by rfl)))
        have k12 := (hR.1.2.2).c12
        clear hslot hoth hdo hcl hLi
        refine guard_on (j := 26) (want := true) (d := 31) (by rfl) (by rfl) gg ?_
        go_simp
        exact hK _ _ (flat_mark (hR.1) (fun _ _ h => h) hR.2 rfl)
    · intro b0 us wz L hslot hoth hLi hR hcl hdo K hK
      rcases HL.out with ⟨rfl, rfl, hf⟩ | ⟨rfl, rfl, hf⟩ | ⟨rfl, rfl, hf⟩ | ⟨rfl, rfl, hf⟩ | ⟨rfl, rfl, hf⟩
      · have gg : us 26 = .bool false := hR.2 26 (done_at hdo 26 (by rfl))
        refine guard_off (j := 26) (want := true) (d := 31) (by rfl) (by rfl) gg (by rfl) ?_
        exact hK undef _ (flat_mark (hR.1) (fun _ _ h => h) hR.2 rfl)
      · have gg : us 26 = .bool false := hR.2 26 (done_at hdo 26 (by rfl))
        refine guard_off (j := 26) (want := true) (d := 31) (by rfl) (by rfl) gg (by rfl) ?_
        exact hK undef _ (flat_mark (hR.1) (fun _ _ h => h) hR.2 rfl)
      · have gg : us 26 = .bool false := hR.2 26 (done_at hdo 26 (by rfl))
        refine guard_off (j := 26) (want := true) (d := 31) (by rfl) (by rfl) gg (by rfl) ?_
        exact hK undef _ (flat_mark (hR.1) (fun _ _ h => h) hR.2 rfl)
      · have gg : us 26 = .bool false := hR.2 26 (done_at hdo 26 (by rfl))
        refine guard_off (j := 26) (want := true) (d := 31) (by rfl) (by rfl) gg (by rfl) ?_
        exact hK undef _ (flat_mark (hR.1) (fun _ _ h => h) hR.2 rfl)
      · have gg : us 26 = .bool true := hR.2 26 (done_at hdo 26 (by rfl))
        have s33 : b0.tmps.getD 33 undef = m := (hslot 28 33 (by rfl)).trans (hR.2 28 (done_at hdo 28 (by rfl)))
        have s35 : b0.tmps.getD 35 undef = m' := (hslot 30 35 (by rfl)).trans (hR.2 30 (done_at hdo 30 (by rfl)))
        clear hslot hoth hdo hcl hLi
        refine guard_on (j := 26) (want := true) (d := 31) (by rfl) (by rfl) gg ?_
        go_simp
        refine ((hf.out.2.2.2.2 wz hR.1.1)).mono ?_
        rintro e w' ⟨rfl, hb⟩
        exact hK _ _ (flat_mark ⟨below_more hR.1.1 hb, hR.1.2.1.on hb, hR.1.2.2.on hb⟩ (fun _ _ h => h) hR.2 rfl)
    · intro b0 us wz L hslot hoth hLi hR hcl hdo K hK
      rcases HL.out with ⟨rfl, rfl, hf⟩ | ⟨rfl, rfl, hf⟩ | ⟨rfl, rfl, hf⟩ | ⟨rfl, rfl, hf⟩ | ⟨rfl, rfl, hf⟩
      · have s31 : b0.tmps.getD 31 undef = .bool false := (hslot 26 31 (by rfl)).trans (hR.2 26 (done_at hdo 26 (by rfl)))
        have s36 : b0.tmps.getD 36 undef = undef := (hslot 31 36 (by rfl)).trans (hR.2 31 (done_at hdo 31 (by rfl)))
        clear hslot hoth hdo hcl hLi
        refine guard_none (by rfl) ?_
        go_simp
        exact hK _ _ (flat_mark (hR.1) (fun _ _ h => h) hR.2 rfl)
      · have s31 : b0.tmps.getD 31 undef = .bool false := (hslot 26 31 (by rfl)).trans (hR.2 26 (done_at hdo 26 (by rfl)))
        have s36 : b0.tmps.getD 36 undef = undef := (hslot 31 36 (by rfl)).trans (hR.2 31 (done_at hdo 31 (by rfl)))
        clear hslot hoth hdo hcl hLi
        refine guard_none (by rfl) ?_
        go_simp
        exact hK _ _ (flat_mark (hR.1) (fun _ _ h => h) hR.2 rfl)
      · have s31 : b0.tmps.getD 31 undef = .bool false := (hslot 26 31 (by rfl)).trans (hR.2 26 (done_at hdo 26 (by rfl)))
        have s36 : b0.tmps.getD 36 undef = undef := (hslot 31 36 (by rfl)).trans (hR.2 31 (done_at hdo 31 (by rfl)))
        clear hslot hoth hdo hcl hLi
        refine guard_none (by rfl) ?_
        go_simp
        exact hK _ _ (flat_mark (hR.1) (fun _ _ h => h) hR.2 rfl)
      · have s31 : b0.tmps.getD 31 undef = .bool false := (hslot 26 31 (by rfl)).trans (hR.2 26 (done_at hdo 26 (by rfl)))
        have s36 : b0.tmps.getD 36 undef = undef := (hslot 31 36 (by rfl)).trans (hR.2 31 (done_at hdo 31 (by rfl)))
        clear hslot hoth hdo hcl hLi
        refine guard_none (by rfl) ?_
        go_simp
        exact hK _ _ (flat_mark (hR.1) (fun _ _ h => h) hR.2 rfl)
      · have s31 : b0.tmps.getD 31 undef = .bool true := (hslot 26 31 (by rfl)).trans (hR.2 26 (done_at hdo 26 (by rfl)))
        have s36 : b0.tmps.getD 36 undef = .bool q := (hslot 31 36 (by rfl)).trans (hR.2 31 (done_at hdo 31 (by rfl)))
        clear hslot hoth hdo hcl hLi
        refine guard_none (by rfl) ?_
        go_simp
        exact hK _ _ (flat_mark (hR.1) (fun _ _ h => h) hR.2 rfl)
    · intro b0 us wz L hslot hoth hLi hR hcl hdo K hK
      rcases HL.out with ⟨rfl, rfl, hf⟩ | ⟨rfl, rfl, hf⟩ | ⟨rfl, rfl, hf⟩ | ⟨rfl, rfl, hf⟩ | ⟨rfl, rfl, hf⟩
      · have s37 : b0.tmps.getD 37 undef = .bool false := (hslot 32 37 (by rfl)).trans (hR.2 32 (done_at hdo 32 (by rfl)))
        clear hslot hoth hdo hcl hLi
        refine guard_none (by rfl) ?_
        go_simp
        exact hK _ _ (flat_mark (hR.1) (fun _ _ h => h) hR.2 rfl)
      · have s37 : b0.tmps.getD 37 undef = .bool false := (hslot 32 37 (by rfl)).trans (hR.2 32 (done_at hdo 32 (by rfl)))
        clear hslot hoth hdo hcl hLi
        refine guard_none (by rfl) ?_
        go_simp
        exact hK _ _ (flat_mark (hR.1) (fun _ _ h => h) hR.2 rfl)
      · have s37 : b0.tmps.getD 37 undef = .bool false := (hslot 32 37 (by rfl)).trans (hR.2 32 (done_at hdo 32 (by rfl)))
        clear hslot hoth hdo hcl hLi
        refine guard_none (by rfl) ?_
        go_simp
        exact hK _ _ (flat_mark (hR.1) (fun _ _ h => h) hR.2 rfl)
      · have s37 : b0.tmps.getD 37 undef = .bool false := (hslot 32 37 (by rfl)).trans (hR.2 32 (done_at hdo 32 (by rfl)))
        clear hslot hoth hdo hcl hLi
        refine guard_none (by rfl) ?_
        go_simp
        exact hK _ _ (flat_mark (hR.1) (fun _ _ h => h) hR.2 rfl)
      · have s37 : b0.tmps.getD 37 undef = .bool q := (hslot 32 37 (by rfl)).trans (hR.2 32 (done_at hdo 32 (by rfl)))
        clear hslot hoth hdo hcl hLi
        refine guard_none (by rfl) ?_
        go_simp
        exact hK _ _ (flat_mark (hR.1) (fun _ _ h => h) hR.2 rfl)
  · intro us wn L hall hR a' ha'
    have g33 : us 33 = .bool r := by
      have := hR.2 33 (hall 33 (by decide))
      rcases HL.out with ⟨rfl, rfl, hf⟩ | ⟨rfl, rfl, hf⟩ | ⟨rfl, rfl, hf⟩ | ⟨rfl, rfl, hf⟩ | ⟨rfl, rfl, hf⟩
      all_goals exact this
    have HB := hid_of hR.1
    clear hR hall
    simp only [putAll, g33] at ha'
    subst ha'
    go_frame
    clear HL CF CG HB0 HA0 HC0
    go_wp2
    go_ret
    exact ⟨rfl, HB.out.1⟩
theorem sameObj_any (a b : Ob) (l d m l' d' m' : Value) (w : World) (hx : Lists w l d m a) (hy : Lists w l' d' m' b) (hn : obN a ≤ 1048576) :
    Calls Try.prog 58 #[obV a l d m, obV b l' d' m'] w fun e w' => e = .returned (.bool (sameO a b)) ∧ Below w.heap.size w w' := by
  unfold obN at hn
  have CL : ∀ w', Below w.heap.size w w' → _ := fun w' (hb : Below w.heap.size w w') => eqInts_any l l' a.ls b.ls w' (hx.ls.on hb) (hy.ls.on hb) (by omega)
  have CD : ∀ w', Below w.heap.size w w' → _ := fun w' (hb : Below w.heap.size w w') => eqInts_any d d' a.ds b.ds w' (hx.ds.on hb) (hy.ds.on hb) (by omega)
  have CM : ∀ w', Below w.heap.size w w' → _ := fun w' (hb : Below w.heap.size w w') => eqMsgs_any m m' a.qs b.qs w' (hx.qs.on hb) (hy.qs.on hb) (by omega)
  unfold sameO
  cases hF : sameF a b with
  | false => exact sameObj_go a b l d m l' d' m' w _ false (.inl ⟨rfl, hF⟩)
  | true =>
    cases hM : (a.mark == b.mark) with
    | false => exact sameObj_go a b l d m l' d' m' w _ false (.inr (.inl ⟨rfl, hF, hM⟩))
    | true =>
      cases hL : sameInts a.ls b.ls with
      | false => rw [hL] at CL; exact sameObj_go a b l d m l' d' m' w _ false (.inr (.inr (.inl ⟨rfl, hF, hM, CL⟩)))
      | true =>
        rw [hL] at CL
        cases hD : sameInts a.ds b.ds with
        | false => rw [hD] at CD; exact sameObj_go a b l d m l' d' m' w _ false (.inr (.inr (.inr (.inl ⟨rfl, hF, hM, CL, CD⟩))))
        | true => rw [hD] at CD; exact sameObj_go a b l d m l' d' m' w _ (sameMsgs a.qs b.qs) (.inr (.inr (.inr (.inr ⟨rfl, hF, hM, CL, CD, CM⟩))))
end Go.Proofs.Ytokicnopfmokaaa
