/-
  FlowsFor and Needs of the model, whatever their arguments are.
-/
import Derived.Test.YtbahokkofidmeaaFlow
import Derived.Test.YtbahokkofidmeaaOwnR
namespace Go.Proofs.Ytbahokkofidmeaa
open Go.RowKit Go.Maps
set_option linter.unusedVariables false

theorem own_on {w w' : World} {lo : Nat} {v : Value} {n : Nat} {xs : List Value} (h : w.ownsRow lo 3 1 v n xs) (hb : Below w.heap.size w w') : w'.ownsRow lo 3 1 v n xs := own_kept h fun k o n c _ _ ho => keep ho hb

set_option maxHeartbeats 400000 in
theorem l4Has_any (v : Value) (xs : List Int) (x : Int) (w : World) (hx : IsInts w v xs) (hn : xs.length ≤ 1048576) :
    Calls Try.prog 41 #[v, .int .i64 x] w fun e w' => e = .returned (.bool (xs.contains x)) ∧ w' = w := by
  obtain ⟨a, cap, rfl, hcap, hx⟩ := hx
  have HX : Hid (∀ i, i < xs.length → ∃ p, a = some p ∧ w.cell? (p.add i) = some (.int .i64 (xs.getD i 0))) := hx
  obtain ⟨b, hb⟩ : ∃ b, b = xs.contains x := ⟨_, rfl⟩
  rw [← hb]
  have HB : Hid (b = xs.contains x) := hb
  clear hx hb
  go_enter Try.func41, Try.ntmps41
  go_wp2
  go_loop [5] (fun i => ∃ k : Nat, k ≤ xs.length ∧ i = .int .i64 k ∧ Hid (x ∉ xs.take k)) (fun i => xs.length - (intOf i).toNat)
  case atStart => exact ⟨0, Nat.zero_le _, rfl, by show _ ∉ _; simp⟩
  case round =>
    obtain ⟨k, hk, rfl, hall⟩ := hrel
    by_cases hlt : k < xs.length
    · obtain ⟨p, rfl, hc⟩ := HX.out k hlt
      by_cases he : xs.getD k 0 = x
      · have H1 : Hid (xs.contains x = true) := by
          show _ = true
          rw [List.contains_iff_mem, ← he]
          simp [List.getD, hlt]
        rw [he] at hc
        clear hall he
        go_wp2
        go_ret
        exact ⟨by rw [HB.out, H1.out]; rfl, rfl⟩
      · have H1 : Hid (x ∉ xs.take (k + 1)) := by
          show _ ∉ _
          have : xs.take (k + 1) = xs.take k ++ [xs.getD k 0] := by rw [List.take_add_one, List.getElem?_eq_getElem hlt]; simp [hlt]
          rw [this, List.mem_append, List.mem_singleton]
          exact fun h => h.elim hall.out (fun h => he h.symm)
        have hne : (xs.getD k 0 == x) = false := by simpa using he
        obtain ⟨y, hy⟩ : ∃ y, y = xs.getD k 0 := ⟨_, rfl⟩
        rw [← hy] at hc he hne
        clear hy hall
        go_wp2
        exact ⟨⟨k + 1, by omega, by go_num, H1⟩, by simp [intOf]; omega⟩
    · obtain rfl : k = xs.length := by omega
      have H1 : Hid (xs.contains x = false) := by
        have := hall.out
        rw [List.take_length] at this
        show _ = false
        simpa using this
      clear hall
      go_wp2
      go_ret
      exact ⟨by rw [HB.out, H1.out]; rfl, rfl⟩

set_option maxHeartbeats 2000000 in
theorem specFlowsFor_no (o v u : Value) (own xs ys : List Int) (w : World) (ho : IsInts w o own) (hx : IsInts w v xs) (hy : IsInts w u ys) (hn : own.length ≤ 1048576) (hn1 : xs.length ≤ 1048576) (hn2 : ys.length ≤ 1048576) (h : (ownOk own && labelOk xs && labelOk ys) = false) :
    Calls Try.prog 13 #[o, .agg #[v], .agg #[u]] w fun e w' => e = .returned (.bool false) ∧ Below w.heap.size w w' := by
  have B0 := Behind.start w v u
  have c0 := specOwnOk_any o own (boxed w v u) (ho.on B0.below) hn
  have c1 := fun w' (hb : Below w.heap.size w w') => specLabelOk_any v xs w' (hx.on hb) hn1
  have c2 := fun w' (hb : Below w.heap.size w w') => specLabelOk_any u ys w' (hy.on hb) hn2
  generalize ownOk own = q0 at c0 h
  generalize labelOk xs = q1 at c1 h
  generalize labelOk ys = q2 at c2 h
  have C1 : Hid (∀ w', Below w.heap.size w w' → _) := c1
  have C2 : Hid (∀ w', Below w.heap.size w w' → _) := c2
  have HB0 : Hid (Behind w v u (boxed w v u)) := B0
  clear c1 c2 B0 ho hx hy
  by_cases e0 : q0 = false
  · subst e0
    go_enter Try.func13, Try.ntmps13
    go_wp2_with fail
    refine c0.mono ?_
    rintro e w1 ⟨rfl, hb1⟩
    clear c0
    have HB1 : Hid (Behind w v u w1) := HB0.out.on hb1
    clear hb1 HB0
    go_wp2
    go_ret
    exact ⟨rfl, HB1.out.below⟩
  · obtain rfl : q0 = true := by simpa using e0
    clear e0
    by_cases e1 : q1 = false
    · subst e1
      go_enter Try.func13, Try.ntmps13
      go_wp2_with fail
      refine c0.mono ?_
      rintro e w1 ⟨rfl, hb1⟩
      clear c0
      have HB1 : Hid (Behind w v u w1) := HB0.out.on hb1
      have k1 := HB1.out.one
      clear hb1 HB0
      go_wp2_with fail
      refine (C1.out _ HB1.out.below).mono ?_
      rintro e w2 ⟨rfl, hb2⟩
      have HB2 : Hid (Behind w v u w2) := HB1.out.on hb2
      clear hb2 HB1 k1
      go_wp2
      go_ret
      exact ⟨rfl, HB2.out.below⟩
    · obtain rfl : q1 = true := by simpa using e1
      clear e1
      obtain rfl : q2 = false := by simpa using h
      go_enter Try.func13, Try.ntmps13
      go_wp2_with fail
      refine c0.mono ?_
      rintro e w1 ⟨rfl, hb1⟩
      clear c0
      have HB1 : Hid (Behind w v u w1) := HB0.out.on hb1
      have k1 := HB1.out.one
      clear hb1 HB0
      go_wp2_with fail
      refine (C1.out _ HB1.out.below).mono ?_
      rintro e w2 ⟨rfl, hb2⟩
      have HB2 : Hid (Behind w v u w2) := HB1.out.on hb2
      have k2 := HB2.out.two
      clear hb2 HB1 k1
      go_wp2_with fail
      refine (C2.out _ HB2.out.below).mono ?_
      rintro e w3 ⟨rfl, hb3⟩
      have HB3 : Hid (Behind w v u w3) := HB2.out.on hb3
      clear hb3 HB2 k2
      go_wp2
      go_ret
      exact ⟨rfl, HB3.out.below⟩

set_option maxHeartbeats 2000000 in
theorem specFlowsFor_yes (o : Value) (pa pb : Option Addr) (ca cb : Nat) (own xs ys : List Int) (w : World) (ho : IsInts w o own) (hx : IsInts w (.slice pa 4 ca) xs) (hy : IsInts w (.slice pb 4 cb) ys) (hn : own.length ≤ 1048576) (l1 : xs.length = 4) (l2 : ys.length = 4) (h : (ownOk own && labelOk xs && labelOk ys) = true) :
    Calls Try.prog 13 #[o, .agg #[.slice pa 4 ca], .agg #[.slice pb 4 cb]] w fun e w' => e = .returned (.bool (flowsFor own xs ys)) ∧ Below w.heap.size w w' := by
  obtain ⟨v, hv⟩ : ∃ v, v = Value.slice pa 4 ca := ⟨_, rfl⟩
  obtain ⟨u, hu⟩ : ∃ u, u = Value.slice pb 4 cb := ⟨_, rfl⟩
  have h0 := h
  simp only [Bool.and_eq_true] at h0
  have B0 := Behind.start w (.slice pa 4 ca) (.slice pb 4 cb)
  have c0 := specOwnOk_any o own (boxed w (.slice pa 4 ca) (.slice pb 4 cb)) (ho.on B0.below) hn
  have c1 := fun w' (hb : Below w.heap.size w w') => specLabelOk_any (.slice pa 4 ca) xs w' (hx.on hb) (by omega)
  have c2 := fun w' (hb : Below w.heap.size w w') => specLabelOk_any (.slice pb 4 cb) ys w' (hy.on hb) (by omega)
  have c3 := fun (k : Int) w' (hb : Below w.heap.size w w') => l4Has_any o own k w' (ho.on hb) hn
  rw [h0.1.1] at c0
  simp only [h0.1.2] at c1
  simp only [h0.2] at c2
  have C1 : Hid (∀ w', Below w.heap.size w w' → _) := c1
  have C2 : Hid (∀ w', Below w.heap.size w w' → _) := c2
  have C3 : Hid (∀ (k : Int) w', Below w.heap.size w w' → _) := c3
  have HB0 : Hid (Behind w (.slice pa 4 ca) (.slice pb 4 cb) (boxed w (.slice pa 4 ca) (.slice pb 4 cb))) := B0
  have HF : Hid ((ownOk own && labelOk xs && labelOk ys) = true) := h
  have HXC : Hid (∀ wr, Below w.heap.size w wr → ∀ k, k < 4 → ∃ p q, pa = some p ∧ pb = some q ∧ wr.cell? (p.add k) = some (.int .i64 (xs.getD k 0)) ∧ wr.cell? (q.add k) = some (.int .i64 (ys.getD k 0))) := fun wr hb k hk => by
    obtain ⟨a1, cap1, e1, _, hc1⟩ := hx.on hb
    obtain ⟨a2, cap2, e2, _, hc2⟩ := hy.on hb
    rw [l1] at e1; rw [l2] at e2
    cases e1; cases e2
    obtain ⟨p, hp, hpc⟩ := hc1 k (by omega)
    obtain ⟨q, hq, hqc⟩ := hc2 k (by omega)
    exact ⟨p, q, hp, hq, hpc, hqc⟩
  clear c1 c2 c3 B0 ho hx hy h h0 hv hu l1 l2
  obtain ⟨ans, hans⟩ : ∃ b, b = flowsFor own xs ys := ⟨_, rfl⟩
  rw [← hans]
  have HAns : Hid (ans = flowsFor own xs ys) := hans
  clear hans
  go_enter Try.func13, Try.ntmps13
  go_wp2_with fail
  refine c0.mono ?_
  rintro e w1 ⟨rfl, hb1⟩
  clear c0
  have HB1 : Hid (Behind w (.slice pa 4 ca) (.slice pb 4 cb) w1) := HB0.out.on hb1
  have k1 := HB1.out.one
  clear hb1 HB0
  go_wp2_with fail
  refine (C1.out _ HB1.out.below).mono ?_
  rintro e w2 ⟨rfl, hb2⟩
  have HB2 : Hid (Behind w (.slice pa 4 ca) (.slice pb 4 cb) w2) := HB1.out.on hb2
  have k2 := HB2.out.two
  clear hb2 HB1 k1
  go_wp2_with fail
  refine (C2.out _ HB2.out.below).mono ?_
  rintro e w3 ⟨rfl, hb3⟩
  have HB3 : Hid (Behind w (.slice pa 4 ca) (.slice pb 4 cb) w3) := HB2.out.on hb3
  clear hb3 HB2 k2 C1 C2
  go_wp2
  go_loopw [7] (fun i wr => ∃ k : Nat, k ≤ 4 ∧ i = .int .i64 k ∧ Hid (∀ i, i < k → lets own xs ys i = true) ∧ Hid (Behind w (.slice pa 4 ca) (.slice pb 4 cb) wr)) (fun i _ => 4 - (intOf i).toNat)
  case atStart => exact ⟨0, Nat.zero_le _, rfl, fun i hi => absurd hi (Nat.not_lt_zero _), HB3⟩
  case round =>
    obtain ⟨k, hk, rfl, hall, hbr⟩ := hrel
    clear HB3
    by_cases hlt : k < 4
    · obtain ⟨p, q, rfl, rfl, hc1, hc2⟩ := HXC.out wr hbr.out.below k hlt
      have b1 := hbr.out.one
      have b2 := hbr.out.two
      have HX1 : Hid (lets own xs ys k = true → ∀ i, i < k + 1 → lets own xs ys i = true) := fun h i hi => by
        by_cases he : i = k
        · rw [he]; exact h
        · exact hall.out i (by omega)
      have HX2 : Hid (lets own xs ys k = false → flowsFor own xs ys = false) := fun h => flowsFor_at hlt h
      have c4 := fun n => C3.out (k : Int) (wr.drewN n) (hbr.out.drewN n).below
      by_cases hmu : ys.getD k 0 < xs.getD k 0
      · by_cases hc : own.contains (k : Int) = true
        · have HL : Hid (∀ i, i < k + 1 → lets own xs ys i = true) := HX1.out (by unfold lets; rw [hc]; simp)
          simp only [hc] at c4
          have C4 : Hid (∀ n, Calls Try.prog 41 #[o, .int .i64 (k : Int)] (wr.drewN n) fun e w' => e = .returned (.bool true) ∧ w' = wr.drewN n) := c4
          obtain ⟨x, hx⟩ : ∃ x, x = xs.getD k 0 := ⟨_, rfl⟩
          obtain ⟨y, hy⟩ : ∃ y, y = ys.getD k 0 := ⟨_, rfl⟩
          rw [← hx] at hc1 hmu
          rw [← hy] at hc2 hmu
          clear hx hy hall HX1 HX2 c4 hc
          go_wp2
          go_quiet ((go_at_call 41; exact Calls.quiet_of_same (C4.out _)))
          go_wp2
          go_roundw
          case rel => exact ⟨k + 1, by omega, by go_num, HL, hbr.out.drewN _⟩
          case measure => simp [intOf]; omega
        · have hc' : own.contains (k : Int) = false := by simpa using hc
          have HL : Hid (flowsFor own xs ys = false) := HX2.out (by unfold lets mustOwn; rw [hc', decide_eq_true hmu]; rfl)
          simp only [hc'] at c4
          have C4 : Hid (∀ n, Calls Try.prog 41 #[o, .int .i64 (k : Int)] (wr.drewN n) fun e w' => e = .returned (.bool false) ∧ w' = wr.drewN n) := c4
          obtain ⟨x, hx⟩ : ∃ x, x = xs.getD k 0 := ⟨_, rfl⟩
          obtain ⟨y, hy⟩ : ∃ y, y = ys.getD k 0 := ⟨_, rfl⟩
          rw [← hx] at hc1 hmu
          rw [← hy] at hc2 hmu
          clear hx hy hall HX1 HX2 c4 hc hc'
          go_wp2
          go_quiet ((go_at_call 41; exact Calls.quiet_of_same (C4.out _)))
          go_wp2
          go_ret
          exact ⟨by rw [HAns.out, HL.out]; rfl, (hbr.out.drewN _).below⟩
      · have HL : Hid (∀ i, i < k + 1 → lets own xs ys i = true) := HX1.out (by unfold lets mustOwn; rw [decide_eq_false hmu]; rfl)
        obtain ⟨x, hx⟩ : ∃ x, x = xs.getD k 0 := ⟨_, rfl⟩
        obtain ⟨y, hy⟩ : ∃ y, y = ys.getD k 0 := ⟨_, rfl⟩
        rw [← hx] at hc1 hmu
        rw [← hy] at hc2 hmu
        have hmd : decide (y < x) = false := decide_eq_false hmu
        clear hx hy hall HX1 HX2 c4
        go_wp2
        go_quiet (fail)
        go_wp2
        go_roundw
        case rel => exact ⟨k + 1, by omega, by go_num, HL, hbr.out.drewN _⟩
        case measure => simp [intOf]; omega
    · obtain rfl : k = 4 := by omega
      have HY : Hid (flowsFor own xs ys = true) := flowsFor_yes HF.out hall.out
      clear hall
      go_wp2
      go_ret
      exact ⟨by rw [HAns.out, HY.out]; rfl, hbr.out.below⟩

theorem specFlowsFor_any (o v u : Value) (own xs ys : List Int) (w : World) (ho : IsInts w o own) (hx : IsInts w v xs) (hy : IsInts w u ys) (hn : own.length ≤ 1048576) (hn1 : xs.length ≤ 1048576) (hn2 : ys.length ≤ 1048576) :
    Calls Try.prog 13 #[o, .agg #[v], .agg #[u]] w fun e w' => e = .returned (.bool (flowsFor own xs ys)) ∧ Below w.heap.size w w' := by
  by_cases h : (ownOk own && labelOk xs && labelOk ys) = true
  · have h0 := h
    simp only [Bool.and_eq_true] at h0
    have l1 : xs.length = 4 := by have := h0.1.2; unfold labelOk at this; simp at this; exact this.1
    have l2 : ys.length = 4 := by have := h0.2; unfold labelOk at this; simp at this; exact this.1
    obtain ⟨a, ca, rfl, r⟩ := id hx
    obtain ⟨b, cb, rfl, r'⟩ := id hy
    rw [l1] at hx ⊢
    rw [l2] at hy ⊢
    exact specFlowsFor_yes o a b ca cb own xs ys w ho hx hy hn l1 l2 h
  · have h' : (ownOk own && labelOk xs && labelOk ys) = false := by simpa using h
    rw [flowsFor_no h']
    exact specFlowsFor_no o v u own xs ys w ho hx hy hn hn1 hn2 h'

set_option maxHeartbeats 2000000 in
theorem specNeeds_no (o v u : Value) (own xs ys : List Int) (w : World) (ho : IsInts w o own) (hx : IsInts w v xs) (hy : IsInts w u ys) (hn : own.length ≤ 1048576) (hn1 : xs.length ≤ 1048576) (hn2 : ys.length ≤ 1048576) (h : flowsFor own xs ys = false) :
    Calls Try.prog 28 #[o, .agg #[v], .agg #[u]] w fun e w' => ∃ r, e = .returned r ∧ w'.ownsRow w.heap.size 3 1 r 0 [] ∧ Below w.heap.size w w' := by
  have B0 := Behind.start w v u
  have B1 := B0.on (below_alloc' (boxed w v u) (.cells #[] 3 (0, 0)))
  have c0 := specFlowsFor_any o v u own xs ys _ (ho.on B1.below) (hx.on B1.below) (hy.on B1.below) hn hn1 hn2
  have HR : Hid (((boxed w v u).alloc (.cells #[] 3 (0, 0))).ownsRow (w.heap.size + 1 + 1) 3 1 (.slice (some ⟨w.heap.size + 1 + 1, 0, none⟩) 0 0) ([] : List Int).length (icells [])) := by
    have := owns_empty (boxed w v u)
    rw [boxed_size] at this
    exact this
  rw [h] at c0
  have HB1 : Hid (Behind w v u ((boxed w v u).alloc (.cells #[] 3 (0, 0)))) := B1
  clear B0 B1 ho hx hy h
  go_enter Try.func28, Try.ntmps28
  go_wp2_with fail
  refine c0.mono ?_
  rintro e w1 ⟨rfl, hb1⟩
  have HB2 : Hid (Below w.heap.size w w1) := (HB1.out.on hb1).below
  have HR2 : Hid (w1.ownsRow w.heap.size 3 1 (.slice (some ⟨w.heap.size + 1 + 1, 0, none⟩) 0 0) 0 []) := own_from (own_on HR.out hb1) (by omega)
  clear c0 hb1 HB1 HR
  go_wp2
  go_ret
  exact ⟨_, rfl, HR2.out, HB2.out⟩

set_option maxHeartbeats 2000000 in
theorem specNeeds_yes (o : Value) (pa pb : Option Addr) (ca cb : Nat) (own xs ys : List Int) (w : World) (ho : IsInts w o own) (hx : IsInts w (.slice pa 4 ca) xs) (hy : IsInts w (.slice pb 4 cb) ys) (hn : own.length ≤ 1048576) (l1 : xs.length = 4) (l2 : ys.length = 4) (h : flowsFor own xs ys = true) :
    Calls Try.prog 28 #[o, .agg #[.slice pa 4 ca], .agg #[.slice pb 4 cb]] w fun e w' => ∃ r, e = .returned r ∧ w'.ownsRow w.heap.size 3 1 r (needTo xs ys 4).length (icells (needTo xs ys 4)) ∧ Below w.heap.size w w' := by
  have B0 := Behind.start w (.slice pa 4 ca) (.slice pb 4 cb)
  have B1 := B0.on (below_alloc' (boxed w (.slice pa 4 ca) (.slice pb 4 cb)) (.cells #[] 3 (0, 0)))
  have c0 := specFlowsFor_any o (.slice pa 4 ca) (.slice pb 4 cb) own xs ys _ (ho.on B1.below) (hx.on B1.below) (hy.on B1.below) hn (by omega) (by omega)
  rw [h] at c0
  have HR : Hid (((boxed w (.slice pa 4 ca) (.slice pb 4 cb)).alloc (.cells #[] 3 (0, 0))).ownsRow (w.heap.size + 1 + 1) 3 1 (.slice (some ⟨w.heap.size + 1 + 1, 0, none⟩) 0 0) ([] : List Int).length (icells [])) := by
    have := owns_empty (boxed w (.slice pa 4 ca) (.slice pb 4 cb))
    rw [boxed_size] at this
    exact this
  have HB1 : Hid (Behind w (.slice pa 4 ca) (.slice pb 4 cb) ((boxed w (.slice pa 4 ca) (.slice pb 4 cb)).alloc (.cells #[] 3 (0, 0)))) := B1
  have HXC : Hid (∀ wr, Below w.heap.size w wr → ∀ k, k < 4 → ∃ p q, pa = some p ∧ pb = some q ∧ wr.cell? (p.add k) = some (.int .i64 (xs.getD k 0)) ∧ wr.cell? (q.add k) = some (.int .i64 (ys.getD k 0))) := fun wr hb k hk => by
    obtain ⟨a1, cap1, e1, _, hc1⟩ := hx.on hb
    obtain ⟨a2, cap2, e2, _, hc2⟩ := hy.on hb
    rw [l1] at e1; rw [l2] at e2
    cases e1; cases e2
    obtain ⟨p, hp, hpc⟩ := hc1 k (by omega)
    obtain ⟨q, hq, hqc⟩ := hc2 k (by omega)
    exact ⟨p, q, hp, hq, hpc, hqc⟩
  clear B0 B1 ho hx hy h l1 l2
  go_enter Try.func28, Try.ntmps28
  go_wp2_with fail
  refine c0.mono ?_
  rintro e w1 ⟨rfl, hb1⟩
  have HB2 : Hid (Behind w (.slice pa 4 ca) (.slice pb 4 cb) w1) := HB1.out.on hb1
  have HR2 : Hid (w1.ownsRow (w.heap.size + 1 + 1) 3 1 (.slice (some ⟨w.heap.size + 1 + 1, 0, none⟩) 0 0) (needTo xs ys 0).length (icells (needTo xs ys 0))) := own_on HR.out hb1
  clear c0 hb1 HB1 HR
  go_wp2
  go_loopw [7, 8] (fun out i wr => ∃ k : Nat, k ≤ 4 ∧ i = .int .i64 k ∧ Hid (wr.ownsRow (w.heap.size + 1 + 1) 3 1 out (needTo xs ys k).length (icells (needTo xs ys k))) ∧ Hid (Behind w (.slice pa 4 ca) (.slice pb 4 cb) wr)) (fun _ i _ => 4 - (intOf i).toNat)
  case atStart => exact ⟨0, Nat.zero_le _, rfl, HR2, HB2⟩
  case round =>
    obtain ⟨k, hk, rfl, hrow, hbr⟩ := hrel
    clear HR2 HB2
    by_cases hlt : k < 4
    · obtain ⟨p, q, rfl, rfl, hc1, hc2⟩ := HXC.out wr hbr.out.below k hlt
      have b1 := hbr.out.one
      have b2 := hbr.out.two
      by_cases hmu : ys.getD k 0 < xs.getD k 0
      · have HN : Hid (needTo xs ys (k + 1) = needTo xs ys k ++ [(k : Int)]) := needTo_more (by unfold mustOwn; exact decide_eq_true hmu)
        have HLen : Hid ((needTo xs ys k).length ≤ 4) := Nat.le_trans (needTo_length xs ys k) hk
        obtain ⟨x, hx⟩ : ∃ x, x = xs.getD k 0 := ⟨_, rfl⟩
        obtain ⟨y, hy⟩ : ∃ y, y = ys.getD k 0 := ⟨_, rfl⟩
        rw [← hx] at hc1 hmu
        rw [← hy] at hc2 hmu
        clear hx hy
        generalize needTo xs ys k = acc at hrow HN HLen
        go_wp2
        go_quiet (fail)
        have HNQ : Hid (Behind w (.slice (some p) 4 ca) (.slice (some q) 4 cb) ((wr.drewN nq).alloc (.cells #[.int .i64 (k : Int)] 3 (0, 0)))) := (hbr.out.drewN nq).on (below_alloc' _ _)
        have HRQ : Hid (((wr.drewN nq).alloc (.cells #[.int .i64 (k : Int)] 3 (0, 0))).ownsRow (w.heap.size + 1 + 1) 3 1 u7 acc.length (icells acc)) := hrow.out.alloc _
        have HCQ : Hid (∀ (j : Nat) u, (icells [(k : Int)])[j]? = some u → ((wr.drewN nq).alloc (.cells #[.int .i64 (k : Int)] 3 (0, 0))).cell? ⟨wr.heap.size, j, none⟩ = some u) := fun j u hj => by
          have := cell_one_new (wr.drewN nq) (.int .i64 (k : Int)) 3 j u hj
          rw [add_head] at this
          exact this
        have HKQ : Hid (Below (w.heap.size + 1 + 1) (boxed w (.slice (some p) 4 ca) (.slice (some q) 4 cb)) ((wr.drewN nq).alloc (.cells #[.int .i64 (k : Int)] 3 (0, 0)))) := HNQ.out.kept
        go_wp2_with (at_builtin; refine wpList_appI rfl (.tmp 31) (.tmp 33) rfl (boxed w (.slice (some p) 4 ca) (.slice (some q) 4 cb)) _ (w.heap.size + 1 + 1) wr.heap.size u7 acc [(k : Int)] 1 1 rfl rfl HRQ.out HCQ.out rfl (by have := HLen.out; omega) (by have := HKQ.out.size; rw [boxed_size] at this; exact this) HKQ.out ?_; intro v' w3 hown' hnx')
        go_roundw
        case rel => exact ⟨k + 1, by omega, by go_num, (show World.ownsRow _ _ _ _ _ _ _ by rw [HN.out]; exact hown'.out), (show Behind _ _ _ _ from ⟨hnx'.out⟩)⟩
        case measure => simp [intOf]; omega
      · have hmd : decide (ys.getD k 0 < xs.getD k 0) = false := decide_eq_false hmu
        have HR : Hid (wr.ownsRow (w.heap.size + 1 + 1) 3 1 u7 (needTo xs ys (k + 1)).length (icells (needTo xs ys (k + 1)))) := by
          show World.ownsRow _ _ _ _ _ _ _
          rw [needTo_same (by unfold mustOwn; exact hmd)]; exact hrow.out
        obtain ⟨x, hx⟩ : ∃ x, x = xs.getD k 0 := ⟨_, rfl⟩
        obtain ⟨y, hy⟩ : ∃ y, y = ys.getD k 0 := ⟨_, rfl⟩
        rw [← hx] at hc1 hmu hmd
        rw [← hy] at hc2 hmu hmd
        clear hx hy hrow
        go_wp2
        go_quiet (fail)
        go_wp2
        go_roundw
        case rel => exact ⟨k + 1, by omega, by go_num, HR.out, hbr.out.drewN _⟩
        case measure => simp [intOf]; omega
    · obtain rfl : k = 4 := by omega
      have HR : Hid (wr.ownsRow w.heap.size 3 1 u7 (needTo xs ys 4).length (icells (needTo xs ys 4))) := own_from hrow.out (by omega)
      clear hrow
      go_wp2
      go_ret
      exact ⟨_, rfl, HR.out, hbr.out.below⟩

theorem specNeeds_any (o v u : Value) (own xs ys : List Int) (w : World) (ho : IsInts w o own) (hx : IsInts w v xs) (hy : IsInts w u ys) (hn : own.length ≤ 1048576) (hn1 : xs.length ≤ 1048576) (hn2 : ys.length ≤ 1048576) :
    Calls Try.prog 28 #[o, .agg #[v], .agg #[u]] w fun e w' => ∃ r, e = .returned r ∧ w'.ownsRow w.heap.size 3 1 r (needsOf own xs ys).length (icells (needsOf own xs ys)) ∧ Below w.heap.size w w' := by
  by_cases h : flowsFor own xs ys = true
  · have h0 := h
    unfold flowsFor at h0
    simp only [Bool.and_eq_true] at h0
    have l1 : xs.length = 4 := by have := h0.1.1.2; unfold labelOk at this; simp at this; exact this.1
    have l2 : ys.length = 4 := by have := h0.1.2; unfold labelOk at this; simp at this; exact this.1
    obtain ⟨a, ca, rfl, r⟩ := id hx
    obtain ⟨b, cb, rfl, r'⟩ := id hy
    rw [l1] at hx ⊢
    rw [l2] at hy ⊢
    rw [needsOf_yes h]
    exact specNeeds_yes o a b ca cb own xs ys w ho hx hy hn l1 l2 h
  · have h' : flowsFor own xs ys = false := by simpa using h
    rw [needsOf_no h']
    exact specNeeds_no o v u own xs ys w ho hx hy hn hn1 hn2 h'
end Go.Proofs.Ytbahokkofidmeaa
