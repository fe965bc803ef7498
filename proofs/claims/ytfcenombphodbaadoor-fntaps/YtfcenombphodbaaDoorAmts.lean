/-
  Amounts: the small functions of both sides. Amounts: what the model answers. Amounts: what the model answers, what is taken away.
-/
import Derived.Test.YtfcenombphodbaaDoorTree
namespace Go.Proofs.YtfcenombphodbaaDoor
open Go.RowKit
set_option linter.unusedVariables false
set_option maxRecDepth 100000


/-- Is a number right? -/
def numOk (x : Int) : Bool := decide (0 ≤ x) && decide (x ≤ 1000000)
/-- Is an amount right? -/
def amtOk (a b c : Int) : Bool := numOk a && numOk b && numOk c
/-- Its block, as an amount and as an array. -/
abbrev boxN (a b c : Int) : Obj := .cells #[.int .i64 a, .int .i64 b, .int .i64 c] 60 (0, 0)

theorem numOk_true {x : Int} (h : numOk x = true) : 0 ≤ x ∧ x ≤ 1000000 := by unfold numOk at h; simpa using h
theorem numOk_false {x : Int} (h : numOk x = false) : x < 0 ∨ 1000000 < x := by unfold numOk at h; simp at h; omega
theorem numOk_yes {x : Int} (h0 : 0 ≤ x) (h1 : x ≤ 1000000) : numOk x = true := by unfold numOk; simp; omega
theorem numOk_no {x : Int} (h : x < 0 ∨ 1000000 < x) : numOk x = false := by unfold numOk; simp; omega

theorem l1In_any (x lo hi : Int) (w : World) :
    Calls Tryd.prog 26 #[.int .i64 x, .int .i64 lo, .int .i64 hi] w fun e w' => e = .returned (.bool (decide (lo ≤ x) && decide (x ≤ hi))) ∧ w = w' := by
  by_cases h1 : lo ≤ x
  · by_cases h2 : x ≤ hi
    · go_enter Tryd.func26, Tryd.ntmps26
      go_wp2
      go_ret
      exact ⟨by simp [h1, h2], rfl⟩
    · go_enter Tryd.func26, Tryd.ntmps26
      go_wp2
      go_ret
      exact ⟨by simp [h2], rfl⟩
  · go_enter Tryd.func26, Tryd.ntmps26
    go_wp2
    go_ret
    exact ⟨by simp; omega, rfl⟩
theorem l5In_any (x : Int) (w : World) :
    Calls Tryd.prog 61 #[.int .i64 x] w fun e w' => e = .returned (.bool (numOk x)) ∧ w = w' := by
  have C := l1In_any x 0 1000000 w
  change Calls Tryd.prog 26 #[.int .i64 x, .int .i64 0, .int .i64 1000000] w fun e w' => e = .returned (.bool (numOk x)) ∧ w = w' at C
  generalize numOk x = o at C ⊢
  go_enter Tryd.func61, Tryd.ntmps61
  go_wp2_with fail
  refine C.mono ?_
  rintro e w' ⟨rfl, rfl⟩
  clear C
  go_wp2
  go_ret
  exact ⟨rfl, rfl⟩
theorem specAmtOk_in (a b c : Int) (w : World) :
    Calls Tryd.prog 32 #[amt a b c] w fun e w' => e = .returned (.bool (amtOk a b c)) ∧ w' = w.alloc (boxA a b c) := by
  have C0 := fun w => l5In_any a w
  have C1 := fun w => l5In_any b w
  have C2 := fun w => l5In_any c w
  unfold amtOk
  generalize numOk a = x at C0 ⊢
  generalize numOk b = y at C1 ⊢
  generalize numOk c = z at C2 ⊢
  cases x with
  | false =>
    go_enter Tryd.func32, Tryd.ntmps32
    go_wp2_with (go_at_call 61; refine (C0 _).mono ?_; rintro e w' ⟨rfl, rfl⟩)
    go_ret
    exact ⟨rfl, rfl⟩
  | true =>
    cases y with
    | false =>
      go_enter Tryd.func32, Tryd.ntmps32
      go_wp2_with (go_at_call 61; first | (refine (C0 _).mono ?_; rintro e w' ⟨rfl, rfl⟩) | (refine (C1 _).mono ?_; rintro e w' ⟨rfl, rfl⟩))
      go_ret
      exact ⟨rfl, rfl⟩
    | true =>
      go_enter Tryd.func32, Tryd.ntmps32
      go_wp2_with (go_at_call 61; first | (refine (C0 _).mono ?_; rintro e w' ⟨rfl, rfl⟩) | (refine (C1 _).mono ?_; rintro e w' ⟨rfl, rfl⟩) | (refine (C2 _).mono ?_; rintro e w' ⟨rfl, rfl⟩))
      go_ret
      exact ⟨by simp, rfl⟩
theorem numbersOf_in (a b c : Int) (w : World) :
    Calls Tryd.prog 35 #[amt a b c] w fun e w' => e = .returned (amt a b c) ∧ w' = (w.alloc (boxA a b c)).alloc (boxN a b c) := by
  go_enter Tryd.func35, Tryd.ntmps35
  go_wp2
  go_returns
  exact ⟨rfl, rfl⟩
theorem amtOf_in (a b c : Int) (w : World) :
    Calls Tryd.prog 37 #[amt a b c] w fun e w' => e = .returned (amt a b c) ∧ w' = (w.alloc (boxN a b c)).alloc (boxA a b c) := by
  go_enter Tryd.func37, Tryd.ntmps37
  go_wp2
  go_returns
  exact ⟨rfl, rfl⟩
set_option maxHeartbeats 1000000 in
theorem numbersOk_in (a b c : Int) (w : World) :
    Calls Tryd.prog 65 #[amt a b c] w fun e w' => e = .returned (.bool (amtOk a b c)) ∧ w' = w.alloc (boxN a b c) := by
  obtain ⟨o, ho⟩ : ∃ o, o = amtOk a b c := ⟨_, rfl⟩
  have HO : Hid (o = (numOk a && numOk b && numOk c)) := ho
  rw [← ho]
  clear ho
  by_cases ha : a < 0
  · have h : o = false := by rw [HO.out, numOk_no (x := a) (by omega)]; rfl
    clear HO
    subst h
    go_enter Tryd.func65, Tryd.ntmps65
    go_wp2
    go_rounds 3
    go_ret
    exact ⟨rfl, rfl⟩
  by_cases ha' : 1000000 < a
  · have h : o = false := by rw [HO.out, numOk_no (x := a) (by omega)]; rfl
    clear HO
    subst h
    go_enter Tryd.func65, Tryd.ntmps65
    go_wp2
    go_rounds 3
    go_ret
    exact ⟨rfl, rfl⟩
  by_cases hb : b < 0
  · have h : o = false := by rw [HO.out, numOk_no (x := b) (by omega)]; simp
    clear HO
    subst h
    go_enter Tryd.func65, Tryd.ntmps65
    go_wp2
    go_rounds 3
    go_ret
    exact ⟨rfl, rfl⟩
  by_cases hb' : 1000000 < b
  · have h : o = false := by rw [HO.out, numOk_no (x := b) (by omega)]; simp
    clear HO
    subst h
    go_enter Tryd.func65, Tryd.ntmps65
    go_wp2
    go_rounds 3
    go_ret
    exact ⟨rfl, rfl⟩
  by_cases hc : c < 0
  · have h : o = false := by rw [HO.out, numOk_no (x := c) (by omega)]; simp
    clear HO
    subst h
    go_enter Tryd.func65, Tryd.ntmps65
    go_wp2
    go_rounds 3
    go_ret
    exact ⟨rfl, rfl⟩
  by_cases hc' : 1000000 < c
  · have h : o = false := by rw [HO.out, numOk_no (x := c) (by omega)]; simp
    clear HO
    subst h
    go_enter Tryd.func65, Tryd.ntmps65
    go_wp2
    go_rounds 3
    go_ret
    exact ⟨rfl, rfl⟩
  · have h : o = true := by rw [HO.out, numOk_yes (x := a) (by omega) (by omega), numOk_yes (x := b) (by omega) (by omega), numOk_yes (x := c) (by omega) (by omega)]; rfl
    clear HO
    subst h
    go_enter Tryd.func65, Tryd.ntmps65
    go_wp2
    go_rounds 4
    go_ret
    exact ⟨rfl, rfl⟩
theorem implAmtOk_in (a b c : Int) (w : World) :
    Calls Tryd.prog 40 #[amt a b c] w fun e w' => e = .returned (.bool (amtOk a b c)) ∧ w' = (((w.alloc (boxA a b c)).alloc (boxA a b c)).alloc (boxN a b c)).alloc (boxN a b c) := by
  have C0 := fun w => numbersOf_in a b c w
  have C1 := fun w => numbersOk_in a b c w
  generalize amtOk a b c = o at C1 ⊢
  go_enter Tryd.func40, Tryd.ntmps40
  go_wp2_with (first | (go_at_call 35; refine (C0 _).mono ?_; rintro e w' ⟨rfl, rfl⟩) | (go_at_call 65; refine (C1 _).mono ?_; rintro e w' ⟨rfl, rfl⟩))
  go_ret
  exact ⟨rfl, rfl⟩
end Go.Proofs.YtfcenombphodbaaDoor
namespace Go.Proofs.YtfcenombphodbaaDoor
open Go.RowKit
set_option linter.unusedVariables false
set_option maxRecDepth 100000


/-- May the two be added? -/
def addOk (a b c d e f : Int) : Bool := amtOk a b c && amtOk d e f && amtOk (a + d) (b + e) (c + f)
/-- Does the first fit into the second? -/
def fitsIn (a b c d e f : Int) : Bool := amtOk a b c && amtOk d e f && (decide (a ≤ d) && decide (b ≤ e) && decide (c ≤ f))
theorem amtOk_true {a b c : Int} (h : amtOk a b c = true) : (0 ≤ a ∧ a ≤ 1000000) ∧ (0 ≤ b ∧ b ≤ 1000000) ∧ 0 ≤ c ∧ c ≤ 1000000 := by
  unfold amtOk numOk at h; simp at h; omega
theorem wrap_near {n : Int} (h0 : -4611686018427387904 ≤ n) (h1 : n < 4611686018427387904) : wrap64 n = n := by unfold wrap64; omega
theorem same_amt (a b c : Int) : (decide (a = a) && decide (b = b) && decide (c = c)) = true := by simp

set_option maxHeartbeats 1000000 in
theorem specFits_any (a b c d e f : Int) (w : World) :
    Calls Tryd.prog 77 #[amt a b c, amt d e f] w fun r w' => r = .returned (.bool (fitsIn a b c d e f)) ∧ Below w.heap.size w w' := by
  have C0 := fun w => specAmtOk_in a b c w
  have C1 := fun w => specAmtOk_in d e f w
  unfold fitsIn
  generalize amtOk a b c = x at C0 ⊢
  generalize amtOk d e f = y at C1 ⊢
  cases x with
  | false =>
    simp only [Bool.false_and]
    go_enter Tryd.func77, Tryd.ntmps77
    go_wp2_with fail
    refine (C0 _).mono ?_
    rintro r w' ⟨rfl, rfl⟩
    go_wp2
    go_ret
    exact ⟨rfl, by go_grown⟩
  | true =>
    cases y with
    | false =>
      simp only [Bool.and_false, Bool.false_and]
      go_enter Tryd.func77, Tryd.ntmps77
      go_wp2_with fail
      refine (C0 _).mono ?_
      rintro r w' ⟨rfl, rfl⟩
      go_wp2_with fail
      refine (C1 _).mono ?_
      rintro r w' ⟨rfl, rfl⟩
      go_wp2
      go_ret
      exact ⟨rfl, by go_grown⟩
    | true =>
      obtain ⟨o, ho⟩ : ∃ o, o = (true && true && (decide (a ≤ d) && decide (b ≤ e) && decide (c ≤ f))) := ⟨_, rfl⟩
      rw [← ho]
      by_cases h0 : a ≤ d
      · by_cases h1 : b ≤ e
        · by_cases h2 : c ≤ f
          · have h : o = true := by rw [ho]; simp [h0, h1, h2]
            clear ho
            subst h
            go_enter Tryd.func77, Tryd.ntmps77
            go_wp2_with fail
            refine (C0 _).mono ?_
            rintro r w' ⟨rfl, rfl⟩
            go_wp2_with fail
            refine (C1 _).mono ?_
            rintro r w' ⟨rfl, rfl⟩
            go_wp2
            go_ret
            exact ⟨rfl, by go_grown⟩
          · have h : o = false := by rw [ho]; simp [h2]
            clear ho
            subst h
            go_enter Tryd.func77, Tryd.ntmps77
            go_wp2_with fail
            refine (C0 _).mono ?_
            rintro r w' ⟨rfl, rfl⟩
            go_wp2_with fail
            refine (C1 _).mono ?_
            rintro r w' ⟨rfl, rfl⟩
            go_wp2
            go_ret
            exact ⟨by simp [h2], by go_grown⟩
        · have h : o = false := by rw [ho]; simp [h1]
          clear ho
          subst h
          go_enter Tryd.func77, Tryd.ntmps77
          go_wp2_with fail
          refine (C0 _).mono ?_
          rintro r w' ⟨rfl, rfl⟩
          go_wp2_with fail
          refine (C1 _).mono ?_
          rintro r w' ⟨rfl, rfl⟩
          go_wp2
          go_ret
          exact ⟨rfl, by go_grown⟩
      · have h : o = false := by rw [ho]; simp [h0]
        clear ho
        subst h
        go_enter Tryd.func77, Tryd.ntmps77
        go_wp2_with fail
        refine (C0 _).mono ?_
        rintro r w' ⟨rfl, rfl⟩
        go_wp2_with fail
        refine (C1 _).mono ?_
        rintro r w' ⟨rfl, rfl⟩
        go_wp2
        go_ret
        exact ⟨rfl, by go_grown⟩
set_option maxHeartbeats 1000000 in
theorem specAdd_no (a b c d e f : Int) (w : World) (h : addOk a b c d e f = false) :
    Calls Tryd.prog 60 #[amt a b c, amt d e f] w fun r w' => r = .returned (.tuple #[amt a b c, .bool false]) ∧ Below w.heap.size w w' := by
  have C0 := fun w => specAmtOk_in a b c w
  have C1 := fun w => specAmtOk_in d e f w
  have C2 := fun w => specAmtOk_in (a + d) (b + e) (c + f) w
  unfold addOk at h
  cases hx : amtOk a b c with
  | false =>
    rw [hx] at C0
    clear hx h
    go_enter Tryd.func60, Tryd.ntmps60
    go_wp2_with fail
    refine (C0 _).mono ?_
    rintro r w' ⟨rfl, rfl⟩
    go_wp2
    go_returns
    exact ⟨rfl, by go_grown⟩
  | true =>
    cases hy : amtOk d e f with
    | false =>
      rw [hx] at C0
      rw [hy] at C1
      clear hx hy h
      go_enter Tryd.func60, Tryd.ntmps60
      go_wp2_with fail
      refine (C0 _).mono ?_
      rintro r w' ⟨rfl, rfl⟩
      go_wp2_with fail
      refine (C1 _).mono ?_
      rintro r w' ⟨rfl, rfl⟩
      go_wp2
      go_returns
      exact ⟨rfl, by go_grown⟩
    | true =>
      obtain ⟨p0, p1, p2⟩ := amtOk_true hx
      obtain ⟨q0, q1, q2⟩ := amtOk_true hy
      have hz : amtOk (a + d) (b + e) (c + f) = false := by rw [hx, hy] at h; simpa using h
      have w0 : wrap64 (a + d) = a + d := wrap_near (by omega) (by omega)
      have w1 : wrap64 (b + e) = b + e := wrap_near (by omega) (by omega)
      have w2 : wrap64 (c + f) = c + f := wrap_near (by omega) (by omega)
      rw [hx] at C0
      rw [hy] at C1
      rw [hz] at C2
      clear hx hy h hz p0 p1 p2 q0 q1 q2
      go_enter Tryd.func60, Tryd.ntmps60
      go_wp2_with fail
      refine (C0 _).mono ?_
      rintro r w' ⟨rfl, rfl⟩
      go_wp2_with fail
      refine (C1 _).mono ?_
      rintro r w' ⟨rfl, rfl⟩
      go_wp2_with fail
      refine (C2 _).mono ?_
      rintro r w' ⟨rfl, rfl⟩
      go_wp2
      go_returns
      exact ⟨rfl, by go_grown⟩
set_option maxHeartbeats 1000000 in
theorem specAdd_yes (a b c d e f : Int) (w : World) (h : addOk a b c d e f = true) :
    Calls Tryd.prog 60 #[amt a b c, amt d e f] w fun r w' => r = .returned (.tuple #[amt (a + d) (b + e) (c + f), .bool true]) ∧ Below w.heap.size w w' := by
  have C0 := fun w => specAmtOk_in a b c w
  have C1 := fun w => specAmtOk_in d e f w
  have C2 := fun w => specAmtOk_in (a + d) (b + e) (c + f) w
  unfold addOk at h
  obtain ⟨⟨hx, hy⟩, hz⟩ : (amtOk a b c = true ∧ amtOk d e f = true) ∧ amtOk (a + d) (b + e) (c + f) = true := by simpa using h
  obtain ⟨p0, p1, p2⟩ := amtOk_true hx
  obtain ⟨q0, q1, q2⟩ := amtOk_true hy
  have w0 : wrap64 (a + d) = a + d := wrap_near (by omega) (by omega)
  have w1 : wrap64 (b + e) = b + e := wrap_near (by omega) (by omega)
  have w2 : wrap64 (c + f) = c + f := wrap_near (by omega) (by omega)
  rw [hx] at C0
  rw [hy] at C1
  rw [hz] at C2
  clear hx hy h hz p0 p1 p2 q0 q1 q2
  go_enter Tryd.func60, Tryd.ntmps60
  go_wp2_with fail
  refine (C0 _).mono ?_
  rintro r w' ⟨rfl, rfl⟩
  go_wp2_with fail
  refine (C1 _).mono ?_
  rintro r w' ⟨rfl, rfl⟩
  go_wp2_with fail
  refine (C2 _).mono ?_
  rintro r w' ⟨rfl, rfl⟩
  go_wp2
  go_returns
  exact ⟨rfl, by go_grown⟩
end Go.Proofs.YtfcenombphodbaaDoor
namespace Go.Proofs.YtfcenombphodbaaDoor
open Go.RowKit
set_option linter.unusedVariables false
set_option maxRecDepth 100000


/-- Three numbers in a block. -/
structure Box3 (w : World) (g : Nat) (t : TypeId) (a b c : Int) : Prop where
  at' : w.heap[g]? = some (.cells #[.int .i64 a, .int .i64 b, .int .i64 c] t (0, 0))
theorem Box3.c0 {w : World} {g : Nat} {t : TypeId} {a b c : Int} (h : Box3 w g t a b c) : w.cell? ⟨g, 0, none⟩ = some (.int .i64 a) := by simp [World.cell?, h.at']
theorem Box3.c1 {w : World} {g : Nat} {t : TypeId} {a b c : Int} (h : Box3 w g t a b c) : w.cell? ⟨g, 1, none⟩ = some (.int .i64 b) := by simp [World.cell?, h.at']
theorem Box3.c2 {w : World} {g : Nat} {t : TypeId} {a b c : Int} (h : Box3 w g t a b c) : w.cell? ⟨g, 2, none⟩ = some (.int .i64 c) := by simp [World.cell?, h.at']
theorem Box3.f0 {w : World} {g : Nat} {t : TypeId} {a b c : Int} (h : Box3 w g t a b c) (i : Nat) : w.frozen? ⟨g, i, none⟩ = false := by simp [World.frozen?, h.at']
theorem Box3.on {w w' : World} {g : Nat} {t : TypeId} {a b c : Int} (h : Box3 w g t a b c) {B : Nat} (hb : Below B w w') (hg : g < B) : Box3 w' g t a b c := ⟨by rw [hb.block g hg]; exact h.at'⟩

theorem three_boxes (w : World) (a b c d e f : Int) (w1 : World)
    (hb : Below (w.heap.size + 1 + 1 + 1) (((w.alloc (boxA a b c)).alloc (boxA d e f)).alloc (boxA 0 0 0)) w1) :
    Box3 w1 w.heap.size 37 a b c ∧ Box3 w1 (w.heap.size + 1) 37 d e f ∧ Box3 w1 (w.heap.size + 1 + 1) 37 0 0 0 ∧ Below w.heap.size w w1 := by
  refine ⟨⟨?_⟩, ⟨?_⟩, ⟨?_⟩, ?_⟩
  · rw [hb.block _ (by omega), heap_alloc_old _ _ (by simp; omega), heap_alloc_old _ _ (by simp)]
    exact heap_alloc_new w _
  · rw [hb.block _ (by omega), heap_alloc_old _ _ (by simp)]
    have := heap_alloc_new (w.alloc (boxA a b c)) (boxA d e f)
    simpa using this
  · rw [hb.block _ (by omega)]
    have := heap_alloc_new ((w.alloc (boxA a b c)).alloc (boxA d e f)) (boxA 0 0 0)
    simpa using this
  · exact ((((Below.refl _ _).alloc (Nat.le_refl _) _).alloc (by simp) _).alloc (by simp; omega) _).trans (hb.mono (by omega))

theorem Box3.put {w : World} {g : Nat} {t : TypeId} {a b c : Int} (h : Box3 w g t a b c) (x y z : Value) :
    (w.setCell ⟨g, 0, none⟩ x).cell? ⟨g, 0, none⟩ = some x ∧ ((w.setCell ⟨g, 0, none⟩ x).setCell ⟨g, 1, none⟩ y).cell? ⟨g, 1, none⟩ = some y ∧ (((w.setCell ⟨g, 0, none⟩ x).setCell ⟨g, 1, none⟩ y).setCell ⟨g, 2, none⟩ z).cell? ⟨g, 2, none⟩ = some z := by
  have h1 : (w.setCell ⟨g, 0, none⟩ x).cell? ⟨g, 1, none⟩ = some (.int .i64 b) := by rw [World.cell?_setCell_other _ _ _ _ (by simp)]; exact h.c1
  have h2 : ((w.setCell ⟨g, 0, none⟩ x).setCell ⟨g, 1, none⟩ y).cell? ⟨g, 2, none⟩ = some (.int .i64 c) := by
    rw [World.cell?_setCell_other _ _ _ _ (by simp), World.cell?_setCell_other _ _ _ _ (by simp)]; exact h.c2
  exact ⟨World.cell?_setCell_same _ _ _ h.c0, World.cell?_setCell_same _ _ _ h1, World.cell?_setCell_same _ _ _ h2⟩
theorem below_put {w wr : World} {g : Nat} (h : Below w.heap.size w wr) (hg : w.heap.size ≤ g) (x y z : Value) :
    Below w.heap.size w (((wr.setCell ⟨g, 0, none⟩ x).setCell ⟨g, 1, none⟩ y).setCell ⟨g, 2, none⟩ z) :=
  ((h.setCell hg _).setCell hg _).setCell hg _
theorem specSub_no (a b c d e f : Int) (w : World) (h : fitsIn d e f a b c = false) :
    Calls Tryd.prog 59 #[amt a b c, amt d e f] w fun r w' => r = .returned (.tuple #[amt a b c, .bool false]) ∧ Below w.heap.size w w' := by
  have C0 := specFits_any d e f a b c (((w.alloc (boxA a b c)).alloc (boxA d e f)).alloc (boxA 0 0 0))
  rw [h] at C0
  clear h
  go_enter Tryd.func59, Tryd.ntmps59
  go_wp2_with fail
  refine C0.mono ?_
  rintro r w1 ⟨rfl, hb⟩
  obtain ⟨b0, b1, b2, hb1⟩ := three_boxes w a b c d e f w1 (by simpa using hb)
  have HB : Hid (Below w.heap.size w w1) := hb1
  have q0 := b0.c0
  have q1 := b0.c1
  have q2 := b0.c2
  have r0 := b2.c0
  have r1 := b2.c1
  have r2 := b2.c2
  have f0 := b2.f0 0
  have f1 := b2.f0 1
  have f2 := b2.f0 2
  have HP := hid_of (b2.put (.int .i64 a) (.int .i64 b) (.int .i64 c))
  clear b0 b1 b2 hb1 hb C0
  go_wp2
  obtain ⟨p0, p1, p2⟩ := HP.out
  refine bodyPost_ret (v := .tuple #[amt a b c, .bool false]) (by simp [results, go_sem, p0, p1, p2]) rfl ⟨rfl, below_put HB.out (by omega) _ _ _⟩
theorem specSub_yes (a b c d e f : Int) (w : World) (h : fitsIn d e f a b c = true) :
    Calls Tryd.prog 59 #[amt a b c, amt d e f] w fun r w' => r = .returned (.tuple #[amt (a - d) (b - e) (c - f), .bool true]) ∧ Below w.heap.size w w' := by
  have C0 := specFits_any d e f a b c (((w.alloc (boxA a b c)).alloc (boxA d e f)).alloc (boxA 0 0 0))
  rw [h] at C0
  obtain ⟨⟨hx, hy⟩, _⟩ : (amtOk d e f = true ∧ amtOk a b c = true) ∧ ((d ≤ a ∧ e ≤ b) ∧ f ≤ c) := by unfold fitsIn at h; simpa using h
  obtain ⟨u0, u1, u2⟩ := amtOk_true hx
  obtain ⟨v0, v1, v2⟩ := amtOk_true hy
  have w0 : wrap64 (a - d) = a - d := wrap_near (by omega) (by omega)
  have w1 : wrap64 (b - e) = b - e := wrap_near (by omega) (by omega)
  have w2 : wrap64 (c - f) = c - f := wrap_near (by omega) (by omega)
  clear h hx hy u0 u1 u2 v0 v1 v2
  go_enter Tryd.func59, Tryd.ntmps59
  go_wp2_with fail
  refine C0.mono ?_
  rintro r w1 ⟨rfl, hb⟩
  obtain ⟨b0, b1, b2, hb1⟩ := three_boxes w a b c d e f w1 (by simpa using hb)
  have HB : Hid (Below w.heap.size w w1) := hb1
  have q0 := b0.c0
  have q1 := b0.c1
  have q2 := b0.c2
  have s0 := b1.c0
  have s1 := b1.c1
  have s2 := b1.c2
  have r0 := b2.c0
  have r1 := b2.c1
  have r2 := b2.c2
  have f0 := b2.f0 0
  have f1 := b2.f0 1
  have f2 := b2.f0 2
  have HP := hid_of (b2.put (.int .i64 (a - d)) (.int .i64 (b - e)) (.int .i64 (c - f)))
  clear b0 b1 b2 hb1 hb C0
  go_wp2
  obtain ⟨p0, p1, p2⟩ := HP.out
  refine bodyPost_ret (v := .tuple #[amt (a - d) (b - e) (c - f), .bool true]) (by simp [results, go_sem, p0, p1, p2]) rfl ⟨rfl, below_put HB.out (by omega) _ _ _⟩
end Go.Proofs.YtfcenombphodbaaDoor
