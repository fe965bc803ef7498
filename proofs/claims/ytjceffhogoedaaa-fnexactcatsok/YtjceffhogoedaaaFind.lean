/-
  slices.IndexFunc and slices.ContainsFunc over a table; the program's CatsOk.
-/
import Derived.Test.YtjceffhogoedaaaEqCats
namespace Go.Proofs.Ytjceffhogoedaaa
open Go.RowKit
set_option linter.unusedVariables false

/-- The first place that passes; -1 if none does. -/
def firstOf (P : Int × Bool → Bool) : List (Int × Bool) → Nat → Int
  | [], _ => -1
  | c :: cs, k => if P c then k else firstOf P cs (k + 1)
theorem firstOf_at {P : Int × Bool → Bool} {cs : List (Int × Bool)} {k : Nat} (hk : k < cs.length) (hp : P (catAt cs k) = true) : firstOf P (cs.drop k) k = k := by
  rw [List.drop_eq_getElem_cons hk]
  unfold firstOf
  rw [if_pos]
  simpa [catAt, hk] using hp
theorem firstOf_next {P : Int × Bool → Bool} {cs : List (Int × Bool)} {k : Nat} (hk : k < cs.length) (hp : P (catAt cs k) = false) : firstOf P (cs.drop k) k = firstOf P (cs.drop (k + 1)) (k + 1) := by
  rw [List.drop_eq_getElem_cons hk]
  conv => lhs; unfold firstOf
  rw [if_neg]
  simpa [catAt, hk] using hp
theorem firstOf_end {P : Int × Bool → Bool} (cs : List (Int × Bool)) : firstOf P (cs.drop cs.length) cs.length = -1 := by
  rw [List.drop_length]; rfl

/-- Is a generation wrong? -/
def genWrong (c : Int × Bool) : Bool := !genOk c
/-- May one be made there? -/
def mayMake (c : Int × Bool) : Bool := !c.2 && decide (c.1 < 999)

set_option maxHeartbeats 400000 in
theorem wrongGen_any (x : Int) (b : Bool) (w : World) :
    Calls Try.prog 33 #[.agg #[.int .i64 x, .bool b]] w fun e w' => e = .returned (.bool (genWrong (x, b))) ∧ Below w.heap.size w w' := by
  have HB : Hid (Below w.heap.size w (w.alloc (.cells #[.int .i64 x, .bool b] 43 (0, 0)))) := (Below.refl _ _).alloc (Nat.le_refl _) _
  by_cases h1 : x < 0
  · rw [show genWrong (x, b) = true by simp [genWrong, genOk]; omega]
    go_enter Try.func33, Try.ntmps33
    go_wp2
    go_ret
    exact ⟨by first | rfl | (simp; done) | (simp; omega), HB.out⟩
  · by_cases h2 : (999 : Int) < x
    · rw [show genWrong (x, b) = true by simp [genWrong, genOk]; omega]
      go_enter Try.func33, Try.ntmps33
      go_wp2
      go_ret
      exact ⟨by first | rfl | (simp; done) | (simp; omega), HB.out⟩
    · rw [show genWrong (x, b) = false by simp [genWrong, genOk]; omega]
      go_enter Try.func33, Try.ntmps33
      go_wp2
      go_ret
      exact ⟨by first | rfl | (simp; done) | (simp; omega), HB.out⟩

set_option maxHeartbeats 400000 in
theorem mayBeMade_any (x : Int) (b : Bool) (w : World) :
    Calls Try.prog 27 #[.agg #[.int .i64 x, .bool b]] w fun e w' => e = .returned (.bool (mayMake (x, b))) ∧ Below w.heap.size w w' := by
  have HB : Hid (Below w.heap.size w (w.alloc (.cells #[.int .i64 x, .bool b] 43 (0, 0)))) := (Below.refl _ _).alloc (Nat.le_refl _) _
  cases b
  · by_cases h2 : x < 999
    · rw [show mayMake (x, false) = true by simp [mayMake]; omega]
      go_enter Try.func27, Try.ntmps27
      go_wp2
      go_ret
      exact ⟨rfl, HB.out⟩
    · rw [show mayMake (x, false) = false by simp [mayMake]; omega]
      go_enter Try.func27, Try.ntmps27
      go_wp2
      go_ret
      exact ⟨by first | rfl | (simp; omega) | simp, HB.out⟩
  · rw [show mayMake (x, true) = false by simp [mayMake]]
    go_enter Try.func27, Try.ntmps27
    go_wp2
    go_ret
    exact ⟨rfl, HB.out⟩

set_option maxHeartbeats 400000 in
theorem indexWrong_any (v : Value) (cs : List (Int × Bool)) (w : World) (hx : IsCats w v cs) (hn : cs.length ≤ 1048576) :
    Calls Try.prog 26 #[v, .func (.func 33) #[] #[]] w fun e w' => e = .returned (.int .i64 (firstOf genWrong cs 0)) ∧ Below w.heap.size w w' := by
  have hx0 := hx
  obtain ⟨a, cap, rfl, hcap, _⟩ := hx
  have HX : Hid (∀ wr, Below w.heap.size w wr → IsCats wr (.slice a cs.length cap) cs) := fun wr hb => hx0.on hb
  have HF : Hid (∀ x b w, Calls Try.prog 33 #[.agg #[.int .i64 x, .bool b]] w fun e w' => e = .returned (.bool (genWrong (x, b))) ∧ Below w.heap.size w w') := wrongGen_any
  obtain ⟨ans, hans⟩ : ∃ r, r = firstOf genWrong cs 0 := ⟨_, rfl⟩
  rw [← hans]
  have HA : Hid (ans = firstOf genWrong (cs.drop 0) 0) := hans
  clear hx0 hans
  go_enter Try.func26, Try.ntmps26
  go_wp2
  go_loopw [8] (fun i wr => ∃ k : Nat, k ≤ cs.length ∧ i = .int .i64 k ∧ Hid (ans = firstOf genWrong (cs.drop k) k) ∧ Below w.heap.size w wr) (fun i _ => cs.length - (intOf i).toNat)
  case atStart => exact ⟨0, Nat.zero_le _, rfl, HA, Below.refl _ _⟩
  case round =>
    obtain ⟨k, hk, rfl, ha, hnx⟩ := hrel
    clear HA
    by_cases hlt : k < cs.length
    · obtain ⟨p, q, rfl, hq, c1, c2⟩ := (HX.out wr hnx).at hlt
      have C := HF.out (catAt cs k).1 (catAt cs k).2 wr
      by_cases hp : genWrong (catAt cs k) = true
      · have H1 : Hid (ans = (k : Int)) := ha.out.trans (firstOf_at hlt hp)
        rw [show genWrong ((catAt cs k).1, (catAt cs k).2) = true from hp] at C
        generalize (catAt cs k).1 = x at c1 C
        generalize (catAt cs k).2 = y at c2 C
        clear hp ha
        go_wp2_with fail
        refine C.mono ?_
        rintro e w1 ⟨rfl, hb1⟩
        have HB1 : Hid (Below w.heap.size w w1) := hnx.trans (hb1.mono hnx.size)
        clear C hb1 hq c1 c2
        go_wp2
        go_ret
        exact ⟨by rw [H1.out]; rfl, HB1.out⟩
      · have hp' : genWrong (catAt cs k) = false := by simpa using hp
        have H1 : Hid (ans = firstOf genWrong (cs.drop (k + 1)) (k + 1)) := ha.out.trans (firstOf_next hlt hp')
        rw [show genWrong ((catAt cs k).1, (catAt cs k).2) = false from hp'] at C
        generalize (catAt cs k).1 = x at c1 C
        generalize (catAt cs k).2 = y at c2 C
        clear hp hp' ha
        go_wp2_with fail
        refine C.mono ?_
        rintro e w1 ⟨rfl, hb1⟩
        have HB1 : Hid (Below w.heap.size w w1) := hnx.trans (hb1.mono hnx.size)
        clear C hb1 hq c1 c2
        go_wp2
        exact ⟨⟨k + 1, by omega, by go_num, H1, HB1.out⟩, by simp [intOf]; omega⟩
    · obtain rfl : k = cs.length := by omega
      have H1 : Hid (ans = -1) := ha.out.trans (firstOf_end cs)
      go_wp2
      go_ret
      exact ⟨by rw [H1.out]; rfl, hnx⟩

set_option maxHeartbeats 400000 in
theorem containsWrong_any (v : Value) (cs : List (Int × Bool)) (w : World) (hx : IsCats w v cs) (hn : cs.length ≤ 1048576) :
    Calls Try.prog 32 #[v, .func (.func 33) #[] #[]] w fun e w' => e = .returned (.bool (decide (0 ≤ firstOf genWrong cs 0))) ∧ Below w.heap.size w w' := by
  have C := indexWrong_any v cs w hx hn
  clear hx
  generalize firstOf genWrong cs 0 = r at C ⊢
  by_cases h : 0 ≤ r
  · rw [decide_eq_true h]
    go_enter Try.func32, Try.ntmps32
    go_wp2_with fail
    refine C.mono ?_
    rintro e w1 ⟨rfl, hb1⟩
    clear C
    go_wp2
    go_ret
    exact ⟨rfl, hb1⟩
  · rw [decide_eq_false h]
    have h' : ¬ (0 : Int) ≤ r := h
    go_enter Try.func32, Try.ntmps32
    go_wp2_with fail
    refine C.mono ?_
    rintro e w1 ⟨rfl, hb1⟩
    clear C
    go_wp2
    go_ret
    exact ⟨by simp; omega, hb1⟩

set_option maxHeartbeats 400000 in
theorem indexMay_any (v : Value) (cs : List (Int × Bool)) (w : World) (hx : IsCats w v cs) (hn : cs.length ≤ 1048576) :
    Calls Try.prog 26 #[v, .func (.func 27) #[] #[]] w fun e w' => e = .returned (.int .i64 (firstOf mayMake cs 0)) ∧ Below w.heap.size w w' := by
  have hx0 := hx
  obtain ⟨a, cap, rfl, hcap, _⟩ := hx
  have HX : Hid (∀ wr, Below w.heap.size w wr → IsCats wr (.slice a cs.length cap) cs) := fun wr hb => hx0.on hb
  have HF : Hid (∀ x b w, Calls Try.prog 27 #[.agg #[.int .i64 x, .bool b]] w fun e w' => e = .returned (.bool (mayMake (x, b))) ∧ Below w.heap.size w w') := mayBeMade_any
  obtain ⟨ans, hans⟩ : ∃ r, r = firstOf mayMake cs 0 := ⟨_, rfl⟩
  rw [← hans]
  have HA : Hid (ans = firstOf mayMake (cs.drop 0) 0) := hans
  clear hx0 hans
  go_enter Try.func26, Try.ntmps26
  go_wp2
  go_loopw [8] (fun i wr => ∃ k : Nat, k ≤ cs.length ∧ i = .int .i64 k ∧ Hid (ans = firstOf mayMake (cs.drop k) k) ∧ Below w.heap.size w wr) (fun i _ => cs.length - (intOf i).toNat)
  case atStart => exact ⟨0, Nat.zero_le _, rfl, HA, Below.refl _ _⟩
  case round =>
    obtain ⟨k, hk, rfl, ha, hnx⟩ := hrel
    clear HA
    by_cases hlt : k < cs.length
    · obtain ⟨p, q, rfl, hq, c1, c2⟩ := (HX.out wr hnx).at hlt
      have C := HF.out (catAt cs k).1 (catAt cs k).2 wr
      by_cases hp : mayMake (catAt cs k) = true
      · have H1 : Hid (ans = (k : Int)) := ha.out.trans (firstOf_at hlt hp)
        rw [show mayMake ((catAt cs k).1, (catAt cs k).2) = true from hp] at C
        generalize (catAt cs k).1 = x at c1 C
        generalize (catAt cs k).2 = y at c2 C
        clear hp ha
        go_wp2_with fail
        refine C.mono ?_
        rintro e w1 ⟨rfl, hb1⟩
        have HB1 : Hid (Below w.heap.size w w1) := hnx.trans (hb1.mono hnx.size)
        clear C hb1 hq c1 c2
        go_wp2
        go_ret
        exact ⟨by rw [H1.out]; rfl, HB1.out⟩
      · have hp' : mayMake (catAt cs k) = false := by simpa using hp
        have H1 : Hid (ans = firstOf mayMake (cs.drop (k + 1)) (k + 1)) := ha.out.trans (firstOf_next hlt hp')
        rw [show mayMake ((catAt cs k).1, (catAt cs k).2) = false from hp'] at C
        generalize (catAt cs k).1 = x at c1 C
        generalize (catAt cs k).2 = y at c2 C
        clear hp hp' ha
        go_wp2_with fail
        refine C.mono ?_
        rintro e w1 ⟨rfl, hb1⟩
        have HB1 : Hid (Below w.heap.size w w1) := hnx.trans (hb1.mono hnx.size)
        clear C hb1 hq c1 c2
        go_wp2
        exact ⟨⟨k + 1, by omega, by go_num, H1, HB1.out⟩, by simp [intOf]; omega⟩
    · obtain rfl : k = cs.length := by omega
      have H1 : Hid (ans = -1) := ha.out.trans (firstOf_end cs)
      go_wp2
      go_ret
      exact ⟨by rw [H1.out]; rfl, hnx⟩

theorem firstWrong {cs : List (Int × Bool)} (hl : cs.length = 4) : (!decide (0 ≤ firstOf genWrong cs 0)) = catsOk cs := by
  match cs, hl with
  | [c0, c1, c2, c3], _ =>
    have hr : List.range 4 = [0, 1, 2, 3] := rfl
    by_cases h0 : genOk c0 = true <;> by_cases h1 : genOk c1 = true <;> by_cases h2 : genOk c2 = true <;> by_cases h3 : genOk c3 = true <;> simp [firstOf, catsOk, genWrong, catAt, hr, h0, h1, h2, h3]

set_option maxHeartbeats 400000 in
theorem implCatsOk_any (v : Value) (cs : List (Int × Bool)) (w : World) (hx : IsCats w v cs) (hn : cs.length ≤ 1048576) :
    Calls Try.prog 16 #[v] w fun e w' => e = .returned (.bool (catsOk cs)) ∧ Below w.heap.size w w' := by
  have C := containsWrong_any v cs w hx hn
  obtain ⟨a, cap, rfl, hcap, _⟩ := hx
  by_cases hl : cs.length = 4
  · have hw := firstWrong hl
    rw [← hw]
    generalize decide (0 ≤ firstOf genWrong cs 0) = b at C ⊢
    rw [hl] at C ⊢
    clear hw hl
    go_enter Try.func16, Try.ntmps16
    go_wp2_with fail
    refine C.mono ?_
    rintro e w1 ⟨rfl, hb1⟩
    clear C
    go_wp2
    go_ret
    exact ⟨rfl, hb1⟩
  · rw [catsOk_len hl]
    have hne : ((cs.length : Int) == 4) = false := by simp; omega
    clear C
    go_enter Try.func16, Try.ntmps16
    go_wp2
    go_ret
    exact ⟨by first | rfl | (simp; omega) | simp, Below.refl _ _⟩
end Go.Proofs.Ytjceffhogoedaaa
