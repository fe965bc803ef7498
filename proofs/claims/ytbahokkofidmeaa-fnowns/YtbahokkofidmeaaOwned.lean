/-
  What is owned in a map: the program's own count.
-/
import Derived.Test.YtbahokkofidmeaaOwn
namespace Go.Proofs.Ytbahokkofidmeaa
open Go.RowKit Go.Maps
set_option linter.unusedVariables false

/-- Each of the first 'k' once. -/
def ownedTo (xs : List Int) (k : Nat) : Int → Option Int := fun x => if x ∈ xs.take k then some 1 else none
/-- The one ahead of place 'k'; -1 ahead of the first. -/
def lastOf (xs : List Int) (k : Nat) : Int := if k = 0 then -1 else xs.getD (k - 1) 0
theorem lastOf_low {xs : List Int} {k : Nat} (h : ∀ i, i < k → ownAt xs i = true) : -1 ≤ lastOf xs k ∧ lastOf xs k ≤ 3 := by
  unfold lastOf
  split
  · omega
  · have := h (k - 1) (by omega)
    unfold ownAt at this
    simp only [Bool.and_eq_true, decide_eq_true_eq] at this
    omega
theorem ownAt_last {xs : List Int} {k : Nat} (h : ∀ i, i < k → ownAt xs i = true) : ownAt xs k = true ↔ (lastOf xs k < xs.getD k 0 ∧ xs.getD k 0 < 4) := by
  have hl := lastOf_low h
  unfold ownAt lastOf at *
  by_cases hk : k = 0
  · simp only [hk, Bool.and_eq_true, decide_eq_true_eq, decide_true, Bool.true_or, if_true, and_true] at *
    omega
  · simp only [hk, Bool.and_eq_true, decide_eq_true_eq, decide_false, Bool.false_or, if_false] at *
    omega
theorem last_mono {xs : List Int} {k : Nat} (h : ∀ i, i < k → ownAt xs i = true) (hk : k ≤ xs.length) : ∀ i, i < k → xs.getD i 0 ≤ lastOf xs k := by
  induction k with
  | zero => intro i hi; omega
  | succ k ih =>
    intro i hi
    unfold lastOf
    simp only [Nat.add_eq_zero_iff, Nat.add_sub_cancel]
    rw [if_neg (by omega)]
    by_cases he : i = k
    · rw [he]; exact Int.le_refl _
    · have h1 := ih (fun i hi => h i (by omega)) (by omega) i (by omega)
      have h2 := ((ownAt_last (xs := xs) (k := k) (fun i hi => h i (by omega))).1 (h k (by omega))).1
      omega
theorem notin_take {xs : List Int} {k : Nat} (h : ∀ i, i < k → ownAt xs i = true) (hk : k ≤ xs.length) {x : Int} (hx : lastOf xs k < x) : x ∉ xs.take k := by
  intro hm
  obtain ⟨i, hi, he⟩ := List.getElem_of_mem hm
  simp only [List.length_take] at hi
  have := last_mono h hk i (by omega)
  rw [List.getElem_take] at he
  have hd : xs.getD i 0 = x := by rw [← he]; simp [List.getD, show i < xs.length by omega]
  omega
theorem ownedTo_more {xs : List Int} {k : Nat} (hk : k < xs.length) : putAt (ownedTo xs k) (xs.getD k 0) 1 = ownedTo xs (k + 1) := by
  funext x
  unfold putAt ownedTo
  have : xs.take (k + 1) = xs.take k ++ [xs.getD k 0] := by rw [List.take_add_one, List.getElem?_eq_getElem hk]; simp [hk]
  rw [this]
  by_cases h : x = xs.getD k 0
  · simp [h]
  · simp only [List.mem_append, List.mem_singleton, h, or_false, if_false]
theorem ownedTo_new {xs : List Int} {k : Nat} {x : Int} (h : x ∉ xs.take k) : ((ownedTo xs k) x).getD 0 = 0 := by simp [ownedTo, h]
theorem lastOf_succ (xs : List Int) (k : Nat) : lastOf xs (k + 1) = xs.getD k 0 := by simp [lastOf]

/-- A map and true where it is right; nil and false where it isn't. -/
def OwnedAns (xs : List Int) (g : Nat) (e : Ending) (w' : World) : Prop :=
  if ownOk xs then e = .returned (.tuple #[.map (some g), .bool true]) ∧ MapII w' g xs.length (ownedTo xs xs.length) else e = .returned (.tuple #[.map none, .bool false])

set_option maxHeartbeats 800000 in
theorem ownedOf_any (v : Value) (xs : List Int) (w : World) (hx : IsInts w v xs) (hn : xs.length ≤ 1048576) :
    Calls Try.prog 42 #[v] w fun e w' => OwnedAns xs w.heap.size e w' ∧ Below w.heap.size w w' := by
  obtain ⟨a, cap, rfl, hcap, hx⟩ := hx
  have HX : Hid (∀ i, i < xs.length → ∃ p, a = some p ∧ w.cell? (p.add i) = some (.int .i64 (xs.getD i 0))) := hx
  clear hx
  have hmm := @run_makeMap Try.prog
  have HM : Hid (MapII (w.alloc (.map #[] 0)) w.heap.size 0 (ownedTo xs 0)) := by
    have := MapII.made w
    have h0 : ownedTo xs 0 = fun _ => none := by funext x; simp [ownedTo]
    show MapII _ _ _ _
    rw [h0]; exact this
  have hb0 : Below w.heap.size w (w.alloc (.map #[] 0)) := (Below.refl _ _).alloc (Nat.le_refl _) _
  have HG : Hid (∀ i, i < xs.length → ∀ wr, Below w.heap.size w wr → ∃ p, a = some p ∧ wr.cell? (p.add i) = some (.int .i64 (xs.getD i 0))) := fun i hi wr hnx => by
    obtain ⟨p, hp, hc⟩ := HX.out i hi
    exact ⟨p, hp, (hnx.cell (World.block_lt_of_cell? w _ hc)).trans hc⟩
  clear HX
  go_enter Try.func42, Try.ntmps42
  go_wp2
  go_loopw [5, 11] (fun l i wr => ∃ k : Nat, k ≤ xs.length ∧ i = .int .i64 k ∧ l = .int .i64 (lastOf xs k) ∧ Hid (∀ i, i < k → ownAt xs i = true) ∧ Hid (MapII wr w.heap.size k (ownedTo xs k)) ∧ Below w.heap.size w wr) (fun _ i _ => xs.length - (intOf i).toNat)
  case atStart => exact ⟨0, Nat.zero_le _, rfl, rfl, fun i hi => absurd hi (Nat.not_lt_zero _), HM, hb0⟩
  case round =>
    obtain ⟨k, hk, rfl, rfl, hall, hmap, hnx⟩ := hrel
    clear HM hb0
    by_cases hlt : k < xs.length
    · obtain ⟨p, rfl, hc⟩ := HG.out k hlt wr hnx
      by_cases ho : ownAt xs k = true
      · obtain ⟨h1, h2⟩ := (ownAt_last hall.out).1 ho
        have hl := lastOf_low hall.out
        have hf : Hid (Fits64 (xs.getD k 0)) := show Fits64 _ by unfold Fits64; omega
        have hz : Hid (((ownedTo xs k) (xs.getD k 0)).getD 0 = 0) := ownedTo_new (notin_take hall.out hk h1)
        have H1 : Hid (∀ i, i < k + 1 → ownAt xs i = true) := fun i hi => by
          by_cases he : i = k
          · rw [he]; exact ho
          · exact hall.out i (by omega)
        have H2 : Hid (putAt (ownedTo xs k) (xs.getD k 0) 1 = ownedTo xs (k + 1)) := ownedTo_more hlt
        have H3 : Hid (lastOf xs (k + 1) = xs.getD k 0) := lastOf_succ xs k
        obtain ⟨x, hx⟩ : ∃ x, x = xs.getD k 0 := ⟨_, rfl⟩
        obtain ⟨l, hl'⟩ : ∃ l, l = lastOf xs k := ⟨_, rfl⟩
        rw [← hx] at hc h1 h2 hf hz H2 H3
        rw [← hl'] at h1 ⊢
        have g1 : ¬ x ≤ l := by omega
        have g2 : ¬ (4 : Int) ≤ x := by omega
        clear hx hl hl' ho hall h1 h2
        go_wp2_with (first | (at_lookup; refine wpList_look _ rfl _ _ rfl _ _ _ rfl hmap.out x rfl hf.out ?_; rw [hz.out]) | (at_mapUpdate; refine wpList_store _ rfl _ _ _ rfl _ _ _ rfl hmap.out (by unfold maxLen; omega) x 1 rfl rfl hf.out (by unfold Fits64; omega) ?_; intro w1 hmap1 hg1) | fail)
        go_roundw
        case rel => exact ⟨k + 1, by omega, by go_num, by rw [H3.out], H1, (show MapII _ _ _ _ by rw [← H2.out]; exact hmap1), hnx.grown hg1 hnx.size (fun j hj => by cases hj; exact Nat.le_refl _)⟩
        case measure => simp [intOf]; omega
      · have hl := lastOf_low hall.out
        have H1 : Hid (ownOk xs = false) := ownOk_no hlt (by simpa using ho)
        have hor : ¬ (lastOf xs k < xs.getD k 0 ∧ xs.getD k 0 < 4) := fun h => ho ((ownAt_last hall.out).2 h)
        obtain ⟨x, hx⟩ : ∃ x, x = xs.getD k 0 := ⟨_, rfl⟩
        obtain ⟨l, hl'⟩ : ∃ l, l = lastOf xs k := ⟨_, rfl⟩
        rw [← hx] at hc hor
        rw [← hl'] at hor ⊢
        clear hx hl hl' ho hall hmap
        by_cases g1 : x ≤ l
        · clear hor
          go_wp2
          go_ret2
          exact ⟨by unfold OwnedAns; rw [H1.out]; rfl, hnx⟩
        · have g2 : (4 : Int) ≤ x := by omega
          clear hor
          go_wp2
          go_ret2
          exact ⟨by unfold OwnedAns; rw [H1.out]; rfl, hnx⟩
    · obtain rfl : k = xs.length := by omega
      have H1 : Hid (ownOk xs = true) := ownOk_yes hall.out
      clear hall
      go_wp2
      go_ret2
      exact ⟨by unfold OwnedAns; rw [H1.out]; exact ⟨rfl, hmap.out⟩, hnx⟩

set_option maxHeartbeats 400000 in
theorem implOwnOk_any (v : Value) (xs : List Int) (w : World) (hx : IsInts w v xs) (hn : xs.length ≤ 1048576) :
    Calls Try.prog 14 #[v] w fun e w' => e = .returned (.bool (ownOk xs)) ∧ Below w.heap.size w w' := by
  have C := ownedOf_any v xs w hx hn
  unfold OwnedAns at C
  by_cases h : ownOk xs = true
  · rw [h] at C ⊢
    simp only [if_true] at C
    go_enter Try.func14, Try.ntmps14
    go_wp2_with fail
    refine C.mono ?_
    rintro e w' ⟨⟨rfl, _⟩, hb⟩
    clear C
    go_wp2
    go_ret
    exact ⟨rfl, hb⟩
  · have h' : ownOk xs = false := by simpa using h
    rw [h'] at C ⊢
    simp only [Bool.false_eq_true, if_false] at C
    go_enter Try.func14, Try.ntmps14
    go_wp2_with fail
    refine C.mono ?_
    rintro e w' ⟨rfl, hb⟩
    clear C
    go_wp2
    go_ret
    exact ⟨rfl, hb⟩
end Go.Proofs.Ytbahokkofidmeaa
