/-
  Where a category is: the model's answer and the program's.
-/
import Derived.Test.YtjceffhogoedaaaFind
import Derived.Test.YtjceffhogoedaaaMap
namespace Go.Proofs.Ytjceffhogoedaaa
open Go.RowKit Go.Maps
set_option linter.unusedVariables false

/-- The id of the category at a place. -/
def idAt (cs : List (Int × Bool)) (k : Nat) : Int := (k : Int) + 4 * (catAt cs k).1
/-- The live ones of the first 'k', by their ids. -/
def liveTo (cs : List (Int × Bool)) : Nat → Int → Option Int
  | 0 => fun _ => none
  | k + 1 => if (catAt cs k).2 then putAt (liveTo cs k) (idAt cs k) k else liveTo cs k
/-- Where a category is; -1 if it is nowhere. -/
def catOf (cs : List (Int × Bool)) (id : Int) : Int :=
  if catsOk cs = true ∧ 0 ≤ id ∧ (catAt cs (id.toNat % 4)).2 = true ∧ (catAt cs (id.toNat % 4)).1 = ((id.toNat / 4 : Nat) : Int) then ((id.toNat % 4 : Nat) : Int) else -1
theorem liveTo_live {cs : List (Int × Bool)} {k : Nat} (h : (catAt cs k).2 = true) : liveTo cs (k + 1) = putAt (liveTo cs k) (idAt cs k) k := by conv => lhs; unfold liveTo; rw [if_pos h]
theorem liveTo_dead {cs : List (Int × Bool)} {k : Nat} (h : (catAt cs k).2 = false) : liveTo cs (k + 1) = liveTo cs k := by conv => lhs; unfold liveTo; rw [if_neg (by rw [h]; simp)]
theorem liveTo_some {cs : List (Int × Bool)} (hg : ∀ i, i < 4 → 0 ≤ (catAt cs i).1) : ∀ k, k ≤ 4 → ∀ i, i < k → (catAt cs i).2 = true → liveTo cs k (idAt cs i) = some (i : Int) := by
  intro k
  induction k with
  | zero => intro _ i hi; omega
  | succ k ih =>
    intro hk i hi hl
    by_cases he : i = k
    · subst he
      rw [liveTo_live hl]; simp [putAt]
    · have := ih (by omega) i (by omega) hl
      cases hb : (catAt cs k).2 with
      | false => rw [liveTo_dead hb]; exact this
      | true =>
        rw [liveTo_live hb]
        unfold putAt
        rw [if_neg]
        · exact this
        · unfold idAt
          have h1 := hg i (by omega)
          have h2 := hg k (by omega)
          omega
theorem liveTo_none {cs : List (Int × Bool)} {x : Int} : ∀ k, (∀ i, i < k → (catAt cs i).2 = true → x ≠ idAt cs i) → liveTo cs k x = none := by
  intro k
  induction k with
  | zero => intro _; rfl
  | succ k ih =>
    intro h
    have h0 := ih fun i hi => h i (by omega)
    cases hb : (catAt cs k).2 with
    | false => rw [liveTo_dead hb]; exact h0
    | true =>
      rw [liveTo_live hb]
      unfold putAt
      rw [if_neg (h k (by omega) hb)]; exact h0
theorem catOf_live {cs : List (Int × Bool)} (h : catsOk cs = true) (id : Int) : catOf cs id = (liveTo cs 4 id).getD (-1) ∧ ((liveTo cs 4 id).isSome = decide (0 ≤ catOf cs id)) := by
  have hg : ∀ i, i < 4 → 0 ≤ (catAt cs i).1 := fun i hi => (catsOk_gen h hi).1
  by_cases hc : 0 ≤ id ∧ (catAt cs (id.toNat % 4)).2 = true ∧ (catAt cs (id.toNat % 4)).1 = ((id.toNat / 4 : Nat) : Int)
  · have hid : id = idAt cs (id.toNat % 4) := by unfold idAt; rw [hc.2.2]; omega
    have hs := liveTo_some hg 4 (Nat.le_refl _) (id.toNat % 4) (by omega) hc.2.1
    rw [← hid] at hs
    have hv : catOf cs id = ((id.toNat % 4 : Nat) : Int) := by unfold catOf; rw [if_pos ⟨h, hc⟩]
    rw [hs, hv]
    exact ⟨rfl, by rw [decide_eq_true (by omega)]; rfl⟩
  · have hv : catOf cs id = -1 := by unfold catOf; rw [if_neg (fun hh => hc hh.2)]
    have hn : liveTo cs 4 id = none := liveTo_none 4 fun i hi hl he => hc (by
      have h1 := hg i hi
      unfold idAt at he
      have h2 : id.toNat % 4 = i := by omega
      refine ⟨by omega, by rw [h2]; exact hl, ?_⟩
      rw [h2]; omega)
    rw [hn, hv]
    exact ⟨rfl, rfl⟩
theorem catOf_no {cs : List (Int × Bool)} (h : catsOk cs = false) (id : Int) : catOf cs id = -1 := by
  unfold catOf; rw [if_neg (fun hh => by rw [h] at hh; exact absurd hh.1 (by simp))]

set_option maxHeartbeats 400000 in
theorem catId_any (k : Nat) (x : Int) (w : World) (hk : k < 4) (h0 : 0 ≤ x) (h1 : x ≤ 1000) :
    Calls Try.prog 28 #[.int .i64 (k : Int), .int .i64 x] w fun e w' => e = .returned (.int .i64 ((k : Int) + 4 * x)) ∧ w' = w := by
  have e1 : wrap64 (4 * x) = 4 * x := by unfold wrap64; omega
  have e2 : wrap64 ((k : Int) + 4 * x) = (k : Int) + 4 * x := by unfold wrap64; omega
  go_enter Try.func28, Try.ntmps28
  go_wp2
  go_ret
  exact ⟨rfl, rfl⟩

set_option maxHeartbeats 800000 in
theorem livePlaces_any (v : Value) (cs : List (Int × Bool)) (w : World) (hx : IsCats w v cs) (hok : catsOk cs = true) :
    Calls Try.prog 29 #[v] w fun e w' => e = .returned (.map (some w.heap.size)) ∧ MapII w' w.heap.size 4 (liveTo cs 4) ∧ Below w.heap.size w w' := by
  have hl := catsOk_four hok
  have hx0 := hx
  obtain ⟨a, cap, rfl, hcap, _⟩ := hx
  have HX : Hid (∀ wr, Below w.heap.size w wr → ∀ i, i < 4 → ∃ p q, a = some p ∧ p.add (i * 2) = q ∧ wr.cell? q = some (.int .i64 (catAt cs i).1) ∧ wr.cell? ⟨q.block, q.off + 1, none⟩ = some (.bool (catAt cs i).2)) := fun wr hb i hi => (hx0.on hb).at (by omega)
  have HGen : Hid (∀ i, i < 4 → 0 ≤ (catAt cs i).1 ∧ (catAt cs i).1 ≤ 999) := fun i hi => catsOk_gen hok hi
  rw [hl] at hcap ⊢
  have hmm := @run_makeMap Try.prog
  have HM : Hid (MapII (w.alloc (.map #[] 0)) w.heap.size 0 (liveTo cs 0)) := MapII.made w
  have hb0 : Below w.heap.size w (w.alloc (.map #[] 0)) := (Below.refl _ _).alloc (Nat.le_refl _) _
  clear hx0 hl hok
  go_enter Try.func29, Try.ntmps29
  go_wp2
  go_loopw [9] (fun i wr => ∃ k : Nat, k ≤ 4 ∧ i = .int .i64 k ∧ Hid (MapII wr w.heap.size k (liveTo cs k)) ∧ Below w.heap.size w wr) (fun i _ => 4 - (intOf i).toNat)
  case atStart => exact ⟨0, Nat.zero_le _, rfl, HM, hb0⟩
  case round =>
    obtain ⟨k, hk, rfl, hmap, hnx⟩ := hrel
    clear HM hb0 hmm
    by_cases hlt : k < 4
    · obtain ⟨p, q, rfl, hq, c1, c2⟩ := HX.out wr hnx k hlt
      obtain ⟨g0, g1⟩ := HGen.out k hlt
      have hsz := hnx.size
      cases hb : (catAt cs k).2 with
      | false =>
        have HT : Hid (liveTo cs (k + 1) = liveTo cs k) := liveTo_dead hb
        rw [hb] at c2
        generalize (catAt cs k).1 = x at c1 g0 g1
        have HM1 : Hid (MapII (wr.alloc (.cells #[.int .i64 x, .bool false] 43 (0, 0))) w.heap.size (k + 1) (liveTo cs (k + 1))) := by
          show MapII _ _ _ _
          rw [HT.out]; exact (hmap.out.kept (World.grownBy_alloc _ _ none) (by simp)).mono (Nat.le_succ _)
        have hn1 : Below w.heap.size w (wr.alloc (.cells #[.int .i64 x, .bool false] 43 (0, 0))) := hnx.alloc hsz _
        clear hb hmap
        go_wp2
        exact ⟨⟨k + 1, by omega, by go_num, HM1, hn1⟩, by simp [intOf]; omega⟩
      | true =>
        have HT : Hid (liveTo cs (k + 1) = putAt (liveTo cs k) (idAt cs k) k) := liveTo_live hb
        unfold idAt at HT
        rw [hb] at c2
        generalize (catAt cs k).1 = x at c1 g0 g1 HT
        have C := catId_any k x (wr.alloc (.cells #[.int .i64 x, .bool true] 43 (0, 0))) hlt g0 (by omega)
        have HM1 : Hid (MapII (wr.alloc (.cells #[.int .i64 x, .bool true] 43 (0, 0))) w.heap.size k (liveTo cs k)) := hmap.out.kept (World.grownBy_alloc _ _ none) (by simp)
        have hn1 : Below w.heap.size w (wr.alloc (.cells #[.int .i64 x, .bool true] 43 (0, 0))) := hnx.alloc hsz _
        have f1 : Hid (Fits64 ((k : Int) + 4 * x)) := show Fits64 _ by unfold Fits64; omega
        have f2 : Hid (Fits64 (k : Int)) := show Fits64 _ by unfold Fits64; omega
        clear hb hmap g0 g1
        go_wp2_with (first | (go_at_call 28; refine C.mono ?_; rintro e w1 ⟨rfl, rfl⟩) | (at_mapUpdate; refine wpList_store _ rfl _ _ _ rfl _ _ _ rfl HM1.out (by unfold maxLen; omega) ((k : Int) + 4 * x) (k : Int) rfl rfl f1.out f2.out ?_; intro w2 hmap2 hg2))
        go_roundw
        case rel => exact ⟨k + 1, by omega, by go_num, (show MapII _ _ _ _ by rw [HT.out]; exact hmap2), hn1.grown hg2 hn1.size (fun j hj => by cases hj; exact Nat.le_refl _)⟩
        case measure => simp [intOf]; omega
    · obtain rfl : k = 4 := by omega
      go_wp2
      go_ret
      exact ⟨rfl, hmap.out, hnx⟩
end Go.Proofs.Ytjceffhogoedaaa
