/-
  l4Own: what is owned is drawn; and an owner with two labels.
-/
import Derived.Test.YtbahokkofidmeaaDrawD
import Derived.Test.YtbahokkofidmeaaSFor
import Derived.Test.YtbahokkofidmeaaKeep2
namespace Go.Proofs.Ytbahokkofidmeaa
open Go.RowKit
set_option linter.unusedVariables false

/-- What lies there while it is drawn. -/
structure GrowI (w : World) (g s0 : Nat) (out : Value) (xs : List Int) (wr : World) : Prop where
  own : wr.ownsRow w.heap.size 3 1 out xs.length (icells xs)
  cur : CurE wr g s0
  grown : w.grownBy wr (some g)
theorem GrowI.size {w wr : World} {g s0 : Nat} {out : Value} {xs : List Int} (h : GrowI w g s0 out xs wr) : w.heap.size ≤ wr.heap.size := h.grown.size
theorem ownsI_empty (w : World) : (w.alloc (.cells #[] 3 (0, 0))).ownsRow w.heap.size 3 1 (.slice (some ⟨w.heap.size, 0, none⟩) 0 0) 0 [] :=
  ⟨by simp, .inr ⟨w.heap.size, 0, #[], rfl, Nat.le_refl _, heap_alloc_new w _, Nat.le_refl _, Nat.zero_le _, by simp, by simp⟩⟩
theorem growI_start {w : World} {g s0 : Nat} (h : CurE w g s0) (hs : s0 ≤ w.heap.size) : GrowI w g s0 (.slice (some ⟨w.heap.size, 0, none⟩) 0 0) [] (w.alloc (.cells #[] 3 (0, 0))) :=
  ⟨ownsI_empty w, h.below ((below_alloc w _).mono hs), grown_then (World.grownBy.refl _ _) (below_alloc w _) (Nat.le_refl _)⟩
theorem growI_by {w wr w' : World} {g s0 : Nat} {out : Value} {xs : List Int} (h : GrowI w g s0 out xs wr) (hs : s0 ≤ w.heap.size) (hc : CurE w' g s0) (hg : wr.grownBy w' (some g)) : GrowI w g s0 out xs w' := by
  have hlt := hc.lt
  exact ⟨own_kept h.own fun k o _ _ _ hl ho => grown_kept hg ho (by simp; omega), hc, grownBy_trans h.grown hg⟩
theorem growI_add {w wr w' : World} {g s0 : Nat} {out v' : Value} {xs ys : List Int} (h : GrowI w g s0 out xs wr) (hs : s0 ≤ w.heap.size) (ho : w'.ownsRow w.heap.size 3 1 v' ys.length (icells ys)) (hb : Below w.heap.size wr w') : GrowI w g s0 v' ys w' :=
  ⟨ho, h.cur.below (hb.mono hs), grown_then h.grown hb (Nat.le_refl _)⟩
theorem cell_newI (w : World) (x : Int) : ∀ (j : Nat) u, (icells [x])[j]? = some u → (w.alloc (.cells #[.int .i64 x] 3 (0, 0))).cell? ⟨w.heap.size, j, none⟩ = some u := by
  intro j u hj
  match j, hj with
  | 0, hj => simp [icells] at hj; subst hj; simp

set_option maxRecDepth 100000 in
set_option maxHeartbeats 2000000 in
theorem l4Own_any (w : World) (g s0 : Nat) (hc : CurE w g s0) (hs : s0 ≤ w.heap.size) :
    Calls Try.prog 37 #[.pointer (some ⟨g, 0, none⟩)] w fun e w' => ∃ v xs, e = .returned v ∧ xs.length ≤ 5 ∧ GrowI w g s0 v xs w' := by
  have HG0 : Hid (GrowI w g s0 (.slice (some ⟨w.heap.size, 0, none⟩) 0 0) [] (w.alloc (.cells #[] 3 (0, 0)))) := growI_start hc hs
  have Hs : Hid (s0 ≤ w.heap.size) := hs
  clear hc hs
  go_enter Try.func37, Try.ntmps37
  go_wp2
  go_loopw [3, 4] (fun l i wr => ∃ (k : Nat) (xs : List Int), k ≤ 4 ∧ i = .int .i64 k ∧ Hid (xs.length ≤ k) ∧ Hid (GrowI w g s0 l xs wr)) (fun _ i _ => 4 - (intOf i).toNat)
  case atStart => exact ⟨0, _, Nat.zero_le _, rfl, Nat.zero_le _, HG0⟩
  case round =>
    obtain ⟨k, xs, hk, rfl, HK, hg⟩ := hrel
    clear HG0
    by_cases hlt : k < 4
    · go_wp2_with fail
      refine (onceE wr g s0 3 hg.out.cur (by omega) (by omega)).mono ?_
      rintro e w5 ⟨b, rfl, hcE, hgr⟩
      have HG5 : Hid (GrowI w g s0 u3 xs w5) := growI_by hg.out Hs.out hcE hgr
      clear hcE hgr hg
      cases b with
      | false =>
        go_wp2
        exact ⟨⟨k + 1, _, by omega, by go_num, by have := HK.out; show _ ≤ _; omega, HG5⟩, by simp [intOf]; omega⟩
      | true =>
        go_wp2_with (first | (refine wpList_appI rfl (.tmp 12) (.tmp 14) rfl w5 (w5.alloc (.cells #[.int .i64 k] 3 (0, 0))) w.heap.size w5.heap.size u3 xs [(k : Int)] 1 1 rfl rfl (own_kept HG5.out.own fun kk o _ _ _ _ ho => by rw [heap_alloc_old _ _ (lt_of_block ho)]; exact ho) (cell_newI w5 k) rfl (by have := HK.out; omega) (by have := HG5.out.size; simp; omega) ((Below.refl _ _).alloc HG5.out.size _) ?_; intro v' w9 ho hb) | fail)
        exact ⟨⟨k + 1, _, by omega, by go_num, by have := HK.out; show _ ≤ _; rw [List.length_append]; simp; omega, growI_add HG5.out Hs.out ho.out hb.out⟩, by simp [intOf]; omega⟩
    · obtain rfl : k = 4 := by omega
      obtain ⟨a1, n1, c1, rfl⟩ := own_shape hg.out.own
      go_wp2_with fail
      refine (belowE wr g s0 20 hg.out.cur (by omega) (by omega)).mono ?_
      rintro e w5 ⟨v, rfl, hv, hcE, hgr⟩
      have HG5 : Hid (GrowI w g s0 (.slice a1 n1 c1) xs w5) := growI_by hg.out Hs.out hcE hgr
      clear hcE hgr hg
      by_cases h0 : v = 0
      · subst h0
        go_wp2_with (first | (refine wpList_appI rfl (.tmp 20) (.tmp 21) rfl w5 (w5.alloc (.cells #[.int .i64 4] 3 (0, 0))) w.heap.size w5.heap.size (.slice a1 n1 c1) xs [4] 1 1 rfl rfl (own_kept HG5.out.own fun kk o _ _ _ _ ho => by rw [heap_alloc_old _ _ (lt_of_block ho)]; exact ho) (cell_newI w5 4) rfl (by have := HK.out; omega) (by have := HG5.out.size; simp; omega) ((Below.refl _ _).alloc HG5.out.size _) ?_; intro v' w9 ho hb) | fail)
        go_ret
        exact ⟨_, _, rfl, by have := HK.out; rw [List.length_append]; simp; omega, growI_add HG5.out Hs.out ho.out hb.out⟩
      · by_cases h1 : v = 1
        · subst h1
          go_wp2_with (first | (refine wpList_appI rfl (.tmp 25) (.tmp 26) rfl w5 (w5.alloc (.cells #[.int .i64 0] 3 (0, 0))) w.heap.size w5.heap.size (.slice a1 n1 c1) xs [0] 1 1 rfl rfl (own_kept HG5.out.own fun kk o _ _ _ _ ho => by rw [heap_alloc_old _ _ (lt_of_block ho)]; exact ho) (cell_newI w5 0) rfl (by have := HK.out; omega) (by have := HG5.out.size; simp; omega) ((Below.refl _ _).alloc HG5.out.size _) ?_; intro v' w9 ho hb) | fail)
          go_ret
          exact ⟨_, _, rfl, by have := HK.out; rw [List.length_append]; simp; omega, growI_add HG5.out Hs.out ho.out hb.out⟩
        · have h0' : ¬ (v : Int) = 0 := by omega
          have h1' : ¬ (v : Int) = 1 := by omega
          go_wp2
          go_ret
          exact ⟨_, xs, rfl, by have := HK.out; omega, HG5.out⟩
end Go.Proofs.Ytbahokkofidmeaa
