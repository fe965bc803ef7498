/-
  The laws' marks on a table.
-/
import Derived.Test.YtjceffhogoedaaaCatDrop
namespace Go.Proofs.Ytjceffhogoedaaa
open Go.RowKit
set_option linter.unusedVariables false

def thirdB (x : Int) : Bool := x.tmod 3 == 0
/-- The marks. -/
def upC (k0 : Int) (i : Nat) : Int × Bool := (k0 + 2 * (i : Int), thirdB (k0 + 2 * (i : Int) + 1))
def upCats (k0 : Int) (n : Nat) : List (Int × Bool) := (List.range n).map (upC k0)
theorem upCats_length (k0 : Int) (n : Nat) : (upCats k0 n).length = n := by simp [upCats]
theorem upCats_at (k0 : Int) (n i : Nat) (h : i < n) : catAt (upCats k0 n) i = upC k0 i := by simp [catAt, upCats, h]
def markC (cs : List (Int × Bool)) (k0 : Int) (k : Nat) : List (Int × Bool) := upCats k0 k ++ cs.drop k
theorem markC_length (cs : List (Int × Bool)) (k0 : Int) (k : Nat) (h : k ≤ cs.length) : (markC cs k0 k).length = cs.length := by simp [markC, upCats]; omega
theorem markC_start (cs : List (Int × Bool)) (k0 : Int) : markC cs k0 0 = cs := by simp [markC, upCats]
theorem markC_end (cs : List (Int × Bool)) (k0 : Int) : markC cs k0 cs.length = upCats k0 cs.length := by simp [markC]
theorem markC_set (cs : List (Int × Bool)) (k0 : Int) (k : Nat) (h : k < cs.length) : (markC cs k0 k).set k (upC k0 k) = markC cs k0 (k + 1) := by
  unfold markC
  have e : upCats k0 (k + 1) = upCats k0 k ++ [upC k0 k] := by simp [upCats, List.range_succ]
  rw [List.set_append_right _ _ (by rw [upCats_length]; exact Nat.le_refl _), upCats_length, Nat.sub_self, e, List.append_assoc, List.drop_eq_getElem_cons h, List.set_cons_zero]
  rfl
theorem grownBy_trans {w w1 w2 : World} {row : Option Nat} (h1 : w.grownBy w1 row) (h2 : w1.grownBy w2 row) : w.grownBy w2 row := by
  obtain ⟨a1, b1, c1, d1, e1⟩ := h1
  obtain ⟨a2, b2, c2, d2, e2⟩ := h2
  exact ⟨a2.trans a1, b2.trans b1, c2.trans c1, Nat.le_trans d1 d2, fun k hk hne => (e2 k (by omega) hne).trans (e1 k hk hne)⟩

set_option maxHeartbeats 800000 in
theorem markC_own (g cap : Nat) (cs : List (Int × Bool)) (rs : List Value) (lo hi : Nat) (k0 : Int) (w : World) (h : OwnC g cap cs rs lo hi w) (hn : cs.length ≤ 1048576) (h0 : 0 ≤ k0) (h1 : k0 ≤ 1099511627776) :
    Calls Try.prog 19 #[.slice (some ⟨g, 0, none⟩) cs.length cap, .int .i64 k0] w fun e w' => e = .returned (.int .i64 (k0 + 2 * (cs.length : Int))) ∧ OwnC g cap (upCats k0 cs.length) rs lo hi w' ∧ w.grownBy w' (some g) := by
  have H0 : Hid (CatsIn w g (markC cs k0 0) rs) := by show CatsIn _ _ _ _; rw [markC_start]; exact h.at'
  have hcap := h.cap
  have HE : Hid (∀ w', CatsIn w' g (markC cs k0 cs.length) rs → OwnC g cap (upCats k0 cs.length) rs lo hi w') := fun w' h' => ⟨by rw [markC_end] at h'; exact h', by rw [upCats_length]; exact h.cap, h.lo, h.hi⟩
  clear h
  go_enter Try.func19, Try.ntmps19
  go_wp2
  go_loopw [1, 5] (fun q i wr => ∃ k : Nat, k ≤ cs.length ∧ i = .int .i64 k ∧ q = .int .i64 (k0 + 2 * (k : Int)) ∧ Hid (CatsIn wr g (markC cs k0 k) rs) ∧ w.grownBy wr (some g)) (fun _ i _ => cs.length - (intOf i).toNat)
  case atStart => exact ⟨0, Nat.zero_le _, rfl, by simp, H0, World.grownBy.refl _ _⟩
  case round =>
    obtain ⟨k, hk, rfl, rfl, hrow, hgr⟩ := hrel
    clear H0
    by_cases hlt : k < cs.length
    · have hkl : k < (markC cs k0 k).length := by rw [markC_length _ _ _ hk]; exact hlt
      obtain ⟨d1, d2⟩ := hrow.out.cell k hkl
      have f1 := hrow.out.free (k * 2)
      have r1 := hrow.out.setGen k hkl (k0 + 2 * (k : Int))
      have d3 := (r1.cell k (by simp only [List.length_set]; exact hkl)).2
      have f2 := r1.free (k * 2 + 1)
      have r2 := r1.setLive k (by simp only [List.length_set]; exact hkl) (thirdB (k0 + 2 * (k : Int) + 1))
      have hc : (catAt ((markC cs k0 k).set k (k0 + 2 * (k : Int), (catAt (markC cs k0 k) k).2)) k).1 = k0 + 2 * (k : Int) := by simp [catAt, hkl]
      rw [hc, List.set_set, show (k0 + 2 * (k : Int), thirdB (k0 + 2 * (k : Int) + 1)) = upC k0 k from rfl, markC_set cs k0 k hlt] at r2
      generalize catAt (markC cs k0 k) k = ct at d1 d2
      generalize (catAt ((markC cs k0 k).set k (k0 + 2 * (k : Int), _)) k).2 = bb at d3
      have HR : Hid (CatsIn ((wr.setCell ⟨g, k * 2, none⟩ (.int .i64 (k0 + 2 * (k : Int)))).setCell ⟨g, k * 2 + 1, none⟩ (.bool (thirdB (k0 + 2 * (k : Int) + 1)))) g (markC cs k0 (k + 1)) rs) := r2
      have hg2 : w.grownBy ((wr.setCell ⟨g, k * 2, none⟩ (.int .i64 (k0 + 2 * (k : Int)))).setCell ⟨g, k * 2 + 1, none⟩ (.bool (thirdB (k0 + 2 * (k : Int) + 1)))) (some g) := grownBy_trans (grownBy_trans hgr (grownBy_set _ _ _ _)) (grownBy_set _ _ _ _)
      have hx1 : wrap64 (k0 + 2 * (k : Int) + 1) = k0 + 2 * (k : Int) + 1 := by unfold wrap64; omega
      have hx2 : wrap64 (k0 + 2 * (k : Int) + 1 + 1) = k0 + 2 * (k : Int) + 1 + 1 := by unfold wrap64; omega
      have ht : ((k0 + 2 * (k : Int) + 1).tmod 3 == 0) = thirdB (k0 + 2 * (k : Int) + 1) := rfl
      have HQ : Hid (k0 + 2 * (k : Int) + 1 + 1 = k0 + 2 * ((k + 1 : Nat) : Int)) := by show _ = _; omega
      generalize thirdB (k0 + 2 * (k : Int) + 1) = tb at HR hg2 ht
      obtain ⟨y, hy⟩ : ∃ y, y = k0 + 2 * (k : Int) := ⟨_, rfl⟩
      rw [← hy] at d3 f2 HR hg2 hx1 hx2 ht HQ ⊢
      clear r1 r2 hc hrow hgr hkl hy
      go_wp2
      go_roundw
      case rel => exact ⟨k + 1, by omega, by go_num, by first | rw [← HQ.out, hx2] | rw [← HQ.out], HR, hg2⟩
      case measure => simp [intOf]; omega
    · obtain rfl : k = cs.length := by omega
      have HO := HE.out wr hrow.out
      clear hrow HE
      go_wp2
      go_ret
      exact ⟨rfl, HO, hgr⟩

set_option maxHeartbeats 800000 in
theorem heldC_up (v : Value) (n : Nat) (k0 : Int) (w : World) (hx : IsCats w v (upCats k0 n)) (hn : n ≤ 1048576) (h0 : 0 ≤ k0) (h1 : k0 ≤ 1099511627776) :
    Calls Try.prog 20 #[v, .int .i64 k0] w fun e w' => e = .returned (.int .i64 (k0 + 2 * (n : Int))) ∧ w' = w := by
  obtain ⟨a, cap, rfl, hcap, _⟩ := id hx
  rw [upCats_length] at hcap hx ⊢
  have HX : Hid (∀ i, i < n → ∃ p q, a = some p ∧ p.add (i * 2) = q ∧ w.cell? q = some (.int .i64 (k0 + 2 * (i : Int))) ∧ w.cell? ⟨q.block, q.off + 1, none⟩ = some (.bool (thirdB (k0 + 2 * (i : Int) + 1)))) := fun i hi => by
    obtain ⟨p, q, h1, h2, h3, h4⟩ := hx.at (i := i) (by rw [upCats_length]; exact hi)
    rw [upCats_at k0 n i hi] at h3 h4
    exact ⟨p, q, h1, h2, h3, h4⟩
  clear hx
  go_enter Try.func20, Try.ntmps20
  go_wp2
  go_loop [1, 5] (fun q i => ∃ k : Nat, k ≤ n ∧ i = .int .i64 k ∧ q = .int .i64 (k0 + 2 * (k : Int))) (fun _ i => n - (intOf i).toNat)
  case atStart => exact ⟨0, Nat.zero_le _, rfl, by simp⟩
  case round =>
    obtain ⟨k, hk, rfl, rfl⟩ := hrel
    by_cases hlt : k < n
    · obtain ⟨p, q, rfl, hq, c1, c2⟩ := HX.out k hlt
      have hx1 : wrap64 (k0 + 2 * (k : Int) + 1) = k0 + 2 * (k : Int) + 1 := by unfold wrap64; omega
      have hx2 : wrap64 (k0 + 2 * (k : Int) + 1 + 1) = k0 + 2 * (k : Int) + 1 + 1 := by unfold wrap64; omega
      have ht : ((k0 + 2 * (k : Int) + 1).tmod 3 == 0) = thirdB (k0 + 2 * (k : Int) + 1) := rfl
      have HQ : Hid (k0 + 2 * (k : Int) + 1 + 1 = k0 + 2 * ((k + 1 : Nat) : Int)) := by show _ = _; omega
      generalize thirdB (k0 + 2 * (k : Int) + 1) = tb at c2 ht
      obtain ⟨y, hy⟩ : ∃ y, y = k0 + 2 * (k : Int) := ⟨_, rfl⟩
      rw [← hy] at c1 hx1 hx2 ht HQ ⊢
      have hyy : (y != y) = false := by simp
      have htt : (tb != tb) = false := by simp
      clear hy
      go_wp2
      exact ⟨⟨k + 1, by omega, by go_num, by first | rw [← HQ.out, hx2] | rw [← HQ.out]⟩, by simp [intOf]; omega⟩
    · obtain rfl : k = n := by omega
      go_wp2
      go_ret
      exact ⟨rfl, rfl⟩
end Go.Proofs.Ytjceffhogoedaaa
