/-
  The laws' marks on a tree.
-/
import Derived.Test.YtlemhlioidmanaaDoorMarkT
namespace Go.Proofs.YtlemhlioidmanaaDoor
open Go.RowKit
set_option linter.unusedVariables false
set_option maxRecDepth 100000

theorem grownBy_set (w : World) (g i : Nat) (v : Value) : w.grownBy (w.setCell ⟨g, i, none⟩ v) (some g) :=
  ⟨rfl, rfl, rfl, by simp, fun k hk hne => Below.heap_setCell w ⟨g, i, none⟩ v k (by simpa using hne)⟩
theorem grownBy_trans {w w1 w2 : World} {row : Option Nat} (h1 : w.grownBy w1 row) (h2 : w1.grownBy w2 row) : w.grownBy w2 row := by
  obtain ⟨a1, b1, c1, d1, e1⟩ := h1
  obtain ⟨a2, b2, c2, d2, e2⟩ := h2
  exact ⟨a2.trans a1, b2.trans b1, c2.trans c1, Nat.le_trans d1 d2, fun k hk hne => (e2 k (by omega) hne).trans (e1 k hk hne)⟩
def thirdB (x : Int) : Bool := x.tmod 3 == 0
/-- The marks of one, from y on. -/
def upY (y : Int) : Re := ⟨thirdB y, y + 1, y + 1 + 1, y + 1 + 1 + 1, y + 1 + 1 + 1 + 1⟩
def upR (k0 : Int) (i : Nat) : Re := upY (k0 + 5 * (i : Int))
def upTree (k0 : Int) (n : Nat) : List Re := (List.range n).map (upR k0)
theorem upTree_length (k0 : Int) (n : Nat) : (upTree k0 n).length = n := by simp [upTree]
theorem upTree_at (k0 : Int) (n i : Nat) (h : i < n) : reAt (upTree k0 n) i = upR k0 i := by simp [reAt, upTree, h]
def markT (ts : List Re) (k0 : Int) (k : Nat) : List Re := upTree k0 k ++ ts.drop k
theorem markT_length (ts : List Re) (k0 : Int) (k : Nat) (h : k ≤ ts.length) : (markT ts k0 k).length = ts.length := by simp [markT, upTree]; omega
theorem markT_start (ts : List Re) (k0 : Int) : markT ts k0 0 = ts := by simp [markT, upTree]
theorem markT_end (ts : List Re) (k0 : Int) : markT ts k0 ts.length = upTree k0 ts.length := by simp [markT]
theorem markT_set (ts : List Re) (k0 : Int) (k : Nat) (h : k < ts.length) : (markT ts k0 k).set k (upR k0 k) = markT ts k0 (k + 1) := by
  unfold markT
  have e : upTree k0 (k + 1) = upTree k0 k ++ [upR k0 k] := by simp [upTree, List.range_succ]
  rw [List.set_append_right _ _ (by rw [upTree_length]; exact Nat.le_refl _), upTree_length, Nat.sub_self, e, List.append_assoc, List.drop_eq_getElem_cons h, List.set_cons_zero]
  rfl
theorem reAt_set (ts : List Re) (i : Nat) (r : Re) (h : i < ts.length) : reAt (ts.set i r) i = r := by simp [reAt, h]
/-- One is marked, cell by cell. -/
theorem mark_one {w : World} {g : Nat} {ts : List Re} {rest : List Value} (h : TreeIn w g ts rest) (i : Nat) (hi : i < ts.length) (y : Int) :
    (∃ u, w.cell? ⟨g, i * 5, none⟩ = some u) ∧
    (∃ u, (w.setCell ⟨g, i * 5, none⟩ (.bool (thirdB y))).cell? ⟨g, i * 5 + 1, none⟩ = some u) ∧
    (∃ u, ((w.setCell ⟨g, i * 5, none⟩ (.bool (thirdB y))).setCell ⟨g, i * 5 + 1, none⟩ (.int .i64 (y + 1))).cell? ⟨g, i * 5 + 2, none⟩ = some u) ∧
    (∃ u, (((w.setCell ⟨g, i * 5, none⟩ (.bool (thirdB y))).setCell ⟨g, i * 5 + 1, none⟩ (.int .i64 (y + 1))).setCell ⟨g, i * 5 + 2, none⟩ (.int .i64 (y + 1 + 1))).cell? ⟨g, i * 5 + 3, none⟩ = some u) ∧
    (∃ u, ((((w.setCell ⟨g, i * 5, none⟩ (.bool (thirdB y))).setCell ⟨g, i * 5 + 1, none⟩ (.int .i64 (y + 1))).setCell ⟨g, i * 5 + 2, none⟩ (.int .i64 (y + 1 + 1))).setCell ⟨g, i * 5 + 3, none⟩ (.int .i64 (y + 1 + 1 + 1))).cell? ⟨g, i * 5 + 4, none⟩ = some u) ∧
    w.frozen? ⟨g, i * 5, none⟩ = false ∧
    (w.setCell ⟨g, i * 5, none⟩ (.bool (thirdB y))).frozen? ⟨g, i * 5 + 1, none⟩ = false ∧
    ((w.setCell ⟨g, i * 5, none⟩ (.bool (thirdB y))).setCell ⟨g, i * 5 + 1, none⟩ (.int .i64 (y + 1))).frozen? ⟨g, i * 5 + 2, none⟩ = false ∧
    (((w.setCell ⟨g, i * 5, none⟩ (.bool (thirdB y))).setCell ⟨g, i * 5 + 1, none⟩ (.int .i64 (y + 1))).setCell ⟨g, i * 5 + 2, none⟩ (.int .i64 (y + 1 + 1))).frozen? ⟨g, i * 5 + 3, none⟩ = false ∧
    ((((w.setCell ⟨g, i * 5, none⟩ (.bool (thirdB y))).setCell ⟨g, i * 5 + 1, none⟩ (.int .i64 (y + 1))).setCell ⟨g, i * 5 + 2, none⟩ (.int .i64 (y + 1 + 1))).setCell ⟨g, i * 5 + 3, none⟩ (.int .i64 (y + 1 + 1 + 1))).frozen? ⟨g, i * 5 + 4, none⟩ = false ∧
    TreeIn (w5 w g (i * 5) (thirdB y) (y + 1) (y + 1 + 1) (y + 1 + 1 + 1) (y + 1 + 1 + 1 + 1)) g (ts.set i (upY y)) rest := by
  have r1 := h.put0 i hi (thirdB y)
  have r2 := r1.put1 i (by simpa using hi) (y + 1)
  rw [reAt_set _ _ _ hi, List.set_set] at r2
  have r3 := r2.put2 i (by simpa using hi) (y + 1 + 1)
  rw [reAt_set _ _ _ hi, List.set_set] at r3
  have r4 := r3.put3 i (by simpa using hi) (y + 1 + 1 + 1)
  rw [reAt_set _ _ _ hi, List.set_set] at r4
  have r5 := r4.put4 i (by simpa using hi) (y + 1 + 1 + 1 + 1)
  rw [reAt_set _ _ _ hi, List.set_set] at r5
  exact ⟨⟨_, (h.cell i hi).c0⟩, ⟨_, (r1.cell i (by simpa using hi)).c1⟩, ⟨_, (r2.cell i (by simpa using hi)).c2⟩, ⟨_, (r3.cell i (by simpa using hi)).c3⟩, ⟨_, (r4.cell i (by simpa using hi)).c4⟩,
    h.free _, r1.free _, r2.free _, r3.free _, r4.free _, r5⟩
theorem grownBy_w5 {w wr : World} {g : Nat} (h : w.grownBy wr (some g)) (i : Nat) (l : Bool) (p a b c : Int) : w.grownBy (w5 wr g i l p a b c) (some g) :=
  grownBy_trans (grownBy_trans (grownBy_trans (grownBy_trans (grownBy_trans h (grownBy_set _ _ _ _)) (grownBy_set _ _ _ _)) (grownBy_set _ _ _ _)) (grownBy_set _ _ _ _)) (grownBy_set _ _ _ _)

set_option maxHeartbeats 2000000 in
theorem markT_own (g cap : Nat) (ts : List Re) (rs : List Value) (lo hi : Nat) (k0 : Int) (w : World) (h : OwnT g cap ts rs lo hi w) (hn : ts.length ≤ 1048576) (h0 : 0 ≤ k0) (h1 : k0 ≤ 1099511627776) :
    Calls Tryd.prog 30 #[.slice (some ⟨g, 0, none⟩) ts.length cap, .int .i64 k0] w fun e w' => e = .returned (.int .i64 (k0 + 5 * (ts.length : Int))) ∧ OwnT g cap (upTree k0 ts.length) rs lo hi w' ∧ w.grownBy w' (some g) := by
  have H0 : Hid (TreeIn w g (markT ts k0 0) rs) := by show TreeIn _ _ _ _; rw [markT_start]; exact h.at'
  have hcap := h.cap
  have HE : Hid (∀ w', TreeIn w' g (markT ts k0 ts.length) rs → OwnT g cap (upTree k0 ts.length) rs lo hi w') := fun w' h' => ⟨by rw [markT_end] at h'; exact h', by rw [upTree_length]; exact h.cap, h.lo, h.hi⟩
  clear h
  go_enter Tryd.func30, Tryd.ntmps30
  go_wp2
  go_loopw [1, 5] (fun q i wr => ∃ k : Nat, k ≤ ts.length ∧ i = .int .i64 k ∧ q = .int .i64 (k0 + 5 * (k : Int)) ∧ Hid (TreeIn wr g (markT ts k0 k) rs) ∧ w.grownBy wr (some g)) (fun _ i _ => ts.length - (intOf i).toNat)
  case atStart => exact ⟨0, Nat.zero_le _, rfl, by simp, H0, World.grownBy.refl _ _⟩
  case round =>
    obtain ⟨k, hk, rfl, rfl, hrow, hgr⟩ := hrel
    clear H0
    by_cases hlt : k < ts.length
    · have hkl : k < (markT ts k0 k).length := by rw [markT_length _ _ _ hk]; exact hlt
      obtain ⟨⟨u0, d0⟩, ⟨u1, d1⟩, ⟨u2, d2⟩, ⟨u3, d3⟩, ⟨u4, d4⟩, f0, f1, f2, f3, f4, r5⟩ := mark_one hrow.out k hkl (k0 + 5 * (k : Int))
      rw [show upY (k0 + 5 * (k : Int)) = upR k0 k from rfl, markT_set ts k0 k hlt] at r5
      have hg2 := grownBy_w5 hgr (k * 5) (thirdB (k0 + 5 * (k : Int))) (k0 + 5 * (k : Int) + 1) (k0 + 5 * (k : Int) + 1 + 1) (k0 + 5 * (k : Int) + 1 + 1 + 1) (k0 + 5 * (k : Int) + 1 + 1 + 1 + 1)
      have HR : Hid (TreeIn (w5 wr g (k * 5) (thirdB (k0 + 5 * (k : Int))) (k0 + 5 * (k : Int) + 1) (k0 + 5 * (k : Int) + 1 + 1) (k0 + 5 * (k : Int) + 1 + 1 + 1) (k0 + 5 * (k : Int) + 1 + 1 + 1 + 1)) g (markT ts k0 (k + 1)) rs) := r5
      have HG2 : Hid (w.grownBy (w5 wr g (k * 5) (thirdB (k0 + 5 * (k : Int))) (k0 + 5 * (k : Int) + 1) (k0 + 5 * (k : Int) + 1 + 1) (k0 + 5 * (k : Int) + 1 + 1 + 1) (k0 + 5 * (k : Int) + 1 + 1 + 1 + 1)) (some g)) := hg2
      have hx1 : wrap64 (k0 + 5 * (k : Int) + 1) = k0 + 5 * (k : Int) + 1 := by unfold wrap64; omega
      have hx2 : wrap64 (k0 + 5 * (k : Int) + 1 + 1) = k0 + 5 * (k : Int) + 1 + 1 := by unfold wrap64; omega
      have hx3 : wrap64 (k0 + 5 * (k : Int) + 1 + 1 + 1) = k0 + 5 * (k : Int) + 1 + 1 + 1 := by unfold wrap64; omega
      have hx4 : wrap64 (k0 + 5 * (k : Int) + 1 + 1 + 1 + 1) = k0 + 5 * (k : Int) + 1 + 1 + 1 + 1 := by unfold wrap64; omega
      have hx5 : wrap64 (k0 + 5 * (k : Int) + 1 + 1 + 1 + 1 + 1) = k0 + 5 * (k : Int) + 1 + 1 + 1 + 1 + 1 := by unfold wrap64; omega
      have ht : ((k0 + 5 * (k : Int)).tmod 3 == 0) = thirdB (k0 + 5 * (k : Int)) := rfl
      have HQ : Hid (k0 + 5 * (k : Int) + 1 + 1 + 1 + 1 + 1 = k0 + 5 * ((k + 1 : Nat) : Int)) := by show _ = _; omega
      generalize thirdB (k0 + 5 * (k : Int)) = tb at HR HG2 ht d1 d2 d3 d4 f1 f2 f3 f4
      obtain ⟨y, hy⟩ : ∃ y, y = k0 + 5 * (k : Int) := ⟨_, rfl⟩
      rw [← hy] at d2 d3 d4 f2 f3 f4 HR HG2 hx1 hx2 hx3 hx4 hx5 ht HQ ⊢
      clear r5 hg2 hrow hgr hkl hy
      go_wp2
      go_roundw
      case rel => exact ⟨k + 1, by omega, by go_num, by first | rw [← HQ.out, hx5] | rw [← HQ.out], HR, HG2.out⟩
      case measure => simp [intOf]; omega
    · obtain rfl : k = ts.length := by omega
      have HO := HE.out wr hrow.out
      clear hrow HE
      go_wp2
      go_ret
      exact ⟨rfl, HO, hgr⟩

set_option maxHeartbeats 2000000 in
theorem heldT_up (v : Value) (n : Nat) (k0 : Int) (w : World) (hx : IsTree w v (upTree k0 n)) (hn : n ≤ 1048576) (h0 : 0 ≤ k0) (h1 : k0 ≤ 1099511627776) :
    Calls Tryd.prog 31 #[v, .int .i64 k0] w fun e w' => e = .returned (.int .i64 (k0 + 5 * (n : Int))) ∧ w' = w := by
  obtain ⟨a, cap, rfl, hcap, _⟩ := id hx
  rw [upTree_length] at hcap hx ⊢
  have HX : Hid (∀ i, i < n → ∃ p q, a = some p ∧ p.add (i * 5) = q ∧ Cells5 w q (upY (k0 + 5 * (i : Int)))) := fun i hi => by
    obtain ⟨p, q, h1, h2, h3⟩ := hx.at (i := i) (by rw [upTree_length]; exact hi)
    rw [upTree_at k0 n i hi] at h3
    exact ⟨p, q, h1, h2, h3⟩
  clear hx
  go_enter Tryd.func31, Tryd.ntmps31
  go_wp2
  go_loop [1, 5] (fun q i => ∃ k : Nat, k ≤ n ∧ i = .int .i64 k ∧ q = .int .i64 (k0 + 5 * (k : Int))) (fun _ i => n - (intOf i).toNat)
  case atStart => exact ⟨0, Nat.zero_le _, rfl, by simp⟩
  case round =>
    obtain ⟨k, hk, rfl, rfl⟩ := hrel
    by_cases hlt : k < n
    · obtain ⟨p, q, rfl, hq, c0, c1, c2, c3, c4⟩ := HX.out k hlt
      have hx1 : wrap64 (k0 + 5 * (k : Int) + 1) = k0 + 5 * (k : Int) + 1 := by unfold wrap64; omega
      have hx2 : wrap64 (k0 + 5 * (k : Int) + 1 + 1) = k0 + 5 * (k : Int) + 1 + 1 := by unfold wrap64; omega
      have hx3 : wrap64 (k0 + 5 * (k : Int) + 1 + 1 + 1) = k0 + 5 * (k : Int) + 1 + 1 + 1 := by unfold wrap64; omega
      have hx4 : wrap64 (k0 + 5 * (k : Int) + 1 + 1 + 1 + 1) = k0 + 5 * (k : Int) + 1 + 1 + 1 + 1 := by unfold wrap64; omega
      have hx5 : wrap64 (k0 + 5 * (k : Int) + 1 + 1 + 1 + 1 + 1) = k0 + 5 * (k : Int) + 1 + 1 + 1 + 1 + 1 := by unfold wrap64; omega
      have ht : ((k0 + 5 * (k : Int)).tmod 3 == 0) = thirdB (k0 + 5 * (k : Int)) := rfl
      have HQ : Hid (k0 + 5 * (k : Int) + 1 + 1 + 1 + 1 + 1 = k0 + 5 * ((k + 1 : Nat) : Int)) := by show _ = _; omega
      simp only [upY] at c0 c1 c2 c3 c4
      generalize thirdB (k0 + 5 * (k : Int)) = tb at c0 ht
      obtain ⟨y, hy⟩ : ∃ y, y = k0 + 5 * (k : Int) := ⟨_, rfl⟩
      rw [← hy] at c1 c2 c3 c4 hx1 hx2 hx3 hx4 hx5 ht HQ ⊢
      have htt : (tb != tb) = false := by simp
      clear hy
      go_wp2
      exact ⟨⟨k + 1, by omega, by go_num, by first | rw [← HQ.out, hx5] | rw [← HQ.out]⟩, by simp [intOf]; omega⟩
    · obtain rfl : k = n := by omega
      go_wp2
      go_ret
      exact ⟨rfl, rfl⟩
end Go.Proofs.YtlemhlioidmanaaDoor
