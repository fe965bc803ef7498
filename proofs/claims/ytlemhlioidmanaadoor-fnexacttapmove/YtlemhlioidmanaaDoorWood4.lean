/-
  Marks on lists of trees of the call's own.
-/
import Derived.Test.YtlemhlioidmanaaDoorWood3
namespace Go.Proofs.YtlemhlioidmanaaDoor
open Go.RowKit
set_option linter.unusedVariables false
set_option maxRecDepth 100000

/-- Nothing is turned but between two blocks. -/
structure Turned (lo hi : Nat) (w w' : World) : Prop where
  block : ∀ k o, w.heap[k]? = some o → (k < lo ∨ hi ≤ k) → w'.heap[k]? = some o
  below : ∀ B w0, B ≤ lo → Below B w0 w → Below B w0 w'
theorem Turned.refl (lo hi : Nat) (w : World) : Turned lo hi w w := ⟨fun _ _ h _ => h, fun _ _ _ h => h⟩
theorem Turned.step {lo hi : Nat} {w w1 w2 : World} (h : Turned lo hi w w1) {g : Nat} (hg : w1.grownBy w2 (some g)) (h1 : lo ≤ g) (h2 : g < hi) (h3 : g < w1.heap.size) : Turned lo hi w w2 :=
  ⟨fun k o hk hc => grown_kept hg (h.block k o hk hc) (fun e => by cases e; omega), fun B w0 hB hb => (h.below B w0 hB hb).grown hg (by omega) (fun k e => by cases e; omega)⟩
theorem OwnT.turned {g cap : Nat} {ts : List Re} {rs : List Value} {lo hi l0 h0 : Nat} {w w' : World} (h : OwnT g cap ts rs lo hi w) (ht : Turned l0 h0 w w') (hd : hi ≤ l0 ∨ h0 ≤ lo) : OwnT g cap ts rs lo hi w' :=
  ⟨ht.block _ _ h.at' (by have := h.lo; have := h.hi; omega), h.cap, h.lo, h.hi⟩
theorem OwnW.turned {g cap : Nat} {fs : List Leaf} {rest : List Value} {lo hi l0 h0 : Nat} {w w' : World} (h : OwnW g cap fs rest lo hi w) (ht : Turned l0 h0 w w') (hd : hi ≤ l0 ∨ h0 ≤ lo) : OwnW g cap fs rest lo hi w' :=
  ⟨ht.block _ _ h.at' (by have := h.lo; have := h.hi; omega), h.cap, h.lo, h.hi, fun i hi' => (h.own i hi').turned ht hd, h.ne, h.apart⟩
theorem leafTs_len (fs : List Leaf) (i : Nat) : (leafAt fs i).ts.length = (treeAt (leafTs fs) i).length := by rw [leafTs_at]
set_option maxHeartbeats 1000000 in
theorem markTreeS_own (g cap n : Nat) (fs : List Leaf) (rest : List Value) (lo hi : Nat) (w : World) (h : OwnW g cap fs rest lo hi w) (hn : n = fs.length) (hl : ((n : Int) + woodN (leafTs fs)) ≤ 1048576) :
    Calls Tryd.prog 10 #[.slice (some ⟨g, 0, none⟩) n cap, .int .i64 1] w fun e w' => e = .returned (.int .i64 (1 + 5 * (woodN (leafTs fs) : Int))) ∧ OwnW g cap (markW fs 1 fs.length) rest lo hi w' ∧ Turned lo hi w w' := by
  have H0 : Hid (OwnW g cap (markW fs 1 0) rest lo hi w) := by show OwnW _ _ _ _ _ _ _; rw [markW_start]; exact h
  have hcap : n ≤ cap := by rw [hn]; exact h.cap
  have HNL : Hid (n = fs.length ∧ ((n : Int) + woodN (leafTs fs)) ≤ 1048576) := ⟨hn, hl⟩
  have hn6 : n ≤ 1048576 := by omega
  clear h hn hl
  go_enter Tryd.func10, Tryd.ntmps10
  go_wp2
  go_loopw [1, 5] (fun q i wr => ∃ (k : Nat) (m : Int), k ≤ n ∧ i = .int .i64 k ∧ q = .int .i64 m ∧ Hid (m = 1 + 5 * (woodN ((leafTs fs).take k) : Int)) ∧ Hid (OwnW g cap (markW fs 1 k) rest lo hi wr ∧ Turned lo hi w wr)) (fun _ i _ => n - (intOf i).toNat)
  case atStart => exact ⟨0, _, Nat.zero_le _, rfl, rfl, by show _ = _; simp [woodN], H0.out, Turned.refl _ _ _⟩
  case round =>
    obtain ⟨k, m, hk, rfl, rfl, hm, hs⟩ := hrel
    clear H0
    by_cases hlt : k < n
    · have hkf : k < fs.length := by have := HNL.out.1; omega
      have hkm : k < (markW fs 1 k).length := by rw [markW_length _ _ _ (by omega)]; exact hkf
      have hc := hs.out.1.cell hkm
      have hown := hs.out.1.own k hkm
      have ha : leafAt (markW fs 1 k) k = leafAt fs k := markW_high (by omega) (Nat.le_refl _)
      rw [ha] at hc hown
      have htl := treeAt_le (leafTs fs) k
      rw [leafTs_at] at htl
      have hwt := woodN_take_le (leafTs fs) k
      have hmb : 0 ≤ m ∧ m ≤ 1099511627776 := by have h1 := hm.out; have h2 := HNL.out.2; omega
      have C := markT_own (leafAt fs k).g (leafAt fs k).c (leafAt fs k).ts (leafAt fs k).rs lo hi m wr hown (by have := HNL.out.2; omega) hmb.1 hmb.2
      have HM : Hid (m + 5 * ((leafAt fs k).ts.length : Int) = 1 + 5 * (woodN ((leafTs fs).take (k + 1)) : Int)) := by
        have e := woodN_take (tss := leafTs fs) (k := k) (by rw [leafTs_length]; exact hkf)
        rw [leafTs_at] at e
        have h1 := hm.out
        show _ = _
        omega
      have HW : Hid (∀ w', OwnT (leafAt fs k).g (leafAt fs k).c (upTree m (leafAt fs k).ts.length) (leafAt fs k).rs lo hi w' → wr.grownBy w' (some (leafAt fs k).g) → OwnW g cap (markW fs 1 (k + 1)) rest lo hi w' ∧ Turned lo hi w w') := fun w' ho hg => by
        refine ⟨?_, hs.out.2.step hg hown.lo hown.hi (lt_of_block hown.at')⟩
        have e := hs.out.1.turn hkm (ts' := upTree m (leafAt fs k).ts.length) (by rw [ha]; exact hg) (by rw [ha, upTree_length]) (by rw [ha]; exact ho)
        rw [ha] at e
        rw [markW_next hkf, ← hm.out]
        exact e
      unfold leafV at hc
      generalize leafAt fs k = f at hc C HM HW
      obtain ⟨fg, fc, fts, frs⟩ := f
      simp only at hc C HM HW
      clear hown ha htl hwt hm hs hkm
      go_wp2_with fail
      refine C.mono ?_
      rintro e w1 ⟨rfl, ho, hg⟩
      have HS := hid_of (HW.out w1 ho hg)
      clear C HW ho hg hc
      go_wp2
      go_roundw
      case rel => exact ⟨k + 1, _, by omega, by go_num, rfl, HM, HS⟩
      case measure => simp [intOf]; omega
    · obtain rfl : k = n := by omega
      have HE : Hid (m = 1 + 5 * (woodN (leafTs fs) : Int)) := by
        have e := hm.out
        rw [List.take_of_length_le (by rw [leafTs_length]; have := HNL.out.1; omega)] at e
        exact e
      have HS : Hid (OwnW g cap (markW fs 1 fs.length) rest lo hi wr ∧ Turned lo hi w wr) := by have e := hs.out; rw [HNL.out.1] at e; exact e
      clear hm hs
      go_wp2
      go_ret
      exact ⟨by rw [HE.out]; rfl, HS.out⟩
set_option maxHeartbeats 1000000 in
theorem heldTreeS_up (v : Value) (tss : List (List Re)) (w : World) (hx : IsTrees w v (upWood 1 tss)) (hl : ((tss.length : Int) + woodN tss) ≤ 1048576) :
    Calls Tryd.prog 11 #[v, .int .i64 1] w fun e w' => e = .returned (.int .i64 (1 + 5 * (woodN tss : Int))) ∧ w' = w := by
  obtain ⟨a, cap, rfl, hcap, _⟩ := id hx
  rw [upWood_length] at hcap hx ⊢
  have HX : Hid (∀ i, i < tss.length → ∃ p q u, a = some p ∧ p.add i = q ∧ w.cell? q = some u ∧ IsTree w u (upTree (1 + 5 * (woodN (tss.take i) : Int)) (treeAt tss i).length)) := fun i hi => by
    obtain ⟨p, q, u, h1, h2, h3, h4⟩ := hx.at (i := i) (by rw [upWood_length]; exact hi)
    rw [upWood_at tss 1 i hi] at h4
    exact ⟨p, q, u, h1, h2, h3, h4⟩
  have hn6 : tss.length ≤ 1048576 := by omega
  have HNL : Hid (((tss.length : Int) + woodN tss) ≤ 1048576) := hl
  clear hx hl
  go_enter Tryd.func11, Tryd.ntmps11
  go_wp2
  go_loop [1, 5] (fun q i => ∃ (k : Nat) (m : Int), k ≤ tss.length ∧ i = .int .i64 k ∧ q = .int .i64 m ∧ Hid (m = 1 + 5 * (woodN (tss.take k) : Int))) (fun _ i => tss.length - (intOf i).toNat)
  case atStart => exact ⟨0, _, Nat.zero_le _, rfl, rfl, by show _ = _; simp [woodN]⟩
  case round =>
    obtain ⟨k, m, hk, rfl, rfl, hm⟩ := hrel
    by_cases hlt : k < tss.length
    · obtain ⟨p, q, u, rfl, hq, hc, hu⟩ := HX.out k hlt
      have htl := treeAt_le tss k
      have hwt := woodN_take_le tss k
      have hmb : 0 ≤ m ∧ m ≤ 1099511627776 := by have h1 := hm.out; have h2 := HNL.out; omega
      rw [← hm.out] at hu
      have C := heldT_up u (treeAt tss k).length m w hu (by have := HNL.out; omega) hmb.1 hmb.2
      have HM : Hid (m + 5 * ((treeAt tss k).length : Int) = 1 + 5 * (woodN (tss.take (k + 1)) : Int)) := by
        have e := woodN_take hlt
        have h1 := hm.out
        show _ = _
        omega
      have hnn : ¬ (m + 5 * ((treeAt tss k).length : Int) < 0) := by omega
      generalize (treeAt tss k).length = n at C HM hnn
      clear hu htl hwt hm
      go_wp2_with fail
      refine C.mono ?_
      rintro e w1 ⟨rfl, rfl⟩
      clear C
      go_wp2
      exact ⟨⟨k + 1, _, by omega, by go_num, rfl, HM⟩, by simp [intOf]; omega⟩
    · obtain rfl : k = tss.length := by omega
      have HE : Hid (m = 1 + 5 * (woodN tss : Int)) := by
        have e := hm.out
        rw [List.take_length] at e
        exact e
      clear hm
      go_wp2
      go_ret
      exact ⟨by rw [HE.out]; rfl, rfl⟩
end Go.Proofs.YtlemhlioidmanaaDoor
