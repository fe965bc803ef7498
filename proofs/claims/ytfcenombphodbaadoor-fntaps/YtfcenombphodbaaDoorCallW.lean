/-
  TapMove: both sides, at every list of trees; a region with a copy of trees and a call.
-/
import Derived.Test.YtfcenombphodbaaDoorMoveA
import Derived.Test.YtfcenombphodbaaDoorIMove
namespace Go.Proofs.YtfcenombphodbaaDoor
open Go.RowKit
set_option linter.unusedVariables false
set_option maxRecDepth 100000

theorem woodN_map (tss : List (List Re)) (k : List Nat) (h : tss.map List.length = k) : woodN tss = k.sum := by rw [← h]; rfl
theorem lens_set {tss : List (List Re)} {i : Nat} {ts : List Re} (h : ts.length = (treeAt tss i).length) : (tss.set i ts).map List.length = tss.map List.length := by
  refine List.ext_getElem? fun j => ?_
  rw [List.map_set, List.getElem?_set]
  split
  · rename_i e
    subst e
    by_cases hi : i < tss.length
    · rw [if_pos (by simpa using hi), List.getElem?_map, List.getElem?_eq_getElem hi, h, treeAt_in hi]; rfl
    · rw [if_neg (by simpa using hi), List.getElem?_eq_none (by simpa using hi)]
  · rfl
theorem moveOf_lens (tss : List (List Re)) (P r p q h k t : Int) : (moveOf tss P r p q h k t).map List.length = tss.map List.length := by
  unfold moveOf
  split
  · rw [lens_set (by rw [backOf_length])]
    unfold paidOf
    rw [lens_set (by rw [payOf_length])]
  · rfl
theorem moveOf_woodN (tss : List (List Re)) (P r p q h k t : Int) : woodN (moveOf tss P r p q h k t) = woodN tss := by unfold woodN; rw [moveOf_lens]
theorem small_lens {tss : List (List Re)} (h : ((tss.length : Int) + woodN tss) ≤ 1048576) (i : Nat) : (treeAt tss i).length ≤ 1048576 := by have := treeAt_le tss i; omega
theorem mayB_nat {tss : List (List Re)} {P r p q h k t : Int} (e : mayB tss P r p q h k t = true) : ∃ m rn pn : Nat, P = (m : Int) ∧ r = (rn : Int) ∧ p = (pn : Int) ∧ tss.all treeOk = true ∧ tss.length ≤ 3 ∧ tapOk r p q h k t = true ∧ m < tss.length ∧ pn < tss.length ∧ rn < 5 ∧ liveIn (treeAt tss m) r = true := by
  obtain ⟨h1, h2, h3, h4, h5, h6, h7⟩ := mayB_true e
  have ht := tapOk_true h3
  refine ⟨P.toNat, r.toNat, p.toNat, by omega, by omega, by omega, h1, h2, h3, by omega, by omega, by omega, h7⟩
/-- What TapMove answers on either side, at every list of trees. -/
theorem specMove_any (p0 : Addr) (n cap : Nat) (tss : List (List Re)) (P r p q h k t : Int) (w : World) (hx : IsWood w (.slice (some p0) n cap) tss) (hn : n = tss.length) (hcap : n ≤ cap) (hn6 : n ≤ 1048576) (hTL : ∀ i, (treeAt tss i).length ≤ 1048576) :
    Calls Tryd.prog 7 #[.slice (some p0) n cap, .int .i64 P, tapV r p q h k t] w fun e w' => MoveAns (moveOf tss P r p q h k t) (moveM tss P r p q h k t) w e w' := by
  cases hm : mayB tss P r p q h k t with
  | false => exact specMove_no p0 n cap tss P r p q h k t w hx hn hcap hn6 hTL hm
  | true =>
    obtain ⟨m, rn, pn, rfl, rfl, rfl, h1, h2, h3, h4, h5, h6, h7⟩ := mayB_nat hm
    exact specMove_yes p0 n cap tss m pn rn q h k t w hx hn (by omega) hcap (by omega) (by omega) h6 h1 h3 h7
theorem implMove_any (p0 : Addr) (n cap : Nat) (tss : List (List Re)) (P r p q h k t : Int) (w : World) (hx : IsWood w (.slice (some p0) n cap) tss) (hn : n = tss.length) (hcap : n ≤ cap) (hn6 : n ≤ 1048576) (hTL : ∀ i, (treeAt tss i).length ≤ 1048576) (hse : Sent w) :
    Calls Tryd.prog 6 #[.slice (some p0) n cap, .int .i64 P, tapV r p q h k t] w fun e w' => MoveAns (moveOf tss P r p q h k t) (moveM tss P r p q h k t) w e w' := by
  cases hm : mayB tss P r p q h k t with
  | false => exact implMove_no p0 n cap tss P r p q h k t w hx hn hcap hn6 hTL hm
  | true =>
    obtain ⟨m, rn, pn, rfl, rfl, rfl, h1, h2, h3, h4, h5, h6, h7⟩ := mayB_nat hm
    exact implMove_yes p0 n cap tss m pn rn q h k t w hx hn (by omega) hcap (by omega) (by omega) h6 h1 h3 h7 hse
/-- Trees of the call's own, whatever is spare. -/
def OwnWs (g c : Nat) (ns : List (List Re)) (lo hi : Nat) (w : World) : Prop := ∃ fs rest, leafTs fs = ns ∧ OwnW g c fs rest lo hi w
theorem OwnWs.on {g c : Nat} {ns : List (List Re)} {lo hi : Nat} {w w' : World} (x : OwnWs g c ns lo hi w) (hb : Below w.heap.size w w') : OwnWs g c ns lo hi w' := by
  obtain ⟨fs, rest, h1, h2⟩ := x
  exact ⟨fs, rest, h1, h2.on hb⟩
theorem OwnWs.more {g c : Nat} {ns : List (List Re)} {lo hi : Nat} {w : World} (x : OwnWs g c ns lo hi w) : OwnWs g c ns lo w.heap.size w := by
  obtain ⟨fs, rest, h1, h2⟩ := x
  exact ⟨fs, rest, h1, h2.more⟩
theorem OwnWs.wide {g c : Nat} {ns : List (List Re)} {lo hi lo' hi' : Nat} {w : World} (x : OwnWs g c ns lo hi w) (h1 : lo' ≤ lo) (h2 : hi ≤ hi') : OwnWs g c ns lo' hi' w := by
  obtain ⟨fs, rest, e, h⟩ := x
  exact ⟨fs, rest, e, h.wide h1 h2⟩
theorem OwnWs.turned {g c : Nat} {ns : List (List Re)} {lo hi l0 h0 : Nat} {w w' : World} (x : OwnWs g c ns lo hi w) (ht : Turned l0 h0 w w') (hd : hi ≤ l0 ∨ h0 ≤ lo) : OwnWs g c ns lo hi w' := by
  obtain ⟨fs, rest, e, h⟩ := x
  exact ⟨fs, rest, e, h.turned ht hd⟩
theorem OwnWs.wood {g c : Nat} {ns : List (List Re)} {lo hi : Nat} {w : World} (x : OwnWs g c ns lo hi w) (n : Nat) (hn : ns.length = n) : IsWood w (.slice (some ⟨g, 0, none⟩) n c) ns := by
  obtain ⟨fs, rest, e, h⟩ := x
  have h1 := h.wood
  have h2 : fs.length = n := by rw [← hn, ← e, leafTs_length]
  rw [e, h2] at h1
  exact h1
theorem OwnWs.hi {g c : Nat} {ns : List (List Re)} {lo hi : Nat} {w : World} (x : OwnWs g c ns lo hi w) : lo < hi := by
  obtain ⟨fs, rest, e, h⟩ := x
  have h1 := h.lo
  have h2 := h.hi
  omega
/-- A region that draws: a copy of the trees, a copy of the tap, a call whose answer begins with trees. -/
structure CallW (W0 : World) (n : Nat) (tss ns : List (List Re)) (N iT iC : Nat) (vals : List Value) (aft : Value → List Value) (L : Nat → Bool) (us : Nat → Value) (w : World) : Prop where
  below : Below W0.heap.size W0 w
  vals : ∀ j, j < iC → j ≠ iT → L j = true → us j = vals.getD j undef
  tree : L iT = true → ∃ g, us iT = .slice (some ⟨g, 0, none⟩) n n ∧ IsWood w (.slice (some ⟨g, 0, none⟩) n n) tss
  ans : ∀ j0, iC ≤ j0 → L j0 = true → ∃ g c, OwnWs g c ns W0.heap.size w.heap.size w ∧ ∀ j, iC ≤ j → j < N → L j = true → us j = (aft (.slice (some ⟨g, 0, none⟩) n c)).getD (j - iC) undef
theorem callW_start (W0 : World) (n : Nat) (tss ns : List (List Re)) (N iT iC : Nat) (vals : List Value) (aft : Value → List Value) (us : Nat → Value) : CallW W0 n tss ns N iT iC vals aft (fun _ => false) us W0.drew :=
  ⟨(Below.refl _ _).drew, fun j _ _ hj => by (cases hj), fun hj => by (cases hj), fun j _ hj => by (cases hj)⟩
theorem CallW.mark {W0 : World} {n : Nat} {tss ns : List (List Re)} {N iT iC : Nat} {vals : List Value} {aft : Value → List Value} {L : Nat → Bool} {us : Nat → Value} {w w' : World} (h : CallW W0 n tss ns N iT iC vals aft L us w) {i : Nat} {v : Value} (h1 : i ≠ iT) (h2 : i < iC) (hb : Below w.heap.size w w') (hv : v = vals.getD i undef) : CallW W0 n tss ns N iT iC vals aft (markd L i) (useAt us i v) w' := by
  refine ⟨below_more h.below hb, fun j hj hne hL => ?_, fun hj => ?_, fun j0 hj0 hL => ?_⟩
  · by_cases he : j = i
    · subst he; rw [use_same]; exact hv
    · rw [markd_other L he] at hL; rw [use_other us v he]; exact h.vals j hj hne hL
  · rw [markd_other L (fun e => h1 e.symm)] at hj
    obtain ⟨g, hu, ht⟩ := h.tree hj
    exact ⟨g, by rw [use_other us v (fun e => h1 e.symm)]; exact hu, ht.on hb⟩
  · rw [markd_other L (by omega)] at hL
    obtain ⟨g, c, ho, hu⟩ := h.ans j0 hj0 hL
    refine ⟨g, c, (ho.on hb).more, fun j hj hN hLj => ?_⟩
    rw [markd_other L (by omega)] at hLj
    rw [use_other us v (by omega)]
    exact hu j hj hN hLj
theorem CallW.copy {W0 : World} {n : Nat} {tss ns : List (List Re)} {N iT iC : Nat} {vals : List Value} {aft : Value → List Value} {L : Nat → Bool} {us : Nat → Value} {w w' : World} (h : CallW W0 n tss ns N iT iC vals aft L us w) {g : Nat} (h2 : iT < iC) (hb : Below w.heap.size w w') (ht : IsWood w' (.slice (some ⟨g, 0, none⟩) n n) tss) : CallW W0 n tss ns N iT iC vals aft (markd L iT) (useAt us iT (.slice (some ⟨g, 0, none⟩) n n)) w' := by
  refine ⟨below_more h.below hb, fun j hj hne hL => ?_, fun hj => ⟨g, use_same _ _ _, ht⟩, fun j0 hj0 hL => ?_⟩
  · rw [markd_other L hne] at hL; rw [use_other us _ hne]; exact h.vals j hj hne hL
  · rw [markd_other L (by omega)] at hL
    obtain ⟨g, c, ho, hu⟩ := h.ans j0 hj0 hL
    refine ⟨g, c, (ho.on hb).more, fun j hj hN hLj => ?_⟩
    rw [markd_other L (by omega)] at hLj
    rw [use_other us _ (by omega)]
    exact hu j hj hN hLj
theorem CallW.call {W0 : World} {n : Nat} {tss ns : List (List Re)} {N iT iC : Nat} {vals : List Value} {aft : Value → List Value} {L : Nat → Bool} {us : Nat → Value} {w w' : World} (h : CallW W0 n tss ns N iT iC vals aft L us w) {g c : Nat} {v : Value} (h2 : iT < iC) (hL0 : ∀ j, iC < j → j < N → L j = false) (hb : Below w.heap.size w w') (ho : OwnWs g c ns w.heap.size w'.heap.size w') (hv : v = (aft (.slice (some ⟨g, 0, none⟩) n c)).getD 0 undef) : CallW W0 n tss ns N iT iC vals aft (markd L iC) (useAt us iC v) w' := by
  refine ⟨below_more h.below hb, fun j hj hne hL => ?_, fun hj => ?_, fun j0 hj0 hL => ⟨g, c, ho.wide h.below.size (Nat.le_refl _), fun j hj hN hLj => ?_⟩⟩
  · rw [markd_other L (by omega)] at hL; rw [use_other us _ (by omega)]; exact h.vals j hj hne hL
  · rw [markd_other L (by omega)] at hj
    obtain ⟨g, hu, ht⟩ := h.tree hj
    exact ⟨g, by rw [use_other us _ (by omega)]; exact hu, ht.on hb⟩
  · by_cases he : j = iC
    · subst he; rw [use_same, Nat.sub_self]; exact hv
    · rw [markd_other L he, hL0 j (by omega) hN] at hLj; cases hLj
theorem CallW.after {W0 : World} {n : Nat} {tss ns : List (List Re)} {N iT iC : Nat} {vals : List Value} {aft : Value → List Value} {L : Nat → Bool} {us : Nat → Value} {w : World} (h : CallW W0 n tss ns N iT iC vals aft L us w) {g c i : Nat} {v : Value} (h2 : iT < iC) (hi : iC < i) (ho : OwnWs g c ns W0.heap.size w.heap.size w) (hu : ∀ j, iC ≤ j → j < N → L j = true → us j = (aft (.slice (some ⟨g, 0, none⟩) n c)).getD (j - iC) undef) (hv : v = (aft (.slice (some ⟨g, 0, none⟩) n c)).getD (i - iC) undef) : CallW W0 n tss ns N iT iC vals aft (markd L i) (useAt us i v) w := by
  refine ⟨h.below, fun j hj hne hL => ?_, fun hj => ?_, fun j0 hj0 hL => ⟨g, c, ho, fun j hj hN hLj => ?_⟩⟩
  · rw [markd_other L (by omega)] at hL; rw [use_other us _ (by omega)]; exact h.vals j hj hne hL
  · rw [markd_other L (by omega)] at hj
    obtain ⟨g, hu, ht⟩ := h.tree hj
    exact ⟨g, by rw [use_other us _ (by omega)]; exact hu, ht⟩
  · by_cases he : j = i
    · subst he; rw [use_same]; exact hv
    · rw [markd_other L he] at hLj; rw [use_other us _ he]; exact hu j hj hN hLj
end Go.Proofs.YtfcenombphodbaaDoor
