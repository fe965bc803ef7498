/-
  Lists of trees that came in.
-/
import Derived.Test.YtlemhlioidmanaaDoorWood3
import Derived.OpenShut
import Derived.ShutString
import Derived.ChangeOld
import Derived.Below
import Derived.Deep.Strs
import Derived.Deep.Slices
namespace Go.Proofs.YtlemhlioidmanaaDoor
open Go.ChangeShapes Go.WideShapes Go.ChangeAt Go.RowKit
set_option linter.unusedVariables false
set_option maxRecDepth 100000

theorem open_tree_cell {H : Type} {enc : TypeId × Value → H} {W : World} {spare : Nat → Bool} {held : Bool} {v : Value} {fuel : Nat} {x0 : DataW H × List MemPlace}
    (hf : DataW.trod enc Tryd.prog W 0 spare held fuel 36 [v] = some x0) :
    ∃ a n cap ts, v = .slice a n cap ∧ IsTree W (.slice a n cap) ts ∧ n = ts.length ∧ n ≤ maxLen := by
  obtain ⟨f0, f1, f2, hu, o0, o1, o2, t0, t1, t2⟩ := underResL
  obtain ⟨g0, g1, g2, hg, p0, p1, p2, s0, s1, s2⟩ := underAmtL
  rcases Go.Deep.open_slice Tryd.underlying36 hf with ⟨hc, _⟩ | ⟨x, l, cp, m, k, D, Pl, hc, _, hl, hm, hmm, _, hcell⟩
  · have e : v = .slice none 0 0 := by simpa using hc
    subst e
    exact ⟨none, 0, 0, [], rfl, ⟨none, 0, rfl, Nat.le_refl _, fun i hi => absurd hi (by simp)⟩, rfl, Nat.zero_le _⟩
  · have e : v = .slice (some x) l cp := by simpa using hc
    subst e
    obtain ⟨n, hnl⟩ : ∃ n, n = l := ⟨_, rfl⟩
    obtain ⟨cap, hcp⟩ : ∃ n, n = cp := ⟨_, rfl⟩
    subst hnl
    subst hcp
    have hlz : n ≤ m := by rw [hmm]; split <;> omega
    have each : ∀ i, i < n → ∃ r : Re, Cells5 W (x.add (i * 5)) r := by
      intro i hi
      obtain ⟨cs, h1, h2⟩ := hcell i (by omega)
      rw [cellsResL] at h1
      obtain ⟨_, hlen, hce⟩ := World.cells?_some h1
      obtain ⟨v0, v1, v2, v3, v4, rfl⟩ : ∃ v0 v1 v2 v3 v4, cs = [v0, v1, v2, v3, v4] := by
        match cs, hlen with
        | [v0, v1, v2, v3, v4], _ => exact ⟨v0, v1, v2, v3, v4, rfl⟩
      obtain ⟨y0, y1, y2, m', hy, _, q0, q1, q2⟩ := Go.Deep.trod_struct3 hu h2
      rw [t0, o0, cells4] at q0
      rw [t1, o1, cells3] at q1
      rw [t2, o2, cellsAmtL] at q2
      obtain ⟨z0, z1, z2, m'', hz, _, r0, r1, r2⟩ := Go.Deep.trod_struct3 hg q2
      rw [s0, p0, cells3] at r0
      rw [s1, p1, cells3] at r1
      rw [s2, p2, cells3] at r2
      obtain ⟨b0, hb0, _⟩ := DataW.trod_bool Tryd.underlying4 q0
      obtain ⟨b1, hb1, _⟩ := DataW.trod_int Tryd.underlying3 q1
      obtain ⟨b2, hb2, _⟩ := DataW.trod_int Tryd.underlying3 r0
      obtain ⟨b3, hb3, _⟩ := DataW.trod_int Tryd.underlying3 r1
      obtain ⟨b4, hb4, _⟩ := DataW.trod_int Tryd.underlying3 r2
      have w0 : v0 = .bool b0 := by simpa using hb0
      have w1 : v1 = .int .i64 b1 := by simpa using hb1
      have w2 : v2 = .int .i64 b2 := by simpa using hb2
      have w3 : v3 = .int .i64 b3 := by simpa using hb3
      have w4 : v4 = .int .i64 b4 := by simpa using hb4
      have e0 := hce 0 (by omega)
      have e1 := hce 1 (by omega)
      have e2 := hce 2 (by omega)
      have e3 := hce 3 (by omega)
      have e4 := hce 4 (by omega)
      rw [Go.Deep.add_add] at e0 e1 e2 e3 e4
      rw [add_up _ _ _ (by omega)] at e1 e2 e3 e4
      refine ⟨⟨b0, b1, b2, b3, b4⟩, ?_, ?_, ?_, ?_, ?_⟩
      · rw [← w0]; simpa using e0
      · rw [← w1]; simpa using e1
      · rw [← w2]; simpa using e2
      · rw [← w3]; simpa using e3
      · rw [← w4]; simpa using e4
    obtain ⟨q, hq⟩ : ∃ q : Nat → Re, ∀ i, i < n → Cells5 W (x.add (i * 5)) (q i) := ⟨fun i => if h : i < n then (each i h).choose else noRe, fun i hi => by simp only [hi, dif_pos]; exact (each i hi).choose_spec⟩
    refine ⟨some x, n, cap, (List.range n).map q, rfl, ⟨some x, cap, by simp, by simpa using hl, fun i hi => ⟨x, rfl, ?_⟩⟩, by simp, by omega⟩
    have hi' : i < n := by simpa using hi
    have e : reAt ((List.range n).map q) i = q i := by simp [reAt, hi']
    rw [e]
    exact hq i hi'
theorem cellsTreeL : Tryd.prog.cellsOf 38 = 1 := by kernel_rfl
theorem cellsTreesL : Tryd.prog.cellsOf 36 = 1 := by kernel_rfl
theorem underTreeL : ∃ f0 : Field, Tryd.prog.underlying 38 = some (.struct #[f0]) ∧ f0.offset = 0 ∧ f0.type = 36 := ⟨_, Tryd.underlying38, rfl, rfl⟩
theorem open_trees {H : Type} {enc : TypeId × Value → H} {W : World} {base : Nat} {spare : Nat → Bool} {held : Bool} {v : Value} {d : DataW H} {p : List MemPlace}
    (hv : Value.okWide Tryd.prog W .any base 22 v) (h : DataW.Trod enc Tryd.prog W 0 spare held 22 v d p) :
    ∃ a n cap tss, v = .slice a n cap ∧ IsTrees W (.slice a n cap) tss ∧ n = tss.length ∧ n ≤ maxLen ∧ ∀ i, (treeAt tss i).length ≤ maxLen := by
  obtain ⟨a, n, cap, rfl⟩ := okWide_slice Tryd.underlying22 hv
  obtain ⟨fuel, hf⟩ := h
  obtain ⟨f0, hu, o0, t0⟩ := underTreeL
  rcases Go.Deep.open_slice1 Tryd.underlying22 cellsTreeL hf with ⟨hc, _⟩ | ⟨x, l, cp, m, k, V, D, Pl, hc, _, hl, hm, hmm, _, hcell⟩
  · have e : Value.slice a n cap = .slice none 0 0 := by simpa [Value.cells] using hc
    cases e
    exact ⟨none, 0, 0, [], rfl, ⟨none, 0, rfl, Nat.le_refl _, fun i hi => absurd hi (by simp)⟩, rfl, Nat.zero_le _, fun i => by simp [treeAt]⟩
  · have e : Value.slice a n cap = .slice (some x) l cp := by simpa [Value.cells] using hc
    cases e
    have hlz : n ≤ m := by rw [hmm]; split <;> omega
    have each : ∀ i, i < n → ∃ ts : List Re, IsTree W (V i) ts ∧ ts.length ≤ maxLen := by
      intro i hi
      obtain ⟨h1, h2⟩ := hcell i (by omega)
      obtain ⟨y0, m', hy, _, q0⟩ := trod_struct1 hu h2
      rw [t0, o0, cellsTreesL] at q0
      obtain ⟨a', n', cap', ts, e1, e2, e3, e4⟩ := open_tree_cell (v := V i) (by simpa using q0)
      exact ⟨ts, by rw [e1]; exact e2, by omega⟩
    obtain ⟨q, hq⟩ : ∃ q : Nat → List Re, ∀ i, i < n → IsTree W (V i) (q i) ∧ (q i).length ≤ maxLen := ⟨fun i => if h : i < n then (each i h).choose else [], fun i hi => by simp only [hi, dif_pos]; exact (each i hi).choose_spec⟩
    have hat : ∀ i, i < n → treeAt ((List.range n).map q) i = q i := fun i hi => by simp [treeAt, hi]
    refine ⟨some x, n, cap, (List.range n).map q, rfl, ⟨some x, cap, by simp, by simpa using hl, fun i hi => ⟨x, V i, rfl, ?_, ?_⟩⟩, by simp, by omega, fun i => ?_⟩
    · have hi' : i < n := by simpa using hi
      exact (hcell i (by omega)).1
    · have hi' : i < n := by simpa using hi
      rw [hat i hi']
      exact (hq i hi').1
    · by_cases hi : i < n
      · rw [hat i hi]; exact (hq i hi).2
      · simp [treeAt, List.getD, hi]
end Go.Proofs.YtlemhlioidmanaaDoor
