/-
  Lists of trees that came in. A tap that came in.
-/
import Derived.Test.YtlemhlioidmanaaDoorWoodB
import Derived.OpenShut
import Derived.ShutString
import Derived.ChangeOld
import Derived.Below
import Derived.Deep.Strs
import Derived.Deep.Slices
import Derived.Test.YtlemhlioidmanaaDoorReadT
import Derived.Test.YtlemhlioidmanaaDoorTags
namespace Go.Proofs.YtlemhlioidmanaaDoor
open Go.ChangeShapes Go.WideShapes Go.ChangeAt Go.RowKit
set_option linter.unusedVariables false
set_option maxRecDepth 100000

theorem open_tree_cell {H : Type} {enc : TypeId × Value → H} {W : World} {spare : Nat → Bool} {held : Bool} {v : Value} {fuel : Nat} {x0 : DataW H × List MemPlace}
    (hf : DataW.trod enc Tryd.prog W 0 spare held fuel 36 [v] = some x0) :
    ∃ a n cap ts, v = .slice a n cap ∧ IsTree W (.slice a n cap) ts ∧ n = ts.length ∧ n ≤ maxLen := by
  obtain ⟨f0, f1, f2, hu, o0, o1, o2, t0, t1, t2⟩ := underResL
  obtain ⟨g0, g1, g2, hg, p0, p1, p2, s0, s1, s2⟩ := underAmtL
  rcases Go.Deep.open_slice Tryd.underlying36 hf with ⟨hc, _⟩ | ⟨x, l, cp, m, k, D, Pl, hc, _, hl, hm, hmm, _, hcell⟩
  · have e : v = .slice none 0 0 := by simpa using hc
    subst e
    exact ⟨none, 0, 0, [], rfl, ⟨none, 0, rfl, Nat.le_refl _, fun i hi => absurd hi (by simp)⟩, rfl, Nat.zero_le _⟩
  · have e : v = .slice (some x) l cp := by simpa using hc
    subst e
    obtain ⟨n, hnl⟩ : ∃ n, n = l := ⟨_, rfl⟩
    obtain ⟨cap, hcp⟩ : ∃ n, n = cp := ⟨_, rfl⟩
    subst hnl
    subst hcp
    have hlz : n ≤ m := by rw [hmm]; split <;> omega
    have each : ∀ i, i < n → ∃ r : Re, Cells5 W (x.add (i * 5)) r := by
      intro i hi
      obtain ⟨cs, h1, h2⟩ := hcell i (by omega)
      rw [cellsResL] at h1
      obtain ⟨_, hlen, hce⟩ := World.cells?_some h1
      obtain ⟨v0, v1, v2, v3, v4, rfl⟩ : ∃ v0 v1 v2 v3 v4, cs = [v0, v1, v2, v3, v4] := by
        match cs, hlen with
        | [v0, v1, v2, v3, v4], _ => exact ⟨v0, v1, v2, v3, v4, rfl⟩
      obtain ⟨y0, y1, y2, m', hy, _, q0, q1, q2⟩ := Go.Deep.trod_struct3 hu h2
      rw [t0, o0, cells4] at q0
      rw [t1, o1, cells3] at q1
      rw [t2, o2, cellsAmtL] at q2
      obtain ⟨z0, z1, z2, m'', hz, _, r0, r1, r2⟩ := Go.Deep.trod_struct3 hg q2
      rw [s0, p0, cells3] at r0
      rw [s1, p1, cells3] at r1
      rw [s2, p2, cells3] at r2
      obtain ⟨b0, hb0, _⟩ := DataW.trod_bool Tryd.underlying4 q0
      obtain ⟨b1, hb1, _⟩ := DataW.trod_int Tryd.underlying3 q1
      obtain ⟨b2, hb2, _⟩ := DataW.trod_int Tryd.underlying3 r0
      obtain ⟨b3, hb3, _⟩ := DataW.trod_int Tryd.underlying3 r1
      obtain ⟨b4, hb4, _⟩ := DataW.trod_int Tryd.underlying3 r2
      have w0 : v0 = .bool b0 := by simpa using hb0
      have w1 : v1 = .int .i64 b1 := by simpa using hb1
      have w2 : v2 = .int .i64 b2 := by simpa using hb2
      have w3 : v3 = .int .i64 b3 := by simpa using hb3
      have w4 : v4 = .int .i64 b4 := by simpa using hb4
      have e0 := hce 0 (by omega)
      have e1 := hce 1 (by omega)
      have e2 := hce 2 (by omega)
      have e3 := hce 3 (by omega)
      have e4 := hce 4 (by omega)
      rw [Go.Deep.add_add] at e0 e1 e2 e3 e4
      rw [add_up _ _ _ (by omega)] at e1 e2 e3 e4
      refine ⟨⟨b0, b1, b2, b3, b4⟩, ?_, ?_, ?_, ?_, ?_⟩
      · rw [← w0]; simpa using e0
      · rw [← w1]; simpa using e1
      · rw [← w2]; simpa using e2
      · rw [← w3]; simpa using e3
      · rw [← w4]; simpa using e4
    obtain ⟨q, hq⟩ : ∃ q : Nat → Re, ∀ i, i < n → Cells5 W (x.add (i * 5)) (q i) := ⟨fun i => if h : i < n then (each i h).choose else noRe, fun i hi => by simp only [hi, dif_pos]; exact (each i hi).choose_spec⟩
    refine ⟨some x, n, cap, (List.range n).map q, rfl, ⟨some x, cap, by simp, by simpa using hl, fun i hi => ⟨x, rfl, ?_⟩⟩, by simp, by omega⟩
    have hi' : i < n := by simpa using hi
    have e : reAt ((List.range n).map q) i = q i := by simp [reAt, hi']
    rw [e]
    exact hq i hi'
theorem cellsTreeL : Tryd.prog.cellsOf 38 = 1 := by kernel_rfl
theorem cellsTreesL : Tryd.prog.cellsOf 36 = 1 := by kernel_rfl
theorem underTreeL : ∃ f0 : Field, Tryd.prog.underlying 38 = some (.struct #[f0]) ∧ f0.offset = 0 ∧ f0.type = 36 := ⟨_, Tryd.underlying38, rfl, rfl⟩
theorem open_trees {H : Type} {enc : TypeId × Value → H} {W : World} {base : Nat} {spare : Nat → Bool} {held : Bool} {v : Value} {d : DataW H} {p : List MemPlace}
    (hv : Value.okWide Tryd.prog W .any base 22 v) (h : DataW.Trod enc Tryd.prog W 0 spare held 22 v d p) :
    ∃ a n cap tss, v = .slice a n cap ∧ IsTrees W (.slice a n cap) tss ∧ n = tss.length ∧ n ≤ maxLen ∧ ∀ i, (treeAt tss i).length ≤ maxLen := by
  obtain ⟨a, n, cap, rfl⟩ := okWide_slice Tryd.underlying22 hv
  obtain ⟨fuel, hf⟩ := h
  obtain ⟨f0, hu, o0, t0⟩ := underTreeL
  rcases Go.Deep.open_slice1 Tryd.underlying22 cellsTreeL hf with ⟨hc, _⟩ | ⟨x, l, cp, m, k, V, D, Pl, hc, _, hl, hm, hmm, _, hcell⟩
  · have e : Value.slice a n cap = .slice none 0 0 := by simpa [Value.cells] using hc
    cases e
    exact ⟨none, 0, 0, [], rfl, ⟨none, 0, rfl, Nat.le_refl _, fun i hi => absurd hi (by simp)⟩, rfl, Nat.zero_le _, fun i => by simp [treeAt]⟩
  · have e : Value.slice a n cap = .slice (some x) l cp := by simpa [Value.cells] using hc
    cases e
    have hlz : n ≤ m := by rw [hmm]; split <;> omega
    have each : ∀ i, i < n → ∃ ts : List Re, IsTree W (V i) ts ∧ ts.length ≤ maxLen := by
      intro i hi
      obtain ⟨h1, h2⟩ := hcell i (by omega)
      obtain ⟨y0, m', hy, _, q0⟩ := trod_struct1 hu h2
      rw [t0, o0, cellsTreesL] at q0
      obtain ⟨a', n', cap', ts, e1, e2, e3, e4⟩ := open_tree_cell (v := V i) (by simpa using q0)
      exact ⟨ts, by rw [e1]; exact e2, by omega⟩
    obtain ⟨q, hq⟩ : ∃ q : Nat → List Re, ∀ i, i < n → IsTree W (V i) (q i) ∧ (q i).length ≤ maxLen := ⟨fun i => if h : i < n then (each i h).choose else [], fun i hi => by simp only [hi, dif_pos]; exact (each i hi).choose_spec⟩
    have hat : ∀ i, i < n → treeAt ((List.range n).map q) i = q i := fun i hi => by simp [treeAt, hi]
    refine ⟨some x, n, cap, (List.range n).map q, rfl, ⟨some x, cap, by simp, by simpa using hl, fun i hi => ⟨x, V i, rfl, ?_, ?_⟩⟩, by simp, by omega, fun i => ?_⟩
    · have hi' : i < n := by simpa using hi
      exact (hcell i (by omega)).1
    · have hi' : i < n := by simpa using hi
      rw [hat i hi']
      exact (hq i hi').1
    · by_cases hi : i < n
      · rw [hat i hi]; exact (hq i hi).2
      · simp [treeAt, List.getD, hi]
end Go.Proofs.YtlemhlioidmanaaDoor
namespace Go.Proofs.YtlemhlioidmanaaDoor
open Go.ChangeShapes Go.WideShapes Go.ChangeAt Go.RowKit
set_option linter.unusedVariables false
set_option maxRecDepth 100000

theorem trod_struct6 {H : Type} {enc : TypeId × Value → H} {P : Program} {w : World} {base : Nat} {spare : Nat → Bool} {held : Bool} {t : TypeId} {f0 f1 f2 f3 f4 f5 : Field} {fuel : Nat} {cs : List Value} {x : DataW H × List MemPlace} (ht : P.underlying t = some (.struct #[f0, f1, f2, f3, f4, f5])) (h : DataW.trod enc P w base spare held fuel t cs = some x) :
    ∃ y0 y1 y2 y3 y4 y5 n, cs.length = P.cellsOf t ∧ DataW.trod enc P w base spare held n f0.type ((cs.drop f0.offset).take (P.cellsOf f0.type)) = some y0 ∧
      DataW.trod enc P w base spare held n f1.type ((cs.drop f1.offset).take (P.cellsOf f1.type)) = some y1 ∧ DataW.trod enc P w base spare held n f2.type ((cs.drop f2.offset).take (P.cellsOf f2.type)) = some y2 ∧
      DataW.trod enc P w base spare held n f3.type ((cs.drop f3.offset).take (P.cellsOf f3.type)) = some y3 ∧ DataW.trod enc P w base spare held n f4.type ((cs.drop f4.offset).take (P.cellsOf f4.type)) = some y4 ∧
      DataW.trod enc P w base spare held n f5.type ((cs.drop f5.offset).take (P.cellsOf f5.type)) = some y5 := by
  obtain ⟨xs, n, _, rfl, hl, hlen, hf⟩ := DataW.trod_struct ht h
  match xs, hlen with
  | [y0, y1, y2, y3, y4, y5], _ => exact ⟨y0, y1, y2, y3, y4, y5, n, hl, by simpa using hf 0 f0 rfl, by simpa using hf 1 f1 rfl, by simpa using hf 2 f2 rfl, by simpa using hf 3 f3 rfl, by simpa using hf 4 f4 rfl, by simpa using hf 5 f5 rfl⟩
theorem cellsTapL : Tryd.prog.cellsOf 24 = 6 := by kernel_rfl
theorem underTapL : ∃ f0 f1 f2 f3 f4 f5 : Field, Tryd.prog.underlying 24 = some (.struct #[f0, f1, f2, f3, f4, f5]) ∧ (f0.offset = 0 ∧ f1.offset = 1 ∧ f2.offset = 2 ∧ f3.offset = 3 ∧ f4.offset = 4 ∧ f5.offset = 5) ∧ f0.type = 3 ∧ f1.type = 3 ∧ f2.type = 3 ∧ f3.type = 3 ∧ f4.type = 3 ∧ f5.type = 3 := ⟨_, _, _, _, _, _, Tryd.underlying24, ⟨rfl, rfl, rfl, rfl, rfl, rfl⟩, rfl, rfl, rfl, rfl, rfl, rfl⟩
theorem open_tap {H : Type} {enc : TypeId × Value → H} {W : World} {base : Nat} {spare : Nat → Bool} {held : Bool} {v : Value} {d : DataW H} {p : List MemPlace}
    (hv : Value.okWide Tryd.prog W .any base 24 v) (h : DataW.Trod enc Tryd.prog W 0 spare held 24 v d p) : ∃ r p q h k t, v = tapV r p q h k t := by
  obtain ⟨f0, f1, f2, f3, f4, f5, hu, ⟨o0, o1, o2, o3, o4, o5⟩, t0, t1, t2, t3, t4, t5⟩ := underTapL
  obtain ⟨cs, rfl, hcs⟩ := okWide_struct hu hv
  rw [cellsTapL] at hcs
  obtain ⟨x0, x1, x2, x3, x4, x5, rfl⟩ : ∃ x0 x1 x2 x3 x4 x5, cs = #[x0, x1, x2, x3, x4, x5] := by
    match cs, hcs with
    | ⟨[x0, x1, x2, x3, x4, x5]⟩, _ => exact ⟨x0, x1, x2, x3, x4, x5, rfl⟩
  obtain ⟨fuel, hf⟩ := h
  obtain ⟨y0, y1, y2, y3, y4, y5, m, hlen, h0, h1, h2, h3, h4, h5⟩ := trod_struct6 hu hf
  rw [t0, o0, cells3] at h0
  obtain ⟨n0, e0, _⟩ := DataW.trod_int Tryd.underlying3 h0
  have g0 : x0 = .int .i64 n0 := by simpa [Value.cells] using e0
  rw [t1, o1, cells3] at h1
  obtain ⟨n1, e1, _⟩ := DataW.trod_int Tryd.underlying3 h1
  have g1 : x1 = .int .i64 n1 := by simpa [Value.cells] using e1
  rw [t2, o2, cells3] at h2
  obtain ⟨n2, e2, _⟩ := DataW.trod_int Tryd.underlying3 h2
  have g2 : x2 = .int .i64 n2 := by simpa [Value.cells] using e2
  rw [t3, o3, cells3] at h3
  obtain ⟨n3, e3, _⟩ := DataW.trod_int Tryd.underlying3 h3
  have g3 : x3 = .int .i64 n3 := by simpa [Value.cells] using e3
  rw [t4, o4, cells3] at h4
  obtain ⟨n4, e4, _⟩ := DataW.trod_int Tryd.underlying3 h4
  have g4 : x4 = .int .i64 n4 := by simpa [Value.cells] using e4
  rw [t5, o5, cells3] at h5
  obtain ⟨n5, e5, _⟩ := DataW.trod_int Tryd.underlying3 h5
  have g5 : x5 = .int .i64 n5 := by simpa [Value.cells] using e5
  exact ⟨n0, n1, n2, n3, n4, n5, by rw [g0, g1, g2, g3, g4, g5]⟩
end Go.Proofs.YtlemhlioidmanaaDoor
