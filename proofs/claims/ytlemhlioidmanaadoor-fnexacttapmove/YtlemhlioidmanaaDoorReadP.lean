/-
  A tap that came in.
-/
import Derived.Test.YtlemhlioidmanaaDoorReadT
import Derived.Test.YtlemhlioidmanaaDoorTap
namespace Go.Proofs.YtlemhlioidmanaaDoor
open Go.ChangeShapes Go.WideShapes Go.ChangeAt Go.RowKit
set_option linter.unusedVariables false
set_option maxRecDepth 100000

theorem trod_struct6 {H : Type} {enc : TypeId × Value → H} {P : Program} {w : World} {base : Nat} {spare : Nat → Bool} {held : Bool} {t : TypeId} {f0 f1 f2 f3 f4 f5 : Field} {fuel : Nat} {cs : List Value} {x : DataW H × List MemPlace} (ht : P.underlying t = some (.struct #[f0, f1, f2, f3, f4, f5])) (h : DataW.trod enc P w base spare held fuel t cs = some x) :
    ∃ y0 y1 y2 y3 y4 y5 n, cs.length = P.cellsOf t ∧ DataW.trod enc P w base spare held n f0.type ((cs.drop f0.offset).take (P.cellsOf f0.type)) = some y0 ∧
      DataW.trod enc P w base spare held n f1.type ((cs.drop f1.offset).take (P.cellsOf f1.type)) = some y1 ∧ DataW.trod enc P w base spare held n f2.type ((cs.drop f2.offset).take (P.cellsOf f2.type)) = some y2 ∧
      DataW.trod enc P w base spare held n f3.type ((cs.drop f3.offset).take (P.cellsOf f3.type)) = some y3 ∧ DataW.trod enc P w base spare held n f4.type ((cs.drop f4.offset).take (P.cellsOf f4.type)) = some y4 ∧
      DataW.trod enc P w base spare held n f5.type ((cs.drop f5.offset).take (P.cellsOf f5.type)) = some y5 := by
  obtain ⟨xs, n, _, rfl, hl, hlen, hf⟩ := DataW.trod_struct ht h
  match xs, hlen with
  | [y0, y1, y2, y3, y4, y5], _ => exact ⟨y0, y1, y2, y3, y4, y5, n, hl, by simpa using hf 0 f0 rfl, by simpa using hf 1 f1 rfl, by simpa using hf 2 f2 rfl, by simpa using hf 3 f3 rfl, by simpa using hf 4 f4 rfl, by simpa using hf 5 f5 rfl⟩
theorem cellsTapL : Tryd.prog.cellsOf 24 = 6 := by kernel_rfl
theorem underTapL : ∃ f0 f1 f2 f3 f4 f5 : Field, Tryd.prog.underlying 24 = some (.struct #[f0, f1, f2, f3, f4, f5]) ∧ (f0.offset = 0 ∧ f1.offset = 1 ∧ f2.offset = 2 ∧ f3.offset = 3 ∧ f4.offset = 4 ∧ f5.offset = 5) ∧ f0.type = 3 ∧ f1.type = 3 ∧ f2.type = 3 ∧ f3.type = 3 ∧ f4.type = 3 ∧ f5.type = 3 := ⟨_, _, _, _, _, _, Tryd.underlying24, ⟨rfl, rfl, rfl, rfl, rfl, rfl⟩, rfl, rfl, rfl, rfl, rfl, rfl⟩
theorem open_tap {H : Type} {enc : TypeId × Value → H} {W : World} {base : Nat} {spare : Nat → Bool} {held : Bool} {v : Value} {d : DataW H} {p : List MemPlace}
    (hv : Value.okWide Tryd.prog W .any base 24 v) (h : DataW.Trod enc Tryd.prog W 0 spare held 24 v d p) : ∃ r p q h k t, v = tapV r p q h k t := by
  obtain ⟨f0, f1, f2, f3, f4, f5, hu, ⟨o0, o1, o2, o3, o4, o5⟩, t0, t1, t2, t3, t4, t5⟩ := underTapL
  obtain ⟨cs, rfl, hcs⟩ := okWide_struct hu hv
  rw [cellsTapL] at hcs
  obtain ⟨x0, x1, x2, x3, x4, x5, rfl⟩ : ∃ x0 x1 x2 x3 x4 x5, cs = #[x0, x1, x2, x3, x4, x5] := by
    match cs, hcs with
    | ⟨[x0, x1, x2, x3, x4, x5]⟩, _ => exact ⟨x0, x1, x2, x3, x4, x5, rfl⟩
  obtain ⟨fuel, hf⟩ := h
  obtain ⟨y0, y1, y2, y3, y4, y5, m, hlen, h0, h1, h2, h3, h4, h5⟩ := trod_struct6 hu hf
  rw [t0, o0, cells3] at h0
  obtain ⟨n0, e0, _⟩ := DataW.trod_int Tryd.underlying3 h0
  have g0 : x0 = .int .i64 n0 := by simpa [Value.cells] using e0
  rw [t1, o1, cells3] at h1
  obtain ⟨n1, e1, _⟩ := DataW.trod_int Tryd.underlying3 h1
  have g1 : x1 = .int .i64 n1 := by simpa [Value.cells] using e1
  rw [t2, o2, cells3] at h2
  obtain ⟨n2, e2, _⟩ := DataW.trod_int Tryd.underlying3 h2
  have g2 : x2 = .int .i64 n2 := by simpa [Value.cells] using e2
  rw [t3, o3, cells3] at h3
  obtain ⟨n3, e3, _⟩ := DataW.trod_int Tryd.underlying3 h3
  have g3 : x3 = .int .i64 n3 := by simpa [Value.cells] using e3
  rw [t4, o4, cells3] at h4
  obtain ⟨n4, e4, _⟩ := DataW.trod_int Tryd.underlying3 h4
  have g4 : x4 = .int .i64 n4 := by simpa [Value.cells] using e4
  rw [t5, o5, cells3] at h5
  obtain ⟨n5, e5, _⟩ := DataW.trod_int Tryd.underlying3 h5
  have g5 : x5 = .int .i64 n5 := by simpa [Value.cells] using e5
  exact ⟨n0, n1, n2, n3, n4, n5, by rw [g0, g1, g2, g3, g4, g5]⟩
end Go.Proofs.YtlemhlioidmanaaDoor
