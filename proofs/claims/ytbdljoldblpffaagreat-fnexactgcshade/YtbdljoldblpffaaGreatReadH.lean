/-
  A heap that came in.
-/
import Derived.Test.YtbdljoldblpffaaGreatHeapT
import Derived.Test.YtbdljoldblpffaaGreatReadO
namespace Go.Proofs.YtbdljoldblpffaaGreat
open Go.ChangeShapes Go.WideShapes Go.ChangeAt Go.RowKit
set_option linter.unusedVariables false
set_option maxRecDepth 100000

theorem open_arena_cell {H : Type} {enc : TypeId × Value → H} {W : World} {spare : Nat → Bool} {held : Bool} {v : Value} {fuel : Nat} {x0 : DataW H × List MemPlace}
    (hf : DataW.trod enc Tryz.prog W 0 spare held fuel 22 [v] = some x0) :
    ∃ a n cap os, v = .slice a n cap ∧ IsArena W (.slice a n cap) os ∧ n = os.length ∧ n ≤ maxLen ∧ ∀ i, Sound8 (obAt os i) := by
  have hno : Sound8 noOb := ⟨Nat.zero_le _, Nat.zero_le _, Nat.zero_le _, by simp [Fits, noOb]⟩
  rcases Go.Deep.open_slice Tryz.underlying22 hf with ⟨hc, _⟩ | ⟨x, l, cp, m, k, D, Pl, hc, _, hl, hm, hmm, _, hcell⟩
  · have e : v = .slice none 0 0 := by simpa using hc
    subst e
    exact ⟨none, 0, 0, [], rfl, ⟨none, 0, rfl, Nat.le_refl _, fun i hi => absurd hi (by simp)⟩, rfl, Nat.zero_le _, fun i => by simp [obAt]; exact hno⟩
  · have e : v = .slice (some x) l cp := by simpa using hc
    subst e
    obtain ⟨n, hnl⟩ : ∃ n, n = l := ⟨_, rfl⟩
    subst hnl
    obtain ⟨cap, hcp⟩ : ∃ cap, cap = cp := ⟨_, rfl⟩
    subst hcp
    have hlz : n ≤ m := by rw [hmm]; split <;> omega
    have each : ∀ i, i < n → ∃ r : Ob, (∃ l d mm, ObCells W (x.add (i * 13)) r l d mm ∧ Lists W l d mm r) ∧ Sound8 r := by
      intro i hi
      obtain ⟨cs, h1, h2⟩ := hcell i (by omega)
      rw [cells8_O] at h1
      obtain ⟨_, hlen, hce⟩ := World.cells?_some h1
      obtain ⟨v0, v1, v2, v3, v4, v5, v6, v7, v8, v9, v10, v11, v12, rfl⟩ : ∃ v0 v1 v2 v3 v4 v5 v6 v7 v8 v9 v10 v11 v12, cs = [v0, v1, v2, v3, v4, v5, v6, v7, v8, v9, v10, v11, v12] := by
        match cs, hlen with
        | [v0, v1, v2, v3, v4, v5, v6, v7, v8, v9, v10, v11, v12], _ => exact ⟨v0, v1, v2, v3, v4, v5, v6, v7, v8, v9, v10, v11, v12, rfl⟩
      obtain ⟨o, l, d, mm, rfl, rfl, rfl, rfl, rfl, rfl, rfl, rfl, rfl, rfl, rfl, rfl, rfl, hL, hS⟩ := open_ob_cells h2
      refine ⟨o, ⟨_, _, _, ?_, hL⟩, hS⟩
      have e0 := hce 0 (by omega)
      rw [Go.Deep.add_add] at e0
      have e1 := hce 1 (by omega)
      rw [Go.Deep.add_add, add_up _ _ _ (by omega)] at e1
      have e2 := hce 2 (by omega)
      rw [Go.Deep.add_add, add_up _ _ _ (by omega)] at e2
      have e3 := hce 3 (by omega)
      rw [Go.Deep.add_add, add_up _ _ _ (by omega)] at e3
      have e4 := hce 4 (by omega)
      rw [Go.Deep.add_add, add_up _ _ _ (by omega)] at e4
      have e5 := hce 5 (by omega)
      rw [Go.Deep.add_add, add_up _ _ _ (by omega)] at e5
      have e6 := hce 6 (by omega)
      rw [Go.Deep.add_add, add_up _ _ _ (by omega)] at e6
      have e7 := hce 7 (by omega)
      rw [Go.Deep.add_add, add_up _ _ _ (by omega)] at e7
      have e8 := hce 8 (by omega)
      rw [Go.Deep.add_add, add_up _ _ _ (by omega)] at e8
      have e9 := hce 9 (by omega)
      rw [Go.Deep.add_add, add_up _ _ _ (by omega)] at e9
      have e10 := hce 10 (by omega)
      rw [Go.Deep.add_add, add_up _ _ _ (by omega)] at e10
      have e11 := hce 11 (by omega)
      rw [Go.Deep.add_add, add_up _ _ _ (by omega)] at e11
      have e12 := hce 12 (by omega)
      rw [Go.Deep.add_add, add_up _ _ _ (by omega)] at e12
      exact ⟨by simpa using e0, by simpa using e1, by simpa using e2, by simpa using e3, by simpa using e4, by simpa using e5, by simpa using e6, by simpa using e7, by simpa using e8, by simpa using e9, by simpa using e10, by simpa using e11, by simpa using e12⟩
    obtain ⟨q, hq⟩ : ∃ q : Nat → Ob, ∀ i, i < n → (∃ l d mm, ObCells W (x.add (i * 13)) (q i) l d mm ∧ Lists W l d mm (q i)) ∧ Sound8 (q i) := ⟨fun i => if h : i < n then (each i h).choose else noOb, fun i hi => by simp only [hi, dif_pos]; exact (each i hi).choose_spec⟩
    have hat : ∀ i, i < n → obAt ((List.range n).map q) i = q i := fun i hi => by simp [obAt, hi]
    refine ⟨some x, n, cap, (List.range n).map q, rfl, ⟨some x, cap, by simp, by simpa using hl, fun i hi => ?_⟩, by simp, by omega, fun i => ?_⟩
    · have hi' : i < n := by simpa using hi
      rw [hat i hi']
      obtain ⟨l, d, mm, h1, h2⟩ := (hq i hi').1
      exact ⟨x, l, d, mm, rfl, h1, h2⟩
    · by_cases hi : i < n
      · rw [hat i hi]; exact (hq i hi).2
      · have e : obAt ((List.range n).map q) i = noOb := by simp [obAt, List.getD, hi]
        rw [e]; exact hno
theorem cells10_G : Tryz.prog.cellsOf 25 = 4 := by kernel_rfl
theorem cells10_H : Tryz.prog.cellsOf 27 = 5 := by kernel_rfl
theorem cells10_A : Tryz.prog.cellsOf 22 = 1 := by kernel_rfl
theorem under10G : ∃ f0 f1 f2 f3 : Field, Tryz.prog.underlying 25 = some (.struct #[f0, f1, f2, f3]) ∧ (f0.offset = 0 ∧ f1.offset = 1 ∧ f2.offset = 2 ∧ f3.offset = 3) ∧ f0.type = 3 ∧ f1.type = 3 ∧ f2.type = 3 ∧ f3.type = 23 := ⟨_, _, _, _, Tryz.underlying25, ⟨rfl, rfl, rfl, rfl⟩, rfl, rfl, rfl, rfl⟩
theorem under10H : ∃ f0 f1 : Field, Tryz.prog.underlying 27 = some (.struct #[f0, f1]) ∧ f0.offset = 0 ∧ f1.offset = 1 ∧ f0.type = 22 ∧ f1.type = 25 := ⟨_, _, Tryz.underlying27, rfl, rfl, rfl, rfl⟩
theorem open_gc_cells {H : Type} {enc : TypeId × Value → H} {W : World} {spare : Nat → Bool} {held : Bool} {fuel : Nat} {x : DataW H × List MemPlace} {v0 v1 v2 v3 : Value}
    (h : DataW.trod enc Tryz.prog W 0 spare held fuel 25 [v0, v1, v2, v3] = some x) : ∃ (p t r : Int) (xs : List Int), v0 = .int .i64 p ∧ v1 = .int .i64 t ∧ v2 = .int .i64 r ∧ IsInts W v3 xs ∧ xs.length ≤ maxLen ∧ (-9223372036854775808 ≤ r ∧ r ≤ 9223372036854775807) ∧ (-9223372036854775808 ≤ t ∧ t ≤ 9223372036854775807) := by
  obtain ⟨f0, f1, f2, f3, hu, ⟨o0, o1, o2, o3⟩, t0, t1, t2, t3⟩ := under10G
  obtain ⟨xs, n, _, rfl, hl, hlen, hf⟩ := DataW.trod_struct hu h
  obtain ⟨y0, y1, y2, y3, rfl⟩ : ∃ y0 y1 y2 y3, xs = [y0, y1, y2, y3] := by
    match xs, hlen with
    | [y0, y1, y2, y3], _ => exact ⟨y0, y1, y2, y3, rfl⟩
  have h0 := (hf 0 f0 rfl).trans (show _ = some y0 from rfl)
  rw [t0, o0, cells8_3] at h0
  have h1 := (hf 1 f1 rfl).trans (show _ = some y1 from rfl)
  rw [t1, o1, cells8_3] at h1
  have h2 := (hf 2 f2 rfl).trans (show _ = some y2 from rfl)
  rw [t2, o2, cells8_3] at h2
  have h3 := (hf 3 f3 rfl).trans (show _ = some y3 from rfl)
  rw [t3, o3, cells8_I] at h3
  obtain ⟨n0, e0, r0⟩ := DataW.trod_int Tryz.underlying3 h0
  have g0 : v0 = .int .i64 n0 := by simpa using e0
  obtain ⟨n1, e1, r1⟩ := DataW.trod_int Tryz.underlying3 h1
  have g1 : v1 = .int .i64 n1 := by simpa using e1
  obtain ⟨n2, e2, r2⟩ := DataW.trod_int Tryz.underlying3 h2
  have g2 : v2 = .int .i64 n2 := by simpa using e2
  obtain ⟨xl, il, ml⟩ := open_ints_cell (v := v3) (by simpa using h3)
  simp only [Lit.wf, Bool.and_eq_true, decide_eq_true_eq] at r2 r1
  simp [IntKind.min, IntKind.max, IntKind.bits, IntKind.signed] at r2 r1
  exact ⟨n0, n1, n2, xl, g0, g1, g2, il, ml, by omega, by omega⟩
theorem open_heap {H : Type} {enc : TypeId × Value → H} {W : World} {base : Nat} {spare : Nat → Bool} {held : Bool} {v : Value} {dd : DataW H} {p : List MemPlace}
    (hv : Value.okWide Tryz.prog W .any base 27 v) (h : DataW.Trod enc Tryz.prog W 0 spare held 27 v dd p) :
    ∃ (a : Value) (p t r : Int) (g : Value) (os : List Ob) (xs : List Int), v = hpV a p t r g ∧ IsArena W a os ∧ IsInts W g xs ∧ os.length ≤ maxLen ∧ xs.length ≤ maxLen ∧ (∀ i, Sound8 (obAt os i)) ∧ (-9223372036854775808 ≤ r ∧ r ≤ 9223372036854775807) ∧ (-9223372036854775808 ≤ t ∧ t ≤ 9223372036854775807) := by
  obtain ⟨f0, f1, hu, o0, o1, t0, t1⟩ := under10H
  obtain ⟨cs, rfl, hcs⟩ := okWide_struct hu hv
  rw [cells10_H] at hcs
  obtain ⟨v0, v1, v2, v3, v4, rfl⟩ : ∃ v0 v1 v2 v3 v4, cs = #[v0, v1, v2, v3, v4] := by
    match cs, hcs with
    | ⟨[v0, v1, v2, v3, v4]⟩, _ => exact ⟨v0, v1, v2, v3, v4, rfl⟩
  obtain ⟨fuel, hf⟩ := h
  obtain ⟨y0, y1, m', hy, _, q0, q1⟩ := trod_struct2 hu hf
  rw [t0, o0, cells10_A] at q0
  rw [t1, o1, cells10_G] at q1
  obtain ⟨a, n, cap, os, e0, i0, en, hm, hS⟩ := open_arena_cell (v := v0) (by simpa [Value.cells] using q0)
  obtain ⟨p, t, r, xs, e1, e2, e3, ix, mx, hr, ht⟩ := open_gc_cells (v0 := v1) (v1 := v2) (v2 := v3) (v3 := v4) (by simpa [Value.cells] using q1)
  subst e0 e1 e2 e3
  exact ⟨_, p, t, r, v4, os, xs, rfl, i0, ix, by omega, mx, hS, hr, ht⟩
end Go.Proofs.YtbdljoldblpffaaGreat
