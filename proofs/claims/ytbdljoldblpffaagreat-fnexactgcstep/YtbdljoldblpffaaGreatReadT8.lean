/-
  A thing and an arena that came in. A heap that came in.
-/
import Derived.Test.YtbdljoldblpffaaGreatArT
import Derived.Test.YtbdljoldblpffaaGreatOkS
import Derived.OpenShut
import Derived.ShutString
import Derived.ChangeOld
import Derived.Below
import Derived.Deep.Strs
import Derived.Deep.Slices
import Derived.Test.YtbdljoldblpffaaGreatHeapT
namespace Go.Proofs.YtbdljoldblpffaaGreat
open Go.ChangeShapes Go.WideShapes Go.ChangeAt Go.RowKit
set_option linter.unusedVariables false
set_option maxRecDepth 100000

theorem cells8_3 : Tryz.prog.cellsOf 3 = 1 := by kernel_rfl
theorem cells8_4 : Tryz.prog.cellsOf 4 = 1 := by kernel_rfl
theorem cells8_I : Tryz.prog.cellsOf 23 = 1 := by kernel_rfl
theorem cells8_M : Tryz.prog.cellsOf 71 = 1 := by kernel_rfl
theorem cells8_m : Tryz.prog.cellsOf 102 = 2 := by kernel_rfl
theorem cells8_O : Tryz.prog.cellsOf 73 = 13 := by kernel_rfl
theorem open_ints_cell {H : Type} {enc : TypeId × Value → H} {W : World} {spare : Nat → Bool} {held : Bool} {v : Value} {fuel : Nat} {x0 : DataW H × List MemPlace}
    (hf : DataW.trod enc Tryz.prog W 0 spare held fuel 23 [v] = some x0) : ∃ xs, IsInts W v xs ∧ xs.length ≤ maxLen := by
  rcases Go.Deep.open_slice1 Tryz.underlying23 cells8_3 hf with ⟨hc, _⟩ | ⟨x, l, cp, m, k, V, D, Pl, hc, _, hl, hm, hmm, _, hcell⟩
  · have e : v = .slice none 0 0 := by simpa using hc
    subst e
    exact ⟨[], ⟨none, 0, rfl, Nat.le_refl _, fun i hi => absurd hi (by simp)⟩, Nat.zero_le _⟩
  · have e : v = .slice (some x) l cp := by simpa using hc
    subst e
    have hlz : l ≤ m := by rw [hmm]; split <;> omega
    have each : ∀ i, i < l → ∃ n : Int, V i = .int .i64 n := by
      intro i hi
      obtain ⟨h1, h2⟩ := hcell i (by omega)
      obtain ⟨n, hn, _⟩ := DataW.trod_int Tryz.underlying3 h2
      exact ⟨n, by simpa using hn⟩
    obtain ⟨q, hq⟩ : ∃ q : Nat → Int, ∀ i, i < l → V i = .int .i64 (q i) := ⟨fun i => if h : i < l then (each i h).choose else 0, fun i hi => by simp only [hi, dif_pos]; exact (each i hi).choose_spec⟩
    refine ⟨(List.range l).map q, ⟨some x, cp, by simp, by simpa using hl, fun i hi => ⟨x, rfl, ?_⟩⟩, by simp; omega⟩
    have hi' : i < l := by simpa using hi
    rw [(hcell i (by omega)).1, hq i hi']
    simp [List.getD, hi']
theorem open_msgs_cell {H : Type} {enc : TypeId × Value → H} {W : World} {spare : Nat → Bool} {held : Bool} {v : Value} {fuel : Nat} {x0 : DataW H × List MemPlace}
    (hf : DataW.trod enc Tryz.prog W 0 spare held fuel 71 [v] = some x0) : ∃ ms, IsMsgs W v ms ∧ ms.length ≤ maxLen := by
  have hu : ∃ f0 f1 : Field, Tryz.prog.underlying 102 = some (.struct #[f0, f1]) ∧ f0.offset = 0 ∧ f1.offset = 1 ∧ f0.type = 3 ∧ f1.type = 3 := ⟨_, _, Tryz.underlying102, rfl, rfl, rfl, rfl⟩
  obtain ⟨f0, f1, hu, o0, o1, t0, t1⟩ := hu
  rcases Go.Deep.open_slice Tryz.underlying71 hf with ⟨hc, _⟩ | ⟨x, l, cp, m, k, D, Pl, hc, _, hl, hm, hmm, _, hcell⟩
  · have e : v = .slice none 0 0 := by simpa using hc
    subst e
    exact ⟨[], ⟨none, 0, rfl, Nat.le_refl _, fun i hi => absurd hi (by simp)⟩, Nat.zero_le _⟩
  · have e : v = .slice (some x) l cp := by simpa using hc
    subst e
    have hlz : l ≤ m := by rw [hmm]; split <;> omega
    have each : ∀ i, i < l → ∃ r : Ms, Cells2 W (x.add (i * 2)) r := by
      intro i hi
      obtain ⟨cs, h1, h2⟩ := hcell i (by omega)
      rw [cells8_m] at h1
      obtain ⟨_, hlen, hce⟩ := World.cells?_some h1
      obtain ⟨v0, v1, rfl⟩ : ∃ v0 v1, cs = [v0, v1] := by
        match cs, hlen with
        | [v0, v1], _ => exact ⟨v0, v1, rfl⟩
      obtain ⟨y0, y1, m', hy, _, q0, q1⟩ := trod_struct2 hu h2
      rw [t0, o0, cells8_3] at q0
      rw [t1, o1, cells8_3] at q1
      obtain ⟨b0, hb0, _⟩ := DataW.trod_int Tryz.underlying3 q0
      obtain ⟨b1, hb1, _⟩ := DataW.trod_int Tryz.underlying3 q1
      have w0 : v0 = .int .i64 b0 := by simpa using hb0
      have w1 : v1 = .int .i64 b1 := by simpa using hb1
      have e0 := hce 0 (by omega)
      have e1 := hce 1 (by omega)
      rw [Go.Deep.add_add] at e0 e1
      rw [add_up _ _ _ (by omega)] at e1
      refine ⟨⟨b0, b1⟩, ?_, ?_⟩
      · rw [← w0]; simpa using e0
      · rw [← w1]; simpa using e1
    obtain ⟨q, hq⟩ : ∃ q : Nat → Ms, ∀ i, i < l → Cells2 W (x.add (i * 2)) (q i) := ⟨fun i => if h : i < l then (each i h).choose else noMs, fun i hi => by simp only [hi, dif_pos]; exact (each i hi).choose_spec⟩
    refine ⟨(List.range l).map q, ⟨some x, cp, by simp, by simpa using hl, fun i hi => ⟨x, rfl, ?_⟩⟩, by simp; omega⟩
    have hi' : i < l := by simpa using hi
    have e : msAt ((List.range l).map q) i = q i := by simp [msAt, List.getD, hi']
    rw [e]
    exact ⟨(hq i hi').c0, (hq i hi').c1⟩
/-- No list of it is longer than a machine's number tells, and it waits for such a number. -/
structure Sound8 (o : Ob) : Prop where
  l1 : o.ls.length ≤ maxLen
  l2 : o.ds.length ≤ maxLen
  l3 : o.qs.length ≤ maxLen
  fits : Fits o
theorem under8 : ∃ f0 f1 f2 f3 f4 f5 f6 f7 f8 f9 f10 f11 f12 : Field, Tryz.prog.underlying 73 = some (.struct #[f0, f1, f2, f3, f4, f5, f6, f7, f8, f9, f10, f11, f12]) ∧ (f0.offset = 0 ∧ f1.offset = 1 ∧ f2.offset = 2 ∧ f3.offset = 3 ∧ f4.offset = 4 ∧ f5.offset = 5 ∧ f6.offset = 6 ∧ f7.offset = 7 ∧ f8.offset = 8 ∧ f9.offset = 9 ∧ f10.offset = 10 ∧ f11.offset = 11 ∧ f12.offset = 12) ∧ f0.type = 3 ∧ f1.type = 3 ∧ f2.type = 3 ∧ f3.type = 3 ∧ f4.type = 3 ∧ f5.type = 3 ∧ f6.type = 3 ∧ f7.type = 3 ∧ f8.type = 3 ∧ f9.type = 4 ∧ f10.type = 23 ∧ f11.type = 23 ∧ f12.type = 71 := ⟨_, _, _, _, _, _, _, _, _, _, _, _, _, Tryz.underlying73, ⟨rfl, rfl, rfl, rfl, rfl, rfl, rfl, rfl, rfl, rfl, rfl, rfl, rfl⟩, rfl, rfl, rfl, rfl, rfl, rfl, rfl, rfl, rfl, rfl, rfl, rfl, rfl⟩
theorem open_ob_cells {H : Type} {enc : TypeId × Value → H} {W : World} {spare : Nat → Bool} {held : Bool} {fuel : Nat} {x : DataW H × List MemPlace} {v0 v1 v2 v3 v4 v5 v6 v7 v8 v9 v10 v11 v12 : Value}
    (h : DataW.trod enc Tryz.prog W 0 spare held fuel 73 [v0, v1, v2, v3, v4, v5, v6, v7, v8, v9, v10, v11, v12] = some x) : ∃ (o : Ob) (l d m : Value), v0 = .int .i64 o.gen ∧ v1 = .int .i64 o.kind ∧ v2 = .int .i64 o.into ∧ v3 = .int .i64 o.res ∧ v4 = .int .i64 o.unt ∧ v5 = .int .i64 o.pages ∧ v6 = .int .i64 o.wait ∧ v7 = .int .i64 o.got ∧ v8 = .int .i64 o.ran ∧ v9 = .bool o.mark ∧ v10 = l ∧ v11 = d ∧ v12 = m ∧ Lists W l d m o ∧ Sound8 o := by
  obtain ⟨f0, f1, f2, f3, f4, f5, f6, f7, f8, f9, f10, f11, f12, hu, ⟨o0, o1, o2, o3, o4, o5, o6, o7, o8, o9, o10, o11, o12⟩, t0, t1, t2, t3, t4, t5, t6, t7, t8, t9, t10, t11, t12⟩ := under8
  obtain ⟨xs, n, _, rfl, hl, hlen, hf⟩ := DataW.trod_struct hu h
  obtain ⟨y0, y1, y2, y3, y4, y5, y6, y7, y8, y9, y10, y11, y12, rfl⟩ : ∃ y0 y1 y2 y3 y4 y5 y6 y7 y8 y9 y10 y11 y12, xs = [y0, y1, y2, y3, y4, y5, y6, y7, y8, y9, y10, y11, y12] := by
    match xs, hlen with
    | [y0, y1, y2, y3, y4, y5, y6, y7, y8, y9, y10, y11, y12], _ => exact ⟨y0, y1, y2, y3, y4, y5, y6, y7, y8, y9, y10, y11, y12, rfl⟩
  have h0 := (hf 0 f0 rfl).trans (show _ = some y0 from rfl)
  rw [t0, o0, cells8_3] at h0
  have h1 := (hf 1 f1 rfl).trans (show _ = some y1 from rfl)
  rw [t1, o1, cells8_3] at h1
  have h2 := (hf 2 f2 rfl).trans (show _ = some y2 from rfl)
  rw [t2, o2, cells8_3] at h2
  have h3 := (hf 3 f3 rfl).trans (show _ = some y3 from rfl)
  rw [t3, o3, cells8_3] at h3
  have h4 := (hf 4 f4 rfl).trans (show _ = some y4 from rfl)
  rw [t4, o4, cells8_3] at h4
  have h5 := (hf 5 f5 rfl).trans (show _ = some y5 from rfl)
  rw [t5, o5, cells8_3] at h5
  have h6 := (hf 6 f6 rfl).trans (show _ = some y6 from rfl)
  rw [t6, o6, cells8_3] at h6
  have h7 := (hf 7 f7 rfl).trans (show _ = some y7 from rfl)
  rw [t7, o7, cells8_3] at h7
  have h8 := (hf 8 f8 rfl).trans (show _ = some y8 from rfl)
  rw [t8, o8, cells8_3] at h8
  have h9 := (hf 9 f9 rfl).trans (show _ = some y9 from rfl)
  rw [t9, o9, cells8_4] at h9
  have h10 := (hf 10 f10 rfl).trans (show _ = some y10 from rfl)
  rw [t10, o10, cells8_I] at h10
  have h11 := (hf 11 f11 rfl).trans (show _ = some y11 from rfl)
  rw [t11, o11, cells8_I] at h11
  have h12 := (hf 12 f12 rfl).trans (show _ = some y12 from rfl)
  rw [t12, o12, cells8_M] at h12
  obtain ⟨n0, e0, r0⟩ := DataW.trod_int Tryz.underlying3 h0
  have g0 : v0 = .int .i64 n0 := by simpa using e0
  obtain ⟨n1, e1, r1⟩ := DataW.trod_int Tryz.underlying3 h1
  have g1 : v1 = .int .i64 n1 := by simpa using e1
  obtain ⟨n2, e2, r2⟩ := DataW.trod_int Tryz.underlying3 h2
  have g2 : v2 = .int .i64 n2 := by simpa using e2
  obtain ⟨n3, e3, r3⟩ := DataW.trod_int Tryz.underlying3 h3
  have g3 : v3 = .int .i64 n3 := by simpa using e3
  obtain ⟨n4, e4, r4⟩ := DataW.trod_int Tryz.underlying3 h4
  have g4 : v4 = .int .i64 n4 := by simpa using e4
  obtain ⟨n5, e5, r5⟩ := DataW.trod_int Tryz.underlying3 h5
  have g5 : v5 = .int .i64 n5 := by simpa using e5
  obtain ⟨n6, e6, r6⟩ := DataW.trod_int Tryz.underlying3 h6
  have g6 : v6 = .int .i64 n6 := by simpa using e6
  obtain ⟨n7, e7, r7⟩ := DataW.trod_int Tryz.underlying3 h7
  have g7 : v7 = .int .i64 n7 := by simpa using e7
  obtain ⟨n8, e8, r8⟩ := DataW.trod_int Tryz.underlying3 h8
  have g8 : v8 = .int .i64 n8 := by simpa using e8
  obtain ⟨b9, e9, _⟩ := DataW.trod_bool Tryz.underlying4 h9
  have g9 : v9 = .bool b9 := by simpa using e9
  obtain ⟨xl, il, ml⟩ := open_ints_cell (v := v10) (by simpa using h10)
  obtain ⟨xd, id', md⟩ := open_ints_cell (v := v11) (by simpa using h11)
  obtain ⟨xq, iq, mq⟩ := open_msgs_cell (v := v12) (by simpa using h12)
  refine ⟨⟨n0, n1, n2, n3, n4, n5, n6, n7, n8, b9, xl, xd, xq⟩, v10, v11, v12, g0, g1, g2, g3, g4, g5, g6, g7, g8, g9, rfl, rfl, rfl, ⟨il, id', iq⟩, ⟨ml, md, mq, ?_⟩⟩
  simp only [Lit.wf, Bool.and_eq_true, decide_eq_true_eq] at r6
  simp [IntKind.min, IntKind.max, IntKind.bits, IntKind.signed] at r6
  unfold Fits
  simp only
  omega
theorem open_ob {H : Type} {enc : TypeId × Value → H} {W : World} {base : Nat} {spare : Nat → Bool} {held : Bool} {v : Value} {dd : DataW H} {p : List MemPlace}
    (hv : Value.okWide Tryz.prog W .any base 73 v) (h : DataW.Trod enc Tryz.prog W 0 spare held 73 v dd p) : ∃ (o : Ob) (l d m : Value), v = obV o l d m ∧ Lists W l d m o ∧ Sound8 o := by
  obtain ⟨f0, f1, f2, f3, f4, f5, f6, f7, f8, f9, f10, f11, f12, hu, _⟩ := under8
  obtain ⟨cs, rfl, hcs⟩ := okWide_struct hu hv
  rw [cells8_O] at hcs
  obtain ⟨v0, v1, v2, v3, v4, v5, v6, v7, v8, v9, v10, v11, v12, rfl⟩ : ∃ v0 v1 v2 v3 v4 v5 v6 v7 v8 v9 v10 v11 v12, cs = #[v0, v1, v2, v3, v4, v5, v6, v7, v8, v9, v10, v11, v12] := by
    match cs, hcs with
    | ⟨[v0, v1, v2, v3, v4, v5, v6, v7, v8, v9, v10, v11, v12]⟩, _ => exact ⟨v0, v1, v2, v3, v4, v5, v6, v7, v8, v9, v10, v11, v12, rfl⟩
  obtain ⟨fuel, hf⟩ := h
  obtain ⟨o, l, d, m, rfl, rfl, rfl, rfl, rfl, rfl, rfl, rfl, rfl, rfl, rfl, rfl, rfl, hL, hS⟩ := open_ob_cells (by simpa [Value.cells] using hf)
  exact ⟨o, _, _, _, rfl, hL, hS⟩
theorem open_arena {H : Type} {enc : TypeId × Value → H} {W : World} {base : Nat} {spare : Nat → Bool} {held : Bool} {v : Value} {dd : DataW H} {p : List MemPlace}
    (hv : Value.okWide Tryz.prog W .any base 22 v) (h : DataW.Trod enc Tryz.prog W 0 spare held 22 v dd p) :
    ∃ a n cap os, v = .slice a n cap ∧ IsArena W (.slice a n cap) os ∧ n = os.length ∧ n ≤ maxLen ∧ ∀ i, Sound8 (obAt os i) := by
  obtain ⟨a, n, cap, rfl⟩ := okWide_slice Tryz.underlying22 hv
  obtain ⟨fuel, hf⟩ := h
  have hno : Sound8 noOb := ⟨Nat.zero_le _, Nat.zero_le _, Nat.zero_le _, by simp [Fits, noOb]⟩
  rcases Go.Deep.open_slice Tryz.underlying22 hf with ⟨hc, _⟩ | ⟨x, l, cp, m, k, D, Pl, hc, _, hl, hm, hmm, _, hcell⟩
  · have e : Value.slice a n cap = .slice none 0 0 := by simpa [Value.cells] using hc
    cases e
    exact ⟨none, 0, 0, [], rfl, ⟨none, 0, rfl, Nat.le_refl _, fun i hi => absurd hi (by simp)⟩, rfl, Nat.zero_le _, fun i => by simp [obAt]; exact hno⟩
  · have e : Value.slice a n cap = .slice (some x) l cp := by simpa [Value.cells] using hc
    cases e
    have hlz : n ≤ m := by rw [hmm]; split <;> omega
    have each : ∀ i, i < n → ∃ r : Ob, (∃ l d mm, ObCells W (x.add (i * 13)) r l d mm ∧ Lists W l d mm r) ∧ Sound8 r := by
      intro i hi
      obtain ⟨cs, h1, h2⟩ := hcell i (by omega)
      rw [cells8_O] at h1
      obtain ⟨_, hlen, hce⟩ := World.cells?_some h1
      obtain ⟨v0, v1, v2, v3, v4, v5, v6, v7, v8, v9, v10, v11, v12, rfl⟩ : ∃ v0 v1 v2 v3 v4 v5 v6 v7 v8 v9 v10 v11 v12, cs = [v0, v1, v2, v3, v4, v5, v6, v7, v8, v9, v10, v11, v12] := by
        match cs, hlen with
        | [v0, v1, v2, v3, v4, v5, v6, v7, v8, v9, v10, v11, v12], _ => exact ⟨v0, v1, v2, v3, v4, v5, v6, v7, v8, v9, v10, v11, v12, rfl⟩
      obtain ⟨o, l, d, mm, rfl, rfl, rfl, rfl, rfl, rfl, rfl, rfl, rfl, rfl, rfl, rfl, rfl, hL, hS⟩ := open_ob_cells h2
      refine ⟨o, ⟨_, _, _, ?_, hL⟩, hS⟩
      have e0 := hce 0 (by omega)
      rw [Go.Deep.add_add] at e0
      have e1 := hce 1 (by omega)
      rw [Go.Deep.add_add, add_up _ _ _ (by omega)] at e1
      have e2 := hce 2 (by omega)
      rw [Go.Deep.add_add, add_up _ _ _ (by omega)] at e2
      have e3 := hce 3 (by omega)
      rw [Go.Deep.add_add, add_up _ _ _ (by omega)] at e3
      have e4 := hce 4 (by omega)
      rw [Go.Deep.add_add, add_up _ _ _ (by omega)] at e4
      have e5 := hce 5 (by omega)
      rw [Go.Deep.add_add, add_up _ _ _ (by omega)] at e5
      have e6 := hce 6 (by omega)
      rw [Go.Deep.add_add, add_up _ _ _ (by omega)] at e6
      have e7 := hce 7 (by omega)
      rw [Go.Deep.add_add, add_up _ _ _ (by omega)] at e7
      have e8 := hce 8 (by omega)
      rw [Go.Deep.add_add, add_up _ _ _ (by omega)] at e8
      have e9 := hce 9 (by omega)
      rw [Go.Deep.add_add, add_up _ _ _ (by omega)] at e9
      have e10 := hce 10 (by omega)
      rw [Go.Deep.add_add, add_up _ _ _ (by omega)] at e10
      have e11 := hce 11 (by omega)
      rw [Go.Deep.add_add, add_up _ _ _ (by omega)] at e11
      have e12 := hce 12 (by omega)
      rw [Go.Deep.add_add, add_up _ _ _ (by omega)] at e12
      exact ⟨by simpa using e0, by simpa using e1, by simpa using e2, by simpa using e3, by simpa using e4, by simpa using e5, by simpa using e6, by simpa using e7, by simpa using e8, by simpa using e9, by simpa using e10, by simpa using e11, by simpa using e12⟩
    obtain ⟨q, hq⟩ : ∃ q : Nat → Ob, ∀ i, i < n → (∃ l d mm, ObCells W (x.add (i * 13)) (q i) l d mm ∧ Lists W l d mm (q i)) ∧ Sound8 (q i) := ⟨fun i => if h : i < n then (each i h).choose else noOb, fun i hi => by simp only [hi, dif_pos]; exact (each i hi).choose_spec⟩
    have hat : ∀ i, i < n → obAt ((List.range n).map q) i = q i := fun i hi => by simp [obAt, hi]
    refine ⟨some x, n, cap, (List.range n).map q, rfl, ⟨some x, cap, by simp, by simpa using hl, fun i hi => ?_⟩, by simp, by omega, fun i => ?_⟩
    · have hi' : i < n := by simpa using hi
      rw [hat i hi']
      obtain ⟨l, d, mm, h1, h2⟩ := (hq i hi').1
      exact ⟨x, l, d, mm, rfl, h1, h2⟩
    · by_cases hi : i < n
      · rw [hat i hi]; exact (hq i hi).2
      · have e : obAt ((List.range n).map q) i = noOb := by simp [obAt, List.getD, hi]
        rw [e]; exact hno
end Go.Proofs.YtbdljoldblpffaaGreat
namespace Go.Proofs.YtbdljoldblpffaaGreat
open Go.ChangeShapes Go.WideShapes Go.ChangeAt Go.RowKit
set_option linter.unusedVariables false
set_option maxRecDepth 100000

theorem open_arena_cell {H : Type} {enc : TypeId × Value → H} {W : World} {spare : Nat → Bool} {held : Bool} {v : Value} {fuel : Nat} {x0 : DataW H × List MemPlace}
    (hf : DataW.trod enc Tryz.prog W 0 spare held fuel 22 [v] = some x0) :
    ∃ a n cap os, v = .slice a n cap ∧ IsArena W (.slice a n cap) os ∧ n = os.length ∧ n ≤ maxLen ∧ ∀ i, Sound8 (obAt os i) := by
  have hno : Sound8 noOb := ⟨Nat.zero_le _, Nat.zero_le _, Nat.zero_le _, by simp [Fits, noOb]⟩
  rcases Go.Deep.open_slice Tryz.underlying22 hf with ⟨hc, _⟩ | ⟨x, l, cp, m, k, D, Pl, hc, _, hl, hm, hmm, _, hcell⟩
  · have e : v = .slice none 0 0 := by simpa using hc
    subst e
    exact ⟨none, 0, 0, [], rfl, ⟨none, 0, rfl, Nat.le_refl _, fun i hi => absurd hi (by simp)⟩, rfl, Nat.zero_le _, fun i => by simp [obAt]; exact hno⟩
  · have e : v = .slice (some x) l cp := by simpa using hc
    subst e
    obtain ⟨n, hnl⟩ : ∃ n, n = l := ⟨_, rfl⟩
    subst hnl
    obtain ⟨cap, hcp⟩ : ∃ cap, cap = cp := ⟨_, rfl⟩
    subst hcp
    have hlz : n ≤ m := by rw [hmm]; split <;> omega
    have each : ∀ i, i < n → ∃ r : Ob, (∃ l d mm, ObCells W (x.add (i * 13)) r l d mm ∧ Lists W l d mm r) ∧ Sound8 r := by
      intro i hi
      obtain ⟨cs, h1, h2⟩ := hcell i (by omega)
      rw [cells8_O] at h1
      obtain ⟨_, hlen, hce⟩ := World.cells?_some h1
      obtain ⟨v0, v1, v2, v3, v4, v5, v6, v7, v8, v9, v10, v11, v12, rfl⟩ : ∃ v0 v1 v2 v3 v4 v5 v6 v7 v8 v9 v10 v11 v12, cs = [v0, v1, v2, v3, v4, v5, v6, v7, v8, v9, v10, v11, v12] := by
        match cs, hlen with
        | [v0, v1, v2, v3, v4, v5, v6, v7, v8, v9, v10, v11, v12], _ => exact ⟨v0, v1, v2, v3, v4, v5, v6, v7, v8, v9, v10, v11, v12, rfl⟩
      obtain ⟨o, l, d, mm, rfl, rfl, rfl, rfl, rfl, rfl, rfl, rfl, rfl, rfl, rfl, rfl, rfl, hL, hS⟩ := open_ob_cells h2
      refine ⟨o, ⟨_, _, _, ?_, hL⟩, hS⟩
      have e0 := hce 0 (by omega)
      rw [Go.Deep.add_add] at e0
      have e1 := hce 1 (by omega)
      rw [Go.Deep.add_add, add_up _ _ _ (by omega)] at e1
      have e2 := hce 2 (by omega)
      rw [Go.Deep.add_add, add_up _ _ _ (by omega)] at e2
      have e3 := hce 3 (by omega)
      rw [Go.Deep.add_add, add_up _ _ _ (by omega)] at e3
      have e4 := hce 4 (by omega)
      rw [Go.Deep.add_add, add_up _ _ _ (by omega)] at e4
      have e5 := hce 5 (by omega)
      rw [Go.Deep.add_add, add_up _ _ _ (by omega)] at e5
      have e6 := hce 6 (by omega)
      rw [Go.Deep.add_add, add_up _ _ _ (by omega)] at e6
      have e7 := hce 7 (by omega)
      rw [Go.Deep.add_add, add_up _ _ _ (by omega)] at e7
      have e8 := hce 8 (by omega)
      rw [Go.Deep.add_add, add_up _ _ _ (by omega)] at e8
      have e9 := hce 9 (by omega)
      rw [Go.Deep.add_add, add_up _ _ _ (by omega)] at e9
      have e10 := hce 10 (by omega)
      rw [Go.Deep.add_add, add_up _ _ _ (by omega)] at e10
      have e11 := hce 11 (by omega)
      rw [Go.Deep.add_add, add_up _ _ _ (by omega)] at e11
      have e12 := hce 12 (by omega)
      rw [Go.Deep.add_add, add_up _ _ _ (by omega)] at e12
      exact ⟨by simpa using e0, by simpa using e1, by simpa using e2, by simpa using e3, by simpa using e4, by simpa using e5, by simpa using e6, by simpa using e7, by simpa using e8, by simpa using e9, by simpa using e10, by simpa using e11, by simpa using e12⟩
    obtain ⟨q, hq⟩ : ∃ q : Nat → Ob, ∀ i, i < n → (∃ l d mm, ObCells W (x.add (i * 13)) (q i) l d mm ∧ Lists W l d mm (q i)) ∧ Sound8 (q i) := ⟨fun i => if h : i < n then (each i h).choose else noOb, fun i hi => by simp only [hi, dif_pos]; exact (each i hi).choose_spec⟩
    have hat : ∀ i, i < n → obAt ((List.range n).map q) i = q i := fun i hi => by simp [obAt, hi]
    refine ⟨some x, n, cap, (List.range n).map q, rfl, ⟨some x, cap, by simp, by simpa using hl, fun i hi => ?_⟩, by simp, by omega, fun i => ?_⟩
    · have hi' : i < n := by simpa using hi
      rw [hat i hi']
      obtain ⟨l, d, mm, h1, h2⟩ := (hq i hi').1
      exact ⟨x, l, d, mm, rfl, h1, h2⟩
    · by_cases hi : i < n
      · rw [hat i hi]; exact (hq i hi).2
      · have e : obAt ((List.range n).map q) i = noOb := by simp [obAt, List.getD, hi]
        rw [e]; exact hno
theorem cells10_G : Tryz.prog.cellsOf 25 = 4 := by kernel_rfl
theorem cells10_H : Tryz.prog.cellsOf 27 = 5 := by kernel_rfl
theorem cells10_A : Tryz.prog.cellsOf 22 = 1 := by kernel_rfl
theorem under10G : ∃ f0 f1 f2 f3 : Field, Tryz.prog.underlying 25 = some (.struct #[f0, f1, f2, f3]) ∧ (f0.offset = 0 ∧ f1.offset = 1 ∧ f2.offset = 2 ∧ f3.offset = 3) ∧ f0.type = 3 ∧ f1.type = 3 ∧ f2.type = 3 ∧ f3.type = 23 := ⟨_, _, _, _, Tryz.underlying25, ⟨rfl, rfl, rfl, rfl⟩, rfl, rfl, rfl, rfl⟩
theorem under10H : ∃ f0 f1 : Field, Tryz.prog.underlying 27 = some (.struct #[f0, f1]) ∧ f0.offset = 0 ∧ f1.offset = 1 ∧ f0.type = 22 ∧ f1.type = 25 := ⟨_, _, Tryz.underlying27, rfl, rfl, rfl, rfl⟩
theorem open_gc_cells {H : Type} {enc : TypeId × Value → H} {W : World} {spare : Nat → Bool} {held : Bool} {fuel : Nat} {x : DataW H × List MemPlace} {v0 v1 v2 v3 : Value}
    (h : DataW.trod enc Tryz.prog W 0 spare held fuel 25 [v0, v1, v2, v3] = some x) : ∃ (p t r : Int) (xs : List Int), v0 = .int .i64 p ∧ v1 = .int .i64 t ∧ v2 = .int .i64 r ∧ IsInts W v3 xs ∧ xs.length ≤ maxLen ∧ (-9223372036854775808 ≤ r ∧ r ≤ 9223372036854775807) ∧ (-9223372036854775808 ≤ t ∧ t ≤ 9223372036854775807) := by
  obtain ⟨f0, f1, f2, f3, hu, ⟨o0, o1, o2, o3⟩, t0, t1, t2, t3⟩ := under10G
  obtain ⟨xs, n, _, rfl, hl, hlen, hf⟩ := DataW.trod_struct hu h
  obtain ⟨y0, y1, y2, y3, rfl⟩ : ∃ y0 y1 y2 y3, xs = [y0, y1, y2, y3] := by
    match xs, hlen with
    | [y0, y1, y2, y3], _ => exact ⟨y0, y1, y2, y3, rfl⟩
  have h0 := (hf 0 f0 rfl).trans (show _ = some y0 from rfl)
  rw [t0, o0, cells8_3] at h0
  have h1 := (hf 1 f1 rfl).trans (show _ = some y1 from rfl)
  rw [t1, o1, cells8_3] at h1
  have h2 := (hf 2 f2 rfl).trans (show _ = some y2 from rfl)
  rw [t2, o2, cells8_3] at h2
  have h3 := (hf 3 f3 rfl).trans (show _ = some y3 from rfl)
  rw [t3, o3, cells8_I] at h3
  obtain ⟨n0, e0, r0⟩ := DataW.trod_int Tryz.underlying3 h0
  have g0 : v0 = .int .i64 n0 := by simpa using e0
  obtain ⟨n1, e1, r1⟩ := DataW.trod_int Tryz.underlying3 h1
  have g1 : v1 = .int .i64 n1 := by simpa using e1
  obtain ⟨n2, e2, r2⟩ := DataW.trod_int Tryz.underlying3 h2
  have g2 : v2 = .int .i64 n2 := by simpa using e2
  obtain ⟨xl, il, ml⟩ := open_ints_cell (v := v3) (by simpa using h3)
  simp only [Lit.wf, Bool.and_eq_true, decide_eq_true_eq] at r2 r1
  simp [IntKind.min, IntKind.max, IntKind.bits, IntKind.signed] at r2 r1
  exact ⟨n0, n1, n2, xl, g0, g1, g2, il, ml, by omega, by omega⟩
theorem open_heap {H : Type} {enc : TypeId × Value → H} {W : World} {base : Nat} {spare : Nat → Bool} {held : Bool} {v : Value} {dd : DataW H} {p : List MemPlace}
    (hv : Value.okWide Tryz.prog W .any base 27 v) (h : DataW.Trod enc Tryz.prog W 0 spare held 27 v dd p) :
    ∃ (a : Value) (p t r : Int) (g : Value) (os : List Ob) (xs : List Int), v = hpV a p t r g ∧ IsArena W a os ∧ IsInts W g xs ∧ os.length ≤ maxLen ∧ xs.length ≤ maxLen ∧ (∀ i, Sound8 (obAt os i)) ∧ (-9223372036854775808 ≤ r ∧ r ≤ 9223372036854775807) ∧ (-9223372036854775808 ≤ t ∧ t ≤ 9223372036854775807) := by
  obtain ⟨f0, f1, hu, o0, o1, t0, t1⟩ := under10H
  obtain ⟨cs, rfl, hcs⟩ := okWide_struct hu hv
  rw [cells10_H] at hcs
  obtain ⟨v0, v1, v2, v3, v4, rfl⟩ : ∃ v0 v1 v2 v3 v4, cs = #[v0, v1, v2, v3, v4] := by
    match cs, hcs with
    | ⟨[v0, v1, v2, v3, v4]⟩, _ => exact ⟨v0, v1, v2, v3, v4, rfl⟩
  obtain ⟨fuel, hf⟩ := h
  obtain ⟨y0, y1, m', hy, _, q0, q1⟩ := trod_struct2 hu hf
  rw [t0, o0, cells10_A] at q0
  rw [t1, o1, cells10_G] at q1
  obtain ⟨a, n, cap, os, e0, i0, en, hm, hS⟩ := open_arena_cell (v := v0) (by simpa [Value.cells] using q0)
  obtain ⟨p, t, r, xs, e1, e2, e3, ix, mx, hr, ht⟩ := open_gc_cells (v0 := v1) (v1 := v2) (v2 := v3) (v3 := v4) (by simpa [Value.cells] using q1)
  subst e0 e1 e2 e3
  exact ⟨_, p, t, r, v4, os, xs, rfl, i0, ix, by omega, mx, hS, hr, ht⟩
end Go.Proofs.YtbdljoldblpffaaGreat
