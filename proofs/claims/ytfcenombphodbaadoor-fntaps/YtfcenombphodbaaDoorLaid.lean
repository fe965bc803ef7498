/-
  Two amounts laid into two arrays.
-/
import Derived.Test.YtfcenombphodbaaDoorRegion3
import Derived.Test.YtfcenombphodbaaDoorAmts
namespace Go.Proofs.YtfcenombphodbaaDoor
open Go.RowKit
set_option linter.unusedVariables false
set_option maxRecDepth 100000
/-- Two amounts are laid into two new arrays: what has been done so far. -/
structure Laid (w0 : World) (g0 g1 : Nat) (a b c d e f : Int) (L : Nat → Bool) (us : Nat → Value) (w : World) : Prop where
  below : Below w0.heap.size w0 w
  x : Box3 w g0 37 a b c
  y : Box3 w g1 37 d e f
  lx : g0 < w0.heap.size
  ly : g1 < w0.heap.size
  u0 : L 0 = true → us 0 = amt a b c
  u1 : L 1 = true → us 1 = amt a b c
  u2 : L 2 = true → us 2 = amt d e f
  u3 : L 3 = true → us 3 = amt d e f
  u4 : L 4 = true → ∃ g p q r, us 4 = .pointer (some ⟨g, 0, none⟩) ∧ w0.heap.size ≤ g ∧ Box3 w g 60 p q r ∧ (L 6 = true → p = a ∧ q = b ∧ r = c)
  u5 : L 5 = true → ∃ g p q r, us 5 = .pointer (some ⟨g, 0, none⟩) ∧ w0.heap.size ≤ g ∧ Box3 w g 60 p q r ∧ (L 7 = true → p = d ∧ q = e ∧ r = f)
  ne : L 4 = true → L 5 = true → us 4 ≠ us 5
theorem Laid.on {w0 w w' : World} {g0 g1 : Nat} {a b c d e f : Int} {L : Nat → Bool} {us : Nat → Value} (h : Laid w0 g0 g1 a b c d e f L us w) (hb : Below w.heap.size w w') : Laid w0 g0 g1 a b c d e f L us w' := by
  have hs := h.below.size
  refine ⟨h.below.trans (hb.mono hs), h.x.on hb (by have := h.lx; omega), h.y.on hb (by have := h.ly; omega), h.lx, h.ly, h.u0, h.u1, h.u2, h.u3, fun h4 => ?_, fun h5 => ?_, h.ne⟩
  · obtain ⟨g, p, q, r, hu, hg, hbx, hl⟩ := h.u4 h4
    exact ⟨g, p, q, r, hu, hg, hbx.on hb (lt_of_block hbx.at'), hl⟩
  · obtain ⟨g, p, q, r, hu, hg, hbx, hl⟩ := h.u5 h5
    exact ⟨g, p, q, r, hu, hg, hbx.on hb (lt_of_block hbx.at'), hl⟩
/-- A value that is read. -/
theorem Laid.mark {w0 w : World} {g0 g1 : Nat} {a b c d e f : Int} {L : Nat → Bool} {us : Nat → Value} (h : Laid w0 g0 g1 a b c d e f L us w) (i : Nat) (v : Value) (hi : i < 4) (h01 : i < 2 → v = amt a b c) (h23 : 2 ≤ i → v = amt d e f) : Laid w0 g0 g1 a b c d e f (markd L i) (useAt us i v) w := by
  have h6 : markd L i 6 = L 6 := markd_other L (by omega)
  have h7 : markd L i 7 = L 7 := markd_other L (by omega)
  have h4 : markd L i 4 = L 4 := markd_other L (by omega)
  have h5 : markd L i 5 = L 5 := markd_other L (by omega)
  have v4 : useAt us i v 4 = us 4 := use_other us v (by omega)
  have v5 : useAt us i v 5 = us 5 := use_other us v (by omega)
  refine ⟨h.below, h.x, h.y, h.lx, h.ly, fun hl => ?_, fun hl => ?_, fun hl => ?_, fun hl => ?_, ?_, ?_, ?_⟩
  · by_cases he : (0 : Nat) = i
    · subst he; rw [use_same]; exact h01 (by omega)
    · rw [use_other us v he]; rw [markd_other L he] at hl; exact h.u0 hl
  · by_cases he : (1 : Nat) = i
    · subst he; rw [use_same]; exact h01 (by omega)
    · rw [use_other us v he]; rw [markd_other L he] at hl; exact h.u1 hl
  · by_cases he : (2 : Nat) = i
    · subst he; rw [use_same]; exact h23 (by omega)
    · rw [use_other us v he]; rw [markd_other L he] at hl; exact h.u2 hl
  · by_cases he : (3 : Nat) = i
    · subst he; rw [use_same]; exact h23 (by omega)
    · rw [use_other us v he]; rw [markd_other L he] at hl; exact h.u3 hl
  · rw [h4, h6, v4]; exact h.u4
  · rw [h5, h7, v5]; exact h.u5
  · rw [h4, h5, v4, v5]; exact h.ne
/-- A new array. -/
theorem Laid.new4 {w0 w : World} {g0 g1 : Nat} {a b c d e f : Int} {L : Nat → Bool} {us : Nat → Value} (h : Laid w0 g0 g1 a b c d e f L us w) (h6 : L 6 = false) (hL : L 4 = false) : Laid w0 g0 g1 a b c d e f (markd L 4) (useAt us 4 (.pointer (some ⟨w.heap.size, 0, none⟩))) (w.alloc (boxN 0 0 0)) := by
  have ho := h.on (((Below.refl _ _).alloc (Nat.le_refl _) _ : Below w.heap.size w (w.alloc (boxN 0 0 0))))
  refine ⟨ho.below, ho.x, ho.y, ho.lx, ho.ly, ?_, ?_, ?_, ?_, ?_, ?_, ?_⟩
  · rw [markd_other L (by omega), use_other us _ (by omega)]; exact ho.u0
  · rw [markd_other L (by omega), use_other us _ (by omega)]; exact ho.u1
  · rw [markd_other L (by omega), use_other us _ (by omega)]; exact ho.u2
  · rw [markd_other L (by omega), use_other us _ (by omega)]; exact ho.u3
  · intro _
    exact ⟨w.heap.size, 0, 0, 0, use_same _ _ _, h.below.size, ⟨heap_alloc_new w _⟩, fun h => by rw [markd_other L (by omega), h6] at h; cases h⟩
  · rw [markd_other L (by omega), markd_other L (by omega), use_other us _ (by omega)]; exact ho.u5
  · intro _ h5
    rw [markd_other L (by omega)] at h5
    obtain ⟨g, p, q, r, hu, hg, hbx, hl⟩ := h.u5 h5
    have := lt_of_block hbx.at'
    rw [use_same, use_other us _ (by omega), hu]
    intro he
    simp at he
    all_goals omega
theorem Laid.new5 {w0 w : World} {g0 g1 : Nat} {a b c d e f : Int} {L : Nat → Bool} {us : Nat → Value} (h : Laid w0 g0 g1 a b c d e f L us w) (h6 : L 7 = false) (hL : L 5 = false) : Laid w0 g0 g1 a b c d e f (markd L 5) (useAt us 5 (.pointer (some ⟨w.heap.size, 0, none⟩))) (w.alloc (boxN 0 0 0)) := by
  have ho := h.on (((Below.refl _ _).alloc (Nat.le_refl _) _ : Below w.heap.size w (w.alloc (boxN 0 0 0))))
  refine ⟨ho.below, ho.x, ho.y, ho.lx, ho.ly, ?_, ?_, ?_, ?_, ?_, ?_, ?_⟩
  · rw [markd_other L (by omega), use_other us _ (by omega)]; exact ho.u0
  · rw [markd_other L (by omega), use_other us _ (by omega)]; exact ho.u1
  · rw [markd_other L (by omega), use_other us _ (by omega)]; exact ho.u2
  · rw [markd_other L (by omega), use_other us _ (by omega)]; exact ho.u3
  · rw [markd_other L (by omega), markd_other L (by omega), use_other us _ (by omega)]; exact ho.u4
  · intro _
    exact ⟨w.heap.size, 0, 0, 0, use_same _ _ _, h.below.size, ⟨heap_alloc_new w _⟩, fun h => by rw [markd_other L (by omega), h6] at h; cases h⟩
  · intro h4 _
    rw [markd_other L (by omega)] at h4
    obtain ⟨g, p, q, r, hu, hg, hbx, hl⟩ := h.u4 h4
    have := lt_of_block hbx.at'
    rw [use_same, use_other us _ (by omega), hu]
    intro he
    simp at he
    all_goals omega
/-- Three cells are written. -/
def w3 (w : World) (g : Nat) (x y z : Value) : World := ((w.setCell ⟨g, 0, none⟩ x).setCell ⟨g, 1, none⟩ y).setCell ⟨g, 2, none⟩ z
theorem Box3.w3 {w : World} {g : Nat} {t : TypeId} {a b c : Int} (h : Box3 w g t a b c) (x y z : Int) : Box3 (YtfcenombphodbaaDoor.w3 w g (.int .i64 x) (.int .i64 y) (.int .i64 z)) g t x y z := by
  have h1 := heap_setCell_same w g 0 _ t (.int .i64 x) h.at'
  have h2 := heap_setCell_same _ g 1 _ t (.int .i64 y) h1
  have h3 := heap_setCell_same _ g 2 _ t (.int .i64 z) h2
  exact ⟨h3⟩
theorem Box3.other3 {w : World} {g g' : Nat} {t : TypeId} {a b c : Int} (h : Box3 w g t a b c) (hne : g ≠ g') (x y z : Value) : Box3 (YtfcenombphodbaaDoor.w3 w g' x y z) g t a b c := by
  refine ⟨?_⟩
  unfold YtfcenombphodbaaDoor.w3
  rw [heap_setCell_other _ _ _ _ (by simpa using hne), heap_setCell_other _ _ _ _ (by simpa using hne), heap_setCell_other _ _ _ _ (by simpa using hne)]
  exact h.at'
theorem Laid.put6 {w0 w : World} {g0 g1 g : Nat} {a b c d e f : Int} {L : Nat → Bool} {us : Nat → Value} (h : Laid w0 g0 g1 a b c d e f L us w) (h4 : L 4 = true) (h5 : L 5 = true) (hg : us 4 = .pointer (some ⟨g, 0, none⟩)) (v : Value) :
    Laid w0 g0 g1 a b c d e f (markd L 6) (useAt us 6 v) (YtfcenombphodbaaDoor.w3 w g (.int .i64 a) (.int .i64 b) (.int .i64 c)) := by
  obtain ⟨g', p, q, r, hu, hge, hbx, _⟩ := h.u4 h4
  obtain rfl : g' = g := by rw [hu] at hg; simpa using hg
  obtain ⟨k, p', q', r', hu5, hge5, hbx5, hl5⟩ := h.u5 h5
  have hne : k ≠ g' := by
    intro e
    have := h.ne h4 h5
    rw [hu, hu5, e] at this
    exact this rfl
  have hx := h.lx
  have hy := h.ly
  refine ⟨((h.below.setCell hge _).setCell hge _).setCell hge _, h.x.other3 (by omega) _ _ _, h.y.other3 (by omega) _ _ _, h.lx, h.ly, ?_, ?_, ?_, ?_, ?_, ?_, ?_⟩
  · rw [markd_other L (by omega), use_other us _ (by omega)]; exact h.u0
  · rw [markd_other L (by omega), use_other us _ (by omega)]; exact h.u1
  · rw [markd_other L (by omega), use_other us _ (by omega)]; exact h.u2
  · rw [markd_other L (by omega), use_other us _ (by omega)]; exact h.u3
  · rw [use_other us _ (by omega)]
    exact fun _ => ⟨g', a, b, c, hu, hge, hbx.w3 a b c, fun _ => ⟨rfl, rfl, rfl⟩⟩
  · rw [use_other us _ (by omega), markd_other L (by omega), markd_other L (by omega)]
    exact fun _ => ⟨k, p', q', r', hu5, hge5, hbx5.other3 hne _ _ _, hl5⟩
  · rw [use_other us _ (by omega), use_other us _ (by omega), markd_other L (by omega), markd_other L (by omega)]
    exact h.ne
theorem Laid.put7 {w0 w : World} {g0 g1 g : Nat} {a b c d e f : Int} {L : Nat → Bool} {us : Nat → Value} (h : Laid w0 g0 g1 a b c d e f L us w) (h4 : L 4 = true) (h5 : L 5 = true) (hg : us 5 = .pointer (some ⟨g, 0, none⟩)) (v : Value) :
    Laid w0 g0 g1 a b c d e f (markd L 7) (useAt us 7 v) (YtfcenombphodbaaDoor.w3 w g (.int .i64 d) (.int .i64 e) (.int .i64 f)) := by
  obtain ⟨g', p, q, r, hu, hge, hbx, _⟩ := h.u5 h5
  obtain rfl : g' = g := by rw [hu] at hg; simpa using hg
  obtain ⟨k, p', q', r', hu5, hge5, hbx5, hl5⟩ := h.u4 h4
  have hne : k ≠ g' := by
    intro e
    have := h.ne h4 h5
    rw [hu, hu5, e] at this
    exact this rfl
  have hx := h.lx
  have hy := h.ly
  refine ⟨((h.below.setCell hge _).setCell hge _).setCell hge _, h.x.other3 (by omega) _ _ _, h.y.other3 (by omega) _ _ _, h.lx, h.ly, ?_, ?_, ?_, ?_, ?_, ?_, ?_⟩
  · rw [markd_other L (by omega), use_other us _ (by omega)]; exact h.u0
  · rw [markd_other L (by omega), use_other us _ (by omega)]; exact h.u1
  · rw [markd_other L (by omega), use_other us _ (by omega)]; exact h.u2
  · rw [markd_other L (by omega), use_other us _ (by omega)]; exact h.u3
  · rw [use_other us _ (by omega), markd_other L (by omega), markd_other L (by omega)]
    exact fun _ => ⟨k, p', q', r', hu5, hge5, hbx5.other3 hne _ _ _, hl5⟩
  · rw [use_other us _ (by omega)]
    exact fun _ => ⟨g', d, e, f, hu, hge, hbx.w3 d e f, fun _ => ⟨rfl, rfl, rfl⟩⟩
  · rw [use_other us _ (by omega), use_other us _ (by omega), markd_other L (by omega), markd_other L (by omega)]
    exact h.ne
theorem laid_start {w0 : World} {g0 g1 : Nat} {a b c d e f : Int} (hx : Box3 w0 g0 37 a b c) (hy : Box3 w0 g1 37 d e f) (us : Nat → Value) : Laid w0 g0 g1 a b c d e f (fun _ => false) us w0.drew :=
  ⟨(Below.refl _ _).drew, ⟨hx.at'⟩, ⟨hy.at'⟩, lt_of_block hx.at', lt_of_block hy.at', (absurd · Bool.false_ne_true), (absurd · Bool.false_ne_true), (absurd · Bool.false_ne_true), (absurd · Bool.false_ne_true), (absurd · Bool.false_ne_true), (absurd · Bool.false_ne_true), (absurd · Bool.false_ne_true)⟩
end Go.Proofs.YtfcenombphodbaaDoor
