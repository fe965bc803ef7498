/-
  Slices of ints and of messages: the laws' own copies, sizes, two alike, marks.
-/
import Derived.Test.YtokicnopfmokaaaIntsT8
namespace Go.Proofs.Ytokicnopfmokaaa
open Go.RowKit
set_option linter.unusedVariables false
set_option maxRecDepth 100000

theorem made_ints (n : Nat) : (madeCells #[Value.int .i64 0] (n * 1)).toList = icells (List.replicate n 0) := by
  induction n with
  | zero => simp [madeCells, icells]
  | succ n ih =>
    have h1 : (madeCells #[Value.int .i64 0] ((n + 1) * 1)).toList = (madeCells #[Value.int .i64 0] (n * 1)).toList ++ [.int .i64 0] := by
      rw [show (n + 1) * 1 = n * 1 + 1 by omega]
      unfold madeCells
      simp [Array.range_succ, Nat.mod_one]
    rw [h1, ih, List.replicate_succ', icells_append]
    rfl
theorem make_ints (n : Nat) (h : n ≤ 4398046511104) (w : World) :
    (Instr.makeSlice 25 (.int .i64 (n : Int)) (.int .i64 (n : Int))).run Try.prog w = .ok (.slice (some ⟨w.heap.size, 0, none⟩) n n) (w.alloc (.cells (icells (List.replicate n 0)).toArray 3 (0, 0))) := by
  obtain ⟨i, hi, hzz⟩ := Option.map_eq_some_iff.1 info3
  simp only [Prod.mk.injEq] at hzz
  obtain ⟨hz, hs, hb⟩ := hzz
  have hr := run_make (P := Try.prog) w 25 3 i _ Try.underlying25 hi hz .i64 .i64 n n (by omega) (Int.le_refl _) (by rw [hb]; omega) (by omega)
  simp only [Int.toNat_natCast, hs] at hr
  have h2 : madeCells (Value.int .i64 0).cells (n * 1) = (icells (List.replicate n 0)).toArray := by
    apply Array.toList_inj.1
    exact made_ints n
  rw [h2] at hr
  exact hr
/-- A row that is filled from its head on. -/
def fillI (xs : List Int) (k : Nat) : List Int := xs.take k ++ List.replicate (xs.length - k) 0
theorem fillI_start (xs : List Int) : fillI xs 0 = List.replicate xs.length 0 := by simp [fillI]
theorem fillI_end (xs : List Int) : fillI xs xs.length = xs := by simp [fillI]
theorem fillI_length (xs : List Int) (k : Nat) (h : k ≤ xs.length) : (fillI xs k).length = xs.length := by simp [fillI]; omega
theorem fillI_set (xs : List Int) (k : Nat) (h : k < xs.length) : (fillI xs k).set k (xs.getD k 0) = fillI xs (k + 1) := by
  unfold fillI
  rw [show xs.length - k = (xs.length - (k + 1)) + 1 by omega, List.replicate_succ, List.set_append_right _ _ (by simp; omega)]
  rw [show k - (xs.take k).length = 0 by simp; omega, List.set_cons_zero]
  rw [show xs.take (k + 1) = xs.take k ++ [xs.getD k 0] by rw [List.take_add_one, List.getElem?_eq_getElem h]; simp [List.getD, h]]
  rw [List.append_assoc]
  rfl
theorem IsInts.at {w : World} {a : Option Addr} {n cap : Nat} {xs : List Int} (h : IsInts w (.slice a n cap) xs) {i : Nat} (hi : i < xs.length) : ∃ p, a = some p ∧ w.cell? (p.add i) = some (.int .i64 (xs.getD i 0)) := by
  obtain ⟨a', cap', hv, _, hx⟩ := h
  cases hv
  exact hx i hi
theorem RowIn.ints {w : World} {g : Nat} {xs : List Int} {rest : List Value} (h : RowIn w g xs rest) (cap : Nat) (hc : xs.length ≤ cap) : IsInts w (.slice (some ⟨g, 0, none⟩) xs.length cap) xs :=
  ⟨_, _, rfl, hc, fun i hi => ⟨_, rfl, by rw [add_head]; exact h.cell i hi⟩⟩
/-- A message. -/
structure Ms where
  f : Int
  n : Int
def noMs : Ms := ⟨0, 0⟩
def msAt (ms : List Ms) (i : Nat) : Ms := ms.getD i noMs
abbrev msV (f n : Int) : Value := .agg #[.int .i64 f, .int .i64 n]
def mcells (ms : List Ms) : List Value := ms.flatMap fun m => [.int .i64 m.f, .int .i64 m.n]
theorem mcells_cons (m : Ms) (ms : List Ms) : mcells (m :: ms) = .int .i64 m.f :: .int .i64 m.n :: mcells ms := rfl
theorem mcells_append (a b : List Ms) : mcells (a ++ b) = mcells a ++ mcells b := by simp [mcells]
theorem mcells_length (ms : List Ms) : (mcells ms).length = ms.length * 2 := by
  induction ms with
  | nil => rfl
  | cons c cs ih => simp [mcells] at ih ⊢; omega
theorem mcells_at (ms : List Ms) : ∀ i, i < ms.length → (mcells ms)[i * 2]? = some (.int .i64 (msAt ms i).f) ∧ (mcells ms)[i * 2 + 1]? = some (.int .i64 (msAt ms i).n) := by
  induction ms with
  | nil => intro i hi; simp at hi
  | cons c cs ih =>
    intro i hi
    cases i with
    | zero => simp [mcells_cons, msAt]
    | succ i =>
      have := ih i (by simpa using hi)
      rw [mcells_cons, show (i + 1) * 2 = i * 2 + 1 + 1 by omega, show i * 2 + 1 + 1 + 1 = i * 2 + 1 + 1 + 1 from rfl]
      simp only [List.getElem?_cons_succ]
      simpa [msAt] using this
theorem mcells_set (ms : List Ms) : ∀ (i : Nat) (m : Ms), i < ms.length → ((mcells ms).set (i * 2) (.int .i64 m.f)).set (i * 2 + 1) (.int .i64 m.n) = mcells (ms.set i m) := by
  induction ms with
  | nil => intro i m hi; simp at hi
  | cons c cs ih =>
    intro i m hi
    cases i with
    | zero => simp [mcells_cons]
    | succ i =>
      have := ih i m (by simpa using hi)
      rw [mcells_cons, show (i + 1) * 2 = i * 2 + 1 + 1 by omega]
      simp only [List.set_cons_succ, mcells_cons]
      rw [this]
/-- A slice of messages that reads as 'ms'. -/
def IsMsgs (w : World) (v : Value) (ms : List Ms) : Prop :=
  ∃ (a : Option Addr) (cap : Nat), v = .slice a ms.length cap ∧ ms.length ≤ cap ∧ ∀ i, i < ms.length → ∃ p, a = some p ∧ w.cell? (p.add (i * 2)) = some (.int .i64 (msAt ms i).f) ∧ w.cell? ⟨(p.add (i * 2)).block, (p.add (i * 2)).off + 1, none⟩ = some (.int .i64 (msAt ms i).n)
theorem IsMsgs.on {w w' : World} {v : Value} {ms : List Ms} (h : IsMsgs w v ms) (hb : Below w.heap.size w w') : IsMsgs w' v ms := by
  obtain ⟨a, cap, hv, hc, hx⟩ := h
  refine ⟨a, cap, hv, hc, fun i hi => ?_⟩
  obtain ⟨p, hp, h1, h2⟩ := hx i hi
  have hq := World.block_lt_of_cell? w _ h1
  exact ⟨p, hp, (hb.cell hq).trans h1, (hb.cell (p := ⟨(p.add (i * 2)).block, (p.add (i * 2)).off + 1, none⟩) hq).trans h2⟩
/-- Messages at a block's head, and what is spare behind them. -/
def MsgIn (w : World) (g : Nat) (ms : List Ms) (rest : List Value) : Prop := w.heap[g]? = some (.cells (mcells ms ++ rest).toArray 63 (0, 0))
theorem MsgIn.cell {w : World} {g : Nat} {ms : List Ms} {rest : List Value} (h : MsgIn w g ms rest) (i : Nat) (hi : i < ms.length) : w.cell? ⟨g, i * 2, none⟩ = some (.int .i64 (msAt ms i).f) ∧ w.cell? ⟨g, i * 2 + 1, none⟩ = some (.int .i64 (msAt ms i).n) := by
  unfold MsgIn at h
  have := mcells_at ms i hi
  have hl := mcells_length ms
  refine ⟨?_, ?_⟩ <;> simp only [World.cell?, h] <;> simp only [List.getElem?_toArray] <;> rw [List.getElem?_append_left (by omega)] <;> simp [this]
theorem MsgIn.free {w : World} {g : Nat} {ms : List Ms} {rest : List Value} (h : MsgIn w g ms rest) (i : Nat) : w.frozen? ⟨g, i, none⟩ = false := by
  unfold MsgIn at h
  simp [World.frozen?, h]
theorem MsgIn.set {w : World} {g : Nat} {ms : List Ms} {rest : List Value} (h : MsgIn w g ms rest) (i : Nat) (hi : i < ms.length) (m : Ms) : MsgIn ((w.setCell ⟨g, i * 2, none⟩ (.int .i64 m.f)).setCell ⟨g, i * 2 + 1, none⟩ (.int .i64 m.n)) g (ms.set i m) rest := by
  have h1 := heap_setCell_same w g (i * 2) _ 63 (.int .i64 m.f) h
  have h2 := heap_setCell_same _ g (i * 2 + 1) _ 63 (.int .i64 m.n) h1
  unfold MsgIn
  rw [h2, ← mcells_set ms i m hi]
  have hl := mcells_length ms
  simp only [List.setIfInBounds_toArray]
  rw [List.set_append_left _ _ (by omega), List.set_append_left _ _ (by rw [List.length_set]; omega)]
theorem MsgIn.msgs {w : World} {g : Nat} {ms : List Ms} {rest : List Value} (h : MsgIn w g ms rest) (cap : Nat) (hc : ms.length ≤ cap) : IsMsgs w (.slice (some ⟨g, 0, none⟩) ms.length cap) ms :=
  ⟨_, _, rfl, hc, fun i hi => ⟨_, rfl, by rw [add_head]; exact (h.cell i hi).1, by rw [add_head]; exact (h.cell i hi).2⟩⟩
end Go.Proofs.Ytokicnopfmokaaa
