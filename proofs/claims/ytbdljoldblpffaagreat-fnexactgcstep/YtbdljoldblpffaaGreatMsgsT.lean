/-
  Slices of ints and of messages: the laws' own copies, sizes, two alike, marks.
-/
import Derived.Test.YtbdljoldblpffaaGreatIntsT8
namespace Go.Proofs.YtbdljoldblpffaaGreat
open Go.RowKit
set_option linter.unusedVariables false
set_option maxRecDepth 100000

theorem made_ints (n : Nat) : (madeCells #[Value.int .i64 0] (n * 1)).toList = icells (List.replicate n 0) := by
  induction n with
  | zero => simp [madeCells, icells]
  | succ n ih =>
    have h1 : (madeCells #[Value.int .i64 0] ((n + 1) * 1)).toList = (madeCells #[Value.int .i64 0] (n * 1)).toList ++ [.int .i64 0] := by
      rw [show (n + 1) * 1 = n * 1 + 1 by omega]
      unfold madeCells
      simp [Array.range_succ, Nat.mod_one]
    rw [h1, ih, List.replicate_succ', icells_append]
    rfl
theorem make_ints (n : Nat) (h : n ≤ 4398046511104) (w : World) :
    (Instr.makeSlice 23 (.int .i64 (n : Int)) (.int .i64 (n : Int))).run Tryz.prog w = .ok (.slice (some ⟨w.heap.size, 0, none⟩) n n) (w.alloc (.cells (icells (List.replicate n 0)).toArray 3 (0, 0))) := by
  obtain ⟨i, hi, hzz⟩ := Option.map_eq_some_iff.1 info3
  simp only [Prod.mk.injEq] at hzz
  obtain ⟨hz, hs, hb⟩ := hzz
  have hr := run_make (P := Tryz.prog) w 23 3 i _ Tryz.underlying23 hi hz .i64 .i64 n n (by omega) (Int.le_refl _) (by rw [hb]; omega) (by omega)
  simp only [Int.toNat_natCast, hs] at hr
  have h2 : madeCells (Value.int .i64 0).cells (n * 1) = (icells (List.replicate n 0)).toArray := by
    apply Array.toList_inj.1
    exact made_ints n
  rw [h2] at hr
  exact hr
/-- A row that is filled from its head on. -/
def fillI (xs : List Int) (k : Nat) : List Int := xs.take k ++ List.replicate (xs.length - k) 0
theorem fillI_start (xs : List Int) : fillI xs 0 = List.replicate xs.length 0 := by simp [fillI]
theorem fillI_end (xs : List Int) : fillI xs xs.length = xs := by simp [fillI]
theorem fillI_length (xs : List Int) (k : Nat) (h : k ≤ xs.length) : (fillI xs k).length = xs.length := by simp [fillI]; omega
theorem fillI_set (xs : List Int) (k : Nat) (h : k < xs.length) : (fillI xs k).set k (xs.getD k 0) = fillI xs (k + 1) := by
  unfold fillI
  rw [show xs.length - k = (xs.length - (k + 1)) + 1 by omega, List.replicate_succ, List.set_append_right _ _ (by simp; omega)]
  rw [show k - (xs.take k).length = 0 by simp; omega, List.set_cons_zero]
  rw [show xs.take (k + 1) = xs.take k ++ [xs.getD k 0] by rw [List.take_add_one, List.getElem?_eq_getElem h]; simp [List.getD, h]]
  rw [List.append_assoc]
  rfl
theorem IsInts.at {w : World} {a : Option Addr} {n cap : Nat} {xs : List Int} (h : IsInts w (.slice a n cap) xs) {i : Nat} (hi : i < xs.length) : ∃ p, a = some p ∧ w.cell? (p.add i) = some (.int .i64 (xs.getD i 0)) := by
  obtain ⟨a', cap', hv, _, hx⟩ := h
  cases hv
  exact hx i hi
theorem RowIn.ints {w : World} {g : Nat} {xs : List Int} {rest : List Value} (h : RowIn w g xs rest) (cap : Nat) (hc : xs.length ≤ cap) : IsInts w (.slice (some ⟨g, 0, none⟩) xs.length cap) xs :=
  ⟨_, _, rfl, hc, fun i hi => ⟨_, rfl, by rw [add_head]; exact h.cell i hi⟩⟩
set_option maxHeartbeats 1000000 in
theorem toIntS_any (v : Value) (xs : List Int) (w : World) (hx : IsInts w v xs) (hn : xs.length ≤ 1048576) :
    Calls Tryz.prog 52 #[v] w fun e w' => e = .returned (.slice (some ⟨w.heap.size, 0, none⟩) xs.length xs.length) ∧ RowIn w' w.heap.size xs [] ∧ Below w.heap.size w w' := by
  have hx0 := hx
  obtain ⟨a, cap, rfl, hcap, _⟩ := hx
  have hm := make_ints xs.length (by omega) w
  have hs0 : RowIn (w.alloc (.cells (icells (List.replicate xs.length 0)).toArray 3 (0, 0))) w.heap.size (fillI xs 0) [] := by rw [fillI_start]; unfold RowIn; rw [List.append_nil]; exact heap_alloc_new w _
  have hb0 : Below w.heap.size w (w.alloc (.cells (icells (List.replicate xs.length 0)).toArray 3 (0, 0))) := below_alloc w _
  obtain ⟨W, hW⟩ : ∃ W, W = w.alloc (.cells (icells (List.replicate xs.length 0)).toArray 3 (0, 0)) := ⟨_, rfl⟩
  rw [← hW] at hm hs0 hb0
  have HX : Hid (∀ wr, Below w.heap.size w wr → IsInts wr (.slice a xs.length cap) xs) := fun wr hb => hx0.on hb
  have HS : Hid (RowIn W w.heap.size (fillI xs 0) []) := hs0
  obtain ⟨g, hg⟩ : ∃ g, g = w.heap.size := ⟨_, rfl⟩
  rw [← hg] at hm HS hb0 HX ⊢
  clear hx0 hs0 hW hg
  go_enter Tryz.func52, Tryz.ntmps52
  go_wp2
  go_loopw [4] (fun i wr => ∃ k : Nat, k ≤ xs.length ∧ i = .int .i64 k ∧ Hid (RowIn wr g (fillI xs k) []) ∧ Below g w wr) (fun i _ => xs.length - (intOf i).toNat)
  case atStart => exact ⟨0, Nat.zero_le _, rfl, HS, hb0⟩
  case round =>
    obtain ⟨k, hk, rfl, hrow, hnx⟩ := hrel
    clear HS hb0 hm
    by_cases hlt : k < xs.length
    · obtain ⟨p, rfl, hc⟩ := (HX.out wr hnx).at hlt
      have c0 := hrow.out.cell k (by rw [fillI_length _ _ hk]; exact hlt)
      have f0 := hrow.out.free k
      have hset := hrow.out.set k (by rw [fillI_length _ _ hk]; exact hlt) (xs.getD k 0)
      rw [fillI_set xs k hlt] at hset
      have H2 : Hid (RowIn (wr.setCell ⟨g, k, none⟩ (.int .i64 (xs.getD k 0))) g (fillI xs (k + 1)) []) := hset
      have hnx' : Below g w (wr.setCell ⟨g, k, none⟩ (.int .i64 (xs.getD k 0))) := hnx.setCell (p := ⟨g, k, none⟩) (Nat.le_refl _) _
      generalize xs.getD k 0 = x at hc H2 hnx'
      clear hrow hset hnx
      go_wp2
      go_roundw
      case rel => exact ⟨k + 1, by omega, by go_num, H2, hnx'⟩
      case measure => simp [intOf]; omega
    · obtain rfl : k = xs.length := by omega
      have hend : Hid (RowIn wr g xs []) := by have := hrow.out; rw [fillI_end] at this; exact this
      clear hrow
      go_wp2
      go_ret
      exact ⟨rfl, hend.out, hnx⟩
theorem szIntS_any (a : Option Addr) (n cap : Nat) (left : Int) (w : World) (h0 : 0 ≤ left) (h1 : left ≤ 1048576) (hn : n ≤ 9223372036854775807) :
    Calls Tryz.prog 47 #[.slice a n cap, .int .i64 left] w fun e w' => e = .returned (.int .i64 (szOf left n)) ∧ w = w' := by
  by_cases h : (n : Int) ≤ left
  · rw [szOf_yes h]
    have hw : wrap64 (left - n) = left - n := by unfold wrap64; omega
    go_enter Tryz.func47, Tryz.ntmps47
    go_wp2
    go_ret
    exact ⟨rfl, rfl⟩
  · rw [szOf_no h]
    have hw : wrap64 (left - n) = left - n := by unfold wrap64; omega
    go_enter Tryz.func47, Tryz.ntmps47
    go_wp2
    go_ret
    exact ⟨rfl, rfl⟩
theorem szMsgS_any (a : Option Addr) (n cap : Nat) (left : Int) (w : World) (h0 : 0 ≤ left) (h1 : left ≤ 1048576) (hn : n ≤ 9223372036854775807) :
    Calls Tryz.prog 74 #[.slice a n cap, .int .i64 left] w fun e w' => e = .returned (.int .i64 (szOf left n)) ∧ w = w' := by
  by_cases h : (n : Int) ≤ left
  · rw [szOf_yes h]
    have hw : wrap64 (left - n) = left - n := by unfold wrap64; omega
    go_enter Tryz.func74, Tryz.ntmps74
    go_wp2
    go_ret
    exact ⟨rfl, rfl⟩
  · rw [szOf_no h]
    have hw : wrap64 (left - n) = left - n := by unfold wrap64; omega
    go_enter Tryz.func74, Tryz.ntmps74
    go_wp2
    go_ret
    exact ⟨rfl, rfl⟩
/-- A message. -/
structure Ms where
  f : Int
  n : Int
def noMs : Ms := ⟨0, 0⟩
def msAt (ms : List Ms) (i : Nat) : Ms := ms.getD i noMs
abbrev msV (f n : Int) : Value := .agg #[.int .i64 f, .int .i64 n]
def mcells (ms : List Ms) : List Value := ms.flatMap fun m => [.int .i64 m.f, .int .i64 m.n]
theorem mcells_cons (m : Ms) (ms : List Ms) : mcells (m :: ms) = .int .i64 m.f :: .int .i64 m.n :: mcells ms := rfl
theorem mcells_append (a b : List Ms) : mcells (a ++ b) = mcells a ++ mcells b := by simp [mcells]
theorem mcells_length (ms : List Ms) : (mcells ms).length = ms.length * 2 := by
  induction ms with
  | nil => rfl
  | cons c cs ih => simp [mcells] at ih ⊢; omega
theorem mcells_at (ms : List Ms) : ∀ i, i < ms.length → (mcells ms)[i * 2]? = some (.int .i64 (msAt ms i).f) ∧ (mcells ms)[i * 2 + 1]? = some (.int .i64 (msAt ms i).n) := by
  induction ms with
  | nil => intro i hi; simp at hi
  | cons c cs ih =>
    intro i hi
    cases i with
    | zero => simp [mcells_cons, msAt]
    | succ i =>
      have := ih i (by simpa using hi)
      rw [mcells_cons, show (i + 1) * 2 = i * 2 + 1 + 1 by omega, show i * 2 + 1 + 1 + 1 = i * 2 + 1 + 1 + 1 from rfl]
      simp only [List.getElem?_cons_succ]
      simpa [msAt] using this
theorem mcells_set (ms : List Ms) : ∀ (i : Nat) (m : Ms), i < ms.length → ((mcells ms).set (i * 2) (.int .i64 m.f)).set (i * 2 + 1) (.int .i64 m.n) = mcells (ms.set i m) := by
  induction ms with
  | nil => intro i m hi; simp at hi
  | cons c cs ih =>
    intro i m hi
    cases i with
    | zero => simp [mcells_cons]
    | succ i =>
      have := ih i m (by simpa using hi)
      rw [mcells_cons, show (i + 1) * 2 = i * 2 + 1 + 1 by omega]
      simp only [List.set_cons_succ, mcells_cons]
      rw [this]
/-- A slice of messages that reads as 'ms'. -/
def IsMsgs (w : World) (v : Value) (ms : List Ms) : Prop :=
  ∃ (a : Option Addr) (cap : Nat), v = .slice a ms.length cap ∧ ms.length ≤ cap ∧ ∀ i, i < ms.length → ∃ p, a = some p ∧ w.cell? (p.add (i * 2)) = some (.int .i64 (msAt ms i).f) ∧ w.cell? ⟨(p.add (i * 2)).block, (p.add (i * 2)).off + 1, none⟩ = some (.int .i64 (msAt ms i).n)
theorem IsMsgs.on {w w' : World} {v : Value} {ms : List Ms} (h : IsMsgs w v ms) (hb : Below w.heap.size w w') : IsMsgs w' v ms := by
  obtain ⟨a, cap, hv, hc, hx⟩ := h
  refine ⟨a, cap, hv, hc, fun i hi => ?_⟩
  obtain ⟨p, hp, h1, h2⟩ := hx i hi
  have hq := World.block_lt_of_cell? w _ h1
  exact ⟨p, hp, (hb.cell hq).trans h1, (hb.cell (p := ⟨(p.add (i * 2)).block, (p.add (i * 2)).off + 1, none⟩) hq).trans h2⟩
/-- Messages at a block's head, and what is spare behind them. -/
def MsgIn (w : World) (g : Nat) (ms : List Ms) (rest : List Value) : Prop := w.heap[g]? = some (.cells (mcells ms ++ rest).toArray 96 (0, 0))
theorem MsgIn.cell {w : World} {g : Nat} {ms : List Ms} {rest : List Value} (h : MsgIn w g ms rest) (i : Nat) (hi : i < ms.length) : w.cell? ⟨g, i * 2, none⟩ = some (.int .i64 (msAt ms i).f) ∧ w.cell? ⟨g, i * 2 + 1, none⟩ = some (.int .i64 (msAt ms i).n) := by
  unfold MsgIn at h
  have := mcells_at ms i hi
  have hl := mcells_length ms
  refine ⟨?_, ?_⟩ <;> simp only [World.cell?, h] <;> simp only [List.getElem?_toArray] <;> rw [List.getElem?_append_left (by omega)] <;> simp [this]
theorem MsgIn.free {w : World} {g : Nat} {ms : List Ms} {rest : List Value} (h : MsgIn w g ms rest) (i : Nat) : w.frozen? ⟨g, i, none⟩ = false := by
  unfold MsgIn at h
  simp [World.frozen?, h]
theorem MsgIn.set {w : World} {g : Nat} {ms : List Ms} {rest : List Value} (h : MsgIn w g ms rest) (i : Nat) (hi : i < ms.length) (m : Ms) : MsgIn ((w.setCell ⟨g, i * 2, none⟩ (.int .i64 m.f)).setCell ⟨g, i * 2 + 1, none⟩ (.int .i64 m.n)) g (ms.set i m) rest := by
  have h1 := heap_setCell_same w g (i * 2) _ 96 (.int .i64 m.f) h
  have h2 := heap_setCell_same _ g (i * 2 + 1) _ 96 (.int .i64 m.n) h1
  unfold MsgIn
  rw [h2, ← mcells_set ms i m hi]
  have hl := mcells_length ms
  simp only [List.setIfInBounds_toArray]
  rw [List.set_append_left _ _ (by omega), List.set_append_left _ _ (by rw [List.length_set]; omega)]
theorem MsgIn.msgs {w : World} {g : Nat} {ms : List Ms} {rest : List Value} (h : MsgIn w g ms rest) (cap : Nat) (hc : ms.length ≤ cap) : IsMsgs w (.slice (some ⟨g, 0, none⟩) ms.length cap) ms :=
  ⟨_, _, rfl, hc, fun i hi => ⟨_, rfl, by rw [add_head]; exact (h.cell i hi).1, by rw [add_head]; exact (h.cell i hi).2⟩⟩
theorem toMsg_in (f n : Int) (w : World) :
    Calls Tryz.prog 96 #[msV f n] w fun e w' => e = .returned (msV f n) ∧ Below w.heap.size w w' := by
  go_enter Tryz.func96, Tryz.ntmps96
  go_wp2
  go_returns
  exact ⟨rfl, by go_grown⟩
theorem eqMsg_in (f n : Int) (w : World) :
    Calls Tryz.prog 106 #[msV f n, msV f n] w fun e w' => e = .returned (.bool true) ∧ Below w.heap.size w w' := by
  have h1 : (f != f) = false := by simp
  have h2 : (n != n) = false := by simp
  go_enter Tryz.func106, Tryz.ntmps106
  go_wp2
  go_ret
  exact ⟨rfl, by go_grown⟩
end Go.Proofs.YtbdljoldblpffaaGreat
