/-
  Slices of messages: the laws' own copies, two alike.
-/
import Derived.Test.YtokicnopfmokaaaMsgsT
namespace Go.Proofs.Ytokicnopfmokaaa
open Go.RowKit
set_option linter.unusedVariables false
set_option maxRecDepth 100000

theorem infoMsg : (Try.prog.info? 63).map (fun i => (i.zero, i.size, i.bytes)) = some (some (msV 0 0), 2, 16) := by kernel_rfl
theorem made_msgs (n : Nat) : (madeCells #[Value.int .i64 0, .int .i64 0] (n * 2)).toList = mcells (List.replicate n noMs) := by
  induction n with
  | zero => simp [madeCells, mcells]
  | succ n ih =>
    have h1 : (madeCells #[Value.int .i64 0, .int .i64 0] ((n + 1) * 2)).toList = (madeCells #[Value.int .i64 0, .int .i64 0] (n * 2)).toList ++ [.int .i64 0, .int .i64 0] := by
      rw [show (n + 1) * 2 = n * 2 + 1 + 1 by omega]
      unfold madeCells
      simp [Array.range_succ, show (n * 2 + 1) % 2 = 1 by omega]
    rw [h1, ih, List.replicate_succ', mcells_append]
    rfl
theorem make_msgs (n : Nat) (h : n ≤ 4398046511104) (w : World) :
    (Instr.makeSlice 26 (.int .i64 (n : Int)) (.int .i64 (n : Int))).run Try.prog w = .ok (.slice (some ⟨w.heap.size, 0, none⟩) n n) (w.alloc (.cells (mcells (List.replicate n noMs)).toArray 63 (0, 0))) := by
  obtain ⟨i, hi, hzz⟩ := Option.map_eq_some_iff.1 infoMsg
  simp only [Prod.mk.injEq] at hzz
  obtain ⟨hz, hs, hb⟩ := hzz
  have hr := run_make (P := Try.prog) w 26 63 i _ Try.underlying26 hi hz .i64 .i64 n n (by omega) (Int.le_refl _) (by rw [hb]; omega) (by omega)
  simp only [Int.toNat_natCast, hs] at hr
  have h2 : madeCells (msV 0 0).cells (n * 2) = (mcells (List.replicate n noMs)).toArray := by
    apply Array.toList_inj.1
    exact made_msgs n
  rw [h2] at hr
  exact hr
/-- Messages that are filled from the head on. -/
def fillM (ms : List Ms) (k : Nat) : List Ms := ms.take k ++ List.replicate (ms.length - k) noMs
theorem fillM_start (ms : List Ms) : fillM ms 0 = List.replicate ms.length noMs := by simp [fillM]
theorem fillM_end (ms : List Ms) : fillM ms ms.length = ms := by simp [fillM]
theorem fillM_length (ms : List Ms) (k : Nat) (h : k ≤ ms.length) : (fillM ms k).length = ms.length := by simp [fillM]; omega
theorem fillM_set (ms : List Ms) (k : Nat) (h : k < ms.length) : (fillM ms k).set k (msAt ms k) = fillM ms (k + 1) := by
  unfold fillM
  rw [show ms.length - k = (ms.length - (k + 1)) + 1 by omega, List.replicate_succ, List.set_append_right _ _ (by simp; omega)]
  rw [show k - (ms.take k).length = 0 by simp; omega, List.set_cons_zero]
  rw [show ms.take (k + 1) = ms.take k ++ [msAt ms k] by rw [List.take_add_one, List.getElem?_eq_getElem h]; simp [msAt, List.getD, h]]
  rw [List.append_assoc]
  rfl
theorem MsgIn.on {w w' : World} {g : Nat} {ms : List Ms} {rest : List Value} (h : MsgIn w g ms rest) (hb : Below w.heap.size w w') : MsgIn w' g ms rest := keep h hb
/-- Both cells of a message. -/
structure Cells2 (w : World) (q : Addr) (m : Ms) : Prop where
  c0 : w.cell? q = some (.int .i64 m.f)
  c1 : w.cell? ⟨q.block, q.off + 1, none⟩ = some (.int .i64 m.n)
theorem Cells2.on {w w' : World} {q : Addr} {m : Ms} (h : Cells2 w q m) (hb : Below w.heap.size w w') : Cells2 w' q m :=
  have hq := World.block_lt_of_cell? w _ h.c0
  ⟨(hb.cell hq).trans h.c0, (hb.cell (p := ⟨q.block, q.off + 1, none⟩) hq).trans h.c1⟩
theorem IsMsgs.at {w : World} {a : Option Addr} {n cap : Nat} {ms : List Ms} (h : IsMsgs w (.slice a n cap) ms) {i : Nat} (hi : i < ms.length) : ∃ p q, a = some p ∧ p.add (i * 2) = q ∧ Cells2 w q (msAt ms i) := by
  obtain ⟨a', cap', hv, _, hx⟩ := h
  cases hv
  obtain ⟨p, hp, h1, h2⟩ := hx i hi
  exact ⟨p, _, hp, rfl, h1, h2⟩
end Go.Proofs.Ytokicnopfmokaaa
