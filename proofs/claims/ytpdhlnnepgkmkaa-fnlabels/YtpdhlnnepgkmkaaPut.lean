/-
  What 'put' does: it lays the bytes of its last argument over the row from a place on, where they fit, and tells the place behind them; nothing else is touched.
-/
import Derived.Test.YtpdhlnnepgkmkaaRows
import Derived.Test.YtpdhlnnepgkmkaaMath
import Derived.WalkKit
import Derived.WalkSpells
import Derived.WalkLawsBesides
import Derived.Laws.CopyOwn
import Derived.Laws.IdiomStrings
import Derived.Laws.IdiomRangeMap
import Derived.Deep.OwnRows
import Derived.Outline
namespace Go.Proofs.Ytpdhlnnepgkmkaa
open Go.RowKit
set_option linter.unusedVariables false

theorem info5 : (Try.prog.info? 5).map (fun i => (i.zero, i.size, i.bytes)) = some (some (.int .u8 0), 1, 1) := by kernel_rfl
theorem size5 : (Try.prog.info? 5).map (·.size) = some 1 := by kernel_rfl

set_option maxHeartbeats 400000 in
theorem put_any (w : World) (g n at0 m k : Nat) (cur cs : List Value) (hg : w.heap[g]? = some (.cells cur.toArray 5 (0, 0))) (hn : cur.length = n) (hk : cs.length = k)
    (hm : ∀ j v, cs[j]? = some v → w.cell? ⟨m, j, none⟩ = some v) (h1 : ∀ v ∈ cs, v.oneCell' = true) (hfit : at0 + k ≤ n) (hk0 : 0 < k) (hb : n ≤ 140737488355328) :
    Calls Try.prog 41 #[.slice (some ⟨g, 0, none⟩) n n, .int .i64 at0, .slice (some ⟨m, 0, none⟩) k k] w fun e w' =>
      e = .returned (.int .i64 (at0 + k : Nat)) ∧ w'.heap[g]? = some (.cells (splice cur at0 cs).toArray 5 (0, 0)) ∧ Below g w w' := by
  subst hk
  have hlt : at0 < n := by omega
  have hrun := run_copy_row (P := Try.prog) w 22 22 3 5 g at0 (n - at0) (n - at0) ⟨m, 0, none⟩ cs.length cs.length cur.toArray 5 cs Try.underlying22 size5 hg (Nat.min_eq_left (by omega)).symm (fun j v hj => by have := hm j v hj; unfold Addr.add; split <;> simp_all) (by simp; omega) h1
  generalize hW : w.setRow g (cur.toArray.toList.take at0 ++ cs ++ cur.toArray.toList.drop (at0 + cs.length)).toArray = W at hrun
  have F1 : W.heap[g]? = some (.cells (splice cur at0 cs).toArray 5 (0, 0)) := by
    rw [← hW]; simpa [splice] using setRow_heap w g _ _ 5 _ hg
  have F2 : Below g w W := by rw [← hW]; exact below_setRow (Below.refl _ _) (Nat.le_refl _) _
  have HF : Hid (W.heap[g]? = some (.cells (splice cur at0 cs).toArray 5 (0, 0))) := F1
  clear hW F1 hg hm
  go_enter Try.func41, Try.ntmps41
  go_wp2
  go_ret
  exact ⟨by go_num, HF.out, F2⟩
/-- 'put' where the row is filled from its head on, the new bytes in a block of their own. -/
theorem put_row (wr : World) (g n : Nat) (acc new : List UInt8) (f : Nat) (vs : Array Value) (hvs : vs = (bcells new).toArray) (k : Nat) (hk : new.length = k) (hg : wr.heap[g]? = some (.cells (rowOf acc (f + k)).toArray 5 (0, 0)))
    (hn : acc.length + (f + k) = n) (hk0 : 0 < k) (hb : n ≤ 140737488355328) :
    Calls Try.prog 41 #[.slice (some ⟨g, 0, none⟩) n n, .int .i64 acc.length, .slice (some ⟨wr.heap.size, 0, none⟩) k k] (wr.alloc (.cells vs 5)) fun e w' =>
      e = .returned (.int .i64 (acc.length + k : Nat)) ∧ w'.heap[g]? = some (.cells (rowOf (acc ++ new) f).toArray 5 (0, 0)) ∧ Below g wr w' := by
  subst hvs hk
  have hgl := lt_of_block hg
  refine (put_any (wr.alloc (.cells (bcells new).toArray 5)) g n acc.length wr.heap.size new.length (rowOf acc (f + new.length)) (bcells new) ?_ ?_ (bcells_length _) ?_ (bcells_one _) (by omega) hk0 hb).mono ?_
  · rw [Below.heap_alloc _ _ _ hgl]; exact hg
  · rw [rowOf_length]; exact hn
  · intro j v hj
    have hnew : (wr.alloc (.cells (bcells new).toArray 5)).heap[wr.heap.size]? = some (.cells (bcells new).toArray 5 (0, 0)) := heap_alloc_new wr _
    simp only [World.cell?, hnew]
    simpa using hj
  · rintro e w' ⟨rfl, h1, h2⟩
    rw [rowOf_splice] at h1
    exact ⟨rfl, h1, ((Below.refl g wr).alloc (by omega) _).trans h2⟩

/-- 'string(out[:n])', the row filled as far as n. -/
theorem conv_row (w : World) (g : Nat) (acc : List UInt8) (f cap : Nat) (hg : w.heap[g]? = some (.cells (rowOf acc f).toArray 5 (0, 0))) :
    (convert 22 9 (.slice (some ⟨g, 0, none⟩) acc.length cap)).run Try.prog w = .ok (.string ⟨acc.toArray⟩) w := by
  refine run_convert_bytes_back w 22 9 5 ⟨g, 0, none⟩ cap acc Try.underlying22 Try.underlying5 Try.underlying9 ?_
  intro j hj
  have : (⟨g, 0, none⟩ : Addr).add j = ⟨g, j, none⟩ := by unfold Addr.add; split <;> simp_all
  rw [this]
  simp only [World.cell?, hg]
  simpa using rowOf_get acc f j hj
/-- 'string(out)' of a slice that the call has made by append. -/
theorem conv_own (w : World) (base : Nat) (v : Value) (n : Nat) (l : List UInt8) (hown : w.ownsRow base 5 1 v n (bcells l)) :
    (convert 22 9 v).run Try.prog w = .ok (.string ⟨l.toArray⟩) w := by
  have hl : l.length = n := by have := hown.1; rw [bcells_length] at this; omega
  rcases hown.2 with ⟨rfl, rfl⟩ | ⟨g, cap, cur, rfl, _, hg, _, _, _, _⟩
  · obtain rfl : l = [] := List.eq_nil_of_length_eq_zero hl
    rw [run_convert_bytes_string w 22 9 5 none 0 0 Try.underlying22 Try.underlying5 Try.underlying9]
    simp [Conv.bytesToString]
    rfl
  · subst hl
    refine run_convert_bytes_back w 22 9 5 ⟨g, 0, none⟩ cap l Try.underlying22 Try.underlying5 Try.underlying9 ?_
    intro j hj
    exact hown.cells rfl j _ (by simp [bcells, hj])
/-- 'append(out, ..)' of bytes that lie in a new block of their own, out the call's own: what is owned is one list of bytes. -/
theorem wpList_app {ops : Array Oper} {rest : List Oper} {o : Oper} {a : Act} {Q : Exit → Act → World → Prop} (hgd : o.guard = none) (s x : Operand)
    (ho : o.op = .call { callee := .builtin .append, args := #[s, x], argTypes := #[22, 22] }) (w0 wr : World) (base : Nat) (v : Value) (acc new : List UInt8) (vs : Array Value) (k : Nat)
    (hs : a.eval s = v) (hx : a.eval x = .slice (some ⟨wr.heap.size, 0, none⟩) k k) (hown : wr.ownsRow base 5 1 v acc.length (bcells acc)) (hvs : vs = (bcells new).toArray) (hk : new.length = k)
    (hb : acc.length + k ≤ 140737488355328) (hbase : base ≤ wr.heap.size) (hnx : Below base w0 wr)
    (h : ∀ v' w', Hid (w'.ownsRow base 5 1 v' (acc ++ new).length (bcells (acc ++ new))) → Below base w0 w' → wpList Try.prog ops Q rest (a.put o.dst v') w') : wpList Try.prog ops Q (o :: rest) a (wr.alloc (.cells vs 5)) := by
  subst hvs hk
  obtain ⟨i0, hi, hz0, hz1, hz2⟩ := info_parts info5
  refine wpList_append_own _ hgd s x 22 ho base 5 i0 (.int .u8 0) 1 1 Try.underlying22 hi hz0 hz1 hz2 rfl (by decide) v acc.length (bcells acc) hs (hown.alloc _) ⟨wr.heap.size, 0, none⟩ new.length new.length (bcells new) hx (by rw [bcells_length]; omega) ?_ (bcells_one _) (by simp only [maxLen]; omega) (by omega) (by simp; omega) ?_
  · intro j u hj
    have hnew : (wr.alloc (.cells (bcells new).toArray 5)).heap[wr.heap.size]? = some (.cells (bcells new).toArray 5 (0, 0)) := heap_alloc_new wr _
    have : (⟨wr.heap.size, 0, none⟩ : Addr).add j = ⟨wr.heap.size, j, none⟩ := by unfold Addr.add; split <;> simp_all
    rw [this]
    simp only [World.cell?, hnew]
    simpa using hj
  · intro v' w' h1 h2 _
    refine h v' w' ?_ ?_
    · rw [bcells_append, List.length_append]; exact h1
    · exact (hnx.alloc hbase _).grown h2 (by simp; omega) (fun k hk => (hown.lt k hk).1)
/-- 'make([]byte, n)'. -/
theorem make_bytes (n : Nat) (h : n ≤ 281474976710656) (w : World) :
    (Instr.makeSlice 22 (.int .i64 (n : Int)) (.int .i64 (n : Int))).run Try.prog w = .ok (.slice (some ⟨w.heap.size, 0, none⟩) n n) (w.alloc (.cells (rowOf [] n).toArray 5 (0, 0))) := by
  have h1 := run_make_row' (P := Try.prog) 22 5 (.int .u8 0) 1 Try.underlying22 info5 rfl .i64 .i64 n (by omega) (by omega) w
  have h2 : madeCells #[Value.int .u8 0] n = (rowOf [] n).toArray := by
    apply Array.toList_inj.1
    rw [toList_madeCells_one]
    simp [rowOf, bcells]
  rw [h2] at h1
  exact h1
end Go.Proofs.Ytpdhlnnepgkmkaa


