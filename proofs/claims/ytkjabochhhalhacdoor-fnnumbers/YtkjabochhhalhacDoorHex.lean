/-
  Hex answers as its model at every text of at most 1048576 bytes, which is all that the law asks. No condition.
-/
import Derived.Test.YtkjabochhhalhacDoorVar
import Derived.Test.YtkjabochhhalhacDoorMathHex
import Derived.Deep.RegionLaw
namespace Go.Proofs.YtkjabochhhalhacDoor
open Go.ChangeShapes Go.WideShapes Go.ChangeAt Go.RowKit
open Go.ChangeMaps (open_string shut_string)
set_option linter.unusedVariables false

/-- 'put_row' behind a draw. -/
theorem put_row_drew (wr : World) (g n : Nat) (acc new : List UInt8) (f : Nat) (vs : Array Value) (hvs : vs = (bcells new).toArray) (k : Nat) (hk : new.length = k) (hg : wr.heap[g]? = some (.cells (rowOf acc (f + k)).toArray 5 (0, 0)))
    (hn : acc.length + (f + k) = n) (hk0 : 0 < k) (hb : n ≤ 140737488355328) :
    Calls Tryd.prog 19 #[.slice (some ⟨g, 0, none⟩) n n, .int .i64 acc.length, .slice (some ⟨wr.heap.size, 0, none⟩) k k] (wr.alloc (.cells vs 5)).drew fun e w' =>
      e = .returned (.int .i64 (acc.length + k : Nat)) ∧ w'.heap[g]? = some (.cells (rowOf (acc ++ new) f).toArray 5 (0, 0)) ∧ Below g wr w' := by
  refine (put_row wr.drew g n acc new f vs hvs k hk hg hn hk0 hb).mono ?_
  rintro e w' ⟨h1, h2, h3⟩
  exact ⟨h1, h2, ((Below.refl g wr).drew).trans h3⟩

set_option maxRecDepth 100000 in
set_option maxHeartbeats 400000 in
theorem implHex_any (s : ByteArray) (w : World) (hs : s.size ≤ 1048576) :
    Calls Tryd.prog 14 #[.string s] w fun e w' => e = .returned (.string ⟨(hexs s.data.toList).toArray⟩) ∧ Below w.heap.size w w' := by
  have hmk := make_bytes (2 * s.size) (by omega)
  rw [show ((2 * s.size : Nat) : Int) = 2 * (s.size : Int) by omega] at hmk
  go_enter Tryd.func14, Tryd.ntmps14
  go_wp2
  clear hmk
  go_loopw [4, 5, 12] (fun a _ i wr => ∃ (acc : List UInt8) (k : Nat), k ≤ s.size ∧ acc.length ≤ 2097152 ∧ Hid (acc.length = 2 * k) ∧ a = .int .i64 acc.length ∧ i = .int .i64 k ∧ Hid (acc = hexs (s.data.toList.take k)) ∧ wr.heap[w.heap.size]? = some (.cells (rowOf acc (2 * (s.size - k))).toArray 5 (0, 0)) ∧ Below w.heap.size w wr) (fun _ _ i _ => s.size - (intOf i).toNat)
  case atStart => exact ⟨[], 0, by omega, by simp, rfl, rfl, rfl, rfl, heap_alloc_new w _, (Below.refl _ _).alloc (Nat.le_refl _) _⟩
  case round =>
    obtain ⟨acc, k, hk, hal, hal2, rfl, rfl, hacc, hrow, hnx⟩ := hrel
    have hsz := hnx.size
    by_cases hlt : k < s.size
    · obtain ⟨B, hB⟩ : ∃ B : Nat, B = s[k].toNat := ⟨_, rfl⟩
      have hB2 : B < 256 := by rw [hB]; exact s[k].toNat_lt
      have hB0 : ((s[k].toNat : Nat) : Int) = (B : Int) := by rw [hB]
      have HB : Hid (B = s[k].toNat) := hB
      have hB15 : bits BinOp.and IntKind.u8 (B : Int) 15 = ((B % 16 : Nat) : Int) := by rw [u8_and15 _ (by omega) (by omega)]; simp
      clear hB
      go_wp2
      have hrow' : wr.heap[w.heap.size]? = some (.cells (rowOf acc (2 * (s.size - (k + 1)) + 2)).toArray 5 (0, 0)) := by
        rw [show 2 * (s.size - (k + 1)) + 2 = 2 * (s.size - k) by omega]; exact hrow
      have Hn : Hid (acc.length + (2 * (s.size - (k + 1)) + 2) = 2 * s.size) := by have := hal2.out; show _ = _; omega
      clear hrow
      go_region_with (go_at_call 19; refine (put_row_drew wr w.heap.size (2 * s.size) acc [hexd (B / 16), hexd (B % 16)] (2 * (s.size - (k + 1))) _ (hexvs B hB2 _ _) 2 rfl hrow' Hn.out (by omega) (by omega)).mono ?_; rintro e w2 ⟨rfl, hrow2, hb2⟩)
      all_goals go_wp2
      all_goals
        refine ⟨⟨acc ++ [hexd (B / 16), hexd (B % 16)], k + 1, by omega, ?_, ?_, by simp, by go_num, ?_, hrow2, hnx.trans hb2⟩, by simp [intOf]; omega⟩
        · have := hal2.out; simp; omega
        · have := hal2.out; show _ = _; simp; omega
        · exact hexs_step s k hlt B HB.out acc hacc.out
    · obtain rfl : k = s.size := by omega
      have hconv := conv_row wr w.heap.size acc _ (2 * s.size) hrow
      rw [hal2.out] at hconv
      have H : Hid (acc = hexs s.data.toList) := by have := hacc.out; rwa [List.take_of_length_le (by simp)] at this
      clear hrow hacc
      go_wp2
      go_ret
      rw [← H.out]
      exact ⟨rfl, hnx⟩

/-- append to the call's own row of bytes, as one step of a region that draws. -/
theorem step_app {ops : Array Oper} {o : Oper} {a : Act} {K : Act → World → Prop} {Q : Exit → Act → World → Prop} {E : Prop} (hgd : o.guard = none) (s x : Operand)
    (ho : o.op = .call { callee := .builtin .append, args := #[s, x], argTypes := #[22, 22] }) (w0 W : World) (base g : Nat) (v : Value) (acc new : List UInt8) (vs : Array Value) (k : Nat)
    (hs : a.eval s = v) (hx : a.eval x = .slice (some ⟨g, 0, none⟩) k k) (hown : W.ownsRow base 5 1 v acc.length (bcells acc)) (hg : W.heap[g]? = some (.cells vs 5 (0, 0))) (hvs : vs = (bcells new).toArray) (hk : new.length = k)
    (hb : acc.length + k ≤ 140737488355328) (hbase : base ≤ W.heap.size) (hnx : Below base w0 W)
    (h : ∀ v' w', Hid (w'.ownsRow base 5 1 v' (acc ++ new).length (bcells (acc ++ new))) → Below base w0 w' → K (a.put o.dst v') w') :
    if Region.wanted o (yielded ops a.tmps) = true then Oper.wp Tryd.prog o a W K Q else E := by
  have hw : Region.wanted o (yielded ops a.tmps) = true := by simp [Region.wanted, hgd]
  rw [if_pos hw]
  subst hvs hk
  obtain ⟨i0, hi, hz0, hz1, hz2⟩ := info_parts info5
  refine wp_append_own W s x 22 ho base 5 i0 (.int .u8 0) 1 1 Tryd.underlying22 hi hz0 hz1 hz2 rfl (by decide) v acc.length (bcells acc) hs hown ⟨g, 0, none⟩ new.length new.length (bcells new) hx (by rw [bcells_length]; omega) ?_ (bcells_one _) (by simp only [maxLen]; omega) (by omega) hbase ?_
  · intro j u hj
    have : (⟨g, 0, none⟩ : Addr).add j = ⟨g, j, none⟩ := by unfold Addr.add; split <;> simp_all
    rw [this]
    simp only [World.cell?, hg]
    simpa using hj
  · intro v' w' h1 h2 _
    refine h v' w' ?_ ?_
    · rw [bcells_append, List.length_append]; exact h1
    · exact hnx.grown h2 hbase (fun k hk => (hown.lt k hk).1)

end Go.Proofs.YtkjabochhhalhacDoor

