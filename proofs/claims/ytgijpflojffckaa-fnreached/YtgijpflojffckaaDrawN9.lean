/-
  What the draws of things stand on: rows of the call's own beside a cursor.
-/
import Derived.Test.YtgijpflojffckaaDrawE8
import Derived.Test.YtgijpflojffckaaEdge9
import Derived.Test.YtgijpflojffckaaCopy9
import Derived.Test.YtgijpflojffckaaLead
import Derived.Test.YtgijpflojffckaaOkS
namespace Go.Proofs.Ytgijpflojffckaa
open Go.RowKit
set_option linter.unusedVariables false
set_option maxRecDepth 100000

theorem grownBy_new8 {w wr : World} {g b : Nat} (h : w.grownBy wr (some g)) (hb : w.heap.size ≤ b) (i : Nat) (v : Value) : w.grownBy (wr.setCell ⟨b, i, none⟩ v) (some g) :=
  ⟨h.os, h.tape, h.output, by have := h.size; simpa using this, fun k hk hne => (Below.heap_setCell wr ⟨b, i, none⟩ v k (by simp; omega)).trans (h.block k hk hne)⟩
theorem grown8_then {w wr w' : World} {row : Option Nat} {B : Nat} (h : w.grownBy wr row) (hb : Below B wr w') (hB : w.heap.size ≤ B) : w.grownBy w' row :=
  ⟨hb.os.trans h.os, hb.tape.trans h.tape, hb.output.trans h.output, Nat.le_trans h.size hb.size, fun k hk hne => (hb.block k (by omega)).trans (h.block k hk hne)⟩
/-- Another row of the call's own turns: what lies below stays. -/
theorem grown8_own {w wr w' : World} {g : Nat} {r : Option Nat} (h : w.grownBy wr (some g)) (hb : wr.grownBy w' r) (hr : ∀ k, r = some k → w.heap.size ≤ k) : w.grownBy w' (some g) :=
  ⟨hb.os.trans h.os, hb.tape.trans h.tape, hb.output.trans h.output, Nat.le_trans h.size hb.size, fun k hk hne => (hb.block k (by have := h.size; omega) (fun e => by have := hr k e.symm; omega)).trans (h.block k hk hne)⟩
theorem row_by {w w' : World} {g base : Nat} {e : TypeId} {size : Nat} {v : Value} {n : Nat} {xs : List Value} (h : w.ownsRow base e size v n xs) (hg : w.grownBy w' (some g)) (hlt : g < base) : w'.ownsRow base e size v n xs := by
  refine ⟨h.1, ?_⟩
  rcases h.2 with h0 | ⟨b, cap, cur, hv, hb, hgk, r⟩
  · exact .inl h0
  · exact .inr ⟨b, cap, cur, hv, hb, grown_kept hg hgk (fun e => by have := Option.some.inj e; omega), r⟩
theorem row_other {w w' : World} {base : Nat} {e : TypeId} {size : Nat} {v : Value} {n : Nat} {xs : List Value} {r : Option Nat} (h : w.ownsRow base e size v n xs) (hg : w.grownBy w' r) (hr : ∀ k, r = some k → v.ownBlock ≠ some k) : w'.ownsRow base e size v n xs := by
  refine ⟨h.1, ?_⟩
  rcases h.2 with h0 | ⟨b, cap, cur, hv, hb, hgk, rs⟩
  · exact .inl h0
  · exact .inr ⟨b, cap, cur, hv, hb, grown_kept hg hgk (fun e => by have := hr b e; rw [hv] at this; exact this rfl), rs⟩
theorem row_on8 {w w' : World} {base : Nat} {e : TypeId} {size : Nat} {v : Value} {n : Nat} {xs : List Value} (h : w.ownsRow base e size v n xs) (hb : Below w.heap.size w w') : w'.ownsRow base e size v n xs := by
  refine ⟨h.1, ?_⟩
  rcases h.2 with h0 | ⟨b, cap, cur, hv, hb', hgk, rs⟩
  · exact .inl h0
  · exact .inr ⟨b, cap, cur, hv, hb', keep hgk hb, rs⟩
set_option maxHeartbeats 1000000 in
theorem pickE2 (w : World) (g s base : Nat) (v : Value) (ns : List Int) (h : CurE w g s) (hx : w.ownsRow base 3 1 v ns.length (icells ns)) (hs : s ≤ base) (h0 : 0 < ns.length) (hn : ns.length ≤ 4096) :
    Calls Try.prog 45 #[.pointer (some ⟨g, 0, none⟩), v] w fun e w' => (∃ x : Int, e = .returned (.int .i64 x) ∧ x ∈ ns) ∧ CurE w' g s ∧ w.grownBy w' (some g) := by
  have C := belowE w g s ns.length h h0 (by omega)
  have hlt := h.lt
  have HX : Hid (∀ w', w.grownBy w' (some g) → ∀ i, i < ns.length → ∃ p, (∃ c, v = .slice (some p) ns.length c) ∧ w'.cell? (p.add i) = some (.int .i64 (ns.getD i 0))) := fun w' hg i hi => by
    have e := isInts_own (row_by hx hg (by omega))
    obtain ⟨a, c, hv, _, hc⟩ := e
    obtain ⟨p, rfl, hp⟩ := hc i hi
    exact ⟨p, ⟨c, hv⟩, hp⟩
  obtain ⟨a, c, rfl⟩ := owns_len hx
  have HIN : Hid (∀ i, i < ns.length → ns.getD i 0 ∈ ns) := fun i hi => all_memI hi
  clear h hx hlt
  go_enter Try.func45, Try.ntmps45
  go_wp2_with fail
  refine C.mono ?_
  rintro e w1 ⟨x, rfl, hx, hc, hg⟩
  have HC : Hid (CurE w1 g s ∧ w.grownBy w1 (some g)) := ⟨hc, hg⟩
  obtain ⟨p, ⟨c', hv⟩, hp⟩ := HX.out w1 hg x hx
  obtain rfl : a = some p := (Value.slice.inj hv).1
  have HM := hid_of (HIN.out x hx)
  clear C hc hg hv HX HIN
  generalize ns.getD x 0 = y at hp HM
  go_wp2
  go_ret
  exact ⟨⟨_, rfl, HM.out⟩, HC.out⟩
theorem wpO_appI {o : Oper} {a : Act} {K : Act → World → Prop} {Q : Exit → Act → World → Prop} (s x : Operand)
    (ho : o.op = .call { callee := .builtin .append, args := #[s, x], argTypes := #[25, 25] }) (W : World) (base g : Nat) (v : Value) (acc new : List Int) (k c : Nat)
    (hs : a.eval s = v) (hx : a.eval x = .slice (some ⟨g, 0, none⟩) k c) (hown : W.ownsRow base 3 1 v acc.length (icells acc)) (hcell : ∀ (j : Nat) u, (icells new)[j]? = some u → W.cell? ⟨g, j, none⟩ = some u) (hk : new.length = k)
    (hb : acc.length + k ≤ 17592186044416) (hbase : base ≤ W.heap.size)
    (h : ∀ v' w', w'.ownsRow base 3 1 v' (acc ++ new).length (icells (acc ++ new)) → W.grownBy w' v.ownBlock → K (a.put o.dst v') w') : Oper.wp Try.prog o a W K Q := by
  subst hk
  obtain ⟨i0, hi, hz0, hz1, hz2⟩ := info_parts info3
  refine wp_append_own W s x 25 ho base 3 i0 (.int .i64 0) 1 8 Try.underlying25 hi hz0 hz1 hz2 rfl (by decide) v acc.length (icells acc) hs hown ⟨g, 0, none⟩ new.length c (icells new) hx (by rw [icells_length]; omega) ?_ (icells_one _) (by simp only [maxLen]; omega) (by omega) hbase ?_
  · intro j u hj
    have : (⟨g, 0, none⟩ : Addr).add j = ⟨g, j, none⟩ := by unfold Addr.add; split <;> simp_all
    rw [this]
    exact hcell j u hj
  · intro v' w' h1 h2 _
    refine h v' w' ?_ h2
    rw [icells_append, List.length_append]; exact h1
theorem wpO_appM {o : Oper} {a : Act} {K : Act → World → Prop} {Q : Exit → Act → World → Prop} (s x : Operand)
    (ho : o.op = .call { callee := .builtin .append, args := #[s, x], argTypes := #[26, 26] }) (W : World) (base g : Nat) (v : Value) (acc new : List Ms) (k c : Nat)
    (hs : a.eval s = v) (hx : a.eval x = .slice (some ⟨g, 0, none⟩) k c) (hown : W.ownsRow base 65 2 v acc.length (mcells acc)) (hcell : ∀ (j : Nat) u, (mcells new)[j]? = some u → W.cell? ⟨g, j, none⟩ = some u) (hk : new.length = k)
    (hb : acc.length + k ≤ 1048576) (hbase : base ≤ W.heap.size)
    (h : ∀ v' w', w'.ownsRow base 65 2 v' (acc ++ new).length (mcells (acc ++ new)) → W.grownBy w' v.ownBlock → K (a.put o.dst v') w') : Oper.wp Try.prog o a W K Q := by
  subst hk
  obtain ⟨i0, hi, hz0, hz1, hz2⟩ := info_parts infoMsg
  refine wp_append_own W s x 26 ho base 65 i0 (msV 0 0) 2 16 Try.underlying26 hi hz0 hz1 hz2 rfl (by decide) v acc.length (mcells acc) hs hown ⟨g, 0, none⟩ new.length c (mcells new) hx (by rw [mcells_length]) ?_ (mcells_one _) (by simp only [maxLen]; omega) (by omega) hbase ?_
  · intro j u hj
    have : (⟨g, 0, none⟩ : Addr).add j = ⟨g, j, none⟩ := by unfold Addr.add; split <;> simp_all
    rw [this]
    exact hcell j u hj
  · intro v' w' h1 h2 _
    refine h v' w' ?_ h2
    rw [mcells_append, List.length_append]; exact h1
theorem msgs_row {w : World} {base : Nat} {v : Value} {ms : List Ms} (h : w.ownsRow base 65 2 v ms.length (mcells ms)) : OwnM base w.heap.size w v ms := ownM_row h
theorem ints_row {w : World} {base : Nat} {v : Value} {xs : List Int} (h : w.ownsRow base 3 1 v xs.length (icells xs)) : OwnI base w.heap.size w v xs := ownI_row h
end Go.Proofs.Ytgijpflojffckaa
