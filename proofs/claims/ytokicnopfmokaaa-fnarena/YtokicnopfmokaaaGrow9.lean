/-
  What the draws of things stand on: rows of the call's own beside a cursor. What lies there while a thing is drawn. A thing is drawn.
-/
import Derived.Test.YtokicnopfmokaaaDrawE8
import Derived.Test.YtokicnopfmokaaaEdge9
import Derived.Test.YtokicnopfmokaaaCopy9
import Derived.Test.YtokicnopfmokaaaLead
import Derived.Test.YtokicnopfmokaaaOkS
import Derived.Test.YtokicnopfmokaaaCopyO
namespace Go.Proofs.Ytokicnopfmokaaa
open Go.RowKit
set_option linter.unusedVariables false
set_option maxRecDepth 100000

theorem grownBy_new8 {w wr : World} {g b : Nat} (h : w.grownBy wr (some g)) (hb : w.heap.size ≤ b) (i : Nat) (v : Value) : w.grownBy (wr.setCell ⟨b, i, none⟩ v) (some g) :=
  ⟨h.os, h.tape, h.output, by have := h.size; simpa using this, fun k hk hne => (Below.heap_setCell wr ⟨b, i, none⟩ v k (by simp; omega)).trans (h.block k hk hne)⟩
theorem grown8_then {w wr w' : World} {row : Option Nat} {B : Nat} (h : w.grownBy wr row) (hb : Below B wr w') (hB : w.heap.size ≤ B) : w.grownBy w' row :=
  ⟨hb.os.trans h.os, hb.tape.trans h.tape, hb.output.trans h.output, Nat.le_trans h.size hb.size, fun k hk hne => (hb.block k (by omega)).trans (h.block k hk hne)⟩
/-- Another row of the call's own turns: what lies below stays. -/
theorem grown8_own {w wr w' : World} {g : Nat} {r : Option Nat} (h : w.grownBy wr (some g)) (hb : wr.grownBy w' r) (hr : ∀ k, r = some k → w.heap.size ≤ k) : w.grownBy w' (some g) :=
  ⟨hb.os.trans h.os, hb.tape.trans h.tape, hb.output.trans h.output, Nat.le_trans h.size hb.size, fun k hk hne => (hb.block k (by have := h.size; omega) (fun e => by have := hr k e.symm; omega)).trans (h.block k hk hne)⟩
theorem row_by {w w' : World} {g base : Nat} {e : TypeId} {size : Nat} {v : Value} {n : Nat} {xs : List Value} (h : w.ownsRow base e size v n xs) (hg : w.grownBy w' (some g)) (hlt : g < base) : w'.ownsRow base e size v n xs := by
  refine ⟨h.1, ?_⟩
  rcases h.2 with h0 | ⟨b, cap, cur, hv, hb, hgk, r⟩
  · exact .inl h0
  · exact .inr ⟨b, cap, cur, hv, hb, grown_kept hg hgk (fun e => by have := Option.some.inj e; omega), r⟩
theorem row_other {w w' : World} {base : Nat} {e : TypeId} {size : Nat} {v : Value} {n : Nat} {xs : List Value} {r : Option Nat} (h : w.ownsRow base e size v n xs) (hg : w.grownBy w' r) (hr : ∀ k, r = some k → v.ownBlock ≠ some k) : w'.ownsRow base e size v n xs := by
  refine ⟨h.1, ?_⟩
  rcases h.2 with h0 | ⟨b, cap, cur, hv, hb, hgk, rs⟩
  · exact .inl h0
  · exact .inr ⟨b, cap, cur, hv, hb, grown_kept hg hgk (fun e => by have := hr b e; rw [hv] at this; exact this rfl), rs⟩
theorem row_on8 {w w' : World} {base : Nat} {e : TypeId} {size : Nat} {v : Value} {n : Nat} {xs : List Value} (h : w.ownsRow base e size v n xs) (hb : Below w.heap.size w w') : w'.ownsRow base e size v n xs := by
  refine ⟨h.1, ?_⟩
  rcases h.2 with h0 | ⟨b, cap, cur, hv, hb', hgk, rs⟩
  · exact .inl h0
  · exact .inr ⟨b, cap, cur, hv, hb', keep hgk hb, rs⟩
set_option maxHeartbeats 1000000 in
theorem pickE2 (w : World) (g s base : Nat) (v : Value) (ns : List Int) (h : CurE w g s) (hx : w.ownsRow base 3 1 v ns.length (icells ns)) (hs : s ≤ base) (h0 : 0 < ns.length) (hn : ns.length ≤ 4096) :
    Calls Try.prog 37 #[.pointer (some ⟨g, 0, none⟩), v] w fun e w' => (∃ x : Int, e = .returned (.int .i64 x) ∧ x ∈ ns) ∧ CurE w' g s ∧ w.grownBy w' (some g) := by
  have C := belowE w g s ns.length h h0 (by omega)
  have hlt := h.lt
  have HX : Hid (∀ w', w.grownBy w' (some g) → ∀ i, i < ns.length → ∃ p, (∃ c, v = .slice (some p) ns.length c) ∧ w'.cell? (p.add i) = some (.int .i64 (ns.getD i 0))) := fun w' hg i hi => by
    have e := isInts_own (row_by hx hg (by omega))
    obtain ⟨a, c, hv, _, hc⟩ := e
    obtain ⟨p, rfl, hp⟩ := hc i hi
    exact ⟨p, ⟨c, hv⟩, hp⟩
  obtain ⟨a, c, rfl⟩ := owns_len hx
  have HIN : Hid (∀ i, i < ns.length → ns.getD i 0 ∈ ns) := fun i hi => all_memI hi
  clear h hx hlt
  go_enter Try.func37, Try.ntmps37
  go_wp2_with fail
  refine C.mono ?_
  rintro e w1 ⟨x, rfl, hx, hc, hg⟩
  have HC : Hid (CurE w1 g s ∧ w.grownBy w1 (some g)) := ⟨hc, hg⟩
  obtain ⟨p, ⟨c', hv⟩, hp⟩ := HX.out w1 hg x hx
  obtain rfl : a = some p := (Value.slice.inj hv).1
  have HM := hid_of (HIN.out x hx)
  clear C hc hg hv HX HIN
  generalize ns.getD x 0 = y at hp HM
  go_wp2
  go_ret
  exact ⟨⟨_, rfl, HM.out⟩, HC.out⟩
theorem wpO_appI {o : Oper} {a : Act} {K : Act → World → Prop} {Q : Exit → Act → World → Prop} (s x : Operand)
    (ho : o.op = .call { callee := .builtin .append, args := #[s, x], argTypes := #[25, 25] }) (W : World) (base g : Nat) (v : Value) (acc new : List Int) (k c : Nat)
    (hs : a.eval s = v) (hx : a.eval x = .slice (some ⟨g, 0, none⟩) k c) (hown : W.ownsRow base 3 1 v acc.length (icells acc)) (hcell : ∀ (j : Nat) u, (icells new)[j]? = some u → W.cell? ⟨g, j, none⟩ = some u) (hk : new.length = k)
    (hb : acc.length + k ≤ 17592186044416) (hbase : base ≤ W.heap.size)
    (h : ∀ v' w', w'.ownsRow base 3 1 v' (acc ++ new).length (icells (acc ++ new)) → W.grownBy w' v.ownBlock → K (a.put o.dst v') w') : Oper.wp Try.prog o a W K Q := by
  subst hk
  obtain ⟨i0, hi, hz0, hz1, hz2⟩ := info_parts info3
  refine wp_append_own W s x 25 ho base 3 i0 (.int .i64 0) 1 8 Try.underlying25 hi hz0 hz1 hz2 rfl (by decide) v acc.length (icells acc) hs hown ⟨g, 0, none⟩ new.length c (icells new) hx (by rw [icells_length]; omega) ?_ (icells_one _) (by simp only [maxLen]; omega) (by omega) hbase ?_
  · intro j u hj
    have : (⟨g, 0, none⟩ : Addr).add j = ⟨g, j, none⟩ := by unfold Addr.add; split <;> simp_all
    rw [this]
    exact hcell j u hj
  · intro v' w' h1 h2 _
    refine h v' w' ?_ h2
    rw [icells_append, List.length_append]; exact h1
theorem wpO_appM {o : Oper} {a : Act} {K : Act → World → Prop} {Q : Exit → Act → World → Prop} (s x : Operand)
    (ho : o.op = .call { callee := .builtin .append, args := #[s, x], argTypes := #[26, 26] }) (W : World) (base g : Nat) (v : Value) (acc new : List Ms) (k c : Nat)
    (hs : a.eval s = v) (hx : a.eval x = .slice (some ⟨g, 0, none⟩) k c) (hown : W.ownsRow base 63 2 v acc.length (mcells acc)) (hcell : ∀ (j : Nat) u, (mcells new)[j]? = some u → W.cell? ⟨g, j, none⟩ = some u) (hk : new.length = k)
    (hb : acc.length + k ≤ 1048576) (hbase : base ≤ W.heap.size)
    (h : ∀ v' w', w'.ownsRow base 63 2 v' (acc ++ new).length (mcells (acc ++ new)) → W.grownBy w' v.ownBlock → K (a.put o.dst v') w') : Oper.wp Try.prog o a W K Q := by
  subst hk
  obtain ⟨i0, hi, hz0, hz1, hz2⟩ := info_parts infoMsg
  refine wp_append_own W s x 26 ho base 63 i0 (msV 0 0) 2 16 Try.underlying26 hi hz0 hz1 hz2 rfl (by decide) v acc.length (mcells acc) hs hown ⟨g, 0, none⟩ new.length c (mcells new) hx (by rw [mcells_length]) ?_ (mcells_one _) (by simp only [maxLen]; omega) (by omega) hbase ?_
  · intro j u hj
    have : (⟨g, 0, none⟩ : Addr).add j = ⟨g, j, none⟩ := by unfold Addr.add; split <;> simp_all
    rw [this]
    exact hcell j u hj
  · intro v' w' h1 h2 _
    refine h v' w' ?_ h2
    rw [mcells_append, List.length_append]; exact h1
theorem msgs_row {w : World} {base : Nat} {v : Value} {ms : List Ms} (h : w.ownsRow base 63 2 v ms.length (mcells ms)) : OwnM base w.heap.size w v ms := ownM_row h
theorem ints_row {w : World} {base : Nat} {v : Value} {xs : List Int} (h : w.ownsRow base 3 1 v xs.length (icells xs)) : OwnI base w.heap.size w v xs := ownI_row h
end Go.Proofs.Ytokicnopfmokaaa
namespace Go.Proofs.Ytokicnopfmokaaa
open Go.RowKit
set_option linter.unusedVariables false
set_option maxRecDepth 100000

theorem type_apart8 {w : World} {g g' : Nat} {c c' : Array Value} {t t' : TypeId} {z z' : Nat × Nat} (h : w.heap[g]? = some (.cells c t z)) (h' : w.heap[g']? = some (.cells c' t' z')) (hne : t ≠ t') : g ≠ g' := fun e => by
  rw [e, h'] at h
  simp only [Option.some.injEq, Obj.cells.injEq] at h
  exact hne h.2.1.symm
/-- A thing that is being drawn: its box, its two links, the cursor. -/
structure GrowC (V : World) (g s B lb : Nat) (o : Ob) (dv mv : Value) (wr : World) : Prop where
  cur : CurE wr g s
  grown : V.grownBy wr (some g)
  box : wr.heap[B]? = some (boxO o (.slice (some ⟨lb, 0, none⟩) 2 2) dv mv)
  row : RowIn wr lb o.ls []
  hs : s ≤ V.heap.size
  hB : V.heap.size ≤ B
  hl : V.heap.size ≤ lb
  l2 : o.ls.length = 2
  fit : Fits o
abbrev RowD (w : World) (lb : Nat) (v : Value) (xs : List Int) : Prop := w.ownsRow (lb + 1) 3 1 v xs.length (icells xs)
abbrev RowL (w V : World) (v : Value) (xs : List Int) : Prop := w.ownsRow V.heap.size 3 1 v xs.length (icells xs)
abbrev RowQ (w V : World) (v : Value) (ms : List Ms) : Prop := w.ownsRow V.heap.size 63 2 v ms.length (mcells ms)
theorem GrowC.lt {V : World} {g s B lb : Nat} {o : Ob} {dv mv : Value} {wr : World} (h : GrowC V g s B lb o dv mv wr) : g < V.heap.size := Nat.lt_of_lt_of_le h.cur.lt h.hs
theorem GrowC.by' {V : World} {g s B lb : Nat} {o : Ob} {dv mv : Value} {wr w' : World} (h : GrowC V g s B lb o dv mv wr) (hc : CurE w' g s) (hg : wr.grownBy w' (some g)) : GrowC V g s B lb o dv mv w' :=
  ⟨hc, grownBy_trans h.grown hg, grown_kept hg h.box (fun e => by have := h.lt; have := h.hB; have := Option.some.inj e; omega), grown_kept hg h.row (fun e => by have := h.lt; have := h.hl; have := Option.some.inj e; omega), h.hs, h.hB, h.hl, h.l2, h.fit⟩
/-- Another row of the call's own turns. -/
theorem GrowC.row_turns {V : World} {g s B lb : Nat} {o : Ob} {dv mv : Value} {wr w' : World} (h : GrowC V g s B lb o dv mv wr) {r : Option Nat} (hg : wr.grownBy w' r) (hr : ∀ k, r = some k → V.heap.size ≤ k ∧ k ≠ lb ∧ k ≠ B) : GrowC V g s B lb o dv mv w' :=
  ⟨h.cur.keep (fun k hk => hg.block k (by have := h.hs; have := h.grown.size; omega) (fun e => by have := (hr k e.symm).1; have := h.hs; omega)), grown8_own h.grown hg fun k e => (hr k e).1, grown_kept hg h.box (fun e => (hr B e).2.2 rfl), grown_kept hg h.row (fun e => (hr lb e).2.1 rfl), h.hs, h.hB, h.hl, h.l2, h.fit⟩
theorem GrowC.alloc {V : World} {g s B lb : Nat} {o : Ob} {dv mv : Value} {wr : World} (h : GrowC V g s B lb o dv mv wr) (x : Obj) : GrowC V g s B lb o dv mv (wr.alloc x) :=
  h.row_turns (r := none) (World.grownBy_alloc wr x none) (fun k e => by cases e)
theorem GrowC.link {V : World} {g s B lb : Nat} {o : Ob} {dv mv : Value} {wr : World} (h : GrowC V g s B lb o dv mv wr) {k : Nat} (hk : k < 2) (x : Int) : GrowC V g s B lb { o with ls := o.ls.set k x } dv mv (wr.setCell ⟨lb, k, none⟩ (.int .i64 x)) := by
  have hne : B ≠ lb := type_apart8 h.box h.row (by decide)
  exact ⟨h.cur.set _ _ _ (by have := h.hs; have := h.hl; omega), grownBy_new8 h.grown h.hl _ _, setCell_keep h.box hne, h.row.set k (by rw [h.l2]; exact hk) x, h.hs, h.hB, h.hl, by show (o.ls.set k x).length = 2; rw [List.length_set]; exact h.l2, h.fit⟩
theorem GrowC.data {V : World} {g s B lb : Nat} {o : Ob} {dv mv : Value} {wr : World} (h : GrowC V g s B lb o dv mv wr) (dv' : Value) (ds : List Int) : GrowC V g s B lb { o with ds := ds } dv' mv (wr.setCell ⟨B, 11, none⟩ dv') := by
  have hne : lb ≠ B := fun e => type_apart8 h.box h.row (by decide) e.symm
  refine ⟨h.cur.set _ _ _ (by have := h.hs; have := h.hB; omega), grownBy_new8 h.grown h.hB _ _, ?_, setCell_keep h.row hne, h.hs, h.hB, h.hl, h.l2, h.fit⟩
  rw [heap_setCell_same _ _ _ _ _ _ h.box]; simp
theorem GrowC.queue {V : World} {g s B lb : Nat} {o : Ob} {dv mv : Value} {wr : World} (h : GrowC V g s B lb o dv mv wr) (mv' : Value) (qs : List Ms) : GrowC V g s B lb { o with qs := qs } dv mv' (wr.setCell ⟨B, 12, none⟩ mv') := by
  have hne : lb ≠ B := fun e => type_apart8 h.box h.row (by decide) e.symm
  refine ⟨h.cur.set _ _ _ (by have := h.hs; have := h.hB; omega), grownBy_new8 h.grown h.hB _ _, ?_, setCell_keep h.row hne, h.hs, h.hB, h.hl, h.l2, h.fit⟩
  rw [heap_setCell_same _ _ _ _ _ _ h.box]; simp
theorem GrowC.wait {V : World} {g s B lb : Nat} {o : Ob} {dv mv : Value} {wr : World} (h : GrowC V g s B lb o dv mv wr) (x : Int) (hx : -9223372036854775808 ≤ x ∧ x ≤ 9223372036854775807) : GrowC V g s B lb { o with wait := x } dv mv (wr.setCell ⟨B, 6, none⟩ (.int .i64 x)) := by
  have hne : lb ≠ B := fun e => type_apart8 h.box h.row (by decide) e.symm
  refine ⟨h.cur.set _ _ _ (by have := h.hs; have := h.hB; omega), grownBy_new8 h.grown h.hB _ _, ?_, setCell_keep h.row hne, h.hs, h.hB, h.hl, h.l2, hx⟩
  rw [heap_setCell_same _ _ _ _ _ _ h.box]; simp
theorem GrowC.got {V : World} {g s B lb : Nat} {o : Ob} {dv mv : Value} {wr : World} (h : GrowC V g s B lb o dv mv wr) (x : Int) : GrowC V g s B lb { o with got := x } dv mv (wr.setCell ⟨B, 7, none⟩ (.int .i64 x)) := by
  have hne : lb ≠ B := fun e => type_apart8 h.box h.row (by decide) e.symm
  refine ⟨h.cur.set _ _ _ (by have := h.hs; have := h.hB; omega), grownBy_new8 h.grown h.hB _ _, ?_, setCell_keep h.row hne, h.hs, h.hB, h.hl, h.l2, h.fit⟩
  rw [heap_setCell_same _ _ _ _ _ _ h.box]; simp
theorem GrowC.ran {V : World} {g s B lb : Nat} {o : Ob} {dv mv : Value} {wr : World} (h : GrowC V g s B lb o dv mv wr) (x : Int) : GrowC V g s B lb { o with ran := x } dv mv (wr.setCell ⟨B, 8, none⟩ (.int .i64 x)) := by
  have hne : lb ≠ B := fun e => type_apart8 h.box h.row (by decide) e.symm
  refine ⟨h.cur.set _ _ _ (by have := h.hs; have := h.hB; omega), grownBy_new8 h.grown h.hB _ _, ?_, setCell_keep h.row hne, h.hs, h.hB, h.hl, h.l2, h.fit⟩
  rw [heap_setCell_same _ _ _ _ _ _ h.box]; simp
theorem GrowC.c0 {V : World} {g s B lb : Nat} {o : Ob} {dv mv : Value} {wr : World} (h : GrowC V g s B lb o dv mv wr) : wr.cell? ⟨B, 0, none⟩ = some (.int .i64 o.gen) := by simp [World.cell?, h.box]
theorem GrowC.c1 {V : World} {g s B lb : Nat} {o : Ob} {dv mv : Value} {wr : World} (h : GrowC V g s B lb o dv mv wr) : wr.cell? ⟨B, 1, none⟩ = some (.int .i64 o.kind) := by simp [World.cell?, h.box]
theorem GrowC.c2 {V : World} {g s B lb : Nat} {o : Ob} {dv mv : Value} {wr : World} (h : GrowC V g s B lb o dv mv wr) : wr.cell? ⟨B, 2, none⟩ = some (.int .i64 o.into) := by simp [World.cell?, h.box]
theorem GrowC.c3 {V : World} {g s B lb : Nat} {o : Ob} {dv mv : Value} {wr : World} (h : GrowC V g s B lb o dv mv wr) : wr.cell? ⟨B, 3, none⟩ = some (.int .i64 o.res) := by simp [World.cell?, h.box]
theorem GrowC.c4 {V : World} {g s B lb : Nat} {o : Ob} {dv mv : Value} {wr : World} (h : GrowC V g s B lb o dv mv wr) : wr.cell? ⟨B, 4, none⟩ = some (.int .i64 o.unt) := by simp [World.cell?, h.box]
theorem GrowC.c5 {V : World} {g s B lb : Nat} {o : Ob} {dv mv : Value} {wr : World} (h : GrowC V g s B lb o dv mv wr) : wr.cell? ⟨B, 5, none⟩ = some (.int .i64 o.pages) := by simp [World.cell?, h.box]
theorem GrowC.c6 {V : World} {g s B lb : Nat} {o : Ob} {dv mv : Value} {wr : World} (h : GrowC V g s B lb o dv mv wr) : wr.cell? ⟨B, 6, none⟩ = some (.int .i64 o.wait) := by simp [World.cell?, h.box]
theorem GrowC.c7 {V : World} {g s B lb : Nat} {o : Ob} {dv mv : Value} {wr : World} (h : GrowC V g s B lb o dv mv wr) : wr.cell? ⟨B, 7, none⟩ = some (.int .i64 o.got) := by simp [World.cell?, h.box]
theorem GrowC.c8 {V : World} {g s B lb : Nat} {o : Ob} {dv mv : Value} {wr : World} (h : GrowC V g s B lb o dv mv wr) : wr.cell? ⟨B, 8, none⟩ = some (.int .i64 o.ran) := by simp [World.cell?, h.box]
theorem GrowC.c9 {V : World} {g s B lb : Nat} {o : Ob} {dv mv : Value} {wr : World} (h : GrowC V g s B lb o dv mv wr) : wr.cell? ⟨B, 9, none⟩ = some (.bool o.mark) := by simp [World.cell?, h.box]
theorem GrowC.c10 {V : World} {g s B lb : Nat} {o : Ob} {dv mv : Value} {wr : World} (h : GrowC V g s B lb o dv mv wr) : wr.cell? ⟨B, 10, none⟩ = some (.slice (some ⟨lb, 0, none⟩) 2 2) := by simp [World.cell?, h.box]
theorem GrowC.c11 {V : World} {g s B lb : Nat} {o : Ob} {dv mv : Value} {wr : World} (h : GrowC V g s B lb o dv mv wr) : wr.cell? ⟨B, 11, none⟩ = some (dv) := by simp [World.cell?, h.box]
theorem GrowC.c12 {V : World} {g s B lb : Nat} {o : Ob} {dv mv : Value} {wr : World} (h : GrowC V g s B lb o dv mv wr) : wr.cell? ⟨B, 12, none⟩ = some (mv) := by simp [World.cell?, h.box]
theorem GrowC.free {V : World} {g s B lb : Nat} {o : Ob} {dv mv : Value} {wr : World} (h : GrowC V g s B lb o dv mv wr) (i : Nat) : wr.frozen? ⟨B, i, none⟩ = false := by simp [World.frozen?, h.box]
def LastS (iS : Nat) (A : (Nat → Bool) → (Nat → Value) → World → Prop) (B : (Nat → Value) → World → Prop) (L : Nat → Bool) (us : Nat → Value) (w : World) : Prop := (L iS = false ∧ A L us w) ∨ (L iS = true ∧ B us w)
theorem lastS_start {iS : Nat} {A : (Nat → Bool) → (Nat → Value) → World → Prop} {B : (Nat → Value) → World → Prop} {us : Nat → Value} {w : World} (h : A (fun _ => false) us w) : LastS iS A B (fun _ => false) us w := .inl ⟨rfl, h⟩
theorem lastS_open {iS : Nat} {A : (Nat → Bool) → (Nat → Value) → World → Prop} {B : (Nat → Value) → World → Prop} {L : Nat → Bool} {us : Nat → Value} {w : World} (h : LastS iS A B L us w) (hf : L iS = false) : A L us w := by
  rcases h with h | h
  · exact h.2
  · rw [hf] at h; cases h.1
theorem lastS_end {iS : Nat} {A : (Nat → Bool) → (Nat → Value) → World → Prop} {B : (Nat → Value) → World → Prop} {L : Nat → Bool} {us : Nat → Value} {w : World} (h : LastS iS A B L us w) (hf : L iS = true) : B us w := by
  rcases h with h | h
  · rw [hf] at h; cases h.1
  · exact h.2
theorem lastS_step {iS : Nat} {A : (Nat → Bool) → (Nat → Value) → World → Prop} {B : (Nat → Value) → World → Prop} {L : Nat → Bool} {us' : Nat → Value} {w : World} {i : Nat} (hi : iS ≠ i) (hf : L iS = false) (h : A (markd L i) us' w) : LastS iS A B (markd L i) us' w := .inl ⟨by rw [markd_other L hi]; exact hf, h⟩
theorem lastS_late {iS : Nat} {A : (Nat → Bool) → (Nat → Value) → World → Prop} {B : (Nat → Value) → World → Prop} {L : Nat → Bool} {us' : Nat → Value} {w : World} {i : Nat} (hi : iS ≠ i) (hf : L iS = true) (h : B us' w) : LastS iS A B (markd L i) us' w := .inr ⟨by rw [markd_other L hi]; exact hf, h⟩
theorem lastS_last {iS : Nat} {A : (Nat → Bool) → (Nat → Value) → World → Prop} {B : (Nat → Value) → World → Prop} {L : Nat → Bool} {us : Nat → Value} {w : World} (h : B us w) : LastS iS A B (markd L iS) us w := .inr ⟨markd_same L iS, h⟩
end Go.Proofs.Ytokicnopfmokaaa
namespace Go.Proofs.Ytokicnopfmokaaa
open Go.RowKit
set_option linter.unusedVariables false
set_option maxRecDepth 100000

/-- A thing was drawn, its lists the call's own. -/
def NewDrawn (w : World) (g s : Nat) (e : Ending) (w' : World) : Prop := ∃ o l d m, e = .returned (obV o l d m) ∧ OwnO w.heap.size w'.heap.size w' l d m o ∧ obN o ≤ 12 ∧ Fits o ∧ CurE w' g s ∧ w.grownBy w' (some g)
theorem row_one8 (w : World) (x : Int) : (w.alloc (.cells #[.int .i64 x] 3 (0, 0))).ownsRow w.heap.size 3 1 (.slice (some ⟨w.heap.size, 0, none⟩) 1 1) 1 (icells [x]) :=
  ⟨by simp [icells], .inr ⟨w.heap.size, 1, #[.int .i64 x], rfl, Nat.le_refl _, heap_alloc_new w _, Nat.le_refl _, by simp [maxLen], by simp, by simp [icells]⟩⟩
theorem two_new (w : World) (x y : Int) : ∀ (j : Nat) u, (icells [x, y])[j]? = some u → (w.alloc (.cells #[.int .i64 x, .int .i64 y] 3 (0, 0))).cell? ⟨w.heap.size, j, none⟩ = some u := fun j u hj => by
  have := heap_alloc_new w (.cells #[.int .i64 x, .int .i64 y] 3 (0, 0))
  simp only [World.cell?, this]
  simpa [icells] using hj
theorem row_four8 (w : World) (a b c d : Int) : (w.alloc (.cells #[.int .i64 a, .int .i64 b, .int .i64 c, .int .i64 d] 3 (0, 0))).ownsRow w.heap.size 3 1 (.slice (some ⟨w.heap.size, 0, none⟩) 4 4) 4 (icells [a, b, c, d]) :=
  ⟨by simp [icells], .inr ⟨w.heap.size, 4, #[.int .i64 a, .int .i64 b, .int .i64 c, .int .i64 d], rfl, Nat.le_refl _, heap_alloc_new w _, Nat.le_refl _, by simp [maxLen], by simp, by simp [icells]⟩⟩
theorem GrowC.on {V : World} {g s B lb : Nat} {o : Ob} {dv mv : Value} {wr w' : World} (h : GrowC V g s B lb o dv mv wr) (hb : Below wr.heap.size wr w') : GrowC V g s B lb o dv mv w' :=
  ⟨h.cur.below (hb.mono (by have := h.hs; have := h.grown.size; omega)), grown8_then h.grown hb h.grown.size, keep h.box hb, keep h.row hb, h.hs, h.hB, h.hl, h.l2, h.fit⟩
theorem flat_turn {Base2 : World → Prop} {G G2 : Nat → Value → World → Prop} {L : Nat → Bool} {us : Nat → Value} {w w' : World} {i : Nat} {v : Value} (hB : Base2 w') (hk : ∀ j u, j ≠ i → G j u w → G2 j u w') (hG : ∀ j, L j = true → G j (us j) w) (hi : G2 i v w') : Flat Base2 G2 (markd L i) (useAt us i v) w' :=
  ⟨hB, fun j hj => by
    by_cases h : j = i
    · subst h; rw [use_same]; exact hi
    · rw [markd_other L h] at hj; rw [use_other us v h]; exact hk _ _ h (hG j hj)⟩
theorem row_not_box {w : World} {base B : Nat} {e : TypeId} {size : Nat} {v : Value} {n : Nat} {xs : List Value} {c : Array Value} {t : TypeId} {z : Nat × Nat} (h : w.ownsRow base e size v n xs) (hb : w.heap[B]? = some (.cells c t z)) (hne : e ≠ t) {k : Nat} (hk : v.ownBlock = some k) : k ≠ B := by
  rcases h.2 with ⟨hv, _⟩ | ⟨g', cap, cur, hv, _, hg', _⟩
  · rw [hv] at hk; simp [Value.ownBlock] at hk
  · rw [hv] at hk
    simp [Value.ownBlock] at hk
    subst hk
    exact type_apart8 hg' hb hne
theorem grown_w13 {w wr : World} {g b : Nat} (h : w.grownBy wr (some g)) (hb : w.heap.size ≤ b) (i : Nat) (o : Ob) (l d m : Value) : w.grownBy (w13 wr b i o l d m) (some g) := by
  unfold w13
  exact grownBy_new8 (grownBy_new8 (grownBy_new8 (grownBy_new8 (grownBy_new8 (grownBy_new8 (grownBy_new8 (grownBy_new8 (grownBy_new8 (grownBy_new8 (grownBy_new8 (grownBy_new8 (grownBy_new8 h hb _ _) hb _ _) hb _ _) hb _ _) hb _ _) hb _ _) hb _ _) hb _ _) hb _ _) hb _ _) hb _ _) hb _ _) hb _ _
theorem blk_ints {lo hi : Nat} {w : World} {v : Value} {xs : List Int} (h : OwnI lo hi w v xs) : Go.Proofs.Ytokicnopfmokaaa.blk v = [] ∨ ∃ b rs, Go.Proofs.Ytokicnopfmokaaa.blk v = [b] ∧ lo ≤ b ∧ RowIn w b xs rs := by
  obtain ⟨a, c, rfl, hc, hx⟩ := h
  by_cases h0 : c = 0
  · left; rw [h0, blk_nil]
  · obtain ⟨b, rs, rfl, hl, _, hr, _⟩ := hx h0
    exact .inr ⟨b, rs, blk_one _ h0, hl, hr⟩
theorem blk_msgs {lo hi : Nat} {w : World} {v : Value} {xs : List Ms} (h : OwnM lo hi w v xs) : Go.Proofs.Ytokicnopfmokaaa.blk v = [] ∨ ∃ b rs, Go.Proofs.Ytokicnopfmokaaa.blk v = [b] ∧ lo ≤ b ∧ MsgIn w b xs rs := by
  obtain ⟨a, c, rfl, hc, hx⟩ := h
  by_cases h0 : c = 0
  · left; rw [h0, blk_nil]
  · obtain ⟨b, rs, rfl, hl, _, hr, _⟩ := hx h0
    exact .inr ⟨b, rs, blk_one _ h0, hl, hr⟩
theorem new_done {w V : World} {g s B lb : Nat} {o : Ob} {dv mv : Value} {wr : World} (hV : V.heap.size = w.heap.size + 1) (hz : V.heap[w.heap.size]? = some (boxO noOb (.slice none 0 0) (.slice none 0 0) (.slice none 0 0))) (hgv : w.grownBy V (some g)) (h : GrowC V g s B lb o dv mv wr) (hs : s ≤ w.heap.size) (hd : RowD wr lb dv o.ds) (hq : RowQ wr V mv o.qs) (h1 : o.ds.length ≤ 8) (h2 : o.qs.length ≤ 2) :
    (w13 wr w.heap.size 0 o (.slice (some ⟨lb, 0, none⟩) 2 2) dv mv).heap[w.heap.size]? = some (boxO o (.slice (some ⟨lb, 0, none⟩) 2 2) dv mv) ∧ OwnO w.heap.size (w13 wr w.heap.size 0 o (.slice (some ⟨lb, 0, none⟩) 2 2) dv mv).heap.size (w13 wr w.heap.size 0 o (.slice (some ⟨lb, 0, none⟩) 2 2) dv mv) (.slice (some ⟨lb, 0, none⟩) 2 2) dv mv o ∧ obN o ≤ 12 ∧ Fits o ∧ CurE (w13 wr w.heap.size 0 o (.slice (some ⟨lb, 0, none⟩) 2 2) dv mv) g s ∧ w.grownBy (w13 wr w.heap.size 0 o (.slice (some ⟨lb, 0, none⟩) 2 2) dv mv) (some g) := by
  have hgl : g < w.heap.size := Nat.lt_of_lt_of_le h.cur.lt hs
  have hz2 : wr.heap[w.heap.size]? = some (boxO noOb (.slice none 0 0) (.slice none 0 0) (.slice none 0 0)) := grown_kept h.grown hz (fun e => by have := Option.some.inj e; omega)
  have hl := h.hl
  have OL : OwnI lb wr.heap.size wr (.slice (some ⟨lb, 0, none⟩) 2 2) o.ls := ⟨_, 2, by rw [h.l2], by rw [h.l2]; omega, fun _ => ⟨lb, [], rfl, Nat.le_refl _, lt_of_block h.row, h.row, by rw [h.l2]; rfl, by simp only [maxLen]; omega⟩⟩
  have OD := ints_row hd
  have OM := msgs_row hq
  have hnd : (Go.Proofs.Ytokicnopfmokaaa.blk (.slice (some ⟨lb, 0, none⟩) 2 2) ++ Go.Proofs.Ytokicnopfmokaaa.blk dv ++ Go.Proofs.Ytokicnopfmokaaa.blk mv).Nodup := by
    have e1 : Go.Proofs.Ytokicnopfmokaaa.blk (.slice (some ⟨lb, 0, none⟩) 2 2) = [lb] := blk_one _ (by omega)
    rw [e1]
    rcases blk_ints OD with ed | ⟨b, rs, ed, hb, hr⟩ <;> rcases blk_msgs OM with em | ⟨b', rs', em, hb', hr'⟩ <;> rw [ed, em]
    · simp
    · have := type_apart8 h.row hr' (by decide)
      simp [this]
    · have : lb ≠ b := by omega
      simp [this]
    · have t1 := type_apart8 h.row hr' (by decide)
      have t2 := type_apart8 hr hr' (by decide)
      have t3 : lb ≠ b := by omega
      simp [t1, t2, t3]
  refine ⟨heap_w13_new hz2 _ _ _ _, ?_, by unfold obN; rw [h.l2]; omega, h.fit, h.cur.below (below_w13 (Below.refl _ _) hs _ _ _ _ _), grown_w13 (grownBy_trans hgv h.grown) (Nat.le_refl _) _ _ _ _ _⟩
  rw [size_w13]
  have mv' : ∀ k x, V.heap.size ≤ k → wr.heap[k]? = some x → (w13 wr w.heap.size 0 o (.slice (some ⟨lb, 0, none⟩) 2 2) dv mv).heap[k]? = some x := fun k x hk hx => heap_w13_other hx (by omega) _ _ _ _ _
  exact ⟨OL.move (fun k x h1 _ hx => mv' k x (by omega) hx) (by omega) (Nat.le_refl _), OD.move (fun k x h1 _ hx => mv' k x (by omega) hx) (by omega) (Nat.le_refl _), OM.move (fun k x h1 _ hx => mv' k x (by omega) hx) (by omega) (Nat.le_refl _), hnd⟩
/-- What the region leaves that sets a link. -/
def gLnk (vs : List Value) (i : Nat) (u : Value) (w : World) : Prop := match i with
  | 5 => ∃ v : Int, u = .int .i64 v
  | i => u = vs.getD i undef
theorem gLnk_any {vs : List Value} {w w' : World} (i : Nat) (u : Value) (h : gLnk vs i u w) : gLnk vs i u w' := by
  unfold gLnk at h ⊢
  split
  · exact h
  · rename_i hne
    split at h
    · exact absurd rfl hne
    · exact h
/-- Ahead of operation j one relation, behind it another. -/
def Two9 (j : Nat) (A A2 : (Nat → Bool) → (Nat → Value) → World → Prop) (L : Nat → Bool) (us : Nat → Value) (w : World) : Prop := (L j = false ∧ A L us w) ∨ (L j = true ∧ A2 L us w)
theorem two_open {j : Nat} {A A2 : (Nat → Bool) → (Nat → Value) → World → Prop} {L : Nat → Bool} {us : Nat → Value} {w : World} (h : Two9 j A A2 L us w) (hf : L j = false) : A L us w := by
  rcases h with h | h
  · exact h.2
  · rw [hf] at h; cases h.1
theorem two_late {j : Nat} {A A2 : (Nat → Bool) → (Nat → Value) → World → Prop} {L : Nat → Bool} {us : Nat → Value} {w : World} (h : Two9 j A A2 L us w) (hf : L j = true) : A2 L us w := by
  rcases h with h | h
  · rw [hf] at h; cases h.1
  · exact h.2
theorem two_step {j i : Nat} {A A2 : (Nat → Bool) → (Nat → Value) → World → Prop} {L : Nat → Bool} {us' : Nat → Value} {w : World} (hi : j ≠ i) (hf : L j = false) (h : A (markd L i) us' w) : Two9 j A A2 (markd L i) us' w := .inl ⟨by rw [markd_other L hi]; exact hf, h⟩
theorem two_after {j i : Nat} {A A2 : (Nat → Bool) → (Nat → Value) → World → Prop} {L : Nat → Bool} {us' : Nat → Value} {w : World} (hi : j ≠ i) (hf : L j = true) (h : A2 (markd L i) us' w) : Two9 j A A2 (markd L i) us' w := .inr ⟨by rw [markd_other L hi]; exact hf, h⟩
theorem two_turn {j : Nat} {A A2 : (Nat → Bool) → (Nat → Value) → World → Prop} {L : Nat → Bool} {us' : Nat → Value} {w : World} (h : A2 (markd L j) us' w) : Two9 j A A2 (markd L j) us' w := .inr ⟨markd_same L j, h⟩
/-- What the region leaves ahead of its append that draws a number of a segment. -/
def gDat (V : World) (vs : List Value) (i : Nat) (u : Value) (w : World) : Prop := match i with
  | 3 => ∃ v : Int, u = .int .i64 v
  | 4 => ∃ b v, u = .slice (some ⟨b, 0, none⟩) 1 1 ∧ V.heap.size ≤ b ∧ w.heap[b]? = some (.cells #[.int .i64 v] 3 (0, 0))
  | i => u = vs.getD i undef
/-- And behind it. -/
def gDat2 (lb : Nat) (ds : List Int) (B : Nat) (i : Nat) (u : Value) (w : World) : Prop := match i with
  | 5 => ∃ v : Int, w.ownsRow (lb + 1) 3 1 u (ds ++ [v]).length (icells (ds ++ [v]))
  | 6 => u = .pointer (some ⟨B, 11, none⟩)
  | _ => True
theorem gDat_on {V : World} {vs : List Value} {w w' : World} (hb : Below w.heap.size w w') (i : Nat) (u : Value) (h : gDat V vs i u w) : gDat V vs i u w' := by
  unfold gDat at h ⊢
  split
  · exact h
  · obtain ⟨b, v, h1, h2, h3⟩ := h; exact ⟨b, v, h1, h2, keep h3 hb⟩
  · rename_i h3 h4
    split at h
    · exact absurd rfl h3
    · exact absurd rfl h4
    · exact h
theorem gDat_by {V : World} {vs : List Value} {w w' : World} {g : Nat} (hg : w.grownBy w' (some g)) (hlt : g < V.heap.size) (i : Nat) (u : Value) (h : gDat V vs i u w) : gDat V vs i u w' := by
  unfold gDat at h ⊢
  split
  · exact h
  · obtain ⟨b, v, h1, h2, h3⟩ := h; exact ⟨b, v, h1, h2, grown_kept hg h3 (fun e => by have := Option.some.inj e; omega)⟩
  · rename_i h3 h4
    split at h
    · exact absurd rfl h3
    · exact absurd rfl h4
    · exact h
/-- What the region leaves ahead of its append that draws a message. -/
def gQue (V : World) (vs : List Value) (i : Nat) (u : Value) (w : World) : Prop := match i with
  | 3 => w.ownsRow V.heap.size 3 1 u 4 (icells [-1, 3, 33, 36])
  | 4 => ∃ v : Int, u = .int .i64 v
  | 6 => ∃ v : Int, u = .int .i64 v
  | 7 => ∃ x y : Int, u = msV x y
  | 8 => ∃ b x y, u = .slice (some ⟨b, 0, none⟩) 1 1 ∧ V.heap.size ≤ b ∧ w.heap[b]? = some (.cells #[.int .i64 x, .int .i64 y] 63 (0, 0))
  | i => u = vs.getD i undef
def gQue2 (V : World) (qs : List Ms) (B : Nat) (i : Nat) (u : Value) (w : World) : Prop := match i with
  | 9 => ∃ v : Ms, w.ownsRow V.heap.size 63 2 u (qs ++ [v]).length (mcells (qs ++ [v]))
  | 10 => u = .pointer (some ⟨B, 12, none⟩)
  | _ => True
theorem gQue_on {V : World} {vs : List Value} {w w' : World} (hb : Below w.heap.size w w') (i : Nat) (u : Value) (h : gQue V vs i u w) : gQue V vs i u w' := by
  unfold gQue at h ⊢
  split
  · exact row_on8 h hb
  · exact h
  · exact h
  · exact h
  · obtain ⟨b, x, y, h1, h2, h3⟩ := h; exact ⟨b, x, y, h1, h2, keep h3 hb⟩
  · rename_i a1 a2 a3 a4 a5
    split at h
    · exact absurd rfl a1
    · exact absurd rfl a2
    · exact absurd rfl a3
    · exact absurd rfl a4
    · exact absurd rfl a5
    · exact h
theorem gQue_by {V : World} {vs : List Value} {w w' : World} {g : Nat} (hg : w.grownBy w' (some g)) (hlt : g < V.heap.size) (i : Nat) (u : Value) (h : gQue V vs i u w) : gQue V vs i u w' := by
  unfold gQue at h ⊢
  split
  · exact row_by h hg hlt
  · exact h
  · exact h
  · exact h
  · obtain ⟨b, x, y, h1, h2, h3⟩ := h; exact ⟨b, x, y, h1, h2, grown_kept hg h3 (fun e => by have := Option.some.inj e; omega)⟩
  · rename_i a1 a2 a3 a4 a5
    split at h
    · exact absurd rfl a1
    · exact absurd rfl a2
    · exact absurd rfl a3
    · exact absurd rfl a4
    · exact absurd rfl a5
    · exact h
set_option maxRecDepth 100000 in
set_option maxHeartbeats 16000000 in
theorem l8NewN_any (n0 : Nat) (hn0 : n0 ≤ 10) (w : World) (g s : Nat) (p : Addr) (cap : Nat) (os : List Ob) (hcu : CurE w g s) (hs : s ≤ w.heap.size) (hx : IsArena w (.slice (some p) n0 cap) os) (hl : os.length = n0) :
    Calls Try.prog 17 #[.pointer (some ⟨g, 0, none⟩), .slice (some p) n0 cap] w fun e w' => NewDrawn w g s e w' := by
  obtain ⟨V, hV⟩ : ∃ V, V = w.alloc (boxO noOb (.slice none 0 0) (.slice none 0 0) (.slice none 0 0)) := ⟨_, rfl⟩
  have hz : V.heap.size = w.heap.size + 1 := by rw [hV]; simp
  have HX : Hid (∀ w', Below V.heap.size V w' → IsArena w' (.slice (some p) n0 cap) os) := fun w' hb => (hx.on (by rw [hV]; exact below_alloc w _)).on hb
  have HL : Hid (os.length = n0) := hl
  have HN0 : Hid (n0 ≤ 10) := hn0
  have HCU : Hid (CurE V g s) := by rw [hV]; exact hcu.alloc _ hs
  have HS : Hid (s ≤ V.heap.size) := by show _ ≤ _; omega
  have HSW : Hid (s ≤ w.heap.size) := hs
  have HV : Hid (V.heap[w.heap.size]? = some (boxO noOb (.slice none 0 0) (.slice none 0 0) (.slice none 0 0)) ∧ V.heap.size = w.heap.size + 1 ∧ w.grownBy V (some g)) := ⟨by rw [hV]; exact heap_alloc_new w _, hz, by rw [hV]; exact World.grownBy_alloc w _ _⟩
  have hcap : n0 ≤ cap := by obtain ⟨_, _, hv, h, _⟩ := hx; have e := (Value.slice.inj hv).2.2; omega
  have HO0 : Hid ((V.alloc (.cells #[.int .i64 (-1)] 3 (0, 0))).ownsRow V.heap.size 3 1 (.slice (some ⟨w.heap.size + 1, 0, none⟩) 1 1) 1 (icells [-1])) := by have e := row_one8 V (-1); rw [hz] at e ⊢; exact e
  have HB0 : Hid (Below V.heap.size V (V.alloc (.cells #[.int .i64 (-1)] 3 (0, 0)))) := below_alloc V _
  have HVE := hid_of hV
  clear hx hl hcu hs hz hV
  go_enter Try.func17, Try.ntmps17
  go_wp2
  go_loopw [6, 5] (fun s6 s5 wr => ∃ (k : Nat) (xs : List Int), s6 = .int .i64 k ∧ k ≤ n0 ∧ xs.length ≤ 1 + 2 * k ∧ 0 < xs.length ∧ Hid (wr.ownsRow V.heap.size 3 1 s5 xs.length (icells xs)) ∧ Hid (Below V.heap.size V wr)) (fun s6 _ _ => n0 - (intOf s6).toNat)
  case atStart => exact ⟨0, [-1], rfl, by omega, by simp, by simp, by have e := HO0; rw [HVE.out] at e ⊢; exact e, by have e := HB0; rw [HVE.out] at e ⊢; exact e⟩
  case round =>
    obtain ⟨k, xs, rfl, hk, hxk, hx0, HO, HB⟩ := hrel
    clear HO0 HB0 HVE
    by_cases hlt : k < n0
    · have hdk : decide ((k : Int) < (n0 : Int)) = true := by simp; omega
      have hdi : (k : Int) < (n0 : Int) := by omega
      obtain ⟨p', q, l, d, m, hp, hq, hcs, -⟩ := (HX.out wr HB.out).at (i := k) (by rw [HL.out]; exact hlt)
      obtain rfl : p = p' := by simpa using hp
      have c1 := hcs.c1
      clear hp hcs
      generalize (obAt os k).kind = y at c1
      cases hkz : (y != 0) with
      | false =>
        go_wp2
        go_roundw
        case rel => exact ⟨k + 1, xs, by go_num, by omega, by omega, by omega, HO, HB⟩
        case measure => simp [intOf]; omega
      | true =>
        have H1 : Hid ((wr.alloc (.cells #[.int .i64 (k : Int), .int .i64 (k : Int)] 3 (0, 0))).ownsRow V.heap.size 3 1 u5 xs.length (icells xs)) := HO.out.alloc _
        have H2 := hid_of (two_new wr (k : Int) (k : Int))
        have H3 : Hid (Below V.heap.size V (wr.alloc (.cells #[.int .i64 (k : Int), .int .i64 (k : Int)] 3 (0, 0)))) := HB.out.alloc HB.out.size _
        have H4 : Hid (V.heap.size ≤ (wr.alloc (.cells #[.int .i64 (k : Int), .int .i64 (k : Int)] 3 (0, 0))).heap.size) := H3.out.size
        clear HO HB
        go_wp2_with (at_builtin; refine wpList_appI rfl (.tmp 24) (.tmp 27) rfl V _ V.heap.size wr.heap.size _ xs [(k : Int), (k : Int)] 2 2 rfl rfl H1.out H2.out rfl (by omega) H4.out H3.out ?_; intro v' w3 hown' hnx')
        go_roundw
        case rel => exact ⟨k + 1, xs ++ [(k : Int), (k : Int)], by go_num, by omega, by simp; omega, by simp, hown', hnx'⟩
        case measure => simp [intOf]; omega
    · obtain rfl : n0 = k := by omega
      have hdk : decide ((n0 : Int) < (n0 : Int)) = false := by simp
      obtain ⟨W1, hW1⟩ : ∃ W1, W1 = wr := ⟨_, rfl⟩
      subst hW1
      have HN : Hid (0 < xs.length ∧ xs.length ≤ 21) := ⟨hx0, by have := HN0.out; omega⟩
      have HC1 : Hid (CurE W1 g s) := HCU.out.below (HB.out.mono HS.out)
      have HG1 : Hid (V.grownBy W1 (some g)) := grown8_then (World.grownBy.refl _ _) HB.out (Nat.le_refl _)
      have HGV : Hid (g < V.heap.size) := Nat.lt_of_lt_of_le HCU.out.lt HS.out
      obtain ⟨lv, hlv⟩ : ∃ lv, lv = u5 := ⟨_, rfl⟩
      subst hlv
      clear hxk hx0 HB HCU
      go_wp2_with fail
      refine (belowE W1 g s 4 HC1.out (by omega) (by omega)).mono ?_
      rintro e w2 ⟨v1, rfl, hv1, hc, hg⟩
      have HC2 := hid_of hc
      have HG2 := hid_of (grownBy_trans HG1.out hg)
      have HO2 := hid_of (row_by HO.out hg HGV.out)
      have hw1 : wrap64 (1 + (v1 : Int)) = 1 + (v1 : Int) := by unfold wrap64; omega
      clear hc hg HC1 HG1 HO
      go_wp2_with fail
      refine (pickE2 w2 g s V.heap.size lv xs HC2.out HO2.out HS.out HN.out.1 (by have := HN.out.2; omega)).mono ?_
      rintro e w3 ⟨⟨v2, rfl, _⟩, hc, hg⟩
      have HC3 := hid_of hc
      have HG3 := hid_of (grownBy_trans HG2.out hg)
      have HO3 := hid_of (row_by HO2.out hg HGV.out)
      clear hc hg HC2 HG2 HO2
      go_wp2_with fail
      refine (belowE w3 g s 5 HC3.out (by omega) (by omega)).mono ?_
      rintro e w4 ⟨v3, rfl, hv3, hc, hg⟩
      have HC4 := hid_of hc
      have HG4 := hid_of (grownBy_trans HG3.out hg)
      have HO4 := hid_of (row_by HO3.out hg HGV.out)
      clear hc hg HC3 HG3 HO3
      go_wp2_with fail
      refine (belowE w4 g s 30 HC4.out (by omega) (by omega)).mono ?_
      rintro e w5 ⟨v4, rfl, hv4, hc, hg⟩
      have HC5 := hid_of hc
      have HG5 := hid_of (grownBy_trans HG4.out hg)
      have HO5 := hid_of (row_by HO4.out hg HGV.out)
      have hw4 : wrap64 (1 + (v4 : Int)) = 1 + (v4 : Int) := by unfold wrap64; omega
      clear hc hg HC4 HG4 HO4
      go_wp2_with fail
      refine (belowE w5 g s 4 HC5.out (by omega) (by omega)).mono ?_
      rintro e w6 ⟨v5, rfl, hv5, hc, hg⟩
      have HC6 := hid_of (hc.alloc (.cells #[.int .i64 (-1), .int .i64 (-1)] 3 (0, 0)) (by have := hg.size; have := HG5.out.size; have := HS.out; omega))
      have HG6 := hid_of (grownBy_trans (grownBy_trans HG5.out hg) (World.grownBy_alloc w6 (.cells #[.int .i64 (-1), .int .i64 (-1)] 3 (0, 0)) (some g)))
      have HO6 := hid_of ((row_by HO5.out hg HGV.out).alloc (.cells #[.int .i64 (-1), .int .i64 (-1)] 3 (0, 0)))
      have HLB : Hid (V.heap.size ≤ w6.heap.size ∧ ∀ b, lv.ownBlock = some b → b < w6.heap.size) := ⟨by have := hg.size; have := HG5.out.size; show _ ≤ _; omega, fun b hb => ((row_by HO5.out hg HGV.out).lt b hb).2⟩
      have HR6 : Hid (RowIn (w6.alloc (.cells #[.int .i64 (-1), .int .i64 (-1)] 3 (0, 0))) w6.heap.size [-1, -1] []) := heap_alloc_new w6 _
      clear hc hg HC5 HG5 HO5
      go_wp2_with fail
      refine (onceE (w6.alloc (.cells #[.int .i64 (-1), .int .i64 (-1)] 3 (0, 0))) g s 3 HC6.out (by omega) (by omega)).mono ?_
      rintro e w7 ⟨b6, rfl, hc, hg⟩
      have HC7 := hid_of hc
      have HG7 := hid_of (grownBy_trans HG6.out hg)
      have HO7 := hid_of (row_by HO6.out hg HGV.out)
      have HR7 : Hid (RowIn w7 w6.heap.size [-1, -1] []) := grown_kept hg HR6.out (fun e => by have := HGV.out; have := HLB.out.1; have := Option.some.inj e; omega)
      have HZ7 : Hid (w6.heap.size < w7.heap.size) := by have e := hg.size; simp at e; show _ < _; omega
      obtain ⟨lb, hlb⟩ : ∃ lb, lb = w6.heap.size := ⟨_, rfl⟩
      rw [← hlb] at HLB HR7 HZ7
      rw [← hlb]
      clear hc hg HC6 HG6 HO6 HR6 hlb
      have HB7 : Hid (GrowC V g s w7.heap.size lb ⟨0, 1 + (v1 : Int), v2, v3, 1 + (v4 : Int), v5, 0, 0, 0, b6, [-1, -1], [], []⟩ (.slice none 0 0) (.slice none 0 0) (w7.alloc (.cells #[.int .i64 0, .int .i64 (1 + (v1 : Int)), .int .i64 v2, .int .i64 v3, .int .i64 (1 + (v4 : Int)), .int .i64 v5, .int .i64 0, .int .i64 0, .int .i64 0, .bool b6, .slice (some ⟨lb, 0, none⟩) 2 2, .slice none 0 0, .slice none 0 0] 28 (0, 0)))) :=
        ⟨HC7.out.alloc _ (by have := HS.out; have := HG7.out.size; omega), grownBy_trans HG7.out (World.grownBy_alloc w7 _ _), heap_alloc_new w7 _, keep HR7.out (below_alloc w7 _), HS.out, HG7.out.size, HLB.out.1, rfl, by unfold Fits; simp⟩
      have HO8 : Hid (RowL (w7.alloc (.cells #[.int .i64 0, .int .i64 (1 + (v1 : Int)), .int .i64 v2, .int .i64 v3, .int .i64 (1 + (v4 : Int)), .int .i64 v5, .int .i64 0, .int .i64 0, .int .i64 0, .bool b6, .slice (some ⟨lb, 0, none⟩) 2 2, .slice none 0 0, .slice none 0 0] 28 (0, 0))) V lv xs) := HO7.out.alloc _
      obtain ⟨B, hBe⟩ : ∃ B, B = w7.heap.size := ⟨_, rfl⟩
      rw [← hBe] at HB7
      have HBE := hid_of hBe
      clear HC7 HG7 HO7 HR7 HZ7
      go_wp2
      rw [← HBE.out]
      go_loopw [8] (fun s8 wr => ∃ k : Nat, k ≤ 2 ∧ s8 = .int .i64 k ∧ Hid (∃ o, GrowC V g s B lb o (.slice none 0 0) (.slice none 0 0) wr ∧ RowL wr V lv xs ∧ o.kind = 1 + (v1 : Int) ∧ o.pages = (v5 : Int) ∧ o.ds = [] ∧ o.qs = [])) (fun s8 _ => 2 - (intOf s8).toNat)
      case atStart => exact ⟨0, by omega, rfl, _, HB7.out, HO8.out, rfl, rfl, rfl, rfl⟩
      case round =>
        obtain ⟨k, hk, rfl, hin⟩ := hrel
        clear HB7 HO8 HBE hBe
        obtain ⟨o, hg, hlr, hok, hop, hod, hoq⟩ := hin.out
        have HOB : Hid (o.kind = 1 + (v1 : Int) ∧ o.pages = (v5 : Int) ∧ o.ds = [] ∧ o.qs = []) := ⟨hok, hop, hod, hoq⟩
        by_cases hlt : k < 2
        · have C := onceE wr g s 3 hg.cur (by omega) (by omega)
          have HK2 : Hid ((k : Int) < 2) := by show (k : Int) < 2; omega
          have HG0 := hid_of hg
          have HL0 := hid_of hlr
          clear hg hlr hok hop hod hoq hin
          go_wp2_with fail
          refine C.mono ?_
          rintro e w8 ⟨bb, rfl, hc, hgr⟩
          have HGW : Hid (GrowC V g s B lb o (.slice none 0 0) (.slice none 0 0) w8 ∧ RowL w8 V lv xs) := ⟨HG0.out.by' hc hgr, row_by HL0.out hgr HGV.out⟩
          clear C hc hgr HG0 HL0
          cases bb with
          | false =>
            have HZ : Hid (∃ o', GrowC V g s B lb o' (.slice none 0 0) (.slice none 0 0) w8 ∧ RowL w8 V lv xs ∧ o'.kind = 1 + (v1 : Int) ∧ o'.pages = (v5 : Int) ∧ o'.ds = [] ∧ o'.qs = []) := ⟨o, HGW.out.1, HGW.out.2, HOB.out⟩
            clear HGW HOB
            go_wp2
            go_roundw
            case rel => exact ⟨k + 1, by omega, by go_num, HZ⟩
            case measure => simp [intOf]; omega
          | true =>
            go_wp2_with fail
            refine wp_region_whole (by kernel_rfl) (by kernel_rfl) (by kernel_rfl) (by kernel_rfl) (LastS 7 (Flat (fun wz => GrowC V g s B lb o (.slice none 0 0) (.slice none 0 0) wz ∧ RowL wz V lv xs) (gLnk [.pointer (some ⟨B, 10, none⟩), .slice (some ⟨lb, 0, none⟩) 2 2, .int .i64 k, .pointer (some ⟨g, 0, none⟩), lv, undef, .pointer (some ⟨lb, k, none⟩), undef])) (fun _ wz => ∃ o', GrowC V g s B lb o' (.slice none 0 0) (.slice none 0 0) wz ∧ RowL wz V lv xs ∧ o'.kind = o.kind ∧ o'.pages = o.pages ∧ o'.ds = o.ds ∧ o'.qs = o.qs)) (fun us => lastS_start (flat_start ⟨HGW.out.1.on (below_draw _), row_on8 HGW.out.2 (below_draw _)⟩ us)) ?_ ?_
            · refine ⟨?_, ?_, ?_, ?_, ?_, ?_, ?_, ?_, trivial⟩
              · intro b0 us wz L hslot hoth hLi hRR hcl hdo K hK
                have hsf7 : L 7 = false := by
                  cases h : L 7 with
                  | false => rfl
                  | true => first | (rw [done_at (hcl 7 _ rfl h) 0 (by rfl)] at hLi; cases hLi) | (rw [done_at (hcl 6 _ rfl (done_at (hcl 7 _ rfl h) 6 (by rfl))) 0 (by rfl)] at hLi; cases hLi) | (rw [done_at (hcl 5 _ rfl (done_at (hcl 7 _ rfl h) 5 (by rfl))) 0 (by rfl)] at hLi; cases hLi)
                have hR := lastS_open hRR hsf7
                have s7 : b0.tmps.getD 7 undef = .pointer (some ⟨B, 0, none⟩) := hoth 7 (by rfl)
                clear hslot hoth hdo hcl hLi
                refine guard_none (by rfl) ?_
                go_simp
                exact hK _ _ (lastS_step (by decide) hsf7 (flat_mark (hR.1) (fun _ _ h => h) hR.2 rfl))
              · intro b0 us wz L hslot hoth hLi hRR hcl hdo K hK
                have hsf7 : L 7 = false := by
                  cases h : L 7 with
                  | false => rfl
                  | true => first | (rw [done_at (hcl 7 _ rfl h) 1 (by rfl)] at hLi; cases hLi) | (rw [done_at (hcl 6 _ rfl (done_at (hcl 7 _ rfl h) 6 (by rfl))) 1 (by rfl)] at hLi; cases hLi) | (rw [done_at (hcl 5 _ rfl (done_at (hcl 7 _ rfl h) 5 (by rfl))) 1 (by rfl)] at hLi; cases hLi)
                have hR := lastS_open hRR hsf7
                have s52 : b0.tmps.getD 52 undef = .pointer (some ⟨B, 10, none⟩) := (hslot 0 52 (by rfl)).trans (hR.2 0 (done_at hdo 0 (by rfl)))
                have k10 := hR.1.1.c10
                clear hslot hoth hdo hcl hLi
                refine guard_none (by rfl) ?_
                go_simp
                exact hK _ _ (lastS_step (by decide) hsf7 (flat_mark (hR.1) (fun _ _ h => h) hR.2 rfl))
              · intro b0 us wz L hslot hoth hLi hRR hcl hdo K hK
                have hsf7 : L 7 = false := by
                  cases h : L 7 with
                  | false => rfl
                  | true => first | (rw [done_at (hcl 7 _ rfl h) 2 (by rfl)] at hLi; cases hLi) | (rw [done_at (hcl 6 _ rfl (done_at (hcl 7 _ rfl h) 6 (by rfl))) 2 (by rfl)] at hLi; cases hLi) | (rw [done_at (hcl 5 _ rfl (done_at (hcl 7 _ rfl h) 5 (by rfl))) 2 (by rfl)] at hLi; cases hLi)
                have hR := lastS_open hRR hsf7
                have s8 : b0.tmps.getD 8 undef = .int .i64 k := hoth 8 (by rfl)
                clear hslot hoth hdo hcl hLi
                refine guard_none (by rfl) ?_
                go_simp
                exact hK _ _ (lastS_step (by decide) hsf7 (flat_mark (hR.1) (fun _ _ h => h) hR.2 rfl))
              · intro b0 us wz L hslot hoth hLi hRR hcl hdo K hK
                have hsf7 : L 7 = false := by
                  cases h : L 7 with
                  | false => rfl
                  | true => first | (rw [done_at (hcl 7 _ rfl h) 3 (by rfl)] at hLi; cases hLi) | (rw [done_at (hcl 6 _ rfl (done_at (hcl 7 _ rfl h) 6 (by rfl))) 3 (by rfl)] at hLi; cases hLi) | (rw [done_at (hcl 5 _ rfl (done_at (hcl 7 _ rfl h) 5 (by rfl))) 3 (by rfl)] at hLi; cases hLi)
                have hR := lastS_open hRR hsf7
                have s0 : b0.tmps.getD 0 undef = .pointer (some ⟨g, 0, none⟩) := hoth 0 (by rfl)
                clear hslot hoth hdo hcl hLi
                refine guard_none (by rfl) ?_
                go_simp
                exact hK _ _ (lastS_step (by decide) hsf7 (flat_mark (hR.1) (fun _ _ h => h) hR.2 rfl))
              · intro b0 us wz L hslot hoth hLi hRR hcl hdo K hK
                have hsf7 : L 7 = false := by
                  cases h : L 7 with
                  | false => rfl
                  | true => first | (rw [done_at (hcl 7 _ rfl h) 4 (by rfl)] at hLi; cases hLi) | (rw [done_at (hcl 6 _ rfl (done_at (hcl 7 _ rfl h) 6 (by rfl))) 4 (by rfl)] at hLi; cases hLi) | (rw [done_at (hcl 5 _ rfl (done_at (hcl 7 _ rfl h) 5 (by rfl))) 4 (by rfl)] at hLi; cases hLi)
                have hR := lastS_open hRR hsf7
                have s5 : b0.tmps.getD 5 undef = lv := hoth 5 (by rfl)
                clear hslot hoth hdo hcl hLi
                refine guard_none (by rfl) ?_
                go_simp
                exact hK _ _ (lastS_step (by decide) hsf7 (flat_mark (hR.1) (fun _ _ h => h) hR.2 rfl))
              · intro b0 us wz L hslot hoth hLi hRR hcl hdo K hK
                have hsf7 : L 7 = false := by
                  cases h : L 7 with
                  | false => rfl
                  | true => first | (rw [done_at (hcl 7 _ rfl h) 5 (by rfl)] at hLi; cases hLi) | (rw [done_at (hcl 6 _ rfl (done_at (hcl 7 _ rfl h) 6 (by rfl))) 5 (by rfl)] at hLi; cases hLi) | (rw [done_at (hcl 5 _ rfl (done_at (hcl 7 _ rfl h) 5 (by rfl))) 5 (by rfl)] at hLi; cases hLi)
                have hR := lastS_open hRR hsf7
                have s55 : b0.tmps.getD 55 undef = .pointer (some ⟨g, 0, none⟩) := (hslot 3 55 (by rfl)).trans (hR.2 3 (done_at hdo 3 (by rfl)))
                have s56 : b0.tmps.getD 56 undef = lv := (hslot 4 56 (by rfl)).trans (hR.2 4 (done_at hdo 4 (by rfl)))
                clear hslot hoth hdo hcl hLi
                refine guard_none (by rfl) ?_
                go_simp
                refine (pickE2 wz g s V.heap.size lv xs hR.1.1.cur hR.1.2 HS.out HN.out.1 (by have := HN.out.2; omega)).mono ?_
                rintro e w' ⟨⟨v, rfl, _⟩, hc, hg⟩
                exact hK _ _ (lastS_step (by decide) hsf7 (flat_mark ⟨hR.1.1.by' hc hg, row_by hR.1.2 hg HGV.out⟩ gLnk_any hR.2 ⟨v, rfl⟩))
              · intro b0 us wz L hslot hoth hLi hRR hcl hdo K hK
                have hsf7 : L 7 = false := by
                  cases h : L 7 with
                  | false => rfl
                  | true => first | (rw [done_at (hcl 7 _ rfl h) 6 (by rfl)] at hLi; cases hLi) | (rw [done_at (hcl 6 _ rfl (done_at (hcl 7 _ rfl h) 6 (by rfl))) 6 (by rfl)] at hLi; cases hLi) | (rw [done_at (hcl 5 _ rfl (done_at (hcl 7 _ rfl h) 5 (by rfl))) 6 (by rfl)] at hLi; cases hLi)
                have hR := lastS_open hRR hsf7
                have s53 : b0.tmps.getD 53 undef = .slice (some ⟨lb, 0, none⟩) 2 2 := (hslot 1 53 (by rfl)).trans (hR.2 1 (done_at hdo 1 (by rfl)))
                have s54 : b0.tmps.getD 54 undef = .int .i64 k := (hslot 2 54 (by rfl)).trans (hR.2 2 (done_at hdo 2 (by rfl)))
                have hk2 : (k : Int) < 2 := HK2.out
                clear hslot hoth hdo hcl hLi
                refine guard_none (by rfl) ?_
                go_simp
                exact hK _ _ (lastS_step (by decide) hsf7 (flat_mark (hR.1) (fun _ _ h => h) hR.2 rfl))
              · intro b0 us wz L hslot hoth hLi hRR hcl hdo K hK
                have hR := lastS_open hRR hLi
                have s58 : b0.tmps.getD 58 undef = .pointer (some ⟨lb, k, none⟩) := (hslot 6 58 (by rfl)).trans (hR.2 6 (done_at hdo 6 (by rfl)))
                obtain ⟨v, hv⟩ := hR.2 5 (done_at hdo 5 (by rfl))
                have s57 : b0.tmps.getD 57 undef = .int .i64 v := (hslot 5 57 (by rfl)).trans hv
                have kr := hR.1.1.row.cell k (by rw [hR.1.1.l2]; have := HK2.out; omega)
                have kf := hR.1.1.row.free k
                clear hslot hoth hdo hcl hLi
                refine guard_none (by rfl) ?_
                go_simp
                exact hK undef _ (lastS_last ⟨_, (hR.1.1.link (by have := HK2.out; omega) v), row_other hR.1.2 (grownBy_set wz lb k (.int .i64 v)) (fun b e hb => by have := HLB.out.2 b hb; have := Option.some.inj e; omega), rfl, rfl, rfl, rfl⟩)
            · intro us wn L hall hR a' ha'
              obtain ⟨o2, hg2, hl2, hk2, hp2, hd2, hq2⟩ := lastS_end hR (hall 7 (by decide))
              have HZ : Hid (∃ o', GrowC V g s B lb o' (.slice none 0 0) (.slice none 0 0) wn ∧ RowL wn V lv xs ∧ o'.kind = 1 + (v1 : Int) ∧ o'.pages = (v5 : Int) ∧ o'.ds = [] ∧ o'.qs = []) := ⟨o2, hg2, hl2, hk2.trans HOB.out.1, hp2.trans HOB.out.2.1, hd2.trans HOB.out.2.2.1, hq2.trans HOB.out.2.2.2⟩
              clear hR hall hg2 hl2 hk2 hp2 hd2 hq2 HGW HOB
              simp only [putAll] at ha'
              subst ha'
              go_frame
              go_wp2
              go_roundw
              case rel => exact ⟨k + 1, by omega, by go_num, HZ⟩
              case measure => simp [intOf]; omega
        · obtain rfl : k = 2 := by omega
          obtain ⟨W2, hW2⟩ : ∃ W2, W2 = wr := ⟨_, rfl⟩
          subst hW2
          have HG2 : Hid (GrowC V g s B lb o (.slice none 0 0) (.slice none 0 0) W2) := hg
          have c1 := hg.c1
          rw [hok] at c1
          clear hg hlr hok hop hod hoq hin HX HL
          have HGW0 : Hid (g < w.heap.size) := Nat.lt_of_lt_of_le HG2.out.cur.lt HSW.out
          by_cases e1 : v1 = 1
          · subst e1
            go_wp2
            go_loopw [9] (fun s9 wr => ∃ k : Nat, k ≤ v5 ∧ s9 = .int .i64 k ∧ Hid (∃ o dv, GrowC V g s B lb o dv (.slice none 0 0) wr ∧ RowD wr lb dv o.ds ∧ o.ds.length ≤ k ∧ o.qs = [] ∧ o.pages = (v5 : Int))) (fun s9 _ => v5 - (intOf s9).toNat)
            case atStart => exact ⟨0, by omega, rfl, o, _, HG2.out, by rw [HOB.out.2.2.1]; exact World.ownsRow_nil _ _ _ _, by rw [HOB.out.2.2.1]; simp, HOB.out.2.2.2, HOB.out.2.1⟩
            case round =>
              obtain ⟨k, hk, rfl, hin⟩ := hrel
              clear HOB HG2 c1
              obtain ⟨o, dv, hg, hrd, hdl, hqs, hpg⟩ := hin.out
              have HOB : Hid (o.qs = [] ∧ o.pages = (v5 : Int)) := ⟨hqs, hpg⟩
              have HDL : Hid (o.ds.length ≤ k ∧ k ≤ 4) := ⟨hdl, by omega⟩
              have c5 := hg.c5
              rw [hpg] at c5
              by_cases hlt : k < v5
              · have HGW : Hid (GrowC V g s B lb o dv (.slice none 0 0) wr ∧ RowD wr lb dv o.ds) := ⟨hg, hrd⟩
                clear hg hrd hdl hqs hpg hin
                go_wp2_with fail
                refine wp_region_whole (by kernel_rfl) (by kernel_rfl) (by kernel_rfl) (by kernel_rfl) (LastS 7 (Two9 5 (Flat (fun wz => GrowC V g s B lb o dv (.slice none 0 0) wz ∧ RowD wz lb dv o.ds) (gDat V [.pointer (some ⟨B, 11, none⟩), dv, .pointer (some ⟨g, 0, none⟩), undef, undef, undef, .pointer (some ⟨B, 11, none⟩), undef])) (Flat (fun wz => GrowC V g s B lb o dv (.slice none 0 0) wz) (gDat2 lb o.ds B))) (fun _ wz => ∃ o' dv', GrowC V g s B lb o' dv' (.slice none 0 0) wz ∧ RowD wz lb dv' o'.ds ∧ o'.ds.length = o.ds.length + 1 ∧ o'.qs = o.qs ∧ o'.pages = o.pages)) (fun us => lastS_start (.inl ⟨rfl, flat_start ⟨HGW.out.1.on (below_draw _), row_on8 HGW.out.2 (below_draw _)⟩ us⟩)) ?_ ?_
                · refine ⟨?_, ?_, ?_, ?_, ?_, ?_, ?_, ?_, trivial⟩
                  · intro b0 us wz L hslot hoth hLi hRR hcl hdo K hK
                    have hsf7 : L 7 = false := by
                      cases h : L 7 with
                      | false => rfl
                      | true => first | (rw [done_at (hcl 7 _ rfl h) 0 (by rfl)] at hLi; cases hLi) | (rw [done_at (hcl 5 _ rfl (done_at (hcl 7 _ rfl h) 5 (by rfl))) 0 (by rfl)] at hLi; cases hLi) | (rw [done_at (hcl 6 _ rfl (done_at (hcl 7 _ rfl h) 6 (by rfl))) 0 (by rfl)] at hLi; cases hLi) | (rw [done_at (hcl 1 _ rfl (done_at (hcl 5 _ rfl (done_at (hcl 7 _ rfl h) 5 (by rfl))) 1 (by rfl))) 0 (by rfl)] at hLi; cases hLi) | (rw [done_at (hcl 4 _ rfl (done_at (hcl 5 _ rfl (done_at (hcl 7 _ rfl h) 5 (by rfl))) 4 (by rfl))) 0 (by rfl)] at hLi; cases hLi) | (rw [done_at (hcl 3 _ rfl (done_at (hcl 4 _ rfl (done_at (hcl 5 _ rfl (done_at (hcl 7 _ rfl h) 5 (by rfl))) 4 (by rfl))) 3 (by rfl))) 0 (by rfl)] at hLi; cases hLi)
                    have hsf5 : L 5 = false := by
                      cases h : L 5 with
                      | false => rfl
                      | true => first | (rw [done_at (hcl 5 _ rfl h) 0 (by rfl)] at hLi; cases hLi) | (rw [done_at (hcl 1 _ rfl (done_at (hcl 5 _ rfl h) 1 (by rfl))) 0 (by rfl)] at hLi; cases hLi) | (rw [done_at (hcl 4 _ rfl (done_at (hcl 5 _ rfl h) 4 (by rfl))) 0 (by rfl)] at hLi; cases hLi) | (rw [done_at (hcl 3 _ rfl (done_at (hcl 4 _ rfl (done_at (hcl 5 _ rfl h) 4 (by rfl))) 3 (by rfl))) 0 (by rfl)] at hLi; cases hLi)
                    have hR := two_open (lastS_open hRR hsf7) hsf5
                    have s7 : b0.tmps.getD 7 undef = .pointer (some ⟨B, 0, none⟩) := hoth 7 (by rfl)
                    clear hslot hoth hdo hcl hLi
                    refine guard_none (by rfl) ?_
                    go_simp
                    exact hK _ _ (lastS_step (by decide) hsf7 (two_step (by decide) hsf5 (flat_mark (hR.1) (fun _ _ h => h) hR.2 rfl)))
                  · intro b0 us wz L hslot hoth hLi hRR hcl hdo K hK
                    have hsf7 : L 7 = false := by
                      cases h : L 7 with
                      | false => rfl
                      | true => first | (rw [done_at (hcl 7 _ rfl h) 1 (by rfl)] at hLi; cases hLi) | (rw [done_at (hcl 5 _ rfl (done_at (hcl 7 _ rfl h) 5 (by rfl))) 1 (by rfl)] at hLi; cases hLi) | (rw [done_at (hcl 6 _ rfl (done_at (hcl 7 _ rfl h) 6 (by rfl))) 1 (by rfl)] at hLi; cases hLi) | (rw [done_at (hcl 1 _ rfl (done_at (hcl 5 _ rfl (done_at (hcl 7 _ rfl h) 5 (by rfl))) 1 (by rfl))) 1 (by rfl)] at hLi; cases hLi) | (rw [done_at (hcl 4 _ rfl (done_at (hcl 5 _ rfl (done_at (hcl 7 _ rfl h) 5 (by rfl))) 4 (by rfl))) 1 (by rfl)] at hLi; cases hLi) | (rw [done_at (hcl 3 _ rfl (done_at (hcl 4 _ rfl (done_at (hcl 5 _ rfl (done_at (hcl 7 _ rfl h) 5 (by rfl))) 4 (by rfl))) 3 (by rfl))) 1 (by rfl)] at hLi; cases hLi)
                    have hsf5 : L 5 = false := by
                      cases h : L 5 with
                      | false => rfl
                      | true => first | (rw [done_at (hcl 5 _ rfl h) 1 (by rfl)] at hLi; cases hLi) | (rw [done_at (hcl 1 _ rfl (done_at (hcl 5 _ rfl h) 1 (by rfl))) 1 (by rfl)] at hLi; cases hLi) | (rw [done_at (hcl 4 _ rfl (done_at (hcl 5 _ rfl h) 4 (by rfl))) 1 (by rfl)] at hLi; cases hLi) | (rw [done_at (hcl 3 _ rfl (done_at (hcl 4 _ rfl (done_at (hcl 5 _ rfl h) 4 (by rfl))) 3 (by rfl))) 1 (by rfl)] at hLi; cases hLi)
                    have hR := two_open (lastS_open hRR hsf7) hsf5
                    have s69 : b0.tmps.getD 69 undef = .pointer (some ⟨B, 11, none⟩) := (hslot 0 69 (by rfl)).trans (hR.2 0 (done_at hdo 0 (by rfl)))
                    have k11 := hR.1.1.c11
                    clear hslot hoth hdo hcl hLi
                    refine guard_none (by rfl) ?_
                    go_simp
                    exact hK _ _ (lastS_step (by decide) hsf7 (two_step (by decide) hsf5 (flat_mark (hR.1) (fun _ _ h => h) hR.2 rfl)))
                  · intro b0 us wz L hslot hoth hLi hRR hcl hdo K hK
                    have hsf7 : L 7 = false := by
                      cases h : L 7 with
                      | false => rfl
                      | true => first | (rw [done_at (hcl 7 _ rfl h) 2 (by rfl)] at hLi; cases hLi) | (rw [done_at (hcl 5 _ rfl (done_at (hcl 7 _ rfl h) 5 (by rfl))) 2 (by rfl)] at hLi; cases hLi) | (rw [done_at (hcl 6 _ rfl (done_at (hcl 7 _ rfl h) 6 (by rfl))) 2 (by rfl)] at hLi; cases hLi) | (rw [done_at (hcl 1 _ rfl (done_at (hcl 5 _ rfl (done_at (hcl 7 _ rfl h) 5 (by rfl))) 1 (by rfl))) 2 (by rfl)] at hLi; cases hLi) | (rw [done_at (hcl 4 _ rfl (done_at (hcl 5 _ rfl (done_at (hcl 7 _ rfl h) 5 (by rfl))) 4 (by rfl))) 2 (by rfl)] at hLi; cases hLi) | (rw [done_at (hcl 3 _ rfl (done_at (hcl 4 _ rfl (done_at (hcl 5 _ rfl (done_at (hcl 7 _ rfl h) 5 (by rfl))) 4 (by rfl))) 3 (by rfl))) 2 (by rfl)] at hLi; cases hLi)
                    have hsf5 : L 5 = false := by
                      cases h : L 5 with
                      | false => rfl
                      | true => first | (rw [done_at (hcl 5 _ rfl h) 2 (by rfl)] at hLi; cases hLi) | (rw [done_at (hcl 1 _ rfl (done_at (hcl 5 _ rfl h) 1 (by rfl))) 2 (by rfl)] at hLi; cases hLi) | (rw [done_at (hcl 4 _ rfl (done_at (hcl 5 _ rfl h) 4 (by rfl))) 2 (by rfl)] at hLi; cases hLi) | (rw [done_at (hcl 3 _ rfl (done_at (hcl 4 _ rfl (done_at (hcl 5 _ rfl h) 4 (by rfl))) 3 (by rfl))) 2 (by rfl)] at hLi; cases hLi)
                    have hR := two_open (lastS_open hRR hsf7) hsf5
                    have s0 : b0.tmps.getD 0 undef = .pointer (some ⟨g, 0, none⟩) := hoth 0 (by rfl)
                    clear hslot hoth hdo hcl hLi
                    refine guard_none (by rfl) ?_
                    go_simp
                    exact hK _ _ (lastS_step (by decide) hsf7 (two_step (by decide) hsf5 (flat_mark (hR.1) (fun _ _ h => h) hR.2 rfl)))
                  · intro b0 us wz L hslot hoth hLi hRR hcl hdo K hK
                    have hsf7 : L 7 = false := by
                      cases h : L 7 with
                      | false => rfl
                      | true => first | (rw [done_at (hcl 7 _ rfl h) 3 (by rfl)] at hLi; cases hLi) | (rw [done_at (hcl 5 _ rfl (done_at (hcl 7 _ rfl h) 5 (by rfl))) 3 (by rfl)] at hLi; cases hLi) | (rw [done_at (hcl 6 _ rfl (done_at (hcl 7 _ rfl h) 6 (by rfl))) 3 (by rfl)] at hLi; cases hLi) | (rw [done_at (hcl 1 _ rfl (done_at (hcl 5 _ rfl (done_at (hcl 7 _ rfl h) 5 (by rfl))) 1 (by rfl))) 3 (by rfl)] at hLi; cases hLi) | (rw [done_at (hcl 4 _ rfl (done_at (hcl 5 _ rfl (done_at (hcl 7 _ rfl h) 5 (by rfl))) 4 (by rfl))) 3 (by rfl)] at hLi; cases hLi) | (rw [done_at (hcl 3 _ rfl (done_at (hcl 4 _ rfl (done_at (hcl 5 _ rfl (done_at (hcl 7 _ rfl h) 5 (by rfl))) 4 (by rfl))) 3 (by rfl))) 3 (by rfl)] at hLi; cases hLi)
                    have hsf5 : L 5 = false := by
                      cases h : L 5 with
                      | false => rfl
                      | true => first | (rw [done_at (hcl 5 _ rfl h) 3 (by rfl)] at hLi; cases hLi) | (rw [done_at (hcl 1 _ rfl (done_at (hcl 5 _ rfl h) 1 (by rfl))) 3 (by rfl)] at hLi; cases hLi) | (rw [done_at (hcl 4 _ rfl (done_at (hcl 5 _ rfl h) 4 (by rfl))) 3 (by rfl)] at hLi; cases hLi) | (rw [done_at (hcl 3 _ rfl (done_at (hcl 4 _ rfl (done_at (hcl 5 _ rfl h) 4 (by rfl))) 3 (by rfl))) 3 (by rfl)] at hLi; cases hLi)
                    have hR := two_open (lastS_open hRR hsf7) hsf5
                    have s71 : b0.tmps.getD 71 undef = .pointer (some ⟨g, 0, none⟩) := (hslot 2 71 (by rfl)).trans (hR.2 2 (done_at hdo 2 (by rfl)))
                    clear hslot hoth hdo hcl hLi
                    refine guard_none (by rfl) ?_
                    go_simp
                    refine (belowE wz g s 100 hR.1.1.cur (by omega) (by omega)).mono ?_
                    rintro e w' ⟨v, rfl, _, hc, hg⟩
                    exact hK _ _ (lastS_step (by decide) hsf7 (two_step (by decide) hsf5 (flat_mark ⟨hR.1.1.by' hc hg, row_by hR.1.2 hg (by have := hR.1.1.lt; have := hR.1.1.hl; omega)⟩ (gDat_by hg hR.1.1.lt) hR.2 ⟨_, rfl⟩)))
                  · intro b0 us wz L hslot hoth hLi hRR hcl hdo K hK
                    have hsf7 : L 7 = false := by
                      cases h : L 7 with
                      | false => rfl
                      | true => first | (rw [done_at (hcl 7 _ rfl h) 4 (by rfl)] at hLi; cases hLi) | (rw [done_at (hcl 5 _ rfl (done_at (hcl 7 _ rfl h) 5 (by rfl))) 4 (by rfl)] at hLi; cases hLi) | (rw [done_at (hcl 6 _ rfl (done_at (hcl 7 _ rfl h) 6 (by rfl))) 4 (by rfl)] at hLi; cases hLi) | (rw [done_at (hcl 1 _ rfl (done_at (hcl 5 _ rfl (done_at (hcl 7 _ rfl h) 5 (by rfl))) 1 (by rfl))) 4 (by rfl)] at hLi; cases hLi) | (rw [done_at (hcl 4 _ rfl (done_at (hcl 5 _ rfl (done_at (hcl 7 _ rfl h) 5 (by rfl))) 4 (by rfl))) 4 (by rfl)] at hLi; cases hLi) | (rw [done_at (hcl 3 _ rfl (done_at (hcl 4 _ rfl (done_at (hcl 5 _ rfl (done_at (hcl 7 _ rfl h) 5 (by rfl))) 4 (by rfl))) 3 (by rfl))) 4 (by rfl)] at hLi; cases hLi)
                    have hsf5 : L 5 = false := by
                      cases h : L 5 with
                      | false => rfl
                      | true => first | (rw [done_at (hcl 5 _ rfl h) 4 (by rfl)] at hLi; cases hLi) | (rw [done_at (hcl 1 _ rfl (done_at (hcl 5 _ rfl h) 1 (by rfl))) 4 (by rfl)] at hLi; cases hLi) | (rw [done_at (hcl 4 _ rfl (done_at (hcl 5 _ rfl h) 4 (by rfl))) 4 (by rfl)] at hLi; cases hLi) | (rw [done_at (hcl 3 _ rfl (done_at (hcl 4 _ rfl (done_at (hcl 5 _ rfl h) 4 (by rfl))) 3 (by rfl))) 4 (by rfl)] at hLi; cases hLi)
                    have hR := two_open (lastS_open hRR hsf7) hsf5
                    obtain ⟨v, hv⟩ := hR.2 3 (done_at hdo 3 (by rfl))
                    have s72 : b0.tmps.getD 72 undef = .int .i64 v := (hslot 3 72 (by rfl)).trans hv
                    have s72' : b0.tmps[72]?.getD undef = .int .i64 v := by rw [← s72]; simp
                    clear hslot hoth hdo hcl hLi
                    refine guard_none (by rfl) ?_
                    go_simp
                    exact hK _ _ (lastS_step (by decide) hsf7 (two_step (by decide) hsf5 (flat_mark ⟨hR.1.1.alloc _, hR.1.2.alloc _⟩ (gDat_on (below_alloc wz _)) hR.2 ⟨wz.heap.size, v, rfl, hR.1.1.grown.size, heap_alloc_new wz _⟩)))
                  · intro b0 us wz L hslot hoth hLi hRR hcl hdo K hK
                    have hsf7 : L 7 = false := by
                      cases h : L 7 with
                      | false => rfl
                      | true => first | (rw [done_at (hcl 7 _ rfl h) 5 (by rfl)] at hLi; cases hLi) | (rw [done_at (hcl 5 _ rfl (done_at (hcl 7 _ rfl h) 5 (by rfl))) 5 (by rfl)] at hLi; cases hLi) | (rw [done_at (hcl 6 _ rfl (done_at (hcl 7 _ rfl h) 6 (by rfl))) 5 (by rfl)] at hLi; cases hLi) | (rw [done_at (hcl 1 _ rfl (done_at (hcl 5 _ rfl (done_at (hcl 7 _ rfl h) 5 (by rfl))) 1 (by rfl))) 5 (by rfl)] at hLi; cases hLi) | (rw [done_at (hcl 4 _ rfl (done_at (hcl 5 _ rfl (done_at (hcl 7 _ rfl h) 5 (by rfl))) 4 (by rfl))) 5 (by rfl)] at hLi; cases hLi) | (rw [done_at (hcl 3 _ rfl (done_at (hcl 4 _ rfl (done_at (hcl 5 _ rfl (done_at (hcl 7 _ rfl h) 5 (by rfl))) 4 (by rfl))) 3 (by rfl))) 5 (by rfl)] at hLi; cases hLi)
                    have hR := two_open (lastS_open hRR hsf7) hLi
                    have s70 : b0.tmps.getD 70 undef = dv := (hslot 1 70 (by rfl)).trans (hR.2 1 (done_at hdo 1 (by rfl)))
                    obtain ⟨b, v, hu, hb1, hb2⟩ := hR.2 4 (done_at hdo 4 (by rfl))
                    have s73 : b0.tmps.getD 73 undef = .slice (some ⟨b, 0, none⟩) 1 1 := (hslot 4 73 (by rfl)).trans hu
                    clear hslot hoth hdo hcl hLi
                    refine guard_none (by rfl) ?_
                    refine wpO_appI (.tmp 70) (.tmp 73) rfl wz (lb + 1) b dv o.ds [v] 1 1 s70 s73 hR.1.2 (fun j u hj => by simp only [World.cell?, hb2]; simpa [icells] using hj) rfl (by have := HDL.out; omega) (Nat.le_trans (Nat.succ_le_of_lt (lt_of_block hR.1.1.row)) (Nat.le_refl _)) ?_
                    intro dv' w' hown hgr
                    exact hK _ _ (lastS_step (by decide) hsf7 (two_turn (flat_turn (hR.1.1.row_turns hgr (fun k e => ⟨by have := (hR.1.2.lt k e).1; have := hR.1.1.hl; omega, by have := (hR.1.2.lt k e).1; omega, row_not_box hR.1.2 hR.1.1.box (by decide) e⟩)) (fun j u hj h => by unfold gDat2; split; exact absurd rfl hj; exact h; trivial) hR.2 ⟨v, hown⟩)))
                  · intro b0 us wz L hslot hoth hLi hRR hcl hdo K hK
                    have hsf7 : L 7 = false := by
                      cases h : L 7 with
                      | false => rfl
                      | true => first | (rw [done_at (hcl 7 _ rfl h) 6 (by rfl)] at hLi; cases hLi) | (rw [done_at (hcl 5 _ rfl (done_at (hcl 7 _ rfl h) 5 (by rfl))) 6 (by rfl)] at hLi; cases hLi) | (rw [done_at (hcl 6 _ rfl (done_at (hcl 7 _ rfl h) 6 (by rfl))) 6 (by rfl)] at hLi; cases hLi) | (rw [done_at (hcl 1 _ rfl (done_at (hcl 5 _ rfl (done_at (hcl 7 _ rfl h) 5 (by rfl))) 1 (by rfl))) 6 (by rfl)] at hLi; cases hLi) | (rw [done_at (hcl 4 _ rfl (done_at (hcl 5 _ rfl (done_at (hcl 7 _ rfl h) 5 (by rfl))) 4 (by rfl))) 6 (by rfl)] at hLi; cases hLi) | (rw [done_at (hcl 3 _ rfl (done_at (hcl 4 _ rfl (done_at (hcl 5 _ rfl (done_at (hcl 7 _ rfl h) 5 (by rfl))) 4 (by rfl))) 3 (by rfl))) 6 (by rfl)] at hLi; cases hLi)
                    have s7 : b0.tmps.getD 7 undef = .pointer (some ⟨B, 0, none⟩) := hoth 7 (by rfl)
                    clear hslot hoth hdo hcl hLi
                    refine guard_none (by rfl) ?_
                    go_simp
                    cases h5 : L 5 with
                    | false =>
                      have hR := two_open (lastS_open hRR hsf7) h5
                      exact hK _ _ (lastS_step (by decide) hsf7 (two_step (by decide) h5 (flat_mark (hR.1) (fun _ _ h => h) hR.2 rfl)))
                    | true =>
                      have hR := two_late (lastS_open hRR hsf7) h5
                      exact hK _ _ (lastS_step (by decide) hsf7 (two_after (by decide) h5 (flat_mark (hR.1) (fun _ _ h => h) hR.2 rfl)))
                  · intro b0 us wz L hslot hoth hLi hRR hcl hdo K hK
                    have h5 : L 5 = true := done_at hdo 5 (by rfl)
                    have hR := two_late (lastS_open hRR hLi) h5
                    obtain ⟨v, hv⟩ := hR.2 5 h5
                    obtain ⟨a5, n5, c5, hu5⟩ := own_shape hv
                    have s74 : b0.tmps.getD 74 undef = .slice a5 n5 c5 := (hslot 5 74 (by rfl)).trans hu5
                    have s75 : b0.tmps.getD 75 undef = .pointer (some ⟨B, 11, none⟩) := (hslot 6 75 (by rfl)).trans (hR.2 6 (done_at hdo 6 (by rfl)))
                    have k11 := hR.1.c11
                    have f11 := hR.1.free 11
                    rw [hu5] at hv
                    clear hslot hoth hdo hcl hLi
                    refine guard_none (by rfl) ?_
                    go_simp
                    exact hK undef _ (lastS_last ⟨{ o with ds := o.ds ++ [v] }, .slice a5 n5 c5, hR.1.data (.slice a5 n5 c5) (o.ds ++ [v]), row_other hv (grownBy_set wz B 11 (.slice a5 n5 c5)) (fun k e hb => row_not_box hv hR.1.box (by decide) hb (Option.some.inj e).symm), by simp, rfl, rfl⟩)
                · intro us wn L hall hR a' ha'
                  obtain ⟨o2, dv2, hg2, hr2, hd2, hq2, hp2⟩ := lastS_end hR (hall 7 (by decide))
                  have HZ : Hid (∃ o' dv', GrowC V g s B lb o' dv' (.slice none 0 0) wn ∧ RowD wn lb dv' o'.ds ∧ o'.ds.length ≤ k + 1 ∧ o'.qs = [] ∧ o'.pages = (v5 : Int)) := ⟨o2, dv2, hg2, hr2, by have := HDL.out; omega, hq2.trans HOB.out.1, hp2.trans HOB.out.2⟩
                  clear hR hall hg2 hr2 hd2 hq2 hp2 HGW HOB
                  simp only [putAll] at ha'
                  subst ha'
                  go_frame
                  go_wp2
                  go_roundw
                  case rel => exact ⟨k + 1, by omega, by go_num, by obtain ⟨o2, dv2, h⟩ := HZ.out; exact ⟨o2, dv2, h⟩⟩
                  case measure => simp [intOf]; omega
              · have ho : ({ o with pages := (v5 : Int) } : Ob) = o := by rw [← hpg]
                have HF : Hid (GrowC V g s B lb { o with pages := (v5 : Int) } dv (.slice none 0 0) wr ∧ RowD wr lb dv o.ds ∧ RowQ wr V (.slice none 0 0) o.qs ∧ o.ds.length ≤ 8 ∧ o.qs.length ≤ 2) := ⟨by rw [ho]; exact hg, hrd, by rw [hqs]; exact World.ownsRow_nil _ _ _ _, by omega, by rw [hqs]; simp⟩
                clear ho c5 hg hrd hdl hqs hpg hin
                have k0 := HF.out.1.c0
                try dsimp only at k0
                have k1 := HF.out.1.c1
                try dsimp only at k1
                have k2 := HF.out.1.c2
                try dsimp only at k2
                have k3 := HF.out.1.c3
                try dsimp only at k3
                have k4 := HF.out.1.c4
                try dsimp only at k4
                have k5 := HF.out.1.c5
                try dsimp only at k5
                have k6 := HF.out.1.c6
                try dsimp only at k6
                have k7 := HF.out.1.c7
                try dsimp only at k7
                have k8 := HF.out.1.c8
                try dsimp only at k8
                have k9 := HF.out.1.c9
                try dsimp only at k9
                have k10 := HF.out.1.c10
                try dsimp only at k10
                have k11 := HF.out.1.c11
                try dsimp only at k11
                have k12 := HF.out.1.c12
                try dsimp only at k12
                have HZZ : Hid (wr.heap[w.heap.size]? = some (boxO noOb (.slice none 0 0) (.slice none 0 0) (.slice none 0 0))) := grown_kept HF.out.1.grown HV.out.1 (fun e => by have := HGW0.out; have := Option.some.inj e; omega)
                have y0 := zcell0 HZZ.out
                have y1 := zcell1 HZZ.out
                have y2 := zcell2 HZZ.out
                have y3 := zcell3 HZZ.out
                have y4 := zcell4 HZZ.out
                have y5 := zcell5 HZZ.out
                have y6 := zcell6 HZZ.out
                have y7 := zcell7 HZZ.out
                have y8 := zcell8 HZZ.out
                have y9 := zcell9 HZZ.out
                have y10 := zcell10 HZZ.out
                have y11 := zcell11 HZZ.out
                have y12 := zcell12 HZZ.out
                have fy := frozen_of HZZ.out
                have fy0 := fy 0
                have fy1 := fy 1
                have fy2 := fy 2
                have fy3 := fy 3
                have fy4 := fy 4
                have fy5 := fy 5
                have fy6 := fy 6
                have fy7 := fy 7
                have fy8 := fy 8
                have fy9 := fy 9
                have fy10 := fy 10
                have fy11 := fy 11
                have fy12 := fy 12
                clear fy
                obtain ⟨hfin, hres⟩ := new_done HV.out.2.1 HV.out.1 HV.out.2.2 HF.out.1 HSW.out HF.out.2.1 HF.out.2.2.1 HF.out.2.2.2.1 HF.out.2.2.2.2
                have HRES := hid_of hres
                have HFIN := hid_of hfin
                obtain ⟨da, dn, dc, hdv⟩ := own_shape HF.out.2.1
                subst hdv
                clear hfin hres HF
                go_wp2
                clear k0 k1 k2 k3 k4 k5 k6 k7 k8 k9 k10 k11 k12 y0 y1 y2 y3 y4 y5 y6 y7 y8 y9 y10 y11 y12 fy0 fy1 fy2 fy3 fy4 fy5 fy6 fy7 fy8 fy9 fy10 fy11 fy12
                show bodyPost _ _ _ _ _ (w13 wr w.heap.size 0 { o with pages := (v5 : Int) } (.slice (some ⟨lb, 0, none⟩) 2 2) (.slice da dn dc) (.slice none 0 0))
                have hfin := HFIN.out
                have hres := HRES.out
                clear HFIN HRES
                generalize (w13 wr w.heap.size 0 { o with pages := (v5 : Int) } (.slice (some ⟨lb, 0, none⟩) 2 2) (.slice da dn dc) (.slice none 0 0)) = W at hfin hres ⊢
                exact bodyPost_ret (v := obV { o with pages := (v5 : Int) } (.slice (some ⟨lb, 0, none⟩) 2 2) (.slice da dn dc) (.slice none 0 0)) (by simp [results, go_sem, World.cell?, hfin]) rfl ⟨_, _, _, _, rfl, hres⟩
          · by_cases e2 : v1 = 2
            · subst e2
              go_wp2_with fail
              refine (belowE W2 g s 3 HG2.out.cur (by omega) (by omega)).mono ?_
              rintro e w8 ⟨v8, rfl, hv8, hc, hgr⟩
              have HG3 := hid_of (HG2.out.by' hc hgr)
              clear hc hgr HG2
              go_wp2
              clear c1
              go_loopw [10] (fun s10 wr => ∃ k : Nat, k ≤ 2 ∧ s10 = .int .i64 k ∧ Hid (∃ o mv, GrowC V g s B lb o (.slice none 0 0) mv wr ∧ RowQ wr V mv o.qs ∧ o.ds = [] ∧ o.qs.length + k ≤ 2)) (fun s10 _ => (intOf s10).toNat)
              case atStart => exact ⟨v8, by omega, rfl, o, _, HG3.out, by rw [HOB.out.2.2.2]; exact World.ownsRow_nil _ _ _ _, HOB.out.2.2.1, by rw [HOB.out.2.2.2]; simp; omega⟩
              case round =>
                obtain ⟨k, hk, rfl, hin⟩ := hrel
                clear HOB HG3
                obtain ⟨o, mv, hg, hrq, hds, hql⟩ := hin.out
                have HOB : Hid (o.ds = []) := hds
                have HDL : Hid (o.qs.length + k ≤ 2 ∧ k ≤ 2) := ⟨hql, hk⟩
                by_cases hlt : 0 < k
                · have hki : (0 : Int) < (k : Int) := by omega
                  have HGW : Hid (GrowC V g s B lb o (.slice none 0 0) mv wr ∧ RowQ wr V mv o.qs) := ⟨hg, hrq⟩
                  have HKP : Hid (0 < k) := hlt
                  clear hg hrq hds hql hin
                  go_wp2_with fail
                  refine wp_region_whole (by kernel_rfl) (by kernel_rfl) (by kernel_rfl) (by kernel_rfl) (LastS 11 (Two9 9 (Flat (fun wz => GrowC V g s B lb o (.slice none 0 0) mv wz ∧ RowQ wz V mv o.qs) (gQue V [.pointer (some ⟨B, 12, none⟩), mv, .pointer (some ⟨g, 0, none⟩), undef, undef, .pointer (some ⟨g, 0, none⟩), undef, undef, undef, undef, .pointer (some ⟨B, 12, none⟩), undef])) (Flat (fun wz => GrowC V g s B lb o (.slice none 0 0) mv wz) (gQue2 V o.qs B))) (fun _ wz => ∃ o' mv', GrowC V g s B lb o' (.slice none 0 0) mv' wz ∧ RowQ wz V mv' o'.qs ∧ o'.qs.length = o.qs.length + 1 ∧ o'.ds = o.ds)) (fun us => lastS_start (.inl ⟨rfl, flat_start ⟨HGW.out.1.on (below_draw _), row_on8 HGW.out.2 (below_draw _)⟩ us⟩)) ?_ ?_
                  · refine ⟨?_, ?_, ?_, ?_, ?_, ?_, ?_, ?_, ?_, ?_, ?_, ?_, trivial⟩
                    · intro b0 us wz L hslot hoth hLi hRR hcl hdo K hK
                      have hsf11 : L 11 = false := by
                        cases h : L 11 with
                        | false => rfl
                        | true => first | (rw [done_at (hcl 11 _ rfl h) 0 (by rfl)] at hLi; cases hLi) | (rw [done_at (hcl 9 _ rfl (done_at (hcl 11 _ rfl h) 9 (by rfl))) 0 (by rfl)] at hLi; cases hLi) | (rw [done_at (hcl 10 _ rfl (done_at (hcl 11 _ rfl h) 10 (by rfl))) 0 (by rfl)] at hLi; cases hLi) | (rw [done_at (hcl 1 _ rfl (done_at (hcl 9 _ rfl (done_at (hcl 11 _ rfl h) 9 (by rfl))) 1 (by rfl))) 0 (by rfl)] at hLi; cases hLi) | (rw [done_at (hcl 8 _ rfl (done_at (hcl 9 _ rfl (done_at (hcl 11 _ rfl h) 9 (by rfl))) 8 (by rfl))) 0 (by rfl)] at hLi; cases hLi) | (rw [done_at (hcl 7 _ rfl (done_at (hcl 8 _ rfl (done_at (hcl 9 _ rfl (done_at (hcl 11 _ rfl h) 9 (by rfl))) 8 (by rfl))) 7 (by rfl))) 0 (by rfl)] at hLi; cases hLi) | (rw [done_at (hcl 4 _ rfl (done_at (hcl 7 _ rfl (done_at (hcl 8 _ rfl (done_at (hcl 9 _ rfl (done_at (hcl 11 _ rfl h) 9 (by rfl))) 8 (by rfl))) 7 (by rfl))) 4 (by rfl))) 0 (by rfl)] at hLi; cases hLi) | (rw [done_at (hcl 6 _ rfl (done_at (hcl 7 _ rfl (done_at (hcl 8 _ rfl (done_at (hcl 9 _ rfl (done_at (hcl 11 _ rfl h) 9 (by rfl))) 8 (by rfl))) 7 (by rfl))) 6 (by rfl))) 0 (by rfl)] at hLi; cases hLi)
                      have hsf9 : L 9 = false := by
                        cases h : L 9 with
                        | false => rfl
                        | true => first | (rw [done_at (hcl 9 _ rfl h) 0 (by rfl)] at hLi; cases hLi) | (rw [done_at (hcl 1 _ rfl (done_at (hcl 9 _ rfl h) 1 (by rfl))) 0 (by rfl)] at hLi; cases hLi) | (rw [done_at (hcl 8 _ rfl (done_at (hcl 9 _ rfl h) 8 (by rfl))) 0 (by rfl)] at hLi; cases hLi) | (rw [done_at (hcl 7 _ rfl (done_at (hcl 8 _ rfl (done_at (hcl 9 _ rfl h) 8 (by rfl))) 7 (by rfl))) 0 (by rfl)] at hLi; cases hLi) | (rw [done_at (hcl 4 _ rfl (done_at (hcl 7 _ rfl (done_at (hcl 8 _ rfl (done_at (hcl 9 _ rfl h) 8 (by rfl))) 7 (by rfl))) 4 (by rfl))) 0 (by rfl)] at hLi; cases hLi) | (rw [done_at (hcl 6 _ rfl (done_at (hcl 7 _ rfl (done_at (hcl 8 _ rfl (done_at (hcl 9 _ rfl h) 8 (by rfl))) 7 (by rfl))) 6 (by rfl))) 0 (by rfl)] at hLi; cases hLi)
                      have hR := two_open (lastS_open hRR hsf11) hsf9
                      have s7 : b0.tmps.getD 7 undef = .pointer (some ⟨B, 0, none⟩) := hoth 7 (by rfl)
                      clear hslot hoth hdo hcl hLi
                      refine guard_none (by rfl) ?_
                      go_simp
                      exact hK _ _ (lastS_step (by decide) hsf11 (two_step (by decide) hsf9 (flat_mark (hR.1) (fun _ _ h => h) hR.2 rfl)))
                    · intro b0 us wz L hslot hoth hLi hRR hcl hdo K hK
                      have hsf11 : L 11 = false := by
                        cases h : L 11 with
                        | false => rfl
                        | true => first | (rw [done_at (hcl 11 _ rfl h) 1 (by rfl)] at hLi; cases hLi) | (rw [done_at (hcl 9 _ rfl (done_at (hcl 11 _ rfl h) 9 (by rfl))) 1 (by rfl)] at hLi; cases hLi) | (rw [done_at (hcl 10 _ rfl (done_at (hcl 11 _ rfl h) 10 (by rfl))) 1 (by rfl)] at hLi; cases hLi) | (rw [done_at (hcl 1 _ rfl (done_at (hcl 9 _ rfl (done_at (hcl 11 _ rfl h) 9 (by rfl))) 1 (by rfl))) 1 (by rfl)] at hLi; cases hLi) | (rw [done_at (hcl 8 _ rfl (done_at (hcl 9 _ rfl (done_at (hcl 11 _ rfl h) 9 (by rfl))) 8 (by rfl))) 1 (by rfl)] at hLi; cases hLi) | (rw [done_at (hcl 7 _ rfl (done_at (hcl 8 _ rfl (done_at (hcl 9 _ rfl (done_at (hcl 11 _ rfl h) 9 (by rfl))) 8 (by rfl))) 7 (by rfl))) 1 (by rfl)] at hLi; cases hLi) | (rw [done_at (hcl 4 _ rfl (done_at (hcl 7 _ rfl (done_at (hcl 8 _ rfl (done_at (hcl 9 _ rfl (done_at (hcl 11 _ rfl h) 9 (by rfl))) 8 (by rfl))) 7 (by rfl))) 4 (by rfl))) 1 (by rfl)] at hLi; cases hLi) | (rw [done_at (hcl 6 _ rfl (done_at (hcl 7 _ rfl (done_at (hcl 8 _ rfl (done_at (hcl 9 _ rfl (done_at (hcl 11 _ rfl h) 9 (by rfl))) 8 (by rfl))) 7 (by rfl))) 6 (by rfl))) 1 (by rfl)] at hLi; cases hLi)
                      have hsf9 : L 9 = false := by
                        cases h : L 9 with
                        | false => rfl
                        | true => first | (rw [done_at (hcl 9 _ rfl h) 1 (by rfl)] at hLi; cases hLi) | (rw [done_at (hcl 1 _ rfl (done_at (hcl 9 _ rfl h) 1 (by rfl))) 1 (by rfl)] at hLi; cases hLi) | (rw [done_at (hcl 8 _ rfl (done_at (hcl 9 _ rfl h) 8 (by rfl))) 1 (by rfl)] at hLi; cases hLi) | (rw [done_at (hcl 7 _ rfl (done_at (hcl 8 _ rfl (done_at (hcl 9 _ rfl h) 8 (by rfl))) 7 (by rfl))) 1 (by rfl)] at hLi; cases hLi) | (rw [done_at (hcl 4 _ rfl (done_at (hcl 7 _ rfl (done_at (hcl 8 _ rfl (done_at (hcl 9 _ rfl h) 8 (by rfl))) 7 (by rfl))) 4 (by rfl))) 1 (by rfl)] at hLi; cases hLi) | (rw [done_at (hcl 6 _ rfl (done_at (hcl 7 _ rfl (done_at (hcl 8 _ rfl (done_at (hcl 9 _ rfl h) 8 (by rfl))) 7 (by rfl))) 6 (by rfl))) 1 (by rfl)] at hLi; cases hLi)
                      have hR := two_open (lastS_open hRR hsf11) hsf9
                      have s84 : b0.tmps.getD 84 undef = .pointer (some ⟨B, 12, none⟩) := (hslot 0 84 (by rfl)).trans (hR.2 0 (done_at hdo 0 (by rfl)))
                      have k12 := hR.1.1.c12
                      clear hslot hoth hdo hcl hLi
                      refine guard_none (by rfl) ?_
                      go_simp
                      exact hK _ _ (lastS_step (by decide) hsf11 (two_step (by decide) hsf9 (flat_mark (hR.1) (fun _ _ h => h) hR.2 rfl)))
                    · intro b0 us wz L hslot hoth hLi hRR hcl hdo K hK
                      have hsf11 : L 11 = false := by
                        cases h : L 11 with
                        | false => rfl
                        | true => first | (rw [done_at (hcl 11 _ rfl h) 2 (by rfl)] at hLi; cases hLi) | (rw [done_at (hcl 9 _ rfl (done_at (hcl 11 _ rfl h) 9 (by rfl))) 2 (by rfl)] at hLi; cases hLi) | (rw [done_at (hcl 10 _ rfl (done_at (hcl 11 _ rfl h) 10 (by rfl))) 2 (by rfl)] at hLi; cases hLi) | (rw [done_at (hcl 1 _ rfl (done_at (hcl 9 _ rfl (done_at (hcl 11 _ rfl h) 9 (by rfl))) 1 (by rfl))) 2 (by rfl)] at hLi; cases hLi) | (rw [done_at (hcl 8 _ rfl (done_at (hcl 9 _ rfl (done_at (hcl 11 _ rfl h) 9 (by rfl))) 8 (by rfl))) 2 (by rfl)] at hLi; cases hLi) | (rw [done_at (hcl 7 _ rfl (done_at (hcl 8 _ rfl (done_at (hcl 9 _ rfl (done_at (hcl 11 _ rfl h) 9 (by rfl))) 8 (by rfl))) 7 (by rfl))) 2 (by rfl)] at hLi; cases hLi) | (rw [done_at (hcl 4 _ rfl (done_at (hcl 7 _ rfl (done_at (hcl 8 _ rfl (done_at (hcl 9 _ rfl (done_at (hcl 11 _ rfl h) 9 (by rfl))) 8 (by rfl))) 7 (by rfl))) 4 (by rfl))) 2 (by rfl)] at hLi; cases hLi) | (rw [done_at (hcl 6 _ rfl (done_at (hcl 7 _ rfl (done_at (hcl 8 _ rfl (done_at (hcl 9 _ rfl (done_at (hcl 11 _ rfl h) 9 (by rfl))) 8 (by rfl))) 7 (by rfl))) 6 (by rfl))) 2 (by rfl)] at hLi; cases hLi)
                      have hsf9 : L 9 = false := by
                        cases h : L 9 with
                        | false => rfl
                        | true => first | (rw [done_at (hcl 9 _ rfl h) 2 (by rfl)] at hLi; cases hLi) | (rw [done_at (hcl 1 _ rfl (done_at (hcl 9 _ rfl h) 1 (by rfl))) 2 (by rfl)] at hLi; cases hLi) | (rw [done_at (hcl 8 _ rfl (done_at (hcl 9 _ rfl h) 8 (by rfl))) 2 (by rfl)] at hLi; cases hLi) | (rw [done_at (hcl 7 _ rfl (done_at (hcl 8 _ rfl (done_at (hcl 9 _ rfl h) 8 (by rfl))) 7 (by rfl))) 2 (by rfl)] at hLi; cases hLi) | (rw [done_at (hcl 4 _ rfl (done_at (hcl 7 _ rfl (done_at (hcl 8 _ rfl (done_at (hcl 9 _ rfl h) 8 (by rfl))) 7 (by rfl))) 4 (by rfl))) 2 (by rfl)] at hLi; cases hLi) | (rw [done_at (hcl 6 _ rfl (done_at (hcl 7 _ rfl (done_at (hcl 8 _ rfl (done_at (hcl 9 _ rfl h) 8 (by rfl))) 7 (by rfl))) 6 (by rfl))) 2 (by rfl)] at hLi; cases hLi)
                      have hR := two_open (lastS_open hRR hsf11) hsf9
                      have s0 : b0.tmps.getD 0 undef = .pointer (some ⟨g, 0, none⟩) := hoth 0 (by rfl)
                      clear hslot hoth hdo hcl hLi
                      refine guard_none (by rfl) ?_
                      go_simp
                      exact hK _ _ (lastS_step (by decide) hsf11 (two_step (by decide) hsf9 (flat_mark (hR.1) (fun _ _ h => h) hR.2 rfl)))
                    · intro b0 us wz L hslot hoth hLi hRR hcl hdo K hK
                      have hsf11 : L 11 = false := by
                        cases h : L 11 with
                        | false => rfl
                        | true => first | (rw [done_at (hcl 11 _ rfl h) 3 (by rfl)] at hLi; cases hLi) | (rw [done_at (hcl 9 _ rfl (done_at (hcl 11 _ rfl h) 9 (by rfl))) 3 (by rfl)] at hLi; cases hLi) | (rw [done_at (hcl 10 _ rfl (done_at (hcl 11 _ rfl h) 10 (by rfl))) 3 (by rfl)] at hLi; cases hLi) | (rw [done_at (hcl 1 _ rfl (done_at (hcl 9 _ rfl (done_at (hcl 11 _ rfl h) 9 (by rfl))) 1 (by rfl))) 3 (by rfl)] at hLi; cases hLi) | (rw [done_at (hcl 8 _ rfl (done_at (hcl 9 _ rfl (done_at (hcl 11 _ rfl h) 9 (by rfl))) 8 (by rfl))) 3 (by rfl)] at hLi; cases hLi) | (rw [done_at (hcl 7 _ rfl (done_at (hcl 8 _ rfl (done_at (hcl 9 _ rfl (done_at (hcl 11 _ rfl h) 9 (by rfl))) 8 (by rfl))) 7 (by rfl))) 3 (by rfl)] at hLi; cases hLi) | (rw [done_at (hcl 4 _ rfl (done_at (hcl 7 _ rfl (done_at (hcl 8 _ rfl (done_at (hcl 9 _ rfl (done_at (hcl 11 _ rfl h) 9 (by rfl))) 8 (by rfl))) 7 (by rfl))) 4 (by rfl))) 3 (by rfl)] at hLi; cases hLi) | (rw [done_at (hcl 6 _ rfl (done_at (hcl 7 _ rfl (done_at (hcl 8 _ rfl (done_at (hcl 9 _ rfl (done_at (hcl 11 _ rfl h) 9 (by rfl))) 8 (by rfl))) 7 (by rfl))) 6 (by rfl))) 3 (by rfl)] at hLi; cases hLi)
                      have hsf9 : L 9 = false := by
                        cases h : L 9 with
                        | false => rfl
                        | true => first | (rw [done_at (hcl 9 _ rfl h) 3 (by rfl)] at hLi; cases hLi) | (rw [done_at (hcl 1 _ rfl (done_at (hcl 9 _ rfl h) 1 (by rfl))) 3 (by rfl)] at hLi; cases hLi) | (rw [done_at (hcl 8 _ rfl (done_at (hcl 9 _ rfl h) 8 (by rfl))) 3 (by rfl)] at hLi; cases hLi) | (rw [done_at (hcl 7 _ rfl (done_at (hcl 8 _ rfl (done_at (hcl 9 _ rfl h) 8 (by rfl))) 7 (by rfl))) 3 (by rfl)] at hLi; cases hLi) | (rw [done_at (hcl 4 _ rfl (done_at (hcl 7 _ rfl (done_at (hcl 8 _ rfl (done_at (hcl 9 _ rfl h) 8 (by rfl))) 7 (by rfl))) 4 (by rfl))) 3 (by rfl)] at hLi; cases hLi) | (rw [done_at (hcl 6 _ rfl (done_at (hcl 7 _ rfl (done_at (hcl 8 _ rfl (done_at (hcl 9 _ rfl h) 8 (by rfl))) 7 (by rfl))) 6 (by rfl))) 3 (by rfl)] at hLi; cases hLi)
                      have hR := two_open (lastS_open hRR hsf11) hsf9
                      clear hslot hoth hdo hcl hLi
                      refine guard_none (by rfl) ?_
                      go_simp
                      exact hK _ _ (lastS_step (by decide) hsf11 (two_step (by decide) hsf9 (flat_mark ⟨hR.1.1.alloc _, hR.1.2.alloc _⟩ (gQue_on (below_alloc wz _)) hR.2 (owns_down (row_four8 wz (-1) 3 33 36) hR.1.1.grown.size))))
                    · intro b0 us wz L hslot hoth hLi hRR hcl hdo K hK
                      have hsf11 : L 11 = false := by
                        cases h : L 11 with
                        | false => rfl
                        | true => first | (rw [done_at (hcl 11 _ rfl h) 4 (by rfl)] at hLi; cases hLi) | (rw [done_at (hcl 9 _ rfl (done_at (hcl 11 _ rfl h) 9 (by rfl))) 4 (by rfl)] at hLi; cases hLi) | (rw [done_at (hcl 10 _ rfl (done_at (hcl 11 _ rfl h) 10 (by rfl))) 4 (by rfl)] at hLi; cases hLi) | (rw [done_at (hcl 1 _ rfl (done_at (hcl 9 _ rfl (done_at (hcl 11 _ rfl h) 9 (by rfl))) 1 (by rfl))) 4 (by rfl)] at hLi; cases hLi) | (rw [done_at (hcl 8 _ rfl (done_at (hcl 9 _ rfl (done_at (hcl 11 _ rfl h) 9 (by rfl))) 8 (by rfl))) 4 (by rfl)] at hLi; cases hLi) | (rw [done_at (hcl 7 _ rfl (done_at (hcl 8 _ rfl (done_at (hcl 9 _ rfl (done_at (hcl 11 _ rfl h) 9 (by rfl))) 8 (by rfl))) 7 (by rfl))) 4 (by rfl)] at hLi; cases hLi) | (rw [done_at (hcl 4 _ rfl (done_at (hcl 7 _ rfl (done_at (hcl 8 _ rfl (done_at (hcl 9 _ rfl (done_at (hcl 11 _ rfl h) 9 (by rfl))) 8 (by rfl))) 7 (by rfl))) 4 (by rfl))) 4 (by rfl)] at hLi; cases hLi) | (rw [done_at (hcl 6 _ rfl (done_at (hcl 7 _ rfl (done_at (hcl 8 _ rfl (done_at (hcl 9 _ rfl (done_at (hcl 11 _ rfl h) 9 (by rfl))) 8 (by rfl))) 7 (by rfl))) 6 (by rfl))) 4 (by rfl)] at hLi; cases hLi)
                      have hsf9 : L 9 = false := by
                        cases h : L 9 with
                        | false => rfl
                        | true => first | (rw [done_at (hcl 9 _ rfl h) 4 (by rfl)] at hLi; cases hLi) | (rw [done_at (hcl 1 _ rfl (done_at (hcl 9 _ rfl h) 1 (by rfl))) 4 (by rfl)] at hLi; cases hLi) | (rw [done_at (hcl 8 _ rfl (done_at (hcl 9 _ rfl h) 8 (by rfl))) 4 (by rfl)] at hLi; cases hLi) | (rw [done_at (hcl 7 _ rfl (done_at (hcl 8 _ rfl (done_at (hcl 9 _ rfl h) 8 (by rfl))) 7 (by rfl))) 4 (by rfl)] at hLi; cases hLi) | (rw [done_at (hcl 4 _ rfl (done_at (hcl 7 _ rfl (done_at (hcl 8 _ rfl (done_at (hcl 9 _ rfl h) 8 (by rfl))) 7 (by rfl))) 4 (by rfl))) 4 (by rfl)] at hLi; cases hLi) | (rw [done_at (hcl 6 _ rfl (done_at (hcl 7 _ rfl (done_at (hcl 8 _ rfl (done_at (hcl 9 _ rfl h) 8 (by rfl))) 7 (by rfl))) 6 (by rfl))) 4 (by rfl)] at hLi; cases hLi)
                      have hR := two_open (lastS_open hRR hsf11) hsf9
                      have s86 : b0.tmps.getD 86 undef = .pointer (some ⟨g, 0, none⟩) := (hslot 2 86 (by rfl)).trans (hR.2 2 (done_at hdo 2 (by rfl)))
                      have r3 := hR.2 3 (done_at hdo 3 (by rfl))
                      have s87 : b0.tmps.getD 87 undef = us 3 := hslot 3 87 (by rfl)
                      clear hslot hoth hdo hcl hLi
                      refine guard_none (by rfl) ?_
                      go_simp
                      refine (pickE2 wz g s V.heap.size (us 3) [-1, 3, 33, 36] hR.1.1.cur r3 HS.out (by decide) (by decide)).mono ?_
                      rintro e w' ⟨⟨v, rfl, _⟩, hc, hg⟩
                      exact hK _ _ (lastS_step (by decide) hsf11 (two_step (by decide) hsf9 (flat_mark ⟨hR.1.1.by' hc hg, row_by hR.1.2 hg hR.1.1.lt⟩ (gQue_by hg hR.1.1.lt) hR.2 ⟨v, rfl⟩)))
                    · intro b0 us wz L hslot hoth hLi hRR hcl hdo K hK
                      have hsf11 : L 11 = false := by
                        cases h : L 11 with
                        | false => rfl
                        | true => first | (rw [done_at (hcl 11 _ rfl h) 5 (by rfl)] at hLi; cases hLi) | (rw [done_at (hcl 9 _ rfl (done_at (hcl 11 _ rfl h) 9 (by rfl))) 5 (by rfl)] at hLi; cases hLi) | (rw [done_at (hcl 10 _ rfl (done_at (hcl 11 _ rfl h) 10 (by rfl))) 5 (by rfl)] at hLi; cases hLi) | (rw [done_at (hcl 1 _ rfl (done_at (hcl 9 _ rfl (done_at (hcl 11 _ rfl h) 9 (by rfl))) 1 (by rfl))) 5 (by rfl)] at hLi; cases hLi) | (rw [done_at (hcl 8 _ rfl (done_at (hcl 9 _ rfl (done_at (hcl 11 _ rfl h) 9 (by rfl))) 8 (by rfl))) 5 (by rfl)] at hLi; cases hLi) | (rw [done_at (hcl 7 _ rfl (done_at (hcl 8 _ rfl (done_at (hcl 9 _ rfl (done_at (hcl 11 _ rfl h) 9 (by rfl))) 8 (by rfl))) 7 (by rfl))) 5 (by rfl)] at hLi; cases hLi) | (rw [done_at (hcl 4 _ rfl (done_at (hcl 7 _ rfl (done_at (hcl 8 _ rfl (done_at (hcl 9 _ rfl (done_at (hcl 11 _ rfl h) 9 (by rfl))) 8 (by rfl))) 7 (by rfl))) 4 (by rfl))) 5 (by rfl)] at hLi; cases hLi) | (rw [done_at (hcl 6 _ rfl (done_at (hcl 7 _ rfl (done_at (hcl 8 _ rfl (done_at (hcl 9 _ rfl (done_at (hcl 11 _ rfl h) 9 (by rfl))) 8 (by rfl))) 7 (by rfl))) 6 (by rfl))) 5 (by rfl)] at hLi; cases hLi)
                      have hsf9 : L 9 = false := by
                        cases h : L 9 with
                        | false => rfl
                        | true => first | (rw [done_at (hcl 9 _ rfl h) 5 (by rfl)] at hLi; cases hLi) | (rw [done_at (hcl 1 _ rfl (done_at (hcl 9 _ rfl h) 1 (by rfl))) 5 (by rfl)] at hLi; cases hLi) | (rw [done_at (hcl 8 _ rfl (done_at (hcl 9 _ rfl h) 8 (by rfl))) 5 (by rfl)] at hLi; cases hLi) | (rw [done_at (hcl 7 _ rfl (done_at (hcl 8 _ rfl (done_at (hcl 9 _ rfl h) 8 (by rfl))) 7 (by rfl))) 5 (by rfl)] at hLi; cases hLi) | (rw [done_at (hcl 4 _ rfl (done_at (hcl 7 _ rfl (done_at (hcl 8 _ rfl (done_at (hcl 9 _ rfl h) 8 (by rfl))) 7 (by rfl))) 4 (by rfl))) 5 (by rfl)] at hLi; cases hLi) | (rw [done_at (hcl 6 _ rfl (done_at (hcl 7 _ rfl (done_at (hcl 8 _ rfl (done_at (hcl 9 _ rfl h) 8 (by rfl))) 7 (by rfl))) 6 (by rfl))) 5 (by rfl)] at hLi; cases hLi)
                      have hR := two_open (lastS_open hRR hsf11) hsf9
                      have s0 : b0.tmps.getD 0 undef = .pointer (some ⟨g, 0, none⟩) := hoth 0 (by rfl)
                      clear hslot hoth hdo hcl hLi
                      refine guard_none (by rfl) ?_
                      go_simp
                      exact hK _ _ (lastS_step (by decide) hsf11 (two_step (by decide) hsf9 (flat_mark (hR.1) (fun _ _ h => h) hR.2 rfl)))
                    · intro b0 us wz L hslot hoth hLi hRR hcl hdo K hK
                      have hsf11 : L 11 = false := by
                        cases h : L 11 with
                        | false => rfl
                        | true => first | (rw [done_at (hcl 11 _ rfl h) 6 (by rfl)] at hLi; cases hLi) | (rw [done_at (hcl 9 _ rfl (done_at (hcl 11 _ rfl h) 9 (by rfl))) 6 (by rfl)] at hLi; cases hLi) | (rw [done_at (hcl 10 _ rfl (done_at (hcl 11 _ rfl h) 10 (by rfl))) 6 (by rfl)] at hLi; cases hLi) | (rw [done_at (hcl 1 _ rfl (done_at (hcl 9 _ rfl (done_at (hcl 11 _ rfl h) 9 (by rfl))) 1 (by rfl))) 6 (by rfl)] at hLi; cases hLi) | (rw [done_at (hcl 8 _ rfl (done_at (hcl 9 _ rfl (done_at (hcl 11 _ rfl h) 9 (by rfl))) 8 (by rfl))) 6 (by rfl)] at hLi; cases hLi) | (rw [done_at (hcl 7 _ rfl (done_at (hcl 8 _ rfl (done_at (hcl 9 _ rfl (done_at (hcl 11 _ rfl h) 9 (by rfl))) 8 (by rfl))) 7 (by rfl))) 6 (by rfl)] at hLi; cases hLi) | (rw [done_at (hcl 4 _ rfl (done_at (hcl 7 _ rfl (done_at (hcl 8 _ rfl (done_at (hcl 9 _ rfl (done_at (hcl 11 _ rfl h) 9 (by rfl))) 8 (by rfl))) 7 (by rfl))) 4 (by rfl))) 6 (by rfl)] at hLi; cases hLi) | (rw [done_at (hcl 6 _ rfl (done_at (hcl 7 _ rfl (done_at (hcl 8 _ rfl (done_at (hcl 9 _ rfl (done_at (hcl 11 _ rfl h) 9 (by rfl))) 8 (by rfl))) 7 (by rfl))) 6 (by rfl))) 6 (by rfl)] at hLi; cases hLi)
                      have hsf9 : L 9 = false := by
                        cases h : L 9 with
                        | false => rfl
                        | true => first | (rw [done_at (hcl 9 _ rfl h) 6 (by rfl)] at hLi; cases hLi) | (rw [done_at (hcl 1 _ rfl (done_at (hcl 9 _ rfl h) 1 (by rfl))) 6 (by rfl)] at hLi; cases hLi) | (rw [done_at (hcl 8 _ rfl (done_at (hcl 9 _ rfl h) 8 (by rfl))) 6 (by rfl)] at hLi; cases hLi) | (rw [done_at (hcl 7 _ rfl (done_at (hcl 8 _ rfl (done_at (hcl 9 _ rfl h) 8 (by rfl))) 7 (by rfl))) 6 (by rfl)] at hLi; cases hLi) | (rw [done_at (hcl 4 _ rfl (done_at (hcl 7 _ rfl (done_at (hcl 8 _ rfl (done_at (hcl 9 _ rfl h) 8 (by rfl))) 7 (by rfl))) 4 (by rfl))) 6 (by rfl)] at hLi; cases hLi) | (rw [done_at (hcl 6 _ rfl (done_at (hcl 7 _ rfl (done_at (hcl 8 _ rfl (done_at (hcl 9 _ rfl h) 8 (by rfl))) 7 (by rfl))) 6 (by rfl))) 6 (by rfl)] at hLi; cases hLi)
                      have hR := two_open (lastS_open hRR hsf11) hsf9
                      have s89 : b0.tmps.getD 89 undef = .pointer (some ⟨g, 0, none⟩) := (hslot 5 89 (by rfl)).trans (hR.2 5 (done_at hdo 5 (by rfl)))
                      clear hslot hoth hdo hcl hLi
                      refine guard_none (by rfl) ?_
                      go_simp
                      refine (belowE wz g s 50 hR.1.1.cur (by omega) (by omega)).mono ?_
                      rintro e w' ⟨v, rfl, _, hc, hg⟩
                      exact hK _ _ (lastS_step (by decide) hsf11 (two_step (by decide) hsf9 (flat_mark ⟨hR.1.1.by' hc hg, row_by hR.1.2 hg hR.1.1.lt⟩ (gQue_by hg hR.1.1.lt) hR.2 ⟨_, rfl⟩)))
                    · intro b0 us wz L hslot hoth hLi hRR hcl hdo K hK
                      have hsf11 : L 11 = false := by
                        cases h : L 11 with
                        | false => rfl
                        | true => first | (rw [done_at (hcl 11 _ rfl h) 7 (by rfl)] at hLi; cases hLi) | (rw [done_at (hcl 9 _ rfl (done_at (hcl 11 _ rfl h) 9 (by rfl))) 7 (by rfl)] at hLi; cases hLi) | (rw [done_at (hcl 10 _ rfl (done_at (hcl 11 _ rfl h) 10 (by rfl))) 7 (by rfl)] at hLi; cases hLi) | (rw [done_at (hcl 1 _ rfl (done_at (hcl 9 _ rfl (done_at (hcl 11 _ rfl h) 9 (by rfl))) 1 (by rfl))) 7 (by rfl)] at hLi; cases hLi) | (rw [done_at (hcl 8 _ rfl (done_at (hcl 9 _ rfl (done_at (hcl 11 _ rfl h) 9 (by rfl))) 8 (by rfl))) 7 (by rfl)] at hLi; cases hLi) | (rw [done_at (hcl 7 _ rfl (done_at (hcl 8 _ rfl (done_at (hcl 9 _ rfl (done_at (hcl 11 _ rfl h) 9 (by rfl))) 8 (by rfl))) 7 (by rfl))) 7 (by rfl)] at hLi; cases hLi) | (rw [done_at (hcl 4 _ rfl (done_at (hcl 7 _ rfl (done_at (hcl 8 _ rfl (done_at (hcl 9 _ rfl (done_at (hcl 11 _ rfl h) 9 (by rfl))) 8 (by rfl))) 7 (by rfl))) 4 (by rfl))) 7 (by rfl)] at hLi; cases hLi) | (rw [done_at (hcl 6 _ rfl (done_at (hcl 7 _ rfl (done_at (hcl 8 _ rfl (done_at (hcl 9 _ rfl (done_at (hcl 11 _ rfl h) 9 (by rfl))) 8 (by rfl))) 7 (by rfl))) 6 (by rfl))) 7 (by rfl)] at hLi; cases hLi)
                      have hsf9 : L 9 = false := by
                        cases h : L 9 with
                        | false => rfl
                        | true => first | (rw [done_at (hcl 9 _ rfl h) 7 (by rfl)] at hLi; cases hLi) | (rw [done_at (hcl 1 _ rfl (done_at (hcl 9 _ rfl h) 1 (by rfl))) 7 (by rfl)] at hLi; cases hLi) | (rw [done_at (hcl 8 _ rfl (done_at (hcl 9 _ rfl h) 8 (by rfl))) 7 (by rfl)] at hLi; cases hLi) | (rw [done_at (hcl 7 _ rfl (done_at (hcl 8 _ rfl (done_at (hcl 9 _ rfl h) 8 (by rfl))) 7 (by rfl))) 7 (by rfl)] at hLi; cases hLi) | (rw [done_at (hcl 4 _ rfl (done_at (hcl 7 _ rfl (done_at (hcl 8 _ rfl (done_at (hcl 9 _ rfl h) 8 (by rfl))) 7 (by rfl))) 4 (by rfl))) 7 (by rfl)] at hLi; cases hLi) | (rw [done_at (hcl 6 _ rfl (done_at (hcl 7 _ rfl (done_at (hcl 8 _ rfl (done_at (hcl 9 _ rfl h) 8 (by rfl))) 7 (by rfl))) 6 (by rfl))) 7 (by rfl)] at hLi; cases hLi)
                      have hR := two_open (lastS_open hRR hsf11) hsf9
                      obtain ⟨v4, hv4⟩ := hR.2 4 (done_at hdo 4 (by rfl))
                      have s88 : b0.tmps.getD 88 undef = .int .i64 v4 := (hslot 4 88 (by rfl)).trans hv4
                      obtain ⟨v6, hv6⟩ := hR.2 6 (done_at hdo 6 (by rfl))
                      have s90 : b0.tmps.getD 90 undef = .int .i64 v6 := (hslot 6 90 (by rfl)).trans hv6
                      have s88' : b0.tmps[88]?.getD undef = .int .i64 v4 := by rw [← s88]; simp
                      have s90' : b0.tmps[90]?.getD undef = .int .i64 v6 := by rw [← s90]; simp
                      clear hslot hoth hdo hcl hLi
                      refine guard_none (by rfl) ?_
                      go_simp
                      exact hK _ _ (lastS_step (by decide) hsf11 (two_step (by decide) hsf9 (flat_mark (hR.1) (fun _ _ h => h) hR.2 ⟨v4, v6, rfl⟩)))
                    · intro b0 us wz L hslot hoth hLi hRR hcl hdo K hK
                      have hsf11 : L 11 = false := by
                        cases h : L 11 with
                        | false => rfl
                        | true => first | (rw [done_at (hcl 11 _ rfl h) 8 (by rfl)] at hLi; cases hLi) | (rw [done_at (hcl 9 _ rfl (done_at (hcl 11 _ rfl h) 9 (by rfl))) 8 (by rfl)] at hLi; cases hLi) | (rw [done_at (hcl 10 _ rfl (done_at (hcl 11 _ rfl h) 10 (by rfl))) 8 (by rfl)] at hLi; cases hLi) | (rw [done_at (hcl 1 _ rfl (done_at (hcl 9 _ rfl (done_at (hcl 11 _ rfl h) 9 (by rfl))) 1 (by rfl))) 8 (by rfl)] at hLi; cases hLi) | (rw [done_at (hcl 8 _ rfl (done_at (hcl 9 _ rfl (done_at (hcl 11 _ rfl h) 9 (by rfl))) 8 (by rfl))) 8 (by rfl)] at hLi; cases hLi) | (rw [done_at (hcl 7 _ rfl (done_at (hcl 8 _ rfl (done_at (hcl 9 _ rfl (done_at (hcl 11 _ rfl h) 9 (by rfl))) 8 (by rfl))) 7 (by rfl))) 8 (by rfl)] at hLi; cases hLi) | (rw [done_at (hcl 4 _ rfl (done_at (hcl 7 _ rfl (done_at (hcl 8 _ rfl (done_at (hcl 9 _ rfl (done_at (hcl 11 _ rfl h) 9 (by rfl))) 8 (by rfl))) 7 (by rfl))) 4 (by rfl))) 8 (by rfl)] at hLi; cases hLi) | (rw [done_at (hcl 6 _ rfl (done_at (hcl 7 _ rfl (done_at (hcl 8 _ rfl (done_at (hcl 9 _ rfl (done_at (hcl 11 _ rfl h) 9 (by rfl))) 8 (by rfl))) 7 (by rfl))) 6 (by rfl))) 8 (by rfl)] at hLi; cases hLi)
                      have hsf9 : L 9 = false := by
                        cases h : L 9 with
                        | false => rfl
                        | true => first | (rw [done_at (hcl 9 _ rfl h) 8 (by rfl)] at hLi; cases hLi) | (rw [done_at (hcl 1 _ rfl (done_at (hcl 9 _ rfl h) 1 (by rfl))) 8 (by rfl)] at hLi; cases hLi) | (rw [done_at (hcl 8 _ rfl (done_at (hcl 9 _ rfl h) 8 (by rfl))) 8 (by rfl)] at hLi; cases hLi) | (rw [done_at (hcl 7 _ rfl (done_at (hcl 8 _ rfl (done_at (hcl 9 _ rfl h) 8 (by rfl))) 7 (by rfl))) 8 (by rfl)] at hLi; cases hLi) | (rw [done_at (hcl 4 _ rfl (done_at (hcl 7 _ rfl (done_at (hcl 8 _ rfl (done_at (hcl 9 _ rfl h) 8 (by rfl))) 7 (by rfl))) 4 (by rfl))) 8 (by rfl)] at hLi; cases hLi) | (rw [done_at (hcl 6 _ rfl (done_at (hcl 7 _ rfl (done_at (hcl 8 _ rfl (done_at (hcl 9 _ rfl h) 8 (by rfl))) 7 (by rfl))) 6 (by rfl))) 8 (by rfl)] at hLi; cases hLi)
                      have hR := two_open (lastS_open hRR hsf11) hsf9
                      obtain ⟨x7, y7, hv7⟩ := hR.2 7 (done_at hdo 7 (by rfl))
                      have s91 : b0.tmps.getD 91 undef = msV x7 y7 := (hslot 7 91 (by rfl)).trans hv7
                      have s91' : b0.tmps[91]?.getD undef = msV x7 y7 := by rw [← s91]; simp
                      clear hslot hoth hdo hcl hLi
                      refine guard_none (by rfl) ?_
                      go_simp
                      exact hK _ _ (lastS_step (by decide) hsf11 (two_step (by decide) hsf9 (flat_mark ⟨hR.1.1.alloc _, hR.1.2.alloc _⟩ (gQue_on (below_alloc wz _)) hR.2 ⟨wz.heap.size, x7, y7, rfl, hR.1.1.grown.size, heap_alloc_new wz _⟩)))
                    · intro b0 us wz L hslot hoth hLi hRR hcl hdo K hK
                      have hsf11 : L 11 = false := by
                        cases h : L 11 with
                        | false => rfl
                        | true => first | (rw [done_at (hcl 11 _ rfl h) 9 (by rfl)] at hLi; cases hLi) | (rw [done_at (hcl 9 _ rfl (done_at (hcl 11 _ rfl h) 9 (by rfl))) 9 (by rfl)] at hLi; cases hLi) | (rw [done_at (hcl 10 _ rfl (done_at (hcl 11 _ rfl h) 10 (by rfl))) 9 (by rfl)] at hLi; cases hLi) | (rw [done_at (hcl 1 _ rfl (done_at (hcl 9 _ rfl (done_at (hcl 11 _ rfl h) 9 (by rfl))) 1 (by rfl))) 9 (by rfl)] at hLi; cases hLi) | (rw [done_at (hcl 8 _ rfl (done_at (hcl 9 _ rfl (done_at (hcl 11 _ rfl h) 9 (by rfl))) 8 (by rfl))) 9 (by rfl)] at hLi; cases hLi) | (rw [done_at (hcl 7 _ rfl (done_at (hcl 8 _ rfl (done_at (hcl 9 _ rfl (done_at (hcl 11 _ rfl h) 9 (by rfl))) 8 (by rfl))) 7 (by rfl))) 9 (by rfl)] at hLi; cases hLi) | (rw [done_at (hcl 4 _ rfl (done_at (hcl 7 _ rfl (done_at (hcl 8 _ rfl (done_at (hcl 9 _ rfl (done_at (hcl 11 _ rfl h) 9 (by rfl))) 8 (by rfl))) 7 (by rfl))) 4 (by rfl))) 9 (by rfl)] at hLi; cases hLi) | (rw [done_at (hcl 6 _ rfl (done_at (hcl 7 _ rfl (done_at (hcl 8 _ rfl (done_at (hcl 9 _ rfl (done_at (hcl 11 _ rfl h) 9 (by rfl))) 8 (by rfl))) 7 (by rfl))) 6 (by rfl))) 9 (by rfl)] at hLi; cases hLi)
                      have hR := two_open (lastS_open hRR hsf11) hLi
                      have s85 : b0.tmps.getD 85 undef = mv := (hslot 1 85 (by rfl)).trans (hR.2 1 (done_at hdo 1 (by rfl)))
                      obtain ⟨b, x8, y8, hu, hb1, hb2⟩ := hR.2 8 (done_at hdo 8 (by rfl))
                      have s92 : b0.tmps.getD 92 undef = .slice (some ⟨b, 0, none⟩) 1 1 := (hslot 8 92 (by rfl)).trans hu
                      clear hslot hoth hdo hcl hLi
                      refine guard_none (by rfl) ?_
                      refine wpO_appM (.tmp 85) (.tmp 92) rfl wz V.heap.size b mv o.qs [⟨x8, y8⟩] 1 1 s85 s92 hR.1.2 (fun j u hj => by simp only [World.cell?, hb2]; simpa [mcells] using hj) rfl (by have := HDL.out; omega) hR.1.1.grown.size ?_
                      intro mv' w' hown hgr
                      exact hK _ _ (lastS_step (by decide) hsf11 (two_turn (flat_turn (hR.1.1.row_turns hgr (fun k e => ⟨(hR.1.2.lt k e).1, row_not_box hR.1.2 hR.1.1.row (by decide) e, row_not_box hR.1.2 hR.1.1.box (by decide) e⟩)) (fun j u hj h => by unfold gQue2; split; exact absurd rfl hj; exact h; trivial) hR.2 ⟨⟨x8, y8⟩, hown⟩)))
                    · intro b0 us wz L hslot hoth hLi hRR hcl hdo K hK
                      have hsf11 : L 11 = false := by
                        cases h : L 11 with
                        | false => rfl
                        | true => first | (rw [done_at (hcl 11 _ rfl h) 10 (by rfl)] at hLi; cases hLi) | (rw [done_at (hcl 9 _ rfl (done_at (hcl 11 _ rfl h) 9 (by rfl))) 10 (by rfl)] at hLi; cases hLi) | (rw [done_at (hcl 10 _ rfl (done_at (hcl 11 _ rfl h) 10 (by rfl))) 10 (by rfl)] at hLi; cases hLi) | (rw [done_at (hcl 1 _ rfl (done_at (hcl 9 _ rfl (done_at (hcl 11 _ rfl h) 9 (by rfl))) 1 (by rfl))) 10 (by rfl)] at hLi; cases hLi) | (rw [done_at (hcl 8 _ rfl (done_at (hcl 9 _ rfl (done_at (hcl 11 _ rfl h) 9 (by rfl))) 8 (by rfl))) 10 (by rfl)] at hLi; cases hLi) | (rw [done_at (hcl 7 _ rfl (done_at (hcl 8 _ rfl (done_at (hcl 9 _ rfl (done_at (hcl 11 _ rfl h) 9 (by rfl))) 8 (by rfl))) 7 (by rfl))) 10 (by rfl)] at hLi; cases hLi) | (rw [done_at (hcl 4 _ rfl (done_at (hcl 7 _ rfl (done_at (hcl 8 _ rfl (done_at (hcl 9 _ rfl (done_at (hcl 11 _ rfl h) 9 (by rfl))) 8 (by rfl))) 7 (by rfl))) 4 (by rfl))) 10 (by rfl)] at hLi; cases hLi) | (rw [done_at (hcl 6 _ rfl (done_at (hcl 7 _ rfl (done_at (hcl 8 _ rfl (done_at (hcl 9 _ rfl (done_at (hcl 11 _ rfl h) 9 (by rfl))) 8 (by rfl))) 7 (by rfl))) 6 (by rfl))) 10 (by rfl)] at hLi; cases hLi)
                      have s7 : b0.tmps.getD 7 undef = .pointer (some ⟨B, 0, none⟩) := hoth 7 (by rfl)
                      clear hslot hoth hdo hcl hLi
                      refine guard_none (by rfl) ?_
                      go_simp
                      cases h9 : L 9 with
                      | false =>
                        have hR := two_open (lastS_open hRR hsf11) h9
                        exact hK _ _ (lastS_step (by decide) hsf11 (two_step (by decide) h9 (flat_mark (hR.1) (fun _ _ h => h) hR.2 rfl)))
                      | true =>
                        have hR := two_late (lastS_open hRR hsf11) h9
                        exact hK _ _ (lastS_step (by decide) hsf11 (two_after (by decide) h9 (flat_mark (hR.1) (fun _ _ h => h) hR.2 rfl)))
                    · intro b0 us wz L hslot hoth hLi hRR hcl hdo K hK
                      have h9 : L 9 = true := done_at hdo 9 (by rfl)
                      have hR := two_late (lastS_open hRR hLi) h9
                      obtain ⟨v, hv⟩ := hR.2 9 h9
                      obtain ⟨a5, n5, c5, hu5⟩ := own_shape hv
                      have s93 : b0.tmps.getD 93 undef = .slice a5 n5 c5 := (hslot 9 93 (by rfl)).trans hu5
                      have s94 : b0.tmps.getD 94 undef = .pointer (some ⟨B, 12, none⟩) := (hslot 10 94 (by rfl)).trans (hR.2 10 (done_at hdo 10 (by rfl)))
                      have k12 := hR.1.c12
                      have f12 := hR.1.free 12
                      rw [hu5] at hv
                      clear hslot hoth hdo hcl hLi
                      refine guard_none (by rfl) ?_
                      go_simp
                      exact hK undef _ (lastS_last ⟨{ o with qs := o.qs ++ [v] }, .slice a5 n5 c5, hR.1.queue (.slice a5 n5 c5) (o.qs ++ [v]), row_other hv (grownBy_set wz B 12 (.slice a5 n5 c5)) (fun k e hb => row_not_box hv hR.1.box (by decide) hb (Option.some.inj e).symm), by simp, rfl⟩)
                  · intro us wn L hall hR a' ha'
                    obtain ⟨o2, mv2, hg2, hr2, hq2, hd2⟩ := lastS_end hR (hall 11 (by decide))
                    have HZ : Hid (∃ o' mv', GrowC V g s B lb o' (.slice none 0 0) mv' wn ∧ RowQ wn V mv' o'.qs ∧ o'.ds = [] ∧ o'.qs.length + (k - 1) ≤ 2) := ⟨o2, mv2, hg2, hr2, hd2.trans HOB.out, by have := HDL.out; have := HKP.out; omega⟩
                    clear hR hall hg2 hr2 hq2 hd2 HGW HOB
                    simp only [putAll] at ha'
                    subst ha'
                    go_frame
                    go_wp2
                    go_roundw
                    case rel => exact ⟨k - 1, by omega, by go_num, by obtain ⟨o2, mv2, h⟩ := HZ.out; exact ⟨o2, mv2, h⟩⟩
                    case measure => simp [intOf]; omega
                · have HF : Hid (GrowC V g s B lb o (.slice none 0 0) mv wr ∧ RowD wr lb (.slice none 0 0) o.ds ∧ RowQ wr V mv o.qs ∧ o.ds.length ≤ 8 ∧ o.qs.length ≤ 2) := ⟨hg, by rw [hds]; exact World.ownsRow_nil _ _ _ _, hrq, by rw [hds]; simp, by omega⟩
                  have hki : ¬ (0 : Int) < (k : Int) := by omega
                  clear hg hrq hds hql hin
                  have k0 := HF.out.1.c0
                  have k1 := HF.out.1.c1
                  have k2 := HF.out.1.c2
                  have k3 := HF.out.1.c3
                  have k4 := HF.out.1.c4
                  have k5 := HF.out.1.c5
                  have k6 := HF.out.1.c6
                  have k7 := HF.out.1.c7
                  have k8 := HF.out.1.c8
                  have k9 := HF.out.1.c9
                  have k10 := HF.out.1.c10
                  have k11 := HF.out.1.c11
                  have k12 := HF.out.1.c12
                  have HZZ : Hid (wr.heap[w.heap.size]? = some (boxO noOb (.slice none 0 0) (.slice none 0 0) (.slice none 0 0))) := grown_kept HF.out.1.grown HV.out.1 (fun e => by have := HGW0.out; have := Option.some.inj e; omega)
                  have y0 := zcell0 HZZ.out
                  have y1 := zcell1 HZZ.out
                  have y2 := zcell2 HZZ.out
                  have y3 := zcell3 HZZ.out
                  have y4 := zcell4 HZZ.out
                  have y5 := zcell5 HZZ.out
                  have y6 := zcell6 HZZ.out
                  have y7 := zcell7 HZZ.out
                  have y8 := zcell8 HZZ.out
                  have y9 := zcell9 HZZ.out
                  have y10 := zcell10 HZZ.out
                  have y11 := zcell11 HZZ.out
                  have y12 := zcell12 HZZ.out
                  have fy := frozen_of HZZ.out
                  have fy0 := fy 0
                  have fy1 := fy 1
                  have fy2 := fy 2
                  have fy3 := fy 3
                  have fy4 := fy 4
                  have fy5 := fy 5
                  have fy6 := fy 6
                  have fy7 := fy 7
                  have fy8 := fy 8
                  have fy9 := fy 9
                  have fy10 := fy 10
                  have fy11 := fy 11
                  have fy12 := fy 12
                  clear fy
                  obtain ⟨hfin, hres⟩ := new_done HV.out.2.1 HV.out.1 HV.out.2.2 HF.out.1 HSW.out HF.out.2.1 HF.out.2.2.1 HF.out.2.2.2.1 HF.out.2.2.2.2
                  have HRES := hid_of hres
                  have HFIN := hid_of hfin
                  obtain ⟨ma, mn, mc, hmv⟩ := own_shape HF.out.2.2.1
                  subst hmv
                  clear hfin hres HF
                  go_wp2
                  clear k0 k1 k2 k3 k4 k5 k6 k7 k8 k9 k10 k11 k12 y0 y1 y2 y3 y4 y5 y6 y7 y8 y9 y10 y11 y12 fy0 fy1 fy2 fy3 fy4 fy5 fy6 fy7 fy8 fy9 fy10 fy11 fy12
                  show bodyPost _ _ _ _ _ (w13 wr w.heap.size 0 o (.slice (some ⟨lb, 0, none⟩) 2 2) (.slice none 0 0) (.slice ma mn mc))
                  have hfin := HFIN.out
                  have hres := HRES.out
                  clear HFIN HRES
                  generalize (w13 wr w.heap.size 0 o (.slice (some ⟨lb, 0, none⟩) 2 2) (.slice none 0 0) (.slice ma mn mc)) = W at hfin hres ⊢
                  exact bodyPost_ret (v := obV o (.slice (some ⟨lb, 0, none⟩) 2 2) (.slice none 0 0) (.slice ma mn mc)) (by simp [results, go_sem, World.cell?, hfin]) rfl ⟨_, _, _, _, rfl, hres⟩
            · by_cases e3 : v1 = 3
              · subst e3
                have hsW := HS.out
                have hgz := HG2.out.grown.size
                go_wp2_with fail
                refine (pickE2 (W2.alloc (.cells #[.int .i64 0, .int .i64 0, .int .i64 7, .int .i64 34] 3 (0, 0))) g s W2.heap.size (.slice (some ⟨W2.heap.size, 0, none⟩) 4 4) [0, 0, 7, 34] (HG2.out.alloc _).cur (row_four8 W2 0 0 7 34) (Nat.le_trans hsW hgz) (by decide) (by decide)).mono ?_
                rintro e w8 ⟨⟨x, rfl, hxm⟩, hc, hgr⟩
                have HG3 := hid_of ((HG2.out.alloc (.cells #[.int .i64 0, .int .i64 0, .int .i64 7, .int .i64 34] 3 (0, 0))).by' hc hgr)
                have hxb : -9223372036854775808 ≤ x ∧ x ≤ 9223372036854775807 := by simp at hxm; omega
                have HG4 := hid_of (HG3.out.wait x hxb)
                have j6 := HG3.out.c6
                have j6f := HG3.out.free 6
                clear hc hgr HG2 hxm hxb hsW hgz c1
                go_wp2_with fail
                refine (belowE _ g s 9 HG4.out.cur (by omega) (by omega)).mono ?_
                rintro e w9 ⟨y, rfl, hy, hc, hgr⟩
                have HG5 := hid_of (HG4.out.by' hc hgr)
                have hwy : wrap64 ((y : Int) - 1) = (y : Int) - 1 := by unfold wrap64; omega
                have HG6 := hid_of (HG5.out.got ((y : Int) - 1))
                have j7 := HG5.out.c7
                have j7f := HG5.out.free 7
                clear hc hgr HG3 HG4 j6 j6f
                go_wp2_with fail
                refine (belowE _ g s 5 HG6.out.cur (by omega) (by omega)).mono ?_
                rintro e w10 ⟨z, rfl, hz, hc, hgr⟩
                have HG7 := hid_of (HG6.out.by' hc hgr)
                have HG8 := hid_of (HG7.out.ran (z : Int))
                have j8 := HG7.out.c8
                have j8f := HG7.out.free 8
                have HF0 : Hid (GrowC V g s B lb { { { o with wait := x } with got := (y : Int) - 1 } with ran := (z : Int) } (.slice none 0 0) (.slice none 0 0) (w10.setCell ⟨B, 8, none⟩ (.int .i64 (z : Int))) ∧ o.ds = [] ∧ o.qs = []) := ⟨HG8.out, HOB.out.2.2⟩
                clear hc hgr HG5 HG6 HG7 HG8 j7 j7f HOB
                obtain ⟨W3, hW3⟩ : ∃ W3, W3 = w10.setCell ⟨B, 8, none⟩ (.int .i64 (z : Int)) := ⟨_, rfl⟩
                obtain ⟨o3, ho3⟩ : ∃ o3, o3 = ({ { { o with wait := x } with got := (y : Int) - 1 } with ran := (z : Int) } : Ob) := ⟨_, rfl⟩
                have HF : Hid (GrowC V g s B lb o3 (.slice none 0 0) (.slice none 0 0) W3 ∧ RowD W3 lb (.slice none 0 0) o3.ds ∧ RowQ W3 V (.slice none 0 0) o3.qs ∧ o3.ds.length ≤ 8 ∧ o3.qs.length ≤ 2) := by
                  rw [← hW3, ← ho3] at HF0
                  have e1 : o3.ds = [] := by rw [ho3]; exact HF0.out.2.1
                  have e2 : o3.qs = [] := by rw [ho3]; exact HF0.out.2.2
                  exact ⟨HF0.out.1, by rw [e1]; exact World.ownsRow_nil _ _ _ _, by rw [e2]; exact World.ownsRow_nil _ _ _ _, by rw [e1]; simp, by rw [e2]; simp⟩
                clear HF0 ho3
                dsimp only
                repeat (first | (with_reducible refine halt_region (id := 28) ?_) | go_values | go_skip | go_guarded | go_step | go_upon | go_back)
                unfold Halt0
                rw [← hW3]
                clear hW3 j8 j8f
                have k0 := HF.out.1.c0
                try dsimp only at k0
                have k1 := HF.out.1.c1
                try dsimp only at k1
                have k2 := HF.out.1.c2
                try dsimp only at k2
                have k3 := HF.out.1.c3
                try dsimp only at k3
                have k4 := HF.out.1.c4
                try dsimp only at k4
                have k5 := HF.out.1.c5
                try dsimp only at k5
                have k6 := HF.out.1.c6
                try dsimp only at k6
                have k7 := HF.out.1.c7
                try dsimp only at k7
                have k8 := HF.out.1.c8
                try dsimp only at k8
                have k9 := HF.out.1.c9
                try dsimp only at k9
                have k10 := HF.out.1.c10
                try dsimp only at k10
                have k11 := HF.out.1.c11
                try dsimp only at k11
                have k12 := HF.out.1.c12
                try dsimp only at k12
                have HZZ : Hid (W3.heap[w.heap.size]? = some (boxO noOb (.slice none 0 0) (.slice none 0 0) (.slice none 0 0))) := grown_kept HF.out.1.grown HV.out.1 (fun e => by have := HGW0.out; have := Option.some.inj e; omega)
                have y0 := zcell0 HZZ.out
                have y1 := zcell1 HZZ.out
                have y2 := zcell2 HZZ.out
                have y3 := zcell3 HZZ.out
                have y4 := zcell4 HZZ.out
                have y5 := zcell5 HZZ.out
                have y6 := zcell6 HZZ.out
                have y7 := zcell7 HZZ.out
                have y8 := zcell8 HZZ.out
                have y9 := zcell9 HZZ.out
                have y10 := zcell10 HZZ.out
                have y11 := zcell11 HZZ.out
                have y12 := zcell12 HZZ.out
                have fy := frozen_of HZZ.out
                have fy0 := fy 0
                have fy1 := fy 1
                have fy2 := fy 2
                have fy3 := fy 3
                have fy4 := fy 4
                have fy5 := fy 5
                have fy6 := fy 6
                have fy7 := fy 7
                have fy8 := fy 8
                have fy9 := fy 9
                have fy10 := fy 10
                have fy11 := fy 11
                have fy12 := fy 12
                clear fy
                obtain ⟨hfin, hres⟩ := new_done HV.out.2.1 HV.out.1 HV.out.2.2 HF.out.1 HSW.out HF.out.2.1 HF.out.2.2.1 HF.out.2.2.2.1 HF.out.2.2.2.2
                have HRES := hid_of hres
                have HFIN := hid_of hfin
                clear hfin hres HF
                go_wp2
                clear k0 k1 k2 k3 k4 k5 k6 k7 k8 k9 k10 k11 k12 y0 y1 y2 y3 y4 y5 y6 y7 y8 y9 y10 y11 y12 fy0 fy1 fy2 fy3 fy4 fy5 fy6 fy7 fy8 fy9 fy10 fy11 fy12
                show bodyPost _ _ _ _ _ (w13 W3 w.heap.size 0 o3 (.slice (some ⟨lb, 0, none⟩) 2 2) (.slice none 0 0) (.slice none 0 0))
                have hfin := HFIN.out
                have hres := HRES.out
                clear HFIN HRES
                generalize (w13 W3 w.heap.size 0 o3 (.slice (some ⟨lb, 0, none⟩) 2 2) (.slice none 0 0) (.slice none 0 0)) = W at hfin hres ⊢
                exact bodyPost_ret (v := obV o3 (.slice (some ⟨lb, 0, none⟩) 2 2) (.slice none 0 0) (.slice none 0 0)) (by simp [results, go_sem, World.cell?, hfin]) rfl ⟨_, _, _, _, rfl, hres⟩
              · obtain rfl : v1 = 0 := by omega
                have ho : ({ o with kind := 1 + ((0 : Nat) : Int) } : Ob) = o := by rw [← HOB.out.1]
                have HF : Hid (GrowC V g s B lb { o with kind := 1 + ((0 : Nat) : Int) } (.slice none 0 0) (.slice none 0 0) W2 ∧ RowD W2 lb (.slice none 0 0) o.ds ∧ RowQ W2 V (.slice none 0 0) o.qs ∧ o.ds.length ≤ 8 ∧ o.qs.length ≤ 2) := ⟨by rw [ho]; exact HG2.out, by rw [HOB.out.2.2.1]; exact World.ownsRow_nil _ _ _ _, by rw [HOB.out.2.2.2]; exact World.ownsRow_nil _ _ _ _, by rw [HOB.out.2.2.1]; simp, by rw [HOB.out.2.2.2]; simp⟩
                clear ho c1 HG2 HOB
                have k0 := HF.out.1.c0
                try dsimp only at k0
                have k1 := HF.out.1.c1
                try dsimp only at k1
                have k2 := HF.out.1.c2
                try dsimp only at k2
                have k3 := HF.out.1.c3
                try dsimp only at k3
                have k4 := HF.out.1.c4
                try dsimp only at k4
                have k5 := HF.out.1.c5
                try dsimp only at k5
                have k6 := HF.out.1.c6
                try dsimp only at k6
                have k7 := HF.out.1.c7
                try dsimp only at k7
                have k8 := HF.out.1.c8
                try dsimp only at k8
                have k9 := HF.out.1.c9
                try dsimp only at k9
                have k10 := HF.out.1.c10
                try dsimp only at k10
                have k11 := HF.out.1.c11
                try dsimp only at k11
                have k12 := HF.out.1.c12
                try dsimp only at k12
                have HZZ : Hid (W2.heap[w.heap.size]? = some (boxO noOb (.slice none 0 0) (.slice none 0 0) (.slice none 0 0))) := grown_kept HF.out.1.grown HV.out.1 (fun e => by have := HGW0.out; have := Option.some.inj e; omega)
                have y0 := zcell0 HZZ.out
                have y1 := zcell1 HZZ.out
                have y2 := zcell2 HZZ.out
                have y3 := zcell3 HZZ.out
                have y4 := zcell4 HZZ.out
                have y5 := zcell5 HZZ.out
                have y6 := zcell6 HZZ.out
                have y7 := zcell7 HZZ.out
                have y8 := zcell8 HZZ.out
                have y9 := zcell9 HZZ.out
                have y10 := zcell10 HZZ.out
                have y11 := zcell11 HZZ.out
                have y12 := zcell12 HZZ.out
                have fy := frozen_of HZZ.out
                have fy0 := fy 0
                have fy1 := fy 1
                have fy2 := fy 2
                have fy3 := fy 3
                have fy4 := fy 4
                have fy5 := fy 5
                have fy6 := fy 6
                have fy7 := fy 7
                have fy8 := fy 8
                have fy9 := fy 9
                have fy10 := fy 10
                have fy11 := fy 11
                have fy12 := fy 12
                clear fy
                obtain ⟨hfin, hres⟩ := new_done HV.out.2.1 HV.out.1 HV.out.2.2 HF.out.1 HSW.out HF.out.2.1 HF.out.2.2.1 HF.out.2.2.2.1 HF.out.2.2.2.2
                have HRES := hid_of hres
                have HFIN := hid_of hfin
                clear hfin hres HF
                go_wp2
                clear k0 k1 k2 k3 k4 k5 k6 k7 k8 k9 k10 k11 k12 y0 y1 y2 y3 y4 y5 y6 y7 y8 y9 y10 y11 y12 fy0 fy1 fy2 fy3 fy4 fy5 fy6 fy7 fy8 fy9 fy10 fy11 fy12
                show bodyPost _ _ _ _ _ (w13 W2 w.heap.size 0 { o with kind := 1 + ((0 : Nat) : Int) } (.slice (some ⟨lb, 0, none⟩) 2 2) (.slice none 0 0) (.slice none 0 0))
                have hfin := HFIN.out
                have hres := HRES.out
                clear HFIN HRES
                generalize (w13 W2 w.heap.size 0 { o with kind := 1 + ((0 : Nat) : Int) } (.slice (some ⟨lb, 0, none⟩) 2 2) (.slice none 0 0) (.slice none 0 0)) = W at hfin hres ⊢
                exact bodyPost_ret (v := obV { o with kind := 1 + ((0 : Nat) : Int) } (.slice (some ⟨lb, 0, none⟩) 2 2) (.slice none 0 0) (.slice none 0 0)) (by simp [results, go_sem, World.cell?, hfin]) rfl ⟨_, _, _, _, rfl, hres⟩

theorem l8New_any (w : World) (g s : Nat) (p : Addr) (cap : Nat) (os : List Ob) (hcu : CurE w g s) (hs : s ≤ w.heap.size) (hx : IsArena w (.slice (some p) 10 cap) os) (hl : os.length = 10) :
    Calls Try.prog 17 #[.pointer (some ⟨g, 0, none⟩), .slice (some p) 10 cap] w fun e w' => NewDrawn w g s e w' :=
  l8NewN_any 10 (Nat.le_refl _) w g s p cap os hcu hs hx hl
end Go.Proofs.Ytokicnopfmokaaa
