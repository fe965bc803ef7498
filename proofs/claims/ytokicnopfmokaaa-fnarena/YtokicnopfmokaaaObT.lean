/-
  Things: what is read of one, the laws' own copies, two alike.
-/
import Derived.Test.YtokicnopfmokaaaMsgsT2
namespace Go.Proofs.Ytokicnopfmokaaa
open Go.RowKit
set_option linter.unusedVariables false
set_option maxRecDepth 100000

/-- A thing. -/
structure Ob where
  gen : Int
  kind : Int
  into : Int
  res : Int
  unt : Int
  pages : Int
  wait : Int
  got : Int
  ran : Int
  mark : Bool
  ls : List Int
  ds : List Int
  qs : List Ms
def noOb : Ob := ⟨0, 0, 0, 0, 0, 0, 0, 0, 0, false, [], [], []⟩
def obAt (os : List Ob) (i : Nat) : Ob := os.getD i noOb
abbrev obV (o : Ob) (l d m : Value) : Value := .agg #[.int .i64 o.gen, .int .i64 o.kind, .int .i64 o.into, .int .i64 o.res, .int .i64 o.unt, .int .i64 o.pages, .int .i64 o.wait, .int .i64 o.got, .int .i64 o.ran, .bool o.mark, l, d, m]
abbrev boxO (o : Ob) (l d m : Value) : Obj := .cells #[.int .i64 o.gen, .int .i64 o.kind, .int .i64 o.into, .int .i64 o.res, .int .i64 o.unt, .int .i64 o.pages, .int .i64 o.wait, .int .i64 o.got, .int .i64 o.ran, .bool o.mark, l, d, m] 28 (0, 0)
/-- How many numbers its lists hold. -/
def obN (o : Ob) : Nat := o.ls.length + o.ds.length + o.qs.length
/-- The thirteen cells of one. -/
structure ObCells (w : World) (q : Addr) (o : Ob) (l d m : Value) : Prop where
  c0 : w.cell? q = some (.int .i64 o.gen)
  c1 : w.cell? ⟨q.block, q.off + 1, none⟩ = some (.int .i64 o.kind)
  c2 : w.cell? ⟨q.block, q.off + 2, none⟩ = some (.int .i64 o.into)
  c3 : w.cell? ⟨q.block, q.off + 3, none⟩ = some (.int .i64 o.res)
  c4 : w.cell? ⟨q.block, q.off + 4, none⟩ = some (.int .i64 o.unt)
  c5 : w.cell? ⟨q.block, q.off + 5, none⟩ = some (.int .i64 o.pages)
  c6 : w.cell? ⟨q.block, q.off + 6, none⟩ = some (.int .i64 o.wait)
  c7 : w.cell? ⟨q.block, q.off + 7, none⟩ = some (.int .i64 o.got)
  c8 : w.cell? ⟨q.block, q.off + 8, none⟩ = some (.int .i64 o.ran)
  c9 : w.cell? ⟨q.block, q.off + 9, none⟩ = some (.bool o.mark)
  c10 : w.cell? ⟨q.block, q.off + 10, none⟩ = some (l)
  c11 : w.cell? ⟨q.block, q.off + 11, none⟩ = some (d)
  c12 : w.cell? ⟨q.block, q.off + 12, none⟩ = some (m)
theorem ObCells.on {w w' : World} {q : Addr} {o : Ob} {l d m : Value} (h : ObCells w q o l d m) (hb : Below w.heap.size w w') : ObCells w' q o l d m :=
  have hq := World.block_lt_of_cell? w _ h.c0
  ⟨(hb.cell hq).trans h.c0, (hb.cell (p := ⟨q.block, q.off + 1, none⟩) hq).trans h.c1, (hb.cell (p := ⟨q.block, q.off + 2, none⟩) hq).trans h.c2, (hb.cell (p := ⟨q.block, q.off + 3, none⟩) hq).trans h.c3, (hb.cell (p := ⟨q.block, q.off + 4, none⟩) hq).trans h.c4, (hb.cell (p := ⟨q.block, q.off + 5, none⟩) hq).trans h.c5, (hb.cell (p := ⟨q.block, q.off + 6, none⟩) hq).trans h.c6, (hb.cell (p := ⟨q.block, q.off + 7, none⟩) hq).trans h.c7, (hb.cell (p := ⟨q.block, q.off + 8, none⟩) hq).trans h.c8, (hb.cell (p := ⟨q.block, q.off + 9, none⟩) hq).trans h.c9, (hb.cell (p := ⟨q.block, q.off + 10, none⟩) hq).trans h.c10, (hb.cell (p := ⟨q.block, q.off + 11, none⟩) hq).trans h.c11, (hb.cell (p := ⟨q.block, q.off + 12, none⟩) hq).trans h.c12⟩
/-- What its three lists read as. -/
structure Lists (w : World) (l d m : Value) (o : Ob) : Prop where
  ls : IsInts w l o.ls
  ds : IsInts w d o.ds
  qs : IsMsgs w m o.qs
theorem Lists.on {w w' : World} {l d m : Value} {o : Ob} (h : Lists w l d m o) (hb : Below w.heap.size w w') : Lists w' l d m o := ⟨h.ls.on hb, h.ds.on hb, h.qs.on hb⟩
theorem RowIn.on {w w' : World} {g : Nat} {xs : List Int} {rest : List Value} (h : RowIn w g xs rest) (hb : Below w.heap.size w w') : RowIn w' g xs rest := keep h hb
/-- The block in which a list lies that is not empty. -/
def blk : Value → List Nat
  | .slice (some p) _ (_ + 1) => [p.block]
  | _ => []
theorem blk_nil (a : Option Addr) (n : Nat) : blk (.slice a n 0) = [] := by cases a <;> rfl
theorem blk_one {p : Addr} {c : Nat} (n : Nat) (h : c ≠ 0) : blk (.slice (some p) n c) = [p.block] := by
  cases c with
  | zero => exact absurd rfl h
  | succ c => rfl
/-- A list of numbers of the call's own. -/
def OwnI (lo hi : Nat) (w : World) (v : Value) (xs : List Int) : Prop := ∃ a cap, v = .slice a xs.length cap ∧ xs.length ≤ cap ∧ (cap ≠ 0 → ∃ g rs, a = some ⟨g, 0, none⟩ ∧ lo ≤ g ∧ g < hi ∧ RowIn w g xs rs ∧ xs.length + rs.length = cap ∧ cap ≤ maxLen)
/-- A list of messages of the call's own. -/
def OwnM (lo hi : Nat) (w : World) (v : Value) (ms : List Ms) : Prop := ∃ a cap, v = .slice a ms.length cap ∧ ms.length ≤ cap ∧ (cap ≠ 0 → ∃ g rs, a = some ⟨g, 0, none⟩ ∧ lo ≤ g ∧ g < hi ∧ MsgIn w g ms rs ∧ ms.length * 2 + rs.length = cap * 2 ∧ cap ≤ maxLen)
theorem OwnI.ints {lo hi : Nat} {w : World} {v : Value} {xs : List Int} (h : OwnI lo hi w v xs) : IsInts w v xs := by
  obtain ⟨a, cap, hv, hc, hx⟩ := h
  refine ⟨a, cap, hv, hc, fun i hi => ?_⟩
  obtain ⟨g, rs, ha, _, _, hr, _⟩ := hx (by omega)
  exact ⟨_, ha, by rw [add_head]; exact hr.cell i hi⟩
theorem OwnM.msgs {lo hi : Nat} {w : World} {v : Value} {ms : List Ms} (h : OwnM lo hi w v ms) : IsMsgs w v ms := by
  obtain ⟨a, cap, hv, hc, hx⟩ := h
  refine ⟨a, cap, hv, hc, fun i hi => ?_⟩
  obtain ⟨g, rs, ha, _, _, hr, _⟩ := hx (by omega)
  exact ⟨_, ha, by rw [add_head]; exact (hr.cell i hi).1, by rw [add_head]; exact (hr.cell i hi).2⟩
theorem OwnI.move {lo hi lo' hi' : Nat} {w w' : World} {v : Value} {xs : List Int} (h : OwnI lo hi w v xs) (hk : ∀ g o, lo ≤ g → g < hi → w.heap[g]? = some o → w'.heap[g]? = some o) (h1 : lo' ≤ lo) (h2 : hi ≤ hi') : OwnI lo' hi' w' v xs := by
  obtain ⟨a, cap, hv, hc, hx⟩ := h
  refine ⟨a, cap, hv, hc, fun h0 => ?_⟩
  obtain ⟨g, rs, ha, hl, hh, hr, hz⟩ := hx h0
  exact ⟨g, rs, ha, by omega, by omega, hk _ _ hl hh hr, hz⟩
theorem OwnM.move {lo hi lo' hi' : Nat} {w w' : World} {v : Value} {ms : List Ms} (h : OwnM lo hi w v ms) (hk : ∀ g o, lo ≤ g → g < hi → w.heap[g]? = some o → w'.heap[g]? = some o) (h1 : lo' ≤ lo) (h2 : hi ≤ hi') : OwnM lo' hi' w' v ms := by
  obtain ⟨a, cap, hv, hc, hx⟩ := h
  refine ⟨a, cap, hv, hc, fun h0 => ?_⟩
  obtain ⟨g, rs, ha, hl, hh, hr, hz⟩ := hx h0
  exact ⟨g, rs, ha, by omega, by omega, hk _ _ hl hh hr, hz⟩
theorem OwnI.blk {lo hi : Nat} {w : World} {v : Value} {xs : List Int} (h : OwnI lo hi w v xs) {g : Nat} (hg : g ∈ blk v) : lo ≤ g ∧ g < hi ∧ g < w.heap.size := by
  obtain ⟨a, cap, rfl, hc, hx⟩ := h
  by_cases h0 : cap = 0
  · rw [h0, blk_nil] at hg; cases hg
  · obtain ⟨g', rs, rfl, hl, hh, hr, _⟩ := hx h0
    rw [blk_one _ h0] at hg
    obtain rfl : g = g' := by simpa using hg
    exact ⟨hl, hh, lt_of_block hr⟩
theorem OwnM.blk {lo hi : Nat} {w : World} {v : Value} {ms : List Ms} (h : OwnM lo hi w v ms) {g : Nat} (hg : g ∈ blk v) : lo ≤ g ∧ g < hi ∧ g < w.heap.size := by
  obtain ⟨a, cap, rfl, hc, hx⟩ := h
  by_cases h0 : cap = 0
  · rw [h0, blk_nil] at hg; cases hg
  · obtain ⟨g', rs, rfl, hl, hh, hr, _⟩ := hx h0
    rw [blk_one _ h0] at hg
    obtain rfl : g = g' := by simpa using hg
    exact ⟨hl, hh, lt_of_block hr⟩
/-- The three lists of a thing, of the call's own. -/
structure OwnO (lo hi : Nat) (w : World) (l d m : Value) (o : Ob) : Prop where
  ls : OwnI lo hi w l o.ls
  ds : OwnI lo hi w d o.ds
  qs : OwnM lo hi w m o.qs
  nd : (blk l ++ blk d ++ blk m).Nodup
theorem OwnO.lists {lo hi : Nat} {w : World} {l d m : Value} {o : Ob} (h : OwnO lo hi w l d m o) : Lists w l d m o := ⟨h.ls.ints, h.ds.ints, h.qs.msgs⟩
theorem OwnO.move {lo hi lo' hi' : Nat} {w w' : World} {l d m : Value} {o : Ob} (h : OwnO lo hi w l d m o) (hk : ∀ g x, lo ≤ g → g < hi → w.heap[g]? = some x → w'.heap[g]? = some x) (h1 : lo' ≤ lo) (h2 : hi ≤ hi') : OwnO lo' hi' w' l d m o :=
  ⟨h.ls.move hk h1 h2, h.ds.move hk h1 h2, h.qs.move hk h1 h2, h.nd⟩
theorem OwnO.on {lo hi lo' hi' : Nat} {w w' : World} {l d m : Value} {o : Ob} (h : OwnO lo hi w l d m o) (hb : Below w.heap.size w w') (h1 : lo' ≤ lo) (h2 : hi ≤ hi') : OwnO lo' hi' w' l d m o :=
  h.move (fun g x _ _ hx => keep hx hb) h1 h2
theorem OwnO.blk {lo hi : Nat} {w : World} {l d m : Value} {o : Ob} (h : OwnO lo hi w l d m o) {g : Nat} (hg : g ∈ blk l ++ blk d ++ blk m) : lo ≤ g ∧ g < hi ∧ g < w.heap.size := by
  simp only [List.mem_append] at hg
  rcases hg with (h1 | h1) | h1
  · exact h.ls.blk h1
  · exact h.ds.blk h1
  · exact h.qs.blk h1
theorem own3 {lo a b c : Nat} {w : World} {l d m : Value} {o : Ob} (h1 : OwnI lo a w l o.ls) (h2 : OwnI a b w d o.ds) (h3 : OwnM b c w m o.qs) (ha : lo ≤ a) (hb : a ≤ b) (hc : b ≤ c) : OwnO lo c w l d m o := by
  refine ⟨h1.move (fun _ _ _ _ h => h) (Nat.le_refl _) (by omega), h2.move (fun _ _ _ _ h => h) (by omega) (by omega), h3.move (fun _ _ _ _ h => h) (by omega) (by omega), ?_⟩
  rw [List.nodup_append, List.nodup_append]
  have nd : ∀ v : Value, (Go.Proofs.Ytokicnopfmokaaa.blk v).Nodup := fun v => by unfold Go.Proofs.Ytokicnopfmokaaa.blk; split <;> simp
  refine ⟨⟨nd _, nd _, fun x hx y hy => ?_⟩, nd _, fun x hx y hy => ?_⟩
  · have := h1.blk hx
    have := h2.blk hy
    omega
  · rw [List.mem_append] at hx
    have := h3.blk hy
    rcases hx with hx | hx
    · have := h1.blk hx
      omega
    · have := h2.blk hx
      omega
theorem RowIn.own {w : World} {g lo hi n : Nat} {xs : List Int} {rs : List Value} (h : RowIn w g xs rs) (hl : lo ≤ g) (hh : g < hi) (hn : xs.length ≤ n) (hz : xs.length + rs.length = n) (hm : n ≤ maxLen) : OwnI lo hi w (.slice (some ⟨g, 0, none⟩) xs.length n) xs := ⟨_, _, rfl, hn, fun _ => ⟨g, rs, rfl, hl, hh, h, hz, hm⟩⟩
theorem MsgIn.own {w : World} {g lo hi n : Nat} {ms : List Ms} {rs : List Value} (h : MsgIn w g ms rs) (hl : lo ≤ g) (hh : g < hi) (hn : ms.length ≤ n) (hz : ms.length * 2 + rs.length = n * 2) (hm : n ≤ maxLen) : OwnM lo hi w (.slice (some ⟨g, 0, none⟩) ms.length n) ms := ⟨_, _, rfl, hn, fun _ => ⟨g, rs, rfl, hl, hh, h, hz, hm⟩⟩
theorem ownI_row {w : World} {base : Nat} {v : Value} {xs : List Int} (h : w.ownsRow base 3 1 v xs.length (icells xs)) : OwnI base w.heap.size w v xs := by
  rcases h.2 with ⟨rfl, h0⟩ | ⟨g, cap, cur, rfl, hb, hg, hcap, hm, hs, htake⟩
  · exact ⟨none, 0, by rw [h0], by omega, fun e => absurd rfl e⟩
  · refine ⟨_, cap, rfl, hcap, fun _ => ⟨g, cur.toList.drop (xs.length * 1), rfl, hb, lt_of_block hg, ?_, (by
      have e : cur.toList.length = cap * 1 := by simpa using hs
      rw [List.length_drop, e]; omega), hm⟩⟩
    unfold RowIn
    rw [← htake, List.take_append_drop]
    exact hg
theorem ownM_row {w : World} {base : Nat} {v : Value} {ms : List Ms} (h : w.ownsRow base 63 2 v ms.length (mcells ms)) : OwnM base w.heap.size w v ms := by
  rcases h.2 with ⟨rfl, h0⟩ | ⟨g, cap, cur, rfl, hb, hg, hcap, hm, hs, htake⟩
  · exact ⟨none, 0, by rw [h0], by omega, fun e => absurd rfl e⟩
  · refine ⟨_, cap, rfl, hcap, fun _ => ⟨g, cur.toList.drop (ms.length * 2), rfl, hb, lt_of_block hg, ?_, (by
      have e : cur.toList.length = cap * 2 := by simpa using hs
      rw [List.length_drop, e]; omega), hm⟩⟩
    unfold MsgIn
    rw [← htake, List.take_append_drop]
    exact hg
theorem bcell {W w1 : World} (hb : Below W.heap.size W w1) : (∀ b o, b < W.heap.size → w1.cell? ⟨b, o, none⟩ = W.cell? ⟨b, o, none⟩) ∧ (∀ b o, b < W.heap.size → w1.frozen? ⟨b, o, none⟩ = W.frozen? ⟨b, o, none⟩) :=
  ⟨fun b o h => hb.cell (p := ⟨b, o, none⟩) h, fun b o h => hb.frozen (p := ⟨b, o, none⟩) h⟩
theorem setCell_keep {w : World} {g k o : Nat} {v : Value} {x : Obj} (h : w.heap[k]? = some x) (hne : k ≠ g) : (w.setCell ⟨g, o, none⟩ v).heap[k]? = some x := by
  rw [heap_setCell_other _ _ _ _ (by simpa using hne)]; exact h
/-- Thirteen cells are written. -/
def w13 (w : World) (g i : Nat) (o : Ob) (l d m : Value) : World := (((((((((((((w).setCell ⟨g, i, none⟩ (.int .i64 o.gen)).setCell ⟨g, i + 1, none⟩ (.int .i64 o.kind)).setCell ⟨g, i + 2, none⟩ (.int .i64 o.into)).setCell ⟨g, i + 3, none⟩ (.int .i64 o.res)).setCell ⟨g, i + 4, none⟩ (.int .i64 o.unt)).setCell ⟨g, i + 5, none⟩ (.int .i64 o.pages)).setCell ⟨g, i + 6, none⟩ (.int .i64 o.wait)).setCell ⟨g, i + 7, none⟩ (.int .i64 o.got)).setCell ⟨g, i + 8, none⟩ (.int .i64 o.ran)).setCell ⟨g, i + 9, none⟩ (.bool o.mark)).setCell ⟨g, i + 10, none⟩ (l)).setCell ⟨g, i + 11, none⟩ (d)).setCell ⟨g, i + 12, none⟩ (m)
theorem heap_w13 {w : World} {g : Nat} {t : TypeId} {xs : Array Value} (h : w.heap[g]? = some (.cells xs t (0, 0))) (i : Nat) (o : Ob) (l d m : Value) : (w13 w g i o l d m).heap[g]? = some (.cells ((((((((((((((xs).setIfInBounds (i) (.int .i64 o.gen)).setIfInBounds (i + 1) (.int .i64 o.kind)).setIfInBounds (i + 2) (.int .i64 o.into)).setIfInBounds (i + 3) (.int .i64 o.res)).setIfInBounds (i + 4) (.int .i64 o.unt)).setIfInBounds (i + 5) (.int .i64 o.pages)).setIfInBounds (i + 6) (.int .i64 o.wait)).setIfInBounds (i + 7) (.int .i64 o.got)).setIfInBounds (i + 8) (.int .i64 o.ran)).setIfInBounds (i + 9) (.bool o.mark)).setIfInBounds (i + 10) (l)).setIfInBounds (i + 11) (d)).setIfInBounds (i + 12) (m)) t (0, 0)) := by
  have h0 := heap_setCell_same w g (i) _ t (.int .i64 o.gen) h
  have h1 := heap_setCell_same _ g (i + 1) _ t (.int .i64 o.kind) h0
  have h2 := heap_setCell_same _ g (i + 2) _ t (.int .i64 o.into) h1
  have h3 := heap_setCell_same _ g (i + 3) _ t (.int .i64 o.res) h2
  have h4 := heap_setCell_same _ g (i + 4) _ t (.int .i64 o.unt) h3
  have h5 := heap_setCell_same _ g (i + 5) _ t (.int .i64 o.pages) h4
  have h6 := heap_setCell_same _ g (i + 6) _ t (.int .i64 o.wait) h5
  have h7 := heap_setCell_same _ g (i + 7) _ t (.int .i64 o.got) h6
  have h8 := heap_setCell_same _ g (i + 8) _ t (.int .i64 o.ran) h7
  have h9 := heap_setCell_same _ g (i + 9) _ t (.bool o.mark) h8
  have h10 := heap_setCell_same _ g (i + 10) _ t (l) h9
  have h11 := heap_setCell_same _ g (i + 11) _ t (d) h10
  have h12 := heap_setCell_same _ g (i + 12) _ t (m) h11
  exact h12
theorem heap_w13_new {w : World} {g : Nat} {t : TypeId} {a0 a1 a2 a3 a4 a5 a6 a7 a8 a9 a10 a11 a12 : Value} (h : w.heap[g]? = some (.cells #[a0, a1, a2, a3, a4, a5, a6, a7, a8, a9, a10, a11, a12] t (0, 0))) (o : Ob) (l d m : Value) : (w13 w g 0 o l d m).heap[g]? = some (.cells #[.int .i64 o.gen, .int .i64 o.kind, .int .i64 o.into, .int .i64 o.res, .int .i64 o.unt, .int .i64 o.pages, .int .i64 o.wait, .int .i64 o.got, .int .i64 o.ran, .bool o.mark, l, d, m] t (0, 0)) := by
  rw [heap_w13 h]
  simp
theorem heap_w13_other {w : World} {g k : Nat} {x : Obj} (h : w.heap[k]? = some x) (hne : k ≠ g) (i : Nat) (o : Ob) (l d m : Value) : (w13 w g i o l d m).heap[k]? = some x := by
  exact (setCell_keep (setCell_keep (setCell_keep (setCell_keep (setCell_keep (setCell_keep (setCell_keep (setCell_keep (setCell_keep (setCell_keep (setCell_keep (setCell_keep (setCell_keep h hne) hne) hne) hne) hne) hne) hne) hne) hne) hne) hne) hne) hne)
theorem below_w13 {B : Nat} {w w' : World} (h : Below B w w') {g : Nat} (hg : B ≤ g) (i : Nat) (o : Ob) (l d m : Value) : Below B w (w13 w' g i o l d m) := by
  exact (Below.setCell (Below.setCell (Below.setCell (Below.setCell (Below.setCell (Below.setCell (Below.setCell (Below.setCell (Below.setCell (Below.setCell (Below.setCell (Below.setCell (Below.setCell h hg _) hg _) hg _) hg _) hg _) hg _) hg _) hg _) hg _) hg _) hg _) hg _) hg _)
theorem size_w13 (w : World) (g i : Nat) (o : Ob) (l d m : Value) : (w13 w g i o l d m).heap.size = w.heap.size := by unfold w13; simp
theorem heap_alloc_at1 (w : World) (A B C : Obj) : (((w.alloc A).alloc B).alloc C).heap[w.heap.size + 1]? = some B := by
  have h := heap_alloc_new (w.alloc A) B
  rw [heap_alloc_old _ _ (by simp)]
  simpa using h
end Go.Proofs.Ytokicnopfmokaaa
