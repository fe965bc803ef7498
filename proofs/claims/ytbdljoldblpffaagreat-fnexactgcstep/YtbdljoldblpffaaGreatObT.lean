/-
  Things: what is read of one, the laws' own copies, two alike.
-/
import Derived.Test.YtbdljoldblpffaaGreatMsgsT2
namespace Go.Proofs.YtbdljoldblpffaaGreat
open Go.RowKit
set_option linter.unusedVariables false
set_option maxRecDepth 100000

/-- A thing. -/
structure Ob where
  gen : Int
  kind : Int
  into : Int
  res : Int
  unt : Int
  pages : Int
  wait : Int
  got : Int
  ran : Int
  mark : Bool
  ls : List Int
  ds : List Int
  qs : List Ms
def noOb : Ob := ⟨0, 0, 0, 0, 0, 0, 0, 0, 0, false, [], [], []⟩
def obAt (os : List Ob) (i : Nat) : Ob := os.getD i noOb
abbrev obV (o : Ob) (l d m : Value) : Value := .agg #[.int .i64 o.gen, .int .i64 o.kind, .int .i64 o.into, .int .i64 o.res, .int .i64 o.unt, .int .i64 o.pages, .int .i64 o.wait, .int .i64 o.got, .int .i64 o.ran, .bool o.mark, l, d, m]
abbrev boxO (o : Ob) (l d m : Value) : Obj := .cells #[.int .i64 o.gen, .int .i64 o.kind, .int .i64 o.into, .int .i64 o.res, .int .i64 o.unt, .int .i64 o.pages, .int .i64 o.wait, .int .i64 o.got, .int .i64 o.ran, .bool o.mark, l, d, m] 55 (0, 0)
abbrev boxOL (o : Ob) (l d m : Value) : Obj := .cells #[.int .i64 o.gen, .int .i64 o.kind, .int .i64 o.into, .int .i64 o.res, .int .i64 o.unt, .int .i64 o.pages, .int .i64 o.wait, .int .i64 o.got, .int .i64 o.ran, .bool o.mark, l, d, m] 73 (0, 0)
/-- How many numbers its lists hold. -/
def obN (o : Ob) : Nat := o.ls.length + o.ds.length + o.qs.length
/-- The thirteen cells of one. -/
structure ObCells (w : World) (q : Addr) (o : Ob) (l d m : Value) : Prop where
  c0 : w.cell? q = some (.int .i64 o.gen)
  c1 : w.cell? ⟨q.block, q.off + 1, none⟩ = some (.int .i64 o.kind)
  c2 : w.cell? ⟨q.block, q.off + 2, none⟩ = some (.int .i64 o.into)
  c3 : w.cell? ⟨q.block, q.off + 3, none⟩ = some (.int .i64 o.res)
  c4 : w.cell? ⟨q.block, q.off + 4, none⟩ = some (.int .i64 o.unt)
  c5 : w.cell? ⟨q.block, q.off + 5, none⟩ = some (.int .i64 o.pages)
  c6 : w.cell? ⟨q.block, q.off + 6, none⟩ = some (.int .i64 o.wait)
  c7 : w.cell? ⟨q.block, q.off + 7, none⟩ = some (.int .i64 o.got)
  c8 : w.cell? ⟨q.block, q.off + 8, none⟩ = some (.int .i64 o.ran)
  c9 : w.cell? ⟨q.block, q.off + 9, none⟩ = some (.bool o.mark)
  c10 : w.cell? ⟨q.block, q.off + 10, none⟩ = some (l)
  c11 : w.cell? ⟨q.block, q.off + 11, none⟩ = some (d)
  c12 : w.cell? ⟨q.block, q.off + 12, none⟩ = some (m)
theorem ObCells.on {w w' : World} {q : Addr} {o : Ob} {l d m : Value} (h : ObCells w q o l d m) (hb : Below w.heap.size w w') : ObCells w' q o l d m :=
  have hq := World.block_lt_of_cell? w _ h.c0
  ⟨(hb.cell hq).trans h.c0, (hb.cell (p := ⟨q.block, q.off + 1, none⟩) hq).trans h.c1, (hb.cell (p := ⟨q.block, q.off + 2, none⟩) hq).trans h.c2, (hb.cell (p := ⟨q.block, q.off + 3, none⟩) hq).trans h.c3, (hb.cell (p := ⟨q.block, q.off + 4, none⟩) hq).trans h.c4, (hb.cell (p := ⟨q.block, q.off + 5, none⟩) hq).trans h.c5, (hb.cell (p := ⟨q.block, q.off + 6, none⟩) hq).trans h.c6, (hb.cell (p := ⟨q.block, q.off + 7, none⟩) hq).trans h.c7, (hb.cell (p := ⟨q.block, q.off + 8, none⟩) hq).trans h.c8, (hb.cell (p := ⟨q.block, q.off + 9, none⟩) hq).trans h.c9, (hb.cell (p := ⟨q.block, q.off + 10, none⟩) hq).trans h.c10, (hb.cell (p := ⟨q.block, q.off + 11, none⟩) hq).trans h.c11, (hb.cell (p := ⟨q.block, q.off + 12, none⟩) hq).trans h.c12⟩
/-- What its three lists read as. -/
structure Lists (w : World) (l d m : Value) (o : Ob) : Prop where
  ls : IsInts w l o.ls
  ds : IsInts w d o.ds
  qs : IsMsgs w m o.qs
theorem Lists.on {w w' : World} {l d m : Value} {o : Ob} (h : Lists w l d m o) (hb : Below w.heap.size w w') : Lists w' l d m o := ⟨h.ls.on hb, h.ds.on hb, h.qs.on hb⟩
theorem RowIn.on {w w' : World} {g : Nat} {xs : List Int} {rest : List Value} (h : RowIn w g xs rest) (hb : Below w.heap.size w w') : RowIn w' g xs rest := keep h hb
/-- The block in which a list lies that is not empty. -/
def blk : Value → List Nat
  | .slice (some p) _ (_ + 1) => [p.block]
  | _ => []
theorem blk_nil (a : Option Addr) (n : Nat) : blk (.slice a n 0) = [] := by cases a <;> rfl
theorem blk_one {p : Addr} {c : Nat} (n : Nat) (h : c ≠ 0) : blk (.slice (some p) n c) = [p.block] := by
  cases c with
  | zero => exact absurd rfl h
  | succ c => rfl
/-- A list of numbers of the call's own. -/
def OwnI (lo hi : Nat) (w : World) (v : Value) (xs : List Int) : Prop := ∃ a cap, v = .slice a xs.length cap ∧ xs.length ≤ cap ∧ (cap ≠ 0 → ∃ g rs, a = some ⟨g, 0, none⟩ ∧ lo ≤ g ∧ g < hi ∧ RowIn w g xs rs ∧ xs.length + rs.length = cap ∧ cap ≤ maxLen)
/-- A list of messages of the call's own. -/
def OwnM (lo hi : Nat) (w : World) (v : Value) (ms : List Ms) : Prop := ∃ a cap, v = .slice a ms.length cap ∧ ms.length ≤ cap ∧ (cap ≠ 0 → ∃ g rs, a = some ⟨g, 0, none⟩ ∧ lo ≤ g ∧ g < hi ∧ MsgIn w g ms rs ∧ ms.length * 2 + rs.length = cap * 2 ∧ cap ≤ maxLen)
theorem OwnI.ints {lo hi : Nat} {w : World} {v : Value} {xs : List Int} (h : OwnI lo hi w v xs) : IsInts w v xs := by
  obtain ⟨a, cap, hv, hc, hx⟩ := h
  refine ⟨a, cap, hv, hc, fun i hi => ?_⟩
  obtain ⟨g, rs, ha, _, _, hr, _⟩ := hx (by omega)
  exact ⟨_, ha, by rw [add_head]; exact hr.cell i hi⟩
theorem OwnM.msgs {lo hi : Nat} {w : World} {v : Value} {ms : List Ms} (h : OwnM lo hi w v ms) : IsMsgs w v ms := by
  obtain ⟨a, cap, hv, hc, hx⟩ := h
  refine ⟨a, cap, hv, hc, fun i hi => ?_⟩
  obtain ⟨g, rs, ha, _, _, hr, _⟩ := hx (by omega)
  exact ⟨_, ha, by rw [add_head]; exact (hr.cell i hi).1, by rw [add_head]; exact (hr.cell i hi).2⟩
theorem OwnI.move {lo hi lo' hi' : Nat} {w w' : World} {v : Value} {xs : List Int} (h : OwnI lo hi w v xs) (hk : ∀ g o, lo ≤ g → g < hi → w.heap[g]? = some o → w'.heap[g]? = some o) (h1 : lo' ≤ lo) (h2 : hi ≤ hi') : OwnI lo' hi' w' v xs := by
  obtain ⟨a, cap, hv, hc, hx⟩ := h
  refine ⟨a, cap, hv, hc, fun h0 => ?_⟩
  obtain ⟨g, rs, ha, hl, hh, hr, hz⟩ := hx h0
  exact ⟨g, rs, ha, by omega, by omega, hk _ _ hl hh hr, hz⟩
theorem OwnM.move {lo hi lo' hi' : Nat} {w w' : World} {v : Value} {ms : List Ms} (h : OwnM lo hi w v ms) (hk : ∀ g o, lo ≤ g → g < hi → w.heap[g]? = some o → w'.heap[g]? = some o) (h1 : lo' ≤ lo) (h2 : hi ≤ hi') : OwnM lo' hi' w' v ms := by
  obtain ⟨a, cap, hv, hc, hx⟩ := h
  refine ⟨a, cap, hv, hc, fun h0 => ?_⟩
  obtain ⟨g, rs, ha, hl, hh, hr, hz⟩ := hx h0
  exact ⟨g, rs, ha, by omega, by omega, hk _ _ hl hh hr, hz⟩
theorem OwnI.blk {lo hi : Nat} {w : World} {v : Value} {xs : List Int} (h : OwnI lo hi w v xs) {g : Nat} (hg : g ∈ blk v) : lo ≤ g ∧ g < hi ∧ g < w.heap.size := by
  obtain ⟨a, cap, rfl, hc, hx⟩ := h
  by_cases h0 : cap = 0
  · rw [h0, blk_nil] at hg; cases hg
  · obtain ⟨g', rs, rfl, hl, hh, hr, _⟩ := hx h0
    rw [blk_one _ h0] at hg
    obtain rfl : g = g' := by simpa using hg
    exact ⟨hl, hh, lt_of_block hr⟩
theorem OwnM.blk {lo hi : Nat} {w : World} {v : Value} {ms : List Ms} (h : OwnM lo hi w v ms) {g : Nat} (hg : g ∈ blk v) : lo ≤ g ∧ g < hi ∧ g < w.heap.size := by
  obtain ⟨a, cap, rfl, hc, hx⟩ := h
  by_cases h0 : cap = 0
  · rw [h0, blk_nil] at hg; cases hg
  · obtain ⟨g', rs, rfl, hl, hh, hr, _⟩ := hx h0
    rw [blk_one _ h0] at hg
    obtain rfl : g = g' := by simpa using hg
    exact ⟨hl, hh, lt_of_block hr⟩
/-- The three lists of a thing, of the call's own. -/
structure OwnO (lo hi : Nat) (w : World) (l d m : Value) (o : Ob) : Prop where
  ls : OwnI lo hi w l o.ls
  ds : OwnI lo hi w d o.ds
  qs : OwnM lo hi w m o.qs
  nd : (blk l ++ blk d ++ blk m).Nodup
theorem OwnO.lists {lo hi : Nat} {w : World} {l d m : Value} {o : Ob} (h : OwnO lo hi w l d m o) : Lists w l d m o := ⟨h.ls.ints, h.ds.ints, h.qs.msgs⟩
theorem OwnO.move {lo hi lo' hi' : Nat} {w w' : World} {l d m : Value} {o : Ob} (h : OwnO lo hi w l d m o) (hk : ∀ g x, lo ≤ g → g < hi → w.heap[g]? = some x → w'.heap[g]? = some x) (h1 : lo' ≤ lo) (h2 : hi ≤ hi') : OwnO lo' hi' w' l d m o :=
  ⟨h.ls.move hk h1 h2, h.ds.move hk h1 h2, h.qs.move hk h1 h2, h.nd⟩
theorem OwnO.on {lo hi lo' hi' : Nat} {w w' : World} {l d m : Value} {o : Ob} (h : OwnO lo hi w l d m o) (hb : Below w.heap.size w w') (h1 : lo' ≤ lo) (h2 : hi ≤ hi') : OwnO lo' hi' w' l d m o :=
  h.move (fun g x _ _ hx => keep hx hb) h1 h2
theorem OwnO.blk {lo hi : Nat} {w : World} {l d m : Value} {o : Ob} (h : OwnO lo hi w l d m o) {g : Nat} (hg : g ∈ blk l ++ blk d ++ blk m) : lo ≤ g ∧ g < hi ∧ g < w.heap.size := by
  simp only [List.mem_append] at hg
  rcases hg with (h1 | h1) | h1
  · exact h.ls.blk h1
  · exact h.ds.blk h1
  · exact h.qs.blk h1
theorem own3 {lo a b c : Nat} {w : World} {l d m : Value} {o : Ob} (h1 : OwnI lo a w l o.ls) (h2 : OwnI a b w d o.ds) (h3 : OwnM b c w m o.qs) (ha : lo ≤ a) (hb : a ≤ b) (hc : b ≤ c) : OwnO lo c w l d m o := by
  refine ⟨h1.move (fun _ _ _ _ h => h) (Nat.le_refl _) (by omega), h2.move (fun _ _ _ _ h => h) (by omega) (by omega), h3.move (fun _ _ _ _ h => h) (by omega) (by omega), ?_⟩
  rw [List.nodup_append, List.nodup_append]
  have nd : ∀ v : Value, (Go.Proofs.YtbdljoldblpffaaGreat.blk v).Nodup := fun v => by unfold Go.Proofs.YtbdljoldblpffaaGreat.blk; split <;> simp
  refine ⟨⟨nd _, nd _, fun x hx y hy => ?_⟩, nd _, fun x hx y hy => ?_⟩
  · have := h1.blk hx
    have := h2.blk hy
    omega
  · rw [List.mem_append] at hx
    have := h3.blk hy
    rcases hx with hx | hx
    · have := h1.blk hx
      omega
    · have := h2.blk hx
      omega
theorem RowIn.own {w : World} {g lo hi n : Nat} {xs : List Int} {rs : List Value} (h : RowIn w g xs rs) (hl : lo ≤ g) (hh : g < hi) (hn : xs.length ≤ n) (hz : xs.length + rs.length = n) (hm : n ≤ maxLen) : OwnI lo hi w (.slice (some ⟨g, 0, none⟩) xs.length n) xs := ⟨_, _, rfl, hn, fun _ => ⟨g, rs, rfl, hl, hh, h, hz, hm⟩⟩
theorem MsgIn.own {w : World} {g lo hi n : Nat} {ms : List Ms} {rs : List Value} (h : MsgIn w g ms rs) (hl : lo ≤ g) (hh : g < hi) (hn : ms.length ≤ n) (hz : ms.length * 2 + rs.length = n * 2) (hm : n ≤ maxLen) : OwnM lo hi w (.slice (some ⟨g, 0, none⟩) ms.length n) ms := ⟨_, _, rfl, hn, fun _ => ⟨g, rs, rfl, hl, hh, h, hz, hm⟩⟩
theorem ownI_row {w : World} {base : Nat} {v : Value} {xs : List Int} (h : w.ownsRow base 3 1 v xs.length (icells xs)) : OwnI base w.heap.size w v xs := by
  rcases h.2 with ⟨rfl, h0⟩ | ⟨g, cap, cur, rfl, hb, hg, hcap, hm, hs, htake⟩
  · exact ⟨none, 0, by rw [h0], by omega, fun e => absurd rfl e⟩
  · refine ⟨_, cap, rfl, hcap, fun _ => ⟨g, cur.toList.drop (xs.length * 1), rfl, hb, lt_of_block hg, ?_, (by
      have e : cur.toList.length = cap * 1 := by simpa using hs
      rw [List.length_drop, e]; omega), hm⟩⟩
    unfold RowIn
    rw [← htake, List.take_append_drop]
    exact hg
theorem ownM_row {w : World} {base : Nat} {v : Value} {ms : List Ms} (h : w.ownsRow base 96 2 v ms.length (mcells ms)) : OwnM base w.heap.size w v ms := by
  rcases h.2 with ⟨rfl, h0⟩ | ⟨g, cap, cur, rfl, hb, hg, hcap, hm, hs, htake⟩
  · exact ⟨none, 0, by rw [h0], by omega, fun e => absurd rfl e⟩
  · refine ⟨_, cap, rfl, hcap, fun _ => ⟨g, cur.toList.drop (ms.length * 2), rfl, hb, lt_of_block hg, ?_, (by
      have e : cur.toList.length = cap * 2 := by simpa using hs
      rw [List.length_drop, e]; omega), hm⟩⟩
    unfold MsgIn
    rw [← htake, List.take_append_drop]
    exact hg
theorem bcell {W w1 : World} (hb : Below W.heap.size W w1) : (∀ b o, b < W.heap.size → w1.cell? ⟨b, o, none⟩ = W.cell? ⟨b, o, none⟩) ∧ (∀ b o, b < W.heap.size → w1.frozen? ⟨b, o, none⟩ = W.frozen? ⟨b, o, none⟩) :=
  ⟨fun b o h => hb.cell (p := ⟨b, o, none⟩) h, fun b o h => hb.frozen (p := ⟨b, o, none⟩) h⟩
theorem setCell_keep {w : World} {g k o : Nat} {v : Value} {x : Obj} (h : w.heap[k]? = some x) (hne : k ≠ g) : (w.setCell ⟨g, o, none⟩ v).heap[k]? = some x := by
  rw [heap_setCell_other _ _ _ _ (by simpa using hne)]; exact h
/-- Thirteen cells are written. -/
def w13 (w : World) (g i : Nat) (o : Ob) (l d m : Value) : World := (((((((((((((w).setCell ⟨g, i, none⟩ (.int .i64 o.gen)).setCell ⟨g, i + 1, none⟩ (.int .i64 o.kind)).setCell ⟨g, i + 2, none⟩ (.int .i64 o.into)).setCell ⟨g, i + 3, none⟩ (.int .i64 o.res)).setCell ⟨g, i + 4, none⟩ (.int .i64 o.unt)).setCell ⟨g, i + 5, none⟩ (.int .i64 o.pages)).setCell ⟨g, i + 6, none⟩ (.int .i64 o.wait)).setCell ⟨g, i + 7, none⟩ (.int .i64 o.got)).setCell ⟨g, i + 8, none⟩ (.int .i64 o.ran)).setCell ⟨g, i + 9, none⟩ (.bool o.mark)).setCell ⟨g, i + 10, none⟩ (l)).setCell ⟨g, i + 11, none⟩ (d)).setCell ⟨g, i + 12, none⟩ (m)
theorem heap_w13 {w : World} {g : Nat} {t : TypeId} {xs : Array Value} (h : w.heap[g]? = some (.cells xs t (0, 0))) (i : Nat) (o : Ob) (l d m : Value) : (w13 w g i o l d m).heap[g]? = some (.cells ((((((((((((((xs).setIfInBounds (i) (.int .i64 o.gen)).setIfInBounds (i + 1) (.int .i64 o.kind)).setIfInBounds (i + 2) (.int .i64 o.into)).setIfInBounds (i + 3) (.int .i64 o.res)).setIfInBounds (i + 4) (.int .i64 o.unt)).setIfInBounds (i + 5) (.int .i64 o.pages)).setIfInBounds (i + 6) (.int .i64 o.wait)).setIfInBounds (i + 7) (.int .i64 o.got)).setIfInBounds (i + 8) (.int .i64 o.ran)).setIfInBounds (i + 9) (.bool o.mark)).setIfInBounds (i + 10) (l)).setIfInBounds (i + 11) (d)).setIfInBounds (i + 12) (m)) t (0, 0)) := by
  have h0 := heap_setCell_same w g (i) _ t (.int .i64 o.gen) h
  have h1 := heap_setCell_same _ g (i + 1) _ t (.int .i64 o.kind) h0
  have h2 := heap_setCell_same _ g (i + 2) _ t (.int .i64 o.into) h1
  have h3 := heap_setCell_same _ g (i + 3) _ t (.int .i64 o.res) h2
  have h4 := heap_setCell_same _ g (i + 4) _ t (.int .i64 o.unt) h3
  have h5 := heap_setCell_same _ g (i + 5) _ t (.int .i64 o.pages) h4
  have h6 := heap_setCell_same _ g (i + 6) _ t (.int .i64 o.wait) h5
  have h7 := heap_setCell_same _ g (i + 7) _ t (.int .i64 o.got) h6
  have h8 := heap_setCell_same _ g (i + 8) _ t (.int .i64 o.ran) h7
  have h9 := heap_setCell_same _ g (i + 9) _ t (.bool o.mark) h8
  have h10 := heap_setCell_same _ g (i + 10) _ t (l) h9
  have h11 := heap_setCell_same _ g (i + 11) _ t (d) h10
  have h12 := heap_setCell_same _ g (i + 12) _ t (m) h11
  exact h12
theorem heap_w13_new {w : World} {g : Nat} {t : TypeId} {a0 a1 a2 a3 a4 a5 a6 a7 a8 a9 a10 a11 a12 : Value} (h : w.heap[g]? = some (.cells #[a0, a1, a2, a3, a4, a5, a6, a7, a8, a9, a10, a11, a12] t (0, 0))) (o : Ob) (l d m : Value) : (w13 w g 0 o l d m).heap[g]? = some (.cells #[.int .i64 o.gen, .int .i64 o.kind, .int .i64 o.into, .int .i64 o.res, .int .i64 o.unt, .int .i64 o.pages, .int .i64 o.wait, .int .i64 o.got, .int .i64 o.ran, .bool o.mark, l, d, m] t (0, 0)) := by
  rw [heap_w13 h]
  simp
theorem heap_w13_other {w : World} {g k : Nat} {x : Obj} (h : w.heap[k]? = some x) (hne : k ≠ g) (i : Nat) (o : Ob) (l d m : Value) : (w13 w g i o l d m).heap[k]? = some x := by
  exact (setCell_keep (setCell_keep (setCell_keep (setCell_keep (setCell_keep (setCell_keep (setCell_keep (setCell_keep (setCell_keep (setCell_keep (setCell_keep (setCell_keep (setCell_keep h hne) hne) hne) hne) hne) hne) hne) hne) hne) hne) hne) hne) hne)
theorem below_w13 {B : Nat} {w w' : World} (h : Below B w w') {g : Nat} (hg : B ≤ g) (i : Nat) (o : Ob) (l d m : Value) : Below B w (w13 w' g i o l d m) := by
  exact (Below.setCell (Below.setCell (Below.setCell (Below.setCell (Below.setCell (Below.setCell (Below.setCell (Below.setCell (Below.setCell (Below.setCell (Below.setCell (Below.setCell (Below.setCell h hg _) hg _) hg _) hg _) hg _) hg _) hg _) hg _) hg _) hg _) hg _) hg _) hg _)
theorem size_w13 (w : World) (g i : Nat) (o : Ob) (l d m : Value) : (w13 w g i o l d m).heap.size = w.heap.size := by unfold w13; simp
theorem heap_alloc_at1 (w : World) (A B C : Obj) : (((w.alloc A).alloc B).alloc C).heap[w.heap.size + 1]? = some B := by
  have h := heap_alloc_new (w.alloc A) B
  rw [heap_alloc_old _ _ (by simp)]
  simpa using h
theorem szObj_any (o : Ob) (l d m : Value) (left : Int) (w : World) (hx : Lists w l d m o) (h0 : 0 ≤ left) (h1 : left ≤ 1048576) (n1 : o.ls.length ≤ 9223372036854775807) (n2 : o.ds.length ≤ 9223372036854775807) (n3 : o.qs.length ≤ 9223372036854775807) :
    Calls Tryz.prog 46 #[obV o l d m, .int .i64 left] w fun e w' => e = .returned (.int .i64 (szOf left (obN o))) ∧ Below w.heap.size w w' := by
  obtain ⟨⟨a, c, rfl, _, _⟩, ⟨a', c', rfl, _, _⟩, ⟨a'', c'', rfl, _, _⟩⟩ := hx
  have CA := fun w => szIntS_any a o.ls.length c left w h0 h1 n1
  have HB0 : Hid (Below w.heap.size w (w.alloc (boxOL o (.slice a o.ls.length c) (.slice a' o.ds.length c') (.slice a'' o.qs.length c'')))) := below_alloc w _
  by_cases hl : (o.ls.length : Int) ≤ left
  · rw [szOf_yes hl] at CA
    have hn1 : ¬ (left - (o.ls.length : Int) < 0) := by omega
    have CB := fun w => szIntS_any a' o.ds.length c' (left - o.ls.length) w (by omega) (by omega) n2
    by_cases hl2 : (o.ds.length : Int) ≤ left - o.ls.length
    · rw [szOf_yes hl2] at CB
      have hn2 : ¬ (left - (o.ls.length : Int) - (o.ds.length : Int) < 0) := by omega
      have CC := fun w => szMsgS_any a'' o.qs.length c'' (left - o.ls.length - o.ds.length) w (by omega) (by omega) n3
      by_cases hl3 : (o.qs.length : Int) ≤ left - o.ls.length - o.ds.length
      · rw [szOf_yes hl3] at CC
        have hn3 : ¬ (left - (o.ls.length : Int) - (o.ds.length : Int) - (o.qs.length : Int) < 0) := by omega
        have E : szOf left (obN o) = left - (o.ls.length : Int) - (o.ds.length : Int) - (o.qs.length : Int) := by rw [szOf_yes (by unfold obN; omega)]; unfold obN; omega
        rw [E]
        clear E
        go_enter Tryz.func46, Tryz.ntmps46
        go_wp2_with fail
        refine (CA _).mono ?_
        rintro e w1 ⟨rfl, rfl⟩
        go_wp2_with fail
        refine (CB _).mono ?_
        rintro e w1 ⟨rfl, rfl⟩
        go_wp2_with fail
        refine (CC _).mono ?_
        rintro e w1 ⟨rfl, rfl⟩
        go_wp2
        go_ret
        exact ⟨rfl, HB0.out⟩
      · rw [szOf_no hl3] at CC
        have E : szOf left (obN o) = -1 := szOf_no (by unfold obN; omega)
        rw [E]
        clear E
        go_enter Tryz.func46, Tryz.ntmps46
        go_wp2_with fail
        refine (CA _).mono ?_
        rintro e w1 ⟨rfl, rfl⟩
        go_wp2_with fail
        refine (CB _).mono ?_
        rintro e w1 ⟨rfl, rfl⟩
        go_wp2_with fail
        refine (CC _).mono ?_
        rintro e w1 ⟨rfl, rfl⟩
        go_wp2
        go_ret
        exact ⟨rfl, HB0.out⟩
    · rw [szOf_no hl2] at CB
      have E : szOf left (obN o) = -1 := szOf_no (by unfold obN; omega)
      rw [E]
      clear E
      go_enter Tryz.func46, Tryz.ntmps46
      go_wp2_with fail
      refine (CA _).mono ?_
      rintro e w1 ⟨rfl, rfl⟩
      go_wp2_with fail
      refine (CB _).mono ?_
      rintro e w1 ⟨rfl, rfl⟩
      go_wp2
      go_ret
      exact ⟨rfl, HB0.out⟩
  · rw [szOf_no hl] at CA
    have E : szOf left (obN o) = -1 := szOf_no (by unfold obN; omega)
    rw [E]
    clear E
    go_enter Tryz.func46, Tryz.ntmps46
    go_wp2_with fail
    refine (CA _).mono ?_
    rintro e w1 ⟨rfl, rfl⟩
    go_wp2
    go_ret
    exact ⟨rfl, HB0.out⟩
set_option maxHeartbeats 4000000 in
theorem toObj_any (o : Ob) (l d m : Value) (w : World) (hx : Lists w l d m o) (hn : obN o ≤ 1048576) :
    Calls Tryz.prog 51 #[obV o l d m] w fun e w' => (∃ l' d' m', e = .returned (obV o l' d' m') ∧ OwnO w.heap.size w'.heap.size w' l' d' m' o) ∧ Below w.heap.size w w' := by
  have CL : Hid (∀ w', Below w.heap.size w w' → _) := fun w' (hb : Below w.heap.size w w') => toIntS_any l o.ls w' (hx.ls.on hb) (by unfold obN at hn; omega)
  have CD : Hid (∀ w', Below w.heap.size w w' → _) := fun w' (hb : Below w.heap.size w w') => toIntS_any d o.ds w' (hx.ds.on hb) (by unfold obN at hn; omega)
  have CM : Hid (∀ w', Below w.heap.size w w' → _) := fun w' (hb : Below w.heap.size w w') => toMsgS_any m o.qs w' (hx.qs.on hb) (by unfold obN at hn; omega)
  obtain ⟨⟨a, c, rfl, _, _⟩, ⟨a', c', rfl, _, _⟩, ⟨a'', c'', rfl, _, _⟩⟩ := hx
  have HNN : Hid (o.ls.length ≤ maxLen ∧ o.ds.length ≤ maxLen ∧ o.qs.length ≤ maxLen) := by unfold obN at hn; simp only [maxLen]; exact ⟨by omega, by omega, by omega⟩
  clear hn
  go_enter Tryz.func51, Tryz.ntmps51
  go_wp2_with fail
  refine (CL.out _ (by go_grown)).mono ?_
  rintro e w1 ⟨rfl, hr1, hb1⟩
  obtain ⟨hc1, hf1⟩ := bcell hb1
  have HR1 := hid_of (show RowIn w1 (w.heap.size + 1 + 1 + 1) o.ls [] by simpa using hr1)
  have hz1 : w.heap.size + 1 + 1 + 1 < w1.heap.size := lt_of_block HR1.out
  have y10 : w.heap.size < w1.heap.size := by omega
  have y11 : w.heap.size + 1 < w1.heap.size := by omega
  have y12 : w.heap.size + 1 + 1 < w1.heap.size := by omega
  have HB1 : Hid (Below w.heap.size w w1) := below_more (by go_grown) hb1
  have HZ1 := hid_of (keep (show _ = some (Obj.cells #[.int .i64 0, .int .i64 0, .int .i64 0, .int .i64 0, .int .i64 0, .int .i64 0, .int .i64 0, .int .i64 0, .int .i64 0, .bool false, .slice none 0 0, .slice none 0 0, .slice none 0 0] 55 (0, 0)) from heap_alloc_at1 _ _ _ _) hb1)
  clear hb1 CL
  go_wp2_with fail
  refine (CD.out _ (HB1.out.setCell (by show _ ≤ _; first | omega | (simp; done) | (simp; omega)) _)).mono ?_
  rintro e w2 ⟨rfl, hr2, hb2⟩
  obtain ⟨hc2', hf2'⟩ := bcell hb2
  have hc2 := fun b o (h : b < w1.heap.size) => hc2' b o (by simpa using h)
  have hf2 := fun b o (h : b < w1.heap.size) => hf2' b o (by simpa using h)
  clear hc2' hf2'
  have HR2 := hid_of (show RowIn w2 w1.heap.size o.ds [] by simpa using hr2)
  have HR1' : Hid (RowIn w2 (w.heap.size + 1 + 1 + 1) o.ls []) := keep (setCell_keep HR1.out (by omega)) hb2
  have hz2 : w1.heap.size < w2.heap.size := lt_of_block HR2.out
  have y20 : w.heap.size < w2.heap.size := by omega
  have y21 : w.heap.size + 1 < w2.heap.size := by omega
  have y22 : w.heap.size + 1 + 1 < w2.heap.size := by omega
  have HB2 : Hid (Below w.heap.size w w2) := below_more (HB1.out.setCell (by show _ ≤ _; first | omega | (simp; done) | (simp; omega)) _) hb2
  have HZ2 := hid_of (keep (setCell_keep HZ1.out (by omega)) hb2)
  clear hb2 HB1 HR1 CD hr1 hr2 HZ1
  go_wp2_with fail
  refine (CM.out _ (HB2.out.setCell (by show _ ≤ _; first | omega | (simp; done) | (simp; omega)) _)).mono ?_
  rintro e w3 ⟨rfl, hr3, hb3⟩
  obtain ⟨hc3', hf3'⟩ := bcell hb3
  have hc3 := fun b o (h : b < w2.heap.size) => hc3' b o (by simpa using h)
  have hf3 := fun b o (h : b < w2.heap.size) => hf3' b o (by simpa using h)
  clear hc3' hf3'
  have HR3 := hid_of (show MsgIn w3 w2.heap.size o.qs [] by simpa using hr3)
  have HR1 : Hid (RowIn w3 (w.heap.size + 1 + 1 + 1) o.ls []) := keep (setCell_keep HR1'.out (by omega)) hb3
  have HR2' : Hid (RowIn w3 w1.heap.size o.ds []) := keep (setCell_keep HR2.out (by omega)) hb3
  have hz3 : w2.heap.size < w3.heap.size := lt_of_block HR3.out
  have HB3 : Hid (Below w.heap.size w w3) := below_more (HB2.out.setCell (by show _ ≤ _; first | omega | (simp; done) | (simp; omega)) _) hb3
  have HZ3 := keep (setCell_keep HZ2.out (by omega)) hb3
  clear hb3 HB2 HR1' HR2 CM hr3 HZ2
  go_wp2
  have HZ : Hid (w3.heap[w.heap.size + 1]? = some (.cells #[.int .i64 0, .int .i64 0, .int .i64 0, .int .i64 0, .int .i64 0, .int .i64 0, .int .i64 0, .int .i64 0, .int .i64 0, .bool false, .slice none 0 0, .slice none 0 0, .slice none 0 0] 55 (0, 0))) := HZ3
  clear hc1 hc2 hc3 hf1 hf2 hf3
  show bodyPost _ _ _ _ _ (w13 (w3.setCell ⟨w.heap.size + 1 + 1, 12, none⟩ (.slice (some ⟨w2.heap.size, 0, none⟩) o.qs.length o.qs.length)) (w.heap.size + 1) 0 o (.slice (some ⟨w.heap.size + 1 + 1 + 1, 0, none⟩) o.ls.length o.ls.length) (.slice (some ⟨w1.heap.size, 0, none⟩) o.ds.length o.ds.length) (.slice (some ⟨w2.heap.size, 0, none⟩) o.qs.length o.qs.length))
  have hs4 : ∀ k x, w3.heap[k]? = some x → k ≠ w.heap.size + 1 + 1 → k ≠ w.heap.size + 1 → (w13 (w3.setCell ⟨w.heap.size + 1 + 1, 12, none⟩ (.slice (some ⟨w2.heap.size, 0, none⟩) o.qs.length o.qs.length)) (w.heap.size + 1) 0 o (.slice (some ⟨w.heap.size + 1 + 1 + 1, 0, none⟩) o.ls.length o.ls.length) (.slice (some ⟨w1.heap.size, 0, none⟩) o.ds.length o.ds.length) (.slice (some ⟨w2.heap.size, 0, none⟩) o.qs.length o.qs.length)).heap[k]? = some x := fun k x h n1 n2 => heap_w13_other (setCell_keep h n1) n2 _ _ _ _ _
  have hB4 := below_w13 (HB3.out.setCell (p := ⟨w.heap.size + 1 + 1, 12, none⟩) (by show w.heap.size ≤ w.heap.size + 1 + 1; omega) (.slice (some ⟨w2.heap.size, 0, none⟩) o.qs.length o.qs.length)) (g := w.heap.size + 1) (by omega) 0 o (.slice (some ⟨w.heap.size + 1 + 1 + 1, 0, none⟩) o.ls.length o.ls.length) (.slice (some ⟨w1.heap.size, 0, none⟩) o.ds.length o.ds.length) (.slice (some ⟨w2.heap.size, 0, none⟩) o.qs.length o.qs.length)
  have hz4 := size_w13 (w3.setCell ⟨w.heap.size + 1 + 1, 12, none⟩ (.slice (some ⟨w2.heap.size, 0, none⟩) o.qs.length o.qs.length)) (w.heap.size + 1) 0 o (.slice (some ⟨w.heap.size + 1 + 1 + 1, 0, none⟩) o.ls.length o.ls.length) (.slice (some ⟨w1.heap.size, 0, none⟩) o.ds.length o.ds.length) (.slice (some ⟨w2.heap.size, 0, none⟩) o.qs.length o.qs.length)
  rw [show (w3.setCell ⟨w.heap.size + 1 + 1, 12, none⟩ (.slice (some ⟨w2.heap.size, 0, none⟩) o.qs.length o.qs.length)).heap.size = w3.heap.size by simp] at hz4
  have hfin := heap_w13_new (setCell_keep (g := w.heap.size + 1 + 1) (o := 12) (v := .slice (some ⟨w2.heap.size, 0, none⟩) o.qs.length o.qs.length) HZ.out (by omega)) o (.slice (some ⟨w.heap.size + 1 + 1 + 1, 0, none⟩) o.ls.length o.ls.length) (.slice (some ⟨w1.heap.size, 0, none⟩) o.ds.length o.ds.length) (.slice (some ⟨w2.heap.size, 0, none⟩) o.qs.length o.qs.length)
  generalize w13 (w3.setCell ⟨w.heap.size + 1 + 1, 12, none⟩ (.slice (some ⟨w2.heap.size, 0, none⟩) o.qs.length o.qs.length)) (w.heap.size + 1) 0 o (.slice (some ⟨w.heap.size + 1 + 1 + 1, 0, none⟩) o.ls.length o.ls.length) (.slice (some ⟨w1.heap.size, 0, none⟩) o.ds.length o.ds.length) (.slice (some ⟨w2.heap.size, 0, none⟩) o.qs.length o.qs.length) = W at hs4 hB4 hz4 hfin ⊢
  refine bodyPost_ret (v := obV o (.slice (some ⟨w.heap.size + 1 + 1 + 1, 0, none⟩) o.ls.length o.ls.length) (.slice (some ⟨w1.heap.size, 0, none⟩) o.ds.length o.ds.length) (.slice (some ⟨w2.heap.size, 0, none⟩) o.qs.length o.qs.length)) (by simp [results, go_sem, World.cell?, hfin]) rfl ⟨⟨_, _, _, rfl, ?_⟩, ?_⟩
  · refine own3 (a := w1.heap.size) (b := w2.heap.size) ?_ ?_ ?_ (by omega) (by omega) (by omega)
    · exact RowIn.own (rs := []) (hs4 _ _ HR1.out (by omega) (by omega)) (by omega) (by omega) (Nat.le_refl _) rfl HNN.out.1
    · exact RowIn.own (rs := []) (hs4 _ _ HR2'.out (by omega) (by omega)) (Nat.le_refl _) (by omega) (Nat.le_refl _) rfl HNN.out.2.1
    · exact MsgIn.own (rs := []) (hs4 _ _ HR3.out (by omega) (by omega)) (Nat.le_refl _) (by omega) (Nat.le_refl _) rfl HNN.out.2.2
  · exact hB4
set_option maxHeartbeats 4000000 in
theorem eqObj_same (o : Ob) (l d m l' d' m' : Value) (w : World) (hx : Lists w l d m o) (hy : Lists w l' d' m' o) (hn : obN o ≤ 1048576) :
    Calls Tryz.prog 59 #[obV o l d m, obV o l' d' m'] w fun e w' => e = .returned (.bool true) ∧ Below w.heap.size w w' := by
  have CL : Hid (∀ w', Below w.heap.size w w' → _) := fun w' (hb : Below w.heap.size w w') => eqIntS_any l l' o.ls o.ls w' (hx.ls.on hb) (hy.ls.on hb) (by unfold obN at hn; omega)
  have CD : Hid (∀ w', Below w.heap.size w w' → _) := fun w' (hb : Below w.heap.size w w') => eqIntS_any d d' o.ds o.ds w' (hx.ds.on hb) (hy.ds.on hb) (by unfold obN at hn; omega)
  have CM : Hid (∀ w', Below w.heap.size w w' → _) := fun w' (hb : Below w.heap.size w w') => eqMsgS_same m m' o.qs w' (hx.qs.on hb) (hy.qs.on hb) (by unfold obN at hn; omega)
  simp only [sameInts_refl] at CL CD
  obtain ⟨⟨a, c, rfl, _, _⟩, ⟨a', c', rfl, _, _⟩, ⟨a'', c'', rfl, _, _⟩⟩ := hx
  obtain ⟨⟨b, k, rfl, _, _⟩, ⟨b', k', rfl, _, _⟩, ⟨b'', k'', rfl, _, _⟩⟩ := hy
  clear hn
  have hne : ∀ x : Int, (x != x) = false := by simp
  have hbe : ∀ x : Bool, (x != x) = false := by simp
  go_enter Tryz.func59, Tryz.ntmps59
  go_wp2_with fail
  refine (CL.out _ (by go_grown)).mono ?_
  rintro e w1 ⟨rfl, hb1⟩
  obtain ⟨hc1, hf1⟩ := bcell hb1
  have hz1 := hb1.size
  have y10 : w.heap.size < w1.heap.size := by simp at hz1; omega
  have y11 : w.heap.size + 1 < w1.heap.size := by simp at hz1; omega
  have HB1 : Hid (Below w.heap.size w w1) := below_more (by go_grown) hb1
  clear hb1 CL
  go_wp2_with fail
  refine (CD.out _ HB1.out).mono ?_
  rintro e w2 ⟨rfl, hb2⟩
  obtain ⟨hc2, hf2⟩ := bcell hb2
  have hz2 := hb2.size
  have y20 : w.heap.size < w2.heap.size := by omega
  have y21 : w.heap.size + 1 < w2.heap.size := by omega
  have HB2 : Hid (Below w.heap.size w w2) := below_more HB1.out hb2
  clear hb2 CD HB1
  go_wp2_with fail
  refine (CM.out _ HB2.out).mono ?_
  rintro e w3 ⟨rfl, hb3⟩
  have HB3 : Hid (Below w.heap.size w w3) := below_more HB2.out hb3
  clear hb3 CM HB2 hc1 hc2 hf1 hf2
  go_wp2
  go_ret
  exact ⟨rfl, HB3.out⟩
end Go.Proofs.YtbdljoldblpffaaGreat
