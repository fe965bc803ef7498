/-
  Copies of lists of trees: the model's and the program's; are all of them right?
-/
import Derived.Test.YtfcenombphodbaaDoorWoodB
import Derived.Test.YtfcenombphodbaaDoorClone
import Derived.Maps.AppendAt
import Derived.Lib.SliceRun
namespace Go.Proofs.YtfcenombphodbaaDoor
open Go.RowKit
set_option linter.unusedVariables false
set_option maxRecDepth 100000

/-- Trees of the call's own in a row that grows. -/
structure RowW (base : Nat) (v : Value) (fs : List Leaf) (w : World) : Prop where
  row : w.ownsRow base 34 1 v fs.length (fs.map leafV)
  some' : v ≠ .slice none 0 0
  own : ∀ i, i < fs.length → OwnT (leafAt fs i).g (leafAt fs i).c (leafAt fs i).ts (leafAt fs i).rs base w.heap.size w
  ne : ∀ i, i < fs.length → v.ownBlock ≠ some (leafAt fs i).g
  apart : ∀ i j, i < j → j < fs.length → (leafAt fs i).g ≠ (leafAt fs j).g
theorem RowW.toOwn {base : Nat} {v : Value} {fs : List Leaf} {w : World} (h : RowW base v fs w) : ∃ g cap rest, v = .slice (some ⟨g, 0, none⟩) fs.length cap ∧ OwnW g cap fs rest base w.heap.size w := by
  rcases h.row.2 with ⟨h0, _⟩ | ⟨g, cap, cur, rfl, hb, hg, hcap, hm, hs, htake⟩
  · exact absurd h0 h.some'
  · refine ⟨g, cap, cur.toList.drop (fs.length * 1), rfl, ?_, hcap, hb, lt_of_block hg, h.own, fun i hi e => h.ne i hi (by simp [Value.ownBlock, e]), h.apart⟩
    rw [← htake, List.take_append_drop]
    exact hg
theorem RowW.on {base : Nat} {v : Value} {fs : List Leaf} {w w' : World} (h : RowW base v fs w) (hb : Below w.heap.size w w') : RowW base v fs w' := by
  refine ⟨⟨h.row.1, ?_⟩, h.some', fun i hi => ((h.own i hi).on hb).more, h.ne, h.apart⟩
  rcases h.row.2 with h0 | ⟨g, cap, cur, e, hb', hg, hrest⟩
  · exact .inl h0
  · exact .inr ⟨g, cap, cur, e, hb', keep hg hb, hrest⟩
theorem rowW_empty (w : World) : RowW w.heap.size (.slice (some ⟨w.heap.size, 0, none⟩) 0 0) [] (w.alloc (.cells #[] 34 (0, 0))) :=
  ⟨⟨by simp, .inr ⟨w.heap.size, 0, #[], rfl, Nat.le_refl _, heap_alloc_new w _, Nat.le_refl _, Nat.zero_le _, by simp, by simp⟩⟩, by simp, fun i hi => absurd hi (by simp), fun i hi => absurd hi (by simp), fun i j _ hj => absurd hj (by simp)⟩
theorem ownBlock_lt {w : World} {base : Nat} {e : TypeId} {size n : Nat} {v : Value} {xs : List Value} (h : w.ownsRow base e size v n xs) (k : Nat) (hk : v.ownBlock = some k) : base ≤ k ∧ k < w.heap.size := h.lt k hk
/-- One more is appended: it lies in a new block of its own, and so does its tree. -/
theorem wpList_appW {ops : Array Oper} {rest : List Oper} {o : Oper} {a : Act} {Q : Exit → Act → World → Prop} (hgd : o.guard = none) (s x : Operand)
    (ho : o.op = .call { callee := .builtin .append, args := #[s, x], argTypes := #[24, 24] }) (w0 w1 : World) (base m : Nat) (v : Value) (fs : List Leaf) (f : Leaf)
    (hs : a.eval s = v) (hx : a.eval x = .slice (some ⟨w1.heap.size, 0, none⟩) 1 1) (hR : RowW base v fs w1) (hm : m ≤ f.g) (hbm : base ≤ m) (hf : OwnT f.g f.c f.ts f.rs m w1.heap.size w1) (hfr : ∀ i, i < fs.length → (leafAt fs i).g < m) (hvm : ∀ k, v.ownBlock = some k → k < m)
    (hn : fs.length ≤ 1048576) (hbase : base ≤ w1.heap.size) (hnx : Below base w0 w1)
    (h : ∀ v' w', Hid (RowW base v' (fs ++ [f]) w') → Hid (Below base w0 w') → wpList Tryd.prog ops Q rest (a.put o.dst v') w') : wpList Tryd.prog ops Q (o :: rest) a (w1.alloc (.cells #[leafV f] 34 (0, 0))) := by
  obtain ⟨i0, hi, hz0, hz1, hz2⟩ := info_parts infoTree
  have hR' := hR.on (below_alloc w1 (.cells #[leafV f] 34 (0, 0)))
  refine wpList_append_own_at _ hgd s x 24 ho base 34 i0 _ 1 24 Tryd.underlying24 hi hz0 hz1 hz2 rfl (by decide) v fs.length (fs.map leafV) hs hR'.row ⟨w1.heap.size, 0, none⟩ 1 1 [leafV f] hx rfl (cell_one_new _ _ _) (by intro u hu; simp at hu; subst hu; rfl) (by simp only [maxLen]; omega) (by omega) (by simp; omega) ?_
  intro v' w' h1 h2 h3 h4
  have hfm := hf.hi
  refine h v' w' ⟨by simpa using h1, fun e => ?_, fun i hi' => ?_, fun i hi' => ?_, fun i j hij hj => ?_⟩ ?_
  · exact hR.some' ((h3.1 e).1)
  · rw [List.length_append, List.length_singleton] at hi'
    have hk : ∀ {ts : List Re} {rs : List Value} {c g : Nat}, OwnT g c ts rs base w1.heap.size w1 → v.ownBlock ≠ some g → OwnT g c ts rs base w'.heap.size w' := fun {ts rs c g} ho hne => by
      have e1 := (ho.on (below_alloc w1 (.cells #[leafV f] 34 (0, 0)))).at'
      have e2 := grown_kept h2 e1 hne
      exact ⟨e2, ho.cap, ho.lo, lt_of_block e2⟩
    by_cases hlt : i < fs.length
    · rw [leafAt_push_old hlt]
      exact hk (hR.own i hlt) (hR.ne i hlt)
    · obtain rfl : i = fs.length := by omega
      rw [leafAt_push_new]
      exact hk (hf.lower hbm) (fun e => by have := hvm _ e; omega)
  · rw [List.length_append, List.length_singleton] at hi'
    by_cases hlt : i < fs.length
    · rw [leafAt_push_old hlt]
      rcases h4 with e | e
      · rw [e]; exact hR.ne i hlt
      · rw [e]
        have := (hR.own i hlt).hi
        simp
        omega
    · obtain rfl : i = fs.length := by omega
      rw [leafAt_push_new]
      rcases h4 with e | e
      · rw [e]; exact fun e => by have := hvm _ e; omega
      · rw [e]
        simp
        omega
  · rw [List.length_append, List.length_singleton] at hj
    by_cases hlt : j < fs.length
    · rw [leafAt_push_old hlt, leafAt_push_old (by omega)]; exact hR.apart i j hij hlt
    · obtain rfl : j = fs.length := by omega
      rw [leafAt_push_new, leafAt_push_old hij]
      have := hfr i hij
      omega
  · exact ((hnx.trans ((below_alloc w1 _).mono hbase)).grown h2 (by simp; omega) (fun k hk => (hR'.row.lt k hk).1))
/-- A list of trees of the call's own is handed back. -/
def WoodAns (tss : List (List Re)) (w : World) (e : Ending) (w' : World) : Prop := ∃ g c fs rest, e = .returned (.slice (some ⟨g, 0, none⟩) tss.length c) ∧ leafTs fs = tss ∧ OwnW g c fs rest w.heap.size w'.heap.size w' ∧ Below w.heap.size w w'
theorem IsWood.at {w : World} {p0 : Addr} {n cap : Nat} {tss : List (List Re)} (h : IsWood w (.slice (some p0) n cap) tss) {i : Nat} (hi : i < tss.length) : ∃ q q' c, p0.add i = q ∧ w.cell? q = some (.slice (some q') (treeAt tss i).length c) ∧ IsTree w (.slice (some q') (treeAt tss i).length c) (treeAt tss i) := by
  obtain ⟨p, cap', hv, _, hx⟩ := h
  cases hv
  obtain ⟨q, c, h1, h2⟩ := hx i hi
  exact ⟨_, q, c, rfl, h1, h2⟩
set_option maxHeartbeats 4000000 in
theorem specCopies_any (p : Addr) (cap : Nat) (tss : List (List Re)) (w : World) (hx : IsWood w (.slice (some p) tss.length cap) tss) (hn : tss.length ≤ 1048576) (ht : ∀ i, (treeAt tss i).length ≤ 1048576) :
    Calls Tryd.prog 23 #[.slice (some p) tss.length cap] w fun e w' => WoodAns tss w e w' := by
  have HX : Hid (∀ wr, Below w.heap.size w wr → IsWood wr (.slice (some p) tss.length cap) tss) := fun wr hb => hx.on hb
  have HT : Hid (∀ i, (treeAt tss i).length ≤ 1048576) := ht
  have H0 : Hid (RowW w.heap.size (.slice (some ⟨w.heap.size, 0, none⟩) 0 0) [] (w.alloc (.cells #[] 34 (0, 0)))) := rowW_empty w
  have HB0 : Hid (Below w.heap.size w (w.alloc (.cells #[] 34 (0, 0)))) := below_alloc w _
  clear hx ht
  go_enter Tryd.func23, Tryd.ntmps23
  go_wp2
  obtain ⟨V, hV⟩ : ∃ V, V = (w.alloc (.cells #[] 34 (0, 0))) := ⟨_, rfl⟩
  rw [← hV] at H0 HB0 ⊢
  obtain ⟨v0, hv0⟩ : ∃ v, v = Value.slice (some ⟨w.heap.size, 0, none⟩) 0 0 := ⟨_, rfl⟩
  rw [← hv0] at H0
  clear hV
  go_loopw [3, 4] (fun s i wr => ∃ (k : Nat) (v : Value), k ≤ tss.length ∧ i = .int .i64 k ∧ v = s ∧ Hid (∃ fs, leafTs fs = tss.take k ∧ RowW w.heap.size v fs wr) ∧ Below w.heap.size w wr) (fun _ i _ => tss.length - (intOf i).toNat)
  case atStart => exact ⟨0, _, Nat.zero_le _, rfl, rfl, ⟨[], rfl, by rw [← hv0]; exact H0.out⟩, HB0.out⟩
  case round =>
    obtain ⟨k, v, hk, rfl, rfl, hrow, hnx⟩ := hrel
    clear H0 HB0 hv0
    by_cases hlt : k < tss.length
    · obtain ⟨q, q', c, hq, hc, hu⟩ := (HX.out wr hnx).at hlt
      have C := specCopy_any q' (treeAt tss k).length c (treeAt tss k) wr hu rfl (HT.out k)
      have HK : Hid (leafTs (hrow.out.choose) = tss.take k ∧ RowW w.heap.size v hrow.out.choose wr) := hrow.out.choose_spec
      generalize hrow.out.choose = fs at HK
      have hfl : fs.length = k := by have := congrArg List.length HK.out.1; rw [leafTs_length, List.length_take] at this; omega
      have HT1 : Hid (tss.take (k + 1) = tss.take k ++ [treeAt tss k]) := take_tree hlt
      generalize treeAt tss k = ts at C HT1 hc
      clear hrow hu
      go_wp2_with fail
      refine C.mono ?_
      rintro e w1 ⟨g1, c1, rs, rfl, ho, hb⟩
      have HB1 := hid_of (hnx.trans (hb.mono hnx.size))
      have HR1 := hid_of (HK.out.2.on hb)
      have HF1 : Hid (OwnT g1 c1 ts rs wr.heap.size w1.heap.size w1) := ho
      have HFR : Hid (∀ i, i < fs.length → (leafAt fs i).g < wr.heap.size) := fun i hi => (HK.out.2.own i hi).hi
      have HVM : Hid (∀ m, v.ownBlock = some m → m < wr.heap.size) := fun m hm => (HK.out.2.row.lt m hm).2
      have HWS : Hid (w.heap.size ≤ wr.heap.size ∧ wr.heap.size ≤ w1.heap.size) := ⟨hnx.size, hb.size⟩
      have HTK : Hid (leafTs fs = tss.take k) := HK.out.1
      have hf6 : fs.length ≤ 1048576 := by omega
      clear C ho hb hnx hc hq HK
      go_wp2_with (refine wpList_appW rfl (.tmp 12) (.tmp 20) rfl w w1 w.heap.size wr.heap.size v fs ⟨g1, c1, ts, rs⟩ rfl rfl HR1.out HF1.out.lo HWS.out.1 HF1.out HFR.out HVM.out hf6 (Nat.le_trans HWS.out.1 HWS.out.2) HB1.out ?_; intro v' w' hrw hbw)
      go_roundw
      case rel => exact ⟨k + 1, _, by omega, by go_num, rfl, ⟨_, by rw [leafTs_push, HTK.out, HT1.out], hrw.out⟩, hbw.out⟩
      case measure => simp [intOf]; omega
    · obtain rfl : k = tss.length := by omega
      obtain ⟨fs, h1, h2⟩ := hrow.out
      rw [List.take_length] at h1
      obtain ⟨g, cp, rest, rfl, ho⟩ := h2.toOwn
      have HE : Hid (leafTs fs = tss ∧ OwnW g cp fs rest w.heap.size wr.heap.size wr) := ⟨h1, ho⟩
      have hfl : fs.length = tss.length := by rw [← h1, leafTs_length]
      rw [hfl]
      clear hrow h1 h2 ho hfl
      go_wp2
      go_ret
      exact ⟨g, cp, fs, rest, rfl, HE.out.1, HE.out.2, hnx⟩
theorem wood_cells {w : World} {p : Addr} {n cap : Nat} {tss : List (List Re)} (h : IsWood w (.slice (some p) n cap) tss) : ∃ vs : List Value, vs.length = tss.length ∧ (∀ (j : Nat) u, vs[j]? = some u → w.cell? (p.add j) = some u) ∧ (∀ u ∈ vs, u.oneCell' = true) ∧ ∀ i, i < tss.length → ∃ q c, vs[i]? = some (.slice (some q) (treeAt tss i).length c) ∧ IsTree w (.slice (some q) (treeAt tss i).length c) (treeAt tss i) := by
  obtain ⟨p', cap', hv, _, hx⟩ := h
  cases hv
  obtain ⟨V, hV⟩ : ∃ V : Nat → Value, ∀ i, i < tss.length → ∃ q c, V i = .slice (some q) (treeAt tss i).length c ∧ w.cell? (p.add i) = some (V i) ∧ IsTree w (V i) (treeAt tss i) :=
    ⟨fun i => if h : i < tss.length then .slice (some (hx i h).choose) (treeAt tss i).length (hx i h).choose_spec.choose else .bool false, fun i hi => by
      simp only [hi, dif_pos]
      exact ⟨_, _, rfl, (hx i hi).choose_spec.choose_spec.1, (hx i hi).choose_spec.choose_spec.2⟩⟩
  refine ⟨(List.range tss.length).map V, by simp, fun j u hj => ?_, fun u hu => ?_, fun i hi => ?_⟩
  · rw [List.getElem?_map] at hj
    by_cases hl : j < tss.length
    · simp [hl] at hj
      obtain ⟨q, c, h1, h2, h3⟩ := hV j hl
      rw [← hj]; exact h2
    · simp [List.getElem?_eq_none (by simp; omega : (List.range tss.length).length ≤ j)] at hj
  · obtain ⟨i, hi, rfl⟩ := List.mem_map.1 hu
    obtain ⟨q, c, h1, _⟩ := hV i (by simpa using hi)
    rw [h1]; rfl
  · obtain ⟨q, c, h1, _, h3⟩ := hV i hi
    exact ⟨q, c, by simp [hi, h1], by rw [← h1]; exact h3⟩
/-- append([]Tree{}, l...), as one step. -/
theorem wpList_copyW {ops : Array Oper} {rest : List Oper} {o : Oper} {a : Act} {Q : Exit → Act → World → Prop} (hgd : o.guard = none) (s x : Operand)
    (ho : o.op = .call { callee := .builtin .append, args := #[s, x], argTypes := #[24, 24] }) (w : World) (p : Addr) (n cap : Nat) (vs : List Value)
    (hs : a.eval s = .slice (some ⟨w.heap.size, 0, none⟩) 0 0) (hx : a.eval x = .slice (some p) n cap) (hl : vs.length = n) (hcell : ∀ (j : Nat) u, vs[j]? = some u → w.cell? (p.add j) = some u) (h1 : ∀ u ∈ vs, u.oneCell' = true) (hb : n ≤ 1048576)
    (h : ∀ g c rs w', Hid (w'.heap[g]? = some (.cells (vs ++ rs).toArray 34 (0, 0)) ∧ n ≤ c ∧ w.heap.size ≤ g) → Hid (Below w.heap.size w w') → wpList Tryd.prog ops Q rest (a.put o.dst (.slice (some ⟨g, 0, none⟩) n c)) w') : wpList Tryd.prog ops Q (o :: rest) a (w.alloc (.cells #[] 34 (0, 0))) := by
  obtain ⟨i0, hi, hz0, hz1, hz2⟩ := info_parts infoTree
  refine wpList_append_own _ hgd s x 24 ho w.heap.size 34 i0 _ 1 24 Tryd.underlying24 hi hz0 hz1 hz2 rfl (by decide) _ 0 [] hs (rowW_empty w).row p n cap vs hx (by omega) (fun j u hj => ?_) h1 (by simp only [maxLen]; omega) (by omega) (by simp) ?_
  · have e := hcell j u hj
    exact ((below_alloc w _).cell (World.block_lt_of_cell? w _ e)).trans e
  intro v' w' h2 h3 h4
  rw [Nat.zero_add, List.nil_append] at h2
  have hne : v' ≠ .slice none 0 0 := fun e => by have := (h4.1 e).1; cases this
  rcases h2.2 with ⟨h0, _⟩ | ⟨g, cap', cur, rfl, hbg, hg, hcap, hm, hsz, htake⟩
  · exact absurd h0 hne
  · refine h g cap' (cur.toList.drop (n * 1)) w' ⟨?_, hcap, hbg⟩ ?_
    · rw [← htake, List.take_append_drop]; exact hg
    · exact (below_alloc w _).grown h3 (by simp) (fun k hk => by simp [Value.ownBlock] at hk; omega)
set_option maxHeartbeats 1000000 in
theorem implCloneW (p : Addr) (n cap : Nat) (vs : List Value) (w : World) (hl : vs.length = n) (hcell : ∀ (j : Nat) u, vs[j]? = some u → w.cell? (p.add j) = some u) (h1 : ∀ u ∈ vs, u.oneCell' = true) (hb : n ≤ 1048576) :
    Calls Tryd.prog 47 #[.slice (some p) n cap] w fun e w' => ∃ g c rs, e = .returned (.slice (some ⟨g, 0, none⟩) n c) ∧ (w'.heap[g]? = some (.cells (vs ++ rs).toArray 34 (0, 0)) ∧ n ≤ c ∧ w.heap.size ≤ g) ∧ Below w.heap.size w w' := by
  have HC : Hid (∀ (j : Nat) u, vs[j]? = some u → w.cell? (p.add j) = some u) := hcell
  have H1 : Hid (∀ u ∈ vs, u.oneCell' = true) := h1
  have HL : Hid (vs.length = n) := hl
  have q22 : ∀ (w : World) (a : Option Addr) (n c n' c' : Nat), (binOp .eql 24 (.slice a n c) (.slice none n' c')).run Tryd.prog w = .ok (.bool a.isNone) w := fun w a n c n' c' => Lib.run_eql_slice_nil w _ _ a n c n' c' Tryd.underlying24
  clear hcell h1 hl
  go_enter Tryd.func47, Tryd.ntmps47
  go_wp2_with (refine wpList_copyW rfl (.tmp 5) (.tmp 6) rfl w p n cap vs rfl rfl HL.out HC.out H1.out hb ?_; intro g c rs w' ho hb)
  go_ret
  exact ⟨g, c, rs, rfl, ho.out, hb.out⟩
set_option maxHeartbeats 4000000 in
theorem implCopies_any (p : Addr) (cap : Nat) (tss : List (List Re)) (w : World) (hx : IsWood w (.slice (some p) tss.length cap) tss) (hn : tss.length ≤ 1048576) (ht : ∀ i, (treeAt tss i).length ≤ 1048576) :
    Calls Tryd.prog 18 #[.slice (some p) tss.length cap] w fun e w' => WoodAns tss w e w' := by
  obtain ⟨vs, hl, hcell, hone, htree⟩ := wood_cells hx
  have C := implCloneW p tss.length cap vs w hl hcell hone hn
  have HVT : Hid (∀ i, i < tss.length → ∃ q c, vs[i]? = some (.slice (some q) (treeAt tss i).length c) ∧ IsTree w (.slice (some q) (treeAt tss i).length c) (treeAt tss i)) := htree
  have HT : Hid (∀ i, (treeAt tss i).length ≤ 1048576) := ht
  have HL : Hid (vs.length = tss.length) := hl
  clear hx ht hl hcell hone htree
  go_enter Tryd.func18, Tryd.ntmps18
  go_wp2_with fail
  refine C.mono ?_
  rintro e w0 ⟨g, cp, rs, rfl, hg, hb0⟩
  have HB0 : Hid (Below w.heap.size w w0) := hb0
  have hcap : tss.length ≤ cp := hg.2.1
  have H0 : Hid (OwnW g cp [] (vs ++ rs) w.heap.size w0.heap.size w0) := ⟨hg.1, Nat.zero_le _, hg.2.2, lt_of_block hg.1, fun i hi => absurd hi (by simp), fun i hi => absurd hi (by simp), fun i j _ hj => absurd hj (by simp)⟩
  clear C hg hb0
  go_wp2
  go_loopw [9] (fun i wr => ∃ (k : Nat), k ≤ tss.length ∧ i = .int .i64 k ∧ Hid (∃ fs, leafTs fs = tss.take k ∧ OwnW g cp fs (vs.drop k ++ rs) w.heap.size wr.heap.size wr) ∧ Below w.heap.size w wr) (fun i _ => tss.length - (intOf i).toNat)
  case atStart => exact ⟨0, Nat.zero_le _, rfl, ⟨[], rfl, H0.out⟩, HB0.out⟩
  case round =>
    obtain ⟨k, hk, rfl, hrow, hnx⟩ := hrel
    clear H0 HB0
    by_cases hlt : k < tss.length
    · obtain ⟨q, c, hv, hu⟩ := HVT.out k hlt
      have C := implClone_any q (treeAt tss k).length c (treeAt tss k) wr (hu.on hnx) rfl (HT.out k)
      have HK : Hid (leafTs (hrow.out.choose) = tss.take k ∧ OwnW g cp hrow.out.choose (vs.drop k ++ rs) w.heap.size wr.heap.size wr) := hrow.out.choose_spec
      generalize hrow.out.choose = fs at HK
      have hfl : fs.length = k := by have := congrArg List.length HK.out.1; rw [leafTs_length, List.length_take] at this; omega
      have HT1 : Hid (tss.take (k + 1) = tss.take k ++ [treeAt tss k]) := take_tree hlt
      generalize treeAt tss k = ts at C HT1 hv hu
      have hkv : k < vs.length := by rw [HL.out]; exact hlt
      have hv' : vs[k] = .slice (some q) ts.length c := by rw [List.getElem?_eq_getElem hkv] at hv; simpa using hv
      have hdrop : vs.drop k ++ rs = .slice (some q) ts.length c :: (vs.drop (k + 1) ++ rs) := by rw [List.drop_eq_getElem_cons hkv, hv']; rfl
      have hown := HK.out.2
      rw [hdrop] at hown
      have d0 : wr.cell? ⟨g, k, none⟩ = some (.slice (some q) ts.length c) := by
        have e := hown.at'
        simp only [World.cell?, e, List.getElem?_toArray]
        rw [List.getElem?_append_right (by simp [hfl])]
        simp [hfl]
      have HOW : Hid (OwnW g cp fs (.slice (some q) ts.length c :: (vs.drop (k + 1) ++ rs)) w.heap.size wr.heap.size wr) := hown
      have HTK : Hid (leafTs fs = tss.take k) := HK.out.1
      clear hrow hu hv hv' hkv hdrop hown HK
      go_wp2_with fail
      refine C.mono ?_
      rintro e w1 ⟨g1, c1, rs1, rfl, ho, hb1⟩
      have hown := HOW.out.on hb1
      have h3 := hown.push (f := ⟨g1, c1, ts, rs1⟩) ho (by omega)
      have c0 : w1.cell? ⟨g, k, none⟩ = some (.slice (some q) ts.length c) := by
        have e := hown.at'
        simp only [World.cell?, e, List.getElem?_toArray]
        rw [List.getElem?_append_right (by simp [hfl])]
        simp [hfl]
      have f0 := hown.free k
      rw [hfl] at h3
      have H2 : Hid (∃ fs, leafTs fs = tss.take (k + 1) ∧ OwnW g cp fs (vs.drop (k + 1) ++ rs) w.heap.size (w1.setCell ⟨g, k, none⟩ (.slice (some ⟨g1, 0, none⟩) ts.length c1)).heap.size (w1.setCell ⟨g, k, none⟩ (.slice (some ⟨g1, 0, none⟩) ts.length c1))) :=
        ⟨fs ++ [⟨g1, c1, ts, rs1⟩], by rw [leafTs_push, HTK.out, HT1.out], h3.more⟩
      have hnx' : Below w.heap.size w (w1.setCell ⟨g, k, none⟩ (.slice (some ⟨g1, 0, none⟩) ts.length c1)) := (below_more hnx hb1).setCell (p := ⟨g, k, none⟩) hown.lo _
      clear C hb1 hnx hown h3 ho HOW HT1 HTK hfl d0
      go_wp2
      go_roundw
      case rel => exact ⟨k + 1, by omega, by go_num, H2, hnx'⟩
      case measure => simp [intOf]; omega
    · obtain rfl : k = tss.length := by omega
      have hend : Hid (∃ fs rest, leafTs fs = tss ∧ OwnW g cp fs rest w.heap.size wr.heap.size wr) := by
        obtain ⟨fs, h1, h2⟩ := hrow.out
        rw [List.take_length] at h1
        exact ⟨fs, _, h1, h2⟩
      clear hrow
      go_wp2
      go_ret
      obtain ⟨fs, rest, h1, h2⟩ := hend.out
      exact ⟨g, cp, fs, rest, rfl, h1, h2, hnx⟩
end Go.Proofs.YtfcenombphodbaaDoor
