/-
  Copies of an arena: the model's.
-/
import Derived.Test.YtbdljoldblpffaaGreatCopyA
namespace Go.Proofs.YtbdljoldblpffaaGreat
open Go.RowKit
set_option linter.unusedVariables false
set_option maxRecDepth 100000

theorem OwnI.keepIf9 {lo hi : Nat} {w w' : World} {v : Value} {xs : List Int} (h : OwnI lo hi w v xs) (hk : ∀ b x, b ∈ Go.Proofs.YtbdljoldblpffaaGreat.blk v → w.heap[b]? = some x → w'.heap[b]? = some x) : OwnI lo hi w' v xs := by
  obtain ⟨a, c, rfl, hc, hx⟩ := h
  refine ⟨a, c, rfl, hc, fun h0 => ?_⟩
  obtain ⟨b, rs, rfl, h1, h2, h3, h4⟩ := hx h0
  exact ⟨b, rs, rfl, h1, h2, hk _ _ (by rw [blk_one _ h0]; simp) h3, h4⟩
theorem OwnM.keepIf9 {lo hi : Nat} {w w' : World} {v : Value} {ms : List Ms} (h : OwnM lo hi w v ms) (hk : ∀ b x, b ∈ Go.Proofs.YtbdljoldblpffaaGreat.blk v → w.heap[b]? = some x → w'.heap[b]? = some x) : OwnM lo hi w' v ms := by
  obtain ⟨a, c, rfl, hc, hx⟩ := h
  refine ⟨a, c, rfl, hc, fun h0 => ?_⟩
  obtain ⟨b, rs, rfl, h1, h2, h3, h4⟩ := hx h0
  exact ⟨b, rs, rfl, h1, h2, hk _ _ (by rw [blk_one _ h0]; simp) h3, h4⟩
/-- Things of the call's own in a row that grows. -/
structure RowO (base : Nat) (v : Value) (es : List El) (w : World) : Prop where
  row : w.ownsRow base 55 13 v es.length (ecells es)
  some' : v ≠ .slice none 0 0
  own : ∀ i, i < es.length → OwnO base w.heap.size w (elAt es i).l (elAt es i).d (elAt es i).m (elAt es i).o
  ne : ∀ i, i < es.length → ∀ b, v.ownBlock = some b → b ∉ blks (elAt es i)
  apart : ∀ i j, i < j → j < es.length → ∀ b, b ∈ blks (elAt es i) → b ∉ blks (elAt es j)
theorem RowO.toOwn {base : Nat} {v : Value} {es : List El} {w : World} (h : RowO base v es w) : ∃ g cap rest, v = .slice (some ⟨g, 0, none⟩) es.length cap ∧ OwnA g cap es rest base w.heap.size w := by
  rcases h.row.2 with ⟨h0, _⟩ | ⟨g, cap, cur, rfl, hb, hg, hcap, hm, hs, htake⟩
  · exact absurd h0 h.some'
  · refine ⟨g, cap, cur.toList.drop (es.length * 13), rfl, ?_, hcap, hb, lt_of_block hg, h.own, fun i hi => h.ne i hi g rfl, h.apart⟩
    rw [← htake, List.take_append_drop]
    exact hg
theorem RowO.on {base : Nat} {v : Value} {es : List El} {w w' : World} (h : RowO base v es w) (hb : Below w.heap.size w w') : RowO base v es w' := by
  refine ⟨⟨h.row.1, ?_⟩, h.some', fun i hi => (h.own i hi).on hb (Nat.le_refl _) hb.size, h.ne, h.apart⟩
  rcases h.row.2 with h0 | ⟨g, cap, cur, e, hb', hg, hrest⟩
  · exact .inl h0
  · exact .inr ⟨g, cap, cur, e, hb', keep hg hb, hrest⟩
theorem rowO_empty (w : World) : RowO w.heap.size (.slice (some ⟨w.heap.size, 0, none⟩) 0 0) [] (w.alloc (.cells #[] 55 (0, 0))) :=
  ⟨owns0O w, by simp, fun i hi => absurd hi (by simp), fun i hi => absurd hi (by simp), fun i j _ hj => absurd hj (by simp)⟩
/-- One more is appended: it lies in a new block of its own, and so do its lists. -/
theorem wpList_appO {ops : Array Oper} {rest : List Oper} {o : Oper} {a : Act} {Q : Exit → Act → World → Prop} (hgd : o.guard = none) (s x : Operand)
    (ho : o.op = .call { callee := .builtin .append, args := #[s, x], argTypes := #[29, 29] }) (w0 w1 : World) (base m : Nat) (v : Value) (es : List El) (ob : Ob) (l d mm : Value)
    (hs : a.eval s = v) (hx : a.eval x = .slice (some ⟨w1.heap.size, 0, none⟩) 1 1) (hR : RowO base v es w1) (hbm : base ≤ m) (hf : OwnO m w1.heap.size w1 l d mm ob) (hfr : ∀ i, i < es.length → ∀ b, b ∈ blks (elAt es i) → b < m) (hvm : ∀ k, v.ownBlock = some k → k < m)
    (hn : es.length ≤ 1048576) (hbase : base ≤ w1.heap.size) (hnx : Below base w0 w1)
    (h : ∀ v' w', Hid (RowO base v' (es ++ [⟨ob, l, d, mm⟩]) w') → Hid (Below base w0 w') → wpList Tryz.prog ops Q rest (a.put o.dst v') w') : wpList Tryz.prog ops Q (o :: rest) a (w1.alloc (boxO ob l d mm)) := by
  obtain ⟨i0, hi, hz0, hz1, hz2⟩ := info_parts infoObj
  have hR' := hR.on (below_alloc w1 (boxO ob l d mm))
  have hone : ∀ u ∈ elV ⟨ob, l, d, mm⟩, u.oneCell' = true := fun u hu => by
    obtain ⟨a1, b1, e1, _⟩ := hf.ls
    obtain ⟨a2, b2, e2, _⟩ := hf.ds
    obtain ⟨a3, b3, e3, _⟩ := hf.qs
    unfold elV at hu
    rw [e1, e2, e3] at hu
    simp only [List.mem_cons, List.not_mem_nil, or_false] at hu
    rcases hu with rfl | rfl | rfl | rfl | rfl | rfl | rfl | rfl | rfl | rfl | rfl | rfl | rfl <;> rfl
  have hnews : ∀ (j : Nat) u, (elV ⟨ob, l, d, mm⟩)[j]? = some u → (w1.alloc (boxO ob l d mm)).cell? ((⟨w1.heap.size, 0, none⟩ : Addr).add j) = some u := fun j u hj => by
    rw [add_head]
    simp only [World.cell?, heap_alloc_new w1 (boxO ob l d mm)]
    refine (if_neg (by simp)).trans ?_
    rw [← Array.getElem?_toList]
    exact hj
  refine wpList_append_own_at _ hgd s x 29 ho base 55 i0 _ 13 152 Tryz.underlying29 hi hz0 hz1 hz2 rfl (by decide) v es.length (ecells es) hs hR'.row ⟨w1.heap.size, 0, none⟩ 1 1 (elV ⟨ob, l, d, mm⟩) hx rfl hnews hone (by simp only [maxLen]; omega) (by omega) (by simp; omega) ?_
  intro v' w' h1 h2 h3 h4
  have hkeep : ∀ {lo hi : Nat} {l d m : Value} {q : Ob}, OwnO lo hi w1 l d m q → (∀ b, v.ownBlock = some b → b ∉ blk l ++ blk d ++ blk m) → OwnO lo hi w' l d m q := fun {lo hi l d m q} ho hne =>
    ⟨ho.ls.keepIf9 (fun b x hb hx => grown_kept h2 (keep hx (below_alloc w1 _)) (fun e => hne b e (by simp [hb]))), ho.ds.keepIf9 (fun b x hb hx => grown_kept h2 (keep hx (below_alloc w1 _)) (fun e => hne b e (by simp [hb]))), ho.qs.keepIf9 (fun b x hb hx => grown_kept h2 (keep hx (below_alloc w1 _)) (fun e => hne b e (by simp [hb]))), ho.nd⟩
  have hsz : w1.heap.size ≤ w'.heap.size := by have e := h2.size; simp at e; omega
  have hvf : ∀ b, v.ownBlock = some b → b ∉ blk l ++ blk d ++ blk mm := fun b hb hm => by have e1 := hvm b hb; have e2 := (hf.blk hm).1; omega
  refine h v' w' ⟨by rw [ecells_append, List.length_append]; exact (by simpa [ecells] using h1), fun e => ?_, fun i hi' => ?_, fun i hi' => ?_, fun i j hij hj => ?_⟩ ?_
  · exact hR.some' ((h3.1 e).1)
  · rw [List.length_append, List.length_singleton] at hi'
    by_cases hlt : i < es.length
    · rw [elAt_push_old hlt]
      exact (hkeep (hR.own i hlt) (hR.ne i hlt)).move (fun _ _ _ _ x => x) (Nat.le_refl _) hsz
    · obtain rfl : i = es.length := by omega
      rw [elAt_push_new]
      exact (hkeep hf hvf).move (fun _ _ _ _ x => x) hbm hsz
  · rw [List.length_append, List.length_singleton] at hi'
    intro b hb
    by_cases hlt : i < es.length
    · rw [elAt_push_old hlt]
      rcases h4 with e | e
      · rw [e] at hb; exact hR.ne i hlt b hb
      · rw [e] at hb
        intro hm
        have e1 := ((hR.own i hlt).blk hm).2.2
        simp at hb
        omega
    · obtain rfl : i = es.length := by omega
      rw [elAt_push_new]
      rcases h4 with e | e
      · rw [e] at hb; exact hvf b hb
      · rw [e] at hb
        intro hm
        have e1 := (hf.blk hm).2.2
        simp at hb
        omega
  · rw [List.length_append, List.length_singleton] at hj
    by_cases hlt : j < es.length
    · rw [elAt_push_old hlt, elAt_push_old (by omega)]; exact hR.apart i j hij hlt
    · obtain rfl : j = es.length := by omega
      rw [elAt_push_new, elAt_push_old hij]
      intro b h5 h6
      have e1 := hfr i hij b h5
      have e2 := (hf.blk h6).1
      omega
  · exact ((hnx.trans ((below_alloc w1 _).mono hbase)).grown h2 (by simp; omega) (fun k hk => (hR'.row.lt k hk).1))
set_option maxHeartbeats 8000000 in
theorem specCopyA_any (v : Value) (os : List Ob) (w : World) (hx : IsArena w v os) (hn : os.length ≤ 1048576) (ht : ∀ i, obN (obAt os i) ≤ 1048576) :
    Calls Tryz.prog 48 #[v] w fun e w' => ArenaOwn os w e w' := by
  have HX : Hid (∀ wr, Below w.heap.size w wr → IsArena wr v os) := fun wr hb => hx.on hb
  have HT : Hid (∀ i, obN (obAt os i) ≤ 1048576) := ht
  have H0 : Hid (RowO w.heap.size (.slice (some ⟨w.heap.size, 0, none⟩) 0 0) [] (w.alloc (.cells #[] 55 (0, 0)))) := rowO_empty w
  have HB0 : Hid (Below w.heap.size w (w.alloc (.cells #[] 55 (0, 0)))) := below_alloc w _
  obtain ⟨a, cap, rfl, hcap, _⟩ := hx
  clear ht
  go_enter Tryz.func48, Tryz.ntmps48
  go_wp2
  obtain ⟨V, hV⟩ : ∃ V, V = (w.alloc (.cells #[] 55 (0, 0))) := ⟨_, rfl⟩
  rw [← hV] at H0 HB0 ⊢
  obtain ⟨v0, hv0⟩ : ∃ v, v = Value.slice (some ⟨w.heap.size, 0, none⟩) 0 0 := ⟨_, rfl⟩
  rw [← hv0] at H0
  clear hV
  go_loopw [3, 4] (fun s i wr => ∃ (k : Nat) (v : Value), k ≤ os.length ∧ i = .int .i64 k ∧ v = s ∧ Hid (∃ fs, arOf fs = os.take k ∧ RowO w.heap.size v fs wr) ∧ Below w.heap.size w wr) (fun _ i _ => os.length - (intOf i).toNat)
  case atStart => exact ⟨0, _, Nat.zero_le _, rfl, rfl, ⟨[], rfl, by rw [← hv0]; exact H0.out⟩, HB0.out⟩
  case round =>
    obtain ⟨k, v, hk, rfl, rfl, hrow, hnx⟩ := hrel
    clear H0 HB0 hv0
    by_cases hlt : k < os.length
    · obtain ⟨p, q, l, d, m, rfl, hq, hc, hu⟩ := (HX.out wr hnx).at hlt
      have C := specObj_any (obAt os k) l d m wr hu (HT.out k)
      have HK : Hid (arOf (hrow.out.choose) = os.take k ∧ RowO w.heap.size v hrow.out.choose wr) := hrow.out.choose_spec
      generalize hrow.out.choose = fs at HK
      have hfl : fs.length = k := by have := congrArg List.length HK.out.1; rw [arOf_length, List.length_take] at this; omega
      have HT1 : Hid (os.take (k + 1) = os.take k ++ [obAt os k]) := take_ob hlt
      obtain ⟨c0, c1, c2, c3, c4, c5, c6, c7, c8, c9, c10, c11, c12⟩ := hc
      generalize obAt os k = ob at C HT1 c0 c1 c2 c3 c4 c5 c6 c7 c8 c9
      clear hrow hu
      go_wp2_with fail
      refine C.mono ?_
      rintro e w1 ⟨⟨l', d', m', rfl, ho⟩, hb⟩
      have HB1 := hid_of (hnx.trans (hb.mono hnx.size))
      have HR1 := hid_of (HK.out.2.on hb)
      have HF1 := hid_of ho
      have HFR : Hid (∀ i, i < fs.length → ∀ b, b ∈ blks (elAt fs i) → b < wr.heap.size) := fun i hi b hb => ((HK.out.2.own i hi).blk hb).2.2
      have HVM : Hid (∀ m, v.ownBlock = some m → m < wr.heap.size) := fun m hm => (HK.out.2.row.lt m hm).2
      have HWS : Hid (w.heap.size ≤ wr.heap.size ∧ wr.heap.size ≤ w1.heap.size) := ⟨hnx.size, hb.size⟩
      have HTK : Hid (arOf fs = os.take k) := HK.out.1
      have hf6 : fs.length ≤ 1048576 := by omega
      obtain ⟨x1, y1, rfl, _⟩ := id ho.ls
      obtain ⟨x2, y2, rfl, _⟩ := id ho.ds
      obtain ⟨x3, y3, rfl, _⟩ := id ho.qs
      clear C ho hb hnx hq HK c0 c1 c2 c3 c4 c5 c6 c7 c8 c9 c10 c11 c12
      go_wp2_with (at_builtin; refine wpList_appO rfl (.tmp 12) (.tmp 18) rfl w w1 w.heap.size wr.heap.size v fs ob _ _ _ rfl rfl HR1.out HWS.out.1 HF1.out HFR.out HVM.out hf6 (Nat.le_trans HWS.out.1 HWS.out.2) HB1.out ?_; intro v' w' hrw hbw)
      go_roundw
      case rel => exact ⟨k + 1, _, by omega, by go_num, rfl, ⟨_, by rw [arOf_push, HTK.out, HT1.out], hrw.out⟩, hbw.out⟩
      case measure => simp [intOf]; omega
    · obtain rfl : k = os.length := by omega
      obtain ⟨fs, h1, h2⟩ := hrow.out
      rw [List.take_length] at h1
      obtain ⟨g, cp, rest, rfl, ho⟩ := h2.toOwn
      have HE : Hid (arOf fs = os ∧ OwnA g cp fs rest w.heap.size wr.heap.size wr) := ⟨h1, ho⟩
      have hfl : fs.length = os.length := by rw [← h1, arOf_length]
      rw [hfl]
      clear hrow h1 h2 ho hfl
      go_wp2
      go_ret
      exact ⟨g, cp, fs, rest, rfl, HE.out.1, HE.out.2, hnx⟩
end Go.Proofs.YtbdljoldblpffaaGreat
