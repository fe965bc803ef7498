/-
  Copies of an arena: the program's.
-/
import Derived.Test.YtokicnopfmokaaaCopyO
namespace Go.Proofs.Ytokicnopfmokaaa
open Go.RowKit
set_option linter.unusedVariables false
set_option maxRecDepth 100000

theorem ecells_push (fs : List El) (e0 e : El) (rest : List Value) : ecells (fs ++ [e]) ++ rest = ((((((((((((((ecells fs ++ (elV e0 ++ rest)).set (fs.length * 13) (.int .i64 e.o.gen)).set (fs.length * 13 + 1) (.int .i64 e.o.kind)).set (fs.length * 13 + 2) (.int .i64 e.o.into)).set (fs.length * 13 + 3) (.int .i64 e.o.res)).set (fs.length * 13 + 4) (.int .i64 e.o.unt)).set (fs.length * 13 + 5) (.int .i64 e.o.pages)).set (fs.length * 13 + 6) (.int .i64 e.o.wait)).set (fs.length * 13 + 7) (.int .i64 e.o.got)).set (fs.length * 13 + 8) (.int .i64 e.o.ran)).set (fs.length * 13 + 9) (.bool e.o.mark)).set (fs.length * 13 + 10) (e.l)).set (fs.length * 13 + 11) (e.d)).set (fs.length * 13 + 12) (e.m)) := by
  have hA := ecells_length fs
  rw [set_behind0 _ _ _ _ hA]
  rw [set_behind _ _ _ _ _ hA, set_behind _ _ _ _ _ hA, set_behind _ _ _ _ _ hA, set_behind _ _ _ _ _ hA, set_behind _ _ _ _ _ hA, set_behind _ _ _ _ _ hA, set_behind _ _ _ _ _ hA, set_behind _ _ _ _ _ hA, set_behind _ _ _ _ _ hA, set_behind _ _ _ _ _ hA, set_behind _ _ _ _ _ hA, set_behind _ _ _ _ _ hA]
  simp [ecells, elV]
theorem elAt_push_old {fs : List El} {e : El} {i : Nat} (h : i < fs.length) : elAt (fs ++ [e]) i = elAt fs i := by
  unfold elAt List.getD
  rw [List.getElem?_append_left h]
theorem elAt_push_new (fs : List El) (e : El) : elAt (fs ++ [e]) fs.length = e := by simp [elAt]
theorem arOf_push (fs : List El) (e : El) : arOf (fs ++ [e]) = arOf fs ++ [e.o] := by simp [arOf]
/-- A new thing is laid into the first place that is not the call's own yet. -/
theorem OwnA.push {g cap : Nat} {fs : List El} {e0 : El} {rest : List Value} {lo hi hi' : Nat} {w : World} (h : OwnA g cap fs (elV e0 ++ rest) lo hi w) {e : El} (hf : OwnO hi hi' w e.l e.d e.m e.o) (hh : hi ≤ hi') (hc : fs.length < cap) :
    OwnA g cap (fs ++ [e]) rest lo hi' (w13 w g (fs.length * 13) e.o e.l e.d e.m) := by
  have hb : ∀ b, b ∈ blks e → hi ≤ b := fun b hb => (hf.blk hb).1
  have hgf : g ∉ blks e := fun hg => by have := hb g hg; have := h.hi; omega
  have hother : ∀ k' x, k' ≠ g → w.heap[k']? = some x → (w13 w g (fs.length * 13) e.o e.l e.d e.m).heap[k']? = some x := fun k' x hne hx => keep13 hx hne _ e
  have hlh := h.lo
  have hhi := h.hi
  refine ⟨?_, by rw [List.length_append, List.length_singleton]; omega, h.lo, by omega, fun i hi0 => ?_, fun i hi0 => ?_, fun i j hij hj => ?_⟩
  · rw [heap_w13 h.at', ecells_push fs e0]
    simp only [List.setIfInBounds_toArray]
  · rw [List.length_append, List.length_singleton] at hi0
    by_cases hlt : i < fs.length
    · rw [elAt_push_old hlt]
      exact (ownO_keepBut (h.own i hlt) (h.ne i hlt) hother).move (fun _ _ _ _ x => x) (Nat.le_refl _) hh
    · obtain rfl : i = fs.length := by omega
      rw [elAt_push_new]
      exact (ownO_keepBut hf hgf hother).move (fun _ _ _ _ x => x) (by omega) (Nat.le_refl _)
  · rw [List.length_append, List.length_singleton] at hi0
    by_cases hlt : i < fs.length
    · rw [elAt_push_old hlt]; exact h.ne i hlt
    · obtain rfl : i = fs.length := by omega
      rw [elAt_push_new]; exact hgf
  · rw [List.length_append, List.length_singleton] at hj
    by_cases hlt : j < fs.length
    · rw [elAt_push_old hlt, elAt_push_old (by omega)]; exact h.apart i j hij hlt
    · obtain rfl : j = fs.length := by omega
      rw [elAt_push_new, elAt_push_old hij]
      intro b h1 h2
      have := hb b h2
      have := ((h.own i hij).blk h1).2.1
      omega
/-- The things of an arena with the places of their lists. -/
theorem arena_cells {w : World} {p : Addr} {n cap : Nat} {os : List Ob} (h : IsArena w (.slice (some p) n cap) os) : ∃ es : List El, arOf es = os ∧ (∀ (j : Nat) u, (ecells es)[j]? = some u → w.cell? (p.add j) = some u) ∧ (∀ u ∈ ecells es, u.oneCell' = true) ∧ ∀ i, i < es.length → Lists w (elAt es i).l (elAt es i).d (elAt es i).m (elAt es i).o := by
  have hx : ∀ i, i < os.length → ∃ l d m, ObCells w (p.add (i * 13)) (obAt os i) l d m ∧ Lists w l d m (obAt os i) := fun i hi => by
    obtain ⟨p', q, l, d, m, hp, hq, hc, hl⟩ := h.at hi
    obtain rfl : p = p' := by simpa using hp
    rw [← hq] at hc
    exact ⟨l, d, m, hc, hl⟩
  obtain ⟨E, hE⟩ : ∃ E : Nat → El, ∀ i, i < os.length → (E i).o = obAt os i ∧ ObCells w (p.add (i * 13)) (E i).o (E i).l (E i).d (E i).m ∧ Lists w (E i).l (E i).d (E i).m (E i).o :=
    ⟨fun i => if h : i < os.length then ⟨obAt os i, (hx i h).choose, (hx i h).choose_spec.choose, (hx i h).choose_spec.choose_spec.choose⟩ else noEl, fun i hi => by
      simp only [hi, dif_pos]
      exact ⟨trivial, (hx i hi).choose_spec.choose_spec.choose_spec.1, (hx i hi).choose_spec.choose_spec.choose_spec.2⟩⟩
  have hat : ∀ i, i < os.length → elAt ((List.range os.length).map E) i = E i := fun i hi => by simp [elAt, hi]
  have hlen : ((List.range os.length).map E).length = os.length := by simp
  refine ⟨(List.range os.length).map E, ?_, fun j u hj => ?_, fun u hu => ?_, fun i hi => ?_⟩
  · refine List.ext_getElem? fun i => ?_
    by_cases hi : i < os.length
    · have e := (hE i hi).1
      rw [obAt_in hi] at e
      simp [arOf, hi, e]
    · rw [List.getElem?_eq_none (by rw [arOf_length, hlen]; omega), List.getElem?_eq_none (by omega)]
  · have hjl : j < os.length * 13 := by
      rcases Nat.lt_or_ge j (os.length * 13) with h | h
      · exact h
      · rw [List.getElem?_eq_none (by rw [ecells_length, hlen]; exact h)] at hj; cases hj
    have hi : j / 13 < os.length := by omega
    have hjm : j / 13 * 13 + j % 13 = j := by omega
    have e1 := ecells_at (es := (List.range os.length).map E) (i := j / 13) (by rw [hlen]; exact hi) [] (j := j % 13) (by omega)
    rw [List.append_nil, hjm, hj, hat _ hi] at e1
    have hc := (hE _ hi).2.1
    have ha : ∀ r, 0 < r → p.add (j / 13 * 13 + r) = ⟨(p.add (j / 13 * 13)).block, (p.add (j / 13 * 13)).off + r, none⟩ := fun r hr => add_up _ _ _ hr
    rw [← hjm]
    have hr : j % 13 < 13 := by omega
    generalize j % 13 = r at e1 hr
    generalize j / 13 = q at hc ha e1
    have hcs : r = 0 ∨ r = 1 ∨ r = 2 ∨ r = 3 ∨ r = 4 ∨ r = 5 ∨ r = 6 ∨ r = 7 ∨ r = 8 ∨ r = 9 ∨ r = 10 ∨ r = 11 ∨ r = 12 := by omega
    rcases hcs with rfl | rfl | rfl | rfl | rfl | rfl | rfl | rfl | rfl | rfl | rfl | rfl | rfl
    · rw [Nat.add_zero, hc.c0]; exact e1.symm
    · rw [ha 1 (by decide), hc.c1]; exact e1.symm
    · rw [ha 2 (by decide), hc.c2]; exact e1.symm
    · rw [ha 3 (by decide), hc.c3]; exact e1.symm
    · rw [ha 4 (by decide), hc.c4]; exact e1.symm
    · rw [ha 5 (by decide), hc.c5]; exact e1.symm
    · rw [ha 6 (by decide), hc.c6]; exact e1.symm
    · rw [ha 7 (by decide), hc.c7]; exact e1.symm
    · rw [ha 8 (by decide), hc.c8]; exact e1.symm
    · rw [ha 9 (by decide), hc.c9]; exact e1.symm
    · rw [ha 10 (by decide), hc.c10]; exact e1.symm
    · rw [ha 11 (by decide), hc.c11]; exact e1.symm
    · rw [ha 12 (by decide), hc.c12]; exact e1.symm
  · unfold ecells at hu
    rw [List.mem_flatMap] at hu
    obtain ⟨e, he, hu⟩ := hu
    obtain ⟨i, hi, rfl⟩ := List.mem_map.1 he
    obtain ⟨⟨a1, b1, e1, _⟩, ⟨a2, b2, e2, _⟩, ⟨a3, b3, e3, _⟩⟩ := (hE i (by simpa using hi)).2.2
    unfold elV at hu
    rw [e1, e2, e3] at hu
    simp only [List.mem_cons, List.not_mem_nil, or_false] at hu
    rcases hu with rfl | rfl | rfl | rfl | rfl | rfl | rfl | rfl | rfl | rfl | rfl | rfl | rfl <;> rfl
  · rw [hlen] at hi
    rw [hat i hi]; exact (hE i hi).2.2
theorem appNoneO (W : World) (c : Nat) (ty : TypeId) : True := trivial
theorem owns0O (w : World) : (w.alloc (.cells #[] 28 (0, 0))).ownsRow w.heap.size 28 13 (.slice (some ⟨w.heap.size, 0, none⟩) 0 0) 0 [] :=
  ⟨by simp, .inr ⟨w.heap.size, 0, #[], rfl, Nat.le_refl _, heap_alloc_new w _, Nat.le_refl _, Nat.zero_le _, by simp, by simp⟩⟩
theorem wpList_copyO {ops : Array Oper} {rest : List Oper} {o : Oper} {a : Act} {Q : Exit → Act → World → Prop} (hgd : o.guard = none) (s x : Operand)
    (ho : o.op = .call { callee := .builtin .append, args := #[s, x], argTypes := #[24, 24] }) (W : World) (p : Addr) (n cap : Nat) (es : List El) (hs : a.eval s = .slice (some ⟨W.heap.size, 0, none⟩) 0 0) (hx : a.eval x = .slice (some p) n cap) (hl : es.length = n) (hcell : ∀ (j : Nat) u, (ecells es)[j]? = some u → W.cell? (p.add j) = some u) (h1 : ∀ u ∈ ecells es, u.oneCell' = true) (hn : n ≤ 1048576)
    (h : ∀ g c rs w', Hid (w'.heap[g]? = some (.cells (ecells es ++ rs).toArray 28 (0, 0)) ∧ n ≤ c ∧ W.heap.size ≤ g) → Hid (Below W.heap.size W w') → wpList Try.prog ops Q rest (a.put o.dst (.slice (some ⟨g, 0, none⟩) n c)) w') : wpList Try.prog ops Q (o :: rest) a (W.alloc (.cells #[] 28 (0, 0))) := by
  obtain ⟨i0, hi, hz0, hz1, hz2⟩ := info_parts infoObj
  refine wpList_append_own _ hgd s x 24 ho W.heap.size 28 i0 _ 13 152 Try.underlying24 hi hz0 hz1 hz2 rfl (by decide) _ 0 [] hs (owns0O W) p n cap (ecells es) hx (by rw [ecells_length]; omega) (fun j u hj => ?_) h1 (by simp only [maxLen]; omega) (by omega) (by simp) ?_
  · have e := hcell j u hj
    exact ((below_alloc W _).cell (World.block_lt_of_cell? W _ e)).trans e
  intro v' w' h2 h3 h4
  rw [Nat.zero_add, List.nil_append] at h2
  have hne : v' ≠ .slice none 0 0 := fun e => by have := (h4.1 e).1; cases this
  rcases h2.2 with ⟨h0, _⟩ | ⟨g, cap', cur, rfl, hbg, hg, hcap, hm, hsz, htake⟩
  · exact absurd h0 hne
  · refine h g cap' (cur.toList.drop (n * 13)) w' ⟨?_, hcap, hbg⟩ ?_
    · rw [← htake, List.take_append_drop]; exact hg
    · exact (below_alloc W _).grown h3 (by simp) (fun k hk => by simp [Value.ownBlock] at hk; omega)
set_option maxHeartbeats 1000000 in
theorem cloneS_any (p : Addr) (n cap : Nat) (es : List El) (w : World) (hl : es.length = n) (hcell : ∀ (j : Nat) u, (ecells es)[j]? = some u → w.cell? (p.add j) = some u) (h1 : ∀ u ∈ ecells es, u.oneCell' = true) (hn : n ≤ 1048576) :
    Calls Try.prog 38 #[.slice (some p) n cap] w fun e w' => ∃ g c rs, e = .returned (.slice (some ⟨g, 0, none⟩) n c) ∧ (w'.heap[g]? = some (.cells (ecells es ++ rs).toArray 28 (0, 0)) ∧ n ≤ c ∧ w.heap.size ≤ g) ∧ Below w.heap.size w w' := by
  have HC : Hid (∀ (j : Nat) u, (ecells es)[j]? = some u → w.cell? (p.add j) = some u) := hcell
  have H1 : Hid (∀ u ∈ ecells es, u.oneCell' = true) := h1
  have HL : Hid (es.length = n) := hl
  have q22 : ∀ (w : World) (a : Option Addr) (n c n' c' : Nat), (binOp .eql 24 (.slice a n c) (.slice none n' c')).run Try.prog w = .ok (.bool a.isNone) w := fun w a n c n' c' => Lib.run_eql_slice_nil w _ _ a n c n' c' Try.underlying24
  clear hcell h1 hl
  go_enter Try.func38, Try.ntmps38
  go_wp2_with (at_builtin; refine wpList_copyO rfl (.tmp 5) (.tmp 6) rfl w p n cap es rfl rfl HL.out HC.out H1.out hn ?_; intro g c rs w' ho hb)
  go_ret
  exact ⟨g, c, rs, rfl, ho.out, hb.out⟩
/-- An arena of the call's own is handed back. -/
def ArenaOwn (os : List Ob) (w : World) (e : Ending) (w' : World) : Prop := ∃ g c fs rest, e = .returned (.slice (some ⟨g, 0, none⟩) os.length c) ∧ arOf fs = os ∧ OwnA g c fs rest w.heap.size w'.heap.size w' ∧ Below w.heap.size w w'
set_option maxHeartbeats 8000000 in
theorem implCopyA_any (p : Addr) (n cap : Nat) (os : List Ob) (w : World) (hx : IsArena w (.slice (some p) n cap) os) (hn' : n = os.length) (hn : os.length ≤ 1048576) (ht : ∀ i, obN (obAt os i) ≤ 1048576) :
    Calls Try.prog 19 #[.slice (some p) n cap] w fun e w' => ArenaOwn os w e w' := by
  obtain ⟨es, hes, hcell, hone, hlist⟩ := arena_cells hx
  have hel : es.length = n := by rw [hn', ← hes, arOf_length]
  have C := cloneS_any p n cap es w hel hcell hone (by omega)
  have HLI : Hid (∀ i, i < es.length → Lists w (elAt es i).l (elAt es i).d (elAt es i).m (elAt es i).o) := hlist
  have HT : Hid (∀ i, i < n → obN (elAt es i).o ≤ 1048576) := fun i hi => by rw [← arOf_at, hes]; exact ht i
  have HE : Hid (arOf es = os ∧ es.length = n) := ⟨hes, hel⟩
  have hn6 : n ≤ 1048576 := by omega
  clear hx hcell hone hlist ht hn hn' hes hel
  go_enter Try.func19, Try.ntmps19
  go_wp2_with fail
  refine C.mono ?_
  rintro e w0 ⟨g, cp, rs, rfl, hg, hb0⟩
  have HB0 : Hid (Below w.heap.size w w0) := hb0
  have hcap : n ≤ cp := hg.2.1
  have H0 : Hid (OwnA g cp [] (ecells es ++ rs) w.heap.size w0.heap.size w0) := ⟨by simpa [ecells] using hg.1, Nat.zero_le _, hg.2.2, lt_of_block hg.1, fun i hi => absurd hi (by simp), fun i hi => absurd hi (by simp), fun i j _ hj => absurd hj (by simp)⟩
  clear C hg hb0
  go_wp2
  go_loopw [9] (fun i wr => ∃ (k : Nat), k ≤ n ∧ i = .int .i64 k ∧ Hid (∃ fs, arOf fs = (arOf es).take k ∧ OwnA g cp fs (ecells (es.drop k) ++ rs) w.heap.size wr.heap.size wr) ∧ Below w.heap.size w wr) (fun i _ => n - (intOf i).toNat)
  case atStart => exact ⟨0, Nat.zero_le _, rfl, ⟨[], rfl, H0.out⟩, HB0.out⟩
  case round =>
    obtain ⟨k, hk, rfl, hrow, hnx⟩ := hrel
    clear H0 HB0
    by_cases hlt : k < n
    · have hke : k < es.length := by rw [HE.out.2]; exact hlt
      have C := implCloneO_any (elAt es k).o (elAt es k).l (elAt es k).d (elAt es k).m wr ((HLI.out k hke).on hnx) (HT.out k hlt)
      obtain ⟨zl, yl, el, _⟩ := id (HLI.out k hke).ls
      obtain ⟨zd, yd, ed, _⟩ := id (HLI.out k hke).ds
      obtain ⟨zm, ym, em, _⟩ := id (HLI.out k hke).qs
      have HK : Hid (arOf (hrow.out.choose) = (arOf es).take k ∧ OwnA g cp hrow.out.choose (ecells (es.drop k) ++ rs) w.heap.size wr.heap.size wr) := hrow.out.choose_spec
      generalize hrow.out.choose = fs at HK
      have hfl : fs.length = k := by have := congrArg List.length HK.out.1; rw [arOf_length, List.length_take, arOf_length] at this; omega
      have HT1 : Hid ((arOf es).take (k + 1) = (arOf es).take k ++ [(elAt es k).o]) := by
        have e := take_ob (os := arOf es) (k := k) (by rw [arOf_length]; exact hke)
        rw [arOf_at] at e
        exact e
      have hdrop : ecells (es.drop k) ++ rs = elV (elAt es k) ++ (ecells (es.drop (k + 1)) ++ rs) := by rw [List.drop_eq_getElem_cons hke, ecells_cons, elAt_in hke, List.append_assoc]
      have hown := HK.out.2
      rw [hdrop] at hown
      have HCK : Hid (∀ (W : World), W.heap[g]? = some (.cells (ecells fs ++ (elV (elAt es k) ++ (ecells (es.drop (k + 1)) ++ rs))).toArray 28 (0, 0)) → ∀ j, j < 13 → W.cell? ⟨g, k * 13 + j, none⟩ = (elV (elAt es k))[j]?) := fun W hW j hj => by
        simp only [World.cell?, hW, List.getElem?_toArray]
        rw [List.getElem?_append_right (by rw [ecells_length, hfl]; omega), ecells_length, hfl, show k * 13 + j - k * 13 = j by omega, List.getElem?_append_left (by simp [elV]; omega)]
        rfl
      have HOW := hid_of hown
      have HTK : Hid (arOf fs = (arOf es).take k) := HK.out.1
      have hlen13 : elV (elAt es k) = elV (elAt es k) := rfl
      generalize elAt es k = q at *
      obtain ⟨qo, ql, qd, qm⟩ := q
      simp only at el ed em C HT1 HOW HCK
      subst el
      subst ed
      subst em
      have c0 : wr.cell? ⟨g, k * 13, none⟩ = some (.int .i64 qo.gen) := HCK.out wr HOW.out.at' 0 (by decide)
      have c1 : wr.cell? ⟨g, k * 13 + 1, none⟩ = some (.int .i64 qo.kind) := HCK.out wr HOW.out.at' 1 (by decide)
      have c2 : wr.cell? ⟨g, k * 13 + 2, none⟩ = some (.int .i64 qo.into) := HCK.out wr HOW.out.at' 2 (by decide)
      have c3 : wr.cell? ⟨g, k * 13 + 3, none⟩ = some (.int .i64 qo.res) := HCK.out wr HOW.out.at' 3 (by decide)
      have c4 : wr.cell? ⟨g, k * 13 + 4, none⟩ = some (.int .i64 qo.unt) := HCK.out wr HOW.out.at' 4 (by decide)
      have c5 : wr.cell? ⟨g, k * 13 + 5, none⟩ = some (.int .i64 qo.pages) := HCK.out wr HOW.out.at' 5 (by decide)
      have c6 : wr.cell? ⟨g, k * 13 + 6, none⟩ = some (.int .i64 qo.wait) := HCK.out wr HOW.out.at' 6 (by decide)
      have c7 : wr.cell? ⟨g, k * 13 + 7, none⟩ = some (.int .i64 qo.got) := HCK.out wr HOW.out.at' 7 (by decide)
      have c8 : wr.cell? ⟨g, k * 13 + 8, none⟩ = some (.int .i64 qo.ran) := HCK.out wr HOW.out.at' 8 (by decide)
      have c9 : wr.cell? ⟨g, k * 13 + 9, none⟩ = some (.bool qo.mark) := HCK.out wr HOW.out.at' 9 (by decide)
      have c10 : wr.cell? ⟨g, k * 13 + 10, none⟩ = some ((.slice zl qo.ls.length yl)) := HCK.out wr HOW.out.at' 10 (by decide)
      have c11 : wr.cell? ⟨g, k * 13 + 11, none⟩ = some ((.slice zd qo.ds.length yd)) := HCK.out wr HOW.out.at' 11 (by decide)
      have c12 : wr.cell? ⟨g, k * 13 + 12, none⟩ = some ((.slice zm qo.qs.length ym)) := HCK.out wr HOW.out.at' 12 (by decide)
      clear hrow hdrop hown HK hlen13 hke
      go_wp2_with fail
      refine C.mono ?_
      rintro e w1 ⟨⟨l', d', m', rfl, ho⟩, hb1⟩
      obtain ⟨x1, y1, rfl, _⟩ := id ho.ls
      obtain ⟨x2, y2, rfl, _⟩ := id ho.ds
      obtain ⟨x3, y3, rfl, _⟩ := id ho.qs
      have hown1 := HOW.out.on hb1
      have h3 := hown1.push (e := ⟨qo, .slice x1 qo.ls.length y1, .slice x2 qo.ds.length y2, .slice x3 qo.qs.length y3⟩) ho hb1.size (by omega)
      have d0 : w1.cell? ⟨g, k * 13, none⟩ = some (.int .i64 qo.gen) := HCK.out w1 hown1.at' 0 (by decide)
      have d1 : w1.cell? ⟨g, k * 13 + 1, none⟩ = some (.int .i64 qo.kind) := HCK.out w1 hown1.at' 1 (by decide)
      have d2 : w1.cell? ⟨g, k * 13 + 2, none⟩ = some (.int .i64 qo.into) := HCK.out w1 hown1.at' 2 (by decide)
      have d3 : w1.cell? ⟨g, k * 13 + 3, none⟩ = some (.int .i64 qo.res) := HCK.out w1 hown1.at' 3 (by decide)
      have d4 : w1.cell? ⟨g, k * 13 + 4, none⟩ = some (.int .i64 qo.unt) := HCK.out w1 hown1.at' 4 (by decide)
      have d5 : w1.cell? ⟨g, k * 13 + 5, none⟩ = some (.int .i64 qo.pages) := HCK.out w1 hown1.at' 5 (by decide)
      have d6 : w1.cell? ⟨g, k * 13 + 6, none⟩ = some (.int .i64 qo.wait) := HCK.out w1 hown1.at' 6 (by decide)
      have d7 : w1.cell? ⟨g, k * 13 + 7, none⟩ = some (.int .i64 qo.got) := HCK.out w1 hown1.at' 7 (by decide)
      have d8 : w1.cell? ⟨g, k * 13 + 8, none⟩ = some (.int .i64 qo.ran) := HCK.out w1 hown1.at' 8 (by decide)
      have d9 : w1.cell? ⟨g, k * 13 + 9, none⟩ = some (.bool qo.mark) := HCK.out w1 hown1.at' 9 (by decide)
      have d10 : w1.cell? ⟨g, k * 13 + 10, none⟩ = some ((.slice zl qo.ls.length yl)) := HCK.out w1 hown1.at' 10 (by decide)
      have d11 : w1.cell? ⟨g, k * 13 + 11, none⟩ = some ((.slice zd qo.ds.length yd)) := HCK.out w1 hown1.at' 11 (by decide)
      have d12 : w1.cell? ⟨g, k * 13 + 12, none⟩ = some ((.slice zm qo.qs.length ym)) := HCK.out w1 hown1.at' 12 (by decide)
      have hf := hown1.free
      have f0 := hf (k * 13)
      have f1 := hf (k * 13 + 1)
      have f2 := hf (k * 13 + 2)
      have f3 := hf (k * 13 + 3)
      have f4 := hf (k * 13 + 4)
      have f5 := hf (k * 13 + 5)
      have f6 := hf (k * 13 + 6)
      have f7 := hf (k * 13 + 7)
      have f8 := hf (k * 13 + 8)
      have f9 := hf (k * 13 + 9)
      have f10 := hf (k * 13 + 10)
      have f11 := hf (k * 13 + 11)
      have f12 := hf (k * 13 + 12)
      simp only at h3
      rw [hfl] at h3
      have H2 : Hid (∃ fs, arOf fs = (arOf es).take (k + 1) ∧ OwnA g cp fs (ecells (es.drop (k + 1)) ++ rs) w.heap.size (w13 w1 g (k * 13) qo (.slice x1 qo.ls.length y1) (.slice x2 qo.ds.length y2) (.slice x3 qo.qs.length y3)).heap.size (w13 w1 g (k * 13) qo (.slice x1 qo.ls.length y1) (.slice x2 qo.ds.length y2) (.slice x3 qo.qs.length y3))) :=
        ⟨fs ++ [⟨qo, .slice x1 qo.ls.length y1, .slice x2 qo.ds.length y2, .slice x3 qo.qs.length y3⟩], by rw [arOf_push, HTK.out, HT1.out], by rw [size_w13]; exact h3⟩
      have hnx' : Below w.heap.size w (w13 w1 g (k * 13) qo (.slice x1 qo.ls.length y1) (.slice x2 qo.ds.length y2) (.slice x3 qo.qs.length y3)) := below_w13 (below_more hnx hb1) hown1.lo _ _ _ _ _
      clear C hb1 hnx hown1 h3 ho HOW HCK HT1 HTK hfl hf c0 c1 c2 c3 c4 c5 c6 c7 c8 c9 c10 c11 c12
      go_wp2
      go_roundw
      case rel => exact ⟨k + 1, by omega, by go_num, H2, hnx'⟩
      case measure => simp [intOf]; omega
    · obtain rfl : k = n := by omega
      have hend : Hid (∃ fs, arOf fs = os ∧ OwnA g cp fs rs w.heap.size wr.heap.size wr) := by
        obtain ⟨fs, h1, h2⟩ := hrow.out
        rw [List.take_of_length_le (by rw [arOf_length, HE.out.2]; exact Nat.le_refl _), HE.out.1] at h1
        rw [List.drop_of_length_le (by rw [HE.out.2]; exact Nat.le_refl _)] at h2
        exact ⟨fs, h1, by simpa [ecells] using h2⟩
      have HLN : Hid (os.length = k) := by show os.length = k; rw [← HE.out.1, arOf_length, HE.out.2]
      clear hrow
      go_wp2
      go_ret
      obtain ⟨fs, h1, h2⟩ := hend.out
      exact ⟨g, cp, fs, rs, by rw [HLN.out]; rfl, h1, h2, hnx⟩
end Go.Proofs.Ytokicnopfmokaaa
