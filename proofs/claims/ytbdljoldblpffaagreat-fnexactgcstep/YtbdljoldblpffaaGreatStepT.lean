/-
  A step of marking, the model's way. A step of the collector, the model's way.
-/
import Derived.Test.YtbdljoldblpffaaGreatStep10
import Derived.Test.YtbdljoldblpffaaGreatEdgeT9
import Derived.Test.YtbdljoldblpffaaGreatSFree9
namespace Go.Proofs.YtbdljoldblpffaaGreat
open Go.RowKit
set_option linter.unusedVariables false
set_option maxRecDepth 100000

theorem ownI_take {lo hi : Nat} {w : World} {u : Option Addr} {n d : Nat} {xs : List Int} (h : OwnI lo hi w (.slice u n d) xs) {m : Nat} (hm : m ≤ xs.length) : OwnI lo hi w (.slice u m d) (xs.take m) := by
  obtain ⟨a, cap, hv, hc, hx⟩ := h
  obtain ⟨rfl, e2, rfl⟩ := Value.slice.inj hv
  have hl : (xs.take m).length = m := by rw [List.length_take]; omega
  refine ⟨u, d, by rw [hl], by omega, fun h0 => ?_⟩
  obtain ⟨g, rs, e, h1, h2, h3, h4, h5⟩ := hx h0
  refine ⟨g, icells (xs.drop m) ++ rs, e, h1, h2, ?_, ?_, h5⟩
  · unfold RowIn at h3 ⊢
    rw [h3, ← List.append_assoc, ← icells_append, List.take_append_drop]
  · rw [hl, List.length_append, icells_length, List.length_drop]; omega
theorem sMk_nums {n m k l d0 : Nat} (hm : n = m + 1) (hn : n + 10 ≤ 1048576) (hk : k < 10) (hl : l = 10) (hc : n ≤ d0) : (m : Int) ≤ (d0 : Int) ∧ (m : Int) < (n : Int) ∧ (n : Int) - 1 = (m : Int) ∧ wrap64 (m : Int) = (m : Int) ∧ decide ((m : Int) < 0) = false ∧ (k : Int) < (l : Int) ∧ m + 11 ≤ 1048576 ∧ n - 1 = m := by
  refine ⟨by omega, by omega, by omega, by unfold wrap64; omega, by simp, by omega, by omega, by omega⟩
theorem GotB.few {lo hi : Nat} {bs : List Nat} {os : List Ob} {xs : List Int} {A G : Value} {w : World} (h : GotB lo hi bs os xs A G w) : GotB lo hi [] os xs A G w := by
  obtain ⟨g, c, fs, rest, la, ha, h1, h2, h3, h4, h5, h6, h7, h8, h9⟩ := h
  exact ⟨g, c, fs, rest, la, ha, h1, h2, h3, h4, h5, h6, h7, h8, fun _ hk => by cases hk⟩
theorem heapOk_parts' {os : List Ob} {p t r : Int} {xs : List Int} (h : heapOk os p t r xs = true) : arenaOk os = true := by
  unfold heapOk at h
  simp only [Bool.and_eq_true] at h
  exact h.1
theorem blk_len (u : Option Addr) (n m d : Nat) : Go.Proofs.YtbdljoldblpffaaGreat.blk (.slice u n d) = Go.Proofs.YtbdljoldblpffaaGreat.blk (.slice u m d) := by
  cases u <;> cases d <;> rfl
section
variable {w0 w1 : World} {lo b R : Nat} {bs : List Nat} {p t r : Int} {os : List Ob} {xs : List Int} {g c : Nat} {G : Value} {wz w2 : World}
/-- Other numbers in the box. -/
theorem EndT.reBox (h : EndT w0 lo b R bs p t r os xs g c G wz) {p' t' r' : Int} (j : Nat) (v : Value) (hbx : (wz.setCell ⟨b, j, none⟩ v).heap[b]? = some (boxH (.slice (some ⟨g, 0, none⟩) os.length c) p' t' r' G)) : EndT w0 lo b R bs p' t' r' os xs g c G (wz.setCell ⟨b, j, none⟩ v) := by
  obtain ⟨_, _, _, _, _, h2⟩ := h.res
  exact ⟨h.base.setCell h.bx.low v, h.bx.reBox hbx (box_others wz b j v) (by simp), ⟨_, _, _, _, _, setCell_keep h2 (Ne.symm h.ne)⟩, h.ne, h.low, h.nb, h.nr, fun k hk => (keepCell (k := k) (g := b) (fun e => h.nb (by rw [← e]; exact hk)) _).trans (h.same k hk), fun k hk => by simpa using h.few k hk⟩
/-- The list in the box is cut. -/
theorem EndT.cut {u : Option Addr} {d : Nat} (h : EndT w0 lo b R bs p t r os xs g c (.slice u xs.length d) wz) {m : Nat} (hm : m ≤ xs.length) : EndT w0 lo b R bs p t r os (xs.take m) g c (.slice u m d) (wz.setCell ⟨b, 4, none⟩ (.slice u m d)) := by
  obtain ⟨_, _, _, _, _, h2⟩ := h.res
  have e := box_cell h.bx.box 4 (.slice u m d)
  simp at e
  obtain ⟨fs, rest, la, ha, e1, e2, e3, e4, e5, e6⟩ := h.bx.got
  have hbl := blk_len u xs.length m d
  refine ⟨h.base.setCell h.bx.low _, ⟨e, h.bx.low, ?_, fun k hk => by rw [← hbl]; exact h.bx.not k hk, fs, rest, la, ha, e1, e2.keepIn2 (fun k x k1 k2 hx => box_others wz b 4 _ k x (by have := e6 b (by simp); omega) hx), e3, by simpa using e4, fun k hk => e5 k (by rw [hbl]; exact hk), e6⟩, ⟨_, _, _, _, _, setCell_keep h2 (Ne.symm h.ne)⟩, h.ne, h.low, h.nb, h.nr, fun k hk => (keepCell (k := k) (g := b) (fun e => h.nb (by rw [← e]; exact hk)) _).trans (h.same k hk), fun k hk => by simpa using h.few k hk⟩
  have ho := (ownI_take h.bx.own hm).keepIf (w' := wz.setCell ⟨b, 4, none⟩ (.slice u m d)) fun k x hk hx => box_others wz b 4 _ k x (fun e => h.bx.not b (by simp) (by rw [hbl]; exact e ▸ hk)) hx
  simpa using ho
/-- Blocks that came later stay apart. -/
theorem EndT.more (h : EndT w0 lo b R [] p t r os xs g c G wz) (hb : Below wz.heap.size wz w1) (hl : lo ≤ wz.heap.size) (bs : List Nat) (hn : ∀ k, k ∈ bs → wz.heap.size ≤ k ∧ k < w1.heap.size) : EndT w1 lo b R bs p t r os xs g c G w1 := by
  obtain ⟨_, _, _, _, _, h2⟩ := h.res
  have hz := hb.size
  have hfb := h.few b (by simp)
  have hfR := h.few R (by simp)
  obtain ⟨fs, rest, la, ha, e1, e2, e3, e4, e5, e6⟩ := h.bx.got
  refine ⟨Below.refl _ _, ⟨keep h.bx.box hb, h.bx.low, ownI_more h.bx.own hb, fun k hk hm => ?_, fs, rest, la, ha, e1, e2.on hb, e3, by omega, e5, fun k hk => ?_⟩, ⟨_, _, _, _, _, keep h2 hb⟩, h.ne, h.low, fun hk => by have := hn _ hk; omega, fun hk => by have := hn _ hk; omega, fun k hk => rfl, fun k hk => ?_⟩
  · simp only [List.mem_cons] at hk
    rcases hk with rfl | rfl | hk
    · exact h.bx.not _ (by simp) hm
    · exact h.bx.not _ (by simp) hm
    · have := hn k hk; have := (h.bx.own.blk hm).2.2; omega
  · simp only [List.mem_cons] at hk
    rcases hk with rfl | rfl | hk
    · exact e6 _ (by simp)
    · exact e6 _ (by simp)
    · have := hn k hk; right; omega
  · simp only [List.mem_cons] at hk
    rcases hk with rfl | rfl | hk
    · omega
    · omega
    · exact (hn k hk).2
theorem EndT.gotB (h : EndT w0 lo b R bs p t r os xs g c G wz) : GotB lo wz.heap.size (b :: R :: bs) os xs (.slice (some ⟨g, 0, none⟩) os.length c) G wz := by
  obtain ⟨fs, rest, la, ha, e1, e2, e3, e4, e5, e6⟩ := h.bx.got
  exact ⟨g, c, fs, rest, la, ha, rfl, e1, e2, h.bx.own, e5, e3, e4, e4, fun k hk => ⟨e6 k hk, h.bx.not k hk⟩⟩
/-- What a call answered is laid into the box. -/
theorem EndT.stored (h : EndT w0 lo b R bs p t r os xs g c G wz) {os' : List Ob} {xs' : List Int} {G' : Value} (hz : os'.length = os.length) (hg : GotB lo w2.heap.size (b :: R :: bs) os' xs' (.slice (some ⟨g, 0, none⟩) os.length c) G' w2) (hb : Below lo wz w2) (hs : ∀ k, k ∈ b :: R :: bs → w2.heap[k]? = wz.heap[k]?) (p' t' r' : Int) :
    EndT w0 lo b R bs p' t' r' os' xs' g c G' (wq5 w2 b 0 (.slice (some ⟨g, 0, none⟩) os.length c) p' t' r' G') := by
  obtain ⟨_, _, _, _, _, h2⟩ := h.res
  obtain ⟨g', c', fs, rest, la, ha, e, e2, e3, e4, e5, e6, e7, e8, e9⟩ := hg
  simp at e
  obtain ⟨rfl, _, rfl⟩ := e
  have hbb := (hs b (by simp)).trans h.bx.box
  refine ⟨below_wq5 (h.base.trans hb) h.bx.low 0 _ _ _ _ _, ⟨?_, h.bx.low, ?_, fun k hk => (e9 k hk).2, fs, rest, la, ha, e2, e3.keepIn2 (fun k x k1 k2 hx => heap_wq5_other hx (by have := (e9 b (by simp)).1; omega) _ _ _ _ _ _), e6, by rw [size_wq5]; exact e8, e5, fun k hk => (e9 k hk).1⟩, ⟨_, _, _, _, _, heap_wq5_other ((hs R (by simp)).trans h2) (Ne.symm h.ne) _ _ _ _ _ _⟩, h.ne, h.low, h.nb, h.nr, fun k hk => ?_, fun k hk => ?_⟩
  · rw [hz]; exact heap_wq5_new hbb _ _ _ _ _
  · rw [size_wq5]
    exact e4.keepIf fun k x hk hx => heap_wq5_other hx (fun (e : k = b) => (e9 b (by simp)).2 (by rw [← e]; exact hk)) _ _ _ _ _ _
  · rw [wq5_same w2 b _ _ _ _ _ (k := k) (fun e => h.nb (by rw [← e]; exact hk)) (Nat.lt_of_lt_of_le (h.few k (by simp [hk])) hb.size)]
    exact (hs k (by simp [hk])).trans (h.same k hk)
  · rw [size_wq5]
    exact Nat.lt_of_lt_of_le (h.few k hk) hb.size
end
/-- What is shaded is laid into the box: three phases. -/
def Sh16 (V : World) (lo b R : Nat) (bs : List Nat) (os' : List Ob) (xs' : List Int) (A : Value) (r : Int) (D : World → Prop) (vals : List Value) (L : Nat → Bool) (us : Nat → Value) (w : World) : Prop :=
  (L 6 = false ∧ L 5 = false ∧ Below V.heap.size V w ∧ ∀ j, L j = true → us j = vals.getD j undef) ∨
  (L 6 = false ∧ L 5 = true ∧ ∃ u d, us 5 = hpV A 0 0 r (.slice u xs'.length d) ∧ GotB lo w.heap.size (b :: R :: bs) os' xs' A (.slice u xs'.length d) w ∧ Below lo V w ∧ ∀ k, k ∈ b :: R :: bs → w.heap[k]? = V.heap[k]?) ∨
  (L 6 = true ∧ D w)
theorem sh16_one {V : World} {lo b R : Nat} {bs : List Nat} {os' : List Ob} {xs' : List Int} {A : Value} {r : Int} {D : World → Prop} {vals : List Value} {L : Nat → Bool} {us : Nat → Value} {w : World} (h : Sh16 V lo b R bs os' xs' A r D vals L us w) (h6 : L 6 = false) (h5 : L 5 = false) : Below V.heap.size V w ∧ ∀ j, L j = true → us j = vals.getD j undef := by
  rcases h with h | h | h
  · exact h.2.2
  · rw [h5] at h; cases h.2.1
  · rw [h6] at h; cases h.1
theorem sh16_two {V : World} {lo b R : Nat} {bs : List Nat} {os' : List Ob} {xs' : List Int} {A : Value} {r : Int} {D : World → Prop} {vals : List Value} {L : Nat → Bool} {us : Nat → Value} {w : World} (h : Sh16 V lo b R bs os' xs' A r D vals L us w) (h6 : L 6 = false) (h5 : L 5 = true) : ∃ u d, us 5 = hpV A 0 0 r (.slice u xs'.length d) ∧ GotB lo w.heap.size (b :: R :: bs) os' xs' A (.slice u xs'.length d) w ∧ Below lo V w ∧ ∀ k, k ∈ b :: R :: bs → w.heap[k]? = V.heap[k]? := by
  rcases h with h | h | h
  · rw [h5] at h; cases h.2.1
  · exact h.2.2
  · rw [h6] at h; cases h.1
theorem sh16_end {V : World} {lo b R : Nat} {bs : List Nat} {os' : List Ob} {xs' : List Int} {A : Value} {r : Int} {D : World → Prop} {vals : List Value} {L : Nat → Bool} {us : Nat → Value} {w : World} (h : Sh16 V lo b R bs os' xs' A r D vals L us w) (h6 : L 6 = true) : D w := by
  rcases h with h | h | h
  · rw [h6] at h; cases h.1
  · rw [h6] at h; cases h.1
  · exact h.2
theorem sh16_fin {V : World} {lo b R : Nat} {bs : List Nat} {os' : List Ob} {xs' : List Int} {A : Value} {r : Int} {D : World → Prop} {vals : List Value} {L : Nat → Bool} {us : Nat → Value} {w : World} (h : D w) : Sh16 V lo b R bs os' xs' A r D vals (markd L 6) us w := Or.inr (Or.inr ⟨markd_same L 6, h⟩)
theorem sh16_step {V : World} {lo b R : Nat} {bs : List Nat} {os' : List Ob} {xs' : List Int} {A : Value} {r : Int} {D : World → Prop} {vals : List Value} {L : Nat → Bool} {us : Nat → Value} {w : World} {i : Nat} {v : Value} (hi5 : 5 ≠ i) (hi6 : 6 ≠ i) (h6 : L 6 = false) (h5 : L 5 = false) (hB : Below V.heap.size V w) (hG : ∀ j, L j = true → us j = vals.getD j undef) (hv : v = vals.getD i undef) : Sh16 V lo b R bs os' xs' A r D vals (markd L i) (useAt us i v) w :=
  .inl ⟨by rw [markd_other L hi6]; exact h6, by rw [markd_other L hi5]; exact h5, hB, fun j hj => by
    by_cases h : j = i
    · subst h; rw [use_same]; exact hv
    · rw [markd_other L h] at hj; rw [use_other us v h]; exact hG j hj⟩
/-- A heap is answered whose things lie where they lay. -/
def MkAns (lo : Nat) (p t r : Int) (os : List Ob) (xs : List Int) (A : Value) (w : World) (e : Ending) (w' : World) : Prop := (∃ G', e = .returned (hpV A p t r G') ∧ GotB lo w'.heap.size [] os xs A G' w') ∧ Below lo w w'
set_option maxHeartbeats 4000000 in
theorem sMk_none (lo : Nat) (r : Int) (os : List Ob) (xs : List Int) (g c : Nat) (G : Value) (now : Int) (w : World) (h : GotB lo w.heap.size [] os xs (.slice (some ⟨g, 0, none⟩) os.length c) G w) (hl : lo ≤ w.heap.size) (hok : heapOk os 0 0 r xs = true) (hs : Small8 os) (hf : AllFit os) (hn : xs.length + 10 ≤ 1048576) (h0 : xs.length = 0) :
    Calls Tryz.prog 38 #[hpV (.slice (some ⟨g, 0, none⟩) os.length c) 0 0 r G, .int .i64 now] w fun e w' => MkAns lo 1 0 r os xs (.slice (some ⟨g, 0, none⟩) os.length c) w e w' := by
  obtain ⟨_, _, u, d0, eA, rfl⟩ := h.got.form
  simp at eA
  obtain ⟨rfl, rfl⟩ := eA
  obtain ⟨W, hW⟩ : ∃ W, W = (w.alloc (boxH (.slice (some ⟨g, 0, none⟩) os.length c) 0 0 r (.slice u xs.length d0))).alloc (boxH (.slice none 0 0) 0 0 0 (.slice none 0 0)) := ⟨_, rfl⟩
  have HE := hid_of (h.boxed (p := 0) (t := 0) (r := r) hl (by simp))
  have hws : W.heap.size = w.heap.size + 1 + 1 := by rw [hW]; simp
  have H1 := hid_of (HE.out.reBox 1 (.int .i64 1) (p' := 1) (t' := 0) (r' := r) (by have e := box_cell HE.out.bx.box 1 (.int .i64 1); simp at e; exact e))
  have H2 := hid_of (H1.out.reBox 2 (.int .i64 0) (p' := 1) (t' := 0) (r' := r) (by have e := box_cell H1.out.bx.box 2 (.int .i64 0); simp at e; exact e))
  rw [← hW] at HE H1 H2
  obtain ⟨k0, k1, k2, k3, k4⟩ := cells5 HE.out.bx.box
  rw [h0] at k4 HE H1 H2 hW
  have kf := frozen_of HE.out.bx.box
  obtain ⟨r0, r1, r2, r3, r4, hrs⟩ := H2.out.res
  obtain ⟨y0, y1, y2, y3, y4⟩ := cells5 H2.out.bx.box
  obtain ⟨m0, m1, m2, m3, m4⟩ := cells5 hrs
  have mf := frozen_of hrs
  have HH := hid_of (And.intro hl hws)
  rw [h0]
  clear hrs h hl hok hs hf hn h0
  go_enter Tryz.func38, Tryz.ntmps38
  repeat (first | (with_reducible refine halt_region (id := 1) ?_) | go_values | go_skip | go_guarded | go_step | go_upon | go_back)
  unfold Halt0
  rw [← hW]
  clear hws hW
  go_wp2
  have HA := hid_of (H2.out.ans 1 0 r)
  show bodyPost _ _ _ _ _ (wq5 _ (w.heap.size + 1) 0 (.slice (some ⟨g, 0, none⟩) os.length c) 1 0 r (.slice u 0 d0))
  refine bodyPost_ret (v := hpV (.slice (some ⟨g, 0, none⟩) os.length c) 1 0 r (.slice u 0 d0)) (by have e := HA.out.1; simp [results, go_sem, World.cell?, e]) rfl ⟨⟨_, rfl, HA.out.2.1⟩, HA.out.2.2.1⟩
set_option maxHeartbeats 8000000 in
theorem sMk_gone (lo : Nat) (r : Int) (os : List Ob) (xs : List Int) (g c : Nat) (G : Value) (now : Int) (w : World) (h : GotB lo w.heap.size [] os xs (.slice (some ⟨g, 0, none⟩) os.length c) G w) (hl : lo ≤ w.heap.size) (hok : heapOk os 0 0 r xs = true) (hs : Small8 os) (hf : AllFit os) (hn : xs.length + 10 ≤ 1048576) (h0 : xs.length ≠ 0) (h1 : lastI xs ≠ 0) (h2 : expB (obAt os (lastI xs)) now = true) :
    Calls Tryz.prog 38 #[hpV (.slice (some ⟨g, 0, none⟩) os.length c) 0 0 r G, .int .i64 now] w fun e w' => MkAns lo 0 0 r os (xs.take (xs.length - 1)) (.slice (some ⟨g, 0, none⟩) os.length c) w e w' := by
  obtain ⟨_, _, u, d0, eA, rfl⟩ := h.got.form
  simp at eA
  obtain ⟨rfl, rfl⟩ := eA
  obtain ⟨W, hW⟩ : ∃ W, W = (w.alloc (boxH (.slice (some ⟨g, 0, none⟩) os.length c) 0 0 r (.slice u xs.length d0))).alloc (boxH (.slice none 0 0) 0 0 0 (.slice none 0 0)) := ⟨_, rfl⟩
  have HE := hid_of (h.boxed (p := 0) (t := 0) (r := r) hl (by simp))
  have hws : W.heap.size = w.heap.size + 1 + 1 := by rw [hW]; simp
  have hten := heapOk_ten hok
  obtain ⟨m, hm⟩ : ∃ m, xs.length = m + 1 := ⟨xs.length - 1, by omega⟩
  obtain ⟨k, hk, hk10⟩ := grey_slot (heapOk_grey hok) (m := m) (by omega)
  have hlast : lastI xs = k := by unfold lastI; rw [hm, Nat.add_sub_cancel, hk]; rfl
  have hko : k < os.length := by omega
  have H1 := hid_of (HE.out.cut (m := m) (by omega))
  rw [← hW] at HE H1
  obtain ⟨k0, k1, k2, k3, k4⟩ := cells5 HE.out.bx.box
  have kf := frozen_of HE.out.bx.box
  obtain ⟨pg, hupg, hcg⟩ : ∃ pg, u = some pg ∧ W.cell? (pg.add m) = some (.int .i64 (k : Int)) := by
    obtain ⟨a', cap', hv, _, hx⟩ := HE.out.bx.ints
    obtain ⟨pg, e1, e2⟩ := hx m (by omega)
    have e := (Value.slice.inj hv).1
    rw [hk] at e2
    exact ⟨pg, by rw [e, e1], e2⟩
  subst hupg
  have hcap : xs.length ≤ d0 := by
    obtain ⟨a', cap', hv, hc', _⟩ := HE.out.bx.ints
    have e := (Value.slice.inj hv).2.2
    omega
  obtain ⟨hmd, hmz, hsub, hwr0, hnl, hkz, hm11, hxm⟩ := sMk_nums hm hn hk10 hten hcap
  have HWR := hid_of hwr0
  clear hwr0
  have htl : (xs.take m).length = m := List.length_take_of_le (hm ▸ Nat.le_succ m)
  have HK : Hid (k < os.length ∧ os.length = 10 ∧ m + 11 ≤ 1048576 ∧ lo ≤ w.heap.size ∧ W.heap.size = w.heap.size + 1 + 1 ∧ k < 10) := ⟨hko, hten, hm11, hl, hws, hk10⟩
  have HSF : Hid (Small8 os ∧ AllFit os ∧ arenaOk os = true) := ⟨hs, hf, (heapOk_parts' hok)⟩
  rw [hxm]
  obtain ⟨ys, hys⟩ : ∃ ys, ys = xs.take m := ⟨_, rfl⟩
  have HTL : Hid (ys.length = m) := by rw [hys]; exact htl
  rw [← hys] at H1 ⊢
  obtain ⟨y0, y1, y2, y3, y4⟩ := cells5 H1.out.bx.box
  have yf := frozen_of H1.out.bx.box
  obtain ⟨n, hnx⟩ : ∃ n, n = xs.length := ⟨_, rfl⟩
  rw [← hnx] at hW k4 hmz hsub ⊢
  have hbz := H1.out.few w.heap.size (by simp)
  have n0 : decide ((k : Int) > 0) = true := by rw [hlast] at h1; simp; omega
  have n1 : decide ((0 : Int) < (k : Int)) = true := by rw [hlast] at h1; simp; omega
  have n2 : decide (0 < k) = true := by rw [hlast] at h1; simp; omega
  have HX : Hid (expB (obAt os k) now = true) := by rw [← hlast]; exact h2
  obtain ⟨q1, z1, d1, q2, z2, d2, q3, z3, d3, hc, hff⟩ := sl_at H1.out.bx HK.out.1
  obtain ⟨c0', c1', c2', c3', c4', c5', c6', c7', c8', c9', c10', c11', c12'⟩ := hc
  clear hff
  have hgb : w.heap.size ≠ g := by
    obtain ⟨fs, rest, la, ha, _, f2, _, _, _, f6⟩ := H1.out.bx.got
    have := f6 w.heap.size (by simp)
    have := f2.lo
    have := f2.hi
    omega
  have hgb2 : g ≠ w.heap.size := Ne.symm hgb
  have CE := specExp_any (obAt os k) (.slice q1 z1 d1) (.slice q2 z2 d2) (.slice q3 z3 d3) now (W.setCell ⟨w.heap.size, 4, none⟩ (.slice (some pg) m d0))
  rw [HX.out] at CE
  generalize obAt os k = o at c0' c1' c2' c3' c4' c5' c6' c7' c8' c9' c10' c11' c12' CE
  clear h hl hok hs hf hn h0 h1 h2 hten hlast hk hys hxm hm htl hnx hko hk10 hcap hws hm11
  go_enter Tryz.func38, Tryz.ntmps38
  repeat (first | (with_reducible refine halt_region (id := 1) ?_) | go_values | go_skip | go_guarded | go_step | go_upon | go_back)
  unfold Halt0
  rw [← hW]
  clear hW
  have hwr := HWR.out
  go_wp2_with fail
  refine CE.mono ?_
  rintro e w2 ⟨rfl, hb⟩
  have H3 := hid_of (H1.out.on hb (by have := H1.out.base.size; have := HK.out.2.2.2.1; omega))
  clear hb CE H1 HE HX k0 k1 k2 k3 k4 kf y0 y1 y2 y3 y4 yf c0' c1' c2' c3' c4' c5' c6' c7' c8' c9' c10' c11' c12' hgb hgb2 hcg hmz hsub hwr hnl hbz hmd
  obtain ⟨y0, y1, y2, y3, y4⟩ := cells5 H3.out.bx.box
  have yf := frozen_of H3.out.bx.box
  obtain ⟨r0, r1, r2, r3, r4, hrs⟩ := H3.out.res
  obtain ⟨m0, m1, m2, m3, m4⟩ := cells5 hrs
  have mf := frozen_of hrs
  clear hrs
  go_wp2
  have HA := hid_of (H3.out.ans 0 0 r)
  show bodyPost _ _ _ _ _ (wq5 _ (w.heap.size + 1) 0 (.slice (some ⟨g, 0, none⟩) os.length c) 0 0 r (.slice (some pg) m d0))
  refine bodyPost_ret (v := hpV (.slice (some ⟨g, 0, none⟩) os.length c) 0 0 r (.slice (some pg) m d0)) (by have e := HA.out.1; simp [results, go_sem, World.cell?, e]) rfl ⟨⟨_, rfl, HA.out.2.1⟩, HA.out.2.2.1⟩
set_option maxHeartbeats 16000000 in
theorem sMk_look (lo : Nat) (r : Int) (os : List Ob) (xs : List Int) (g c : Nat) (G : Value) (now : Int) (w : World) (h : GotB lo w.heap.size [] os xs (.slice (some ⟨g, 0, none⟩) os.length c) G w) (hl : lo ≤ w.heap.size) (hok : heapOk os 0 0 r xs = true) (hs : Small8 os) (hf : AllFit os) (hn : xs.length + 10 ≤ 1048576) (h0 : xs.length ≠ 0) (h1 : lastI xs ≠ 0) (h2 : expB (obAt os (lastI xs)) now = false) :
    Calls Tryz.prog 38 #[hpV (.slice (some ⟨g, 0, none⟩) os.length c) 0 0 r G, .int .i64 now] w fun e w' => MkAns lo 0 0 r (shTo now (edgesTo os (lastI xs) 10) (os.set (lastI xs) (marked (obAt os (lastI xs)) true)) (xs.take (xs.length - 1)) (edgesTo os (lastI xs) 10).length).1 (shTo now (edgesTo os (lastI xs) 10) (os.set (lastI xs) (marked (obAt os (lastI xs)) true)) (xs.take (xs.length - 1)) (edgesTo os (lastI xs) 10).length).2 (.slice (some ⟨g, 0, none⟩) os.length c) w e w' := by
  obtain ⟨_, _, u, d0, eA, rfl⟩ := h.got.form
  simp at eA
  obtain ⟨rfl, rfl⟩ := eA
  obtain ⟨W, hW⟩ : ∃ W, W = (w.alloc (boxH (.slice (some ⟨g, 0, none⟩) os.length c) 0 0 r (.slice u xs.length d0))).alloc (boxH (.slice none 0 0) 0 0 0 (.slice none 0 0)) := ⟨_, rfl⟩
  have HE := hid_of (h.boxed (p := 0) (t := 0) (r := r) hl (by simp))
  have hws : W.heap.size = w.heap.size + 1 + 1 := by rw [hW]; simp
  have hten := heapOk_ten hok
  obtain ⟨m, hm⟩ : ∃ m, xs.length = m + 1 := ⟨xs.length - 1, by omega⟩
  obtain ⟨k, hk, hk10⟩ := grey_slot (heapOk_grey hok) (m := m) (by omega)
  have hlast : lastI xs = k := by unfold lastI; rw [hm, Nat.add_sub_cancel, hk]; rfl
  have hko : k < os.length := by omega
  have H1 := hid_of (HE.out.cut (m := m) (by omega))
  rw [← hW] at HE H1
  obtain ⟨k0, k1, k2, k3, k4⟩ := cells5 HE.out.bx.box
  have kf := frozen_of HE.out.bx.box
  obtain ⟨pg, hupg, hcg⟩ : ∃ pg, u = some pg ∧ W.cell? (pg.add m) = some (.int .i64 (k : Int)) := by
    obtain ⟨a', cap', hv, _, hx⟩ := HE.out.bx.ints
    obtain ⟨pg, e1, e2⟩ := hx m (by omega)
    have e := (Value.slice.inj hv).1
    rw [hk] at e2
    exact ⟨pg, by rw [e, e1], e2⟩
  subst hupg
  have hcap : xs.length ≤ d0 := by
    obtain ⟨a', cap', hv, hc', _⟩ := HE.out.bx.ints
    have e := (Value.slice.inj hv).2.2
    omega
  obtain ⟨hmd, hmz, hsub, hwr0, hnl, hkz, hm11, hxm⟩ := sMk_nums hm hn hk10 hten hcap
  have HWR := hid_of hwr0
  clear hwr0
  have htl : (xs.take m).length = m := List.length_take_of_le (hm ▸ Nat.le_succ m)
  have HK : Hid (k < os.length ∧ os.length = 10 ∧ m + 11 ≤ 1048576 ∧ lo ≤ w.heap.size ∧ W.heap.size = w.heap.size + 1 + 1 ∧ k < 10) := ⟨hko, hten, hm11, hl, hws, hk10⟩
  have HSF : Hid (Small8 os ∧ AllFit os ∧ arenaOk os = true) := ⟨hs, hf, (heapOk_parts' hok)⟩
  rw [hxm]
  obtain ⟨ys, hys⟩ : ∃ ys, ys = xs.take m := ⟨_, rfl⟩
  have HTL : Hid (ys.length = m) := by rw [hys]; exact htl
  rw [← hys] at H1 ⊢
  obtain ⟨y0, y1, y2, y3, y4⟩ := cells5 H1.out.bx.box
  have yf := frozen_of H1.out.bx.box
  obtain ⟨n, hnx⟩ : ∃ n, n = xs.length := ⟨_, rfl⟩
  rw [← hnx] at hW k4 hmz hsub ⊢
  have hbz := H1.out.few w.heap.size (by simp)
  have n0 : decide ((k : Int) > 0) = true := by rw [hlast] at h1; simp; omega
  have n1 : decide ((0 : Int) < (k : Int)) = true := by rw [hlast] at h1; simp; omega
  have n2 : decide (0 < k) = true := by rw [hlast] at h1; simp; omega
  have HX : Hid (expB (obAt os k) now = false) := by rw [← hlast]; exact h2
  obtain ⟨q1, z1, d1, q2, z2, d2, q3, z3, d3, hc, hff⟩ := sl_at H1.out.bx HK.out.1
  obtain ⟨c0', c1', c2', c3', c4', c5', c6', c7', c8', c9', c10', c11', c12'⟩ := hc
  clear hff
  have hgb : w.heap.size ≠ g := by
    obtain ⟨fs, rest, la, ha, _, f2, _, _, _, f6⟩ := H1.out.bx.got
    have := f6 w.heap.size (by simp)
    have := f2.lo
    have := f2.hi
    omega
  have hgb2 : g ≠ w.heap.size := Ne.symm hgb
  have CE := specExp_any (obAt os k) (.slice q1 z1 d1) (.slice q2 z2 d2) (.slice q3 z3 d3) now (W.setCell ⟨w.heap.size, 4, none⟩ (.slice (some pg) m d0))
  rw [HX.out] at CE
  generalize obAt os k = o at c0' c1' c2' c3' c4' c5' c6' c7' c8' c9' c10' c11' c12' CE
  rw [hlast]
  clear h hl hok hs hf hn h0 h1 h2 hten hlast hk hys hxm hm htl hnx hko hk10 hcap hws hm11
  go_enter Tryz.func38, Tryz.ntmps38
  repeat (first | (with_reducible refine halt_region (id := 1) ?_) | go_values | go_skip | go_guarded | go_step | go_upon | go_back)
  unfold Halt0
  rw [← hW]
  clear hW
  have hwr := HWR.out
  go_wp2_with fail
  refine CE.mono ?_
  rintro e w2 ⟨rfl, hb⟩
  have H3 := hid_of (H1.out.on hb (by have := H1.out.base.size; have := HK.out.2.2.2.1; omega))
  clear hb CE H1 HE HX k0 k1 k2 k3 k4 kf y0 y1 y2 y3 y4 yf c0' c1' c2' c3' c4' c5' c6' c7' c8' c9' c10' c11' c12' hgb hgb2 hcg hmz hsub hwr hnl hbz hmd
  have he1 : edgesAns os (k : Int) = edgesTo os k 10 := by
    unfold edgesAns
    rw [HSF.out.2.2, HK.out.2.1]
    have e : inB (k : Int) 0 9 = true := by unfold inB; simp; have := HK.out.2.2.2.2.2; omega
    rw [e]; rfl
  have HE1 := hid_of (specEdges_any (.slice (some ⟨g, 0, none⟩) os.length c) os k _ H3.out.bx.arena (by have := HK.out.2.1; omega) HSF.out.1 HSF.out.2.1)
  rw [he1] at HE1
  obtain ⟨es, hes⟩ : ∃ es, es = edgesTo os k 10 := ⟨_, rfl⟩
  have HES : Hid (es.length ≤ 10 ∧ ∀ j, j < es.length → ∃ m : Nat, es.getD j 0 = (m : Int) ∧ m < 10) := ⟨by rw [hes]; exact edgesTo_len os k 10, fun j hj => by
    rw [hes] at hj ⊢
    obtain ⟨m, e1, e2, _⟩ := edges_at hj
    exact ⟨m, e1, e2⟩⟩
  have HEQ := hid_of hes
  rw [← hes] at HE1
  obtain ⟨os2, hos2⟩ : ∃ os2, os2 = os.set k (marked (obAt os k) true) := ⟨_, rfl⟩
  have HO2 := hid_of hos2
  have HL2 : Hid (os2.length = 10) := by rw [hos2]; show _ = _; simp; exact HK.out.2.1
  clear hes hos2 he1
  obtain ⟨y0, y1, y2, y3, y4⟩ := cells5 H3.out.bx.box
  go_wp2_with fail
  refine HE1.out.mono ?_
  rintro e w5 ⟨ve, rfl, hrow, hb⟩
  obtain ⟨av, cv, hve⟩ := owns_len hrow
  have hoi := ownI_row hrow
  have hbv : ∀ x, x ∈ Go.Proofs.YtbdljoldblpffaaGreat.blk ve → _ := fun x hx => (hoi.blk hx)
  have H5 := hid_of (H3.out.more hb (by have := H3.out.few w.heap.size (by simp); have := HK.out.2.2.2.1; omega) (Go.Proofs.YtbdljoldblpffaaGreat.blk ve) (fun x hx => ⟨(hbv x hx).1, (hbv x hx).2.2⟩))
  have HB5 : Hid (Below lo w w5) := H3.out.base.trans (hb.mono (by have := H3.out.few w.heap.size (by simp); have := HK.out.2.2.2.1; omega))
  have HO5 : Hid (∃ l0 h0, OwnI l0 h0 w5 ve es) := ⟨_, _, hoi⟩
  subst hve
  clear hrow hb hoi hbv H3 HE1 y0 y1 y2 y3 y4
  obtain ⟨y0, y1, y2, y3, y4⟩ := cells5 H5.out.bx.box
  obtain ⟨q1, z1, d1, q2, z2, d2, q3, z3, d3, hc, hff⟩ := sl_at H5.out.bx HK.out.1
  have c9' := hc.c9
  have f9 := hff (k * 13 + 9)
  clear hc hff
  have H6 := hid_of (H5.out.mark HK.out.1 true)
  rw [← HO2.out] at H6
  go_wp2
  go_loopw [8] (fun i wr => ∃ j : Nat, j ≤ es.length ∧ i = .int .i64 j ∧ Hid (∃ Gj, EndT w5 lo w.heap.size (w.heap.size + 1) (Go.Proofs.YtbdljoldblpffaaGreat.blk (.slice av es.length cv)) 0 0 r (shTo now es os2 ys j).1 (shTo now es os2 ys j).2 g c Gj wr)) (fun i _ => es.length - (intOf i).toNat)
  case atStart => exact ⟨0, Nat.zero_le _, rfl, ⟨_, H6.out⟩⟩
  case round =>
    clear H5 H6 y0 y1 y2 y3 y4 c9' f9
    obtain ⟨j, hj, rfl, hbx⟩ := hrel
    by_cases hlt : j < es.length
    · have HX := hid_of hbx.out.choose_spec
      generalize hbx.out.choose = Gj at HX
      obtain ⟨mm, hmm, hm10⟩ := HES.out.2 j hlt
      have hst := shTo_len now es os2 ys j
      have HSK : Hid (expB (obAt (shTo now es os2 ys j).1 mm) now = true → shTo now es os2 ys (j + 1) = shTo now es os2 ys j) := fun h => shTo_skip (by rw [hmm]; exact h)
      have HSM : Hid (expB (obAt (shTo now es os2 ys j).1 mm) now = false → shTo now es os2 ys (j + 1) = (shOs 0 (shTo now es os2 ys j).1 mm, shXs 0 (shTo now es os2 ys j).1 (shTo now es os2 ys j).2 mm)) := fun h => by
        have e := shTo_more (now := now) (es := es) (os := os2) (xs := ys) (n := j) (by rw [hmm]; exact h)
        rw [hmm] at e
        exact e
      generalize shTo now es os2 ys j = s at *
      have hsl : s.1.length = 10 := hst.1.trans HL2.out
      have HSL : Hid (s.1.length = 10 ∧ s.2.length + 1 ≤ 1048576) := ⟨hsl, by have := hst.2; have := HK.out.2.2.1; have := HES.out.1; have := HTL.out; omega⟩
      have HBLK := hid_of HX.out.same
      obtain ⟨p5, rfl, hc5⟩ : ∃ p5, av = some p5 ∧ wr.cell? (p5.add j) = some (.int .i64 (mm : Int)) := by
        obtain ⟨l0, h0, ho⟩ := HO5.out
        have ho' := ownI_blk ho HBLK.out
        obtain ⟨a', cap', hv, _, hx⟩ := ho'.ints
        obtain ⟨p5, e1, e2⟩ := hx j hlt
        have e := (Value.slice.inj hv).1
        rw [hmm] at e2
        exact ⟨p5, by rw [e, e1], e2⟩
      have HC5 : Hid (∀ w', Below wr.heap.size wr w' → w'.cell? (p5.add j) = some (.int .i64 (mm : Int))) := fun w' hb => (hb.cell (World.block_lt_of_cell? _ _ hc5)).trans hc5
      have HBOX : Hid (wr.heap[w.heap.size]? = some (boxH (.slice (some ⟨g, 0, none⟩) 10 c) 0 0 r Gj)) := by have e := HX.out.bx.box; rw [hsl] at e; exact e
      obtain ⟨q1, z1, d1, q2, z2, d2, q3, z3, d3, hc, hff⟩ := sl_at HX.out.bx (k := mm) (by omega)
      have HJ : Hid ((j : Int) < (es.length : Int) ∧ (mm : Int) < 10 ∧ mm < 10) := ⟨by omega, by omega, hm10⟩
      have HQ : Hid ((⟨g, 0, none⟩ : Addr).add (mm * 13) = ⟨g, mm * 13, none⟩) := add_head g (mm * 13)
      have hjw : wrap64 ((j : Int) + 1) = (j : Int) + 1 := by unfold wrap64; have := HES.out.1; omega
      have hjz : decide ((j : Int) < (es.length : Int)) = true := by simp; omega
      have HLO : Hid (lo ≤ wr.heap.size) := by have := HX.out.few w.heap.size (by simp); have := HK.out.2.2.2.1; show lo ≤ _; omega
      clear hst hsl hmm hff hbx hc5 hm10
      cases hx : expB (obAt s.1 mm) now with
      | true =>
        have HQQ := hid_of (HSK.out hx)
        clear HSK HSM
        generalize obAt s.1 mm = o at hc hx
        have HCS := hid_of hc
        have HXX := hid_of hx
        clear hc hx
        obtain ⟨l0, hl0⟩ : ∃ l0 : List Value, l0 = [.pointer (some ⟨w.heap.size, 0, none⟩), .slice (some ⟨g, 0, none⟩) 10 c, .slice (some p5) es.length cv, .int .i64 (j : Int), .pointer (some (p5.add j)), .int .i64 (mm : Int), .pointer (some ⟨g, mm * 13, none⟩), obV o (.slice q1 z1 d1) (.slice q2 z2 d2) (.slice q3 z3 d3), .int .i64 now, .bool true, .bool false] := ⟨_, rfl⟩
        have HL := hid_of hl0
        clear hl0
        go_wp2_with fail
        refine wp_region_whole (by kernel_rfl) (by kernel_rfl) (by kernel_rfl) (by kernel_rfl) (Flat (fun wz => Below wr.heap.size wr wz) (gVals l0)) (flat_start (below_draw _)) ?_ ?_
        · refine ⟨?_, ?_, ?_, ?_, ?_, ?_, ?_, ?_, ?_, ?_, ?_, trivial⟩
          · intro b0 us wz L hslot hoth hLi hR hcl hdo K hK
            rcases HL.out with rfl
            · have s2 : b0.tmps.getD 2 undef = .pointer (some ⟨w.heap.size, 0, none⟩) := hoth 2 (by rfl)
              clear hslot hoth hdo hcl hLi
              refine guard_none (by rfl) ?_
              go_simp
              exact hK _ _ (flat_mark (hR.1) (fun _ _ h => h) hR.2 rfl)
          · intro b0 us wz L hslot hoth hLi hR hcl hdo K hK
            rcases HL.out with rfl
            · have s61 : b0.tmps.getD 61 undef = .pointer (some ⟨w.heap.size, 0, none⟩) := (hslot 0 61 (by rfl)).trans (hR.2 0 (done_at hdo 0 (by rfl)))
              obtain ⟨x0, x1, x2, x3, x4⟩ := cells5 (keep HBOX.out hR.1)
              clear hslot hoth hdo hcl hLi
              refine guard_none (by rfl) ?_
              go_simp
              exact hK _ _ (flat_mark (hR.1) (fun _ _ h => h) hR.2 rfl)
          · intro b0 us wz L hslot hoth hLi hR hcl hdo K hK
            rcases HL.out with rfl
            · have s7 : b0.tmps.getD 7 undef = .slice (some p5) es.length cv := hoth 7 (by rfl)
              clear hslot hoth hdo hcl hLi
              refine guard_none (by rfl) ?_
              go_simp
              exact hK _ _ (flat_mark (hR.1) (fun _ _ h => h) hR.2 rfl)
          · intro b0 us wz L hslot hoth hLi hR hcl hdo K hK
            rcases HL.out with rfl
            · have s8 : b0.tmps.getD 8 undef = .int .i64 (j : Int) := hoth 8 (by rfl)
              clear hslot hoth hdo hcl hLi
              refine guard_none (by rfl) ?_
              go_simp
              exact hK _ _ (flat_mark (hR.1) (fun _ _ h => h) hR.2 rfl)
          · intro b0 us wz L hslot hoth hLi hR hcl hdo K hK
            rcases HL.out with rfl
            · have s63 : b0.tmps.getD 63 undef = .slice (some p5) es.length cv := (hslot 2 63 (by rfl)).trans (hR.2 2 (done_at hdo 2 (by rfl)))
              have s64 : b0.tmps.getD 64 undef = .int .i64 (j : Int) := (hslot 3 64 (by rfl)).trans (hR.2 3 (done_at hdo 3 (by rfl)))
              have hjz := HJ.out.1
              clear hslot hoth hdo hcl hLi
              refine guard_none (by rfl) ?_
              go_simp
              exact hK _ _ (flat_mark (hR.1) (fun _ _ h => h) hR.2 rfl)
          · intro b0 us wz L hslot hoth hLi hR hcl hdo K hK
            rcases HL.out with rfl
            · have s65 : b0.tmps.getD 65 undef = .pointer (some (p5.add j)) := (hslot 4 65 (by rfl)).trans (hR.2 4 (done_at hdo 4 (by rfl)))
              have h5 := HC5.out _ hR.1
              clear hslot hoth hdo hcl hLi
              refine guard_none (by rfl) ?_
              go_simp
              exact hK _ _ (flat_mark (hR.1) (fun _ _ h => h) hR.2 rfl)
          · intro b0 us wz L hslot hoth hLi hR hcl hdo K hK
            rcases HL.out with rfl
            · have s62 : b0.tmps.getD 62 undef = .slice (some ⟨g, 0, none⟩) 10 c := (hslot 1 62 (by rfl)).trans (hR.2 1 (done_at hdo 1 (by rfl)))
              have s66 : b0.tmps.getD 66 undef = .int .i64 (mm : Int) := (hslot 5 66 (by rfl)).trans (hR.2 5 (done_at hdo 5 (by rfl)))
              have hmz := HJ.out.2.1
              have hq := HQ.out
              clear hslot hoth hdo hcl hLi
              refine guard_none (by rfl) ?_
              go_simp
              exact hK _ _ (flat_mark (hR.1) (fun _ _ h => h) hR.2 rfl)
          · intro b0 us wz L hslot hoth hLi hR hcl hdo K hK
            rcases HL.out with rfl
            · have s67 : b0.tmps.getD 67 undef = .pointer (some ⟨g, mm * 13, none⟩) := (hslot 6 67 (by rfl)).trans (hR.2 6 (done_at hdo 6 (by rfl)))
              obtain ⟨c0, c1, c2, c3, c4, c5, c6, c7, c8, c9, c10, c11, c12⟩ := HCS.out.on hR.1
              clear hslot hoth hdo hcl hLi
              refine guard_none (by rfl) ?_
              go_simp
              exact hK _ _ (flat_mark (hR.1) (fun _ _ h => h) hR.2 rfl)
          · intro b0 us wz L hslot hoth hLi hR hcl hdo K hK
            rcases HL.out with rfl
            · have s1 : b0.tmps.getD 1 undef = .int .i64 now := hoth 1 (by rfl)
              clear hslot hoth hdo hcl hLi
              refine guard_none (by rfl) ?_
              go_simp
              exact hK _ _ (flat_mark (hR.1) (fun _ _ h => h) hR.2 rfl)
          · intro b0 us wz L hslot hoth hLi hR hcl hdo K hK
            rcases HL.out with rfl
            · have s68 : b0.tmps.getD 68 undef = obV o (.slice q1 z1 d1) (.slice q2 z2 d2) (.slice q3 z3 d3) := (hslot 7 68 (by rfl)).trans (hR.2 7 (done_at hdo 7 (by rfl)))
              have s69 : b0.tmps.getD 69 undef = .int .i64 now := (hslot 8 69 (by rfl)).trans (hR.2 8 (done_at hdo 8 (by rfl)))
              clear hslot hoth hdo hcl hLi
              refine guard_none (by rfl) ?_
              go_simp
              refine (specExp_any o (.slice q1 z1 d1) (.slice q2 z2 d2) (.slice q3 z3 d3) now _).mono ?_
              rintro e w' ⟨rfl, hb⟩
              exact hK _ _ (flat_mark (below_more hR.1 hb) (fun _ _ h => h) hR.2 (show Value.bool (expB o now) = Value.bool true from congrArg Value.bool HXX.out))
          · intro b0 us wz L hslot hoth hLi hR hcl hdo K hK
            rcases HL.out with rfl
            · have s70 : b0.tmps.getD 70 undef = .bool true := (hslot 9 70 (by rfl)).trans (hR.2 9 (done_at hdo 9 (by rfl)))
              clear hslot hoth hdo hcl hLi
              refine guard_none (by rfl) ?_
              go_simp
              exact hK _ _ (flat_mark (hR.1) (fun _ _ h => h) hR.2 rfl)
        · intro us wn L hall hR a' ha'
          have g10 : us 10 = .bool false := by
            have := hR.2 10 (hall 10 (by decide))
            rcases HL.out with rfl
            all_goals exact this
          have HB := hid_of hR.1
          clear hR hall
          simp only [putAll, g10] at ha'
          subst ha'
          go_frame
          have HX7 := hid_of (HX.out.on HB.out HLO.out)
          go_wp2
          go_roundw
          case rel => exact ⟨j + 1, by omega, by go_num, by rw [HQQ.out]; exact ⟨_, HX7.out⟩⟩
          case measure => rw [hjw]; exact meas_lt hlt
      | false =>
        have HQQ := hid_of (HSM.out hx)
        clear HSK HSM
        generalize obAt s.1 mm = o at hc hx
        have HCS := hid_of hc
        have HXX := hid_of hx
        clear hc hx
        obtain ⟨l0, hl0⟩ : ∃ l0 : List Value, l0 = [.pointer (some ⟨w.heap.size, 0, none⟩), .slice (some ⟨g, 0, none⟩) 10 c, .slice (some p5) es.length cv, .int .i64 (j : Int), .pointer (some (p5.add j)), .int .i64 (mm : Int), .pointer (some ⟨g, mm * 13, none⟩), obV o (.slice q1 z1 d1) (.slice q2 z2 d2) (.slice q3 z3 d3), .int .i64 now, .bool false, .bool true] := ⟨_, rfl⟩
        have HL := hid_of hl0
        clear hl0
        go_wp2_with fail
        refine wp_region_whole (by kernel_rfl) (by kernel_rfl) (by kernel_rfl) (by kernel_rfl) (Flat (fun wz => Below wr.heap.size wr wz) (gVals l0)) (flat_start (below_draw _)) ?_ ?_
        · refine ⟨?_, ?_, ?_, ?_, ?_, ?_, ?_, ?_, ?_, ?_, ?_, trivial⟩
          · intro b0 us wz L hslot hoth hLi hR hcl hdo K hK
            rcases HL.out with rfl
            · have s2 : b0.tmps.getD 2 undef = .pointer (some ⟨w.heap.size, 0, none⟩) := hoth 2 (by rfl)
              clear hslot hoth hdo hcl hLi
              refine guard_none (by rfl) ?_
              go_simp
              exact hK _ _ (flat_mark (hR.1) (fun _ _ h => h) hR.2 rfl)
          · intro b0 us wz L hslot hoth hLi hR hcl hdo K hK
            rcases HL.out with rfl
            · have s61 : b0.tmps.getD 61 undef = .pointer (some ⟨w.heap.size, 0, none⟩) := (hslot 0 61 (by rfl)).trans (hR.2 0 (done_at hdo 0 (by rfl)))
              obtain ⟨x0, x1, x2, x3, x4⟩ := cells5 (keep HBOX.out hR.1)
              clear hslot hoth hdo hcl hLi
              refine guard_none (by rfl) ?_
              go_simp
              exact hK _ _ (flat_mark (hR.1) (fun _ _ h => h) hR.2 rfl)
          · intro b0 us wz L hslot hoth hLi hR hcl hdo K hK
            rcases HL.out with rfl
            · have s7 : b0.tmps.getD 7 undef = .slice (some p5) es.length cv := hoth 7 (by rfl)
              clear hslot hoth hdo hcl hLi
              refine guard_none (by rfl) ?_
              go_simp
              exact hK _ _ (flat_mark (hR.1) (fun _ _ h => h) hR.2 rfl)
          · intro b0 us wz L hslot hoth hLi hR hcl hdo K hK
            rcases HL.out with rfl
            · have s8 : b0.tmps.getD 8 undef = .int .i64 (j : Int) := hoth 8 (by rfl)
              clear hslot hoth hdo hcl hLi
              refine guard_none (by rfl) ?_
              go_simp
              exact hK _ _ (flat_mark (hR.1) (fun _ _ h => h) hR.2 rfl)
          · intro b0 us wz L hslot hoth hLi hR hcl hdo K hK
            rcases HL.out with rfl
            · have s63 : b0.tmps.getD 63 undef = .slice (some p5) es.length cv := (hslot 2 63 (by rfl)).trans (hR.2 2 (done_at hdo 2 (by rfl)))
              have s64 : b0.tmps.getD 64 undef = .int .i64 (j : Int) := (hslot 3 64 (by rfl)).trans (hR.2 3 (done_at hdo 3 (by rfl)))
              have hjz := HJ.out.1
              clear hslot hoth hdo hcl hLi
              refine guard_none (by rfl) ?_
              go_simp
              exact hK _ _ (flat_mark (hR.1) (fun _ _ h => h) hR.2 rfl)
          · intro b0 us wz L hslot hoth hLi hR hcl hdo K hK
            rcases HL.out with rfl
            · have s65 : b0.tmps.getD 65 undef = .pointer (some (p5.add j)) := (hslot 4 65 (by rfl)).trans (hR.2 4 (done_at hdo 4 (by rfl)))
              have h5 := HC5.out _ hR.1
              clear hslot hoth hdo hcl hLi
              refine guard_none (by rfl) ?_
              go_simp
              exact hK _ _ (flat_mark (hR.1) (fun _ _ h => h) hR.2 rfl)
          · intro b0 us wz L hslot hoth hLi hR hcl hdo K hK
            rcases HL.out with rfl
            · have s62 : b0.tmps.getD 62 undef = .slice (some ⟨g, 0, none⟩) 10 c := (hslot 1 62 (by rfl)).trans (hR.2 1 (done_at hdo 1 (by rfl)))
              have s66 : b0.tmps.getD 66 undef = .int .i64 (mm : Int) := (hslot 5 66 (by rfl)).trans (hR.2 5 (done_at hdo 5 (by rfl)))
              have hmz := HJ.out.2.1
              have hq := HQ.out
              clear hslot hoth hdo hcl hLi
              refine guard_none (by rfl) ?_
              go_simp
              exact hK _ _ (flat_mark (hR.1) (fun _ _ h => h) hR.2 rfl)
          · intro b0 us wz L hslot hoth hLi hR hcl hdo K hK
            rcases HL.out with rfl
            · have s67 : b0.tmps.getD 67 undef = .pointer (some ⟨g, mm * 13, none⟩) := (hslot 6 67 (by rfl)).trans (hR.2 6 (done_at hdo 6 (by rfl)))
              obtain ⟨c0, c1, c2, c3, c4, c5, c6, c7, c8, c9, c10, c11, c12⟩ := HCS.out.on hR.1
              clear hslot hoth hdo hcl hLi
              refine guard_none (by rfl) ?_
              go_simp
              exact hK _ _ (flat_mark (hR.1) (fun _ _ h => h) hR.2 rfl)
          · intro b0 us wz L hslot hoth hLi hR hcl hdo K hK
            rcases HL.out with rfl
            · have s1 : b0.tmps.getD 1 undef = .int .i64 now := hoth 1 (by rfl)
              clear hslot hoth hdo hcl hLi
              refine guard_none (by rfl) ?_
              go_simp
              exact hK _ _ (flat_mark (hR.1) (fun _ _ h => h) hR.2 rfl)
          · intro b0 us wz L hslot hoth hLi hR hcl hdo K hK
            rcases HL.out with rfl
            · have s68 : b0.tmps.getD 68 undef = obV o (.slice q1 z1 d1) (.slice q2 z2 d2) (.slice q3 z3 d3) := (hslot 7 68 (by rfl)).trans (hR.2 7 (done_at hdo 7 (by rfl)))
              have s69 : b0.tmps.getD 69 undef = .int .i64 now := (hslot 8 69 (by rfl)).trans (hR.2 8 (done_at hdo 8 (by rfl)))
              clear hslot hoth hdo hcl hLi
              refine guard_none (by rfl) ?_
              go_simp
              refine (specExp_any o (.slice q1 z1 d1) (.slice q2 z2 d2) (.slice q3 z3 d3) now _).mono ?_
              rintro e w' ⟨rfl, hb⟩
              exact hK _ _ (flat_mark (below_more hR.1 hb) (fun _ _ h => h) hR.2 (show Value.bool (expB o now) = Value.bool false from congrArg Value.bool HXX.out))
          · intro b0 us wz L hslot hoth hLi hR hcl hdo K hK
            rcases HL.out with rfl
            · have s70 : b0.tmps.getD 70 undef = .bool false := (hslot 9 70 (by rfl)).trans (hR.2 9 (done_at hdo 9 (by rfl)))
              clear hslot hoth hdo hcl hLi
              refine guard_none (by rfl) ?_
              go_simp
              exact hK _ _ (flat_mark (hR.1) (fun _ _ h => h) hR.2 rfl)
        · intro us wn L hall hR a' ha'
          have g10 : us 10 = .bool true := by
            have := hR.2 10 (hall 10 (by decide))
            rcases HL.out with rfl
            all_goals exact this
          have HB := hid_of hR.1
          clear hR hall
          simp only [putAll, g10] at ha'
          subst ha'
          go_frame
          have HX6 := hid_of (HX.out.on HB.out HLO.out)
          have HC6 : Hid (∀ w', Below wn.heap.size wn w' → w'.cell? (p5.add j) = some (.int .i64 (mm : Int))) := fun w' hb => HC5.out _ (below_more HB.out hb)
          have HLO6 : Hid (lo ≤ wn.heap.size) := Nat.le_trans HLO.out HB.out.size
          obtain ⟨V6, hV6⟩ : ∃ V6, V6 = wn := ⟨_, rfl⟩
          subst hV6
          obtain ⟨u6, d6, eG6, _, _⟩ := id HX6.out.bx.own
          subst eG6
          have HBOX6 : Hid (V6.heap[w.heap.size]? = some (boxH (.slice (some ⟨g, 0, none⟩) 10 c) 0 0 r (.slice u6 s.2.length d6))) := by have e := HX6.out.bx.box; rw [HSL.out.1] at e; exact e
          obtain ⟨l16, hl16⟩ : ∃ l16 : List Value, l16 = [hpV (.slice (some ⟨g, 0, none⟩) 10 c) 0 0 r (.slice u6 s.2.length d6), .slice (some p5) es.length cv, .int .i64 (j : Int), .pointer (some (p5.add j)), .int .i64 (mm : Int), undef, undef] := ⟨_, rfl⟩
          have HL16 := hid_of hl16
          clear hl16 HX HC5 HBOX HCS HXX HL HLO HB
          go_wp2_with fail
          refine wp_region_whole (by kernel_rfl) (by kernel_rfl) (by kernel_rfl) (by kernel_rfl) (Sh16 V6 lo w.heap.size (w.heap.size + 1) (Go.Proofs.YtbdljoldblpffaaGreat.blk (.slice (some p5) es.length cv)) (shOs 0 s.1 mm) (shXs 0 s.1 s.2 mm) (.slice (some ⟨g, 0, none⟩) 10 c) r (fun wz => ∃ Gj, EndT w5 lo w.heap.size (w.heap.size + 1) (Go.Proofs.YtbdljoldblpffaaGreat.blk (.slice (some p5) es.length cv)) 0 0 r (shOs 0 s.1 mm) (shXs 0 s.1 s.2 mm) g c Gj wz) l16) (fun us => .inl ⟨rfl, rfl, below_draw _, fun _ hj => by cases hj⟩) ?_ ?_
          · refine ⟨?_, ?_, ?_, ?_, ?_, ?_, ?_, trivial⟩
            · intro b0 us wz L hslot hoth hLi hRR hcl hdo K hK
              have hs5 : L 5 = false := by
                cases h : L 5 with
                | false => rfl
                | true => rw [done_at (hcl 5 _ rfl h) 0 (by rfl)] at hLi; cases hLi
              have hs6 : L 6 = false := by
                cases h : L 6 with
                | false => rfl
                | true => rw [done_at (hcl 6 _ rfl h) 5 (by rfl)] at hs5; cases hs5
              have hR := sh16_one hRR hs6 hs5
              have s2 : b0.tmps.getD 2 undef = .pointer (some ⟨w.heap.size, 0, none⟩) := hoth 2 (by rfl)
              obtain ⟨x0, x1, x2, x3, x4⟩ := cells5 (keep HBOX6.out hR.1)
              clear hslot hoth hdo hcl hLi
              refine guard_none (by rfl) ?_
              go_simp
              exact hK _ _ (sh16_step (by decide) (by decide) hs6 hs5 hR.1 hR.2 (by rw [HL16.out]; rfl))
            · intro b0 us wz L hslot hoth hLi hRR hcl hdo K hK
              have hs5 : L 5 = false := by
                cases h : L 5 with
                | false => rfl
                | true => rw [done_at (hcl 3 _ rfl (done_at (hcl 4 _ rfl (done_at (hcl 5 _ rfl h) 4 (by rfl))) 3 (by rfl))) 1 (by rfl)] at hLi; cases hLi
              have hs6 : L 6 = false := by
                cases h : L 6 with
                | false => rfl
                | true => rw [done_at (hcl 6 _ rfl h) 5 (by rfl)] at hs5; cases hs5
              have hR := sh16_one hRR hs6 hs5
              have s7 : b0.tmps.getD 7 undef = .slice (some p5) es.length cv := hoth 7 (by rfl)
              clear hslot hoth hdo hcl hLi
              refine guard_none (by rfl) ?_
              go_simp
              exact hK _ _ (sh16_step (by decide) (by decide) hs6 hs5 hR.1 hR.2 (by rw [HL16.out]; rfl))
            · intro b0 us wz L hslot hoth hLi hRR hcl hdo K hK
              have hs5 : L 5 = false := by
                cases h : L 5 with
                | false => rfl
                | true => rw [done_at (hcl 3 _ rfl (done_at (hcl 4 _ rfl (done_at (hcl 5 _ rfl h) 4 (by rfl))) 3 (by rfl))) 2 (by rfl)] at hLi; cases hLi
              have hs6 : L 6 = false := by
                cases h : L 6 with
                | false => rfl
                | true => rw [done_at (hcl 6 _ rfl h) 5 (by rfl)] at hs5; cases hs5
              have hR := sh16_one hRR hs6 hs5
              have s8 : b0.tmps.getD 8 undef = .int .i64 (j : Int) := hoth 8 (by rfl)
              clear hslot hoth hdo hcl hLi
              refine guard_none (by rfl) ?_
              go_simp
              exact hK _ _ (sh16_step (by decide) (by decide) hs6 hs5 hR.1 hR.2 (by rw [HL16.out]; rfl))
            · intro b0 us wz L hslot hoth hLi hRR hcl hdo K hK
              have hs5 : L 5 = false := by
                cases h : L 5 with
                | false => rfl
                | true => rw [done_at (hcl 4 _ rfl (done_at (hcl 5 _ rfl h) 4 (by rfl))) 3 (by rfl)] at hLi; cases hLi
              have hs6 : L 6 = false := by
                cases h : L 6 with
                | false => rfl
                | true => rw [done_at (hcl 6 _ rfl h) 5 (by rfl)] at hs5; cases hs5
              have hR := sh16_one hRR hs6 hs5
              have s73 : b0.tmps.getD 73 undef = .slice (some p5) es.length cv := (hslot 1 73 (by rfl)).trans ((hR.2 1 (done_at hdo 1 (by rfl))).trans (by rw [HL16.out]; rfl))
              have s74 : b0.tmps.getD 74 undef = .int .i64 (j : Int) := (hslot 2 74 (by rfl)).trans ((hR.2 2 (done_at hdo 2 (by rfl))).trans (by rw [HL16.out]; rfl))
              have hjz := HJ.out.1
              clear hslot hoth hdo hcl hLi
              refine guard_none (by rfl) ?_
              go_simp
              exact hK _ _ (sh16_step (by decide) (by decide) hs6 hs5 hR.1 hR.2 (by rw [HL16.out]; rfl))
            · intro b0 us wz L hslot hoth hLi hRR hcl hdo K hK
              have hs5 : L 5 = false := by
                cases h : L 5 with
                | false => rfl
                | true => rw [done_at (hcl 5 _ rfl h) 4 (by rfl)] at hLi; cases hLi
              have hs6 : L 6 = false := by
                cases h : L 6 with
                | false => rfl
                | true => rw [done_at (hcl 6 _ rfl h) 5 (by rfl)] at hs5; cases hs5
              have hR := sh16_one hRR hs6 hs5
              have s75 : b0.tmps.getD 75 undef = .pointer (some (p5.add j)) := (hslot 3 75 (by rfl)).trans ((hR.2 3 (done_at hdo 3 (by rfl))).trans (by rw [HL16.out]; rfl))
              have h5 := HC6.out _ hR.1
              clear hslot hoth hdo hcl hLi
              refine guard_none (by rfl) ?_
              go_simp
              exact hK _ _ (sh16_step (by decide) (by decide) hs6 hs5 hR.1 hR.2 (by rw [HL16.out]; rfl))
            · intro b0 us wz L hslot hoth hLi hRR hcl hdo K hK
              have hs6 : L 6 = false := by
                cases h : L 6 with
                | false => rfl
                | true => rw [done_at (hcl 6 _ rfl h) 5 (by rfl)] at hLi; cases hLi
              have hR := sh16_one hRR hs6 hLi
              have s72 : b0.tmps.getD 72 undef = hpV (.slice (some ⟨g, 0, none⟩) 10 c) 0 0 r (.slice u6 s.2.length d6) := (hslot 0 72 (by rfl)).trans ((hR.2 0 (done_at hdo 0 (by rfl))).trans (by rw [HL16.out]; rfl))
              have s76 : b0.tmps.getD 76 undef = .int .i64 (mm : Int) := (hslot 4 76 (by rfl)).trans ((hR.2 4 (done_at hdo 4 (by rfl))).trans (by rw [HL16.out]; rfl))
              clear hslot hoth hdo hcl hLi
              refine guard_none (by rfl) ?_
              go_simp
              have HE7 := HX6.out.on hR.1 HLO6.out
              have hgb := HE7.gotB
              rw [HSL.out.1] at hgb
              have CS := specShbV_any lo 0 0 r s.1 s.2 g c (.slice u6 s.2.length d6) mm wz (w.heap.size :: (w.heap.size + 1) :: Go.Proofs.YtbdljoldblpffaaGreat.blk (.slice (some p5) es.length cv)) HE7.few (by rw [HSL.out.1]; exact hgb) (by rw [HSL.out.1]; exact HJ.out.2.2) (Nat.le_trans HLO6.out hR.1.size) HSL.out.2
              rw [HSL.out.1] at CS
              refine CS.mono ?_
              rintro e w' ⟨⟨G7, rfl, hg7⟩, hb7, hk7⟩
              obtain ⟨_, _, u7, d7, _, rfl⟩ := hg7.got.form
              refine hK _ _ (.inr (.inl ⟨by rw [markd_other L (by decide)]; exact hs6, markd_same L 5, u7, d7, use_same us 5 _, hg7, (hR.1.mono HLO6.out).trans hb7, fun k hk => (hk7 k hk).trans (hR.1.block k (HX6.out.few k hk))⟩))
            · intro b0 us wz L hslot hoth hLi hRR hcl hdo K hK
              have hs5 : L 5 = true := done_at hdo 5 (by rfl)
              obtain ⟨u7, d7, hu7, hg7, hb7, hk7⟩ := sh16_two hRR hLi hs5
              have s77 : b0.tmps.getD 77 undef = hpV (.slice (some ⟨g, 0, none⟩) 10 c) 0 0 r (.slice u7 (shXs 0 s.1 s.2 mm).length d7) := (hslot 5 77 (by rfl)).trans hu7
              have s2 : b0.tmps.getD 2 undef = .pointer (some ⟨w.heap.size, 0, none⟩) := hoth 2 (by rfl)
              obtain ⟨x0, x1, x2, x3, x4⟩ := cells5 ((hk7 w.heap.size (by simp)).trans HBOX6.out)
              have xf := frozen_of ((hk7 w.heap.size (by simp)).trans HBOX6.out)
              have HST : Hid (EndT w5 lo w.heap.size (w.heap.size + 1) (Go.Proofs.YtbdljoldblpffaaGreat.blk (.slice (some p5) es.length cv)) 0 0 r (shOs 0 s.1 mm) (shXs 0 s.1 s.2 mm) g c (.slice u7 (shXs 0 s.1 s.2 mm).length d7) (wq5 wz w.heap.size 0 (.slice (some ⟨g, 0, none⟩) 10 c) 0 0 r (.slice u7 (shXs 0 s.1 s.2 mm).length d7))) := by
                have e := HX6.out.stored (os' := (shOs 0 s.1 mm)) (by rw [shOs_length]) (by rw [HSL.out.1]; exact hg7) hb7 hk7 0 0 r
                rw [HSL.out.1] at e
                exact e
              clear hslot hoth hdo hcl hg7 hb7 hk7 hu7 hRR hs5
              refine guard_none (by rfl) ?_
              go_simp
              exact hK undef _ (sh16_fin ⟨_, HST.out⟩)
          · intro us wn L hall hR a' ha'
            have HN := hid_of (sh16_end hR (hall 6 (by decide)))
            clear hR hall
            simp only [putAll] at ha'
            subst ha'
            go_frame
            go_wp2
            go_roundw
            case rel => exact ⟨j + 1, by omega, by go_num, by rw [HQQ.out]; exact HN.out⟩
            case measure => rw [hjw]; exact meas_lt hlt
    · obtain rfl : j = es.length := by omega
      have HX := hid_of hbx.out.choose_spec
      generalize hbx.out.choose = Gj at HX
      have hsl : (shTo now es os2 ys es.length).1.length = os.length := (shTo_len now es os2 ys es.length).1.trans (HL2.out.trans HK.out.2.1.symm)
      obtain ⟨u6, d6, eG6, _, _⟩ := id HX.out.bx.own
      subst eG6
      have HFIN : Hid ((shTo now es os2 ys es.length) = (shTo now (edgesTo os k 10) (os.set k (marked (obAt os k) true)) ys (edgesTo os k 10).length)) := by show _ = _; rw [HEQ.out, HO2.out]
      generalize shTo now es os2 ys es.length = s at *
      have HA := hid_of (HX.out.ans 0 0 r)
      rw [hsl] at HA
      obtain ⟨x0, x1, x2, x3, x4⟩ := cells5 HX.out.bx.box
      rw [hsl] at x0
      have xf := frozen_of HX.out.bx.box
      obtain ⟨r0, r1, r2, r3, r4, hrs⟩ := HX.out.res
      obtain ⟨m0, m1, m2, m3, m4⟩ := cells5 hrs
      have mf := frozen_of hrs
      clear hrs hsl hbx HX
      have hjz : decide ((es.length : Int) < (es.length : Int)) = false := by simp
      go_wp2
      show bodyPost _ _ _ _ _ (wq5 _ (w.heap.size + 1) 0 (.slice (some ⟨g, 0, none⟩) os.length c) 0 0 r (.slice u6 s.2.length d6))
      refine bodyPost_ret (v := hpV (.slice (some ⟨g, 0, none⟩) os.length c) 0 0 r (.slice u6 s.2.length d6)) (by have e := HA.out.1; simp [results, go_sem, World.cell?, e]) rfl ?_
      show MkAns lo 0 0 r (shTo now (edgesTo os k 10) (os.set k (marked (obAt os k) true)) ys (edgesTo os k 10).length).1 (shTo now (edgesTo os k 10) (os.set k (marked (obAt os k) true)) ys (edgesTo os k 10).length).2 (.slice (some ⟨g, 0, none⟩) os.length c) w _ _
      rw [← HFIN.out]
      exact ⟨⟨_, rfl, HA.out.2.1.few⟩, HB5.out.trans HA.out.2.2.1⟩
set_option maxHeartbeats 16000000 in
theorem sMk_root (lo : Nat) (r : Int) (os : List Ob) (xs : List Int) (g c : Nat) (G : Value) (now : Int) (w : World) (h : GotB lo w.heap.size [] os xs (.slice (some ⟨g, 0, none⟩) os.length c) G w) (hl : lo ≤ w.heap.size) (hok : heapOk os 0 0 r xs = true) (hs : Small8 os) (hf : AllFit os) (hn : xs.length + 10 ≤ 1048576) (h0 : xs.length ≠ 0) (h1 : lastI xs = 0) :
    Calls Tryz.prog 38 #[hpV (.slice (some ⟨g, 0, none⟩) os.length c) 0 0 r G, .int .i64 now] w fun e w' => MkAns lo 0 0 r (shTo now (edgesTo os (lastI xs) 10) (os.set (lastI xs) (marked (obAt os (lastI xs)) true)) (xs.take (xs.length - 1)) (edgesTo os (lastI xs) 10).length).1 (shTo now (edgesTo os (lastI xs) 10) (os.set (lastI xs) (marked (obAt os (lastI xs)) true)) (xs.take (xs.length - 1)) (edgesTo os (lastI xs) 10).length).2 (.slice (some ⟨g, 0, none⟩) os.length c) w e w' := by
  obtain ⟨_, _, u, d0, eA, rfl⟩ := h.got.form
  simp at eA
  obtain ⟨rfl, rfl⟩ := eA
  obtain ⟨W, hW⟩ : ∃ W, W = (w.alloc (boxH (.slice (some ⟨g, 0, none⟩) os.length c) 0 0 r (.slice u xs.length d0))).alloc (boxH (.slice none 0 0) 0 0 0 (.slice none 0 0)) := ⟨_, rfl⟩
  have HE := hid_of (h.boxed (p := 0) (t := 0) (r := r) hl (by simp))
  have hws : W.heap.size = w.heap.size + 1 + 1 := by rw [hW]; simp
  have hten := heapOk_ten hok
  obtain ⟨m, hm⟩ : ∃ m, xs.length = m + 1 := ⟨xs.length - 1, by omega⟩
  obtain ⟨k, hk, hk10⟩ := grey_slot (heapOk_grey hok) (m := m) (by omega)
  have hlast : lastI xs = k := by unfold lastI; rw [hm, Nat.add_sub_cancel, hk]; rfl
  have hko : k < os.length := by omega
  have H1 := hid_of (HE.out.cut (m := m) (by omega))
  rw [← hW] at HE H1
  obtain ⟨k0, k1, k2, k3, k4⟩ := cells5 HE.out.bx.box
  have kf := frozen_of HE.out.bx.box
  obtain ⟨pg, hupg, hcg⟩ : ∃ pg, u = some pg ∧ W.cell? (pg.add m) = some (.int .i64 (k : Int)) := by
    obtain ⟨a', cap', hv, _, hx⟩ := HE.out.bx.ints
    obtain ⟨pg, e1, e2⟩ := hx m (by omega)
    have e := (Value.slice.inj hv).1
    rw [hk] at e2
    exact ⟨pg, by rw [e, e1], e2⟩
  subst hupg
  have hcap : xs.length ≤ d0 := by
    obtain ⟨a', cap', hv, hc', _⟩ := HE.out.bx.ints
    have e := (Value.slice.inj hv).2.2
    omega
  obtain ⟨hmd, hmz, hsub, hwr0, hnl, hkz, hm11, hxm⟩ := sMk_nums hm hn hk10 hten hcap
  have HWR := hid_of hwr0
  clear hwr0
  have htl : (xs.take m).length = m := List.length_take_of_le (hm ▸ Nat.le_succ m)
  have HK : Hid (k < os.length ∧ os.length = 10 ∧ m + 11 ≤ 1048576 ∧ lo ≤ w.heap.size ∧ W.heap.size = w.heap.size + 1 + 1 ∧ k < 10) := ⟨hko, hten, hm11, hl, hws, hk10⟩
  have HSF : Hid (Small8 os ∧ AllFit os ∧ arenaOk os = true) := ⟨hs, hf, (heapOk_parts' hok)⟩
  rw [hxm]
  obtain ⟨ys, hys⟩ : ∃ ys, ys = xs.take m := ⟨_, rfl⟩
  have HTL : Hid (ys.length = m) := by rw [hys]; exact htl
  rw [← hys] at H1 ⊢
  obtain ⟨y0, y1, y2, y3, y4⟩ := cells5 H1.out.bx.box
  have yf := frozen_of H1.out.bx.box
  obtain ⟨n, hnx⟩ : ∃ n, n = xs.length := ⟨_, rfl⟩
  rw [← hnx] at hW k4 hmz hsub ⊢
  have hbz := H1.out.few w.heap.size (by simp)
  have n0 : decide ((k : Int) > 0) = false := by rw [hlast] at h1; simp [h1]
  have n1 : decide ((0 : Int) < (k : Int)) = false := by rw [hlast] at h1; simp [h1]
  have n2 : decide (0 < k) = false := by rw [hlast] at h1; simp [h1]
  rw [hlast]
  clear h hl hok hs hf hn h0 h1 hten hlast hk hys hxm hm htl hnx hko hk10 hcap hws hm11
  go_enter Tryz.func38, Tryz.ntmps38
  repeat (first | (with_reducible refine halt_region (id := 1) ?_) | go_values | go_skip | go_guarded | go_step | go_upon | go_back)
  unfold Halt0
  rw [← hW]
  clear hW
  have hwr := HWR.out
  have H3 := H1
  clear H1 HE y0 y1 y2 y3 y4 yf
  have he1 : edgesAns os (k : Int) = edgesTo os k 10 := by
    unfold edgesAns
    rw [HSF.out.2.2, HK.out.2.1]
    have e : inB (k : Int) 0 9 = true := by unfold inB; simp; have := HK.out.2.2.2.2.2; omega
    rw [e]; rfl
  have HE1 := hid_of (specEdges_any (.slice (some ⟨g, 0, none⟩) os.length c) os k _ H3.out.bx.arena (by have := HK.out.2.1; omega) HSF.out.1 HSF.out.2.1)
  rw [he1] at HE1
  obtain ⟨es, hes⟩ : ∃ es, es = edgesTo os k 10 := ⟨_, rfl⟩
  have HES : Hid (es.length ≤ 10 ∧ ∀ j, j < es.length → ∃ m : Nat, es.getD j 0 = (m : Int) ∧ m < 10) := ⟨by rw [hes]; exact edgesTo_len os k 10, fun j hj => by
    rw [hes] at hj ⊢
    obtain ⟨m, e1, e2, _⟩ := edges_at hj
    exact ⟨m, e1, e2⟩⟩
  have HEQ := hid_of hes
  rw [← hes] at HE1
  obtain ⟨os2, hos2⟩ : ∃ os2, os2 = os.set k (marked (obAt os k) true) := ⟨_, rfl⟩
  have HO2 := hid_of hos2
  have HL2 : Hid (os2.length = 10) := by rw [hos2]; show _ = _; simp; exact HK.out.2.1
  clear hes hos2 he1
  obtain ⟨y0, y1, y2, y3, y4⟩ := cells5 H3.out.bx.box
  go_wp2_with fail
  refine HE1.out.mono ?_
  rintro e w5 ⟨ve, rfl, hrow, hb⟩
  obtain ⟨av, cv, hve⟩ := owns_len hrow
  have hoi := ownI_row hrow
  have hbv : ∀ x, x ∈ Go.Proofs.YtbdljoldblpffaaGreat.blk ve → _ := fun x hx => (hoi.blk hx)
  have H5 := hid_of (H3.out.more hb (by have := H3.out.few w.heap.size (by simp); have := HK.out.2.2.2.1; omega) (Go.Proofs.YtbdljoldblpffaaGreat.blk ve) (fun x hx => ⟨(hbv x hx).1, (hbv x hx).2.2⟩))
  have HB5 : Hid (Below lo w w5) := H3.out.base.trans (hb.mono (by have := H3.out.few w.heap.size (by simp); have := HK.out.2.2.2.1; omega))
  have HO5 : Hid (∃ l0 h0, OwnI l0 h0 w5 ve es) := ⟨_, _, hoi⟩
  subst hve
  clear hrow hb hoi hbv H3 HE1 y0 y1 y2 y3 y4 k0 k1 k2 k3 k4 kf hcg hmz hsub hwr hnl hbz hmd n0 n1 n2
  obtain ⟨y0, y1, y2, y3, y4⟩ := cells5 H5.out.bx.box
  obtain ⟨q1, z1, d1, q2, z2, d2, q3, z3, d3, hc, hff⟩ := sl_at H5.out.bx HK.out.1
  have c9' := hc.c9
  have f9 := hff (k * 13 + 9)
  clear hc hff
  have H6 := hid_of (H5.out.mark HK.out.1 true)
  rw [← HO2.out] at H6
  go_wp2
  go_loopw [8] (fun i wr => ∃ j : Nat, j ≤ es.length ∧ i = .int .i64 j ∧ Hid (∃ Gj, EndT w5 lo w.heap.size (w.heap.size + 1) (Go.Proofs.YtbdljoldblpffaaGreat.blk (.slice av es.length cv)) 0 0 r (shTo now es os2 ys j).1 (shTo now es os2 ys j).2 g c Gj wr)) (fun i _ => es.length - (intOf i).toNat)
  case atStart => exact ⟨0, Nat.zero_le _, rfl, ⟨_, H6.out⟩⟩
  case round =>
    clear H5 H6 y0 y1 y2 y3 y4 c9' f9
    obtain ⟨j, hj, rfl, hbx⟩ := hrel
    by_cases hlt : j < es.length
    · have HX := hid_of hbx.out.choose_spec
      generalize hbx.out.choose = Gj at HX
      obtain ⟨mm, hmm, hm10⟩ := HES.out.2 j hlt
      have hst := shTo_len now es os2 ys j
      have HSK : Hid (expB (obAt (shTo now es os2 ys j).1 mm) now = true → shTo now es os2 ys (j + 1) = shTo now es os2 ys j) := fun h => shTo_skip (by rw [hmm]; exact h)
      have HSM : Hid (expB (obAt (shTo now es os2 ys j).1 mm) now = false → shTo now es os2 ys (j + 1) = (shOs 0 (shTo now es os2 ys j).1 mm, shXs 0 (shTo now es os2 ys j).1 (shTo now es os2 ys j).2 mm)) := fun h => by
        have e := shTo_more (now := now) (es := es) (os := os2) (xs := ys) (n := j) (by rw [hmm]; exact h)
        rw [hmm] at e
        exact e
      generalize shTo now es os2 ys j = s at *
      have hsl : s.1.length = 10 := hst.1.trans HL2.out
      have HSL : Hid (s.1.length = 10 ∧ s.2.length + 1 ≤ 1048576) := ⟨hsl, by have := hst.2; have := HK.out.2.2.1; have := HES.out.1; have := HTL.out; omega⟩
      have HBLK := hid_of HX.out.same
      obtain ⟨p5, rfl, hc5⟩ : ∃ p5, av = some p5 ∧ wr.cell? (p5.add j) = some (.int .i64 (mm : Int)) := by
        obtain ⟨l0, h0, ho⟩ := HO5.out
        have ho' := ownI_blk ho HBLK.out
        obtain ⟨a', cap', hv, _, hx⟩ := ho'.ints
        obtain ⟨p5, e1, e2⟩ := hx j hlt
        have e := (Value.slice.inj hv).1
        rw [hmm] at e2
        exact ⟨p5, by rw [e, e1], e2⟩
      have HC5 : Hid (∀ w', Below wr.heap.size wr w' → w'.cell? (p5.add j) = some (.int .i64 (mm : Int))) := fun w' hb => (hb.cell (World.block_lt_of_cell? _ _ hc5)).trans hc5
      have HBOX : Hid (wr.heap[w.heap.size]? = some (boxH (.slice (some ⟨g, 0, none⟩) 10 c) 0 0 r Gj)) := by have e := HX.out.bx.box; rw [hsl] at e; exact e
      obtain ⟨q1, z1, d1, q2, z2, d2, q3, z3, d3, hc, hff⟩ := sl_at HX.out.bx (k := mm) (by omega)
      have HJ : Hid ((j : Int) < (es.length : Int) ∧ (mm : Int) < 10 ∧ mm < 10) := ⟨by omega, by omega, hm10⟩
      have HQ : Hid ((⟨g, 0, none⟩ : Addr).add (mm * 13) = ⟨g, mm * 13, none⟩) := add_head g (mm * 13)
      have hjw : wrap64 ((j : Int) + 1) = (j : Int) + 1 := by unfold wrap64; have := HES.out.1; omega
      have hjz : decide ((j : Int) < (es.length : Int)) = true := by simp; omega
      have HLO : Hid (lo ≤ wr.heap.size) := by have := HX.out.few w.heap.size (by simp); have := HK.out.2.2.2.1; show lo ≤ _; omega
      clear hst hsl hmm hff hbx hc5 hm10
      cases hx : expB (obAt s.1 mm) now with
      | true =>
        have HQQ := hid_of (HSK.out hx)
        clear HSK HSM
        generalize obAt s.1 mm = o at hc hx
        have HCS := hid_of hc
        have HXX := hid_of hx
        clear hc hx
        obtain ⟨l0, hl0⟩ : ∃ l0 : List Value, l0 = [.pointer (some ⟨w.heap.size, 0, none⟩), .slice (some ⟨g, 0, none⟩) 10 c, .slice (some p5) es.length cv, .int .i64 (j : Int), .pointer (some (p5.add j)), .int .i64 (mm : Int), .pointer (some ⟨g, mm * 13, none⟩), obV o (.slice q1 z1 d1) (.slice q2 z2 d2) (.slice q3 z3 d3), .int .i64 now, .bool true, .bool false] := ⟨_, rfl⟩
        have HL := hid_of hl0
        clear hl0
        go_wp2_with fail
        refine wp_region_whole (by kernel_rfl) (by kernel_rfl) (by kernel_rfl) (by kernel_rfl) (Flat (fun wz => Below wr.heap.size wr wz) (gVals l0)) (flat_start (below_draw _)) ?_ ?_
        · refine ⟨?_, ?_, ?_, ?_, ?_, ?_, ?_, ?_, ?_, ?_, ?_, trivial⟩
          · intro b0 us wz L hslot hoth hLi hR hcl hdo K hK
            rcases HL.out with rfl
            · have s2 : b0.tmps.getD 2 undef = .pointer (some ⟨w.heap.size, 0, none⟩) := hoth 2 (by rfl)
              clear hslot hoth hdo hcl hLi
              refine guard_none (by rfl) ?_
              go_simp
              exact hK _ _ (flat_mark (hR.1) (fun _ _ h => h) hR.2 rfl)
          · intro b0 us wz L hslot hoth hLi hR hcl hdo K hK
            rcases HL.out with rfl
            · have s61 : b0.tmps.getD 61 undef = .pointer (some ⟨w.heap.size, 0, none⟩) := (hslot 0 61 (by rfl)).trans (hR.2 0 (done_at hdo 0 (by rfl)))
              obtain ⟨x0, x1, x2, x3, x4⟩ := cells5 (keep HBOX.out hR.1)
              clear hslot hoth hdo hcl hLi
              refine guard_none (by rfl) ?_
              go_simp
              exact hK _ _ (flat_mark (hR.1) (fun _ _ h => h) hR.2 rfl)
          · intro b0 us wz L hslot hoth hLi hR hcl hdo K hK
            rcases HL.out with rfl
            · have s7 : b0.tmps.getD 7 undef = .slice (some p5) es.length cv := hoth 7 (by rfl)
              clear hslot hoth hdo hcl hLi
              refine guard_none (by rfl) ?_
              go_simp
              exact hK _ _ (flat_mark (hR.1) (fun _ _ h => h) hR.2 rfl)
          · intro b0 us wz L hslot hoth hLi hR hcl hdo K hK
            rcases HL.out with rfl
            · have s8 : b0.tmps.getD 8 undef = .int .i64 (j : Int) := hoth 8 (by rfl)
              clear hslot hoth hdo hcl hLi
              refine guard_none (by rfl) ?_
              go_simp
              exact hK _ _ (flat_mark (hR.1) (fun _ _ h => h) hR.2 rfl)
          · intro b0 us wz L hslot hoth hLi hR hcl hdo K hK
            rcases HL.out with rfl
            · have s63 : b0.tmps.getD 63 undef = .slice (some p5) es.length cv := (hslot 2 63 (by rfl)).trans (hR.2 2 (done_at hdo 2 (by rfl)))
              have s64 : b0.tmps.getD 64 undef = .int .i64 (j : Int) := (hslot 3 64 (by rfl)).trans (hR.2 3 (done_at hdo 3 (by rfl)))
              have hjz := HJ.out.1
              clear hslot hoth hdo hcl hLi
              refine guard_none (by rfl) ?_
              go_simp
              exact hK _ _ (flat_mark (hR.1) (fun _ _ h => h) hR.2 rfl)
          · intro b0 us wz L hslot hoth hLi hR hcl hdo K hK
            rcases HL.out with rfl
            · have s65 : b0.tmps.getD 65 undef = .pointer (some (p5.add j)) := (hslot 4 65 (by rfl)).trans (hR.2 4 (done_at hdo 4 (by rfl)))
              have h5 := HC5.out _ hR.1
              clear hslot hoth hdo hcl hLi
              refine guard_none (by rfl) ?_
              go_simp
              exact hK _ _ (flat_mark (hR.1) (fun _ _ h => h) hR.2 rfl)
          · intro b0 us wz L hslot hoth hLi hR hcl hdo K hK
            rcases HL.out with rfl
            · have s62 : b0.tmps.getD 62 undef = .slice (some ⟨g, 0, none⟩) 10 c := (hslot 1 62 (by rfl)).trans (hR.2 1 (done_at hdo 1 (by rfl)))
              have s66 : b0.tmps.getD 66 undef = .int .i64 (mm : Int) := (hslot 5 66 (by rfl)).trans (hR.2 5 (done_at hdo 5 (by rfl)))
              have hmz := HJ.out.2.1
              have hq := HQ.out
              clear hslot hoth hdo hcl hLi
              refine guard_none (by rfl) ?_
              go_simp
              exact hK _ _ (flat_mark (hR.1) (fun _ _ h => h) hR.2 rfl)
          · intro b0 us wz L hslot hoth hLi hR hcl hdo K hK
            rcases HL.out with rfl
            · have s67 : b0.tmps.getD 67 undef = .pointer (some ⟨g, mm * 13, none⟩) := (hslot 6 67 (by rfl)).trans (hR.2 6 (done_at hdo 6 (by rfl)))
              obtain ⟨c0, c1, c2, c3, c4, c5, c6, c7, c8, c9, c10, c11, c12⟩ := HCS.out.on hR.1
              clear hslot hoth hdo hcl hLi
              refine guard_none (by rfl) ?_
              go_simp
              exact hK _ _ (flat_mark (hR.1) (fun _ _ h => h) hR.2 rfl)
          · intro b0 us wz L hslot hoth hLi hR hcl hdo K hK
            rcases HL.out with rfl
            · have s1 : b0.tmps.getD 1 undef = .int .i64 now := hoth 1 (by rfl)
              clear hslot hoth hdo hcl hLi
              refine guard_none (by rfl) ?_
              go_simp
              exact hK _ _ (flat_mark (hR.1) (fun _ _ h => h) hR.2 rfl)
          · intro b0 us wz L hslot hoth hLi hR hcl hdo K hK
            rcases HL.out with rfl
            · have s68 : b0.tmps.getD 68 undef = obV o (.slice q1 z1 d1) (.slice q2 z2 d2) (.slice q3 z3 d3) := (hslot 7 68 (by rfl)).trans (hR.2 7 (done_at hdo 7 (by rfl)))
              have s69 : b0.tmps.getD 69 undef = .int .i64 now := (hslot 8 69 (by rfl)).trans (hR.2 8 (done_at hdo 8 (by rfl)))
              clear hslot hoth hdo hcl hLi
              refine guard_none (by rfl) ?_
              go_simp
              refine (specExp_any o (.slice q1 z1 d1) (.slice q2 z2 d2) (.slice q3 z3 d3) now _).mono ?_
              rintro e w' ⟨rfl, hb⟩
              exact hK _ _ (flat_mark (below_more hR.1 hb) (fun _ _ h => h) hR.2 (show Value.bool (expB o now) = Value.bool true from congrArg Value.bool HXX.out))
          · intro b0 us wz L hslot hoth hLi hR hcl hdo K hK
            rcases HL.out with rfl
            · have s70 : b0.tmps.getD 70 undef = .bool true := (hslot 9 70 (by rfl)).trans (hR.2 9 (done_at hdo 9 (by rfl)))
              clear hslot hoth hdo hcl hLi
              refine guard_none (by rfl) ?_
              go_simp
              exact hK _ _ (flat_mark (hR.1) (fun _ _ h => h) hR.2 rfl)
        · intro us wn L hall hR a' ha'
          have g10 : us 10 = .bool false := by
            have := hR.2 10 (hall 10 (by decide))
            rcases HL.out with rfl
            all_goals exact this
          have HB := hid_of hR.1
          clear hR hall
          simp only [putAll, g10] at ha'
          subst ha'
          go_frame
          have HX7 := hid_of (HX.out.on HB.out HLO.out)
          go_wp2
          go_roundw
          case rel => exact ⟨j + 1, by omega, by go_num, by rw [HQQ.out]; exact ⟨_, HX7.out⟩⟩
          case measure => rw [hjw]; exact meas_lt hlt
      | false =>
        have HQQ := hid_of (HSM.out hx)
        clear HSK HSM
        generalize obAt s.1 mm = o at hc hx
        have HCS := hid_of hc
        have HXX := hid_of hx
        clear hc hx
        obtain ⟨l0, hl0⟩ : ∃ l0 : List Value, l0 = [.pointer (some ⟨w.heap.size, 0, none⟩), .slice (some ⟨g, 0, none⟩) 10 c, .slice (some p5) es.length cv, .int .i64 (j : Int), .pointer (some (p5.add j)), .int .i64 (mm : Int), .pointer (some ⟨g, mm * 13, none⟩), obV o (.slice q1 z1 d1) (.slice q2 z2 d2) (.slice q3 z3 d3), .int .i64 now, .bool false, .bool true] := ⟨_, rfl⟩
        have HL := hid_of hl0
        clear hl0
        go_wp2_with fail
        refine wp_region_whole (by kernel_rfl) (by kernel_rfl) (by kernel_rfl) (by kernel_rfl) (Flat (fun wz => Below wr.heap.size wr wz) (gVals l0)) (flat_start (below_draw _)) ?_ ?_
        · refine ⟨?_, ?_, ?_, ?_, ?_, ?_, ?_, ?_, ?_, ?_, ?_, trivial⟩
          · intro b0 us wz L hslot hoth hLi hR hcl hdo K hK
            rcases HL.out with rfl
            · have s2 : b0.tmps.getD 2 undef = .pointer (some ⟨w.heap.size, 0, none⟩) := hoth 2 (by rfl)
              clear hslot hoth hdo hcl hLi
              refine guard_none (by rfl) ?_
              go_simp
              exact hK _ _ (flat_mark (hR.1) (fun _ _ h => h) hR.2 rfl)
          · intro b0 us wz L hslot hoth hLi hR hcl hdo K hK
            rcases HL.out with rfl
            · have s61 : b0.tmps.getD 61 undef = .pointer (some ⟨w.heap.size, 0, none⟩) := (hslot 0 61 (by rfl)).trans (hR.2 0 (done_at hdo 0 (by rfl)))
              obtain ⟨x0, x1, x2, x3, x4⟩ := cells5 (keep HBOX.out hR.1)
              clear hslot hoth hdo hcl hLi
              refine guard_none (by rfl) ?_
              go_simp
              exact hK _ _ (flat_mark (hR.1) (fun _ _ h => h) hR.2 rfl)
          · intro b0 us wz L hslot hoth hLi hR hcl hdo K hK
            rcases HL.out with rfl
            · have s7 : b0.tmps.getD 7 undef = .slice (some p5) es.length cv := hoth 7 (by rfl)
              clear hslot hoth hdo hcl hLi
              refine guard_none (by rfl) ?_
              go_simp
              exact hK _ _ (flat_mark (hR.1) (fun _ _ h => h) hR.2 rfl)
          · intro b0 us wz L hslot hoth hLi hR hcl hdo K hK
            rcases HL.out with rfl
            · have s8 : b0.tmps.getD 8 undef = .int .i64 (j : Int) := hoth 8 (by rfl)
              clear hslot hoth hdo hcl hLi
              refine guard_none (by rfl) ?_
              go_simp
              exact hK _ _ (flat_mark (hR.1) (fun _ _ h => h) hR.2 rfl)
          · intro b0 us wz L hslot hoth hLi hR hcl hdo K hK
            rcases HL.out with rfl
            · have s63 : b0.tmps.getD 63 undef = .slice (some p5) es.length cv := (hslot 2 63 (by rfl)).trans (hR.2 2 (done_at hdo 2 (by rfl)))
              have s64 : b0.tmps.getD 64 undef = .int .i64 (j : Int) := (hslot 3 64 (by rfl)).trans (hR.2 3 (done_at hdo 3 (by rfl)))
              have hjz := HJ.out.1
              clear hslot hoth hdo hcl hLi
              refine guard_none (by rfl) ?_
              go_simp
              exact hK _ _ (flat_mark (hR.1) (fun _ _ h => h) hR.2 rfl)
          · intro b0 us wz L hslot hoth hLi hR hcl hdo K hK
            rcases HL.out with rfl
            · have s65 : b0.tmps.getD 65 undef = .pointer (some (p5.add j)) := (hslot 4 65 (by rfl)).trans (hR.2 4 (done_at hdo 4 (by rfl)))
              have h5 := HC5.out _ hR.1
              clear hslot hoth hdo hcl hLi
              refine guard_none (by rfl) ?_
              go_simp
              exact hK _ _ (flat_mark (hR.1) (fun _ _ h => h) hR.2 rfl)
          · intro b0 us wz L hslot hoth hLi hR hcl hdo K hK
            rcases HL.out with rfl
            · have s62 : b0.tmps.getD 62 undef = .slice (some ⟨g, 0, none⟩) 10 c := (hslot 1 62 (by rfl)).trans (hR.2 1 (done_at hdo 1 (by rfl)))
              have s66 : b0.tmps.getD 66 undef = .int .i64 (mm : Int) := (hslot 5 66 (by rfl)).trans (hR.2 5 (done_at hdo 5 (by rfl)))
              have hmz := HJ.out.2.1
              have hq := HQ.out
              clear hslot hoth hdo hcl hLi
              refine guard_none (by rfl) ?_
              go_simp
              exact hK _ _ (flat_mark (hR.1) (fun _ _ h => h) hR.2 rfl)
          · intro b0 us wz L hslot hoth hLi hR hcl hdo K hK
            rcases HL.out with rfl
            · have s67 : b0.tmps.getD 67 undef = .pointer (some ⟨g, mm * 13, none⟩) := (hslot 6 67 (by rfl)).trans (hR.2 6 (done_at hdo 6 (by rfl)))
              obtain ⟨c0, c1, c2, c3, c4, c5, c6, c7, c8, c9, c10, c11, c12⟩ := HCS.out.on hR.1
              clear hslot hoth hdo hcl hLi
              refine guard_none (by rfl) ?_
              go_simp
              exact hK _ _ (flat_mark (hR.1) (fun _ _ h => h) hR.2 rfl)
          · intro b0 us wz L hslot hoth hLi hR hcl hdo K hK
            rcases HL.out with rfl
            · have s1 : b0.tmps.getD 1 undef = .int .i64 now := hoth 1 (by rfl)
              clear hslot hoth hdo hcl hLi
              refine guard_none (by rfl) ?_
              go_simp
              exact hK _ _ (flat_mark (hR.1) (fun _ _ h => h) hR.2 rfl)
          · intro b0 us wz L hslot hoth hLi hR hcl hdo K hK
            rcases HL.out with rfl
            · have s68 : b0.tmps.getD 68 undef = obV o (.slice q1 z1 d1) (.slice q2 z2 d2) (.slice q3 z3 d3) := (hslot 7 68 (by rfl)).trans (hR.2 7 (done_at hdo 7 (by rfl)))
              have s69 : b0.tmps.getD 69 undef = .int .i64 now := (hslot 8 69 (by rfl)).trans (hR.2 8 (done_at hdo 8 (by rfl)))
              clear hslot hoth hdo hcl hLi
              refine guard_none (by rfl) ?_
              go_simp
              refine (specExp_any o (.slice q1 z1 d1) (.slice q2 z2 d2) (.slice q3 z3 d3) now _).mono ?_
              rintro e w' ⟨rfl, hb⟩
              exact hK _ _ (flat_mark (below_more hR.1 hb) (fun _ _ h => h) hR.2 (show Value.bool (expB o now) = Value.bool false from congrArg Value.bool HXX.out))
          · intro b0 us wz L hslot hoth hLi hR hcl hdo K hK
            rcases HL.out with rfl
            · have s70 : b0.tmps.getD 70 undef = .bool false := (hslot 9 70 (by rfl)).trans (hR.2 9 (done_at hdo 9 (by rfl)))
              clear hslot hoth hdo hcl hLi
              refine guard_none (by rfl) ?_
              go_simp
              exact hK _ _ (flat_mark (hR.1) (fun _ _ h => h) hR.2 rfl)
        · intro us wn L hall hR a' ha'
          have g10 : us 10 = .bool true := by
            have := hR.2 10 (hall 10 (by decide))
            rcases HL.out with rfl
            all_goals exact this
          have HB := hid_of hR.1
          clear hR hall
          simp only [putAll, g10] at ha'
          subst ha'
          go_frame
          have HX6 := hid_of (HX.out.on HB.out HLO.out)
          have HC6 : Hid (∀ w', Below wn.heap.size wn w' → w'.cell? (p5.add j) = some (.int .i64 (mm : Int))) := fun w' hb => HC5.out _ (below_more HB.out hb)
          have HLO6 : Hid (lo ≤ wn.heap.size) := Nat.le_trans HLO.out HB.out.size
          obtain ⟨V6, hV6⟩ : ∃ V6, V6 = wn := ⟨_, rfl⟩
          subst hV6
          obtain ⟨u6, d6, eG6, _, _⟩ := id HX6.out.bx.own
          subst eG6
          have HBOX6 : Hid (V6.heap[w.heap.size]? = some (boxH (.slice (some ⟨g, 0, none⟩) 10 c) 0 0 r (.slice u6 s.2.length d6))) := by have e := HX6.out.bx.box; rw [HSL.out.1] at e; exact e
          obtain ⟨l16, hl16⟩ : ∃ l16 : List Value, l16 = [hpV (.slice (some ⟨g, 0, none⟩) 10 c) 0 0 r (.slice u6 s.2.length d6), .slice (some p5) es.length cv, .int .i64 (j : Int), .pointer (some (p5.add j)), .int .i64 (mm : Int), undef, undef] := ⟨_, rfl⟩
          have HL16 := hid_of hl16
          clear hl16 HX HC5 HBOX HCS HXX HL HLO HB
          go_wp2_with fail
          refine wp_region_whole (by kernel_rfl) (by kernel_rfl) (by kernel_rfl) (by kernel_rfl) (Sh16 V6 lo w.heap.size (w.heap.size + 1) (Go.Proofs.YtbdljoldblpffaaGreat.blk (.slice (some p5) es.length cv)) (shOs 0 s.1 mm) (shXs 0 s.1 s.2 mm) (.slice (some ⟨g, 0, none⟩) 10 c) r (fun wz => ∃ Gj, EndT w5 lo w.heap.size (w.heap.size + 1) (Go.Proofs.YtbdljoldblpffaaGreat.blk (.slice (some p5) es.length cv)) 0 0 r (shOs 0 s.1 mm) (shXs 0 s.1 s.2 mm) g c Gj wz) l16) (fun us => .inl ⟨rfl, rfl, below_draw _, fun _ hj => by cases hj⟩) ?_ ?_
          · refine ⟨?_, ?_, ?_, ?_, ?_, ?_, ?_, trivial⟩
            · intro b0 us wz L hslot hoth hLi hRR hcl hdo K hK
              have hs5 : L 5 = false := by
                cases h : L 5 with
                | false => rfl
                | true => rw [done_at (hcl 5 _ rfl h) 0 (by rfl)] at hLi; cases hLi
              have hs6 : L 6 = false := by
                cases h : L 6 with
                | false => rfl
                | true => rw [done_at (hcl 6 _ rfl h) 5 (by rfl)] at hs5; cases hs5
              have hR := sh16_one hRR hs6 hs5
              have s2 : b0.tmps.getD 2 undef = .pointer (some ⟨w.heap.size, 0, none⟩) := hoth 2 (by rfl)
              obtain ⟨x0, x1, x2, x3, x4⟩ := cells5 (keep HBOX6.out hR.1)
              clear hslot hoth hdo hcl hLi
              refine guard_none (by rfl) ?_
              go_simp
              exact hK _ _ (sh16_step (by decide) (by decide) hs6 hs5 hR.1 hR.2 (by rw [HL16.out]; rfl))
            · intro b0 us wz L hslot hoth hLi hRR hcl hdo K hK
              have hs5 : L 5 = false := by
                cases h : L 5 with
                | false => rfl
                | true => rw [done_at (hcl 3 _ rfl (done_at (hcl 4 _ rfl (done_at (hcl 5 _ rfl h) 4 (by rfl))) 3 (by rfl))) 1 (by rfl)] at hLi; cases hLi
              have hs6 : L 6 = false := by
                cases h : L 6 with
                | false => rfl
                | true => rw [done_at (hcl 6 _ rfl h) 5 (by rfl)] at hs5; cases hs5
              have hR := sh16_one hRR hs6 hs5
              have s7 : b0.tmps.getD 7 undef = .slice (some p5) es.length cv := hoth 7 (by rfl)
              clear hslot hoth hdo hcl hLi
              refine guard_none (by rfl) ?_
              go_simp
              exact hK _ _ (sh16_step (by decide) (by decide) hs6 hs5 hR.1 hR.2 (by rw [HL16.out]; rfl))
            · intro b0 us wz L hslot hoth hLi hRR hcl hdo K hK
              have hs5 : L 5 = false := by
                cases h : L 5 with
                | false => rfl
                | true => rw [done_at (hcl 3 _ rfl (done_at (hcl 4 _ rfl (done_at (hcl 5 _ rfl h) 4 (by rfl))) 3 (by rfl))) 2 (by rfl)] at hLi; cases hLi
              have hs6 : L 6 = false := by
                cases h : L 6 with
                | false => rfl
                | true => rw [done_at (hcl 6 _ rfl h) 5 (by rfl)] at hs5; cases hs5
              have hR := sh16_one hRR hs6 hs5
              have s8 : b0.tmps.getD 8 undef = .int .i64 (j : Int) := hoth 8 (by rfl)
              clear hslot hoth hdo hcl hLi
              refine guard_none (by rfl) ?_
              go_simp
              exact hK _ _ (sh16_step (by decide) (by decide) hs6 hs5 hR.1 hR.2 (by rw [HL16.out]; rfl))
            · intro b0 us wz L hslot hoth hLi hRR hcl hdo K hK
              have hs5 : L 5 = false := by
                cases h : L 5 with
                | false => rfl
                | true => rw [done_at (hcl 4 _ rfl (done_at (hcl 5 _ rfl h) 4 (by rfl))) 3 (by rfl)] at hLi; cases hLi
              have hs6 : L 6 = false := by
                cases h : L 6 with
                | false => rfl
                | true => rw [done_at (hcl 6 _ rfl h) 5 (by rfl)] at hs5; cases hs5
              have hR := sh16_one hRR hs6 hs5
              have s73 : b0.tmps.getD 73 undef = .slice (some p5) es.length cv := (hslot 1 73 (by rfl)).trans ((hR.2 1 (done_at hdo 1 (by rfl))).trans (by rw [HL16.out]; rfl))
              have s74 : b0.tmps.getD 74 undef = .int .i64 (j : Int) := (hslot 2 74 (by rfl)).trans ((hR.2 2 (done_at hdo 2 (by rfl))).trans (by rw [HL16.out]; rfl))
              have hjz := HJ.out.1
              clear hslot hoth hdo hcl hLi
              refine guard_none (by rfl) ?_
              go_simp
              exact hK _ _ (sh16_step (by decide) (by decide) hs6 hs5 hR.1 hR.2 (by rw [HL16.out]; rfl))
            · intro b0 us wz L hslot hoth hLi hRR hcl hdo K hK
              have hs5 : L 5 = false := by
                cases h : L 5 with
                | false => rfl
                | true => rw [done_at (hcl 5 _ rfl h) 4 (by rfl)] at hLi; cases hLi
              have hs6 : L 6 = false := by
                cases h : L 6 with
                | false => rfl
                | true => rw [done_at (hcl 6 _ rfl h) 5 (by rfl)] at hs5; cases hs5
              have hR := sh16_one hRR hs6 hs5
              have s75 : b0.tmps.getD 75 undef = .pointer (some (p5.add j)) := (hslot 3 75 (by rfl)).trans ((hR.2 3 (done_at hdo 3 (by rfl))).trans (by rw [HL16.out]; rfl))
              have h5 := HC6.out _ hR.1
              clear hslot hoth hdo hcl hLi
              refine guard_none (by rfl) ?_
              go_simp
              exact hK _ _ (sh16_step (by decide) (by decide) hs6 hs5 hR.1 hR.2 (by rw [HL16.out]; rfl))
            · intro b0 us wz L hslot hoth hLi hRR hcl hdo K hK
              have hs6 : L 6 = false := by
                cases h : L 6 with
                | false => rfl
                | true => rw [done_at (hcl 6 _ rfl h) 5 (by rfl)] at hLi; cases hLi
              have hR := sh16_one hRR hs6 hLi
              have s72 : b0.tmps.getD 72 undef = hpV (.slice (some ⟨g, 0, none⟩) 10 c) 0 0 r (.slice u6 s.2.length d6) := (hslot 0 72 (by rfl)).trans ((hR.2 0 (done_at hdo 0 (by rfl))).trans (by rw [HL16.out]; rfl))
              have s76 : b0.tmps.getD 76 undef = .int .i64 (mm : Int) := (hslot 4 76 (by rfl)).trans ((hR.2 4 (done_at hdo 4 (by rfl))).trans (by rw [HL16.out]; rfl))
              clear hslot hoth hdo hcl hLi
              refine guard_none (by rfl) ?_
              go_simp
              have HE7 := HX6.out.on hR.1 HLO6.out
              have hgb := HE7.gotB
              rw [HSL.out.1] at hgb
              have CS := specShbV_any lo 0 0 r s.1 s.2 g c (.slice u6 s.2.length d6) mm wz (w.heap.size :: (w.heap.size + 1) :: Go.Proofs.YtbdljoldblpffaaGreat.blk (.slice (some p5) es.length cv)) HE7.few (by rw [HSL.out.1]; exact hgb) (by rw [HSL.out.1]; exact HJ.out.2.2) (Nat.le_trans HLO6.out hR.1.size) HSL.out.2
              rw [HSL.out.1] at CS
              refine CS.mono ?_
              rintro e w' ⟨⟨G7, rfl, hg7⟩, hb7, hk7⟩
              obtain ⟨_, _, u7, d7, _, rfl⟩ := hg7.got.form
              refine hK _ _ (.inr (.inl ⟨by rw [markd_other L (by decide)]; exact hs6, markd_same L 5, u7, d7, use_same us 5 _, hg7, (hR.1.mono HLO6.out).trans hb7, fun k hk => (hk7 k hk).trans (hR.1.block k (HX6.out.few k hk))⟩))
            · intro b0 us wz L hslot hoth hLi hRR hcl hdo K hK
              have hs5 : L 5 = true := done_at hdo 5 (by rfl)
              obtain ⟨u7, d7, hu7, hg7, hb7, hk7⟩ := sh16_two hRR hLi hs5
              have s77 : b0.tmps.getD 77 undef = hpV (.slice (some ⟨g, 0, none⟩) 10 c) 0 0 r (.slice u7 (shXs 0 s.1 s.2 mm).length d7) := (hslot 5 77 (by rfl)).trans hu7
              have s2 : b0.tmps.getD 2 undef = .pointer (some ⟨w.heap.size, 0, none⟩) := hoth 2 (by rfl)
              obtain ⟨x0, x1, x2, x3, x4⟩ := cells5 ((hk7 w.heap.size (by simp)).trans HBOX6.out)
              have xf := frozen_of ((hk7 w.heap.size (by simp)).trans HBOX6.out)
              have HST : Hid (EndT w5 lo w.heap.size (w.heap.size + 1) (Go.Proofs.YtbdljoldblpffaaGreat.blk (.slice (some p5) es.length cv)) 0 0 r (shOs 0 s.1 mm) (shXs 0 s.1 s.2 mm) g c (.slice u7 (shXs 0 s.1 s.2 mm).length d7) (wq5 wz w.heap.size 0 (.slice (some ⟨g, 0, none⟩) 10 c) 0 0 r (.slice u7 (shXs 0 s.1 s.2 mm).length d7))) := by
                have e := HX6.out.stored (os' := (shOs 0 s.1 mm)) (by rw [shOs_length]) (by rw [HSL.out.1]; exact hg7) hb7 hk7 0 0 r
                rw [HSL.out.1] at e
                exact e
              clear hslot hoth hdo hcl hg7 hb7 hk7 hu7 hRR hs5
              refine guard_none (by rfl) ?_
              go_simp
              exact hK undef _ (sh16_fin ⟨_, HST.out⟩)
          · intro us wn L hall hR a' ha'
            have HN := hid_of (sh16_end hR (hall 6 (by decide)))
            clear hR hall
            simp only [putAll] at ha'
            subst ha'
            go_frame
            go_wp2
            go_roundw
            case rel => exact ⟨j + 1, by omega, by go_num, by rw [HQQ.out]; exact HN.out⟩
            case measure => rw [hjw]; exact meas_lt hlt
    · obtain rfl : j = es.length := by omega
      have HX := hid_of hbx.out.choose_spec
      generalize hbx.out.choose = Gj at HX
      have hsl : (shTo now es os2 ys es.length).1.length = os.length := (shTo_len now es os2 ys es.length).1.trans (HL2.out.trans HK.out.2.1.symm)
      obtain ⟨u6, d6, eG6, _, _⟩ := id HX.out.bx.own
      subst eG6
      have HFIN : Hid ((shTo now es os2 ys es.length) = (shTo now (edgesTo os k 10) (os.set k (marked (obAt os k) true)) ys (edgesTo os k 10).length)) := by show _ = _; rw [HEQ.out, HO2.out]
      generalize shTo now es os2 ys es.length = s at *
      have HA := hid_of (HX.out.ans 0 0 r)
      rw [hsl] at HA
      obtain ⟨x0, x1, x2, x3, x4⟩ := cells5 HX.out.bx.box
      rw [hsl] at x0
      have xf := frozen_of HX.out.bx.box
      obtain ⟨r0, r1, r2, r3, r4, hrs⟩ := HX.out.res
      obtain ⟨m0, m1, m2, m3, m4⟩ := cells5 hrs
      have mf := frozen_of hrs
      clear hrs hsl hbx HX
      have hjz : decide ((es.length : Int) < (es.length : Int)) = false := by simp
      go_wp2
      show bodyPost _ _ _ _ _ (wq5 _ (w.heap.size + 1) 0 (.slice (some ⟨g, 0, none⟩) os.length c) 0 0 r (.slice u6 s.2.length d6))
      refine bodyPost_ret (v := hpV (.slice (some ⟨g, 0, none⟩) os.length c) 0 0 r (.slice u6 s.2.length d6)) (by have e := HA.out.1; simp [results, go_sem, World.cell?, e]) rfl ?_
      show MkAns lo 0 0 r (shTo now (edgesTo os k 10) (os.set k (marked (obAt os k) true)) ys (edgesTo os k 10).length).1 (shTo now (edgesTo os k 10) (os.set k (marked (obAt os k) true)) ys (edgesTo os k 10).length).2 (.slice (some ⟨g, 0, none⟩) os.length c) w _ _
      rw [← HFIN.out]
      exact ⟨⟨_, rfl, HA.out.2.1.few⟩, HB5.out.trans HA.out.2.2.1⟩
theorem specMark_any (lo : Nat) (r : Int) (os : List Ob) (xs : List Int) (g c : Nat) (G : Value) (now : Int) (w : World) (h : GotB lo w.heap.size [] os xs (.slice (some ⟨g, 0, none⟩) os.length c) G w) (hl : lo ≤ w.heap.size) (hok : heapOk os 0 0 r xs = true) (hs : Small8 os) (hf : AllFit os) (hn : xs.length + 10 ≤ 1048576) :
    Calls Tryz.prog 38 #[hpV (.slice (some ⟨g, 0, none⟩) os.length c) 0 0 r G, .int .i64 now] w fun e w' => MkAns lo (mkP xs) 0 r (mkAll os xs now).1 (mkAll os xs now).2 (.slice (some ⟨g, 0, none⟩) os.length c) w e w' := by
  unfold mkP mkAll mkGone
  by_cases h0 : xs.length = 0
  · rw [if_pos h0, if_pos h0]
    exact sMk_none lo r os xs g c G now w h hl hok hs hf hn h0
  · rw [if_neg h0, if_neg h0]
    by_cases h1 : lastI xs = 0
    · rw [decide_eq_true h1]
      exact sMk_root lo r os xs g c G now w h hl hok hs hf hn h0 h1
    · rw [decide_eq_false h1]
      cases h2 : expB (obAt os (lastI xs)) now with
      | true => exact sMk_gone lo r os xs g c G now w h hl hok hs hf hn h0 h1 h2
      | false => exact sMk_look lo r os xs g c G now w h hl hok hs hf hn h0 h1 h2
end Go.Proofs.YtbdljoldblpffaaGreat
namespace Go.Proofs.YtbdljoldblpffaaGreat
open Go.RowKit
set_option linter.unusedVariables false
set_option maxRecDepth 100000
set_option maxRecDepth 100000
theorem EndH.ne_g {w : World} {b : Nat} {p t r : Int} {os : List Ob} {xs : List Int} {g c : Nat} {G : Value} {wz : World} (h : EndH w b p t r os xs g c G wz) : w.heap.size ≠ g := by
  obtain ⟨fs, rest, la, ha, _, e2, e3, _⟩ := h.bx.got
  have := e2.lo
  omega

theorem BoxH.gotB {lo b : Nat} {p t r : Int} {os : List Ob} {xs : List Int} {g c : Nat} {G : Value} {w : World} (h : BoxH lo b [] p t r os xs g c G w) : GotB lo w.heap.size [] os xs (.slice (some ⟨g, 0, none⟩) os.length c) G w := by
  obtain ⟨fs, rest, la, ha, e1, e2, e3, e4, e5, e6⟩ := h.got
  exact ⟨g, c, fs, rest, la, ha, rfl, e1, e2, h.own, e5, e3, e4, e4, fun k hk => by cases hk⟩
/-- What a call handed back is answered. -/
theorem GotB.answer {w w4 : World} {os : List Ob} {xs : List Int} {A G : Value} (hg : GotB (w.heap.size + 1 + 1) w4.heap.size [] os xs A G w4) (hr : ∃ v0 v1 v2 v3 v4, w4.heap[w.heap.size + 1]? = some (.cells #[v0, v1, v2, v3, v4] 32 (0, 0))) (hb : Below w.heap.size w w4) (p t r : Int) : (wq5 w4 (w.heap.size + 1) 0 A p t r G).heap[w.heap.size + 1]? = some (boxH A p t r G) ∧ GotH w.heap.size (wq5 w4 (w.heap.size + 1) 0 A p t r G).heap.size os xs A G (wq5 w4 (w.heap.size + 1) 0 A p t r G) ∧ Below w.heap.size w (wq5 w4 (w.heap.size + 1) 0 A p t r G) := by
  obtain ⟨_, _, _, _, _, h2⟩ := hr
  obtain ⟨g, c, fs, rest, la, ha, e0, e1, e2, e3, e4, e5, e6, e7, _⟩ := hg
  refine ⟨heap_wq5_new h2 _ _ _ _ _, ?_, below_wq5 hb (by omega) 0 _ _ _ _ _⟩
  rw [size_wq5]
  exact ⟨g, c, fs, rest, la, ha, e0, e1, e2.keepIn (fun k x hk hx => heap_wq5_other hx (by omega) _ _ _ _ _ _), e3.move (fun k x hk _ hx => heap_wq5_other hx (by omega) _ _ _ _ _ _) (by omega) (Nat.le_refl _), e4, by omega, e6, by rw [size_wq5]; exact e7⟩
theorem ar_at3 {w : World} {pa : Addr} {c n : Nat} {os : List Ob} (h : IsArena w (.slice (some pa) n c) os) {k : Nat} (hk : k < os.length) : ∃ q a1 n1 d1 a2 n2 d2 a3 n3 d3, pa.add (k * 13) = q ∧ ObCells w q (obAt os k) (.slice a1 n1 d1) (.slice a2 n2 d2) (.slice a3 n3 d3) := by
  obtain ⟨p, q, l, d, m, e1, e2, e3, ⟨a, c1, rfl, _, _⟩, ⟨a', c', rfl, _, _⟩, ⟨a'', c'', rfl, _, _⟩⟩ := h.at hk
  cases e1
  exact ⟨q, _, _, _, _, _, _, _, _, _, e2, e3⟩
/-- What is nothing is not marked. -/
theorem kind_none {o : Ob} (h : obOk o = true) (hz : o.kind = 0) : o.mark = false := by
  unfold obOk at h
  simp only [Bool.and_eq_true] at h
  obtain ⟨_, h⟩ := h
  rw [if_pos hz] at h
  unfold zeroB at h
  simp only [Bool.and_eq_true] at h
  have e := h.2.2.2.2.2.2.2.1
  simpa using e
theorem marked_same {os : List Ob} {k : Nat} (hk : k < os.length) (h : (obAt os k).mark = false) : os.set k (marked (obAt os k) false) = os := by
  have e : marked (obAt os k) false = obAt os k := by
    unfold marked
    rw [← h]
  rw [e]
  unfold obAt List.getD
  rw [List.getElem?_eq_getElem hk]
  simp
/-- The last slot was swept: a new round. -/
theorem EndH.round {w : World} {b : Nat} {p t r : Int} {os : List Ob} {xs : List Int} {g c : Nat} {G : Value} {wz : World} (h : EndH w b p t r os xs g c G wz) (h0 : 0 < os.length) (z : Int) (gn : Nat) (hgn : gn = wz.heap.size) :
    EndH w b 0 0 z os [0] g c (.slice (some ⟨gn, 0, none⟩) 1 1) (wq4 (wz.alloc (.cells #[.int .i64 0] 3 (0, 0))) b 1 0 0 z (.slice (some ⟨gn, 0, none⟩) 1 1)) ∧
    EndH w b 0 0 z (os.set 0 (marked (obAt os 0) true)) [0] g c (.slice (some ⟨gn, 0, none⟩) 1 1) ((wq4 (wz.alloc (.cells #[.int .i64 0] 3 (0, 0))) b 1 0 0 z (.slice (some ⟨gn, 0, none⟩) 1 1)).setCell ⟨g, 9, none⟩ (.bool true)) := by
  subst hgn
  have hb := below_alloc wz (.cells #[.int .i64 0] 3 (0, 0))
  have hbl := lt_of_block h.bx.box
  have hlo := h.bx.low
  have hown : OwnI wz.heap.size (wz.alloc (.cells #[.int .i64 0] 3 (0, 0))).heap.size (wz.alloc (.cells #[.int .i64 0] 3 (0, 0))) (.slice (some ⟨wz.heap.size, 0, none⟩) 1 1) [0] := by
    have e := heap_alloc_new wz (.cells #[.int .i64 0] 3 (0, 0))
    exact RowIn.own (xs := [0]) (rs := []) (n := 1) (g := wz.heap.size) (by unfold RowIn; simpa [icells] using e) (by omega) (by simp) (by decide) rfl (by decide)
  have e0 := keep h.bx.box hb
  have hbx : (wq4 (wz.alloc (.cells #[.int .i64 0] 3 (0, 0))) b 1 0 0 z (.slice (some ⟨wz.heap.size, 0, none⟩) 1 1)).heap[b]? = some (boxH (.slice (some ⟨g, 0, none⟩) os.length c) 0 0 z (.slice (some ⟨wz.heap.size, 0, none⟩) 1 1)) := by
    have e1 := box_cell e0 1 (.int .i64 0)
    simp only [Array.setIfInBounds] at e1
    have e2 := box_cell (by simpa using e1) (1 + 1) (.int .i64 0)
    have e3 := box_cell (by simpa using e2) (1 + 2) (.int .i64 z)
    have e4 := box_cell (by simpa using e3) (1 + 3) (.slice (some ⟨wz.heap.size, 0, none⟩) 1 1)
    simpa [wq4] using e4
  have hB := h.bx.reGrey hb hown (by omega) (fun k hk => by simp at hk; omega) (p' := 0) (t' := 0) (r' := z) hbx (fun k x hk hx => heap_wq4_other hx hk _ _ _ _ _) (by simp [size_wq4])
  have h1 := h.turn2 hB (below_wq4 (hb.mono (by omega)) (by omega) 1 0 0 z _)
  exact ⟨h1, h1.mark h0 true⟩
set_option maxHeartbeats 8000000 in
theorem sStep_no (pa : Addr) (c : Nat) (p t r : Int) (pg : Addr) (cg : Nat) (os : List Ob) (xs : List Int) (now : Int) (w : World) (ha : IsArena w (.slice (some pa) os.length c) os) (hx : IsInts w (.slice (some pg) xs.length cg) xs) (hs : Small8 os) (hf : AllFit os) (ht : (os.length : Int) + arN os + xs.length ≤ 1048576) (h1 : heapOk os p t r xs = false) :
    Calls Tryz.prog 16 #[hpV (.slice (some pa) os.length c) p t r (.slice (some pg) xs.length cg), .int .i64 now] w fun e w' => AnsHI p t r os xs (-1) w e w' := by
  have CC : Hid (∀ w', Below w.heap.size w w' → Calls Tryz.prog 22 #[hpV (.slice (some pa) os.length c) p t r (.slice (some pg) xs.length cg)] w' fun e w'' => AnsH p t r os xs w' e w'') := fun w' hb => specCopyH_any pa c p t r pg cg os xs w' (ha.on hb) (hx.on hb) (by omega) hs (by omega)
  have CO : Hid (∀ w', Below w.heap.size w w' → Calls Tryz.prog 23 #[hpV (.slice (some pa) os.length c) p t r (.slice (some pg) xs.length cg)] w' fun e w'' => e = .returned (.bool (heapOk os p t r xs)) ∧ Below w'.heap.size w' w'') := fun w' hb => specHeapOk_any _ p t r _ os xs w' (ha.on hb) (hx.on hb) (by omega) hs hf (by omega)
  rw [h1] at CO
  clear ha hx hs hf ht h1
  go_enter Tryz.func16, Tryz.ntmps16
  go_wp2_with fail
  refine (CC.out _ (by go_grown)).mono ?_
  rintro e w1 ⟨⟨A1, G1, rfl, hgot⟩, hb⟩
  obtain ⟨g1, c1, u1, d1, rfl, rfl⟩ := hgot.form
  have HE := hid_of (EndH.made hb hgot)
  clear hb hgot CC
  obtain ⟨i0, i1, i2, i3, i4⟩ := cells5 HE.out.2
  obtain ⟨W1, hW1⟩ : ∃ W1, W1 = w1.alloc (boxH (.slice (some ⟨g1, 0, none⟩) os.length c1) p t r (.slice u1 xs.length d1)) := ⟨_, rfl⟩
  go_wp2_with fail
  clear i0 i1 i2 i3 i4
  rw [← hW1] at HE ⊢
  obtain ⟨b, hbb⟩ : ∃ b, b = w1.heap.size := ⟨_, rfl⟩
  rw [← hbb] at HE ⊢
  clear hbb hW1
  refine (CO.out _ HE.out.1.base).mono ?_
  rintro e w2 ⟨rfl, hb⟩
  have HE2 := hid_of (HE.out.1.on hb)
  have HP2 := hid_of (keep HE.out.2 hb)
  clear hb CO HE
  obtain ⟨k0, k1, k2, k3, k4⟩ := cells5 HE2.out.bx.box
  have kf := frozen_of HE2.out.bx.box
  obtain ⟨r0, r1, r2, r3, r4, hrs⟩ := HE2.out.res
  obtain ⟨m0, m1, m2, m3, m4⟩ := cells5 hrs
  have mf := frozen_of hrs
  clear hrs
  go_wp2
  have HA := hid_of (HE2.out.ans p t r)
  clear k0 k1 k2 k3 k4 kf m0 m1 m2 m3 m4 mf
  show bodyPost _ _ _ _ _ (wq5 _ (w.heap.size + 1) 0 (.slice (some ⟨g1, 0, none⟩) os.length c1) p t r (.slice u1 xs.length d1))
  refine bodyPost_ret (v := .tuple #[hpV (.slice (some ⟨g1, 0, none⟩) os.length c1) p t r (.slice u1 xs.length d1), .int .i64 (-1)]) (by have e := HA.out.1; simp [results, go_sem, World.cell?, e]) rfl ⟨⟨_, _, rfl, HA.out.2.1⟩, HA.out.2.2⟩
set_option maxHeartbeats 8000000 in
theorem sStep_mark (pa : Addr) (c : Nat) (p t r : Int) (pg : Addr) (cg : Nat) (os : List Ob) (xs : List Int) (now : Int) (w : World) (ha : IsArena w (.slice (some pa) os.length c) os) (hx : IsInts w (.slice (some pg) xs.length cg) xs) (hs : Small8 os) (hf : AllFit os) (ht : (os.length : Int) + arN os + xs.length ≤ 1048576) (hp : p = 0) (h1 : heapOk os p t r xs = true) :
    Calls Tryz.prog 16 #[hpV (.slice (some pa) os.length c) p t r (.slice (some pg) xs.length cg), .int .i64 now] w fun e w' => AnsHI (mkP xs) 0 r (mkAll os xs now).1 (mkAll os xs now).2 (-1) w e w' := by
  obtain rfl := (heapOk_parts h1).2.2.2.1 hp
  subst hp
  have CC : Hid (∀ w', Below w.heap.size w w' → Calls Tryz.prog 22 #[hpV (.slice (some pa) os.length c) 0 0 r (.slice (some pg) xs.length cg)] w' fun e w'' => AnsH 0 0 r os xs w' e w'') := fun w' hb => specCopyH_any pa c 0 0 r pg cg os xs w' (ha.on hb) (hx.on hb) (by omega) hs (by omega)
  have CO : Hid (∀ w', Below w.heap.size w w' → Calls Tryz.prog 23 #[hpV (.slice (some pa) os.length c) 0 0 r (.slice (some pg) xs.length cg)] w' fun e w'' => e = .returned (.bool (heapOk os 0 0 r xs)) ∧ Below w'.heap.size w' w'') := fun w' hb => specHeapOk_any _ 0 0 r _ os xs w' (ha.on hb) (hx.on hb) (by omega) hs hf (by omega)
  rw [h1] at CO
  have HN : Hid (heapOk os 0 0 r xs = true ∧ Small8 os ∧ AllFit os ∧ xs.length + 10 ≤ 1048576) := ⟨h1, hs, hf, by have := heapOk_ten h1; omega⟩
  clear ha hx hs hf ht h1
  go_enter Tryz.func16, Tryz.ntmps16
  go_wp2_with fail
  refine (CC.out _ (by go_grown)).mono ?_
  rintro e w1 ⟨⟨A1, G1, rfl, hgot⟩, hb⟩
  obtain ⟨g1, c1, u1, d1, rfl, rfl⟩ := hgot.form
  have HE := hid_of (EndH.made hb hgot)
  clear hb hgot CC
  obtain ⟨i0, i1, i2, i3, i4⟩ := cells5 HE.out.2
  obtain ⟨W1, hW1⟩ : ∃ W1, W1 = w1.alloc (boxH (.slice (some ⟨g1, 0, none⟩) os.length c1) 0 0 r (.slice u1 xs.length d1)) := ⟨_, rfl⟩
  go_wp2_with fail
  clear i0 i1 i2 i3 i4
  rw [← hW1] at HE ⊢
  obtain ⟨b, hbb⟩ : ∃ b, b = w1.heap.size := ⟨_, rfl⟩
  rw [← hbb] at HE ⊢
  clear hbb hW1
  refine (CO.out _ HE.out.1.base).mono ?_
  rintro e w2 ⟨rfl, hb⟩
  have HE2 := hid_of (HE.out.1.on hb)
  have HP2 := hid_of (keep HE.out.2 hb)
  clear hb CO HE
  obtain ⟨j0, j1, j2, j3, j4⟩ := cells5 HP2.out
  obtain ⟨k0, k1, k2, k3, k4⟩ := cells5 HE2.out.bx.box
  have HB2 : Hid (Below w.heap.size w w2) := HE2.out.base
  have HLO : Hid (w.heap.size + 1 + 1 ≤ w2.heap.size) := by show _ ≤ _; have := HE2.out.bx.low; have := lt_of_block HE2.out.bx.box; omega
  go_wp2_with fail
  refine (specMark_any (w.heap.size + 1 + 1) r os xs g1 c1 (.slice u1 xs.length d1) now w2 HE2.out.bx.gotB HLO.out HN.out.1 HN.out.2.1 HN.out.2.2.1 HN.out.2.2.2).mono ?_
  rintro e w4 ⟨⟨G4, rfl, hg4⟩, hb4⟩
  have HR4 : Hid (∃ v0 v1 v2 v3 v4, w4.heap[w.heap.size + 1]? = some (.cells #[v0, v1, v2, v3, v4] 32 (0, 0))) := by
    obtain ⟨_, _, _, _, _, h⟩ := HE2.out.res
    exact ⟨_, _, _, _, _, (hb4.block _ (by omega)).trans h⟩
  have HB4 : Hid (Below w.heap.size w w4) := HB2.out.trans (hb4.mono (by omega))
  have HG4 := hid_of hg4
  obtain ⟨_, _, u4, d4, eA4, rfl⟩ := hg4.got.form
  clear eA4
  clear hg4 hb4 HE2 HP2 HB2 HLO HN j0 j1 j2 j3 j4 k0 k1 k2 k3 k4
  obtain ⟨r0, r1, r2, r3, r4, hrs⟩ := HR4.out
  obtain ⟨m0, m1, m2, m3, m4⟩ := cells5 hrs
  have mf := frozen_of hrs
  clear hrs
  go_wp2
  have HA := hid_of (GotB.answer HG4.out HR4.out HB4.out (mkP xs) 0 r)
  clear m0 m1 m2 m3 m4 mf
  show bodyPost _ _ _ _ _ (wq5 _ (w.heap.size + 1) 0 (.slice (some ⟨g1, 0, none⟩) os.length c1) (mkP xs) 0 r (.slice u4 (mkAll os xs now).2.length d4))
  refine bodyPost_ret (v := .tuple #[hpV (.slice (some ⟨g1, 0, none⟩) os.length c1) (mkP xs) 0 r (.slice u4 (mkAll os xs now).2.length d4), .int .i64 (-1)]) (by have e := HA.out.1; simp [results, go_sem, World.cell?, e]) rfl ⟨⟨_, _, rfl, HA.out.2.1⟩, HA.out.2.2⟩
set_option maxHeartbeats 8000000 in
theorem sStep_root (pa : Addr) (c : Nat) (p t r : Int) (pg : Addr) (cg : Nat) (os : List Ob) (xs : List Int) (now : Int) (w : World) (ha : IsArena w (.slice (some pa) os.length c) os) (hx : IsInts w (.slice (some pg) xs.length cg) xs) (hs : Small8 os) (hf : AllFit os) (ht : (os.length : Int) + arN os + xs.length ≤ 1048576) (k : Nat) (hp : p = 1) (hx0 : xs = []) (htk : t = (k : Int)) (hk : k < 10) (h1 : heapOk os p t r xs = true) (h0 : k = 0) (hz : (obAt os k).kind ≠ 0) :
    Calls Tryz.prog 16 #[hpV (.slice (some pa) os.length c) p t r (.slice (some pg) xs.length cg), .int .i64 now] w fun e w' => AnsHI (swP k) (swT k) (swR r k) (swL (os.set k (marked (obAt os k) false)) k) (swX k) (-1) w e w' := by
  subst hp
  subst htk
  have HX0 := hid_of hx0
  clear hx0
  have CC : Hid (∀ w', Below w.heap.size w w' → Calls Tryz.prog 22 #[hpV (.slice (some pa) os.length c) 1 k r (.slice (some pg) xs.length cg)] w' fun e w'' => AnsH 1 k r os xs w' e w'') := fun w' hb => specCopyH_any pa c 1 k r pg cg os xs w' (ha.on hb) (hx.on hb) (by omega) hs (by omega)
  have CO : Hid (∀ w', Below w.heap.size w w' → Calls Tryz.prog 23 #[hpV (.slice (some pa) os.length c) 1 k r (.slice (some pg) xs.length cg)] w' fun e w'' => e = .returned (.bool (heapOk os 1 k r xs)) ∧ Below w'.heap.size w' w'') := fun w' hb => specHeapOk_any _ 1 k r _ os xs w' (ha.on hb) (hx.on hb) (by omega) hs hf (by omega)
  rw [h1] at CO
  have hten := heapOk_ten h1
  have hko : k < os.length := by omega
  have hkz : (k : Int) < (os.length : Int) := by omega
  have HK : Hid (k < os.length ∧ os.length = 10 ∧ k < 10) := ⟨hko, hten, hk⟩
  have HR := hid_of (heapOk_parts h1).2.1
  have HAT : Hid (∀ w', Below w.heap.size w w' → ∃ q a1 n1 d1 a2 n2 d2 a3 n3 d3, pa.add (k * 13) = q ∧ ObCells w' q (obAt os k) (.slice a1 n1 d1) (.slice a2 n2 d2) (.slice a3 n3 d3)) := fun w' hb => ar_at3 (ha.on hb) hko
  have hwk : wrap64 ((k : Int) + 1) = (k : Int) + 1 := by unfold wrap64; omega
  obtain ⟨o, ho⟩ : ∃ o, o = obAt os k := ⟨_, rfl⟩
  rw [← ho] at HAT hz
  have HO := hid_of ho
  have HK0 := hid_of h0
  have HN0 : Hid (decide ((k : Int) > 0) = false ∧ decide ((0 : Int) < (k : Int)) = false ∧ decide (0 < k) = false) := by refine ⟨?_, ?_, ?_⟩ <;> (simp; omega)
  have HN2 : Hid ((o.kind != 0) = true) := by show _ = _; simp [hz]
  clear ha hx hs hf ht h1 hk hten hko ho hz h0
  go_enter Tryz.func16, Tryz.ntmps16
  go_wp2_with fail
  refine (CC.out _ (by go_grown)).mono ?_
  rintro e w1 ⟨⟨A1, G1, rfl, hgot⟩, hb⟩
  obtain ⟨g1, c1, u1, d1, rfl, rfl⟩ := hgot.form
  have HE := hid_of (EndH.made hb hgot)
  clear hb hgot CC
  obtain ⟨i0, i1, i2, i3, i4⟩ := cells5 HE.out.2
  obtain ⟨W1, hW1⟩ : ∃ W1, W1 = w1.alloc (boxH (.slice (some ⟨g1, 0, none⟩) os.length c1) 1 k r (.slice u1 xs.length d1)) := ⟨_, rfl⟩
  go_wp2_with fail
  clear i0 i1 i2 i3 i4
  rw [← hW1] at HE ⊢
  obtain ⟨b, hbb⟩ : ∃ b, b = w1.heap.size := ⟨_, rfl⟩
  rw [← hbb] at HE ⊢
  clear hbb hW1
  refine (CO.out _ HE.out.1.base).mono ?_
  rintro e w2 ⟨rfl, hb⟩
  have HE2 := hid_of (HE.out.1.on hb)
  have HP2 := hid_of (keep HE.out.2 hb)
  clear hb CO HE
  obtain ⟨q, a1, n1, d1', a2, n2', d2, a3, n3, d3, hq, hc⟩ := HAT.out _ HE2.out.base
  obtain ⟨c0', c1', c2', c3', c4', c5', c6', c7', c8', c9', c10', c11', c12'⟩ := hc
  obtain ⟨j0, j1, j2, j3, j4⟩ := cells5 HP2.out
  obtain ⟨wn, hW9⟩ : ∃ W9, W9 = w2.alloc (boxO o (.slice a1 n1 d1') (.slice a2 n2' d2) (.slice a3 n3 d3)) := ⟨_, rfl⟩
  have hal := below_alloc w2 (boxO o (.slice a1 n1 d1') (.slice a2 n2' d2) (.slice a3 n3 d3))
  have HE10 := hid_of (HE2.out.on hal)
  have HP10 := hid_of (keep HP2.out hal)
  have HOB10 : Hid (ObCells wn ⟨w2.heap.size, 0, none⟩ o (.slice a1 n1 d1') (.slice a2 n2' d2) (.slice a3 n3 d3)) := by
    show ObCells _ _ _ _ _ _
    rw [hW9]
    constructor <;> simp
  rw [← hW9] at HE10 HP10
  clear hal
  dsimp only
  repeat (first | (with_reducible refine halt_region (id := 9) ?_) | go_values | go_skip | go_guarded | go_step | go_upon | go_back)
  unfold Halt0
  rw [← hW9]
  obtain ⟨b9, hb9⟩ : ∃ b9, b9 = w2.heap.size := ⟨_, rfl⟩
  rw [← hb9] at HOB10 ⊢
  clear hb9 hW9 j0 j1 j2 j3 j4 c0' c1' c2' c3' c4' c5' c6' c7' c8' c9' c10' c11' c12' HE2 HP2 HAT
  have n0 := HN0.out.1
  have n0b := HN0.out.2.1
  have n0c := HN0.out.2.2
  have n2 := HN2.out
  obtain ⟨x0, x1, x2, x3, x4, x5, x6, x7, x8, x9, x10, x11, x12⟩ := HOB10.out
  obtain ⟨e1, e2, e3, e4, e5, e6, e7, e8, e9, hc2, hff2⟩ := sl_at HE10.out.bx HK.out.1
  have q9 := hc2.c9
  have qf := hff2 (k * 13 + 9)
  obtain ⟨k0, k1, k2, k3, k4⟩ := cells5 HE10.out.bx.box
  have H1 : Hid (EndH w b 1 k r (os.set k (marked (obAt os k) false)) xs g1 c1 (.slice u1 xs.length d1) (wn.setCell ⟨g1, k * 13 + 9, none⟩ (.bool false))) := HE10.out.mark HK.out.1 false
  have HP1 : Hid ((wn.setCell ⟨g1, k * 13 + 9, none⟩ (.bool false)).heap[w.heap.size]? = some (boxH (.slice (some pa) os.length c) 1 k r (.slice (some pg) xs.length cg))) := setCell_keep HP10.out HE10.out.ne_g
  have HL : Hid ((os.set k (marked (obAt os k) false)).length = os.length) := by show _ = _; simp
  clear hc2 hff2 HE10 HP10 HOB10
  have H2 := hid_of (H1.out.turn2 (atUp H1.out.bx ((k : Int) + 1)) ((Below.refl _ _).setCell (p := ⟨b, 2, none⟩) H1.out.bx.low (.int .i64 ((k : Int) + 1))))
  have HP3 : Hid ((World.setCell (wn.setCell ⟨g1, k * 13 + 9, none⟩ (.bool false)) ⟨b, 2, none⟩ (.int .i64 ((k : Int) + 1))).heap[w.heap.size]? = some (boxH (.slice (some pa) os.length c) 1 k r (.slice (some pg) xs.length cg))) := setCell_keep HP1.out (by have := H1.out.bx.low; omega)
  obtain ⟨y0, y1, y2, y3, y4⟩ := cells5 H1.out.bx.box
  have yf := frozen_of H1.out.bx.box
  obtain ⟨z0, z1, z2, z3, z4⟩ := cells5 H2.out.bx.box
  have zf := frozen_of H2.out.bx.box
  rw [HL.out] at y0 z0
  have h9 : k ≠ 9 := by have := HK0.out; omega
  have n9 : (((k : Int) + 1) == 10) = false := by simp; omega
  have HE : Hid (swP k = 1 ∧ swT k = (k : Int) + 1 ∧ swR r k = r ∧ swL (os.set k (marked (obAt os k) false)) k = (os.set k (marked (obAt os k) false)) ∧ swX k = xs) := by show _ ∧ _; unfold swP swT swR swL swX; rw [HX0.out]; simp [h9]
  obtain ⟨r0, r1, r2, r3, r4, hrs⟩ := H2.out.res
  obtain ⟨m0, m1, m2, m3, m4⟩ := cells5 hrs
  have mf := frozen_of hrs
  clear hrs h9 HP1 HP3 H1
  go_wp2
  have HA := hid_of (H2.out.ans 1 ((k : Int) + 1) r)
  rw [HL.out] at HA
  show bodyPost _ _ _ _ _ (wq5 _ (w.heap.size + 1) 0 (.slice (some ⟨g1, 0, none⟩) os.length c1) 1 ((k : Int) + 1) r (.slice u1 xs.length d1))
  refine bodyPost_ret (v := .tuple #[hpV (.slice (some ⟨g1, 0, none⟩) os.length c1) 1 ((k : Int) + 1) r (.slice u1 xs.length d1), .int .i64 (-1)]) (by have e := HA.out.1; simp [results, go_sem, World.cell?, e]) rfl ?_
  show AnsHI (swP k) (swT k) (swR r k) (swL (os.set k (marked (obAt os k) false)) k) (swX k) (-1) w _ _
  rw [HE.out.1, HE.out.2.1, HE.out.2.2.1, HE.out.2.2.2.1, HE.out.2.2.2.2]
  exact ⟨⟨_, _, rfl, HA.out.2.1⟩, HA.out.2.2⟩
set_option maxHeartbeats 8000000 in
theorem sStep_rnone (pa : Addr) (c : Nat) (p t r : Int) (pg : Addr) (cg : Nat) (os : List Ob) (xs : List Int) (now : Int) (w : World) (ha : IsArena w (.slice (some pa) os.length c) os) (hx : IsInts w (.slice (some pg) xs.length cg) xs) (hs : Small8 os) (hf : AllFit os) (ht : (os.length : Int) + arN os + xs.length ≤ 1048576) (k : Nat) (hp : p = 1) (hx0 : xs = []) (htk : t = (k : Int)) (hk : k < 10) (h1 : heapOk os p t r xs = true) (h0 : k = 0) (hz : (obAt os k).kind = 0) :
    Calls Tryz.prog 16 #[hpV (.slice (some pa) os.length c) p t r (.slice (some pg) xs.length cg), .int .i64 now] w fun e w' => AnsHI (swP k) (swT k) (swR r k) (swL os k) (swX k) (-1) w e w' := by
  subst hp
  subst htk
  have HX0 := hid_of hx0
  clear hx0
  have CC : Hid (∀ w', Below w.heap.size w w' → Calls Tryz.prog 22 #[hpV (.slice (some pa) os.length c) 1 k r (.slice (some pg) xs.length cg)] w' fun e w'' => AnsH 1 k r os xs w' e w'') := fun w' hb => specCopyH_any pa c 1 k r pg cg os xs w' (ha.on hb) (hx.on hb) (by omega) hs (by omega)
  have CO : Hid (∀ w', Below w.heap.size w w' → Calls Tryz.prog 23 #[hpV (.slice (some pa) os.length c) 1 k r (.slice (some pg) xs.length cg)] w' fun e w'' => e = .returned (.bool (heapOk os 1 k r xs)) ∧ Below w'.heap.size w' w'') := fun w' hb => specHeapOk_any _ 1 k r _ os xs w' (ha.on hb) (hx.on hb) (by omega) hs hf (by omega)
  rw [h1] at CO
  have hten := heapOk_ten h1
  have hko : k < os.length := by omega
  have hkz : (k : Int) < (os.length : Int) := by omega
  have HK : Hid (k < os.length ∧ os.length = 10 ∧ k < 10) := ⟨hko, hten, hk⟩
  have HR := hid_of (heapOk_parts h1).2.1
  have HAT : Hid (∀ w', Below w.heap.size w w' → ∃ q a1 n1 d1 a2 n2 d2 a3 n3 d3, pa.add (k * 13) = q ∧ ObCells w' q (obAt os k) (.slice a1 n1 d1) (.slice a2 n2 d2) (.slice a3 n3 d3)) := fun w' hb => ar_at3 (ha.on hb) hko
  have hwk : wrap64 ((k : Int) + 1) = (k : Int) + 1 := by unfold wrap64; omega
  obtain ⟨o, ho⟩ : ∃ o, o = obAt os k := ⟨_, rfl⟩
  rw [← ho] at HAT hz
  have HO := hid_of ho
  have HK0 := hid_of h0
  have HN0 : Hid (decide ((k : Int) > 0) = false ∧ decide ((0 : Int) < (k : Int)) = false ∧ decide (0 < k) = false) := by refine ⟨?_, ?_, ?_⟩ <;> (simp; omega)
  have HN2 : Hid ((o.kind != 0) = false) := by show _ = _; simp [hz]
  clear ha hx hs hf ht h1 hk hten hko ho hz h0
  go_enter Tryz.func16, Tryz.ntmps16
  go_wp2_with fail
  refine (CC.out _ (by go_grown)).mono ?_
  rintro e w1 ⟨⟨A1, G1, rfl, hgot⟩, hb⟩
  obtain ⟨g1, c1, u1, d1, rfl, rfl⟩ := hgot.form
  have HE := hid_of (EndH.made hb hgot)
  clear hb hgot CC
  obtain ⟨i0, i1, i2, i3, i4⟩ := cells5 HE.out.2
  obtain ⟨W1, hW1⟩ : ∃ W1, W1 = w1.alloc (boxH (.slice (some ⟨g1, 0, none⟩) os.length c1) 1 k r (.slice u1 xs.length d1)) := ⟨_, rfl⟩
  go_wp2_with fail
  clear i0 i1 i2 i3 i4
  rw [← hW1] at HE ⊢
  obtain ⟨b, hbb⟩ : ∃ b, b = w1.heap.size := ⟨_, rfl⟩
  rw [← hbb] at HE ⊢
  clear hbb hW1
  refine (CO.out _ HE.out.1.base).mono ?_
  rintro e w2 ⟨rfl, hb⟩
  have HE2 := hid_of (HE.out.1.on hb)
  have HP2 := hid_of (keep HE.out.2 hb)
  clear hb CO HE
  obtain ⟨q, a1, n1, d1', a2, n2', d2, a3, n3, d3, hq, hc⟩ := HAT.out _ HE2.out.base
  obtain ⟨c0', c1', c2', c3', c4', c5', c6', c7', c8', c9', c10', c11', c12'⟩ := hc
  obtain ⟨j0, j1, j2, j3, j4⟩ := cells5 HP2.out
  obtain ⟨wn, hW9⟩ : ∃ W9, W9 = w2.alloc (boxO o (.slice a1 n1 d1') (.slice a2 n2' d2) (.slice a3 n3 d3)) := ⟨_, rfl⟩
  have hal := below_alloc w2 (boxO o (.slice a1 n1 d1') (.slice a2 n2' d2) (.slice a3 n3 d3))
  have HE10 := hid_of (HE2.out.on hal)
  have HP10 := hid_of (keep HP2.out hal)
  have HOB10 : Hid (ObCells wn ⟨w2.heap.size, 0, none⟩ o (.slice a1 n1 d1') (.slice a2 n2' d2) (.slice a3 n3 d3)) := by
    show ObCells _ _ _ _ _ _
    rw [hW9]
    constructor <;> simp
  rw [← hW9] at HE10 HP10
  clear hal
  dsimp only
  repeat (first | (with_reducible refine halt_region (id := 9) ?_) | go_values | go_skip | go_guarded | go_step | go_upon | go_back)
  unfold Halt0
  rw [← hW9]
  obtain ⟨b9, hb9⟩ : ∃ b9, b9 = w2.heap.size := ⟨_, rfl⟩
  rw [← hb9] at HOB10 ⊢
  clear hb9 hW9 j0 j1 j2 j3 j4 c0' c1' c2' c3' c4' c5' c6' c7' c8' c9' c10' c11' c12' HE2 HP2 HAT
  have n0 := HN0.out.1
  have n0b := HN0.out.2.1
  have n0c := HN0.out.2.2
  have n2 := HN2.out
  obtain ⟨x0, x1, x2, x3, x4, x5, x6, x7, x8, x9, x10, x11, x12⟩ := HOB10.out
  obtain ⟨k0, k1, k2, k3, k4⟩ := cells5 HE10.out.bx.box
  have H1 := HE10
  have HP1 := HP10
  clear HE10 HP10 HOB10
  have H2 := hid_of (H1.out.turn2 (atUp H1.out.bx ((k : Int) + 1)) ((Below.refl _ _).setCell (p := ⟨b, 2, none⟩) H1.out.bx.low (.int .i64 ((k : Int) + 1))))
  have HP3 : Hid ((World.setCell wn ⟨b, 2, none⟩ (.int .i64 ((k : Int) + 1))).heap[w.heap.size]? = some (boxH (.slice (some pa) os.length c) 1 k r (.slice (some pg) xs.length cg))) := setCell_keep HP1.out (by have := H1.out.bx.low; omega)
  obtain ⟨y0, y1, y2, y3, y4⟩ := cells5 H1.out.bx.box
  have yf := frozen_of H1.out.bx.box
  obtain ⟨z0, z1, z2, z3, z4⟩ := cells5 H2.out.bx.box
  have zf := frozen_of H2.out.bx.box
  have h9 : k ≠ 9 := by have := HK0.out; omega
  have n9 : (((k : Int) + 1) == 10) = false := by simp; omega
  have HE : Hid (swP k = 1 ∧ swT k = (k : Int) + 1 ∧ swR r k = r ∧ swL os k = os ∧ swX k = xs) := by show _ ∧ _; unfold swP swT swR swL swX; rw [HX0.out]; simp [h9]
  obtain ⟨r0, r1, r2, r3, r4, hrs⟩ := H2.out.res
  obtain ⟨m0, m1, m2, m3, m4⟩ := cells5 hrs
  have mf := frozen_of hrs
  clear hrs h9 HP1 HP3 H1
  go_wp2
  have HA := hid_of (H2.out.ans 1 ((k : Int) + 1) r)
  show bodyPost _ _ _ _ _ (wq5 _ (w.heap.size + 1) 0 (.slice (some ⟨g1, 0, none⟩) os.length c1) 1 ((k : Int) + 1) r (.slice u1 xs.length d1))
  refine bodyPost_ret (v := .tuple #[hpV (.slice (some ⟨g1, 0, none⟩) os.length c1) 1 ((k : Int) + 1) r (.slice u1 xs.length d1), .int .i64 (-1)]) (by have e := HA.out.1; simp [results, go_sem, World.cell?, e]) rfl ?_
  show AnsHI (swP k) (swT k) (swR r k) (swL os k) (swX k) (-1) w _ _
  rw [HE.out.1, HE.out.2.1, HE.out.2.2.1, HE.out.2.2.2.1, HE.out.2.2.2.2]
  exact ⟨⟨_, _, rfl, HA.out.2.1⟩, HA.out.2.2⟩
set_option maxHeartbeats 8000000 in
theorem sStep_none (pa : Addr) (c : Nat) (p t r : Int) (pg : Addr) (cg : Nat) (os : List Ob) (xs : List Int) (now : Int) (w : World) (ha : IsArena w (.slice (some pa) os.length c) os) (hx : IsInts w (.slice (some pg) xs.length cg) xs) (hs : Small8 os) (hf : AllFit os) (ht : (os.length : Int) + arN os + xs.length ≤ 1048576) (k : Nat) (hp : p = 1) (hx0 : xs = []) (htk : t = (k : Int)) (hk : k < 10) (h1 : heapOk os p t r xs = true) (h0 : k ≠ 0) (hz : (obAt os k).kind = 0) :
    Calls Tryz.prog 16 #[hpV (.slice (some pa) os.length c) p t r (.slice (some pg) xs.length cg), .int .i64 now] w fun e w' => AnsHI (swP k) (swT k) (swR r k) (swL os k) (swX k) (-1) w e w' := by
  subst hp
  subst htk
  have HX0 := hid_of hx0
  clear hx0
  have CC : Hid (∀ w', Below w.heap.size w w' → Calls Tryz.prog 22 #[hpV (.slice (some pa) os.length c) 1 k r (.slice (some pg) xs.length cg)] w' fun e w'' => AnsH 1 k r os xs w' e w'') := fun w' hb => specCopyH_any pa c 1 k r pg cg os xs w' (ha.on hb) (hx.on hb) (by omega) hs (by omega)
  have CO : Hid (∀ w', Below w.heap.size w w' → Calls Tryz.prog 23 #[hpV (.slice (some pa) os.length c) 1 k r (.slice (some pg) xs.length cg)] w' fun e w'' => e = .returned (.bool (heapOk os 1 k r xs)) ∧ Below w'.heap.size w' w'') := fun w' hb => specHeapOk_any _ 1 k r _ os xs w' (ha.on hb) (hx.on hb) (by omega) hs hf (by omega)
  rw [h1] at CO
  have hten := heapOk_ten h1
  have hko : k < os.length := by omega
  have hkz : (k : Int) < (os.length : Int) := by omega
  have HK : Hid (k < os.length ∧ os.length = 10 ∧ k < 10) := ⟨hko, hten, hk⟩
  have HR := hid_of (heapOk_parts h1).2.1
  have HAT : Hid (∀ w', Below w.heap.size w w' → ∃ q a1 n1 d1 a2 n2 d2 a3 n3 d3, pa.add (k * 13) = q ∧ ObCells w' q (obAt os k) (.slice a1 n1 d1) (.slice a2 n2 d2) (.slice a3 n3 d3)) := fun w' hb => ar_at3 (ha.on hb) hko
  have hwk : wrap64 ((k : Int) + 1) = (k : Int) + 1 := by unfold wrap64; omega
  obtain ⟨o, ho⟩ : ∃ o, o = obAt os k := ⟨_, rfl⟩
  rw [← ho] at HAT hz
  have HO := hid_of ho
  have HK0 := hid_of h0
  have HN0 : Hid (decide ((k : Int) > 0) = true ∧ decide ((0 : Int) < (k : Int)) = true ∧ decide (0 < k) = true) := by refine ⟨?_, ?_, ?_⟩ <;> (simp; omega)
  have HN2 : Hid ((o.kind != 0) = false) := by show _ = _; simp [hz]
  clear ha hx hs hf ht h1 hk hten hko ho hz h0
  go_enter Tryz.func16, Tryz.ntmps16
  go_wp2_with fail
  refine (CC.out _ (by go_grown)).mono ?_
  rintro e w1 ⟨⟨A1, G1, rfl, hgot⟩, hb⟩
  obtain ⟨g1, c1, u1, d1, rfl, rfl⟩ := hgot.form
  have HE := hid_of (EndH.made hb hgot)
  clear hb hgot CC
  obtain ⟨i0, i1, i2, i3, i4⟩ := cells5 HE.out.2
  obtain ⟨W1, hW1⟩ : ∃ W1, W1 = w1.alloc (boxH (.slice (some ⟨g1, 0, none⟩) os.length c1) 1 k r (.slice u1 xs.length d1)) := ⟨_, rfl⟩
  go_wp2_with fail
  clear i0 i1 i2 i3 i4
  rw [← hW1] at HE ⊢
  obtain ⟨b, hbb⟩ : ∃ b, b = w1.heap.size := ⟨_, rfl⟩
  rw [← hbb] at HE ⊢
  clear hbb hW1
  refine (CO.out _ HE.out.1.base).mono ?_
  rintro e w2 ⟨rfl, hb⟩
  have HE2 := hid_of (HE.out.1.on hb)
  have HP2 := hid_of (keep HE.out.2 hb)
  clear hb CO HE
  obtain ⟨q, a1, n1, d1', a2, n2', d2, a3, n3, d3, hq, hc⟩ := HAT.out _ HE2.out.base
  obtain ⟨c0', c1', c2', c3', c4', c5', c6', c7', c8', c9', c10', c11', c12'⟩ := hc
  obtain ⟨j0, j1, j2, j3, j4⟩ := cells5 HP2.out
  obtain ⟨wn, hW9⟩ : ∃ W9, W9 = w2.alloc (boxO o (.slice a1 n1 d1') (.slice a2 n2' d2) (.slice a3 n3 d3)) := ⟨_, rfl⟩
  have hal := below_alloc w2 (boxO o (.slice a1 n1 d1') (.slice a2 n2' d2) (.slice a3 n3 d3))
  have HE10 := hid_of (HE2.out.on hal)
  have HP10 := hid_of (keep HP2.out hal)
  have HOB10 : Hid (ObCells wn ⟨w2.heap.size, 0, none⟩ o (.slice a1 n1 d1') (.slice a2 n2' d2) (.slice a3 n3 d3)) := by
    show ObCells _ _ _ _ _ _
    rw [hW9]
    constructor <;> simp
  rw [← hW9] at HE10 HP10
  clear hal
  dsimp only
  repeat (first | (with_reducible refine halt_region (id := 9) ?_) | go_values | go_skip | go_guarded | go_step | go_upon | go_back)
  unfold Halt0
  rw [← hW9]
  obtain ⟨b9, hb9⟩ : ∃ b9, b9 = w2.heap.size := ⟨_, rfl⟩
  rw [← hb9] at HOB10 ⊢
  clear hb9 hW9 j0 j1 j2 j3 j4 c0' c1' c2' c3' c4' c5' c6' c7' c8' c9' c10' c11' c12' HE2 HP2 HAT
  have n0 := HN0.out.1
  have n0b := HN0.out.2.1
  have n0c := HN0.out.2.2
  have n2 := HN2.out
  obtain ⟨x0, x1, x2, x3, x4, x5, x6, x7, x8, x9, x10, x11, x12⟩ := HOB10.out
  obtain ⟨k0, k1, k2, k3, k4⟩ := cells5 HE10.out.bx.box
  have H1 := HE10
  have HP1 := HP10
  clear HE10 HP10 HOB10
  have H2 := hid_of (H1.out.turn2 (atUp H1.out.bx ((k : Int) + 1)) ((Below.refl _ _).setCell (p := ⟨b, 2, none⟩) H1.out.bx.low (.int .i64 ((k : Int) + 1))))
  have HP3 : Hid ((World.setCell wn ⟨b, 2, none⟩ (.int .i64 ((k : Int) + 1))).heap[w.heap.size]? = some (boxH (.slice (some pa) os.length c) 1 k r (.slice (some pg) xs.length cg))) := setCell_keep HP1.out (by have := H1.out.bx.low; omega)
  obtain ⟨y0, y1, y2, y3, y4⟩ := cells5 H1.out.bx.box
  have yf := frozen_of H1.out.bx.box
  obtain ⟨z0, z1, z2, z3, z4⟩ := cells5 H2.out.bx.box
  have zf := frozen_of H2.out.bx.box
  by_cases h9 : k = 9
  · have n9 : (((k : Int) + 1) == 10) = true := by simp; omega
    obtain ⟨z, hz⟩ : ∃ z, z = rdUp r := ⟨_, rfl⟩
    have hr := HR.out
    have hw : wrap64 (r + 1) = r + 1 := by unfold wrap64; omega
    have hmin : min (r + 1) 1000000 = z := by rw [hz]; unfold rdUp; split <;> omega
    have hif : (if r + 1 ≤ 1000000 then r + 1 else 1000000) = z := hz.symm
    have hif2 : (if 1000000 < r + 1 then 1000000 else r + 1) = z := by rw [hz]; unfold rdUp; split <;> split <;> omega
    have HE : Hid (swP k = 0 ∧ swT k = 0 ∧ swR r k = z ∧ swL os k = (os).set 0 (marked (obAt os 0) true) ∧ swX k = [0]) := by show _ ∧ _; unfold swP swT swR swL swX; rw [hz]; simp [h9]
    have h0l : 0 < (os).length := by have := HK.out; omega
    have hoz : (0 : Int) < (os.length : Int) := by have := HK.out; omega
    have HH := hid_of h0l
    obtain ⟨V0, hV0⟩ : ∃ V0, V0 = World.setCell wn ⟨b, 2, none⟩ (.int .i64 ((k : Int) + 1)) := ⟨_, rfl⟩
    rw [← hV0] at H2 HP3
    clear h9 HP1 H1 hr hz h0l
    try dsimp only
    repeat (first | (with_reducible refine halt_region (id := 17) ?_) | go_values | go_skip | go_guarded | go_step | go_upon | go_back)
    unfold Halt0
    rw [← hV0]
    clear hV0 y0 y1 y2 y3 y4 yf z0 z1 z2 z3 z4 zf x0 x1 x2 x3 x4 x5 x6 x7 x8 x9 x10 x11 x12 k0 k1 k2 k3 k4
    have HRD := hid_of (H2.out.round HH.out z V0.heap.size rfl)
    have HL2 : Hid (((os).set 0 (marked (obAt os 0) true)).length = os.length) := by show _ = _; rw [List.length_set]
    obtain ⟨x0, x1, x2, x3, x4⟩ := cells5 HP3.out
    have hal := below_alloc V0 (.cells #[.int .i64 0] 3 (0, 0))
    have e5 := keep H2.out.bx.box hal
    obtain ⟨y0, y1, y2, y3, y4⟩ := cells5 e5
    have yf := frozen_of e5
    obtain ⟨V2, hV2⟩ : ∃ V2, V2 = wq4 (V0.alloc (.cells #[.int .i64 0] 3 (0, 0))) b 1 0 0 z (.slice (some ⟨V0.heap.size, 0, none⟩) 1 1) := ⟨_, rfl⟩
    rw [← hV2] at HRD
    clear hal e5 HP3 H2
    try dsimp only
    repeat (first | (with_reducible refine halt_region (id := 18) ?_) | go_values | go_skip | go_guarded | go_step | go_upon | go_back)
    unfold Halt0
    unfold wq4 at hV2
    simp only [Nat.reduceAdd] at hV2
    rw [← hV2]
    clear hV2 x0 x1 x2 x3 x4 y0 y1 y2 y3 y4 yf hmin hif hif2 hw
    obtain ⟨v0, v1, v2, v3, v4⟩ := cells5 HRD.out.1.bx.box
    obtain ⟨s0, s1, s2, s3, s4⟩ := cells5 HRD.out.2.bx.box
    have sf := frozen_of HRD.out.2.bx.box
    rw [HL2.out] at s0
    obtain ⟨_, _, _, hco, hff, _⟩ := HRD.out.1.bx.at HH.out
    have c9 := hco.c9
    have f9 := hff 9
    rw [Nat.zero_mul, Nat.zero_add] at c9
    obtain ⟨r0, r1, r2, r3, r4, hrs⟩ := HRD.out.2.res
    obtain ⟨m0, m1, m2, m3, m4⟩ := cells5 hrs
    have mf := frozen_of hrs
    clear hrs hco hff
    go_wp2
    have HA := hid_of (HRD.out.2.ans 0 0 z)
    rw [HL2.out] at HA
    show bodyPost _ _ _ _ _ (wq5 _ (w.heap.size + 1) 0 (.slice (some ⟨g1, 0, none⟩) os.length c1) 0 0 z _)
    refine bodyPost_ret (v := .tuple #[hpV (.slice (some ⟨g1, 0, none⟩) os.length c1) 0 0 z (.slice (some ⟨V0.heap.size, 0, none⟩) 1 1), .int .i64 (-1)]) (by have e := HA.out.1; simp [results, go_sem, World.cell?, e]) rfl ?_
    show AnsHI (swP k) (swT k) (swR r k) (swL os k) (swX k) (-1) w _ _
    rw [HE.out.1, HE.out.2.1, HE.out.2.2.1, HE.out.2.2.2.1, HE.out.2.2.2.2]
    exact ⟨⟨_, _, rfl, HA.out.2.1⟩, HA.out.2.2⟩
  · have n9 : (((k : Int) + 1) == 10) = false := by simp; omega
    have HE : Hid (swP k = 1 ∧ swT k = (k : Int) + 1 ∧ swR r k = r ∧ swL os k = os ∧ swX k = xs) := by show _ ∧ _; unfold swP swT swR swL swX; rw [HX0.out]; simp [h9]
    obtain ⟨r0, r1, r2, r3, r4, hrs⟩ := H2.out.res
    obtain ⟨m0, m1, m2, m3, m4⟩ := cells5 hrs
    have mf := frozen_of hrs
    clear hrs h9 HP1 HP3 H1
    go_wp2
    have HA := hid_of (H2.out.ans 1 ((k : Int) + 1) r)
    show bodyPost _ _ _ _ _ (wq5 _ (w.heap.size + 1) 0 (.slice (some ⟨g1, 0, none⟩) os.length c1) 1 ((k : Int) + 1) r (.slice u1 xs.length d1))
    refine bodyPost_ret (v := .tuple #[hpV (.slice (some ⟨g1, 0, none⟩) os.length c1) 1 ((k : Int) + 1) r (.slice u1 xs.length d1), .int .i64 (-1)]) (by have e := HA.out.1; simp [results, go_sem, World.cell?, e]) rfl ?_
    show AnsHI (swP k) (swT k) (swR r k) (swL os k) (swX k) (-1) w _ _
    rw [HE.out.1, HE.out.2.1, HE.out.2.2.1, HE.out.2.2.2.1, HE.out.2.2.2.2]
    exact ⟨⟨_, _, rfl, HA.out.2.1⟩, HA.out.2.2⟩
set_option maxHeartbeats 8000000 in
theorem sStep_pale (pa : Addr) (c : Nat) (p t r : Int) (pg : Addr) (cg : Nat) (os : List Ob) (xs : List Int) (now : Int) (w : World) (ha : IsArena w (.slice (some pa) os.length c) os) (hx : IsInts w (.slice (some pg) xs.length cg) xs) (hs : Small8 os) (hf : AllFit os) (ht : (os.length : Int) + arN os + xs.length ≤ 1048576) (k : Nat) (hp : p = 1) (hx0 : xs = []) (htk : t = (k : Int)) (hk : k < 10) (h1 : heapOk os p t r xs = true) (h0 : k ≠ 0) (hz : (obAt os k).kind ≠ 0) (hm : (obAt os k).mark = false) :
    Calls Tryz.prog 16 #[hpV (.slice (some pa) os.length c) p t r (.slice (some pg) xs.length cg), .int .i64 now] w fun e w' => AnsHI (swP k) (swT k) (swR r k) (swL (freeOf os (k : Int)) k) (swX k) k w e w' := by
  subst hp
  subst htk
  have HX0 := hid_of hx0
  clear hx0
  have CC : Hid (∀ w', Below w.heap.size w w' → Calls Tryz.prog 22 #[hpV (.slice (some pa) os.length c) 1 k r (.slice (some pg) xs.length cg)] w' fun e w'' => AnsH 1 k r os xs w' e w'') := fun w' hb => specCopyH_any pa c 1 k r pg cg os xs w' (ha.on hb) (hx.on hb) (by omega) hs (by omega)
  have CO : Hid (∀ w', Below w.heap.size w w' → Calls Tryz.prog 23 #[hpV (.slice (some pa) os.length c) 1 k r (.slice (some pg) xs.length cg)] w' fun e w'' => e = .returned (.bool (heapOk os 1 k r xs)) ∧ Below w'.heap.size w' w'') := fun w' hb => specHeapOk_any _ 1 k r _ os xs w' (ha.on hb) (hx.on hb) (by omega) hs hf (by omega)
  rw [h1] at CO
  have hten := heapOk_ten h1
  have hko : k < os.length := by omega
  have hkz : (k : Int) < (os.length : Int) := by omega
  have HK : Hid (k < os.length ∧ os.length = 10 ∧ k < 10) := ⟨hko, hten, hk⟩
  have HR := hid_of (heapOk_parts h1).2.1
  have HAT : Hid (∀ w', Below w.heap.size w w' → ∃ q a1 n1 d1 a2 n2 d2 a3 n3 d3, pa.add (k * 13) = q ∧ ObCells w' q (obAt os k) (.slice a1 n1 d1) (.slice a2 n2 d2) (.slice a3 n3 d3)) := fun w' hb => ar_at3 (ha.on hb) hko
  have hwk : wrap64 ((k : Int) + 1) = (k : Int) + 1 := by unfold wrap64; omega
  obtain ⟨o, ho⟩ : ∃ o, o = obAt os k := ⟨_, rfl⟩
  rw [← ho] at HAT hz hm
  have HO := hid_of ho
  have HK0 := hid_of h0
  have HN0 : Hid (decide ((k : Int) > 0) = true ∧ decide ((0 : Int) < (k : Int)) = true ∧ decide (0 < k) = true) := by refine ⟨?_, ?_, ?_⟩ <;> (simp; omega)
  have HN2 : Hid ((o.kind != 0) = true) := by show _ = _; simp [hz]
  have HMK := hid_of hm
  have HF : Hid (∀ v w', IsArena w' v os → Calls Tryz.prog 40 #[v, .int .i64 (k : Int)] w' fun e w'' => FreeAns (freeOf os k) (freeB os k) w' e w'') := fun v w' h => specFree_any v os k w' h (by omega) hs hf
  clear ha hx hs hf ht h1 hk hten hko ho hz h0 hm
  go_enter Tryz.func16, Tryz.ntmps16
  go_wp2_with fail
  refine (CC.out _ (by go_grown)).mono ?_
  rintro e w1 ⟨⟨A1, G1, rfl, hgot⟩, hb⟩
  obtain ⟨g1, c1, u1, d1, rfl, rfl⟩ := hgot.form
  have HE := hid_of (EndH.made hb hgot)
  clear hb hgot CC
  obtain ⟨i0, i1, i2, i3, i4⟩ := cells5 HE.out.2
  obtain ⟨W1, hW1⟩ : ∃ W1, W1 = w1.alloc (boxH (.slice (some ⟨g1, 0, none⟩) os.length c1) 1 k r (.slice u1 xs.length d1)) := ⟨_, rfl⟩
  go_wp2_with fail
  clear i0 i1 i2 i3 i4
  rw [← hW1] at HE ⊢
  obtain ⟨b, hbb⟩ : ∃ b, b = w1.heap.size := ⟨_, rfl⟩
  rw [← hbb] at HE ⊢
  clear hbb hW1
  refine (CO.out _ HE.out.1.base).mono ?_
  rintro e w2 ⟨rfl, hb⟩
  have HE2 := hid_of (HE.out.1.on hb)
  have HP2 := hid_of (keep HE.out.2 hb)
  clear hb CO HE
  obtain ⟨q, a1, n1, d1', a2, n2', d2, a3, n3, d3, hq, hc⟩ := HAT.out _ HE2.out.base
  obtain ⟨c0', c1', c2', c3', c4', c5', c6', c7', c8', c9', c10', c11', c12'⟩ := hc
  obtain ⟨j0, j1, j2, j3, j4⟩ := cells5 HP2.out
  obtain ⟨wn, hW9⟩ : ∃ W9, W9 = w2.alloc (boxO o (.slice a1 n1 d1') (.slice a2 n2' d2) (.slice a3 n3 d3)) := ⟨_, rfl⟩
  have hal := below_alloc w2 (boxO o (.slice a1 n1 d1') (.slice a2 n2' d2) (.slice a3 n3 d3))
  have HE10 := hid_of (HE2.out.on hal)
  have HP10 := hid_of (keep HP2.out hal)
  have HOB10 : Hid (ObCells wn ⟨w2.heap.size, 0, none⟩ o (.slice a1 n1 d1') (.slice a2 n2' d2) (.slice a3 n3 d3)) := by
    show ObCells _ _ _ _ _ _
    rw [hW9]
    constructor <;> simp
  rw [← hW9] at HE10 HP10
  clear hal
  dsimp only
  repeat (first | (with_reducible refine halt_region (id := 9) ?_) | go_values | go_skip | go_guarded | go_step | go_upon | go_back)
  unfold Halt0
  rw [← hW9]
  obtain ⟨b9, hb9⟩ : ∃ b9, b9 = w2.heap.size := ⟨_, rfl⟩
  rw [← hb9] at HOB10 ⊢
  clear hb9 hW9 j0 j1 j2 j3 j4 c0' c1' c2' c3' c4' c5' c6' c7' c8' c9' c10' c11' c12' HE2 HP2 HAT
  have n0 := HN0.out.1
  have n0b := HN0.out.2.1
  have n0c := HN0.out.2.2
  have n2 := HN2.out
  obtain ⟨x0, x1, x2, x3, x4, x5, x6, x7, x8, x9, x10, x11, x12⟩ := HOB10.out
  rw [HMK.out] at x9
  obtain ⟨k0, k1, k2, k3, k4⟩ := cells5 HE10.out.bx.box
  have HLO : Hid (w.heap.size + 1 + 1 ≤ wn.heap.size) := by show _ ≤ _; have := HE10.out.bx.low; have := lt_of_block HE10.out.bx.box; omega
  go_wp2_with fail
  refine (HF.out _ _ HE10.out.bx.arena).mono ?_
  rintro e w11 ⟨g', c', fs', rest', rfl, he, ho, hb⟩
  have HL : Hid ((freeOf os (k : Int)).length = os.length) := freeOf_len os k
  rw [HL.out]
  have e0 := keep HE10.out.bx.box hb
  have e1 := box_cell e0 0 (.slice (some ⟨g', 0, none⟩) os.length c')
  simp at e1
  have H1 : Hid (EndH w b 1 k r (freeOf os (k : Int)) xs g' c' (.slice u1 xs.length d1) (w11.setCell ⟨b, 0, none⟩ (.slice (some ⟨g', 0, none⟩) os.length c'))) := HE10.out.turn2 (HE10.out.bx.reArena hb he ho HLO.out (fun k hk => by simp at hk; subst hk; exact lt_of_block HE10.out.bx.box) (by rw [HL.out]; exact e1) (box_others w11 b 0 _) (by simp)) ((hb.mono HLO.out).setCell HE10.out.bx.low _)
  have HP1 : Hid ((w11.setCell ⟨b, 0, none⟩ (.slice (some ⟨g', 0, none⟩) os.length c')).heap[w.heap.size]? = some (boxH (.slice (some pa) os.length c) 1 k r (.slice (some pg) xs.length cg))) := setCell_keep (keep HP10.out hb) (by have := HE10.out.bx.low; omega)
  obtain ⟨h0c, h1c, h2c, h3c, h4c⟩ := cells5 e0
  have hfc := frozen_of e0
  clear hb he ho e0 e1 HE10 HP10 HOB10 HF HLO k0 k1 k2 k3 k4
  have H2 := hid_of (H1.out.turn2 (atUp H1.out.bx ((k : Int) + 1)) ((Below.refl _ _).setCell (p := ⟨b, 2, none⟩) H1.out.bx.low (.int .i64 ((k : Int) + 1))))
  have HP3 : Hid ((World.setCell (w11.setCell ⟨b, 0, none⟩ (.slice (some ⟨g', 0, none⟩) os.length c')) ⟨b, 2, none⟩ (.int .i64 ((k : Int) + 1))).heap[w.heap.size]? = some (boxH (.slice (some pa) os.length c) 1 k r (.slice (some pg) xs.length cg))) := setCell_keep HP1.out (by have := H1.out.bx.low; omega)
  obtain ⟨y0, y1, y2, y3, y4⟩ := cells5 H1.out.bx.box
  have yf := frozen_of H1.out.bx.box
  obtain ⟨z0, z1, z2, z3, z4⟩ := cells5 H2.out.bx.box
  have zf := frozen_of H2.out.bx.box
  rw [HL.out] at y0 z0
  by_cases h9 : k = 9
  · have n9 : (((k : Int) + 1) == 10) = true := by simp; omega
    obtain ⟨z, hz⟩ : ∃ z, z = rdUp r := ⟨_, rfl⟩
    have hr := HR.out
    have hw : wrap64 (r + 1) = r + 1 := by unfold wrap64; omega
    have hmin : min (r + 1) 1000000 = z := by rw [hz]; unfold rdUp; split <;> omega
    have hif : (if r + 1 ≤ 1000000 then r + 1 else 1000000) = z := hz.symm
    have hif2 : (if 1000000 < r + 1 then 1000000 else r + 1) = z := by rw [hz]; unfold rdUp; split <;> split <;> omega
    have HE : Hid (swP k = 0 ∧ swT k = 0 ∧ swR r k = z ∧ swL (freeOf os (k : Int)) k = ((freeOf os (k : Int))).set 0 (marked (obAt (freeOf os (k : Int)) 0) true) ∧ swX k = [0]) := by show _ ∧ _; unfold swP swT swR swL swX; rw [hz]; simp [h9]
    have h0l : 0 < ((freeOf os (k : Int))).length := by rw [HL.out]; have := HK.out; omega
    have hoz : (0 : Int) < (os.length : Int) := by have := HK.out; omega
    have HH := hid_of h0l
    obtain ⟨V0, hV0⟩ : ∃ V0, V0 = World.setCell (w11.setCell ⟨b, 0, none⟩ (.slice (some ⟨g', 0, none⟩) os.length c')) ⟨b, 2, none⟩ (.int .i64 ((k : Int) + 1)) := ⟨_, rfl⟩
    rw [← hV0] at H2 HP3
    clear h9 HP1 H1 hr hz h0l
    try dsimp only
    repeat (first | (with_reducible refine halt_region (id := 17) ?_) | go_values | go_skip | go_guarded | go_step | go_upon | go_back)
    unfold Halt0
    rw [← hV0]
    clear hV0 y0 y1 y2 y3 y4 yf z0 z1 z2 z3 z4 zf h0c h1c h2c h3c h4c hfc
    have HRD := hid_of (H2.out.round HH.out z V0.heap.size rfl)
    have HL2 : Hid ((((freeOf os (k : Int))).set 0 (marked (obAt (freeOf os (k : Int)) 0) true)).length = os.length) := by show _ = _; rw [List.length_set]; exact HL.out
    obtain ⟨x0, x1, x2, x3, x4⟩ := cells5 HP3.out
    have hal := below_alloc V0 (.cells #[.int .i64 0] 3 (0, 0))
    have e5 := keep H2.out.bx.box hal
    obtain ⟨y0, y1, y2, y3, y4⟩ := cells5 e5
    have yf := frozen_of e5
    obtain ⟨V2, hV2⟩ : ∃ V2, V2 = wq4 (V0.alloc (.cells #[.int .i64 0] 3 (0, 0))) b 1 0 0 z (.slice (some ⟨V0.heap.size, 0, none⟩) 1 1) := ⟨_, rfl⟩
    rw [← hV2] at HRD
    clear hal e5 HP3 H2
    try dsimp only
    repeat (first | (with_reducible refine halt_region (id := 18) ?_) | go_values | go_skip | go_guarded | go_step | go_upon | go_back)
    unfold Halt0
    unfold wq4 at hV2
    simp only [Nat.reduceAdd] at hV2
    rw [← hV2]
    clear hV2 x0 x1 x2 x3 x4 y0 y1 y2 y3 y4 yf hmin hif hif2 hw
    obtain ⟨v0, v1, v2, v3, v4⟩ := cells5 HRD.out.1.bx.box
    obtain ⟨s0, s1, s2, s3, s4⟩ := cells5 HRD.out.2.bx.box
    have sf := frozen_of HRD.out.2.bx.box
    rw [HL.out] at v0
    rw [HL2.out] at s0
    obtain ⟨_, _, _, hco, hff, _⟩ := HRD.out.1.bx.at HH.out
    have c9 := hco.c9
    have f9 := hff 9
    rw [Nat.zero_mul, Nat.zero_add] at c9
    obtain ⟨r0, r1, r2, r3, r4, hrs⟩ := HRD.out.2.res
    obtain ⟨m0, m1, m2, m3, m4⟩ := cells5 hrs
    have mf := frozen_of hrs
    clear hrs hco hff
    go_wp2
    have HA := hid_of (HRD.out.2.ans 0 0 z)
    rw [HL2.out] at HA
    show bodyPost _ _ _ _ _ (wq5 _ (w.heap.size + 1) 0 (.slice (some ⟨g', 0, none⟩) os.length c') 0 0 z _)
    refine bodyPost_ret (v := .tuple #[hpV (.slice (some ⟨g', 0, none⟩) os.length c') 0 0 z (.slice (some ⟨V0.heap.size, 0, none⟩) 1 1), .int .i64 k]) (by have e := HA.out.1; simp [results, go_sem, World.cell?, e]) rfl ?_
    show AnsHI (swP k) (swT k) (swR r k) (swL (freeOf os (k : Int)) k) (swX k) k w _ _
    rw [HE.out.1, HE.out.2.1, HE.out.2.2.1, HE.out.2.2.2.1, HE.out.2.2.2.2]
    exact ⟨⟨_, _, rfl, HA.out.2.1⟩, HA.out.2.2⟩
  · have n9 : (((k : Int) + 1) == 10) = false := by simp; omega
    have HE : Hid (swP k = 1 ∧ swT k = (k : Int) + 1 ∧ swR r k = r ∧ swL (freeOf os (k : Int)) k = (freeOf os (k : Int)) ∧ swX k = xs) := by show _ ∧ _; unfold swP swT swR swL swX; rw [HX0.out]; simp [h9]
    obtain ⟨r0, r1, r2, r3, r4, hrs⟩ := H2.out.res
    obtain ⟨m0, m1, m2, m3, m4⟩ := cells5 hrs
    have mf := frozen_of hrs
    clear hrs h9 HP1 HP3 H1
    go_wp2
    have HA := hid_of (H2.out.ans 1 ((k : Int) + 1) r)
    rw [HL.out] at HA
    show bodyPost _ _ _ _ _ (wq5 _ (w.heap.size + 1) 0 (.slice (some ⟨g', 0, none⟩) os.length c') 1 ((k : Int) + 1) r (.slice u1 xs.length d1))
    refine bodyPost_ret (v := .tuple #[hpV (.slice (some ⟨g', 0, none⟩) os.length c') 1 ((k : Int) + 1) r (.slice u1 xs.length d1), .int .i64 k]) (by have e := HA.out.1; simp [results, go_sem, World.cell?, e]) rfl ?_
    show AnsHI (swP k) (swT k) (swR r k) (swL (freeOf os (k : Int)) k) (swX k) k w _ _
    rw [HE.out.1, HE.out.2.1, HE.out.2.2.1, HE.out.2.2.2.1, HE.out.2.2.2.2]
    exact ⟨⟨_, _, rfl, HA.out.2.1⟩, HA.out.2.2⟩
set_option maxHeartbeats 8000000 in
theorem sStep_old (pa : Addr) (c : Nat) (p t r : Int) (pg : Addr) (cg : Nat) (os : List Ob) (xs : List Int) (now : Int) (w : World) (ha : IsArena w (.slice (some pa) os.length c) os) (hx : IsInts w (.slice (some pg) xs.length cg) xs) (hs : Small8 os) (hf : AllFit os) (ht : (os.length : Int) + arN os + xs.length ≤ 1048576) (k : Nat) (hp : p = 1) (hx0 : xs = []) (htk : t = (k : Int)) (hk : k < 10) (h1 : heapOk os p t r xs = true) (h0 : k ≠ 0) (hz : (obAt os k).kind ≠ 0) (hm : (obAt os k).mark = true) (hx9 : expB (obAt os k) now = true) :
    Calls Tryz.prog 16 #[hpV (.slice (some pa) os.length c) p t r (.slice (some pg) xs.length cg), .int .i64 now] w fun e w' => AnsHI (swP k) (swT k) (swR r k) (swL (freeOf os (k : Int)) k) (swX k) k w e w' := by
  subst hp
  subst htk
  have HX0 := hid_of hx0
  clear hx0
  have CC : Hid (∀ w', Below w.heap.size w w' → Calls Tryz.prog 22 #[hpV (.slice (some pa) os.length c) 1 k r (.slice (some pg) xs.length cg)] w' fun e w'' => AnsH 1 k r os xs w' e w'') := fun w' hb => specCopyH_any pa c 1 k r pg cg os xs w' (ha.on hb) (hx.on hb) (by omega) hs (by omega)
  have CO : Hid (∀ w', Below w.heap.size w w' → Calls Tryz.prog 23 #[hpV (.slice (some pa) os.length c) 1 k r (.slice (some pg) xs.length cg)] w' fun e w'' => e = .returned (.bool (heapOk os 1 k r xs)) ∧ Below w'.heap.size w' w'') := fun w' hb => specHeapOk_any _ 1 k r _ os xs w' (ha.on hb) (hx.on hb) (by omega) hs hf (by omega)
  rw [h1] at CO
  have hten := heapOk_ten h1
  have hko : k < os.length := by omega
  have hkz : (k : Int) < (os.length : Int) := by omega
  have HK : Hid (k < os.length ∧ os.length = 10 ∧ k < 10) := ⟨hko, hten, hk⟩
  have HR := hid_of (heapOk_parts h1).2.1
  have HAT : Hid (∀ w', Below w.heap.size w w' → ∃ q a1 n1 d1 a2 n2 d2 a3 n3 d3, pa.add (k * 13) = q ∧ ObCells w' q (obAt os k) (.slice a1 n1 d1) (.slice a2 n2 d2) (.slice a3 n3 d3)) := fun w' hb => ar_at3 (ha.on hb) hko
  have hwk : wrap64 ((k : Int) + 1) = (k : Int) + 1 := by unfold wrap64; omega
  obtain ⟨o, ho⟩ : ∃ o, o = obAt os k := ⟨_, rfl⟩
  rw [← ho] at HAT hz hm hx9
  have HO := hid_of ho
  have HK0 := hid_of h0
  have HN0 : Hid (decide ((k : Int) > 0) = true ∧ decide ((0 : Int) < (k : Int)) = true ∧ decide (0 < k) = true) := by refine ⟨?_, ?_, ?_⟩ <;> (simp; omega)
  have HN2 : Hid ((o.kind != 0) = true) := by show _ = _; simp [hz]
  have HMK := hid_of hm
  have HXX := hid_of hx9
  have HF : Hid (∀ v w', IsArena w' v os → Calls Tryz.prog 40 #[v, .int .i64 (k : Int)] w' fun e w'' => FreeAns (freeOf os k) (freeB os k) w' e w'') := fun v w' h => specFree_any v os k w' h (by omega) hs hf
  clear ha hx hs hf ht h1 hk hten hko ho hz h0 hm hx9
  go_enter Tryz.func16, Tryz.ntmps16
  go_wp2_with fail
  refine (CC.out _ (by go_grown)).mono ?_
  rintro e w1 ⟨⟨A1, G1, rfl, hgot⟩, hb⟩
  obtain ⟨g1, c1, u1, d1, rfl, rfl⟩ := hgot.form
  have HE := hid_of (EndH.made hb hgot)
  clear hb hgot CC
  obtain ⟨i0, i1, i2, i3, i4⟩ := cells5 HE.out.2
  obtain ⟨W1, hW1⟩ : ∃ W1, W1 = w1.alloc (boxH (.slice (some ⟨g1, 0, none⟩) os.length c1) 1 k r (.slice u1 xs.length d1)) := ⟨_, rfl⟩
  go_wp2_with fail
  clear i0 i1 i2 i3 i4
  rw [← hW1] at HE ⊢
  obtain ⟨b, hbb⟩ : ∃ b, b = w1.heap.size := ⟨_, rfl⟩
  rw [← hbb] at HE ⊢
  clear hbb hW1
  refine (CO.out _ HE.out.1.base).mono ?_
  rintro e w2 ⟨rfl, hb⟩
  have HE2 := hid_of (HE.out.1.on hb)
  have HP2 := hid_of (keep HE.out.2 hb)
  clear hb CO HE
  obtain ⟨q, a1, n1, d1', a2, n2', d2, a3, n3, d3, hq, hc⟩ := HAT.out _ HE2.out.base
  obtain ⟨c0', c1', c2', c3', c4', c5', c6', c7', c8', c9', c10', c11', c12'⟩ := hc
  obtain ⟨j0, j1, j2, j3, j4⟩ := cells5 HP2.out
  obtain ⟨W9, hW9⟩ : ∃ W9, W9 = w2.alloc (boxO o (.slice a1 n1 d1') (.slice a2 n2' d2) (.slice a3 n3 d3)) := ⟨_, rfl⟩
  have hal := below_alloc w2 (boxO o (.slice a1 n1 d1') (.slice a2 n2' d2) (.slice a3 n3 d3))
  have HE9 := hid_of (HE2.out.on hal)
  have HP9 := hid_of (keep HP2.out hal)
  have HOB9 : Hid (ObCells W9 ⟨w2.heap.size, 0, none⟩ o (.slice a1 n1 d1') (.slice a2 n2' d2) (.slice a3 n3 d3)) := by
    show ObCells _ _ _ _ _ _
    rw [hW9]
    constructor <;> simp
  rw [← hW9] at HE9 HP9
  clear hal
  dsimp only
  repeat (first | (with_reducible refine halt_region (id := 9) ?_) | go_values | go_skip | go_guarded | go_step | go_upon | go_back)
  unfold Halt0
  rw [← hW9]
  obtain ⟨b9, hb9⟩ : ∃ b9, b9 = w2.heap.size := ⟨_, rfl⟩
  rw [← hb9] at HOB9 ⊢
  clear hb9 hW9 j0 j1 j2 j3 j4 c0' c1' c2' c3' c4' c5' c6' c7' c8' c9' c10' c11' c12' HE2 HP2 HAT
  have n0 := HN0.out.1
  have n0b := HN0.out.2.1
  have n0c := HN0.out.2.2
  have n2 := HN2.out
  obtain ⟨x0, x1, x2, x3, x4, x5, x6, x7, x8, x9, x10, x11, x12⟩ := HOB9.out
  rw [HMK.out] at x9
  have CE := specExp_any o (.slice a1 n1 d1') (.slice a2 n2' d2) (.slice a3 n3 d3) now W9
  unfold obV at CE
  rw [HMK.out, HXX.out] at CE
  go_wp2_with fail
  refine CE.mono ?_
  rintro e wn ⟨rfl, hb⟩
  have HE10 := hid_of (HE9.out.on hb)
  have HP10 := hid_of (keep HP9.out hb)
  have HOB10 := hid_of (HOB9.out.on hb)
  clear HE9 HP9 HOB9 hb CE x0 x1 x2 x3 x4 x5 x6 x7 x8 x9 x10 x11 x12
  have x1 := HOB10.out.c1
  obtain ⟨k0, k1, k2, k3, k4⟩ := cells5 HE10.out.bx.box
  have HLO : Hid (w.heap.size + 1 + 1 ≤ wn.heap.size) := by show _ ≤ _; have := HE10.out.bx.low; have := lt_of_block HE10.out.bx.box; omega
  go_wp2_with fail
  refine (HF.out _ _ HE10.out.bx.arena).mono ?_
  rintro e w11 ⟨g', c', fs', rest', rfl, he, ho, hb⟩
  have HL : Hid ((freeOf os (k : Int)).length = os.length) := freeOf_len os k
  rw [HL.out]
  have e0 := keep HE10.out.bx.box hb
  have e1 := box_cell e0 0 (.slice (some ⟨g', 0, none⟩) os.length c')
  simp at e1
  have H1 : Hid (EndH w b 1 k r (freeOf os (k : Int)) xs g' c' (.slice u1 xs.length d1) (w11.setCell ⟨b, 0, none⟩ (.slice (some ⟨g', 0, none⟩) os.length c'))) := HE10.out.turn2 (HE10.out.bx.reArena hb he ho HLO.out (fun k hk => by simp at hk; subst hk; exact lt_of_block HE10.out.bx.box) (by rw [HL.out]; exact e1) (box_others w11 b 0 _) (by simp)) ((hb.mono HLO.out).setCell HE10.out.bx.low _)
  have HP1 : Hid ((w11.setCell ⟨b, 0, none⟩ (.slice (some ⟨g', 0, none⟩) os.length c')).heap[w.heap.size]? = some (boxH (.slice (some pa) os.length c) 1 k r (.slice (some pg) xs.length cg))) := setCell_keep (keep HP10.out hb) (by have := HE10.out.bx.low; omega)
  obtain ⟨h0c, h1c, h2c, h3c, h4c⟩ := cells5 e0
  have hfc := frozen_of e0
  clear hb he ho e0 e1 HE10 HP10 HOB10 HF HLO k0 k1 k2 k3 k4
  have H2 := hid_of (H1.out.turn2 (atUp H1.out.bx ((k : Int) + 1)) ((Below.refl _ _).setCell (p := ⟨b, 2, none⟩) H1.out.bx.low (.int .i64 ((k : Int) + 1))))
  have HP3 : Hid ((World.setCell (w11.setCell ⟨b, 0, none⟩ (.slice (some ⟨g', 0, none⟩) os.length c')) ⟨b, 2, none⟩ (.int .i64 ((k : Int) + 1))).heap[w.heap.size]? = some (boxH (.slice (some pa) os.length c) 1 k r (.slice (some pg) xs.length cg))) := setCell_keep HP1.out (by have := H1.out.bx.low; omega)
  obtain ⟨y0, y1, y2, y3, y4⟩ := cells5 H1.out.bx.box
  have yf := frozen_of H1.out.bx.box
  obtain ⟨z0, z1, z2, z3, z4⟩ := cells5 H2.out.bx.box
  have zf := frozen_of H2.out.bx.box
  rw [HL.out] at y0 z0
  by_cases h9 : k = 9
  · have n9 : (((k : Int) + 1) == 10) = true := by simp; omega
    obtain ⟨z, hz⟩ : ∃ z, z = rdUp r := ⟨_, rfl⟩
    have hr := HR.out
    have hw : wrap64 (r + 1) = r + 1 := by unfold wrap64; omega
    have hmin : min (r + 1) 1000000 = z := by rw [hz]; unfold rdUp; split <;> omega
    have hif : (if r + 1 ≤ 1000000 then r + 1 else 1000000) = z := hz.symm
    have hif2 : (if 1000000 < r + 1 then 1000000 else r + 1) = z := by rw [hz]; unfold rdUp; split <;> split <;> omega
    have HE : Hid (swP k = 0 ∧ swT k = 0 ∧ swR r k = z ∧ swL (freeOf os (k : Int)) k = ((freeOf os (k : Int))).set 0 (marked (obAt (freeOf os (k : Int)) 0) true) ∧ swX k = [0]) := by show _ ∧ _; unfold swP swT swR swL swX; rw [hz]; simp [h9]
    have h0l : 0 < ((freeOf os (k : Int))).length := by rw [HL.out]; have := HK.out; omega
    have hoz : (0 : Int) < (os.length : Int) := by have := HK.out; omega
    have HH := hid_of h0l
    obtain ⟨V0, hV0⟩ : ∃ V0, V0 = World.setCell (w11.setCell ⟨b, 0, none⟩ (.slice (some ⟨g', 0, none⟩) os.length c')) ⟨b, 2, none⟩ (.int .i64 ((k : Int) + 1)) := ⟨_, rfl⟩
    rw [← hV0] at H2 HP3
    clear h9 HP1 H1 hr hz h0l
    try dsimp only
    repeat (first | (with_reducible refine halt_region (id := 17) ?_) | go_values | go_skip | go_guarded | go_step | go_upon | go_back)
    unfold Halt0
    rw [← hV0]
    clear hV0 y0 y1 y2 y3 y4 yf z0 z1 z2 z3 z4 zf h0c h1c h2c h3c h4c hfc
    have HRD := hid_of (H2.out.round HH.out z V0.heap.size rfl)
    have HL2 : Hid ((((freeOf os (k : Int))).set 0 (marked (obAt (freeOf os (k : Int)) 0) true)).length = os.length) := by show _ = _; rw [List.length_set]; exact HL.out
    obtain ⟨x0, x1, x2, x3, x4⟩ := cells5 HP3.out
    have hal := below_alloc V0 (.cells #[.int .i64 0] 3 (0, 0))
    have e5 := keep H2.out.bx.box hal
    obtain ⟨y0, y1, y2, y3, y4⟩ := cells5 e5
    have yf := frozen_of e5
    obtain ⟨V2, hV2⟩ : ∃ V2, V2 = wq4 (V0.alloc (.cells #[.int .i64 0] 3 (0, 0))) b 1 0 0 z (.slice (some ⟨V0.heap.size, 0, none⟩) 1 1) := ⟨_, rfl⟩
    rw [← hV2] at HRD
    clear hal e5 HP3 H2
    try dsimp only
    repeat (first | (with_reducible refine halt_region (id := 18) ?_) | go_values | go_skip | go_guarded | go_step | go_upon | go_back)
    unfold Halt0
    unfold wq4 at hV2
    simp only [Nat.reduceAdd] at hV2
    rw [← hV2]
    clear hV2 x0 x1 x2 x3 x4 y0 y1 y2 y3 y4 yf hmin hif hif2 hw
    obtain ⟨v0, v1, v2, v3, v4⟩ := cells5 HRD.out.1.bx.box
    obtain ⟨s0, s1, s2, s3, s4⟩ := cells5 HRD.out.2.bx.box
    have sf := frozen_of HRD.out.2.bx.box
    rw [HL.out] at v0
    rw [HL2.out] at s0
    obtain ⟨_, _, _, hco, hff, _⟩ := HRD.out.1.bx.at HH.out
    have c9 := hco.c9
    have f9 := hff 9
    rw [Nat.zero_mul, Nat.zero_add] at c9
    obtain ⟨r0, r1, r2, r3, r4, hrs⟩ := HRD.out.2.res
    obtain ⟨m0, m1, m2, m3, m4⟩ := cells5 hrs
    have mf := frozen_of hrs
    clear hrs hco hff
    go_wp2
    have HA := hid_of (HRD.out.2.ans 0 0 z)
    rw [HL2.out] at HA
    show bodyPost _ _ _ _ _ (wq5 _ (w.heap.size + 1) 0 (.slice (some ⟨g', 0, none⟩) os.length c') 0 0 z _)
    refine bodyPost_ret (v := .tuple #[hpV (.slice (some ⟨g', 0, none⟩) os.length c') 0 0 z (.slice (some ⟨V0.heap.size, 0, none⟩) 1 1), .int .i64 k]) (by have e := HA.out.1; simp [results, go_sem, World.cell?, e]) rfl ?_
    show AnsHI (swP k) (swT k) (swR r k) (swL (freeOf os (k : Int)) k) (swX k) k w _ _
    rw [HE.out.1, HE.out.2.1, HE.out.2.2.1, HE.out.2.2.2.1, HE.out.2.2.2.2]
    exact ⟨⟨_, _, rfl, HA.out.2.1⟩, HA.out.2.2⟩
  · have n9 : (((k : Int) + 1) == 10) = false := by simp; omega
    have HE : Hid (swP k = 1 ∧ swT k = (k : Int) + 1 ∧ swR r k = r ∧ swL (freeOf os (k : Int)) k = (freeOf os (k : Int)) ∧ swX k = xs) := by show _ ∧ _; unfold swP swT swR swL swX; rw [HX0.out]; simp [h9]
    obtain ⟨r0, r1, r2, r3, r4, hrs⟩ := H2.out.res
    obtain ⟨m0, m1, m2, m3, m4⟩ := cells5 hrs
    have mf := frozen_of hrs
    clear hrs h9 HP1 HP3 H1
    go_wp2
    have HA := hid_of (H2.out.ans 1 ((k : Int) + 1) r)
    rw [HL.out] at HA
    show bodyPost _ _ _ _ _ (wq5 _ (w.heap.size + 1) 0 (.slice (some ⟨g', 0, none⟩) os.length c') 1 ((k : Int) + 1) r (.slice u1 xs.length d1))
    refine bodyPost_ret (v := .tuple #[hpV (.slice (some ⟨g', 0, none⟩) os.length c') 1 ((k : Int) + 1) r (.slice u1 xs.length d1), .int .i64 k]) (by have e := HA.out.1; simp [results, go_sem, World.cell?, e]) rfl ?_
    show AnsHI (swP k) (swT k) (swR r k) (swL (freeOf os (k : Int)) k) (swX k) k w _ _
    rw [HE.out.1, HE.out.2.1, HE.out.2.2.1, HE.out.2.2.2.1, HE.out.2.2.2.2]
    exact ⟨⟨_, _, rfl, HA.out.2.1⟩, HA.out.2.2⟩
set_option maxHeartbeats 8000000 in
theorem sStep_keep (pa : Addr) (c : Nat) (p t r : Int) (pg : Addr) (cg : Nat) (os : List Ob) (xs : List Int) (now : Int) (w : World) (ha : IsArena w (.slice (some pa) os.length c) os) (hx : IsInts w (.slice (some pg) xs.length cg) xs) (hs : Small8 os) (hf : AllFit os) (ht : (os.length : Int) + arN os + xs.length ≤ 1048576) (k : Nat) (hp : p = 1) (hx0 : xs = []) (htk : t = (k : Int)) (hk : k < 10) (h1 : heapOk os p t r xs = true) (h0 : k ≠ 0) (hz : (obAt os k).kind ≠ 0) (hm : (obAt os k).mark = true) (hx9 : expB (obAt os k) now = false) :
    Calls Tryz.prog 16 #[hpV (.slice (some pa) os.length c) p t r (.slice (some pg) xs.length cg), .int .i64 now] w fun e w' => AnsHI (swP k) (swT k) (swR r k) (swL (os.set k (marked (obAt os k) false)) k) (swX k) (-1) w e w' := by
  subst hp
  subst htk
  have HX0 := hid_of hx0
  clear hx0
  have CC : Hid (∀ w', Below w.heap.size w w' → Calls Tryz.prog 22 #[hpV (.slice (some pa) os.length c) 1 k r (.slice (some pg) xs.length cg)] w' fun e w'' => AnsH 1 k r os xs w' e w'') := fun w' hb => specCopyH_any pa c 1 k r pg cg os xs w' (ha.on hb) (hx.on hb) (by omega) hs (by omega)
  have CO : Hid (∀ w', Below w.heap.size w w' → Calls Tryz.prog 23 #[hpV (.slice (some pa) os.length c) 1 k r (.slice (some pg) xs.length cg)] w' fun e w'' => e = .returned (.bool (heapOk os 1 k r xs)) ∧ Below w'.heap.size w' w'') := fun w' hb => specHeapOk_any _ 1 k r _ os xs w' (ha.on hb) (hx.on hb) (by omega) hs hf (by omega)
  rw [h1] at CO
  have hten := heapOk_ten h1
  have hko : k < os.length := by omega
  have hkz : (k : Int) < (os.length : Int) := by omega
  have HK : Hid (k < os.length ∧ os.length = 10 ∧ k < 10) := ⟨hko, hten, hk⟩
  have HR := hid_of (heapOk_parts h1).2.1
  have HAT : Hid (∀ w', Below w.heap.size w w' → ∃ q a1 n1 d1 a2 n2 d2 a3 n3 d3, pa.add (k * 13) = q ∧ ObCells w' q (obAt os k) (.slice a1 n1 d1) (.slice a2 n2 d2) (.slice a3 n3 d3)) := fun w' hb => ar_at3 (ha.on hb) hko
  have hwk : wrap64 ((k : Int) + 1) = (k : Int) + 1 := by unfold wrap64; omega
  obtain ⟨o, ho⟩ : ∃ o, o = obAt os k := ⟨_, rfl⟩
  rw [← ho] at HAT hz hm hx9
  have HO := hid_of ho
  have HK0 := hid_of h0
  have HN0 : Hid (decide ((k : Int) > 0) = true ∧ decide ((0 : Int) < (k : Int)) = true ∧ decide (0 < k) = true) := by refine ⟨?_, ?_, ?_⟩ <;> (simp; omega)
  have HN2 : Hid ((o.kind != 0) = true) := by show _ = _; simp [hz]
  have HMK := hid_of hm
  have HXX := hid_of hx9
  clear ha hx hs hf ht h1 hk hten hko ho hz h0 hm hx9
  go_enter Tryz.func16, Tryz.ntmps16
  go_wp2_with fail
  refine (CC.out _ (by go_grown)).mono ?_
  rintro e w1 ⟨⟨A1, G1, rfl, hgot⟩, hb⟩
  obtain ⟨g1, c1, u1, d1, rfl, rfl⟩ := hgot.form
  have HE := hid_of (EndH.made hb hgot)
  clear hb hgot CC
  obtain ⟨i0, i1, i2, i3, i4⟩ := cells5 HE.out.2
  obtain ⟨W1, hW1⟩ : ∃ W1, W1 = w1.alloc (boxH (.slice (some ⟨g1, 0, none⟩) os.length c1) 1 k r (.slice u1 xs.length d1)) := ⟨_, rfl⟩
  go_wp2_with fail
  clear i0 i1 i2 i3 i4
  rw [← hW1] at HE ⊢
  obtain ⟨b, hbb⟩ : ∃ b, b = w1.heap.size := ⟨_, rfl⟩
  rw [← hbb] at HE ⊢
  clear hbb hW1
  refine (CO.out _ HE.out.1.base).mono ?_
  rintro e w2 ⟨rfl, hb⟩
  have HE2 := hid_of (HE.out.1.on hb)
  have HP2 := hid_of (keep HE.out.2 hb)
  clear hb CO HE
  obtain ⟨q, a1, n1, d1', a2, n2', d2, a3, n3, d3, hq, hc⟩ := HAT.out _ HE2.out.base
  obtain ⟨c0', c1', c2', c3', c4', c5', c6', c7', c8', c9', c10', c11', c12'⟩ := hc
  obtain ⟨j0, j1, j2, j3, j4⟩ := cells5 HP2.out
  obtain ⟨W9, hW9⟩ : ∃ W9, W9 = w2.alloc (boxO o (.slice a1 n1 d1') (.slice a2 n2' d2) (.slice a3 n3 d3)) := ⟨_, rfl⟩
  have hal := below_alloc w2 (boxO o (.slice a1 n1 d1') (.slice a2 n2' d2) (.slice a3 n3 d3))
  have HE9 := hid_of (HE2.out.on hal)
  have HP9 := hid_of (keep HP2.out hal)
  have HOB9 : Hid (ObCells W9 ⟨w2.heap.size, 0, none⟩ o (.slice a1 n1 d1') (.slice a2 n2' d2) (.slice a3 n3 d3)) := by
    show ObCells _ _ _ _ _ _
    rw [hW9]
    constructor <;> simp
  rw [← hW9] at HE9 HP9
  clear hal
  dsimp only
  repeat (first | (with_reducible refine halt_region (id := 9) ?_) | go_values | go_skip | go_guarded | go_step | go_upon | go_back)
  unfold Halt0
  rw [← hW9]
  obtain ⟨b9, hb9⟩ : ∃ b9, b9 = w2.heap.size := ⟨_, rfl⟩
  rw [← hb9] at HOB9 ⊢
  clear hb9 hW9 j0 j1 j2 j3 j4 c0' c1' c2' c3' c4' c5' c6' c7' c8' c9' c10' c11' c12' HE2 HP2 HAT
  have n0 := HN0.out.1
  have n0b := HN0.out.2.1
  have n0c := HN0.out.2.2
  have n2 := HN2.out
  obtain ⟨x0, x1, x2, x3, x4, x5, x6, x7, x8, x9, x10, x11, x12⟩ := HOB9.out
  rw [HMK.out] at x9
  have CE := specExp_any o (.slice a1 n1 d1') (.slice a2 n2' d2) (.slice a3 n3 d3) now W9
  unfold obV at CE
  rw [HMK.out, HXX.out] at CE
  go_wp2_with fail
  refine CE.mono ?_
  rintro e wn ⟨rfl, hb⟩
  have HE10 := hid_of (HE9.out.on hb)
  have HP10 := hid_of (keep HP9.out hb)
  have HOB10 := hid_of (HOB9.out.on hb)
  clear HE9 HP9 HOB9 hb CE x0 x1 x2 x3 x4 x5 x6 x7 x8 x9 x10 x11 x12
  have x1 := HOB10.out.c1
  obtain ⟨e1, e2, e3, e4, e5, e6, e7, e8, e9, hc2, hff2⟩ := sl_at HE10.out.bx HK.out.1
  have q9 := hc2.c9
  have qf := hff2 (k * 13 + 9)
  obtain ⟨k0, k1, k2, k3, k4⟩ := cells5 HE10.out.bx.box
  have H1 : Hid (EndH w b 1 k r (os.set k (marked (obAt os k) false)) xs g1 c1 (.slice u1 xs.length d1) (wn.setCell ⟨g1, k * 13 + 9, none⟩ (.bool false))) := HE10.out.mark HK.out.1 false
  have HP1 : Hid ((wn.setCell ⟨g1, k * 13 + 9, none⟩ (.bool false)).heap[w.heap.size]? = some (boxH (.slice (some pa) os.length c) 1 k r (.slice (some pg) xs.length cg))) := setCell_keep HP10.out HE10.out.ne_g
  have HL : Hid ((os.set k (marked (obAt os k) false)).length = os.length) := by show _ = _; simp
  clear hc2 hff2 HE10 HP10 HOB10
  have H2 := hid_of (H1.out.turn2 (atUp H1.out.bx ((k : Int) + 1)) ((Below.refl _ _).setCell (p := ⟨b, 2, none⟩) H1.out.bx.low (.int .i64 ((k : Int) + 1))))
  have HP3 : Hid ((World.setCell (wn.setCell ⟨g1, k * 13 + 9, none⟩ (.bool false)) ⟨b, 2, none⟩ (.int .i64 ((k : Int) + 1))).heap[w.heap.size]? = some (boxH (.slice (some pa) os.length c) 1 k r (.slice (some pg) xs.length cg))) := setCell_keep HP1.out (by have := H1.out.bx.low; omega)
  obtain ⟨y0, y1, y2, y3, y4⟩ := cells5 H1.out.bx.box
  have yf := frozen_of H1.out.bx.box
  obtain ⟨z0, z1, z2, z3, z4⟩ := cells5 H2.out.bx.box
  have zf := frozen_of H2.out.bx.box
  rw [HL.out] at y0 z0
  by_cases h9 : k = 9
  · have n9 : (((k : Int) + 1) == 10) = true := by simp; omega
    obtain ⟨z, hz⟩ : ∃ z, z = rdUp r := ⟨_, rfl⟩
    have hr := HR.out
    have hw : wrap64 (r + 1) = r + 1 := by unfold wrap64; omega
    have hmin : min (r + 1) 1000000 = z := by rw [hz]; unfold rdUp; split <;> omega
    have hif : (if r + 1 ≤ 1000000 then r + 1 else 1000000) = z := hz.symm
    have hif2 : (if 1000000 < r + 1 then 1000000 else r + 1) = z := by rw [hz]; unfold rdUp; split <;> split <;> omega
    have HE : Hid (swP k = 0 ∧ swT k = 0 ∧ swR r k = z ∧ swL (os.set k (marked (obAt os k) false)) k = ((os.set k (marked (obAt os k) false))).set 0 (marked (obAt (os.set k (marked (obAt os k) false)) 0) true) ∧ swX k = [0]) := by show _ ∧ _; unfold swP swT swR swL swX; rw [hz]; simp [h9]
    have h0l : 0 < ((os.set k (marked (obAt os k) false))).length := by rw [HL.out]; have := HK.out; omega
    have hoz : (0 : Int) < (os.length : Int) := by have := HK.out; omega
    have HH := hid_of h0l
    obtain ⟨V0, hV0⟩ : ∃ V0, V0 = World.setCell (wn.setCell ⟨g1, k * 13 + 9, none⟩ (.bool false)) ⟨b, 2, none⟩ (.int .i64 ((k : Int) + 1)) := ⟨_, rfl⟩
    rw [← hV0] at H2 HP3
    clear h9 HP1 H1 hr hz h0l
    try dsimp only
    repeat (first | (with_reducible refine halt_region (id := 17) ?_) | go_values | go_skip | go_guarded | go_step | go_upon | go_back)
    unfold Halt0
    rw [← hV0]
    clear hV0 y0 y1 y2 y3 y4 yf z0 z1 z2 z3 z4 zf x1 k0 k1 k2 k3 k4 q9 qf
    have HRD := hid_of (H2.out.round HH.out z V0.heap.size rfl)
    have HL2 : Hid ((((os.set k (marked (obAt os k) false))).set 0 (marked (obAt (os.set k (marked (obAt os k) false)) 0) true)).length = os.length) := by show _ = _; rw [List.length_set]; exact HL.out
    obtain ⟨x0, x1, x2, x3, x4⟩ := cells5 HP3.out
    have hal := below_alloc V0 (.cells #[.int .i64 0] 3 (0, 0))
    have e5 := keep H2.out.bx.box hal
    obtain ⟨y0, y1, y2, y3, y4⟩ := cells5 e5
    have yf := frozen_of e5
    obtain ⟨V2, hV2⟩ : ∃ V2, V2 = wq4 (V0.alloc (.cells #[.int .i64 0] 3 (0, 0))) b 1 0 0 z (.slice (some ⟨V0.heap.size, 0, none⟩) 1 1) := ⟨_, rfl⟩
    rw [← hV2] at HRD
    clear hal e5 HP3 H2
    try dsimp only
    repeat (first | (with_reducible refine halt_region (id := 18) ?_) | go_values | go_skip | go_guarded | go_step | go_upon | go_back)
    unfold Halt0
    unfold wq4 at hV2
    simp only [Nat.reduceAdd] at hV2
    rw [← hV2]
    clear hV2 x0 x1 x2 x3 x4 y0 y1 y2 y3 y4 yf hmin hif hif2 hw
    obtain ⟨v0, v1, v2, v3, v4⟩ := cells5 HRD.out.1.bx.box
    obtain ⟨s0, s1, s2, s3, s4⟩ := cells5 HRD.out.2.bx.box
    have sf := frozen_of HRD.out.2.bx.box
    rw [HL.out] at v0
    rw [HL2.out] at s0
    obtain ⟨_, _, _, hco, hff, _⟩ := HRD.out.1.bx.at HH.out
    have c9 := hco.c9
    have f9 := hff 9
    rw [Nat.zero_mul, Nat.zero_add] at c9
    obtain ⟨r0, r1, r2, r3, r4, hrs⟩ := HRD.out.2.res
    obtain ⟨m0, m1, m2, m3, m4⟩ := cells5 hrs
    have mf := frozen_of hrs
    clear hrs hco hff
    go_wp2
    have HA := hid_of (HRD.out.2.ans 0 0 z)
    rw [HL2.out] at HA
    show bodyPost _ _ _ _ _ (wq5 _ (w.heap.size + 1) 0 (.slice (some ⟨g1, 0, none⟩) os.length c1) 0 0 z _)
    refine bodyPost_ret (v := .tuple #[hpV (.slice (some ⟨g1, 0, none⟩) os.length c1) 0 0 z (.slice (some ⟨V0.heap.size, 0, none⟩) 1 1), .int .i64 (-1)]) (by have e := HA.out.1; simp [results, go_sem, World.cell?, e]) rfl ?_
    show AnsHI (swP k) (swT k) (swR r k) (swL (os.set k (marked (obAt os k) false)) k) (swX k) (-1) w _ _
    rw [HE.out.1, HE.out.2.1, HE.out.2.2.1, HE.out.2.2.2.1, HE.out.2.2.2.2]
    exact ⟨⟨_, _, rfl, HA.out.2.1⟩, HA.out.2.2⟩
  · have n9 : (((k : Int) + 1) == 10) = false := by simp; omega
    have HE : Hid (swP k = 1 ∧ swT k = (k : Int) + 1 ∧ swR r k = r ∧ swL (os.set k (marked (obAt os k) false)) k = (os.set k (marked (obAt os k) false)) ∧ swX k = xs) := by show _ ∧ _; unfold swP swT swR swL swX; rw [HX0.out]; simp [h9]
    obtain ⟨r0, r1, r2, r3, r4, hrs⟩ := H2.out.res
    obtain ⟨m0, m1, m2, m3, m4⟩ := cells5 hrs
    have mf := frozen_of hrs
    clear hrs h9 HP1 HP3 H1
    go_wp2
    have HA := hid_of (H2.out.ans 1 ((k : Int) + 1) r)
    rw [HL.out] at HA
    show bodyPost _ _ _ _ _ (wq5 _ (w.heap.size + 1) 0 (.slice (some ⟨g1, 0, none⟩) os.length c1) 1 ((k : Int) + 1) r (.slice u1 xs.length d1))
    refine bodyPost_ret (v := .tuple #[hpV (.slice (some ⟨g1, 0, none⟩) os.length c1) 1 ((k : Int) + 1) r (.slice u1 xs.length d1), .int .i64 (-1)]) (by have e := HA.out.1; simp [results, go_sem, World.cell?, e]) rfl ?_
    show AnsHI (swP k) (swT k) (swR r k) (swL (os.set k (marked (obAt os k) false)) k) (swX k) (-1) w _ _
    rw [HE.out.1, HE.out.2.1, HE.out.2.2.1, HE.out.2.2.2.1, HE.out.2.2.2.2]
    exact ⟨⟨_, _, rfl, HA.out.2.1⟩, HA.out.2.2⟩
theorem sStep_sweep (pa : Addr) (c : Nat) (p t r : Int) (pg : Addr) (cg : Nat) (os : List Ob) (xs : List Int) (now : Int) (w : World) (ha : IsArena w (.slice (some pa) os.length c) os) (hx : IsInts w (.slice (some pg) xs.length cg) xs) (hs : Small8 os) (hf : AllFit os) (ht : (os.length : Int) + arN os + xs.length ≤ 1048576) (k : Nat) (hp : p = 1) (hx0 : xs = []) (htk : t = (k : Int)) (hk : k < 10) (h1 : heapOk os p t r xs = true) :
    Calls Tryz.prog 16 #[hpV (.slice (some pa) os.length c) p t r (.slice (some pg) xs.length cg), .int .i64 now] w fun e w' => AnsHI (swP k) (swT k) (swR r k) (swL (swOs os k now) k) (swX k) (swF os k now) w e w' := by
  have hko : k < os.length := by have := heapOk_ten h1; omega
  have hob : obOk (obAt os k) = true := by
    have h2 := (heapOk_parts h1).1
    unfold arenaOk at h2
    simp only [Bool.and_eq_true] at h2
    exact obOk_at h2.2.1 hko
  unfold swOs swF swB frB
  by_cases h0 : k = 0
  · rw [decide_eq_true h0]
    by_cases hz : (obAt os k).kind = 0
    · have e := marked_same hko (kind_none hob hz)
      simp only [Bool.not_true, Bool.false_and, Bool.false_eq_true, if_false, e]
      exact sStep_rnone pa c p t r pg cg os xs now w ha hx hs hf ht k hp hx0 htk hk h1 h0 hz
    · simp only [Bool.not_true, Bool.false_and, Bool.false_eq_true, if_false]
      exact sStep_root pa c p t r pg cg os xs now w ha hx hs hf ht k hp hx0 htk hk h1 h0 hz
  · rw [decide_eq_false h0]
    by_cases hz : (obAt os k).kind = 0
    · have e := marked_same hko (kind_none hob hz)
      have ez : ((obAt os k).kind == 0) = true := by simp [hz]
      simp only [ez, Bool.not_true, Bool.false_and, Bool.and_false, Bool.false_eq_true, if_false, e]
      exact sStep_none pa c p t r pg cg os xs now w ha hx hs hf ht k hp hx0 htk hk h1 h0 hz
    · have ez : ((obAt os k).kind == 0) = false := by simp [hz]
      cases hm : (obAt os k).mark with
      | false =>
        simp only [ez, Bool.not_false, Bool.or_true, Bool.and_true, if_true]
        exact sStep_pale pa c p t r pg cg os xs now w ha hx hs hf ht k hp hx0 htk hk h1 h0 hz hm
      | true =>
        cases hx9 : expB (obAt os k) now with
        | true =>
          simp only [ez, Bool.not_false, Bool.true_or, Bool.and_true, if_true]
          exact sStep_old pa c p t r pg cg os xs now w ha hx hs hf ht k hp hx0 htk hk h1 h0 hz hm hx9
        | false =>
          simp only [ez, Bool.not_false, Bool.not_true, Bool.or_false, Bool.and_false, Bool.false_eq_true, if_false]
          exact sStep_keep pa c p t r pg cg os xs now w ha hx hs hf ht k hp hx0 htk hk h1 h0 hz hm hx9
theorem specStep_any (pa : Addr) (c : Nat) (p t r : Int) (pg : Addr) (cg : Nat) (os : List Ob) (xs : List Int) (now : Int) (w : World) (ha : IsArena w (.slice (some pa) os.length c) os) (hx : IsInts w (.slice (some pg) xs.length cg) xs) (hs : Small8 os) (hf : AllFit os) (ht : (os.length : Int) + arN os + xs.length ≤ 1048576) :
    Calls Tryz.prog 16 #[hpV (.slice (some pa) os.length c) p t r (.slice (some pg) xs.length cg), .int .i64 now] w fun e w' => AnsHI (gsP os p t r xs) (gsT os p t r xs) (gsR os p t r xs) (gsOs os p t r xs now) (gsXs os p t r xs now) (gsF os p t r xs now) w e w' := by
  unfold gsP gsT gsR gsOs gsXs gsF
  cases h1 : heapOk os p t r xs with
  | false => exact sStep_no pa c p t r pg cg os xs now w ha hx hs hf ht h1
  | true =>
    have h2 := heapOk_parts h1
    by_cases hp : p = 0
    · simp only [if_pos hp, if_true]
      exact sStep_mark pa c p t r pg cg os xs now w ha hx hs hf ht hp h1
    · have hp1 : p = 1 := h2.2.2.1.resolve_left hp
      obtain ⟨hx0, k, hk, hk10⟩ := h2.2.2.2.2 hp1
      have e : t.toNat = k := by rw [hk, Int.toNat_natCast]
      simp only [if_neg hp, if_true, e]
      exact sStep_sweep pa c p t r pg cg os xs now w ha hx hs hf ht k hp1 hx0 hk hk10 h1
end Go.Proofs.YtbdljoldblpffaaGreat
