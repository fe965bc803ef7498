/-
  Marks on an arena, held. A new arena: the model's and the program's. An arena is drawn.
-/
import Derived.Test.YtgijpflojffckaaMarkA
import Derived.Test.YtgijpflojffckaaNewO9
import Derived.Test.YtgijpflojffckaaPut9
namespace Go.Proofs.Ytgijpflojffckaa
open Go.RowKit
set_option linter.unusedVariables false
set_option maxRecDepth 100000

end Go.Proofs.Ytgijpflojffckaa
namespace Go.Proofs.Ytgijpflojffckaa
open Go.RowKit
set_option linter.unusedVariables false
set_option maxRecDepth 100000

def rootOb : Ob := ⟨0, 1, -1, 0, 1000000, 0, 0, 0, 0, false, [-1, -1], [], []⟩
def newA : List Ob := rootOb :: List.replicate 9 noOb
theorem OwnA.turned {g cap : Nat} {es : List El} {rest : List Value} {lo hi l0 h0 : Nat} {w w' : World} (h : OwnA g cap es rest lo hi w) (ht : Turned8 l0 h0 w w') (hd : hi ≤ l0 ∨ h0 ≤ lo) : OwnA g cap es rest lo hi w' :=
  ⟨ht.block _ _ h.at' (by have := h.lo; have := h.hi; omega), h.cap, h.lo, h.hi, fun i hi' => (h.own i hi').move (fun b x h1 h2 hx => ht.block _ _ hx (by omega)) (Nat.le_refl _) (Nat.le_refl _), h.ne, h.apart⟩
/-- An arena of the call's own is handed back. -/
def ArenaAns (os : List Ob) (w : World) (e : Ending) (w' : World) : Prop := ∃ g c fs rest, e = .returned (.slice (some ⟨g, 0, none⟩) os.length c) ∧ arOf fs = os ∧ OwnA g c fs rest w.heap.size w'.heap.size w' ∧ Below w.heap.size w w'
set_option maxRecDepth 100000 in
set_option maxHeartbeats 4000000 in
theorem specNew_any (w : World) :
    Calls Try.prog 60 #[] w fun e w' => ArenaAns newA w e w' := by
  have hm : (Instr.makeSlice 24 (.int .i64 10) (.int .i64 10)).run Try.prog w = .ok (.slice (some ⟨w.heap.size, 0, none⟩) 10 10) (w.alloc (.cells (ecells (List.replicate 10 noEl)).toArray 28 (0, 0))) := make_obs 10 (by omega) w
  have hs0 := ownA_zero w 10
  have hb0 : Below w.heap.size w (w.alloc (.cells (ecells (List.replicate 10 noEl)).toArray 28 (0, 0))) := below_alloc w _
  obtain ⟨W, hW⟩ : ∃ W, W = w.alloc (.cells (ecells (List.replicate 10 noEl)).toArray 28 (0, 0)) := ⟨_, rfl⟩
  rw [← hW] at hm hs0 hb0
  have hs1 := hs0.on (below_alloc W (.cells #[.int .i64 (-1), .int .i64 (-1)] 3 (0, 0)))
  have hb1 : Below w.heap.size w (W.alloc (.cells #[.int .i64 (-1), .int .i64 (-1)] 3 (0, 0))) := below_more hb0 (below_alloc W _)
  have hrow : RowIn (W.alloc (.cells #[.int .i64 (-1), .int .i64 (-1)] 3 (0, 0))) W.heap.size [-1, -1] [] := heap_alloc_new W _
  have hz : (W.alloc (.cells #[.int .i64 (-1), .int .i64 (-1)] 3 (0, 0))).heap.size = W.heap.size + 1 := by simp
  have ho : OwnO W.heap.size (W.alloc (.cells #[.int .i64 (-1), .int .i64 (-1)] 3 (0, 0))).heap.size (W.alloc (.cells #[.int .i64 (-1), .int .i64 (-1)] 3 (0, 0))) (.slice (some ⟨W.heap.size, 0, none⟩) 2 2) (.slice none 0 0) (.slice none 0 0) rootOb :=
    ⟨⟨_, 2, rfl, Nat.le_refl _, fun _ => ⟨W.heap.size, [], rfl, Nat.le_refl _, by omega, hrow, rfl, by simp only [maxLen]; omega⟩⟩, ⟨none, 0, rfl, Nat.le_refl _, fun h => absurd rfl h⟩, ⟨none, 0, rfl, Nat.le_refl _, fun h => absurd rfl h⟩, by simp [blk]⟩
  have h3 := hs1.put (e := ⟨rootOb, .slice (some ⟨W.heap.size, 0, none⟩) 2 2, .slice none 0 0, .slice none 0 0⟩) ho (by omega) (k := 0) (by simp)
  have hc := hs1.cells (i := 0) (by simp)
  rw [show elAt (List.replicate 10 noEl) 0 = noEl from rfl] at hc
  have d0 : (W.alloc (.cells #[.int .i64 (-1), .int .i64 (-1)] 3 (0, 0))).cell? ⟨w.heap.size, 0, none⟩ = some (.int .i64 0) := hc.c0
  have d1 : (W.alloc (.cells #[.int .i64 (-1), .int .i64 (-1)] 3 (0, 0))).cell? ⟨w.heap.size, 1, none⟩ = some (.int .i64 0) := hc.c1
  have d2 : (W.alloc (.cells #[.int .i64 (-1), .int .i64 (-1)] 3 (0, 0))).cell? ⟨w.heap.size, 2, none⟩ = some (.int .i64 0) := hc.c2
  have d3 : (W.alloc (.cells #[.int .i64 (-1), .int .i64 (-1)] 3 (0, 0))).cell? ⟨w.heap.size, 3, none⟩ = some (.int .i64 0) := hc.c3
  have d4 : (W.alloc (.cells #[.int .i64 (-1), .int .i64 (-1)] 3 (0, 0))).cell? ⟨w.heap.size, 4, none⟩ = some (.int .i64 0) := hc.c4
  have d5 : (W.alloc (.cells #[.int .i64 (-1), .int .i64 (-1)] 3 (0, 0))).cell? ⟨w.heap.size, 5, none⟩ = some (.int .i64 0) := hc.c5
  have d6 : (W.alloc (.cells #[.int .i64 (-1), .int .i64 (-1)] 3 (0, 0))).cell? ⟨w.heap.size, 6, none⟩ = some (.int .i64 0) := hc.c6
  have d7 : (W.alloc (.cells #[.int .i64 (-1), .int .i64 (-1)] 3 (0, 0))).cell? ⟨w.heap.size, 7, none⟩ = some (.int .i64 0) := hc.c7
  have d8 : (W.alloc (.cells #[.int .i64 (-1), .int .i64 (-1)] 3 (0, 0))).cell? ⟨w.heap.size, 8, none⟩ = some (.int .i64 0) := hc.c8
  have d9 : (W.alloc (.cells #[.int .i64 (-1), .int .i64 (-1)] 3 (0, 0))).cell? ⟨w.heap.size, 9, none⟩ = some (.bool false) := hc.c9
  have d10 : (W.alloc (.cells #[.int .i64 (-1), .int .i64 (-1)] 3 (0, 0))).cell? ⟨w.heap.size, 10, none⟩ = some (.slice none 0 0) := hc.c10
  have d11 : (W.alloc (.cells #[.int .i64 (-1), .int .i64 (-1)] 3 (0, 0))).cell? ⟨w.heap.size, 11, none⟩ = some (.slice none 0 0) := hc.c11
  have d12 : (W.alloc (.cells #[.int .i64 (-1), .int .i64 (-1)] 3 (0, 0))).cell? ⟨w.heap.size, 12, none⟩ = some (.slice none 0 0) := hc.c12
  have hf := hs1.free
  have f0 := hf 0
  have f1 := hf 1
  have f2 := hf 2
  have f3 := hf 3
  have f4 := hf 4
  have f5 := hf 5
  have f6 := hf 6
  have f7 := hf 7
  have f8 := hf 8
  have f9 := hf 9
  have f10 := hf 10
  have f11 := hf 11
  have f12 := hf 12
  have h4 := below_w13 hb1 (g := w.heap.size) (Nat.le_refl _) (0 * 13) rootOb (.slice (some ⟨W.heap.size, 0, none⟩) 2 2) (.slice none 0 0) (.slice none 0 0)
  have hz4 := size_w13 (W.alloc (.cells #[.int .i64 (-1), .int .i64 (-1)] 3 (0, 0))) w.heap.size (0 * 13) rootOb (.slice (some ⟨W.heap.size, 0, none⟩) 2 2) (.slice none 0 0) (.slice none 0 0)
  have H3 : Hid (OwnA w.heap.size 10 ((List.replicate 10 noEl).set 0 ⟨rootOb, .slice (some ⟨W.heap.size, 0, none⟩) 2 2, .slice none 0 0, .slice none 0 0⟩) [] w.heap.size (w13 (W.alloc (.cells #[.int .i64 (-1), .int .i64 (-1)] 3 (0, 0))) w.heap.size (0 * 13) rootOb (.slice (some ⟨W.heap.size, 0, none⟩) 2 2) (.slice none 0 0) (.slice none 0 0)).heap.size (w13 (W.alloc (.cells #[.int .i64 (-1), .int .i64 (-1)] 3 (0, 0))) w.heap.size (0 * 13) rootOb (.slice (some ⟨W.heap.size, 0, none⟩) 2 2) (.slice none 0 0) (.slice none 0 0))) := by rw [hz4]; exact h3
  have H4 := hid_of h4
  clear hs0 hs1 hb0 hb1 hrow hz ho h3 hc hf h4 hz4 hW
  go_enter Try.func60, Try.ntmps60
  go_wp2
  go_ret
  exact ⟨w.heap.size, 10, _, [], rfl, rfl, H3.out, H4.out⟩
end Go.Proofs.Ytgijpflojffckaa
namespace Go.Proofs.Ytgijpflojffckaa
open Go.RowKit
set_option linter.unusedVariables false
set_option maxRecDepth 100000

theorem OwnA.byg {g cap : Nat} {es : List El} {rest : List Value} {lo hi : Nat} {w w' : World} {c : Nat} (h : OwnA g cap es rest lo hi w) (hg : w.grownBy w' (some c)) (hlt : c < lo) : OwnA g cap es rest lo hi w' :=
  ⟨grown_kept hg h.at' (fun e => by have := h.lo; have := Option.some.inj e; omega), h.cap, h.lo, h.hi, fun i hi' => (h.own i hi').move (fun b x h1 h2 hx => grown_kept hg hx (fun e => by have := Option.some.inj e; omega)) (Nat.le_refl _) (Nat.le_refl _), h.ne, h.apart⟩
theorem OwnA.fit9 {g cap : Nat} {es : List El} {rest : List Value} {lo hi : Nat} {w : World} (h : OwnA g cap es rest lo hi w) : OwnA g cap es rest lo w.heap.size w := h.fit
/-- What lies there while an arena is drawn. -/
structure GrowA (w : World) (g s : Nat) (v : Value) (wr : World) : Prop where
  own : ∃ ga c fs rs, v = .slice (some ⟨ga, 0, none⟩) 10 c ∧ fs.length = 10 ∧ OwnA ga c fs rs w.heap.size wr.heap.size wr ∧ arenaOk (arOf fs) = true ∧ AllFit (arOf fs)
  cur : CurE wr g s
  grown : w.grownBy wr (some g)
theorem GrowA.by' {w wr w' : World} {g s : Nat} {v : Value} (h : GrowA w g s v wr) (hs : s ≤ w.heap.size) (hc : CurE w' g s) (hg : wr.grownBy w' (some g)) : GrowA w g s v w' := by
  have hlt := hc.lt
  obtain ⟨ga, c, fs, rs, rfl, hl, ho, hok, hf⟩ := h.own
  exact ⟨⟨ga, c, fs, rs, rfl, hl, (ho.byg hg (by omega)).fit, hok, hf⟩, hc, grownBy_trans h.grown hg⟩
theorem GrowA.next {w wr w' : World} {g s : Nat} {v : Value} {ga c : Nat} {fs : List El} {rs : List Value} (h : GrowA w g s v wr) (hs : s ≤ w.heap.size) (hl : fs.length = 10) (ho : OwnA ga c fs rs wr.heap.size w'.heap.size w') (hok : arenaOk (arOf fs) = true) (hf : AllFit (arOf fs)) (hb : Below wr.heap.size wr w') : GrowA w g s (.slice (some ⟨ga, 0, none⟩) 10 c) w' :=
  ⟨⟨ga, c, fs, rs, rfl, hl, ho.wide h.grown.size (Nat.le_refl _), hok, hf⟩, h.cur.below (hb.mono (Nat.le_trans hs h.grown.size)), grown8_then h.grown hb h.grown.size⟩
theorem GrowA.arena {w wr : World} {g s : Nat} {v : Value} (h : GrowA w g s v wr) : ∃ ga c os, v = .slice (some ⟨ga, 0, none⟩) 10 c ∧ os.length = 10 ∧ IsArena wr (.slice (some ⟨ga, 0, none⟩) 10 c) os ∧ arenaOk os = true ∧ AllFit os := by
  obtain ⟨ga, c, fs, rs, rfl, hl, ho, hok, hf⟩ := h.own
  have e := ho.arena
  rw [hl] at e
  exact ⟨ga, c, _, rfl, by rw [arOf_length]; exact hl, e, hok, hf⟩
/-- A link is set in what was drawn. -/
theorem GrowA.link {w wr : World} {g s : Nat} {ga c : Nat} {fs : List El} {rs : List Value} {b i j : Nat} {n cc : Nat} {x : Int} (hs : s ≤ w.heap.size) (hc : CurE wr g s) (hg : w.grownBy wr (some g)) (hl : fs.length = 10) (ho : OwnA ga c fs rs w.heap.size wr.heap.size wr) (hok : arenaOk (arOf fs) = true) (hf : AllFit (arOf fs)) (hi : i < 10) (hj : j < 2)
    (hv : (elAt fs i).l = .slice (some ⟨b, 0, none⟩) n cc) (hk : (obAt (arOf fs) i).kind ≠ 0) (hx : -1 ≤ x ∧ x ≤ 9) (ht : toThing (arOf fs) x = true) : GrowA w g s (.slice (some ⟨ga, 0, none⟩) 10 c) (wr.setCell ⟨b, j, none⟩ (.int .i64 x)) := by
  have hif : i < fs.length := by omega
  have hoo := ho.own i hif
  have hne := ho.ne i hif
  have hob : (elAt fs i).o = obAt (arOf fs) i := (arOf_at fs i).symm
  have hls2 : (elAt fs i).o.ls.length = 2 := by rw [hob]; exact obOk_two (obOk_at (arenaOk_parts hok).2.1 (by rw [arOf_length]; omega)) hk
  have hls := hoo.ls
  rw [hv] at hls
  have hset := hls.setAt (k := j) (by omega) x
  have hb2 : Go.Proofs.Ytgijpflojffckaa.blk (.slice (some ⟨b, 0, none⟩) n cc) = [b] := blk_one _ (by obtain ⟨_, _, e, hcc, _⟩ := hls; have := (Value.slice.inj e).2.2; have := (Value.slice.inj e).2.1; omega)
  have hbl := hls.blk (g := b) (by rw [hb2]; simp)
  have ap := apart_ld hoo
  rw [hv, hb2] at ap
  have hbg : b ≠ ga := fun e => hne (by unfold blks; rw [hv, hb2]; simp [e])
  have ht2 := hset.2
  rw [hb2] at ht2
  refine ⟨⟨ga, c, fs.set i ⟨{ (elAt fs i).o with ls := (elAt fs i).o.ls.set j x }, (elAt fs i).l, (elAt fs i).d, (elAt fs i).m⟩, rs, rfl, by rw [List.length_set]; exact hl, ?_, ?_, ?_⟩, hc.set _ _ _ (by omega), grownBy_new8 hg hbl.1 _ _⟩
  · refine (ho.mark hif (o' := { (elAt fs i).o with ls := (elAt fs i).o.ls.set j x }) ?_ ⟨by rw [hv]; exact hset.1, hoo.ds.keepIf fun b' y hb' hy => ht2.block _ _ (by have := ap.1 b' hb'; simpa using this) hy, hoo.qs.keepIf fun b' y hb' hy => ht2.block _ _ (by have := (ap.2 b' hb').1; simpa using this) hy, hoo.nd⟩ (fun b' y hbg' hbm hy => ht2.block _ _ (by unfold blks at hbm; rw [hv, hb2] at hbm; simp at hbm; simpa using hbm.1) hy)).fit
    rw [setCell_keep ho.at' (fun e => hbg e.symm)]
    obtain ⟨A, B, hA, h1, h2⟩ := ecells_block hif
    rw [h1, h2]
    rfl
  · have e := link_ok hok hi j x hk hx ht
    rw [arOf_set]
    unfold linkL at e
    rw [← hob] at e
    exact e
  · have e := link_fit hf i j x
    rw [arOf_set]
    unfold linkL at e
    rw [← hob] at e
    exact e
def ArenaDrawn (w : World) (g s : Nat) (e : Ending) (w' : World) : Prop := ∃ v, e = .returned v ∧ GrowA w g s v w'
theorem freeOf_len8 (os : List Ob) (i : Int) : (freeOf os i).length = os.length := by unfold freeOf; split <;> simp
theorem putOf_len8 (os : List Ob) (o : Ob) : (putOf os o).length = os.length := by unfold putOf; split; exact putL_length _ _ _; rfl
theorem new_right : arenaOk newA = true ∧ AllFit newA := ⟨by decide, fun i => by
  unfold Fits obAt newA
  cases i with
  | zero => simp [rootOb]
  | succ i =>
    rw [List.getD_cons_succ, List.getD_eq_getElem?_getD, List.getElem?_replicate]
    split <;> simp [noOb]⟩
/-- What the region leaves that sets a link of the arena. -/
def gLnk2 (b : Nat) (vs : List Value) (i : Nat) (u : Value) (w : World) : Prop := match i with
  | 6 => ∃ v : Nat, v < 2 ∧ u = .int .i64 v
  | 8 => ∃ v : Nat, v < 2 ∧ u = .pointer (some ⟨b, v, none⟩)
  | i => u = vs.getD i undef
theorem gLnk2_any {b : Nat} {vs : List Value} {w w' : World} (i : Nat) (u : Value) (h : gLnk2 b vs i u w) : gLnk2 b vs i u w' := by
  unfold gLnk2 at h ⊢
  split
  · exact h
  · exact h
  · rename_i a1 a2
    split at h
    · exact absurd rfl a1
    · exact absurd rfl a2
    · exact h
set_option maxRecDepth 100000 in
set_option maxHeartbeats 16000000 in
theorem l8Arena_any (w : World) (g s : Nat) (h : CurE w g s) (hs : s ≤ w.heap.size) :
    Calls Try.prog 44 #[.pointer (some ⟨g, 0, none⟩)] w fun e w' => ArenaDrawn w g s e w' := by
  have C0 := specNew_any w
  unfold ArenaAns at C0
  rw [show newA.length = 10 from rfl] at C0
  have Hs : Hid (s ≤ w.heap.size) := hs
  have HCU := hid_of h
  have HGL : Hid (g < w.heap.size) := Nat.lt_of_lt_of_le h.lt hs
  clear h hs
  go_enter Try.func44, Try.ntmps44
  go_wp2_with fail
  refine C0.mono ?_
  rintro e w1 ⟨ga, ca, fa, ra, rfl, hea, hoa, hb⟩
  have HG1 : Hid (GrowA w g s (.slice (some ⟨ga, 0, none⟩) 10 ca) w1) := ⟨⟨ga, ca, fa, ra, rfl, by rw [← arOf_length, hea]; rfl, hoa, by rw [hea]; exact new_right.1, by rw [hea]; exact new_right.2⟩, HCU.out.below (hb.mono Hs.out), grown8_then (World.grownBy.refl _ _) hb (Nat.le_refl _)⟩
  clear C0 hea hoa hb HCU
  go_wp2_with fail
  refine (belowE w1 g s 14 HG1.out.cur (by omega) (by omega)).mono ?_
  rintro e w2 ⟨n, rfl, hn, hc, hgr⟩
  have HG2 := hid_of (HG1.out.by' Hs.out hc hgr)
  clear hc hgr HG1
  go_wp2
  go_loopw [3, 4] (fun t n wr => ∃ k : Nat, k ≤ 14 ∧ n = .int .i64 k ∧ Hid (GrowA w g s t wr)) (fun _ n _ => (intOf n).toNat)
  case atStart => exact ⟨n, by omega, rfl, HG2⟩
  case round =>
    obtain ⟨k, hk, rfl, hg⟩ := hrel
    clear HG2
    by_cases hlt : 0 < k
    · go_wp2_with fail
      refine (onceE wr g s 5 hg.out.cur (by omega) (by omega)).mono ?_
      rintro e w3 ⟨bb, rfl, hc, hgr⟩
      have HG3 := hid_of (hg.out.by' Hs.out hc hgr)
      clear hc hgr hg
      cases bb with
      | true =>
        go_wp2_with fail
        refine (belowE w3 g s 10 HG3.out.cur (by omega) (by omega)).mono ?_
        rintro e w4 ⟨q, rfl, hq, hc, hgr⟩
        have HG4 := hid_of (HG3.out.by' Hs.out hc hgr)
        clear hc hgr HG3
        obtain ⟨gb, c, os, rfl, hl, hx, hok, hf⟩ := HG4.out.arena
        have C := specFree_any _ os (q : Int) w4 hx (by omega) (ok_small hok) hf
        unfold FreeAns at C
        rw [freeOf_len8, hl] at C
        have HR : Hid (arenaOk (freeOf os q) = true ∧ AllFit (freeOf os q) ∧ (freeOf os (q : Int)).length = 10) := ⟨free_ok hok _, free_fit hf _, by rw [freeOf_len8]; exact hl⟩
        clear hl hx hok hf
        go_wp2_with fail
        refine C.mono ?_
        rintro e w5 ⟨g5, c5, f5, r5, rfl, he5, ho5, hb5⟩
        have HG5 := hid_of (HG4.out.next Hs.out (by rw [← arOf_length, he5]; exact HR.out.2.2) ho5 (by rw [he5]; exact HR.out.1) (by rw [he5]; exact HR.out.2.1) hb5)
        clear C he5 ho5 hb5 HG4 HR
        go_wp2
        go_roundw
        case rel => exact ⟨k - 1, by omega, by go_num, HG5⟩
        case measure => simp [intOf]; omega
      | false =>
        obtain ⟨gb, c, os, rfl, hl, hx, hok, hf⟩ := HG3.out.arena
        have C := l8New_any w3 g s ⟨gb, 0, none⟩ c os HG3.out.cur (Nat.le_trans Hs.out HG3.out.grown.size) hx hl
        clear hl hx hok hf
        go_wp2_with fail
        refine C.mono ?_
        rintro e w4 ⟨o, l', d', m', rfl, hown, hon, hfit, hc, hgr⟩
        have HG4 := hid_of (HG3.out.by' Hs.out hc hgr)
        obtain ⟨gb', c', os', hv', hl, hx, hok, hf⟩ := HG4.out.arena
        obtain ⟨rfl, rfl⟩ : gb = gb' ∧ c = c' := by simpa using hv'
        have C2 := specPut_any _ os' o l' d' m' w4 hx hown.lists (by omega) (ok_small hok) (by omega) hf hfit
        unfold PutAns at C2
        rw [putOf_len8, hl] at C2
        have HR : Hid (arenaOk (putOf os' o) = true ∧ AllFit (putOf os' o) ∧ (putOf os' o).length = 10) := ⟨put_ok hok _, put_fit hf hfit, by rw [putOf_len8]; exact hl⟩
        clear C hown hon hfit hc hgr hl hx hok hf hv' HG3
        go_wp2_with fail
        refine C2.mono ?_
        rintro e w5 ⟨g5, c5, f5, r5, rfl, he5, ho5, hb5⟩
        have HG5 := hid_of (HG4.out.next Hs.out (by rw [← arOf_length, he5]; exact HR.out.2.2) ho5 (by rw [he5]; exact HR.out.1) (by rw [he5]; exact HR.out.2.1) hb5)
        clear C2 he5 ho5 hb5 HG4 HR
        go_wp2
        go_roundw
        case rel => exact ⟨k - 1, by omega, by go_num, HG5⟩
        case measure => simp [intOf]; omega
    · have hd : decide ((0 : Int) < (k : Int)) = false := decide_eq_false (by omega)
      have hd2 : decide (0 < k) = false := decide_eq_false (by omega)
      obtain ⟨W0, hW0⟩ : ∃ W0, W0 = wr := ⟨_, rfl⟩
      subst hW0
      obtain ⟨ga, c, os0, rfl, -, -, -, -⟩ := hg.out.arena
      have hcap : 10 ≤ c := by obtain ⟨gx, cx, fs, rs, hv, hl, ho, _⟩ := hg.out.own; have e := (Value.slice.inj hv).2.2; have := ho.cap; omega
      go_wp2
      try simp only [hd]
      try simp only [hd2]
      clear hd hd2
      go_loopw [9] (fun i wr => ∃ k : Nat, k ≤ 10 ∧ i = .int .i64 k ∧ Hid (GrowA w g s (.slice (some ⟨ga, 0, none⟩) 10 c) wr)) (fun i _ => 10 - (intOf i).toNat)
      case atStart => exact ⟨0, by omega, rfl, hg⟩
      case round =>
        obtain ⟨k, hk, rfl, hin⟩ := hrel
        clear hg
        by_cases hlt : k < 10
        · obtain ⟨gx, cx, fs, rs, hv, hl, ho, hok, hf⟩ := hin.out.own
          obtain ⟨rfl, rfl⟩ : ga = gx ∧ c = cx := by simpa using hv
          have hkf : k < fs.length := by omega
          have c1 := (ho.cells hkf).c1
          have HK10 : Hid ((k : Int) < 10) := by show (k : Int) < 10; omega
          by_cases hkz : (elAt fs k).o.kind = 0
          · rw [hkz] at c1
            clear hv hl ho hok hf hkf hkz
            go_wp2
            go_roundw
            case rel => exact ⟨k + 1, by omega, by go_num, hin⟩
            case measure => simp [intOf]; omega
          · have HKZ := hid_of hkz
            have qk : ((elAt fs k).o.kind != 0) = true := by simp [bne, beq_eq_false_iff_ne.2 hkz]
            have HH : Hid (fs.length = 10 ∧ OwnA ga c fs rs w.heap.size wr.heap.size wr ∧ arenaOk (arOf fs) = true ∧ AllFit (arOf fs)) := ⟨hl, ho, hok, hf⟩
            clear hv hl ho hok hf hkf hkz
            go_wp2_with fail
            refine (onceE wr g s 4 hin.out.cur (by omega) (by omega)).mono ?_
            rintro e w6 ⟨bb, rfl, hc, hgr⟩
            have HG6 := hid_of (hin.out.by' Hs.out hc hgr)
            have HO6 := hid_of (HH.out.2.1.byg hgr HGL.out).fit
            clear hc hgr hin c1 qk
            cases bb with
            | false =>
              go_wp2
              go_roundw
              case rel => exact ⟨k + 1, by omega, by go_num, HG6⟩
              case measure => simp [intOf]; omega
            | true =>
              go_wp2_with fail
              refine (belowE w6 g s 10 HG6.out.cur (by omega) (by omega)).mono ?_
              rintro e w7 ⟨q, rfl, hq, hc, hgr⟩
              have HG7 := hid_of (HG6.out.by' Hs.out hc hgr)
              have HO7 := hid_of (HO6.out.byg hgr HGL.out).fit
              clear hc hgr HG6 HO6
              have hqf : q < fs.length := by rw [HH.out.1]; exact hq
              have c1 := (HO7.out.cells hqf).c1
              by_cases hqz : (elAt fs q).o.kind = 0
              · rw [hqz] at c1
                clear hqf hqz
                go_wp2
                go_roundw
                case rel => exact ⟨k + 1, by omega, by go_num, HG7⟩
                case measure => simp [intOf]; omega
              · have qk : ((elAt fs q).o.kind != 0) = true := by simp [bne, beq_eq_false_iff_ne.2 hqz]
                obtain ⟨W8, hW8⟩ : ∃ W8, W8 = w7 := ⟨_, rfl⟩
                subst hW8
                have HCW := hid_of HG7.out.cur
                have HGR := hid_of HG7.out.grown
                have HOW : Hid (OwnA ga c fs rs w.heap.size W8.heap.size W8) := HO7.out
                have hkf : k < fs.length := by rw [HH.out.1]; exact hlt
                have hob : (elAt fs k).o = obAt (arOf fs) k := (arOf_at fs k).symm
                have HKK : Hid ((obAt (arOf fs) k).kind ≠ 0) := by show _ ≠ _; rw [← hob]; exact HKZ.out
                have hls2 : (elAt fs k).o.ls.length = 2 := by rw [hob]; exact obOk_two (obOk_at (arenaOk_parts HH.out.2.2.1).2.1 (by rw [arOf_length]; exact hkf)) HKK.out
                obtain ⟨av, cb, hlv, hcc, hxx⟩ := (HO7.out.own k hkf).ls
                obtain ⟨b, rws, rfl, hb1, hb2, hrow⟩ := hxx (by omega)
                rw [hls2] at hlv
                have HLV := hid_of hlv
                have HCELL : Hid (∀ wz, OwnA ga c fs rs w.heap.size W8.heap.size wz → ∀ v, v < 2 → ∃ x, wz.cell? ⟨b, v, none⟩ = some (.int .i64 x) ∧ wz.frozen? ⟨b, v, none⟩ = false) := fun wz hz v hv => by
                  have e := (hz.own k hkf).ls
                  rw [HLV.out] at e
                  obtain ⟨_, _, ev, _, ex⟩ := e
                  obtain ⟨b', r', ea, _, _, er, _⟩ := ex (by omega)
                  have e1 : some (⟨b, 0, none⟩ : Addr) = some ⟨b', 0, none⟩ := by rw [(Value.slice.inj ev).1, ea]
                  have e2 : b = b' := by simpa using e1
                  subst e2
                  exact ⟨_, er.cell v (by omega), er.free v⟩
                have HKF := hid_of hkf
                have HK9 : Hid (k < 10) := hlt
                have HFL := hid_of HH.out.1
                have HOK := hid_of HH.out.2.2.1
                have HFI := hid_of HH.out.2.2.2
                have HQB : Hid (-1 ≤ (q : Int) ∧ (q : Int) ≤ 9) := by show _ ∧ _; omega
                have HTT : Hid (toThing (arOf fs) (q : Int) = true) := thing_yes (.inr (by rw [Int.toNat_natCast, arOf_at]; exact hqz))
                have HQ : Hid ((⟨ga, 0, none⟩ : Addr).add (k * 13) = ⟨ga, k * 13, none⟩) := add_head ga (k * 13)
                clear hqf hqz hkf hob hls2 hlv hcc hxx hb1 hb2 hrow HG7 HO7 HH HKZ
                go_wp2_with fail
                refine wp_region_whole (by kernel_rfl) (by kernel_rfl) (by kernel_rfl) (by kernel_rfl) (LastS 9 (Flat (fun wz => CurE wz g s ∧ w.grownBy wz (some g) ∧ OwnA ga c fs rs w.heap.size W8.heap.size wz) (gLnk2 b [.slice (some ⟨ga, 0, none⟩) 10 c, .int .i64 k, .pointer (some ⟨ga, k * 13, none⟩), .pointer (some ⟨ga, k * 13 + 10, none⟩), .slice (some ⟨b, 0, none⟩) 2 cb, .pointer (some ⟨g, 0, none⟩), undef, .int .i64 q, undef, undef])) (fun _ wz => GrowA w g s (.slice (some ⟨ga, 0, none⟩) 10 c) wz)) (fun us => lastS_start (flat_start ⟨HCW.out.drew, grownBy_drewN HGR.out 1, HOW.out.on (below_draw _)⟩ us)) ?_ ?_
                · refine ⟨?_, ?_, ?_, ?_, ?_, ?_, ?_, ?_, ?_, ?_, trivial⟩
                  · intro b0 us wz L hslot hoth hLi hRR hcl hdo K hK
                    have hsf9 : L 9 = false := by
                      cases h : L 9 with
                      | false => rfl
                      | true => first | (rw [done_at (hcl 9 _ rfl h) 0 (by rfl)] at hLi; cases hLi) | (rw [done_at (hcl 8 _ rfl (done_at (hcl 9 _ rfl h) 8 (by rfl))) 0 (by rfl)] at hLi; cases hLi) | (rw [done_at (hcl 7 _ rfl (done_at (hcl 9 _ rfl h) 7 (by rfl))) 0 (by rfl)] at hLi; cases hLi) | (rw [done_at (hcl 4 _ rfl (done_at (hcl 8 _ rfl (done_at (hcl 9 _ rfl h) 8 (by rfl))) 4 (by rfl))) 0 (by rfl)] at hLi; cases hLi) | (rw [done_at (hcl 6 _ rfl (done_at (hcl 8 _ rfl (done_at (hcl 9 _ rfl h) 8 (by rfl))) 6 (by rfl))) 0 (by rfl)] at hLi; cases hLi) | (rw [done_at (hcl 3 _ rfl (done_at (hcl 4 _ rfl (done_at (hcl 8 _ rfl (done_at (hcl 9 _ rfl h) 8 (by rfl))) 4 (by rfl))) 3 (by rfl))) 0 (by rfl)] at hLi; cases hLi) | (rw [done_at (hcl 2 _ rfl (done_at (hcl 3 _ rfl (done_at (hcl 4 _ rfl (done_at (hcl 8 _ rfl (done_at (hcl 9 _ rfl h) 8 (by rfl))) 4 (by rfl))) 3 (by rfl))) 2 (by rfl))) 0 (by rfl)] at hLi; cases hLi)
                    have hR := lastS_open hRR hsf9
                    have s3 : b0.tmps.getD 3 undef = .slice (some ⟨ga, 0, none⟩) 10 c := hoth 3 (by rfl)
                    clear hslot hoth hdo hcl hLi
                    refine guard_none (by rfl) ?_
                    go_simp
                    exact hK _ _ (lastS_step (by decide) hsf9 (flat_mark (hR.1) (fun _ _ h => h) hR.2 rfl))
                  · intro b0 us wz L hslot hoth hLi hRR hcl hdo K hK
                    have hsf9 : L 9 = false := by
                      cases h : L 9 with
                      | false => rfl
                      | true => first | (rw [done_at (hcl 9 _ rfl h) 1 (by rfl)] at hLi; cases hLi) | (rw [done_at (hcl 8 _ rfl (done_at (hcl 9 _ rfl h) 8 (by rfl))) 1 (by rfl)] at hLi; cases hLi) | (rw [done_at (hcl 7 _ rfl (done_at (hcl 9 _ rfl h) 7 (by rfl))) 1 (by rfl)] at hLi; cases hLi) | (rw [done_at (hcl 4 _ rfl (done_at (hcl 8 _ rfl (done_at (hcl 9 _ rfl h) 8 (by rfl))) 4 (by rfl))) 1 (by rfl)] at hLi; cases hLi) | (rw [done_at (hcl 6 _ rfl (done_at (hcl 8 _ rfl (done_at (hcl 9 _ rfl h) 8 (by rfl))) 6 (by rfl))) 1 (by rfl)] at hLi; cases hLi) | (rw [done_at (hcl 3 _ rfl (done_at (hcl 4 _ rfl (done_at (hcl 8 _ rfl (done_at (hcl 9 _ rfl h) 8 (by rfl))) 4 (by rfl))) 3 (by rfl))) 1 (by rfl)] at hLi; cases hLi) | (rw [done_at (hcl 2 _ rfl (done_at (hcl 3 _ rfl (done_at (hcl 4 _ rfl (done_at (hcl 8 _ rfl (done_at (hcl 9 _ rfl h) 8 (by rfl))) 4 (by rfl))) 3 (by rfl))) 2 (by rfl))) 1 (by rfl)] at hLi; cases hLi)
                    have hR := lastS_open hRR hsf9
                    have s9 : b0.tmps.getD 9 undef = .int .i64 k := hoth 9 (by rfl)
                    clear hslot hoth hdo hcl hLi
                    refine guard_none (by rfl) ?_
                    go_simp
                    exact hK _ _ (lastS_step (by decide) hsf9 (flat_mark (hR.1) (fun _ _ h => h) hR.2 rfl))
                  · intro b0 us wz L hslot hoth hLi hRR hcl hdo K hK
                    have hsf9 : L 9 = false := by
                      cases h : L 9 with
                      | false => rfl
                      | true => first | (rw [done_at (hcl 9 _ rfl h) 2 (by rfl)] at hLi; cases hLi) | (rw [done_at (hcl 8 _ rfl (done_at (hcl 9 _ rfl h) 8 (by rfl))) 2 (by rfl)] at hLi; cases hLi) | (rw [done_at (hcl 7 _ rfl (done_at (hcl 9 _ rfl h) 7 (by rfl))) 2 (by rfl)] at hLi; cases hLi) | (rw [done_at (hcl 4 _ rfl (done_at (hcl 8 _ rfl (done_at (hcl 9 _ rfl h) 8 (by rfl))) 4 (by rfl))) 2 (by rfl)] at hLi; cases hLi) | (rw [done_at (hcl 6 _ rfl (done_at (hcl 8 _ rfl (done_at (hcl 9 _ rfl h) 8 (by rfl))) 6 (by rfl))) 2 (by rfl)] at hLi; cases hLi) | (rw [done_at (hcl 3 _ rfl (done_at (hcl 4 _ rfl (done_at (hcl 8 _ rfl (done_at (hcl 9 _ rfl h) 8 (by rfl))) 4 (by rfl))) 3 (by rfl))) 2 (by rfl)] at hLi; cases hLi) | (rw [done_at (hcl 2 _ rfl (done_at (hcl 3 _ rfl (done_at (hcl 4 _ rfl (done_at (hcl 8 _ rfl (done_at (hcl 9 _ rfl h) 8 (by rfl))) 4 (by rfl))) 3 (by rfl))) 2 (by rfl))) 2 (by rfl)] at hLi; cases hLi)
                    have hR := lastS_open hRR hsf9
                    have s63 : b0.tmps.getD 63 undef = .slice (some ⟨ga, 0, none⟩) 10 c := (hslot 0 63 (by rfl)).trans (hR.2 0 (done_at hdo 0 (by rfl)))
                    have s64 : b0.tmps.getD 64 undef = .int .i64 k := (hslot 1 64 (by rfl)).trans (hR.2 1 (done_at hdo 1 (by rfl)))
                    have hq := HQ.out
                    have hk10 := HK10.out
                    clear hslot hoth hdo hcl hLi
                    refine guard_none (by rfl) ?_
                    go_simp
                    exact hK _ _ (lastS_step (by decide) hsf9 (flat_mark (hR.1) (fun _ _ h => h) hR.2 rfl))
                  · intro b0 us wz L hslot hoth hLi hRR hcl hdo K hK
                    have hsf9 : L 9 = false := by
                      cases h : L 9 with
                      | false => rfl
                      | true => first | (rw [done_at (hcl 9 _ rfl h) 3 (by rfl)] at hLi; cases hLi) | (rw [done_at (hcl 8 _ rfl (done_at (hcl 9 _ rfl h) 8 (by rfl))) 3 (by rfl)] at hLi; cases hLi) | (rw [done_at (hcl 7 _ rfl (done_at (hcl 9 _ rfl h) 7 (by rfl))) 3 (by rfl)] at hLi; cases hLi) | (rw [done_at (hcl 4 _ rfl (done_at (hcl 8 _ rfl (done_at (hcl 9 _ rfl h) 8 (by rfl))) 4 (by rfl))) 3 (by rfl)] at hLi; cases hLi) | (rw [done_at (hcl 6 _ rfl (done_at (hcl 8 _ rfl (done_at (hcl 9 _ rfl h) 8 (by rfl))) 6 (by rfl))) 3 (by rfl)] at hLi; cases hLi) | (rw [done_at (hcl 3 _ rfl (done_at (hcl 4 _ rfl (done_at (hcl 8 _ rfl (done_at (hcl 9 _ rfl h) 8 (by rfl))) 4 (by rfl))) 3 (by rfl))) 3 (by rfl)] at hLi; cases hLi) | (rw [done_at (hcl 2 _ rfl (done_at (hcl 3 _ rfl (done_at (hcl 4 _ rfl (done_at (hcl 8 _ rfl (done_at (hcl 9 _ rfl h) 8 (by rfl))) 4 (by rfl))) 3 (by rfl))) 2 (by rfl))) 3 (by rfl)] at hLi; cases hLi)
                    have hR := lastS_open hRR hsf9
                    have s65 : b0.tmps.getD 65 undef = .pointer (some ⟨ga, k * 13, none⟩) := (hslot 2 65 (by rfl)).trans (hR.2 2 (done_at hdo 2 (by rfl)))
                    clear hslot hoth hdo hcl hLi
                    refine guard_none (by rfl) ?_
                    go_simp
                    exact hK _ _ (lastS_step (by decide) hsf9 (flat_mark (hR.1) (fun _ _ h => h) hR.2 rfl))
                  · intro b0 us wz L hslot hoth hLi hRR hcl hdo K hK
                    have hsf9 : L 9 = false := by
                      cases h : L 9 with
                      | false => rfl
                      | true => first | (rw [done_at (hcl 9 _ rfl h) 4 (by rfl)] at hLi; cases hLi) | (rw [done_at (hcl 8 _ rfl (done_at (hcl 9 _ rfl h) 8 (by rfl))) 4 (by rfl)] at hLi; cases hLi) | (rw [done_at (hcl 7 _ rfl (done_at (hcl 9 _ rfl h) 7 (by rfl))) 4 (by rfl)] at hLi; cases hLi) | (rw [done_at (hcl 4 _ rfl (done_at (hcl 8 _ rfl (done_at (hcl 9 _ rfl h) 8 (by rfl))) 4 (by rfl))) 4 (by rfl)] at hLi; cases hLi) | (rw [done_at (hcl 6 _ rfl (done_at (hcl 8 _ rfl (done_at (hcl 9 _ rfl h) 8 (by rfl))) 6 (by rfl))) 4 (by rfl)] at hLi; cases hLi) | (rw [done_at (hcl 3 _ rfl (done_at (hcl 4 _ rfl (done_at (hcl 8 _ rfl (done_at (hcl 9 _ rfl h) 8 (by rfl))) 4 (by rfl))) 3 (by rfl))) 4 (by rfl)] at hLi; cases hLi) | (rw [done_at (hcl 2 _ rfl (done_at (hcl 3 _ rfl (done_at (hcl 4 _ rfl (done_at (hcl 8 _ rfl (done_at (hcl 9 _ rfl h) 8 (by rfl))) 4 (by rfl))) 3 (by rfl))) 2 (by rfl))) 4 (by rfl)] at hLi; cases hLi)
                    have hR := lastS_open hRR hsf9
                    have s66 : b0.tmps.getD 66 undef = .pointer (some ⟨ga, k * 13 + 10, none⟩) := (hslot 3 66 (by rfl)).trans (hR.2 3 (done_at hdo 3 (by rfl)))
                    have k10 := (hR.1.2.2.cells HKF.out).c10
                    rw [HLV.out] at k10
                    clear hslot hoth hdo hcl hLi
                    refine guard_none (by rfl) ?_
                    go_simp
                    exact hK _ _ (lastS_step (by decide) hsf9 (flat_mark (hR.1) (fun _ _ h => h) hR.2 rfl))
                  · intro b0 us wz L hslot hoth hLi hRR hcl hdo K hK
                    have hsf9 : L 9 = false := by
                      cases h : L 9 with
                      | false => rfl
                      | true => first | (rw [done_at (hcl 9 _ rfl h) 5 (by rfl)] at hLi; cases hLi) | (rw [done_at (hcl 8 _ rfl (done_at (hcl 9 _ rfl h) 8 (by rfl))) 5 (by rfl)] at hLi; cases hLi) | (rw [done_at (hcl 7 _ rfl (done_at (hcl 9 _ rfl h) 7 (by rfl))) 5 (by rfl)] at hLi; cases hLi) | (rw [done_at (hcl 4 _ rfl (done_at (hcl 8 _ rfl (done_at (hcl 9 _ rfl h) 8 (by rfl))) 4 (by rfl))) 5 (by rfl)] at hLi; cases hLi) | (rw [done_at (hcl 6 _ rfl (done_at (hcl 8 _ rfl (done_at (hcl 9 _ rfl h) 8 (by rfl))) 6 (by rfl))) 5 (by rfl)] at hLi; cases hLi) | (rw [done_at (hcl 3 _ rfl (done_at (hcl 4 _ rfl (done_at (hcl 8 _ rfl (done_at (hcl 9 _ rfl h) 8 (by rfl))) 4 (by rfl))) 3 (by rfl))) 5 (by rfl)] at hLi; cases hLi) | (rw [done_at (hcl 2 _ rfl (done_at (hcl 3 _ rfl (done_at (hcl 4 _ rfl (done_at (hcl 8 _ rfl (done_at (hcl 9 _ rfl h) 8 (by rfl))) 4 (by rfl))) 3 (by rfl))) 2 (by rfl))) 5 (by rfl)] at hLi; cases hLi)
                    have hR := lastS_open hRR hsf9
                    have s0 : b0.tmps.getD 0 undef = .pointer (some ⟨g, 0, none⟩) := hoth 0 (by rfl)
                    clear hslot hoth hdo hcl hLi
                    refine guard_none (by rfl) ?_
                    go_simp
                    exact hK _ _ (lastS_step (by decide) hsf9 (flat_mark (hR.1) (fun _ _ h => h) hR.2 rfl))
                  · intro b0 us wz L hslot hoth hLi hRR hcl hdo K hK
                    have hsf9 : L 9 = false := by
                      cases h : L 9 with
                      | false => rfl
                      | true => first | (rw [done_at (hcl 9 _ rfl h) 6 (by rfl)] at hLi; cases hLi) | (rw [done_at (hcl 8 _ rfl (done_at (hcl 9 _ rfl h) 8 (by rfl))) 6 (by rfl)] at hLi; cases hLi) | (rw [done_at (hcl 7 _ rfl (done_at (hcl 9 _ rfl h) 7 (by rfl))) 6 (by rfl)] at hLi; cases hLi) | (rw [done_at (hcl 4 _ rfl (done_at (hcl 8 _ rfl (done_at (hcl 9 _ rfl h) 8 (by rfl))) 4 (by rfl))) 6 (by rfl)] at hLi; cases hLi) | (rw [done_at (hcl 6 _ rfl (done_at (hcl 8 _ rfl (done_at (hcl 9 _ rfl h) 8 (by rfl))) 6 (by rfl))) 6 (by rfl)] at hLi; cases hLi) | (rw [done_at (hcl 3 _ rfl (done_at (hcl 4 _ rfl (done_at (hcl 8 _ rfl (done_at (hcl 9 _ rfl h) 8 (by rfl))) 4 (by rfl))) 3 (by rfl))) 6 (by rfl)] at hLi; cases hLi) | (rw [done_at (hcl 2 _ rfl (done_at (hcl 3 _ rfl (done_at (hcl 4 _ rfl (done_at (hcl 8 _ rfl (done_at (hcl 9 _ rfl h) 8 (by rfl))) 4 (by rfl))) 3 (by rfl))) 2 (by rfl))) 6 (by rfl)] at hLi; cases hLi)
                    have hR := lastS_open hRR hsf9
                    have s68 : b0.tmps.getD 68 undef = .pointer (some ⟨g, 0, none⟩) := (hslot 5 68 (by rfl)).trans (hR.2 5 (done_at hdo 5 (by rfl)))
                    clear hslot hoth hdo hcl hLi
                    refine guard_none (by rfl) ?_
                    go_simp
                    refine (belowE wz g s 2 hR.1.1 (by omega) (by omega)).mono ?_
                    rintro e w' ⟨v, rfl, hv, hc, hg⟩
                    exact hK _ _ (lastS_step (by decide) hsf9 (flat_mark ⟨hc, grownBy_trans hR.1.2.1 hg, hR.1.2.2.byg hg HGL.out⟩ gLnk2_any hR.2 ⟨v, hv, rfl⟩))
                  · intro b0 us wz L hslot hoth hLi hRR hcl hdo K hK
                    have hsf9 : L 9 = false := by
                      cases h : L 9 with
                      | false => rfl
                      | true => first | (rw [done_at (hcl 9 _ rfl h) 7 (by rfl)] at hLi; cases hLi) | (rw [done_at (hcl 8 _ rfl (done_at (hcl 9 _ rfl h) 8 (by rfl))) 7 (by rfl)] at hLi; cases hLi) | (rw [done_at (hcl 7 _ rfl (done_at (hcl 9 _ rfl h) 7 (by rfl))) 7 (by rfl)] at hLi; cases hLi) | (rw [done_at (hcl 4 _ rfl (done_at (hcl 8 _ rfl (done_at (hcl 9 _ rfl h) 8 (by rfl))) 4 (by rfl))) 7 (by rfl)] at hLi; cases hLi) | (rw [done_at (hcl 6 _ rfl (done_at (hcl 8 _ rfl (done_at (hcl 9 _ rfl h) 8 (by rfl))) 6 (by rfl))) 7 (by rfl)] at hLi; cases hLi) | (rw [done_at (hcl 3 _ rfl (done_at (hcl 4 _ rfl (done_at (hcl 8 _ rfl (done_at (hcl 9 _ rfl h) 8 (by rfl))) 4 (by rfl))) 3 (by rfl))) 7 (by rfl)] at hLi; cases hLi) | (rw [done_at (hcl 2 _ rfl (done_at (hcl 3 _ rfl (done_at (hcl 4 _ rfl (done_at (hcl 8 _ rfl (done_at (hcl 9 _ rfl h) 8 (by rfl))) 4 (by rfl))) 3 (by rfl))) 2 (by rfl))) 7 (by rfl)] at hLi; cases hLi)
                    have hR := lastS_open hRR hsf9
                    have s10 : b0.tmps.getD 10 undef = .int .i64 q := hoth 10 (by rfl)
                    clear hslot hoth hdo hcl hLi
                    refine guard_none (by rfl) ?_
                    go_simp
                    exact hK _ _ (lastS_step (by decide) hsf9 (flat_mark (hR.1) (fun _ _ h => h) hR.2 rfl))
                  · intro b0 us wz L hslot hoth hLi hRR hcl hdo K hK
                    have hsf9 : L 9 = false := by
                      cases h : L 9 with
                      | false => rfl
                      | true => first | (rw [done_at (hcl 9 _ rfl h) 8 (by rfl)] at hLi; cases hLi) | (rw [done_at (hcl 8 _ rfl (done_at (hcl 9 _ rfl h) 8 (by rfl))) 8 (by rfl)] at hLi; cases hLi) | (rw [done_at (hcl 7 _ rfl (done_at (hcl 9 _ rfl h) 7 (by rfl))) 8 (by rfl)] at hLi; cases hLi) | (rw [done_at (hcl 4 _ rfl (done_at (hcl 8 _ rfl (done_at (hcl 9 _ rfl h) 8 (by rfl))) 4 (by rfl))) 8 (by rfl)] at hLi; cases hLi) | (rw [done_at (hcl 6 _ rfl (done_at (hcl 8 _ rfl (done_at (hcl 9 _ rfl h) 8 (by rfl))) 6 (by rfl))) 8 (by rfl)] at hLi; cases hLi) | (rw [done_at (hcl 3 _ rfl (done_at (hcl 4 _ rfl (done_at (hcl 8 _ rfl (done_at (hcl 9 _ rfl h) 8 (by rfl))) 4 (by rfl))) 3 (by rfl))) 8 (by rfl)] at hLi; cases hLi) | (rw [done_at (hcl 2 _ rfl (done_at (hcl 3 _ rfl (done_at (hcl 4 _ rfl (done_at (hcl 8 _ rfl (done_at (hcl 9 _ rfl h) 8 (by rfl))) 4 (by rfl))) 3 (by rfl))) 2 (by rfl))) 8 (by rfl)] at hLi; cases hLi)
                    have hR := lastS_open hRR hsf9
                    have s67 : b0.tmps.getD 67 undef = .slice (some ⟨b, 0, none⟩) 2 cb := (hslot 4 67 (by rfl)).trans (hR.2 4 (done_at hdo 4 (by rfl)))
                    obtain ⟨v, hv2, hv⟩ := hR.2 6 (done_at hdo 6 (by rfl))
                    have s69 : b0.tmps.getD 69 undef = .int .i64 v := (hslot 6 69 (by rfl)).trans hv
                    have hv2i : (v : Int) < 2 := by omega
                    clear hslot hoth hdo hcl hLi
                    refine guard_none (by rfl) ?_
                    go_simp
                    exact hK _ _ (lastS_step (by decide) hsf9 (flat_mark hR.1 (fun _ _ h => h) hR.2 ⟨v, hv2, rfl⟩))
                  · intro b0 us wz L hslot hoth hLi hRR hcl hdo K hK
                    have hR := lastS_open hRR hLi
                    obtain ⟨v, hv2, hv⟩ := hR.2 8 (done_at hdo 8 (by rfl))
                    have s71 : b0.tmps.getD 71 undef = .pointer (some ⟨b, v, none⟩) := (hslot 8 71 (by rfl)).trans hv
                    have s70 : b0.tmps.getD 70 undef = .int .i64 q := (hslot 7 70 (by rfl)).trans (hR.2 7 (done_at hdo 7 (by rfl)))
                    have kr := (HCELL.out wz hR.1.2.2 v hv2)
                    clear hslot hoth hdo hcl hLi
                    refine guard_none (by rfl) ?_
                    obtain ⟨x, kx, kf⟩ := kr
                    go_simp
                    exact hK undef _ (lastS_last (GrowA.link Hs.out hR.1.1 hR.1.2.1 HFL.out hR.1.2.2.fit HOK.out HFI.out HK9.out hv2 HLV.out HKK.out HQB.out HTT.out))
                · intro us wn L hall hR a' ha'
                  have HZ := hid_of (lastS_end hR (hall 9 (by decide)))
                  clear hR hall HCW HGR HOW
                  simp only [putAll] at ha'
                  subst ha'
                  go_frame
                  go_wp2
                  go_roundw
                  case rel => exact ⟨k + 1, by omega, by go_num, HZ⟩
                  case measure => simp [intOf]; omega
        · obtain rfl : 10 = k := by omega
          go_wp2
          go_ret
          exact ⟨_, rfl, hin.out⟩
end Go.Proofs.Ytgijpflojffckaa
