/-
  The draws of chapter 7's law: a tap, a list of trees, and what DrawTapMove hands over.
-/
import Derived.Test.YtfcenombphodbaaDoorDrawT
import Derived.Test.YtfcenombphodbaaDoorCallW
namespace Go.Proofs.YtfcenombphodbaaDoor
open Go.RowKit
set_option linter.unusedVariables false
set_option maxRecDepth 100000

/-- What lies there while a tap is drawn. -/
structure TapG (w : World) (gc s gb : Nat) (r p q h k t : Int) (wr : World) : Prop where
  cur : CurE wr gc s
  grown : w.grownBy wr (some gc)
  res : Tap6 wr w.heap.size 0 0 0 0 0 0
  box : Tap6 wr gb r p q h k t
  lt : w.heap.size < gb
theorem TapG.by' {w : World} {gc s gb : Nat} {r p q h k t : Int} {wr w' : World} (x : TapG w gc s gb r p q h k t wr) (hs : s ≤ w.heap.size) (hc : CurE w' gc s) (hg : wr.grownBy w' (some gc)) : TapG w gc s gb r p q h k t w' := by
  have h1 := hc.lt
  have h2 := x.lt
  exact ⟨hc, grownBy_trans x.grown hg, ⟨grown_kept hg x.res.at' (fun e => by have := Option.some.inj e; omega)⟩, ⟨grown_kept hg x.box.at' (fun e => by have := Option.some.inj e; omega)⟩, x.lt⟩
theorem TapG.alloc {w : World} {gc s gb : Nat} {r p q h k t : Int} {wr : World} (x : TapG w gc s gb r p q h k t wr) (hs : s ≤ w.heap.size) (o : Obj) : TapG w gc s gb r p q h k t (wr.alloc o) :=
  ⟨x.cur.alloc o (Nat.le_trans hs x.grown.size), grownT_then x.grown (below_alloc wr o) x.grown.size, x.res.on (below_alloc wr o), x.box.on (below_alloc wr o), x.lt⟩
theorem TapG.put {w : World} {gc s gb : Nat} {r p q h k t r' p' q' h' k' t' : Int} {wr : World} (x : TapG w gc s gb r p q h k t wr) (hs : s ≤ w.heap.size) (i : Nat) (v : Value) (hb : Tap6 (wr.setCell ⟨gb, i, none⟩ v) gb r' p' q' h' k' t') : TapG w gc s gb r' p' q' h' k' t' (wr.setCell ⟨gb, i, none⟩ v) := by
  have h2 := x.lt
  exact ⟨x.cur.set gb i v (by omega), grownBy_newT x.grown (by omega) i v, ⟨setCell_keep x.res.at' (by omega)⟩, hb, x.lt⟩
theorem TapG.put1 {w : World} {gc s gb : Nat} {r p q h k t : Int} {wr : World} (x : TapG w gc s gb r p q h k t wr) (hs : s ≤ w.heap.size) (v : Int) : TapG w gc s gb r v q h k t (wr.setCell ⟨gb, 1, none⟩ (.int .i64 v)) := x.put hs 1 _ ⟨heap_setCell_same wr gb 1 _ 26 (.int .i64 v) x.box.at'⟩
theorem TapG.put3 {w : World} {gc s gb : Nat} {r p q h k t : Int} {wr : World} (x : TapG w gc s gb r p q h k t wr) (hs : s ≤ w.heap.size) (v : Int) : TapG w gc s gb r p q v k t (wr.setCell ⟨gb, 3, none⟩ (.int .i64 v)) := x.put hs 3 _ ⟨heap_setCell_same wr gb 3 _ 26 (.int .i64 v) x.box.at'⟩
theorem TapG.put4 {w : World} {gc s gb : Nat} {r p q h k t : Int} {wr : World} (x : TapG w gc s gb r p q h k t wr) (hs : s ≤ w.heap.size) (v : Int) : TapG w gc s gb r p q h v t (wr.setCell ⟨gb, 4, none⟩ (.int .i64 v)) := x.put hs 4 _ ⟨heap_setCell_same wr gb 4 _ 26 (.int .i64 v) x.box.at'⟩
theorem TapG.put5 {w : World} {gc s gb : Nat} {r p q h k t : Int} {wr : World} (x : TapG w gc s gb r p q h k t wr) (hs : s ≤ w.heap.size) (v : Int) : TapG w gc s gb r p q h k v (wr.setCell ⟨gb, 5, none⟩ (.int .i64 v)) := x.put hs 5 _ ⟨heap_setCell_same wr gb 5 _ 26 (.int .i64 v) x.box.at'⟩
theorem Tap6.free {w : World} {g : Nat} {r p q h k t : Int} (x : Tap6 w g r p q h k t) (i : Nat) : w.frozen? ⟨g, i, none⟩ = false := by simp [World.frozen?, x.at']
/-- The answer is laid down. -/
def w6 (w : World) (g : Nat) (r p q h k t : Int) : World := (((((w.setCell ⟨g, 0, none⟩ (.int .i64 r)).setCell ⟨g, 1, none⟩ (.int .i64 p)).setCell ⟨g, 2, none⟩ (.int .i64 q)).setCell ⟨g, 3, none⟩ (.int .i64 h)).setCell ⟨g, 4, none⟩ (.int .i64 k)).setCell ⟨g, 5, none⟩ (.int .i64 t)
theorem Tap6.w6 {w : World} {g : Nat} {r0 p0 q0 h0 k0 t0 : Int} (x : Tap6 w g r0 p0 q0 h0 k0 t0) (r p q h k t : Int) : Tap6 (YtfcenombphodbaaDoor.w6 w g r p q h k t) g r p q h k t := by
  have h1 := heap_setCell_same w g 0 _ 26 (.int .i64 r) x.at'
  have h2 := heap_setCell_same _ g 1 _ 26 (.int .i64 p) h1
  have h3 := heap_setCell_same _ g 2 _ 26 (.int .i64 q) h2
  have h4 := heap_setCell_same _ g 3 _ 26 (.int .i64 h) h3
  have h5 := heap_setCell_same _ g 4 _ 26 (.int .i64 k) h4
  have h6 := heap_setCell_same _ g 5 _ 26 (.int .i64 t) h5
  exact ⟨h6⟩
/-- A tap was drawn. -/
def TapDrawn (w : World) (gc s : Nat) (e : Ending) (w' : World) : Prop := ∃ r p q h k t : Int, e = .returned (tapV r p q h k t) ∧ CurE w' gc s ∧ w.grownBy w' (some gc)
theorem TapG.drawn {w : World} {gc s gb : Nat} {r p q h k t : Int} {wr : World} (x : TapG w gc s gb r p q h k t wr) (hs : s ≤ w.heap.size) : CurE (w6 wr w.heap.size r p q h k t) gc s ∧ w.grownBy (w6 wr w.heap.size r p q h k t) (some gc) :=
  ⟨(((((x.cur.set _ _ _ hs).set _ _ _ hs).set _ _ _ hs).set _ _ _ hs).set _ _ _ hs).set _ _ _ hs, grownBy_newT (grownBy_newT (grownBy_newT (grownBy_newT (grownBy_newT (grownBy_newT x.grown (Nat.le_refl _) _ _) (Nat.le_refl _) _ _) (Nat.le_refl _) _ _) (Nat.le_refl _) _ _) (Nat.le_refl _) _ _) (Nat.le_refl _) _ _⟩
set_option maxRecDepth 100000 in
set_option maxHeartbeats 8000000 in
theorem l7Tap_any (w : World) (g s : Nat) (h : CurE w g s) (hs : s ≤ w.heap.size) :
    Calls Tryd.prog 17 #[.pointer (some ⟨g, 0, none⟩)] w fun e w' => TapDrawn w g s e w' := by
  have C1 := belowE (w.alloc (boxT 0 0 0 0 0 0)) g s 5 (h.alloc _ hs) (by decide) (by decide)
  have Hs : Hid (s ≤ w.heap.size) := hs
  have HGS : Hid (g < s) := h.lt
  have HG0 : Hid (w.grownBy (w.alloc (boxT 0 0 0 0 0 0)) (some g)) := World.grownBy_alloc w _ _
  have HR0 : Hid (Tap6 (w.alloc (boxT 0 0 0 0 0 0)) w.heap.size 0 0 0 0 0 0) := ⟨heap_alloc_new w _⟩
  clear h hs
  go_enter Tryd.func17, Tryd.ntmps17
  go_wp2_with fail
  refine C1.mono ?_
  rintro e w1 ⟨v1, rfl, -, hc, hgr⟩
  have HG1 := hid_of (grownBy_trans HG0.out hgr)
  have HR1 : Hid (Tap6 w1 w.heap.size 0 0 0 0 0 0) := ⟨grown_kept hgr HR0.out.at' (fun e => by have := Option.some.inj e; have := HGS.out; have := Hs.out; omega)⟩
  clear C1 hgr HG0 HR0
  have C2 := belowE w1 g s 3 hc (by decide) (by decide)
  clear hc
  go_wp2_with fail
  refine C2.mono ?_
  rintro e w2 ⟨v2, rfl, -, hc, hgr⟩
  have HG2 := hid_of (grownBy_trans HG1.out hgr)
  have HR2 : Hid (Tap6 w2 w.heap.size 0 0 0 0 0 0) := ⟨grown_kept hgr HR1.out.at' (fun e => by have := Option.some.inj e; have := HGS.out; have := Hs.out; omega)⟩
  clear C2 hgr HG1 HR1
  have C3 := belowE w2 g s 5 hc (by decide) (by decide)
  clear hc
  go_wp2_with fail
  refine C3.mono ?_
  rintro e w3 ⟨v3, rfl, -, hc, hgr⟩
  have HG3 := hid_of (grownBy_trans HG2.out hgr)
  have HR3 : Hid (Tap6 w3 w.heap.size 0 0 0 0 0 0) := ⟨grown_kept hgr HR2.out.at' (fun e => by have := Option.some.inj e; have := HGS.out; have := Hs.out; omega)⟩
  clear C3 hgr HG2 HR2
  have C4 := belowE w3 g s 3 hc (by decide) (by decide)
  clear hc
  go_wp2_with fail
  refine C4.mono ?_
  rintro e w4 ⟨v4, rfl, -, hc, hgr⟩
  have HG4 := hid_of (grownBy_trans HG3.out hgr)
  have HR4 : Hid (Tap6 w4 w.heap.size 0 0 0 0 0 0) := ⟨grown_kept hgr HR3.out.at' (fun e => by have := Option.some.inj e; have := HGS.out; have := Hs.out; omega)⟩
  clear C4 hgr HG3 HR3
  have C5 := belowE w4 g s 2 hc (by decide) (by decide)
  clear hc
  go_wp2_with fail
  refine C5.mono ?_
  rintro e w5 ⟨v5, rfl, hv5, hc, hgr⟩
  have HG5 := hid_of (grownBy_trans HG4.out hgr)
  have HR5 : Hid (Tap6 w5 w.heap.size 0 0 0 0 0 0) := ⟨grown_kept hgr HR4.out.at' (fun e => by have := Option.some.inj e; have := HGS.out; have := Hs.out; omega)⟩
  clear C5 hgr HG4 HR4
  have hw5 : wrap64 (1 + (v5 : Int)) = 1 + (v5 : Int) := by unfold wrap64; omega
  have hz5 : w.heap.size < w5.heap.size := lt_of_block HR5.out.at'
  have HX5 : Hid (TapG w g s w5.heap.size v1 v2 v3 v4 (1 + (v5 : Int)) 0 (w5.alloc (boxT v1 v2 v3 v4 (1 + (v5 : Int)) 0))) :=
    ⟨hc.alloc _ (Nat.le_trans Hs.out (Nat.le_of_lt hz5)), grownT_then HG5.out (below_alloc w5 _) (Nat.le_of_lt hz5), HR5.out.on (below_alloc w5 _), ⟨heap_alloc_new w5 _⟩, hz5⟩
  clear hc HG5 HR5 hz5
  have C6 := belowE _ g s 30 HX5.out.cur (by decide) (by decide)
  go_wp2_with fail
  obtain ⟨gb, hgb⟩ : ∃ x, x = w5.heap.size := ⟨_, rfl⟩
  rw [← hgb] at HX5 ⊢
  clear hgb hw5 hv5
  refine C6.mono ?_
  rintro e w6' ⟨v6, rfl, -, hc, hgr⟩
  have HX6 := hid_of (HX5.out.by' Hs.out hc hgr)
  clear C6 hc hgr HX5
  have b5 := HX6.out.box.c5
  have f5 := HX6.out.box.free 5
  have HX7 := hid_of (HX6.out.put5 Hs.out (v6 : Int))
  clear HX6
  have C7 := belowE _ g s 20 HX7.out.cur (by decide) (by decide)
  go_wp2_with fail
  refine C7.mono ?_
  rintro e w8 ⟨v7, rfl, -, hc, hgr⟩
  have HX8 := hid_of (HX7.out.by' Hs.out hc hgr)
  clear C7 hc hgr HX7 b5 f5
  by_cases h0 : v7 = 0
  · subst h0
    have HX9 := hid_of (HX8.out.alloc Hs.out (.cells #[.int .i64 (0), .int .i64 (3)] 3 (0, 0)))
    have CP := pickE _ g s w8.heap.size [0, 3] 2 rfl (by decide) (by decide) HX9.out.cur (Nat.le_trans Hs.out HX8.out.grown.size) (heap_alloc_new w8 _)
    clear HX8
    go_wp2_with fail
    refine CP.mono ?_
    rintro e wa ⟨v8, rfl, hc, hgr⟩
    have HXa := hid_of (HX9.out.by' Hs.out hc hgr)
    clear CP hc hgr HX9
    have bb := HXa.out.box.c4
    have fb := HXa.out.box.free 4
    have HXb := hid_of (HXa.out.put4 Hs.out v8)
    clear HXa
    have HX := HXb
    have b0 := HX.out.box.c0
    have b1 := HX.out.box.c1
    have b2 := HX.out.box.c2
    have b3 := HX.out.box.c3
    have b4 := HX.out.box.c4
    have b5 := HX.out.box.c5
    have r0 := HX.out.res.c0
    have r1 := HX.out.res.c1
    have r2 := HX.out.res.c2
    have r3 := HX.out.res.c3
    have r4 := HX.out.res.c4
    have r5 := HX.out.res.c5
    have f0 := HX.out.res.free 0
    have f1 := HX.out.res.free 1
    have f2 := HX.out.res.free 2
    have f3 := HX.out.res.free 3
    have f4 := HX.out.res.free 4
    have f5 := HX.out.res.free 5
    have HP := hid_of (HX.out.res.w6 ((v1 : Int)) ((v2 : Int)) ((v3 : Int)) ((v4 : Int)) (v8) ((v6 : Int)))
    have HD := hid_of (HX.out.drawn Hs.out)
    clear HX HXb
    go_wp2
    have p0 := HP.out.c0
    have p1 := HP.out.c1
    have p2 := HP.out.c2
    have p3 := HP.out.c3
    have p4 := HP.out.c4
    have p5 := HP.out.c5
    unfold w6 at p0 p1 p2 p3 p4 p5
    refine bodyPost_ret (v := tapV ((v1 : Int)) ((v2 : Int)) ((v3 : Int)) ((v4 : Int)) (v8) ((v6 : Int))) (by simp [results, go_sem, p0, p1, p2, p3, p4, p5]) rfl ⟨_, _, _, _, _, _, rfl, HD.out.1, HD.out.2⟩
  by_cases h1 : v7 = 1
  · subst h1
    have HX9 := hid_of (HX8.out.alloc Hs.out (.cells #[.int .i64 (-1), .int .i64 (100), .int .i64 (101), .int .i64 (1000), .int .i64 (1001)] 3 (0, 0)))
    have CP := pickE _ g s w8.heap.size [-1, 100, 101, 1000, 1001] 5 rfl (by decide) (by decide) HX9.out.cur (Nat.le_trans Hs.out HX8.out.grown.size) (heap_alloc_new w8 _)
    clear HX8
    go_wp2_with fail
    refine CP.mono ?_
    rintro e wa ⟨v8, rfl, hc, hgr⟩
    have HXa := hid_of (HX9.out.by' Hs.out hc hgr)
    clear CP hc hgr HX9
    have bb := HXa.out.box.c5
    have fb := HXa.out.box.free 5
    have HXb := hid_of (HXa.out.put5 Hs.out v8)
    clear HXa
    have HX := HXb
    have b0 := HX.out.box.c0
    have b1 := HX.out.box.c1
    have b2 := HX.out.box.c2
    have b3 := HX.out.box.c3
    have b4 := HX.out.box.c4
    have b5 := HX.out.box.c5
    have r0 := HX.out.res.c0
    have r1 := HX.out.res.c1
    have r2 := HX.out.res.c2
    have r3 := HX.out.res.c3
    have r4 := HX.out.res.c4
    have r5 := HX.out.res.c5
    have f0 := HX.out.res.free 0
    have f1 := HX.out.res.free 1
    have f2 := HX.out.res.free 2
    have f3 := HX.out.res.free 3
    have f4 := HX.out.res.free 4
    have f5 := HX.out.res.free 5
    have HP := hid_of (HX.out.res.w6 ((v1 : Int)) ((v2 : Int)) ((v3 : Int)) ((v4 : Int)) ((1 + (v5 : Int))) (v8))
    have HD := hid_of (HX.out.drawn Hs.out)
    clear HX HXb
    go_wp2
    have p0 := HP.out.c0
    have p1 := HP.out.c1
    have p2 := HP.out.c2
    have p3 := HP.out.c3
    have p4 := HP.out.c4
    have p5 := HP.out.c5
    unfold w6 at p0 p1 p2 p3 p4 p5
    refine bodyPost_ret (v := tapV ((v1 : Int)) ((v2 : Int)) ((v3 : Int)) ((v4 : Int)) ((1 + (v5 : Int))) (v8)) (by simp [results, go_sem, p0, p1, p2, p3, p4, p5]) rfl ⟨_, _, _, _, _, _, rfl, HD.out.1, HD.out.2⟩
  by_cases h2 : v7 = 2
  · subst h2
    have bb := HX8.out.box.c3
    have fb := HX8.out.box.free 3
    have HXb := hid_of (HX8.out.put3 Hs.out 3)
    clear HX8
    have HX := HXb
    have b0 := HX.out.box.c0
    have b1 := HX.out.box.c1
    have b2 := HX.out.box.c2
    have b3 := HX.out.box.c3
    have b4 := HX.out.box.c4
    have b5 := HX.out.box.c5
    have r0 := HX.out.res.c0
    have r1 := HX.out.res.c1
    have r2 := HX.out.res.c2
    have r3 := HX.out.res.c3
    have r4 := HX.out.res.c4
    have r5 := HX.out.res.c5
    have f0 := HX.out.res.free 0
    have f1 := HX.out.res.free 1
    have f2 := HX.out.res.free 2
    have f3 := HX.out.res.free 3
    have f4 := HX.out.res.free 4
    have f5 := HX.out.res.free 5
    have HP := hid_of (HX.out.res.w6 ((v1 : Int)) ((v2 : Int)) ((v3 : Int)) (3) ((1 + (v5 : Int))) ((v6 : Int)))
    have HD := hid_of (HX.out.drawn Hs.out)
    clear HX HXb
    go_wp2
    have p0 := HP.out.c0
    have p1 := HP.out.c1
    have p2 := HP.out.c2
    have p3 := HP.out.c3
    have p4 := HP.out.c4
    have p5 := HP.out.c5
    unfold w6 at p0 p1 p2 p3 p4 p5
    refine bodyPost_ret (v := tapV ((v1 : Int)) ((v2 : Int)) ((v3 : Int)) (3) ((1 + (v5 : Int))) ((v6 : Int))) (by simp [results, go_sem, p0, p1, p2, p3, p4, p5]) rfl ⟨_, _, _, _, _, _, rfl, HD.out.1, HD.out.2⟩
  by_cases h3 : v7 = 3
  · subst h3
    have HX9 := hid_of (HX8.out.alloc Hs.out (.cells #[.int .i64 (-1), .int .i64 (3)] 3 (0, 0)))
    have CP := pickE _ g s w8.heap.size [-1, 3] 2 rfl (by decide) (by decide) HX9.out.cur (Nat.le_trans Hs.out HX8.out.grown.size) (heap_alloc_new w8 _)
    clear HX8
    go_wp2_with fail
    refine CP.mono ?_
    rintro e wa ⟨v8, rfl, hc, hgr⟩
    have HXa := hid_of (HX9.out.by' Hs.out hc hgr)
    clear CP hc hgr HX9
    have bb := HXa.out.box.c1
    have fb := HXa.out.box.free 1
    have HXb := hid_of (HXa.out.put1 Hs.out v8)
    clear HXa
    have HX := HXb
    have b0 := HX.out.box.c0
    have b1 := HX.out.box.c1
    have b2 := HX.out.box.c2
    have b3 := HX.out.box.c3
    have b4 := HX.out.box.c4
    have b5 := HX.out.box.c5
    have r0 := HX.out.res.c0
    have r1 := HX.out.res.c1
    have r2 := HX.out.res.c2
    have r3 := HX.out.res.c3
    have r4 := HX.out.res.c4
    have r5 := HX.out.res.c5
    have f0 := HX.out.res.free 0
    have f1 := HX.out.res.free 1
    have f2 := HX.out.res.free 2
    have f3 := HX.out.res.free 3
    have f4 := HX.out.res.free 4
    have f5 := HX.out.res.free 5
    have HP := hid_of (HX.out.res.w6 ((v1 : Int)) (v8) ((v3 : Int)) ((v4 : Int)) ((1 + (v5 : Int))) ((v6 : Int)))
    have HD := hid_of (HX.out.drawn Hs.out)
    clear HX HXb
    go_wp2
    have p0 := HP.out.c0
    have p1 := HP.out.c1
    have p2 := HP.out.c2
    have p3 := HP.out.c3
    have p4 := HP.out.c4
    have p5 := HP.out.c5
    unfold w6 at p0 p1 p2 p3 p4 p5
    refine bodyPost_ret (v := tapV ((v1 : Int)) (v8) ((v3 : Int)) ((v4 : Int)) ((1 + (v5 : Int))) ((v6 : Int))) (by simp [results, go_sem, p0, p1, p2, p3, p4, p5]) rfl ⟨_, _, _, _, _, _, rfl, HD.out.1, HD.out.2⟩
  · have e0 : ¬ ((v7 : Int) = 0) := by omega
    have e1 : ¬ ((v7 : Int) = 1) := by omega
    have e2 : ¬ ((v7 : Int) = 2) := by omega
    have e3 : ¬ ((v7 : Int) = 3) := by omega
    have HX := HX8
    have b0 := HX.out.box.c0
    have b1 := HX.out.box.c1
    have b2 := HX.out.box.c2
    have b3 := HX.out.box.c3
    have b4 := HX.out.box.c4
    have b5 := HX.out.box.c5
    have r0 := HX.out.res.c0
    have r1 := HX.out.res.c1
    have r2 := HX.out.res.c2
    have r3 := HX.out.res.c3
    have r4 := HX.out.res.c4
    have r5 := HX.out.res.c5
    have f0 := HX.out.res.free 0
    have f1 := HX.out.res.free 1
    have f2 := HX.out.res.free 2
    have f3 := HX.out.res.free 3
    have f4 := HX.out.res.free 4
    have f5 := HX.out.res.free 5
    have HP := hid_of (HX.out.res.w6 ((v1 : Int)) ((v2 : Int)) ((v3 : Int)) ((v4 : Int)) ((1 + (v5 : Int))) ((v6 : Int)))
    have HD := hid_of (HX.out.drawn Hs.out)
    clear HX HX8
    go_wp2
    have p0 := HP.out.c0
    have p1 := HP.out.c1
    have p2 := HP.out.c2
    have p3 := HP.out.c3
    have p4 := HP.out.c4
    have p5 := HP.out.c5
    unfold w6 at p0 p1 p2 p3 p4 p5
    refine bodyPost_ret (v := tapV ((v1 : Int)) ((v2 : Int)) ((v3 : Int)) ((v4 : Int)) ((1 + (v5 : Int))) ((v6 : Int))) (by simp [results, go_sem, p0, p1, p2, p3, p4, p5]) rfl ⟨_, _, _, _, _, _, rfl, HD.out.1, HD.out.2⟩
theorem wpList_appV {ops : Array Oper} {rest : List Oper} {o : Oper} {a : Act} {Q : Exit → Act → World → Prop} (hgd : o.guard = none) (s x : Operand)
    (ho : o.op = .call { callee := .builtin .append, args := #[s, x], argTypes := #[24, 24] }) (w0 w1 : World) (base m : Nat) (v : Value) (fs : List Leaf) (f : Leaf) (lv : Value) (hlv : lv = leafV f)
    (hs : a.eval s = v) (hx : a.eval x = .slice (some ⟨w1.heap.size, 0, none⟩) 1 1) (hR : RowW base v fs w1) (hm : m ≤ f.g) (hbm : base ≤ m) (hf : OwnT f.g f.c f.ts f.rs m w1.heap.size w1) (hfr : ∀ i, i < fs.length → (leafAt fs i).g < m) (hvm : ∀ k, v.ownBlock = some k → k < m)
    (hn : fs.length ≤ 1048576) (hbase : base ≤ w1.heap.size) (hnx : Below base w0 w1)
    (h : ∀ v' w', Hid (RowW base v' (fs ++ [f]) w') → Hid (Below base w0 w') → wpList Tryd.prog ops Q rest (a.put o.dst v') w') : wpList Tryd.prog ops Q (o :: rest) a (w1.alloc (.cells #[lv] 34 (0, 0))) := by
  subst hlv
  exact wpList_appW hgd s x ho w0 w1 base m v fs f hs hx hR hm hbm hf hfr hvm hn hbase hnx h
theorem RowW.grown {base : Nat} {v : Value} {fs : List Leaf} {w w' : World} (x : RowW base v fs w) {g : Nat} (hg : w.grownBy w' (some g)) (hk : g < base) : RowW base v fs w' := by
  refine ⟨⟨x.row.1, ?_⟩, x.some', fun i hi => ?_, x.ne, x.apart⟩
  · rcases x.row.2 with h0 | ⟨g', cap, cur, e, hb', hgg, hrest⟩
    · exact .inl h0
    · exact .inr ⟨g', cap, cur, e, hb', grown_kept hg hgg (fun e => by have := Option.some.inj e; omega), hrest⟩
  · have ho := x.own i hi
    have e := grown_kept hg ho.at' (fun e => by have := Option.some.inj e; have := ho.lo; omega)
    exact ⟨e, ho.cap, ho.lo, lt_of_block e⟩
/-- What lies there while trees are drawn. -/
structure TreesG (w : World) (g s : Nat) (v : Value) (n : Nat) (wr : World) : Prop where
  row : ∃ fs, RowW w.heap.size v fs wr ∧ fs.length = n ∧ ∀ i, (leafAt fs i).ts.length ≤ 5
  cur : CurE wr g s
  grown : w.grownBy wr (some g)
theorem TreesG.by' {w : World} {g s : Nat} {v : Value} {n : Nat} {wr w' : World} (x : TreesG w g s v n wr) (hs : s ≤ w.heap.size) (hc : CurE w' g s) (hg : wr.grownBy w' (some g)) : TreesG w g s v n w' := by
  obtain ⟨fs, h1, h2, h3⟩ := x.row
  exact ⟨⟨fs, h1.grown hg (by have := hc.lt; omega), h2, h3⟩, hc, grownBy_trans x.grown hg⟩
/-- One more tree is drawn and appended. -/
theorem treesG_next {w : World} {g s : Nat} {v : Value} {n : Nat} {wr w1 : World} (x : TreesG w g s v n wr) (hs : s ≤ w.heap.size) {u : Value} (hu : GrowT wr g s u w1) (hn : n ≤ 4) :
    ∃ gt c ts rs fs, u = .slice (some ⟨gt, 0, none⟩) 5 c ∧ ts.length = 5 ∧ RowW w.heap.size v fs w1 ∧ fs.length = n ∧ wr.heap.size ≤ gt ∧ w.heap.size ≤ wr.heap.size ∧ OwnT gt c ts rs wr.heap.size w1.heap.size w1 ∧ (∀ i, i < fs.length → (leafAt fs i).g < wr.heap.size) ∧ (∀ k, v.ownBlock = some k → k < wr.heap.size) ∧ fs.length ≤ 1048576 ∧ w.heap.size ≤ w1.heap.size ∧
      ∀ v' w', RowW w.heap.size v' (fs ++ [⟨gt, c, ts, rs⟩]) w' → Below w.heap.size w1 w' → TreesG w g s v' (n + 1) w' := by
  obtain ⟨gt, c, ts, rs, rfl, hl, ho⟩ := hu.own
  obtain ⟨fs, h1, h2, h3⟩ := x.row
  have hgr := grownBy_trans x.grown hu.grown
  refine ⟨gt, c, ts, rs, fs, rfl, hl, h1.grown hu.grown (by have := hu.cur.lt; omega), h2, ho.lo, x.grown.size, ho, fun i hi => (h1.own i hi).hi, fun k hk => (h1.row.lt k hk).2, by omega, hgr.size, fun v' w' hr hb => ⟨⟨_, hr, by simp [h2], fun i => ?_⟩, hu.cur.below (hb.mono hs), grownT_then hgr hb (Nat.le_refl _)⟩⟩
  rcases Nat.lt_trichotomy i fs.length with hlt | heq | hgt
  · rw [leafAt_push_old hlt]; exact h3 i
  · rw [heq, leafAt_push_new]; show ts.length ≤ 5; omega
  · have e : leafAt (fs ++ [⟨gt, c, ts, rs⟩]) i = noLeaf := by simp [leafAt, List.getD, List.getElem?_eq_none (by simp; omega : (fs ++ [(⟨gt, c, ts, rs⟩ : Leaf)]).length ≤ i)]
    rw [e]; simp [noLeaf]
/-- Trees of the draw's own. -/
structure TreesD (w : World) (g s : Nat) (v : Value) (wr : World) : Prop where
  own : ∃ gw c tss, v = .slice (some ⟨gw, 0, none⟩) tss.length c ∧ OwnWs gw c tss w.heap.size wr.heap.size wr ∧ tss.length ≤ 4 ∧ ∀ i, (treeAt tss i).length ≤ 5
  cur : CurE wr g s
  grown : w.grownBy wr (some g)
theorem TreesG.done {w : World} {g s : Nat} {v : Value} {n : Nat} {wr : World} (x : TreesG w g s v n wr) (hn : n ≤ 4) : TreesD w g s v wr := by
  obtain ⟨fs, h1, h2, h3⟩ := x.row
  obtain ⟨gw, cap, rest, rfl, ho⟩ := h1.toOwn
  exact ⟨⟨gw, cap, leafTs fs, by rw [leafTs_length], ⟨fs, rest, rfl, ho⟩, by rw [leafTs_length]; omega, fun i => by rw [leafTs_at]; exact h3 i⟩, x.cur, x.grown⟩
theorem TreesD.by' {w : World} {g s : Nat} {v : Value} {wr w' : World} (x : TreesD w g s v wr) (hs : s ≤ w.heap.size) (hc : CurE w' g s) (hg : wr.grownBy w' (some g)) : TreesD w g s v w' := by
  obtain ⟨gw, c, tss, rfl, h1, h2, h3⟩ := x.own
  obtain ⟨fs, rest, e, ho⟩ := h1
  have hlt := hc.lt
  have h4 := ho.by' hg fun k e => by have := Option.some.inj e; omega
  exact ⟨⟨gw, c, tss, rfl, ⟨fs, rest, e, h4.more⟩, h2, h3⟩, hc, grownBy_trans x.grown hg⟩
def TreesDrawn (w : World) (g s : Nat) (e : Ending) (w' : World) : Prop := ∃ v, e = .returned v ∧ TreesD w g s v w'
set_option maxRecDepth 100000 in
set_option maxHeartbeats 8000000 in
theorem l7Trees_any (w : World) (g s : Nat) (h : CurE w g s) (hs : s ≤ w.heap.size) :
    Calls Tryd.prog 15 #[.pointer (some ⟨g, 0, none⟩)] w fun e w' => TreesDrawn w g s e w' := by
  have Hs : Hid (s ≤ w.heap.size) := hs
  have H0 : Hid (TreesG w g s (.slice (some ⟨w.heap.size, 0, none⟩) 0 0) 0 (w.alloc (.cells #[] 34 (0, 0)))) :=
    ⟨⟨[], rowW_empty w, rfl, fun i => by simp [leafAt, noLeaf]⟩, h.alloc _ hs, World.grownBy_alloc w _ _⟩
  clear h hs
  have C0 := belowE _ g s 3 H0.out.cur (by decide) (by decide)
  go_enter Tryd.func15, Tryd.ntmps15
  go_wp2_with fail
  refine C0.mono ?_
  rintro e w1 ⟨v1, rfl, hv1, hc, hgr⟩
  have H1 := hid_of (H0.out.by' Hs.out hc hgr)
  clear C0 hc hgr H0
  have hw1 : wrap64 (1 + (v1 : Int)) = 1 + (v1 : Int) := by unfold wrap64; omega
  obtain ⟨u0, hu0⟩ : ∃ u, u = Value.slice (some ⟨w.heap.size, 0, none⟩) 0 0 := ⟨_, rfl⟩
  rw [← hu0] at H1
  go_wp2
  go_loopw [3, 4] (fun t i wr => ∃ (k n : Nat) (v : Value), k + n ≤ 3 ∧ 1 ≤ k + n ∧ i = .int .i64 k ∧ v = t ∧ Hid (TreesG w g s v n wr)) (fun _ i _ => (intOf i).toNat)
  case atStart => exact ⟨1 + v1, 0, _, by omega, by omega, by go_num, rfl, by rw [← hu0]; exact H1⟩
  case round =>
    obtain ⟨k, n, v, hk, hk1, rfl, rfl, hg⟩ := hrel
    clear H1 hu0 hw1
    by_cases hlt : 0 < k
    · have C := l6Tree_any wr g s hg.out.cur (Nat.le_trans Hs.out hg.out.grown.size)
      go_wp2_with fail
      refine C.mono ?_
      rintro e w2 ⟨u, rfl, hu⟩
      obtain ⟨gt, c, ts, rs, fs, rfl, hl, a1, a2, a3, a4, a5, a6, a7, a8, a9, hnext⟩ := treesG_next hg.out Hs.out hu (by omega)
      have HR := hid_of a1
      have HF := hid_of a5
      have HFR := hid_of a6
      have HVM := hid_of a7
      have HSZ := hid_of (And.intro a3 (And.intro a4 (And.intro a8 a9)))
      have HNX := hid_of hnext
      have HLV : Hid (Value.slice (some ⟨gt, 0, none⟩) 5 c = leafV ⟨gt, c, ts, rs⟩) := by show _ = _; unfold leafV; rw [hl]
      clear C hu a1 a2 a3 a4 a5 a6 a7 a8 a9 hnext hg hl
      go_wp2_with (refine wpList_appV rfl (.tmp 13) (.tmp 17) rfl w2 w2 w.heap.size wr.heap.size v fs ⟨gt, c, ts, rs⟩ (.slice (some ⟨gt, 0, none⟩) 5 c) HLV.out rfl rfl HR.out HSZ.out.1 HSZ.out.2.1 HF.out HFR.out HVM.out HSZ.out.2.2.1 HSZ.out.2.2.2 (Below.refl _ _) ?_; intro v' w' hrw hbw)
      go_wp2
      exact ⟨⟨k - 1, n + 1, _, by omega, by omega, by go_num, rfl, HNX.out v' w' hrw.out hbw.out⟩, by simp [intOf]; omega⟩
    · obtain rfl : k = 0 := by omega
      have C := belowE wr g s 20 hg.out.cur (by decide) (by decide)
      go_wp2_with fail
      refine C.mono ?_
      rintro e w2 ⟨v2, rfl, -, hc, hgr⟩
      have HG := hid_of (hg.out.by' Hs.out hc hgr)
      clear C hc hgr hg
      by_cases h0 : v2 = 0
      · subst h0
        have C := l6Any_any w2 g s HG.out.cur (Nat.le_trans Hs.out HG.out.grown.size)
        obtain ⟨fs, h1, h2, h3⟩ := HG.out.row
        obtain ⟨gw, cap, rest, rfl, ho⟩ := h1.toOwn
        have HO := hid_of ho
        have HFL : Hid (fs.length = n ∧ ∀ i, (leafAt fs i).ts.length ≤ 5) := ⟨h2, h3⟩
        have hfn : 0 < fs.length := by omega
        have hfc : fs.length ≤ cap := ho.cap
        have hf6 : fs.length ≤ 4 := by omega
        clear h1 h2 h3 ho
        go_wp2_with fail
        refine C.mono ?_
        rintro e w3 ⟨u, rfl, hu⟩
        obtain ⟨gt, c, ts, rs, rfl, hl, hot⟩ := hu.own
        have ho3 := HO.out.by' hu.grown (fun k e => by have := Option.some.inj e; have := hu.cur.lt; have := Hs.out; omega)
        have hput := ho3.put (f := ⟨gt, c, ts, rs⟩) hot hfn
        have HPUT : Hid (OwnW gw cap (fs.set 0 ⟨gt, c, ts, rs⟩) rest w.heap.size w3.heap.size (w3.setCell ⟨gw, 0, none⟩ (.slice (some ⟨gt, 0, none⟩) ts.length c))) := hput
        have hlo := ho3.lo
        have HCU : Hid (CurE (w3.setCell ⟨gw, 0, none⟩ (.slice (some ⟨gt, 0, none⟩) ts.length c)) g s ∧ w.grownBy (w3.setCell ⟨gw, 0, none⟩ (.slice (some ⟨gt, 0, none⟩) ts.length c)) (some g)) := ⟨hu.cur.set gw 0 _ (Nat.le_trans Hs.out hlo), grownBy_newT (grownBy_trans HG.out.grown hu.grown) hlo _ _⟩
        have d0 := ho3.cell hfn
        unfold leafV at d0
        have f0 := ho3.free 0
        have HLT : Hid (ts.length ≤ 5) := hl
        clear C hu hot ho3 hput hlo hl HO
        go_wp2
        go_ret
        refine ⟨_, rfl, ⟨⟨gw, cap, leafTs (fs.set 0 ⟨gt, c, ts, rs⟩), ?_, ⟨_, rest, rfl, HPUT.out.more⟩, ?_, fun i => ?_⟩, HCU.out.1, HCU.out.2⟩⟩
        · rw [leafTs_length, List.length_set]; rfl
        · rw [leafTs_length, List.length_set]; exact hf6
        · rw [leafTs_at]
          by_cases he : (0 : Nat) = i
          · subst he
            rw [leafAt_set_same hfn]; exact HLT.out
          · rw [leafAt_set_other _ _ he]; exact HFL.out.2 i
      · have e0 : ¬ ((v2 : Int) = 0) := by omega
        by_cases h1 : v2 = 1
        · subst h1
          go_wp2
          go_loopw [3] (fun t wr => ∃ (n : Nat) (v : Value), 1 ≤ n ∧ n ≤ 4 ∧ v = t ∧ Hid (TreesG w g s v n wr)) (fun t _ => 4 - (match t with | .slice _ n _ => n | _ => 0))
          case atStart => exact ⟨n, _, by omega, by omega, rfl, HG⟩
          case round =>
            obtain ⟨n', v', hn1, hn4, rfl, hg⟩ := hrel
            clear HG
            obtain ⟨fs0, q1, q2, q3⟩ := hg.out.row
            obtain ⟨gw, cap, rest, rfl, ho⟩ := q1.toOwn
            rw [q2] at hg ⊢
            clear q1 q2 q3 ho
            by_cases hlt : n' < 4
            · have C := l6Tree_any wr g s hg.out.cur (Nat.le_trans Hs.out hg.out.grown.size)
              go_wp2_with fail
              refine C.mono ?_
              rintro e w3 ⟨u, rfl, hu⟩
              obtain ⟨gt, c, ts, rs, fs, rfl, hl, a1, a2, a3, a4, a5, a6, a7, a8, a9, hnext⟩ := treesG_next hg.out Hs.out hu (by omega)
              have HR := hid_of a1
              have HF := hid_of a5
              have HFR := hid_of a6
              have HVM := hid_of a7
              have HSZ := hid_of (And.intro a3 (And.intro a4 (And.intro a8 a9)))
              have HNX := hid_of hnext
              clear C hu a1 a2 a3 a4 a5 a6 a7 a8 a9 hnext hg
              have HLV : Hid (Value.slice (some ⟨gt, 0, none⟩) 5 c = leafV ⟨gt, c, ts, rs⟩) := by show _ = _; unfold leafV; rw [hl]
              clear hl
              go_wp2_with (refine wpList_appV rfl (.tmp 33) (.tmp 37) rfl w3 w3 w.heap.size wr.heap.size (.slice (some ⟨gw, 0, none⟩) n' cap) fs ⟨gt, c, ts, rs⟩ (.slice (some ⟨gt, 0, none⟩) 5 c) HLV.out rfl rfl HR.out HSZ.out.1 HSZ.out.2.1 HF.out HFR.out HVM.out HSZ.out.2.2.1 HSZ.out.2.2.2 (Below.refl _ _) ?_; intro v'' w' hrw hbw)
              have hgn := hid_of (HNX.out v'' w' hrw.out hbw.out)
              obtain ⟨fs1, q1, q2, q3⟩ := hgn.out.row
              obtain ⟨gw1, cap1, rest1, rfl, ho1⟩ := q1.toOwn
              rw [q2] at hgn
              have hfl : fs1.length = n' + 1 := q2
              clear q1 q3 ho1
              first
                | (go_wp2; exact ⟨⟨n' + 1, .slice (some ⟨gw1, 0, none⟩) (n' + 1) cap1, by omega, by omega, by rw [hfl], hgn⟩, by simp [hfl]; omega⟩)
                | exact ⟨⟨n' + 1, .slice (some ⟨gw1, 0, none⟩) (n' + 1) cap1, by omega, by omega, by rw [hfl], hgn⟩, by simp [hfl]; omega⟩
            · obtain rfl : n' = 4 := by omega
              go_wp2
              go_ret
              exact ⟨_, rfl, hg.out.done (by omega)⟩
        · have e1 : ¬ ((v2 : Int) = 1) := by omega
          go_wp2
          go_ret
          exact ⟨_, rfl, HG.out.done (by omega)⟩
/-- What DrawTapMove hands over. -/
def MoveDrawn (w : World) (e : Ending) (w' : World) : Prop := ∃ (gw c0 : Nat) (tss : List (List Re)) (P r p q h k t : Int), e = .returned (.tuple #[.slice (some ⟨gw, 0, none⟩) tss.length c0, .int .i64 P, tapV r p q h k t]) ∧ tss.length ≤ 4 ∧ (∀ i, (treeAt tss i).length ≤ 5) ∧ OwnWs gw c0 tss w.heap.size w'.heap.size w' ∧ Below w.heap.size w w'
set_option maxRecDepth 100000 in
set_option maxHeartbeats 4000000 in
theorem drawTapMove_any (w : World) (a : Option Addr) (len cap : Nat) (cb : Nat → Nat) (hc : Code0 w a len cb) :
    Calls Tryd.prog 5 #[.slice a len cap] w fun e w' => MoveDrawn w e w' := by
  have C1 := newE (w.alloc (boxT 0 0 0 0 0 0)) a len cap cb (hc.on (below_alloc w _))
  have HB0 : Hid (Tap6 (w.alloc (boxT 0 0 0 0 0 0)) w.heap.size 0 0 0 0 0 0) := ⟨heap_alloc_new w _⟩
  clear hc
  go_enter Tryd.func5, Tryd.ntmps5
  go_wp2_with fail
  refine C1.mono ?_
  rintro e w1 ⟨rfl, hcur, hb⟩
  have hG : (w.alloc (boxT 0 0 0 0 0 0)).heap.size = w.heap.size + 1 := by simp
  rw [hG] at hcur ⊢
  have HB1 := hid_of (HB0.out.on hb)
  have HW1 : Hid (Below w.heap.size w w1) := below_more (below_alloc w _) hb
  have HS : Hid (w.heap.size + 1 < w1.heap.size) := hcur.lt
  have C2 := l7Trees_any w1 (w.heap.size + 1) w1.heap.size hcur (Nat.le_refl _)
  clear C1 hb hcur HB0 hG
  go_wp2_with fail
  refine C2.mono ?_
  rintro e w2 ⟨v, rfl, hg⟩
  have HA2 := hid_of hg
  clear C2 hg
  have C3 := belowE w2 (w.heap.size + 1) w1.heap.size 5 HA2.out.cur (by decide) (by decide)
  go_wp2_with fail
  refine C3.mono ?_
  rintro e w3' ⟨i, rfl, hi, hcE, hgr⟩
  have HA3 := hid_of (HA2.out.by' (Nat.le_refl _) hcE hgr)
  clear C3 hcE hgr HA2
  have C4 := l7Tap_any w3' (w.heap.size + 1) w1.heap.size HA3.out.cur HA3.out.grown.size
  have hwi : wrap64 ((i : Int) - 1) = (i : Int) - 1 := by unfold wrap64; omega
  go_wp2_with fail
  refine C4.mono ?_
  rintro e w4 ⟨r, p, q, h, k, t, rfl, hcE, hgr⟩
  have HA4 := hid_of (HA3.out.by' (Nat.le_refl _) hcE hgr)
  clear C4 hcE hgr HA3
  obtain ⟨gw, c0, tss, rfl, ho, hl4, hl5⟩ := HA4.out.own
  have HO := hid_of ho
  have HL : Hid (tss.length ≤ 4 ∧ ∀ i, (treeAt tss i).length ≤ 5) := ⟨hl4, hl5⟩
  have HGR := hid_of HA4.out.grown
  clear ho hl4 hl5 HA4
  have HBX : Hid (Tap6 w4 w.heap.size 0 0 0 0 0 0) := ⟨grown_kept HGR.out HB1.out.at' (by simp)⟩
  have f0 := HBX.out.free 0
  have f1 := HBX.out.free 1
  have f2 := HBX.out.free 2
  have f3 := HBX.out.free 3
  have f4 := HBX.out.free 4
  have f5 := HBX.out.free 5
  have r0 := HBX.out.c0
  have r1 := HBX.out.c1
  have r2 := HBX.out.c2
  have r3 := HBX.out.c3
  have r4 := HBX.out.c4
  have r5 := HBX.out.c5
  have HP := hid_of (HBX.out.w6 r p q h k t)
  clear HB1
  go_wp2
  have p0 := HP.out.c0
  have p1 := HP.out.c1
  have p2 := HP.out.c2
  have p3 := HP.out.c3
  have p4 := HP.out.c4
  have p5 := HP.out.c5
  unfold w6 at p0 p1 p2 p3 p4 p5
  refine bodyPost_ret (v := .tuple #[.slice (some ⟨gw, 0, none⟩) tss.length c0, .int .i64 ((i : Int) - 1), tapV r p q h k t]) (by simp [results, go_sem, p0, p1, p2, p3, p4, p5]) rfl ⟨gw, c0, tss, _, _, _, _, _, _, _, rfl, HL.out.1, HL.out.2, ?_, ?_⟩
  · obtain ⟨fs, rest, e, hoo⟩ := HO.out
    have hs := HS.out
    have hk : ∀ {g0 : Nat} {o : Obj}, w1.heap.size ≤ g0 → w4.heap[g0]? = some o → (w6 w4 w.heap.size r p q h k t).heap[g0]? = some o := fun {g0 o} h1 h2 => by
      unfold w6
      exact setCell_keep (setCell_keep (setCell_keep (setCell_keep (setCell_keep (setCell_keep h2 (by omega)) (by omega)) (by omega)) (by omega)) (by omega)) (by omega)
    refine ⟨fs, rest, e, ?_⟩
    have h1 := hk hoo.lo hoo.at'
    have hsz : (w6 w4 w.heap.size r p q h k t).heap.size = w4.heap.size := by unfold w6; simp
    refine ⟨h1, hoo.cap, by have := hoo.lo; omega, lt_of_block h1, fun i hi => ?_, hoo.ne, hoo.apart⟩
    have hi' := hoo.own i hi
    have h2 := hk hi'.lo hi'.at'
    exact ⟨h2, hi'.cap, by have := hi'.lo; omega, lt_of_block h2⟩
  · have h6 : Below w.heap.size w w4 := HW1.out.grown HGR.out (by have := HS.out; omega) (fun k e => by have := Option.some.inj e; omega)
    exact (((((h6.setCell (Nat.le_refl _) _).setCell (Nat.le_refl _) _).setCell (Nat.le_refl _) _).setCell (Nat.le_refl _) _).setCell (Nat.le_refl _) _).setCell (Nat.le_refl _) _
end Go.Proofs.YtfcenombphodbaaDoor
