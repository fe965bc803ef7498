/-
  Copies of a thing: the program's and the model's.
-/
import Derived.Test.YtokicnopfmokaaaCopy9
import Derived.Test.YtokicnopfmokaaaSameI
namespace Go.Proofs.Ytokicnopfmokaaa
open Go.RowKit
set_option linter.unusedVariables false
set_option maxRecDepth 100000

theorem heap_alloc_at0 (w : World) (A B : Obj) : ((w.alloc A).alloc B).heap[w.heap.size + 1]? = some B := by
  have h := heap_alloc_new (w.alloc A) B
  simpa using h
theorem below_sz {n : Nat} {W w' : World} (h : Below n W w') (e : n = W.heap.size) : Below W.heap.size W w' := e ▸ h
theorem frozen_of {w : World} {g : Nat} {xs : Array Value} {t : TypeId} (h : w.heap[g]? = some (.cells xs t (0, 0))) : ∀ i, w.frozen? ⟨g, i, none⟩ = false := fun i => by simp [World.frozen?, h]
theorem zcell0 {w : World} {g : Nat} {t : TypeId} (h : w.heap[g]? = some (.cells #[.int .i64 0, .int .i64 0, .int .i64 0, .int .i64 0, .int .i64 0, .int .i64 0, .int .i64 0, .int .i64 0, .int .i64 0, .bool false, .slice none 0 0, .slice none 0 0, .slice none 0 0] t (0, 0))) : w.cell? ⟨g, 0, none⟩ = some (.int .i64 0) := by simp [World.cell?, h]
theorem zcell1 {w : World} {g : Nat} {t : TypeId} (h : w.heap[g]? = some (.cells #[.int .i64 0, .int .i64 0, .int .i64 0, .int .i64 0, .int .i64 0, .int .i64 0, .int .i64 0, .int .i64 0, .int .i64 0, .bool false, .slice none 0 0, .slice none 0 0, .slice none 0 0] t (0, 0))) : w.cell? ⟨g, 1, none⟩ = some (.int .i64 0) := by simp [World.cell?, h]
theorem zcell2 {w : World} {g : Nat} {t : TypeId} (h : w.heap[g]? = some (.cells #[.int .i64 0, .int .i64 0, .int .i64 0, .int .i64 0, .int .i64 0, .int .i64 0, .int .i64 0, .int .i64 0, .int .i64 0, .bool false, .slice none 0 0, .slice none 0 0, .slice none 0 0] t (0, 0))) : w.cell? ⟨g, 2, none⟩ = some (.int .i64 0) := by simp [World.cell?, h]
theorem zcell3 {w : World} {g : Nat} {t : TypeId} (h : w.heap[g]? = some (.cells #[.int .i64 0, .int .i64 0, .int .i64 0, .int .i64 0, .int .i64 0, .int .i64 0, .int .i64 0, .int .i64 0, .int .i64 0, .bool false, .slice none 0 0, .slice none 0 0, .slice none 0 0] t (0, 0))) : w.cell? ⟨g, 3, none⟩ = some (.int .i64 0) := by simp [World.cell?, h]
theorem zcell4 {w : World} {g : Nat} {t : TypeId} (h : w.heap[g]? = some (.cells #[.int .i64 0, .int .i64 0, .int .i64 0, .int .i64 0, .int .i64 0, .int .i64 0, .int .i64 0, .int .i64 0, .int .i64 0, .bool false, .slice none 0 0, .slice none 0 0, .slice none 0 0] t (0, 0))) : w.cell? ⟨g, 4, none⟩ = some (.int .i64 0) := by simp [World.cell?, h]
theorem zcell5 {w : World} {g : Nat} {t : TypeId} (h : w.heap[g]? = some (.cells #[.int .i64 0, .int .i64 0, .int .i64 0, .int .i64 0, .int .i64 0, .int .i64 0, .int .i64 0, .int .i64 0, .int .i64 0, .bool false, .slice none 0 0, .slice none 0 0, .slice none 0 0] t (0, 0))) : w.cell? ⟨g, 5, none⟩ = some (.int .i64 0) := by simp [World.cell?, h]
theorem zcell6 {w : World} {g : Nat} {t : TypeId} (h : w.heap[g]? = some (.cells #[.int .i64 0, .int .i64 0, .int .i64 0, .int .i64 0, .int .i64 0, .int .i64 0, .int .i64 0, .int .i64 0, .int .i64 0, .bool false, .slice none 0 0, .slice none 0 0, .slice none 0 0] t (0, 0))) : w.cell? ⟨g, 6, none⟩ = some (.int .i64 0) := by simp [World.cell?, h]
theorem zcell7 {w : World} {g : Nat} {t : TypeId} (h : w.heap[g]? = some (.cells #[.int .i64 0, .int .i64 0, .int .i64 0, .int .i64 0, .int .i64 0, .int .i64 0, .int .i64 0, .int .i64 0, .int .i64 0, .bool false, .slice none 0 0, .slice none 0 0, .slice none 0 0] t (0, 0))) : w.cell? ⟨g, 7, none⟩ = some (.int .i64 0) := by simp [World.cell?, h]
theorem zcell8 {w : World} {g : Nat} {t : TypeId} (h : w.heap[g]? = some (.cells #[.int .i64 0, .int .i64 0, .int .i64 0, .int .i64 0, .int .i64 0, .int .i64 0, .int .i64 0, .int .i64 0, .int .i64 0, .bool false, .slice none 0 0, .slice none 0 0, .slice none 0 0] t (0, 0))) : w.cell? ⟨g, 8, none⟩ = some (.int .i64 0) := by simp [World.cell?, h]
theorem zcell9 {w : World} {g : Nat} {t : TypeId} (h : w.heap[g]? = some (.cells #[.int .i64 0, .int .i64 0, .int .i64 0, .int .i64 0, .int .i64 0, .int .i64 0, .int .i64 0, .int .i64 0, .int .i64 0, .bool false, .slice none 0 0, .slice none 0 0, .slice none 0 0] t (0, 0))) : w.cell? ⟨g, 9, none⟩ = some (.bool false) := by simp [World.cell?, h]
theorem zcell10 {w : World} {g : Nat} {t : TypeId} (h : w.heap[g]? = some (.cells #[.int .i64 0, .int .i64 0, .int .i64 0, .int .i64 0, .int .i64 0, .int .i64 0, .int .i64 0, .int .i64 0, .int .i64 0, .bool false, .slice none 0 0, .slice none 0 0, .slice none 0 0] t (0, 0))) : w.cell? ⟨g, 10, none⟩ = some (.slice none 0 0) := by simp [World.cell?, h]
theorem zcell11 {w : World} {g : Nat} {t : TypeId} (h : w.heap[g]? = some (.cells #[.int .i64 0, .int .i64 0, .int .i64 0, .int .i64 0, .int .i64 0, .int .i64 0, .int .i64 0, .int .i64 0, .int .i64 0, .bool false, .slice none 0 0, .slice none 0 0, .slice none 0 0] t (0, 0))) : w.cell? ⟨g, 11, none⟩ = some (.slice none 0 0) := by simp [World.cell?, h]
theorem zcell12 {w : World} {g : Nat} {t : TypeId} (h : w.heap[g]? = some (.cells #[.int .i64 0, .int .i64 0, .int .i64 0, .int .i64 0, .int .i64 0, .int .i64 0, .int .i64 0, .int .i64 0, .int .i64 0, .bool false, .slice none 0 0, .slice none 0 0, .slice none 0 0] t (0, 0))) : w.cell? ⟨g, 12, none⟩ = some (.slice none 0 0) := by simp [World.cell?, h]
theorem Box13.free {w : World} {g : Nat} {o : Ob} {l d m : Value} (x : Box13 w g o l d m) (i : Nat) : w.frozen? ⟨g, i, none⟩ = false := by simp [World.frozen?, x.at']
theorem Box13.set10 {w : World} {g : Nat} {o : Ob} {l d m : Value} (x : Box13 w g o l d m) (v : Value) : Box13 (w.setCell ⟨g, 10, none⟩ v) g o v d m := ⟨by rw [heap_setCell_same w g 10 _ _ v x.at']; simp⟩
theorem Box13.set11 {w : World} {g : Nat} {o : Ob} {l d m : Value} (x : Box13 w g o l d m) (v : Value) : Box13 (w.setCell ⟨g, 11, none⟩ v) g o l v m := ⟨by rw [heap_setCell_same w g 11 _ _ v x.at']; simp⟩
set_option maxRecDepth 100000 in
set_option maxHeartbeats 8000000 in
theorem implCloneO_any (o : Ob) (l d m : Value) (w : World) (hx : Lists w l d m o) (hn : obN o ≤ 1048576) :
    Calls Try.prog 23 #[obV o l d m] w fun e w' => (∃ l' d' m', e = .returned (obV o l' d' m') ∧ OwnO w.heap.size w'.heap.size w' l' d' m' o) ∧ Below w.heap.size w w' := by
  unfold obN at hn
  have CL : Hid (∀ w', Below w.heap.size w w' → _) := fun w' (hb : Below w.heap.size w w') => cloneI_any l o.ls w' (hx.ls.on hb) (by omega)
  have CD : Hid (∀ w', Below w.heap.size w w' → _) := fun w' (hb : Below w.heap.size w w') => cloneI_any d o.ds w' (hx.ds.on hb) (by omega)
  have CM : Hid (∀ w', Below w.heap.size w w' → _) := fun w' (hb : Below w.heap.size w w') => cloneM_any m o.qs w' (hx.qs.on hb) (by omega)
  obtain ⟨⟨a, c, rfl, _, _⟩, ⟨a', c', rfl, _, _⟩, ⟨a'', c'', rfl, _, _⟩⟩ := hx
  clear hn
  go_enter Try.func23, Try.ntmps23
  go_wp2_with fail
  refine (CL.out _ (by go_grown)).mono ?_
  rintro e w1 ⟨⟨v1, rfl, ho1⟩, hb1⟩
  obtain ⟨x1, y1, rfl, _⟩ := id ho1
  have hz1 : w.heap.size + 2 ≤ w1.heap.size := by have e := hb1.size; simp at e; omega
  have y10 : w.heap.size < w1.heap.size := by omega
  have y11 : w.heap.size + 1 < w1.heap.size := by omega
  have HO1a := hid_of (show OwnI (w.heap.size + 2) w1.heap.size w1 (.slice x1 o.ls.length y1) o.ls from by simpa using ho1)
  have HB1 : Hid (Below w.heap.size w w1) := below_more (by go_grown) hb1
  have HZ1 := hid_of (keep (heap_alloc_at0 _ _ _) hb1)
  have HX1 := hid_of (Box13.on ⟨keep (heap_alloc_new w _) (below_alloc _ _)⟩ hb1)
  have p10 := HX1.out.c10
  have p11 := HX1.out.c11
  have fz := HX1.out.free 10
  clear hb1 CL ho1
  go_wp2_with fail
  refine (CD.out _ (HB1.out.setCell (Nat.le_refl _) _)).mono ?_
  rintro e w2 ⟨⟨v2, rfl, ho2⟩, hb2⟩
  obtain ⟨x2, y2, rfl, _⟩ := id ho2
  have hz2 : w1.heap.size ≤ w2.heap.size := by have e := hb2.size; simpa using e
  have y20 : w.heap.size < w2.heap.size := by omega
  have y21 : w.heap.size + 1 < w2.heap.size := by omega
  have HO2a := hid_of (show OwnI w1.heap.size w2.heap.size w2 (.slice x2 o.ds.length y2) o.ds from by simpa using ho2)
  have HO1b := hid_of (HO1a.out.move (w' := w2) (fun g x h1 h2 hx => keep (setCell_keep hx (by omega)) hb2) (Nat.le_refl _) (Nat.le_refl _))
  have HB2 : Hid (Below w.heap.size w w2) := below_more (HB1.out.setCell (p := ⟨w.heap.size, 10, none⟩) (Nat.le_refl _) _) hb2
  have HZ2 := hid_of (keep (setCell_keep HZ1.out (by omega)) hb2)
  have HX2 := hid_of ((HX1.out.set10 (.slice x1 o.ls.length y1)).on hb2)
  clear p10 p11 fz
  have p11 := HX2.out.c11
  have p12 := HX2.out.c12
  have fz := HX2.out.free 11
  clear hb2 CD ho2 HO1a HB1 HZ1 HX1
  go_wp2_with fail
  refine (CM.out _ (HB2.out.setCell (Nat.le_refl _) _)).mono ?_
  rintro e w3 ⟨⟨v3, rfl, ho3⟩, hb3⟩
  obtain ⟨x3, y3, rfl, _⟩ := id ho3
  have hz3 : w2.heap.size ≤ w3.heap.size := by have e := hb3.size; simpa using e
  have y30 : w.heap.size < w3.heap.size := by omega
  have y31 : w.heap.size + 1 < w3.heap.size := by omega
  have HO3 := hid_of (show OwnM w2.heap.size w3.heap.size w3 (.slice x3 o.qs.length y3) o.qs from by simpa using ho3)
  have HO1 := hid_of (HO1b.out.move (w' := w3) (fun g x h1 h2 hx => keep (setCell_keep hx (by omega)) hb3) (Nat.le_refl _) (Nat.le_refl _))
  have HO2 := hid_of (HO2a.out.move (w' := w3) (fun g x h1 h2 hx => keep (setCell_keep hx (by omega)) hb3) (Nat.le_refl _) (Nat.le_refl _))
  have HB3 : Hid (Below w.heap.size w w3) := below_more (HB2.out.setCell (p := ⟨w.heap.size, 11, none⟩) (Nat.le_refl _) _) hb3
  have HZ2' := hid_of (keep (setCell_keep HZ2.out (by omega)) hb3)
  have HX3 := hid_of ((HX2.out.set11 (.slice x2 o.ds.length y2)).on hb3)
  clear p11 p12 fz
  have k0 := HX3.out.c0
  have k1 := HX3.out.c1
  have k2 := HX3.out.c2
  have k3 := HX3.out.c3
  have k4 := HX3.out.c4
  have k5 := HX3.out.c5
  have k6 := HX3.out.c6
  have k7 := HX3.out.c7
  have k8 := HX3.out.c8
  have k9 := HX3.out.c9
  have k10 := HX3.out.c10
  have k11 := HX3.out.c11
  have k12 := HX3.out.c12
  have fz := HX3.out.free 12
  have zf := frozen_of HZ2'.out
  have z0 := zcell0 HZ2'.out
  have z1 := zcell1 HZ2'.out
  have z2 := zcell2 HZ2'.out
  have z3 := zcell3 HZ2'.out
  have z4 := zcell4 HZ2'.out
  have z5 := zcell5 HZ2'.out
  have z6 := zcell6 HZ2'.out
  have z7 := zcell7 HZ2'.out
  have z8 := zcell8 HZ2'.out
  have z9 := zcell9 HZ2'.out
  have z10 := zcell10 HZ2'.out
  have z11 := zcell11 HZ2'.out
  have z12 := zcell12 HZ2'.out
  clear hb3 CM ho3 HO1b HO2a HB2 HZ2 HX2 HX3
  go_wp2
  have HZ3 := HZ2'.out
  clear fz zf k0 k1 k2 k3 k4 k5 k6 k7 k8 k9 k10 k11 k12 z0 z1 z2 z3 z4 z5 z6 z7 z8 z9 z10 z11 z12
  show bodyPost _ _ _ _ _ (w13 (w3.setCell ⟨w.heap.size, 12, none⟩ (.slice x3 o.qs.length y3)) (w.heap.size + 1) 0 o (.slice x1 o.ls.length y1) (.slice x2 o.ds.length y2) (.slice x3 o.qs.length y3))
  have hs4 : ∀ k x, w3.heap[k]? = some x → k ≠ w.heap.size → k ≠ w.heap.size + 1 → ((w13 (w3.setCell ⟨w.heap.size, 12, none⟩ (.slice x3 o.qs.length y3)) (w.heap.size + 1) 0 o (.slice x1 o.ls.length y1) (.slice x2 o.ds.length y2) (.slice x3 o.qs.length y3))).heap[k]? = some x := fun k x h n1 n2 => heap_w13_other (setCell_keep h n1) n2 _ _ _ _ _
  have hB4 := below_w13 (HB3.out.setCell (p := ⟨w.heap.size, 12, none⟩) (Nat.le_refl _) (.slice x3 o.qs.length y3)) (g := w.heap.size + 1) (by omega) 0 o (.slice x1 o.ls.length y1) (.slice x2 o.ds.length y2) (.slice x3 o.qs.length y3)
  have hz4 := size_w13 (w3.setCell ⟨w.heap.size, 12, none⟩ (.slice x3 o.qs.length y3)) (w.heap.size + 1) 0 o (.slice x1 o.ls.length y1) (.slice x2 o.ds.length y2) (.slice x3 o.qs.length y3)
  rw [show ((w3.setCell ⟨w.heap.size, 12, none⟩ (.slice x3 o.qs.length y3))).heap.size = w3.heap.size by simp] at hz4
  have hfin := heap_w13_new (setCell_keep (g := w.heap.size) (o := 12) (v := (.slice x3 o.qs.length y3)) HZ3 (by omega)) o (.slice x1 o.ls.length y1) (.slice x2 o.ds.length y2) (.slice x3 o.qs.length y3)
  generalize (w13 (w3.setCell ⟨w.heap.size, 12, none⟩ (.slice x3 o.qs.length y3)) (w.heap.size + 1) 0 o (.slice x1 o.ls.length y1) (.slice x2 o.ds.length y2) (.slice x3 o.qs.length y3)) = W at hs4 hB4 hz4 hfin ⊢
  refine bodyPost_ret (v := obV o (.slice x1 o.ls.length y1) (.slice x2 o.ds.length y2) (.slice x3 o.qs.length y3)) (by simp [results, go_sem, World.cell?, hfin]) rfl ⟨⟨_, _, _, rfl, ?_⟩, hB4⟩
  refine own3 (a := w1.heap.size) (b := w2.heap.size) ?_ ?_ ?_ (by omega) (by omega) (by omega)
  · exact HO1.out.move (fun g x h1 h2 hx => hs4 _ _ hx (by omega) (by omega)) (by omega) (Nat.le_refl _)
  · exact HO2.out.move (fun g x h1 h2 hx => hs4 _ _ hx (by omega) (by omega)) (Nat.le_refl _) (Nat.le_refl _)
  · exact HO3.out.move (fun g x h1 h2 hx => hs4 _ _ hx (by omega) (by omega)) (Nat.le_refl _) (by omega)
set_option maxRecDepth 100000 in
set_option maxHeartbeats 8000000 in
theorem specObj_any (o : Ob) (l d m : Value) (w : World) (hx : Lists w l d m o) (hn : obN o ≤ 1048576) :
    Calls Try.prog 65 #[obV o l d m] w fun e w' => (∃ l' d' m', e = .returned (obV o l' d' m') ∧ OwnO w.heap.size w'.heap.size w' l' d' m' o) ∧ Below w.heap.size w w' := by
  unfold obN at hn
  have CL : Hid (∀ w', Below w.heap.size w w' → IsInts w' l o.ls) := fun w' hb => hx.ls.on hb
  have CD : Hid (∀ w', Below w.heap.size w w' → IsInts w' d o.ds) := fun w' hb => hx.ds.on hb
  have CM : Hid (∀ w', Below w.heap.size w w' → IsMsgs w' m o.qs) := fun w' hb => hx.qs.on hb
  have HN : Hid (o.ls.length ≤ 1048576 ∧ o.ds.length ≤ 1048576 ∧ o.qs.length ≤ 1048576) := by constructor; omega; omega
  clear hn hx
  go_enter Try.func65, Try.ntmps65
  go_wp2_with (at_builtin; refine wpList_copyI rfl (.tmp 3) (.tmp 5) rfl _ _ _ (by first | rfl | simp [Act.eval]) rfl (CL.out _ (by go_grown)) HN.out.1 ?_)
  intro v1 w1 ho1' hb1'
  have ho1 := ho1'.out
  have hb1 := below_sz hb1'.out (by simp)
  clear ho1' hb1'
  obtain ⟨x1, y1, rfl, _⟩ := id ho1
  have hz1 : w.heap.size + 2 ≤ w1.heap.size := by have e := hb1.size; simp at e; omega
  have y10 : w.heap.size < w1.heap.size := by omega
  have y11 : w.heap.size + 1 < w1.heap.size := by omega
  have HO1a := hid_of (show OwnI (w.heap.size + 2) w1.heap.size w1 (.slice x1 o.ls.length y1) o.ls from by simpa using ho1)
  have HB1 : Hid (Below w.heap.size w w1) := below_more (by go_grown) hb1
  have HZ1 := hid_of (keep (heap_alloc_at0 _ _ _) hb1)
  have HX1 := hid_of (Box13.on ⟨keep (heap_alloc_new w _) (below_alloc _ _)⟩ hb1)
  have p10 := HX1.out.c10
  have p11 := HX1.out.c11
  have fz := HX1.out.free 10
  clear hb1 CL ho1
  go_wp2_with (at_builtin; refine wpList_copyI rfl (.tmp 8) (.tmp 10) rfl _ _ _ (by first | rfl | simp [Act.eval]) rfl (CD.out _ (HB1.out.setCell (Nat.le_refl _) _)) HN.out.2.1 ?_)
  intro v2 w2 ho2' hb2'
  have ho2 := ho2'.out
  have hb2 := below_sz hb2'.out (by simp)
  clear ho2' hb2'
  obtain ⟨x2, y2, rfl, _⟩ := id ho2
  have hz2 : w1.heap.size ≤ w2.heap.size := by have e := hb2.size; simpa using e
  have y20 : w.heap.size < w2.heap.size := by omega
  have y21 : w.heap.size + 1 < w2.heap.size := by omega
  have HO2a := hid_of (show OwnI w1.heap.size w2.heap.size w2 (.slice x2 o.ds.length y2) o.ds from by simpa using ho2)
  have HO1b := hid_of (HO1a.out.move (w' := w2) (fun g x h1 h2 hx => keep (setCell_keep hx (by omega)) hb2) (Nat.le_refl _) (Nat.le_refl _))
  have HB2 : Hid (Below w.heap.size w w2) := below_more (HB1.out.setCell (p := ⟨w.heap.size, 10, none⟩) (Nat.le_refl _) _) hb2
  have HZ2 := hid_of (keep (setCell_keep HZ1.out (by omega)) hb2)
  have HX2 := hid_of ((HX1.out.set10 (.slice x1 o.ls.length y1)).on hb2)
  clear p10 p11 fz
  have p11 := HX2.out.c11
  have p12 := HX2.out.c12
  have fz := HX2.out.free 11
  clear hb2 CD ho2 HO1a HB1 HZ1 HX1
  go_wp2_with (at_builtin; refine wpList_copyM rfl (.tmp 13) (.tmp 15) rfl _ _ _ (by first | rfl | simp [Act.eval]) rfl (CM.out _ (HB2.out.setCell (Nat.le_refl _) _)) HN.out.2.2 ?_)
  intro v3 w3 ho3' hb3'
  have ho3 := ho3'.out
  have hb3 := below_sz hb3'.out (by simp)
  clear ho3' hb3'
  obtain ⟨x3, y3, rfl, _⟩ := id ho3
  have hz3 : w2.heap.size ≤ w3.heap.size := by have e := hb3.size; simpa using e
  have y30 : w.heap.size < w3.heap.size := by omega
  have y31 : w.heap.size + 1 < w3.heap.size := by omega
  have HO3 := hid_of (show OwnM w2.heap.size w3.heap.size w3 (.slice x3 o.qs.length y3) o.qs from by simpa using ho3)
  have HO1 := hid_of (HO1b.out.move (w' := w3) (fun g x h1 h2 hx => keep (setCell_keep hx (by omega)) hb3) (Nat.le_refl _) (Nat.le_refl _))
  have HO2 := hid_of (HO2a.out.move (w' := w3) (fun g x h1 h2 hx => keep (setCell_keep hx (by omega)) hb3) (Nat.le_refl _) (Nat.le_refl _))
  have HB3 : Hid (Below w.heap.size w w3) := below_more (HB2.out.setCell (p := ⟨w.heap.size, 11, none⟩) (Nat.le_refl _) _) hb3
  have HZ2' := hid_of (keep (setCell_keep HZ2.out (by omega)) hb3)
  have HX3 := hid_of ((HX2.out.set11 (.slice x2 o.ds.length y2)).on hb3)
  clear p11 p12 fz
  have k0 := HX3.out.c0
  have k1 := HX3.out.c1
  have k2 := HX3.out.c2
  have k3 := HX3.out.c3
  have k4 := HX3.out.c4
  have k5 := HX3.out.c5
  have k6 := HX3.out.c6
  have k7 := HX3.out.c7
  have k8 := HX3.out.c8
  have k9 := HX3.out.c9
  have k10 := HX3.out.c10
  have k11 := HX3.out.c11
  have k12 := HX3.out.c12
  have fz := HX3.out.free 12
  have zf := frozen_of HZ2'.out
  have z0 := zcell0 HZ2'.out
  have z1 := zcell1 HZ2'.out
  have z2 := zcell2 HZ2'.out
  have z3 := zcell3 HZ2'.out
  have z4 := zcell4 HZ2'.out
  have z5 := zcell5 HZ2'.out
  have z6 := zcell6 HZ2'.out
  have z7 := zcell7 HZ2'.out
  have z8 := zcell8 HZ2'.out
  have z9 := zcell9 HZ2'.out
  have z10 := zcell10 HZ2'.out
  have z11 := zcell11 HZ2'.out
  have z12 := zcell12 HZ2'.out
  clear hb3 CM ho3 HO1b HO2a HB2 HZ2 HX2 HX3
  go_wp2_with fail
  have HZ3 := HZ2'.out
  clear fz zf k0 k1 k2 k3 k4 k5 k6 k7 k8 k9 k10 k11 k12 z0 z1 z2 z3 z4 z5 z6 z7 z8 z9 z10 z11 z12
  show bodyPost _ _ _ _ _ (w13 (w3.setCell ⟨w.heap.size, 12, none⟩ (.slice x3 o.qs.length y3)) (w.heap.size + 1) 0 o (.slice x1 o.ls.length y1) (.slice x2 o.ds.length y2) (.slice x3 o.qs.length y3))
  have hs4 : ∀ k x, w3.heap[k]? = some x → k ≠ w.heap.size → k ≠ w.heap.size + 1 → ((w13 (w3.setCell ⟨w.heap.size, 12, none⟩ (.slice x3 o.qs.length y3)) (w.heap.size + 1) 0 o (.slice x1 o.ls.length y1) (.slice x2 o.ds.length y2) (.slice x3 o.qs.length y3))).heap[k]? = some x := fun k x h n1 n2 => heap_w13_other (setCell_keep h n1) n2 _ _ _ _ _
  have hB4 := below_w13 (HB3.out.setCell (p := ⟨w.heap.size, 12, none⟩) (Nat.le_refl _) (.slice x3 o.qs.length y3)) (g := w.heap.size + 1) (by omega) 0 o (.slice x1 o.ls.length y1) (.slice x2 o.ds.length y2) (.slice x3 o.qs.length y3)
  have hz4 := size_w13 (w3.setCell ⟨w.heap.size, 12, none⟩ (.slice x3 o.qs.length y3)) (w.heap.size + 1) 0 o (.slice x1 o.ls.length y1) (.slice x2 o.ds.length y2) (.slice x3 o.qs.length y3)
  rw [show ((w3.setCell ⟨w.heap.size, 12, none⟩ (.slice x3 o.qs.length y3))).heap.size = w3.heap.size by simp] at hz4
  have hfin := heap_w13_new (setCell_keep (g := w.heap.size) (o := 12) (v := (.slice x3 o.qs.length y3)) HZ3 (by omega)) o (.slice x1 o.ls.length y1) (.slice x2 o.ds.length y2) (.slice x3 o.qs.length y3)
  generalize (w13 (w3.setCell ⟨w.heap.size, 12, none⟩ (.slice x3 o.qs.length y3)) (w.heap.size + 1) 0 o (.slice x1 o.ls.length y1) (.slice x2 o.ds.length y2) (.slice x3 o.qs.length y3)) = W at hs4 hB4 hz4 hfin ⊢
  refine bodyPost_ret (v := obV o (.slice x1 o.ls.length y1) (.slice x2 o.ds.length y2) (.slice x3 o.qs.length y3)) (by simp [results, go_sem, World.cell?, hfin]) rfl ⟨⟨_, _, _, rfl, ?_⟩, hB4⟩
  refine own3 (a := w1.heap.size) (b := w2.heap.size) ?_ ?_ ?_ (by omega) (by omega) (by omega)
  · exact HO1.out.move (fun g x h1 h2 hx => hs4 _ _ hx (by omega) (by omega)) (by omega) (Nat.le_refl _)
  · exact HO2.out.move (fun g x h1 h2 hx => hs4 _ _ hx (by omega) (by omega)) (Nat.le_refl _) (Nat.le_refl _)
  · exact HO3.out.move (fun g x h1 h2 hx => hs4 _ _ hx (by omega) (by omega)) (Nat.le_refl _) (by omega)
end Go.Proofs.Ytokicnopfmokaaa
