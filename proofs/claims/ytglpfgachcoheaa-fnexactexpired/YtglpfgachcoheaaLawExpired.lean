/-
  The law of Expired: at every thing the program answers as the model; it writes into none of its lists.
-/
import Derived.Test.YtglpfgachcoheaaReadO
import Derived.Test.YtglpfgachcoheaaExp9
namespace Go.Proofs.Ytglpfgachcoheaa
open Go.ChangeShapes Go.WideShapes Go.ChangeAt Go.RowKit
set_option linter.unusedVariables false
set_option maxRecDepth 100000

/-- A thing of the laws' own, in its box. -/
structure Box13L (w : World) (g : Nat) (o : Ob) (l d m : Value) : Prop where
  at' : w.heap[g]? = some (boxOL o l d m)
theorem Box13L.on {w w' : World} {g : Nat} {o : Ob} {l d m : Value} (x : Box13L w g o l d m) (hb : Below w.heap.size w w') : Box13L w' g o l d m := ⟨keep x.at' hb⟩
theorem Box13L.c0 {w : World} {g : Nat} {o : Ob} {l d m : Value} (x : Box13L w g o l d m) : w.cell? ⟨g, 0, none⟩ = some (.int .i64 o.gen) := by simp [World.cell?, x.at']
theorem Box13L.c1 {w : World} {g : Nat} {o : Ob} {l d m : Value} (x : Box13L w g o l d m) : w.cell? ⟨g, 1, none⟩ = some (.int .i64 o.kind) := by simp [World.cell?, x.at']
theorem Box13L.c2 {w : World} {g : Nat} {o : Ob} {l d m : Value} (x : Box13L w g o l d m) : w.cell? ⟨g, 2, none⟩ = some (.int .i64 o.into) := by simp [World.cell?, x.at']
theorem Box13L.c3 {w : World} {g : Nat} {o : Ob} {l d m : Value} (x : Box13L w g o l d m) : w.cell? ⟨g, 3, none⟩ = some (.int .i64 o.res) := by simp [World.cell?, x.at']
theorem Box13L.c4 {w : World} {g : Nat} {o : Ob} {l d m : Value} (x : Box13L w g o l d m) : w.cell? ⟨g, 4, none⟩ = some (.int .i64 o.unt) := by simp [World.cell?, x.at']
theorem Box13L.c5 {w : World} {g : Nat} {o : Ob} {l d m : Value} (x : Box13L w g o l d m) : w.cell? ⟨g, 5, none⟩ = some (.int .i64 o.pages) := by simp [World.cell?, x.at']
theorem Box13L.c6 {w : World} {g : Nat} {o : Ob} {l d m : Value} (x : Box13L w g o l d m) : w.cell? ⟨g, 6, none⟩ = some (.int .i64 o.wait) := by simp [World.cell?, x.at']
theorem Box13L.c7 {w : World} {g : Nat} {o : Ob} {l d m : Value} (x : Box13L w g o l d m) : w.cell? ⟨g, 7, none⟩ = some (.int .i64 o.got) := by simp [World.cell?, x.at']
theorem Box13L.c8 {w : World} {g : Nat} {o : Ob} {l d m : Value} (x : Box13L w g o l d m) : w.cell? ⟨g, 8, none⟩ = some (.int .i64 o.ran) := by simp [World.cell?, x.at']
theorem Box13L.c9 {w : World} {g : Nat} {o : Ob} {l d m : Value} (x : Box13L w g o l d m) : w.cell? ⟨g, 9, none⟩ = some (.bool o.mark) := by simp [World.cell?, x.at']
theorem Box13L.c10 {w : World} {g : Nat} {o : Ob} {l d m : Value} (x : Box13L w g o l d m) : w.cell? ⟨g, 10, none⟩ = some (l) := by simp [World.cell?, x.at']
theorem Box13L.c11 {w : World} {g : Nat} {o : Ob} {l d m : Value} (x : Box13L w g o l d m) : w.cell? ⟨g, 11, none⟩ = some (d) := by simp [World.cell?, x.at']
theorem Box13L.c12 {w : World} {g : Nat} {o : Ob} {l d m : Value} (x : Box13L w g o l d m) : w.cell? ⟨g, 12, none⟩ = some (m) := by simp [World.cell?, x.at']
/-- What a region leaves that copies a thing: its third value is such a copy. -/
def gObj (o : Ob) (vs : List Value) (i : Nat) (u : Value) (w : World) : Prop := match i with
  | 2 => ∃ l d m, u = obV o l d m ∧ Lists w l d m o
  | i => u = vs.getD i undef
theorem gObj_on {o : Ob} {vs : List Value} {w w' : World} (hb : Below w.heap.size w w') (i : Nat) (u : Value) (h : gObj o vs i u w) : gObj o vs i u w' := by
  unfold gObj at h ⊢
  split
  · obtain ⟨l, d, m, e, h1⟩ := h
    exact ⟨l, d, m, e, h1.on hb⟩
  · rename_i hne
    split at h
    · exact absurd rfl hne
    · exact h
namespace LExp
set_option maxRecDepth 100000 in
set_option maxHeartbeats 8000000 in
theorem small (o : Ob) (l d m : Value) (now : Int) (w : World) (hx : Lists w l d m o) (hs : Sound8 o) (hn : obN o ≤ 1048576) :
    Calls Try.prog 5 #[obV o l d m, .int .i64 now] w fun e w' => e = .returned (.bool true) ∧ Below w.heap.size w w' := by
  have CS := szObj_any o l d m 1048576 (w.alloc (boxOL o l d m)) (hx.on (below_alloc w _)) (by omega) (by omega) (Nat.le_trans hs.l1 (by decide)) (Nat.le_trans hs.l2 (by decide)) (Nat.le_trans hs.l3 (by decide))
  rw [szOf_yes (by omega)] at CS
  have CT : Hid (∀ w', Below w.heap.size w w' → Calls Try.prog 13 #[obV o l d m] w' fun e w'' => (∃ l' d' m', e = .returned (obV o l' d' m') ∧ OwnO w'.heap.size w''.heap.size w'' l' d' m' o) ∧ Below w'.heap.size w' w'') := fun w' hb => toObj_any o l d m w' (hx.on hb) hn
  have HN := hid_of hn
  have CO : Hid (∀ l d m w', Lists w' l d m o → Calls Try.prog 22 #[obV o l d m, .int .i64 now] w' fun e w'' => e = .returned (.bool (expB o now)) ∧ Below w'.heap.size w' w'') := fun l d m w' h => specExp_any o l d m now w'
  have CI : Hid (∀ l d m w', Lists w' l d m o → Calls Try.prog 23 #[obV o l d m, .int .i64 now] w' fun e w'' => e = .returned (.bool (expB o now)) ∧ Below w'.heap.size w' w'') := fun l d m w' h => implExp_any o l d m now w'
  generalize expB o now = r at CO CI
  have hnn : ¬ (1048576 - (obN o : Int) < 0) := by omega
  have hrr : (r != r) = false := by simp
  obtain ⟨q, hq⟩ : ∃ q, q = 1048576 - (obN o : Int) := ⟨_, rfl⟩
  rw [← hq] at CS hnn
  have HB : Hid (Below w.heap.size w (w.alloc (boxOL o l d m))) := below_alloc w _
  have HL : Hid (Box13L (w.alloc (boxOL o l d m)) w.heap.size o l d m) := ⟨heap_alloc_new w _⟩
  clear hx hs hn hq
  go_enter Try.func5, Try.ntmps5
  go_wp2_with fail
  refine CS.mono ?_
  rintro e w1 ⟨rfl, hb⟩
  have HB1 := hid_of (below_more HB.out hb)
  have HL1 := hid_of (HL.out.on hb)
  clear HB HL hb CS
  have k0 := HL1.out.c0
  have k1 := HL1.out.c1
  have k2 := HL1.out.c2
  have k3 := HL1.out.c3
  have k4 := HL1.out.c4
  have k5 := HL1.out.c5
  have k6 := HL1.out.c6
  have k7 := HL1.out.c7
  have k8 := HL1.out.c8
  have k9 := HL1.out.c9
  have k10 := HL1.out.c10
  have k11 := HL1.out.c11
  have k12 := HL1.out.c12
  go_wp2_with fail
  refine (CT.out _ HB1.out).mono ?_
  rintro e w2 ⟨⟨l1, d1, m1, rfl, ho⟩, hb⟩
  have HB2 := hid_of (below_more HB1.out hb)
  have HL2 := hid_of (HL1.out.on hb)
  have hl1 := ho.lists
  clear HB1 HL1 hb ho
  clear k0 k1 k2 k3 k4 k5 k6 k7 k8 k9 k10 k11 k12
  go_wp2_with fail
  refine (CO.out _ _ _ _ hl1).mono ?_
  rintro e w3 ⟨rfl, hb⟩
  have HB3 := hid_of (below_more HB2.out hb)
  have HL3 := hid_of (HL2.out.on hb)
  clear HB2 HL2 hb hl1 CO
  have k0 := HL3.out.c0
  have k1 := HL3.out.c1
  have k2 := HL3.out.c2
  have k3 := HL3.out.c3
  have k4 := HL3.out.c4
  have k5 := HL3.out.c5
  have k6 := HL3.out.c6
  have k7 := HL3.out.c7
  have k8 := HL3.out.c8
  have k9 := HL3.out.c9
  have k10 := HL3.out.c10
  have k11 := HL3.out.c11
  have k12 := HL3.out.c12
  go_wp2_with fail
  refine (CT.out _ HB3.out).mono ?_
  rintro e w4 ⟨⟨l2, d2, m2, rfl, ho⟩, hb⟩
  have HB4 := hid_of (below_more HB3.out hb)
  have HL4 := hid_of (HL3.out.on hb)
  have HI4 := hid_of ho.lists
  obtain ⟨x1, y1, rfl, _⟩ := id ho.ls
  obtain ⟨x2, y2, rfl, _⟩ := id ho.ds
  obtain ⟨x3, y3, rfl, _⟩ := id ho.qs
  clear HB3 HL3 hb ho
  clear k0 k1 k2 k3 k4 k5 k6 k7 k8 k9 k10 k11 k12
  have HB5 : Hid (Below w.heap.size w (w4.alloc (boxO o (.slice x1 o.ls.length y1) (.slice x2 o.ds.length y2) (.slice x3 o.qs.length y3)))) := below_more HB4.out (below_alloc w4 _)
  have HL5 := hid_of (HL4.out.on (below_alloc w4 (boxO o (.slice x1 o.ls.length y1) (.slice x2 o.ds.length y2) (.slice x3 o.qs.length y3))))
  have HI5 := hid_of (HI4.out.on (below_alloc w4 (boxO o (.slice x1 o.ls.length y1) (.slice x2 o.ds.length y2) (.slice x3 o.qs.length y3))))
  have HJ5 : Hid (Box13 (w4.alloc (boxO o (.slice x1 o.ls.length y1) (.slice x2 o.ds.length y2) (.slice x3 o.qs.length y3))) w4.heap.size o (.slice x1 o.ls.length y1) (.slice x2 o.ds.length y2) (.slice x3 o.qs.length y3)) := ⟨heap_alloc_new w4 _⟩
  clear HB4 HL4 HI4
  go_wp2_with fail
  refine (CI.out _ _ _ _ HI5.out).mono ?_
  rintro e w6 ⟨rfl, hb⟩
  have HB6 := hid_of (below_more HB5.out hb)
  have HL6 := hid_of (HL5.out.on hb)
  have HI6 := hid_of (HI5.out.on hb)
  have HJ6 := hid_of (HJ5.out.on hb)
  clear HB5 HL5 HI5 HJ5 hb CI
  obtain ⟨l2, hl2⟩ : ∃ v, v = Value.slice x1 o.ls.length y1 := ⟨_, rfl⟩
  obtain ⟨d2, hd2⟩ : ∃ v, v = Value.slice x2 o.ds.length y2 := ⟨_, rfl⟩
  obtain ⟨m2, hm2⟩ : ∃ v, v = Value.slice x3 o.qs.length y3 := ⟨_, rfl⟩
  obtain ⟨g2, hg2⟩ : ∃ g, g = w4.heap.size := ⟨_, rfl⟩
  rw [← hl2, ← hd2, ← hm2] at HI6 HJ6
  rw [← hl2, ← hd2, ← hm2, ← hg2]
  rw [← hg2] at HJ6
  clear hl2 hd2 hm2 hg2
  go_wp2_with fail
  refine wp_region_whole (by kernel_rfl) (by kernel_rfl) (by kernel_rfl) (by kernel_rfl) (Flat (fun wz => Below w.heap.size w wz ∧ Box13L wz w.heap.size o l d m ∧ Box13 wz g2 o l2 d2 m2 ∧ Lists wz l2 d2 m2 o) (gObj o [obV o l2 d2 m2, obV o l d m, undef, .bool true, .bool false])) (flat_start ⟨HB6.out.drew, HL6.out.on (below_draw _), HJ6.out.on (below_draw _), HI6.out.on (below_draw _)⟩) ?_ ?_
  · refine ⟨?_, ?_, ?_, ?_, ?_, trivial⟩
    · intro b0 us wz L hslot hoth hLi hR hcl hdo K hK
      have s7 : b0.tmps.getD 7 undef = .pointer (some ⟨g2, 0, none⟩) := hoth 7 (by rfl)
      have k0 := (hR.1.2.2.1).c0
      have k1 := (hR.1.2.2.1).c1
      have k2 := (hR.1.2.2.1).c2
      have k3 := (hR.1.2.2.1).c3
      have k4 := (hR.1.2.2.1).c4
      have k5 := (hR.1.2.2.1).c5
      have k6 := (hR.1.2.2.1).c6
      have k7 := (hR.1.2.2.1).c7
      have k8 := (hR.1.2.2.1).c8
      have k9 := (hR.1.2.2.1).c9
      have k10 := (hR.1.2.2.1).c10
      have k11 := (hR.1.2.2.1).c11
      have k12 := (hR.1.2.2.1).c12
      clear hslot hoth hdo hcl hLi
      refine guard_none (by rfl) ?_
      go_simp
      exact hK _ _ (flat_mark (hR.1) (fun _ _ h => h) hR.2 rfl)
    · intro b0 us wz L hslot hoth hLi hR hcl hdo K hK
      have s2 : b0.tmps.getD 2 undef = .pointer (some ⟨w.heap.size, 0, none⟩) := hoth 2 (by rfl)
      have k0 := (hR.1.2.1).c0
      have k1 := (hR.1.2.1).c1
      have k2 := (hR.1.2.1).c2
      have k3 := (hR.1.2.1).c3
      have k4 := (hR.1.2.1).c4
      have k5 := (hR.1.2.1).c5
      have k6 := (hR.1.2.1).c6
      have k7 := (hR.1.2.1).c7
      have k8 := (hR.1.2.1).c8
      have k9 := (hR.1.2.1).c9
      have k10 := (hR.1.2.1).c10
      have k11 := (hR.1.2.1).c11
      have k12 := (hR.1.2.1).c12
      clear hslot hoth hdo hcl hLi
      refine guard_none (by rfl) ?_
      go_simp
      exact hK _ _ (flat_mark (hR.1) (fun _ _ h => h) hR.2 rfl)
    · intro b0 us wz L hslot hoth hLi hR hcl hdo K hK
      have s27 : b0.tmps.getD 27 undef = obV o l d m := (hslot 1 27 (by rfl)).trans (hR.2 1 (done_at hdo 1 (by rfl)))
      clear hslot hoth hdo hcl hLi
      refine guard_none (by rfl) ?_
      go_simp
      refine (CT.out wz hR.1.1).mono ?_
      rintro e w' ⟨⟨l', d', m', rfl, ho⟩, hb⟩
      exact hK _ _ (flat_mark ⟨below_more hR.1.1 hb, hR.1.2.1.on hb, hR.1.2.2.1.on hb, hR.1.2.2.2.on hb⟩ (gObj_on hb) hR.2 ⟨_, _, _, rfl, ho.lists⟩)
    · intro b0 us wz L hslot hoth hLi hR hcl hdo K hK
      have s26 : b0.tmps.getD 26 undef = obV o l2 d2 m2 := (hslot 0 26 (by rfl)).trans (hR.2 0 (done_at hdo 0 (by rfl)))
      obtain ⟨l3, d3, m3, hu, hl3⟩ := hR.2 2 (done_at hdo 2 (by rfl))
      have s28 : b0.tmps.getD 28 undef = obV o l3 d3 m3 := (hslot 2 28 (by rfl)).trans hu
      have CQ := eqObj_same o l2 d2 m2 l3 d3 m3 wz hR.1.2.2.2 hl3 HN.out
      clear hu hl3
      clear hslot hoth hdo hcl hLi
      refine guard_none (by rfl) ?_
      go_simp
      refine CQ.mono ?_
      rintro e w' ⟨rfl, hb⟩
      exact hK _ _ (flat_mark ⟨below_more hR.1.1 hb, hR.1.2.1.on hb, hR.1.2.2.1.on hb, hR.1.2.2.2.on hb⟩ (gObj_on hb) hR.2 rfl)
    · intro b0 us wz L hslot hoth hLi hR hcl hdo K hK
      have s29 : b0.tmps.getD 29 undef = .bool true := (hslot 3 29 (by rfl)).trans (hR.2 3 (done_at hdo 3 (by rfl)))
      clear hslot hoth hdo hcl hLi
      refine guard_none (by rfl) ?_
      go_simp
      exact hK _ _ (flat_mark (hR.1) (fun _ _ h => h) hR.2 rfl)
  · intro us wn L hall hR a' ha'
    have g4 : us 4 = .bool false := hR.2 4 (hall 4 (by decide))
    have HB := hid_of hR.1.1
    clear hR hall
    simp only [putAll, g4] at ha'
    subst ha'
    go_frame
    clear HB6 HL6 HJ6 HI6 CT
    go_wp2
    go_ret
    exact ⟨rfl, HB.out⟩
set_option maxHeartbeats 1000000 in
theorem big (o : Ob) (l d m : Value) (now : Int) (w : World) (hx : Lists w l d m o) (hs : Sound8 o) (hn : ¬ obN o ≤ 1048576) :
    Calls Try.prog 5 #[obV o l d m, .int .i64 now] w fun e w' => e = .returned (.bool true) ∧ Below w.heap.size w w' := by
  have CS := szObj_any o l d m 1048576 (w.alloc (boxOL o l d m)) (hx.on (below_alloc w _)) (by omega) (by omega) (Nat.le_trans hs.l1 (by decide)) (Nat.le_trans hs.l2 (by decide)) (Nat.le_trans hs.l3 (by decide))
  rw [szOf_no (by omega)] at CS
  have HB : Hid (Below w.heap.size w (w.alloc (boxOL o l d m))) := below_alloc w _
  clear hx hs hn
  go_enter Try.func5, Try.ntmps5
  go_wp2_with fail
  refine CS.mono ?_
  rintro e w1 ⟨rfl, hb⟩
  have HB1 := hid_of (below_more HB.out hb)
  clear HB hb CS
  go_wp2
  go_ret
  exact ⟨rfl, HB1.out⟩
end LExp
theorem walkExpired (o : Ob) (l d m : Value) (now : Int) (w : World) (hx : Lists w l d m o) (hs : Sound8 o) :
    Calls Try.prog 5 #[obV o l d m, .int .i64 now] w fun e w' => e = .returned (.bool true) ∧ Below w.heap.size w w' := by
  by_cases h : obN o ≤ 1048576
  · exact LExp.small o l d m now w hx hs h
  · exact LExp.big o l d m now w hx hs h
namespace Expired
set_option maxRecDepth 100000 in
theorem lifted (os : Os) (started : os.Started) (H : Type) (enc : TypeId × Value → H) :
    ReturnsInHanded {} Try.checked os 5 .any (Rows.fnExactExpiredSpec.pre6 enc Try.prog Try.f5 Rows.fnExactExpiredRow.domain false) (Rows.fnExactExpiredSpec.post enc Try.prog Try.f5 false true false false) := by
  refine returnsInHanded_of_change (C := Try.checked) own started (by kernel_rfl) Try.func5
    (ChangeSpec.witness6 (enc := enc) (C := Try.checked) false ⟨#[], #[.agg #[.int .i64 0, .int .i64 0, .int .i64 0, .int .i64 0, .int .i64 0, .int .i64 0, .int .i64 0, .int .i64 0, .int .i64 0, .bool false, .slice none 0 0, .slice none 0 0, .slice none 0 0], .int .i64 0], []⟩ 8 (by kernel_rfl) (by kernel_rfl) (by kernel_rfl) (by kernel_rfl)) ?_
  intro W base args ds gs before hval0 hW hcnd _
  have hval : ∀ (j : Nat) t v, Try.f5.params[j]? = some t → args[j]? = some v → Value.okWide Try.prog W .any base t v := hval0
  have hW' := hW
  obtain ⟨p, q, hA0, hV, rfl, hfz, hnd⟩ := hW
  have hA : DataW.TrodAll enc Try.prog W 0 (fun _ => true) true Try.f5.params.toList args.toList ds p := hA0
  rw [Try.params5] at hA hval
  obtain ⟨v0, vs0, d0, ds0, p0, q0, hargs, rfl, rfl, h0, r0⟩ := trodAll_cons hA
  obtain ⟨v1, vs1, d1, ds1, p1, q1, hargs1, rfl, rfl, h1, r1⟩ := trodAll_cons r0
  obtain ⟨rfl, rfl, rfl⟩ := trodAll_nil r1
  obtain rfl : args = #[v0, v1] := by cases args; simp_all
  obtain ⟨rfl, rfl⟩ := trodVars_none hV
  obtain ⟨o0, l0, u0, y0, rfl, i0, g0⟩ := open_ob (hval 0 26 v0 rfl rfl) h0
  have k0 := h0
  have lt0 : ∀ x ∈ p0, x.block < W.heap.size := by obtain ⟨m, hm⟩ := k0; exact DataW.trod_lt m _ _ _ hm
  obtain ⟨z1, rfl, f1⟩ := open_int64 (hval 1 3 v1 rfl rfl) h1
  have k1 := h1
  have lt1 : ∀ x ∈ p1, x.block < W.heap.size := by obtain ⟨m, hm⟩ := k1; exact DataW.trod_lt m _ _ _ hm
  clear hA0 hval0
  refine (walkExpired o0 l0 u0 y0 z1 W i0 g0).mono fun e W' ⟨he, bel⟩ => ?_
  subst he
  exact ⟨_, rfl, _, _, _, [], _, [], hW', trodAll_mk1 (shut_bool Try.underlying4 _), (trodAll_cons_mk (Below.trod laidOut (by kernel_rfl) (of_decide_eq_true (by kernel_rfl)) k0 bel lt0) (trodAll_cons_mk (Below.trod laidOut (by kernel_rfl) (of_decide_eq_true (by kernel_rfl)) k1 bel lt1) trodAll_mk0)), rfl, bel.frame _, fun h => by cases h⟩

theorem over : Rows.fnExactExpiredRow.holds Try.pinned (OpenSpec.ofChange Rows.fnExactExpiredSpec) :=
  OpenClaim.holds_of_wide 5 Try.f5 rfl rfl rfl rfl rfl rfl rfl ⟨rfl, rfl, rfl, rfl, rfl⟩ rfl rfl rfl rfl rfl (by kernel_rfl) Try.func5 (by kernel_rfl)
    (of_decide_eq_true (by kernel_rfl)) (by unfold Func.isWrapper; first | (rw [if_pos (by decide +kernel)]; kernel_rfl) | (rw [if_neg (by decide +kernel)]; exact ⟨rfl, rfl⟩))
    (fun os started H enc _ => lifted os started H enc)
end Expired
theorem expired_holds : Rows.FnExactExpiredSaid := Expired.over
#print axioms expired_holds
end Go.Proofs.Ytglpfgachcoheaa
