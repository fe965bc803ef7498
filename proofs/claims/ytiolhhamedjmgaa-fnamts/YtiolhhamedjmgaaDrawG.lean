/-
  DrawAmtFits: two amounts out of a code.
-/
import Derived.Test.YtiolhhamedjmgaaDrawN
import Derived.Test.YtiolhhamedjmgaaWhole
namespace Go.Proofs.Ytiolhhamedjmgaa
open Go.RowKit
set_option linter.unusedVariables false

/-- What was drawn, its boxes, and the answer's places. -/
structure FitW (w : World) (S B5 B6 : Nat) (a b c : Int) (wz : World) : Prop where
  cur : CurE wz (w.heap.size + 1 + 1) S
  x : Box3 wz B5 25 a b c
  y : ∃ d e f, Box3 wz B6 25 d e f
  z0 : ∃ d e f, Box3 wz w.heap.size 25 d e f
  z1 : ∃ d e f, Box3 wz (w.heap.size + 1) 25 d e f
  below : Below w.heap.size w wz
theorem box3_by {wz w' : World} {g b : Nat} {t : TypeId} {a c d : Int} (h : Box3 wz b t a c d) (hg : wz.grownBy w' (some g)) (hne : g ≠ b) : Box3 w' b t a c d := ⟨grown_kept hg h.at' (by simpa using hne)⟩
theorem box3_drew {wz : World} {b : Nat} {t : TypeId} {a c d : Int} (h : Box3 wz b t a c d) : Box3 wz.drew b t a c d := ⟨h.at'⟩
theorem box3_set2 {wz : World} {b : Nat} {t : TypeId} {a c d : Int} (h : Box3 wz b t a c d) (v : Int) : Box3 (wz.setCell ⟨b, 2, none⟩ (.int .i64 v)) b t a c v := ⟨heap_setCell_same wz b 2 _ t (.int .i64 v) h.at'⟩
theorem box3_away {wz : World} {b b' i : Nat} {t : TypeId} {a c d : Int} (h : Box3 wz b t a c d) (hne : b ≠ b') (v : Value) : Box3 (wz.setCell ⟨b', i, none⟩ v) b t a c d := ⟨by rw [heap_setCell_other _ _ _ _ (by simpa using hne)]; exact h.at'⟩
theorem FitW.drew {w : World} {S B5 B6 : Nat} {a b c : Int} {wz : World} (h : FitW w S B5 B6 a b c wz) : FitW w S B5 B6 a b c wz.drew := by
  obtain ⟨h1, h2, ⟨d, e, f, h3⟩, ⟨d', e', f', h4⟩, ⟨d'', e'', f'', h5⟩, h6⟩ := h
  exact ⟨h1.drew, box3_drew h2, ⟨_, _, _, box3_drew h3⟩, ⟨_, _, _, box3_drew h4⟩, ⟨_, _, _, box3_drew h5⟩, h6.trans ((below_draw wz).mono h6.size)⟩
theorem FitW.by' {w : World} {S B5 B6 : Nat} {a b c : Int} {wz w' : World} (h : FitW w S B5 B6 a b c wz) (hg : wz.grownBy w' (some (w.heap.size + 1 + 1))) (hc : CurE w' (w.heap.size + 1 + 1) S) (hS : S ≤ B5) (h56 : B5 < B6) : FitW w S B5 B6 a b c w' := by
  obtain ⟨h1, h2, ⟨d, e, f, h3⟩, ⟨d', e', f', h4⟩, ⟨d'', e'', f'', h5⟩, h6⟩ := h
  have := hc.lt
  exact ⟨hc, box3_by h2 hg (by omega), ⟨_, _, _, box3_by h3 hg (by omega)⟩, ⟨_, _, _, box3_by h4 hg (by omega)⟩, ⟨_, _, _, box3_by h5 hg (by omega)⟩, h6.grown hg h6.size (fun k e => by have := Option.some.inj e; omega)⟩
theorem FitW.set2 {w : World} {S B5 B6 : Nat} {a b c : Int} {wz : World} (h : FitW w S B5 B6 a b c wz) (hS : S ≤ B5) (h56 : B5 < B6) (v : Int) : FitW w S B5 B6 a b c (wz.setCell ⟨B6, 2, none⟩ (.int .i64 v)) := by
  obtain ⟨h1, h2, ⟨d, e, f, h3⟩, ⟨d', e', f', h4⟩, ⟨d'', e'', f'', h5⟩, h6⟩ := h
  have := h1.lt
  exact ⟨h1.set _ _ _ (by omega), box3_away h2 (by omega) _, ⟨_, _, _, box3_set2 h3 v⟩, ⟨_, _, _, box3_away h4 (by omega) _⟩, ⟨_, _, _, box3_away h5 (by omega) _⟩, h6.setCell (by show w.heap.size ≤ B6; omega) _⟩
theorem FitW.put {w : World} {S B5 B6 : Nat} {a b c : Int} {wz : World} (h : FitW w S B5 B6 a b c wz) (hS : S ≤ B5) (h56 : B5 < B6) (x y z : Int) : FitW w S B5 B6 a b c (((wz.setCell ⟨B6, 0, none⟩ (.int .i64 x)).setCell ⟨B6, 1, none⟩ (.int .i64 y)).setCell ⟨B6, 2, none⟩ (.int .i64 z)) := by
  obtain ⟨h1, h2, ⟨d, e, f, h3⟩, ⟨d', e', f', h4⟩, ⟨d'', e'', f'', h5⟩, h6⟩ := h
  have := h1.lt
  refine ⟨((h1.set _ _ _ (by omega)).set _ _ _ (by omega)).set _ _ _ (by omega), h2.other3 (by omega) _ _ _, ⟨_, _, _, h3.w3 x y z⟩, ⟨_, _, _, h4.other3 (by omega) _ _ _⟩, ⟨_, _, _, h5.other3 (by omega) _ _ _⟩, ((h6.setCell (by show w.heap.size ≤ B6; omega) _).setCell (by show w.heap.size ≤ B6; omega) _).setCell (by show w.heap.size ≤ B6; omega) _⟩

/-- The two amounts, and the answer's places. -/
structure FitR (w : World) (B5 B6 : Nat) (a b c d e f : Int) (wz : World) : Prop where
  x : Box3 wz B5 25 a b c
  y : Box3 wz B6 25 d e f
  z0 : ∃ p q r, Box3 wz w.heap.size 25 p q r
  z1 : ∃ p q r, Box3 wz (w.heap.size + 1) 25 p q r
  below : Below w.heap.size w wz
theorem FitR.set0 {w : World} {B5 B6 : Nat} {a b c d e f : Int} {wz : World} (h : FitR w B5 B6 a b c d e f wz) (h5 : w.heap.size + 1 < B5) (h6 : w.heap.size + 1 < B6) (x y z : Int) : FitR w B5 B6 a b c d e f (w3 wz w.heap.size (.int .i64 x) (.int .i64 y) (.int .i64 z)) := by
  obtain ⟨h1, h2, ⟨p, q, r, h3⟩, ⟨p', q', r', h4⟩, hb⟩ := h
  exact ⟨h1.other3 (by omega) _ _ _, h2.other3 (by omega) _ _ _, ⟨_, _, _, h3.w3 x y z⟩, ⟨_, _, _, h4.other3 (by omega) _ _ _⟩, ((hb.setCell (Nat.le_refl _) _).setCell (Nat.le_refl _) _).setCell (Nat.le_refl _) _⟩
theorem FitR.set1 {w : World} {B5 B6 : Nat} {a b c d e f : Int} {wz : World} (h : FitR w B5 B6 a b c d e f wz) (h5 : w.heap.size + 1 < B5) (h6 : w.heap.size + 1 < B6) (x y z : Int) : FitR w B5 B6 a b c d e f (w3 wz (w.heap.size + 1) (.int .i64 x) (.int .i64 y) (.int .i64 z)) := by
  obtain ⟨h1, h2, ⟨p, q, r, h3⟩, ⟨p', q', r', h4⟩, hb⟩ := h
  exact ⟨h1.other3 (by omega) _ _ _, h2.other3 (by omega) _ _ _, ⟨_, _, _, h3.other3 (by omega) _ _ _⟩, ⟨_, _, _, h4.w3 x y z⟩, ((hb.setCell (Nat.le_succ _) _).setCell (Nat.le_succ _) _).setCell (Nat.le_succ _) _⟩
theorem FitR.drew {w : World} {B5 B6 : Nat} {a b c d e f : Int} {wz : World} (h : FitR w B5 B6 a b c d e f wz) : FitR w B5 B6 a b c d e f wz.drew := by
  obtain ⟨h1, h2, ⟨p, q, r, h3⟩, ⟨p', q', r', h4⟩, hb⟩ := h
  exact ⟨box3_drew h1, box3_drew h2, ⟨_, _, _, box3_drew h3⟩, ⟨_, _, _, box3_drew h4⟩, hb.trans ((below_draw wz).mono hb.size)⟩
def gSix (B g : Nat) : Nat → Value → World → Prop
  | 0, v, _ => v = .pointer (some ⟨B, 2, none⟩)
  | 1, v, _ => ∃ n : Int, v = .int .i64 n
  | 2, v, _ => v = .pointer (some ⟨g, 0, none⟩)
  | 3, v, _ => ∃ n : Int, v = .int .i64 n
  | 4, v, _ => ∃ n : Int, v = .int .i64 n
  | 5, v, _ => ∃ n : Int, v = .int .i64 n
  | 6, v, _ => v = .pointer (some ⟨B, 2, none⟩)
  | _, _, _ => True
theorem gSix_any {B g : Nat} {w w' : World} : ∀ j u, gSix B g j u w → gSix B g j u w'
  | 0, _, h => h
  | 1, _, h => h
  | 2, _, h => h
  | 3, _, h => h
  | 4, _, h => h
  | 5, _, h => h
  | 6, _, h => h
  | _ + 7, _, h => h
def gSev (s : Nat) (a b c d e f : Int) : Nat → Value → World → Prop
  | 0, v, _ => v = amt a b c
  | 1, v, _ => v = amt d e f
  | 2, _, w => Box3 w s 25 a b c
  | _, _, w => Box3 w (s + 1) 25 d e f
theorem gSev_set0 {s : Nat} {a b c d e f : Int} {w : World} : ∀ j u, gSev s a b c d e f j u w → gSev s a b c d e f j u (w3 w s (.int .i64 a) (.int .i64 b) (.int .i64 c))
  | 0, _, h => h
  | 1, _, h => h
  | 2, _, h => Box3.w3 h a b c
  | _ + 3, _, h => Box3.other3 h (by omega) _ _ _
theorem gSev_set1 {s : Nat} {a b c d e f : Int} {w : World} : ∀ j u, gSev s a b c d e f j u w → gSev s a b c d e f j u (w3 w (s + 1) (.int .i64 d) (.int .i64 e) (.int .i64 f))
  | 0, _, h => h
  | 1, _, h => h
  | 2, _, h => Box3.other3 h (by omega) _ _ _
  | _ + 3, _, h => Box3.w3 h d e f

/-- A base that stays, and what each operation left. -/
def Flat (Base : World → Prop) (G : Nat → Value → World → Prop) (L : Nat → Bool) (us : Nat → Value) (w : World) : Prop := Base w ∧ ∀ j, L j = true → G j (us j) w
theorem flat_start {Base : World → Prop} {G : Nat → Value → World → Prop} {w : World} (h : Base w) (us : Nat → Value) : Flat Base G (fun _ => false) us w := ⟨h, fun _ hj => by cases hj⟩
theorem flat_mark {Base : World → Prop} {G : Nat → Value → World → Prop} {L : Nat → Bool} {us : Nat → Value} {w w' : World} {i : Nat} {v : Value} (hB : Base w') (hk : ∀ j u, G j u w → G j u w') (hG : ∀ j, L j = true → G j (us j) w) (hi : G i v w') : Flat Base G (markd L i) (useAt us i v) w' :=
  ⟨hB, fun j hj => by
    by_cases h : j = i
    · subst h; rw [use_same]; exact hi
    · rw [markd_other L h] at hj; rw [use_other us v h]; exact hk _ _ (hG j hj)⟩

/-- What DrawAmtFits answers. -/
def FitsDrawn (w : World) (e : Ending) (w' : World) : Prop := ∃ a b c d f g : Int, e = .returned (.tuple #[amt a b c, amt d f g]) ∧ Below w.heap.size w w'

set_option maxRecDepth 100000 in
set_option maxHeartbeats 2000000 in
theorem drawFits_any (w : World) (ad : Option Addr) (len cap : Nat) (cb : Nat → Nat) (hc : Code0 w ad len cb) :
    Calls Try.prog 10 #[.slice ad len cap] w fun e w' => FitsDrawn w e w' := by
  have hb0 : Below w.heap.size w ((w.alloc (boxA 0 0 0)).alloc (boxA 0 0 0)) := ((Below.refl _ _).alloc (Nat.le_refl _) _).alloc (by simp) _
  have C1 := newE ((w.alloc (boxA 0 0 0)).alloc (boxA 0 0 0)) ad len cap cb (hc.on hb0)
  have hss : ((w.alloc (boxA 0 0 0)).alloc (boxA 0 0 0)).heap.size = w.heap.size + 1 + 1 := by simp
  rw [hss] at C1
  have HZ0 : Hid (((w.alloc (boxA 0 0 0)).alloc (boxA 0 0 0)).heap[w.heap.size]? = some (boxA 0 0 0)) := by show _ = _; rw [heap_alloc_old _ _ (by simp)]; exact heap_alloc_new w _
  have HZ1 : Hid (((w.alloc (boxA 0 0 0)).alloc (boxA 0 0 0)).heap[w.heap.size + 1]? = some (boxA 0 0 0)) := by
    have h := heap_alloc_new (w.alloc (boxA 0 0 0)) (boxA 0 0 0)
    rw [show (w.alloc (boxA 0 0 0)).heap.size = w.heap.size + 1 by simp] at h
    exact h
  have HB0 : Hid (Below w.heap.size w ((w.alloc (boxA 0 0 0)).alloc (boxA 0 0 0))) := hb0
  clear hc hb0 hss
  go_enter Try.func10, Try.ntmps10
  go_wp2_with fail
  refine C1.mono ?_
  rintro e w1 ⟨rfl, hcur, hb⟩
  clear C1
  have C2 := l5Any_any w1 (w.heap.size + 1 + 1) w1.heap.size hcur (Nat.le_refl _)
  have HS1 : Hid (w.heap.size + 1 + 1 < w1.heap.size) := hcur.lt
  have HB1 : Hid (Below w.heap.size w w1) := HB0.out.trans (hb.mono (by omega))
  have HY0 : Hid (Box3 w1 w.heap.size 25 0 0 0) := ⟨by rw [hb.block _ (by omega)]; exact HZ0.out⟩
  have HY1 : Hid (Box3 w1 (w.heap.size + 1) 25 0 0 0) := ⟨by rw [hb.block _ (by omega)]; exact HZ1.out⟩
  clear hcur hb HZ0 HZ1 HB0
  go_wp2_with fail
  refine C2.mono ?_
  rintro e w2 ⟨a, b, c, rfl, hc2, hg2⟩
  clear C2
  have hb2 := below_alloc w2 (boxA a b c)
  have C3 := l5Any_any (w2.alloc (boxA a b c)) (w.heap.size + 1 + 1) w1.heap.size (hc2.alloc _ hg2.size) (by have := hg2.size; simp; omega)
  have HS2 : Hid (w1.heap.size ≤ w2.heap.size) := hg2.size
  have HX2 : Hid (Box3 w2.drew w.heap.size 25 0 0 0 ∧ Box3 w2.drew (w.heap.size + 1) 25 0 0 0 ∧ Below w.heap.size w w2) := ⟨box3_drew (box3_by HY0.out hg2 (by omega)), box3_drew (box3_by HY1.out hg2 (by omega)), HB1.out.grown hg2 HB1.out.size (fun k e => by have := Option.some.inj e; omega)⟩
  clear hc2 hg2 hb2 HY0 HY1 HB1
  go_wp2_with fail
  refine C3.mono ?_
  rintro e w3 ⟨d, f, g, rfl, hc3, hg3⟩
  clear C3
  have HS3 : Hid (w2.heap.size < w3.heap.size) := by have := hg3.size; simp at this; show _ < _; omega
  have HF : Hid (FitW w w1.heap.size w2.heap.size w3.heap.size a b c (w3.alloc (boxA d f g))) := by
    have h1 := HS1.out
    have h2 := HS2.out
    have h3 := HS3.out
    have hb3 := below_alloc w3 (boxA d f g)
    have hbb := below_alloc w2 (boxA a b c)
    have x0 : Box3 (w2.alloc (boxA a b c)) w2.heap.size 25 a b c := ⟨heap_alloc_new w2 _⟩
    have q0 : Box3 w2 w.heap.size 25 0 0 0 := ⟨HX2.out.1.at'⟩
    have q1 : Box3 w2 (w.heap.size + 1) 25 0 0 0 := ⟨HX2.out.2.1.at'⟩
    have hB := (HX2.out.2.2.trans (hbb.mono HX2.out.2.2.size)).grown hg3 (by have := HX2.out.2.2.size; simp; omega) (fun k e => by have := Option.some.inj e; omega)
    refine ⟨hc3.alloc _ (by omega), (box3_by x0 hg3 (by omega)).on hb3 (by omega), ⟨d, f, g, ⟨heap_alloc_new w3 _⟩⟩, ⟨_, _, _, (box3_by (q0.on hbb (by omega)) hg3 (by omega)).on hb3 (by omega)⟩, ⟨_, _, _, (box3_by (q1.on hbb (by omega)) hg3 (by omega)).on hb3 (by omega)⟩, hB.trans (hb3.mono hB.size)⟩
  have C4 := onceE (w3.alloc (boxA d f g)) (w.heap.size + 1 + 1) w1.heap.size 2 HF.out.cur (by decide) (by decide)
  clear hc3 hg3 HX2
  go_wp2_with fail
  refine C4.mono ?_
  rintro e w4 ⟨v, rfl, hc4, hg4⟩
  clear C4
  have H4 : Hid (FitW w w1.heap.size w2.heap.size w3.heap.size a b c w4) := HF.out.by' hg4 hc4 HS2.out HS3.out
  clear hc4 hg4 HF
  have HK : Hid (w.heap.size + 1 + 1 < w1.heap.size ∧ w1.heap.size ≤ w2.heap.size ∧ w2.heap.size < w3.heap.size) := ⟨HS1.out, HS2.out, HS3.out⟩
  clear HS1 HS2 HS3
  cases v with
  | true =>
    have k0 := H4.out.x.c0
    have k1 := H4.out.x.c1
    have k2 := H4.out.x.c2
    obtain ⟨d', f', g', hy⟩ := H4.out.y
    have m0 := hy.c0
    have m1 := hy.c1
    have m2 := hy.c2
    have n0 := hy.f0 0
    have n1 := hy.f0 1
    have n2 := hy.f0 2
    clear hy
    go_wp2_with fail
    clear k0 k1 k2 m0 m1 m2 n0 n1 n2
    refine wp_region_whole (by kernel_rfl) (by kernel_rfl) (by kernel_rfl) (by kernel_rfl) (Flat (FitW w w1.heap.size w2.heap.size w3.heap.size a b c) (gSix w3.heap.size (w.heap.size + 1 + 1))) (flat_start (H4.out.put HK.out.2.1 HK.out.2.2 a b c).drew) ?_ ?_
    · refine ⟨?_, ?_, ?_, ?_, ?_, ?_, ?_, ?_, trivial⟩
      · intro b0 us wz L hslot hoth hLi hR hcl hdo K hK
        have s6 : b0.tmps.getD 6 undef = .pointer (some ⟨w3.heap.size, 0, none⟩) := hoth 6 (by rfl)
        clear hslot hoth hdo hcl hLi
        refine guard_none (by rfl) ?_
        go_simp
        exact hK _ _ (flat_mark (hR.1) gSix_any hR.2 rfl)
      · intro b0 us wz L hslot hoth hLi hR hcl hdo K hK
        have s16 : b0.tmps.getD 16 undef = .pointer (some ⟨w3.heap.size, 2, none⟩) := (hslot 0 16 (by rfl)).trans (hR.2 0 (done_at hdo 0 (by rfl)))
        obtain ⟨p, q, r, hy⟩ := hR.1.y
        have k0 := hy.c2
        have f0 := hy.f0 2
        clear hslot hoth hdo hcl hLi
        refine guard_none (by rfl) ?_
        go_simp
        exact hK _ _ (flat_mark (hR.1) gSix_any hR.2 ⟨r, rfl⟩)
      · intro b0 us wz L hslot hoth hLi hR hcl hdo K hK
        have s4 : b0.tmps.getD 4 undef = .pointer (some ⟨w.heap.size + 1 + 1, 0, none⟩) := hoth 4 (by rfl)
        clear hslot hoth hdo hcl hLi
        refine guard_none (by rfl) ?_
        go_simp
        exact hK _ _ (flat_mark (hR.1) gSix_any hR.2 rfl)
      · intro b0 us wz L hslot hoth hLi hR hcl hdo K hK
        have s18 : b0.tmps.getD 18 undef = .pointer (some ⟨w.heap.size + 1 + 1, 0, none⟩) := (hslot 2 18 (by rfl)).trans (hR.2 2 (done_at hdo 2 (by rfl)))
        have C := belowE wz (w.heap.size + 1 + 1) w1.heap.size 3 hR.1.cur (by decide) (by decide)
        clear hslot hoth hdo hcl hLi
        refine guard_none (by rfl) ?_
        go_simp
        refine C.mono ?_
        rintro e w' ⟨v, rfl, _, hc, hg⟩
        exact hK _ _ (flat_mark (hR.1.by' hg hc HK.out.2.1 HK.out.2.2) gSix_any hR.2 ⟨(v : Int), rfl⟩)
      · intro b0 us wz L hslot hoth hLi hR hcl hdo K hK
        obtain ⟨n1, en1⟩ : ∃ n : Int, us 1 = .int .i64 n := hR.2 1 (done_at hdo 1 (by rfl))
        have s17 : b0.tmps.getD 17 undef = .int .i64 n1 := (hslot 1 17 (by rfl)).trans en1
        obtain ⟨n3, en3⟩ : ∃ n : Int, us 3 = .int .i64 n := hR.2 3 (done_at hdo 3 (by rfl))
        have s19 : b0.tmps.getD 19 undef = .int .i64 n3 := (hslot 3 19 (by rfl)).trans en3
        clear hslot hoth hdo hcl hLi
        refine guard_none (by rfl) ?_
        go_simp
        exact hK _ _ (flat_mark (hR.1) gSix_any hR.2 ⟨_, rfl⟩)
      · intro b0 us wz L hslot hoth hLi hR hcl hdo K hK
        obtain ⟨n4, en4⟩ : ∃ n : Int, us 4 = .int .i64 n := hR.2 4 (done_at hdo 4 (by rfl))
        have s20 : b0.tmps.getD 20 undef = .int .i64 n4 := (hslot 4 20 (by rfl)).trans en4
        clear hslot hoth hdo hcl hLi
        refine guard_none (by rfl) ?_
        go_simp
        exact hK _ _ (flat_mark (hR.1) gSix_any hR.2 ⟨_, rfl⟩)
      · intro b0 us wz L hslot hoth hLi hR hcl hdo K hK
        have s6 : b0.tmps.getD 6 undef = .pointer (some ⟨w3.heap.size, 0, none⟩) := hoth 6 (by rfl)
        clear hslot hoth hdo hcl hLi
        refine guard_none (by rfl) ?_
        go_simp
        exact hK _ _ (flat_mark (hR.1) gSix_any hR.2 rfl)
      · intro b0 us wz L hslot hoth hLi hR hcl hdo K hK
        have s22 : b0.tmps.getD 22 undef = .pointer (some ⟨w3.heap.size, 2, none⟩) := (hslot 6 22 (by rfl)).trans (hR.2 6 (done_at hdo 6 (by rfl)))
        obtain ⟨n5, en5⟩ : ∃ n : Int, us 5 = .int .i64 n := hR.2 5 (done_at hdo 5 (by rfl))
        have s21 : b0.tmps.getD 21 undef = .int .i64 n5 := (hslot 5 21 (by rfl)).trans en5
        obtain ⟨p, q, r, hy⟩ := hR.1.y
        have k0 := hy.c2
        have f0 := hy.f0 2
        clear hslot hoth hdo hcl hLi
        refine guard_none (by rfl) ?_
        go_simp
        exact hK undef _ (flat_mark (hR.1.set2 HK.out.2.1 HK.out.2.2 n5) gSix_any hR.2 trivial)
    · intro us w5 L hall hR a' ha'
      have H5 : Hid (FitW w w1.heap.size w2.heap.size w3.heap.size a b c w5) := hR.1
      clear hR hall H4
      simp only [putAll] at ha'
      subst ha'
      go_frame
      obtain ⟨d1, f1, g1, hy⟩ := H5.out.y
      have HR : Hid (FitR w w2.heap.size w3.heap.size a b c d1 f1 g1 w5) := ⟨H5.out.x, hy, H5.out.z0, H5.out.z1, H5.out.below⟩
      have HL : Hid (w.heap.size + 1 < w2.heap.size ∧ w.heap.size + 1 < w3.heap.size) := by have := HK.out; exact ⟨by omega, by omega⟩
      clear hy H5
      go_wp2_with fail
      refine wp_region_whole (by kernel_rfl) (by kernel_rfl) (by kernel_rfl) (by kernel_rfl) (Flat (FitR w w2.heap.size w3.heap.size a b c d1 f1 g1) (gSev w.heap.size a b c d1 f1 g1)) (flat_start HR.out.drew) ?_ ?_
      · refine ⟨?_, ?_, ?_, ?_, trivial⟩
        · intro b0 us wz L hslot hoth hLi hR hcl hdo K hK
          have s5 : b0.tmps.getD 5 undef = .pointer (some ⟨w2.heap.size, 0, none⟩) := hoth 5 (by rfl)
          have k0 := hR.1.x.c0
          have k1 := hR.1.x.c1
          have k2 := hR.1.x.c2
          clear hslot hoth hdo hcl hLi
          refine guard_none (by rfl) ?_
          go_simp
          exact hK _ _ (flat_mark (hR.1) (fun _ _ h => h) hR.2 rfl)
        · intro b0 us wz L hslot hoth hLi hR hcl hdo K hK
          have s6 : b0.tmps.getD 6 undef = .pointer (some ⟨w3.heap.size, 0, none⟩) := hoth 6 (by rfl)
          have k0 := hR.1.y.c0
          have k1 := hR.1.y.c1
          have k2 := hR.1.y.c2
          clear hslot hoth hdo hcl hLi
          refine guard_none (by rfl) ?_
          go_simp
          exact hK _ _ (flat_mark (hR.1) (fun _ _ h => h) hR.2 rfl)
        · intro b0 us wz L hslot hoth hLi hR hcl hdo K hK
          have s2 : b0.tmps.getD 2 undef = .pointer (some ⟨w.heap.size, 0, none⟩) := hoth 2 (by rfl)
          have s23 : b0.tmps.getD 23 undef = amt a b c := (hslot 0 23 (by rfl)).trans (hR.2 0 (done_at hdo 0 (by rfl)))
          obtain ⟨p, q, r, hz⟩ := hR.1.z0
          have k0 := hz.c0
          have k1 := hz.c1
          have k2 := hz.c2
          have n0 := hz.f0 0
          have n1 := hz.f0 1
          have n2 := hz.f0 2
          clear hslot hoth hdo hcl hLi
          refine guard_none (by rfl) ?_
          go_simp
          exact hK undef _ (flat_mark (hR.1.set0 HL.out.1 HL.out.2 a b c) gSev_set0 hR.2 (hz.w3 a b c))
        · intro b0 us wz L hslot hoth hLi hR hcl hdo K hK
          have s3 : b0.tmps.getD 3 undef = .pointer (some ⟨w.heap.size + 1, 0, none⟩) := hoth 3 (by rfl)
          have s24 : b0.tmps.getD 24 undef = amt d1 f1 g1 := (hslot 1 24 (by rfl)).trans (hR.2 1 (done_at hdo 1 (by rfl)))
          obtain ⟨p, q, r, hz⟩ := hR.1.z1
          have k0 := hz.c0
          have k1 := hz.c1
          have k2 := hz.c2
          have n0 := hz.f0 0
          have n1 := hz.f0 1
          have n2 := hz.f0 2
          clear hslot hoth hdo hcl hLi
          refine guard_none (by rfl) ?_
          go_simp
          exact hK undef _ (flat_mark (hR.1.set1 HL.out.1 HL.out.2 d1 f1 g1) gSev_set1 hR.2 (hz.w3 d1 f1 g1))
      · intro us w7 L hall hR a' ha'
        have x0 : Box3 w7 w.heap.size 25 a b c := hR.2 2 (hall 2 (by decide))
        have x1 : Box3 w7 (w.heap.size + 1) 25 d1 f1 g1 := hR.2 3 (hall 3 (by decide))
        have q0 := x0.c0
        have q1 := x0.c1
        have q2 := x0.c2
        have q3 := x1.c0
        have q4 := x1.c1
        have q5 := x1.c2
        have HW7 : Hid (Below w.heap.size w w7) := hR.1.below
        clear hR x0 x1 hall HR
        simp only [putAll] at ha'
        subst ha'
        go_frame
        go_wp2
        refine bodyPost_ret (v := .tuple #[amt a b c, amt d1 f1 g1]) (by simp [results, go_sem, q0, q1, q2, q3, q4, q5]) rfl ⟨a, b, c, d1, f1, g1, rfl, HW7.out⟩
  | false =>
    obtain ⟨d1, f1, g1, hy⟩ := H4.out.y
    have HR : Hid (FitR w w2.heap.size w3.heap.size a b c d1 f1 g1 w4) := ⟨H4.out.x, hy, H4.out.z0, H4.out.z1, H4.out.below⟩
    have HL : Hid (w.heap.size + 1 < w2.heap.size ∧ w.heap.size + 1 < w3.heap.size) := by have := HK.out; exact ⟨by omega, by omega⟩
    clear hy H4
    go_wp2_with fail
    refine wp_region_whole (by kernel_rfl) (by kernel_rfl) (by kernel_rfl) (by kernel_rfl) (Flat (FitR w w2.heap.size w3.heap.size a b c d1 f1 g1) (gSev w.heap.size a b c d1 f1 g1)) (flat_start HR.out.drew) ?_ ?_
    · refine ⟨?_, ?_, ?_, ?_, trivial⟩
      · intro b0 us wz L hslot hoth hLi hR hcl hdo K hK
        have s5 : b0.tmps.getD 5 undef = .pointer (some ⟨w2.heap.size, 0, none⟩) := hoth 5 (by rfl)
        have k0 := hR.1.x.c0
        have k1 := hR.1.x.c1
        have k2 := hR.1.x.c2
        clear hslot hoth hdo hcl hLi
        refine guard_none (by rfl) ?_
        go_simp
        exact hK _ _ (flat_mark (hR.1) (fun _ _ h => h) hR.2 rfl)
      · intro b0 us wz L hslot hoth hLi hR hcl hdo K hK
        have s6 : b0.tmps.getD 6 undef = .pointer (some ⟨w3.heap.size, 0, none⟩) := hoth 6 (by rfl)
        have k0 := hR.1.y.c0
        have k1 := hR.1.y.c1
        have k2 := hR.1.y.c2
        clear hslot hoth hdo hcl hLi
        refine guard_none (by rfl) ?_
        go_simp
        exact hK _ _ (flat_mark (hR.1) (fun _ _ h => h) hR.2 rfl)
      · intro b0 us wz L hslot hoth hLi hR hcl hdo K hK
        have s2 : b0.tmps.getD 2 undef = .pointer (some ⟨w.heap.size, 0, none⟩) := hoth 2 (by rfl)
        have s23 : b0.tmps.getD 23 undef = amt a b c := (hslot 0 23 (by rfl)).trans (hR.2 0 (done_at hdo 0 (by rfl)))
        obtain ⟨p, q, r, hz⟩ := hR.1.z0
        have k0 := hz.c0
        have k1 := hz.c1
        have k2 := hz.c2
        have n0 := hz.f0 0
        have n1 := hz.f0 1
        have n2 := hz.f0 2
        clear hslot hoth hdo hcl hLi
        refine guard_none (by rfl) ?_
        go_simp
        exact hK undef _ (flat_mark (hR.1.set0 HL.out.1 HL.out.2 a b c) gSev_set0 hR.2 (hz.w3 a b c))
      · intro b0 us wz L hslot hoth hLi hR hcl hdo K hK
        have s3 : b0.tmps.getD 3 undef = .pointer (some ⟨w.heap.size + 1, 0, none⟩) := hoth 3 (by rfl)
        have s24 : b0.tmps.getD 24 undef = amt d1 f1 g1 := (hslot 1 24 (by rfl)).trans (hR.2 1 (done_at hdo 1 (by rfl)))
        obtain ⟨p, q, r, hz⟩ := hR.1.z1
        have k0 := hz.c0
        have k1 := hz.c1
        have k2 := hz.c2
        have n0 := hz.f0 0
        have n1 := hz.f0 1
        have n2 := hz.f0 2
        clear hslot hoth hdo hcl hLi
        refine guard_none (by rfl) ?_
        go_simp
        exact hK undef _ (flat_mark (hR.1.set1 HL.out.1 HL.out.2 d1 f1 g1) gSev_set1 hR.2 (hz.w3 d1 f1 g1))
    · intro us w7 L hall hR a' ha'
      have x0 : Box3 w7 w.heap.size 25 a b c := hR.2 2 (hall 2 (by decide))
      have x1 : Box3 w7 (w.heap.size + 1) 25 d1 f1 g1 := hR.2 3 (hall 3 (by decide))
      have q0 := x0.c0
      have q1 := x0.c1
      have q2 := x0.c2
      have q3 := x1.c0
      have q4 := x1.c1
      have q5 := x1.c2
      have HW7 : Hid (Below w.heap.size w w7) := hR.1.below
      clear hR x0 x1 hall HR
      simp only [putAll] at ha'
      subst ha'
      go_frame
      go_wp2
      refine bodyPost_ret (v := .tuple #[amt a b c, amt d1 f1 g1]) (by simp [results, go_sem, q0, q1, q2, q3, q4, q5]) rfl ⟨a, b, c, d1, f1, g1, rfl, HW7.out⟩
end Go.Proofs.Ytiolhhamedjmgaa
