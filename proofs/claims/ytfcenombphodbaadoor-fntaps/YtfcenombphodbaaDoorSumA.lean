/-
  The sum of the first three trees, both sides. The sum of the first three trees: what the program answers.
-/
import Derived.Test.YtfcenombphodbaaDoorWoodB
import Derived.Deep.DeepCutAuto
namespace Go.Proofs.YtfcenombphodbaaDoor
open Go.RowKit
set_option linter.unusedVariables false
set_option maxRecDepth 100000

theorem treeOk_sum {ts : List Re} (h : treeOk ts = true) : amtOk (sumN Re.a ts 5) (sumN Re.b ts 5) (sumN Re.c ts 5) = true := by
  unfold treeOk at h
  simp only [Bool.and_eq_true] at h
  exact h.2
theorem sumT_small (ts : List Re) : (0 ≤ sumT Re.a ts ∧ sumT Re.a ts ≤ 1000000) ∧ (0 ≤ sumT Re.b ts ∧ sumT Re.b ts ≤ 1000000) ∧ (0 ≤ sumT Re.c ts ∧ sumT Re.c ts ≤ 1000000) := by
  cases h : treeOk ts with
  | false => simp [sumT, h]
  | true =>
    have e := treeOk_sum h
    unfold amtOk at e
    simp only [Bool.and_eq_true] at e
    simp only [sumT, h, if_true]
    exact ⟨numOk_true e.1.1, numOk_true e.1.2, numOk_true e.2⟩
/-- The sum of the first k trees. -/
def sumW (f : Re → Int) (tss : List (List Re)) : Nat → Int
  | 0 => 0
  | k + 1 => sumW f tss k + sumT f (treeAt tss k)
theorem sumW_small (tss : List (List Re)) : ∀ k : Nat, (0 ≤ sumW Re.a tss k ∧ sumW Re.a tss k ≤ 1000000 * (k : Int)) ∧ (0 ≤ sumW Re.b tss k ∧ sumW Re.b tss k ≤ 1000000 * (k : Int)) ∧ (0 ≤ sumW Re.c tss k ∧ sumW Re.c tss k ≤ 1000000 * (k : Int))
  | 0 => by simp [sumW]
  | k + 1 => by
    have h := sumT_small (treeAt tss k)
    have ih := sumW_small tss k
    simp only [sumW]
    omega
/-- Two amounts of the call's own at its head: what is answered, and what is summed. -/
structure Sum2 (w : World) (t : TypeId) (x y z : Int) (wr : World) : Prop where
  below : Below w.heap.size w wr
  r : Box3 wr w.heap.size 37 0 0 0
  s : Box3 wr (w.heap.size + 1) t x y z
theorem Sum2.on {w : World} {t : TypeId} {x y z : Int} {wr w' : World} (h : Sum2 w t x y z wr) (hb : Below wr.heap.size wr w') : Sum2 w t x y z w' :=
  ⟨below_more h.below hb, box_on h.r hb, box_on h.s hb⟩
theorem sum2_start (w : World) : Sum2 w 37 0 0 0 ((w.alloc (boxA 0 0 0)).alloc (boxA 0 0 0)) := by
  have e : Box3 (w.alloc (boxA 0 0 0)) w.heap.size 37 0 0 0 := ⟨heap_alloc_new w _⟩
  exact ⟨by go_grown, box_on e (below_alloc _ _), ⟨by have h := heap_alloc_new (w.alloc (boxA 0 0 0)) (boxA 0 0 0); rw [World.size_alloc] at h; exact h⟩⟩
theorem sum2_startN (w : World) : Sum2 w 60 0 0 0 ((w.alloc (boxA 0 0 0)).alloc (boxN 0 0 0)) := by
  have e : Box3 (w.alloc (boxA 0 0 0)) w.heap.size 37 0 0 0 := ⟨heap_alloc_new w _⟩
  exact ⟨by go_grown, box_on e (below_alloc _ _), ⟨by have h := heap_alloc_new (w.alloc (boxA 0 0 0)) (boxN 0 0 0); rw [World.size_alloc] at h; exact h⟩⟩
/-- All three are added to. -/
theorem Sum2.add {w : World} {t : TypeId} {x y z : Int} {wr : World} (h : Sum2 w t x y z wr) (x' y' z' : Int) : Sum2 w t x' y' z' (((wr.setCell ⟨w.heap.size + 1, 0, none⟩ (.int .i64 x')).setCell ⟨w.heap.size + 1, 1, none⟩ (.int .i64 y')).setCell ⟨w.heap.size + 1, 2, none⟩ (.int .i64 z')) := by
  have hr := h.r.at'
  refine ⟨((h.below.setCell (p := ⟨_, 0, none⟩) (by show _ ≤ _; simp) _).setCell (p := ⟨_, 1, none⟩) (by show _ ≤ _; simp) _).setCell (p := ⟨_, 2, none⟩) (by show _ ≤ _; simp) _, ⟨?_⟩, ⟨?_⟩⟩
  · exact setCell_keep (setCell_keep (setCell_keep hr (by omega)) (by omega)) (by omega)
  · have h1 := heap_setCell_same wr (w.heap.size + 1) 0 _ t (.int .i64 x') h.s.at'
    have h2 := heap_setCell_same _ (w.heap.size + 1) 1 _ t (.int .i64 y') h1
    have h3 := heap_setCell_same _ (w.heap.size + 1) 2 _ t (.int .i64 z') h2
    exact h3
set_option maxHeartbeats 2000000 in
theorem specTreesSum_any (v : Value) (tss : List (List Re)) (w : World) (hx : IsTrees w v tss) (hn : tss.length ≤ 1048576) (ht : ∀ i, (treeAt tss i).length ≤ 1048576) :
    Calls Tryd.prog 12 #[v] w fun e w' => e = .returned (amt (sumW Re.a tss (min tss.length 3)) (sumW Re.b tss (min tss.length 3)) (sumW Re.c tss (min tss.length 3))) ∧ Below w.heap.size w w' := by
  have hx0 := hx
  obtain ⟨a, cap, rfl, hcap, _⟩ := hx
  have HX : Hid (∀ wr, Below w.heap.size w wr → IsTrees wr (.slice a tss.length cap) tss) := fun wr hb => hx0.on hb
  have HT : Hid (∀ i, (treeAt tss i).length ≤ 1048576) := ht
  have H0 : Hid (Sum2 w 37 0 0 0 ((w.alloc (boxA 0 0 0)).alloc (boxA 0 0 0))) := sum2_start w
  clear hx0 ht
  go_enter Tryd.func12, Tryd.ntmps12
  go_wp2
  obtain ⟨V, hV⟩ : ∃ V, V = ((w.alloc (boxA 0 0 0)).alloc (boxA 0 0 0)) := ⟨_, rfl⟩
  rw [← hV] at H0 ⊢
  clear hV
  go_loopw [4] (fun i wr => ∃ k : Nat, k ≤ tss.length ∧ k ≤ 3 ∧ i = .int .i64 k ∧ Hid (Sum2 w 37 (sumW Re.a tss k) (sumW Re.b tss k) (sumW Re.c tss k) wr)) (fun i _ => 3 - (intOf i).toNat)
  case atStart => exact ⟨0, Nat.zero_le _, by omega, rfl, H0⟩
  case round =>
    obtain ⟨k, hk, hk3, rfl, hs⟩ := hrel
    clear H0
    by_cases hlt : k < tss.length
    · by_cases h3 : k < 3
      · obtain ⟨p, q, u, rfl, hq, hc, hu⟩ := (HX.out wr hs.out.below).at hlt
        have C := specTreeSum_any u (treeAt tss k) wr hu (HT.out k)
        have hsm := sumT_small (treeAt tss k)
        have hsw := sumW_small tss k
        have HN : Hid (sumW Re.a tss (k + 1) = sumW Re.a tss k + sumT Re.a (treeAt tss k) ∧ sumW Re.b tss (k + 1) = sumW Re.b tss k + sumT Re.b (treeAt tss k) ∧ sumW Re.c tss (k + 1) = sumW Re.c tss k + sumT Re.c (treeAt tss k)) := ⟨rfl, rfl, rfl⟩
        generalize sumW Re.a tss k = x at hs hsw HN
        generalize sumW Re.b tss k = y at hs hsw HN
        generalize sumW Re.c tss k = z at hs hsw HN
        generalize sumT Re.a (treeAt tss k) = x1 at hsm C HN
        generalize sumT Re.b (treeAt tss k) = y1 at hsm C HN
        generalize sumT Re.c (treeAt tss k) = z1 at hsm C HN
        obtain ⟨⟨sa0, sa1⟩, ⟨sb0, sb1⟩, ⟨sc0, sc1⟩⟩ := hsm
        obtain ⟨⟨ta0, ta1⟩, ⟨tb0, tb1⟩, ⟨tc0, tc1⟩⟩ := hsw
        have wa : wrap64 (x + x1) = x + x1 := by unfold wrap64; omega
        have wb : wrap64 (y + y1) = y + y1 := by unfold wrap64; omega
        have wc : wrap64 (z + z1) = z + z1 := by unfold wrap64; omega
        go_wp2_with fail
        refine C.mono ?_
        rintro e w1 ⟨rfl, hb⟩
        have HS1 := hid_of (hs.out.on hb)
        have hz : w.heap.size + 1 < w1.heap.size := lt_of_block HS1.out.s.at'
        have k0 := HS1.out.s.c0
        have k1 := HS1.out.s.c1
        have k2 := HS1.out.s.c2
        have f0 := HS1.out.s.f0 0
        have f1 := HS1.out.s.f0 1
        have f2 := HS1.out.s.f0 2
        have HS2 := hid_of ((HS1.out.add (x + x1) (y + y1) (z + z1)).on (below_alloc _ (boxA x1 y1 z1)))
        rw [← HN.out.1, ← HN.out.2.1, ← HN.out.2.2] at HS2
        have HS3 : Hid (Sum2 w 37 (sumW Re.a tss (k + 1)) (sumW Re.b tss (k + 1)) (sumW Re.c tss (k + 1)) ((((w1.setCell ⟨w.heap.size + 1, 0, none⟩ (.int .i64 (x + x1))).setCell ⟨w.heap.size + 1, 1, none⟩ (.int .i64 (y + y1))).setCell ⟨w.heap.size + 1, 2, none⟩ (.int .i64 (z + z1))).alloc (boxA x1 y1 z1))) := by
          have e := HS2.out
          rw [HN.out.1, HN.out.2.1, HN.out.2.2] at e ⊢
          exact e
        clear C hb hs hc hu hq HS1 HS2 HN
        go_wp2
        go_roundw
        case rel => exact ⟨k + 1, by omega, by omega, by go_num, HS3⟩
        case measure => simp [intOf]; omega
      · obtain rfl : k = 3 := by omega
        have e : min tss.length 3 = 3 := by omega
        have HE : Hid (min tss.length 3 = 3) := e
        have HR := hs
        have k0 := HR.out.s.c0
        have k1 := HR.out.s.c1
        have k2 := HR.out.s.c2
        have r0 := HR.out.r.c0
        have r1 := HR.out.r.c1
        have r2 := HR.out.r.c2
        have f0 := HR.out.r.f0 0
        have f1 := HR.out.r.f0 1
        have f2 := HR.out.r.f0 2
        have HP := hid_of (HR.out.r.put (.int .i64 (sumW Re.a tss 3)) (.int .i64 (sumW Re.b tss 3)) (.int .i64 (sumW Re.c tss 3)))
        clear hs e
        go_wp2
        obtain ⟨p0, p1, p2⟩ := HP.out
        refine bodyPost_ret (v := amt (sumW Re.a tss 3) (sumW Re.b tss 3) (sumW Re.c tss 3)) (by simp [results, go_sem, p0, p1, p2]) rfl ⟨by rw [HE.out], below_put HR.out.below (Nat.le_refl _) _ _ _⟩
    · obtain rfl : k = tss.length := by omega
      have e : min tss.length 3 = tss.length := by omega
      have HE : Hid (min tss.length 3 = tss.length) := e
      have HR := hs
      have k0 := HR.out.s.c0
      have k1 := HR.out.s.c1
      have k2 := HR.out.s.c2
      have r0 := HR.out.r.c0
      have r1 := HR.out.r.c1
      have r2 := HR.out.r.c2
      have f0 := HR.out.r.f0 0
      have f1 := HR.out.r.f0 1
      have f2 := HR.out.r.f0 2
      have HP := hid_of (HR.out.r.put (.int .i64 (sumW Re.a tss tss.length)) (.int .i64 (sumW Re.b tss tss.length)) (.int .i64 (sumW Re.c tss tss.length)))
      clear hs e
      go_wp2
      obtain ⟨p0, p1, p2⟩ := HP.out
      refine bodyPost_ret (v := amt (sumW Re.a tss tss.length) (sumW Re.b tss tss.length) (sumW Re.c tss tss.length)) (by simp [results, go_sem, p0, p1, p2]) rfl ⟨by rw [HE.out], below_put HR.out.below (Nat.le_refl _) _ _ _⟩
end Go.Proofs.YtfcenombphodbaaDoor
namespace Go.Proofs.YtfcenombphodbaaDoor
open Go.RowKit
set_option linter.unusedVariables false
set_option maxRecDepth 100000

/-- In the midst of adding one tree's sum. -/
structure Half2 (w : World) (m : Nat) (p q r d e f : Int) (wr : World) : Prop where
  o : Sum2 w 60 p q r wr
  bn : Box3 wr m 60 d e f
  lm : w.heap.size + 1 < m
theorem Half2.on {w : World} {m : Nat} {p q r d e f : Int} {wr w' : World} (h : Half2 w m p q r d e f wr) (hb : Below wr.heap.size wr w') : Half2 w m p q r d e f w' := ⟨h.o.on hb, box_on h.bn hb, h.lm⟩
theorem Half2.set {w : World} {m : Nat} {p q r d e f : Int} {wr : World} (h : Half2 w m p q r d e f wr) (i : Nat) (v p' q' r' : Int) (hb : Box3 (wr.setCell ⟨w.heap.size + 1, i, none⟩ (.int .i64 v)).drew (w.heap.size + 1) 60 p' q' r') : Half2 w m p' q' r' d e f (wr.setCell ⟨w.heap.size + 1, i, none⟩ (.int .i64 v)).drew :=
  ⟨⟨(h.o.below.setCell (p := ⟨_, i, none⟩) (by show _ ≤ _; simp) _).drew, h.o.r.away (by omega) _, hb⟩, h.bn.away (by have := h.lm; omega) _, h.lm⟩
theorem Half2.set0 {w : World} {m : Nat} {p q r d e f : Int} {wr : World} (h : Half2 w m p q r d e f wr) (v : Int) : Half2 w m v q r d e f (wr.setCell ⟨w.heap.size + 1, 0, none⟩ (.int .i64 v)).drew :=
  h.set 0 v v q r ⟨heap_setCell_same wr _ 0 _ 60 (.int .i64 v) h.o.s.at'⟩
theorem Half2.set1 {w : World} {m : Nat} {p q r d e f : Int} {wr : World} (h : Half2 w m p q r d e f wr) (v : Int) : Half2 w m p v r d e f (wr.setCell ⟨w.heap.size + 1, 1, none⟩ (.int .i64 v)).drew :=
  h.set 1 v p v r ⟨heap_setCell_same wr _ 1 _ 60 (.int .i64 v) h.o.s.at'⟩
theorem Half2.set2 {w : World} {m : Nat} {p q r d e f : Int} {wr : World} (h : Half2 w m p q r d e f wr) (v : Int) : Half2 w m p q v d e f (wr.setCell ⟨w.heap.size + 1, 2, none⟩ (.int .i64 v)).drew :=
  h.set 2 v p q v ⟨heap_setCell_same wr _ 2 _ 60 (.int .i64 v) h.o.s.at'⟩
theorem half2_start {w : World} {p q r d e f : Int} {wr : World} (h : Sum2 w 60 p q r wr) : Half2 w wr.heap.size p q r d e f (wr.alloc (boxN d e f)) :=
  ⟨h.on (below_alloc _ _), ⟨heap_alloc_new wr _⟩, lt_of_block h.s.at'⟩
set_option maxHeartbeats 4000000 in
theorem implTreesSum_n (p0 : Addr) (cap : Nat) (tss : List (List Re)) (m : Nat) (w : World) (hx : IsTrees w (.slice (some p0) tss.length cap) tss) (hcap : tss.length ≤ cap) (hn : tss.length ≤ 1048576) (ht : ∀ i, (treeAt tss i).length ≤ 1048576) (hm : m = min tss.length 3) (hmm : (tss.length ≤ 3 ∧ m = tss.length) ∨ (3 < tss.length ∧ m = 3)) :
    Calls Tryd.prog 11 #[.slice (some p0) tss.length cap] w fun e w' => e = .returned (amt (sumW Re.a tss m) (sumW Re.b tss m) (sumW Re.c tss m)) ∧ Below w.heap.size w w' := by
  have HX : Hid (∀ wr, Below w.heap.size w wr → IsTrees wr (.slice (some p0) tss.length cap) tss) := fun wr hb => hx.on hb
  have HT : Hid (∀ i, (treeAt tss i).length ≤ 1048576) := ht
  have H0 : Hid (Sum2 w 60 0 0 0 ((w.alloc (boxA 0 0 0)).alloc (boxN 0 0 0))) := sum2_startN w
  have HML : Hid (m ≤ tss.length ∧ m ≤ 3) := ⟨by omega, by omega⟩
  have hmc : m ≤ cap := by omega
  clear hx ht hm
  rcases hmm with ⟨h3, hm⟩ | ⟨h3, hm⟩
  · subst hm
    go_enter Tryd.func11, Tryd.ntmps11
    go_wp2
    obtain ⟨V, hV⟩ : ∃ V, V = ((w.alloc (boxA 0 0 0)).alloc (boxN 0 0 0)) := ⟨_, rfl⟩
    rw [← hV] at H0 ⊢
    clear hV
    go_loopw [14] (fun i wr => ∃ k : Nat, k ≤ tss.length ∧ i = .int .i64 k ∧ Hid (Sum2 w 60 (sumW Re.a tss k) (sumW Re.b tss k) (sumW Re.c tss k) wr)) (fun i _ => tss.length - (intOf i).toNat)
    case atStart => exact ⟨0, Nat.zero_le _, rfl, H0⟩
    case round =>
      obtain ⟨k, hk, rfl, hs⟩ := hrel
      clear H0
      by_cases hlt : k < tss.length
      · obtain ⟨p, q, u, hp, hq, hc, hu⟩ := (HX.out wr hs.out.below).at (i := k) (by omega)
        obtain rfl : p0 = p := by simpa using hp
        clear hp
        have hu0 := hu
        obtain ⟨ua, uc, rfl, -, -⟩ := hu
        have hk3 : k < 3 := by omega
        have hkt : k < tss.length := by omega
        have HC := hid_of (fun w' (hb : Below wr.heap.size wr w') => implTreeSum_any _ (treeAt tss k) w' (hu0.on hb) (HT.out k))
        have hsm := sumT_small (treeAt tss k)
        have hsw := sumW_small tss k
        have HN : Hid (∀ x, x = sumW Re.a tss k + sumT Re.a (treeAt tss k) → x = sumW Re.a tss (k + 1)) := fun x e => e
        have HNb : Hid (∀ x, x = sumW Re.b tss k + sumT Re.b (treeAt tss k) → x = sumW Re.b tss (k + 1)) := fun x e => e
        have HNc : Hid (∀ x, x = sumW Re.c tss k + sumT Re.c (treeAt tss k) → x = sumW Re.c tss (k + 1)) := fun x e => e
        generalize sumW Re.a tss k = x at hs hsw HN
        generalize sumW Re.b tss k = y at hs hsw HNb
        generalize sumW Re.c tss k = z at hs hsw HNc
        generalize sumT Re.a (treeAt tss k) = x1 at hsm HC HN
        generalize sumT Re.b (treeAt tss k) = y1 at hsm HC HNb
        generalize sumT Re.c (treeAt tss k) = z1 at hsm HC HNc
        obtain ⟨⟨sa0, sa1⟩, ⟨sb0, sb1⟩, ⟨sc0, sc1⟩⟩ := hsm
        obtain ⟨⟨ta0, ta1⟩, ⟨tb0, tb1⟩, ⟨tc0, tc1⟩⟩ := hsw
        have wa : wrap64 (x + x1) = x + x1 := by unfold wrap64; omega
        have wb : wrap64 (y + y1) = y + y1 := by unfold wrap64; omega
        have wc : wrap64 (z + z1) = z + z1 := by unfold wrap64; omega
        clear sa0 sa1 sb0 sb1 sc0 sc1 ta0 ta1 tb0 tb1 tc0 tc1
        go_wp2_with fail
        refine (HC.out _ (below_alloc _ _)).mono ?_
        rintro e w1 ⟨rfl, hb⟩
        have HS1 := hid_of ((hs.out.on (below_alloc _ _)).on hb)
        have C1 := fun w => numbersOf_in x1 y1 z1 w
        clear HC hb hs hc hu0 hq
        go_wp2_with fail
        refine (C1 _).mono ?_
        rintro e w2 ⟨rfl, rfl⟩
        have HH := hid_of (half2_start (d := x1) (e := y1) (f := z1) ((HS1.out.on (below_alloc w1 (boxA x1 y1 z1))).on (below_alloc _ (boxN x1 y1 z1))))
        have hgm : ((w1.alloc (boxA x1 y1 z1)).alloc (boxN x1 y1 z1)).heap.size = w1.heap.size + 1 + 1 := by simp
        rw [hgm] at HH
        clear C1 HS1 hgm
        go_wp2
        obtain ⟨w4, hw⟩ : ∃ W, W = ((w1.alloc (boxA x1 y1 z1)).alloc (boxN x1 y1 z1)).alloc (boxN x1 y1 z1) := ⟨_, rfl⟩
        rw [← hw] at HH ⊢
        obtain ⟨gm, hg⟩ : ∃ g, g = w1.heap.size + 1 + 1 := ⟨_, rfl⟩
        rw [← hg] at HH ⊢
        clear hw hg
        refine wp_loop_rounds 4 ?_
        rw [rounds_succ]
        go_wp2
        have k0 := HH.out.o.s.c0
        have l0 := HH.out.bn.c0
        have f0 := HH.out.o.s.f0 0
        go_region
        obtain ⟨w5, hw⟩ : ∃ X, X = (w4.setCell ⟨w.heap.size + 1, 0, none⟩ (.int .i64 (x + x1))).drew := ⟨_, rfl⟩
        rw [← hw]
        replace HH := hid_of (HH.out.set0 (x + x1))
        rw [← hw] at HH
        clear hw k0 l0 f0
        go_wp2
        rw [rounds_succ]
        go_wp2
        have k0 := HH.out.o.s.c1
        have l0 := HH.out.bn.c1
        have f0 := HH.out.o.s.f0 1
        go_region
        obtain ⟨w6, hw⟩ : ∃ X, X = (w5.setCell ⟨w.heap.size + 1, 1, none⟩ (.int .i64 (y + y1))).drew := ⟨_, rfl⟩
        rw [← hw]
        replace HH := hid_of (HH.out.set1 (y + y1))
        rw [← hw] at HH
        clear hw k0 l0 f0
        go_wp2
        rw [rounds_succ]
        go_wp2
        have k0 := HH.out.o.s.c2
        have l0 := HH.out.bn.c2
        have f0 := HH.out.o.s.f0 2
        go_region
        obtain ⟨w7, hw⟩ : ∃ X, X = (w6.setCell ⟨w.heap.size + 1, 2, none⟩ (.int .i64 (z + z1))).drew := ⟨_, rfl⟩
        rw [← hw]
        replace HH := hid_of (HH.out.set2 (z + z1))
        rw [← hw] at HH
        clear hw k0 l0 f0
        go_wp2
        rw [rounds_succ]
        go_wp2
        have HS3 : Hid (Sum2 w 60 (sumW Re.a tss (k + 1)) (sumW Re.b tss (k + 1)) (sumW Re.c tss (k + 1)) w7) := by
          have e := HH.out.o
          rw [HN.out _ rfl, HNb.out _ rfl, HNc.out _ rfl] at e
          exact e
        exact ⟨⟨k + 1, by omega, by go_num, HS3⟩, by simp [intOf]; omega⟩
      · obtain rfl : k = tss.length := by omega
        have HR := hs
        have C3 := fun w => amtOf_in (sumW Re.a tss tss.length) (sumW Re.b tss tss.length) (sumW Re.c tss tss.length) w
        obtain ⟨x, hx⟩ : ∃ x, x = sumW Re.a tss tss.length := ⟨_, rfl⟩
        have HEx : Hid (x = sumW Re.a tss tss.length) := hx
        rw [← hx] at HR C3
        clear hx
        obtain ⟨y, hy⟩ : ∃ x, x = sumW Re.b tss tss.length := ⟨_, rfl⟩
        have HEy : Hid (y = sumW Re.b tss tss.length) := hy
        rw [← hy] at HR C3
        clear hy
        obtain ⟨z, hz⟩ : ∃ x, x = sumW Re.c tss tss.length := ⟨_, rfl⟩
        have HEz : Hid (z = sumW Re.c tss tss.length) := hz
        rw [← hz] at HR C3
        clear hz
        have k0 := HR.out.s.c0
        have k1 := HR.out.s.c1
        have k2 := HR.out.s.c2
        clear hs
        go_wp2_with fail
        refine (C3 _).mono ?_
        rintro e w2 ⟨rfl, rfl⟩
        have HR1 := hid_of ((HR.out.on (below_alloc wr (boxN x y z))).on (below_alloc _ (boxA x y z)))
        clear C3 HR k0 k1 k2
        obtain ⟨w9, hw⟩ : ∃ W, W = (wr.alloc (boxN x y z)).alloc (boxA x y z) := ⟨_, rfl⟩
        rw [← hw] at HR1 ⊢
        clear hw
        have r0 := HR1.out.r.c0
        have r1 := HR1.out.r.c1
        have r2 := HR1.out.r.c2
        have f0 := HR1.out.r.f0 0
        have f1 := HR1.out.r.f0 1
        have f2 := HR1.out.r.f0 2
        have HP := hid_of (HR1.out.r.put (.int .i64 x) (.int .i64 y) (.int .i64 z))
        go_wp2
        obtain ⟨p0, p1, p2⟩ := HP.out
        refine bodyPost_ret (v := amt x y z) (by simp [results, go_sem, p0, p1, p2]) rfl ⟨by rw [HEx.out, HEy.out, HEz.out], below_put HR1.out.below (Nat.le_refl _) _ _ _⟩
  · subst hm
    go_enter Tryd.func11, Tryd.ntmps11
    go_wp2
    obtain ⟨V, hV⟩ : ∃ V, V = ((w.alloc (boxA 0 0 0)).alloc (boxN 0 0 0)) := ⟨_, rfl⟩
    rw [← hV] at H0 ⊢
    clear hV
    go_loopw [14] (fun i wr => ∃ k : Nat, k ≤ 3 ∧ i = .int .i64 k ∧ Hid (Sum2 w 60 (sumW Re.a tss k) (sumW Re.b tss k) (sumW Re.c tss k) wr)) (fun i _ => 3 - (intOf i).toNat)
    case atStart => exact ⟨0, Nat.zero_le _, rfl, H0⟩
    case round =>
      obtain ⟨k, hk, rfl, hs⟩ := hrel
      clear H0
      by_cases hlt : k < 3
      · obtain ⟨p, q, u, hp, hq, hc, hu⟩ := (HX.out wr hs.out.below).at (i := k) (by omega)
        obtain rfl : p0 = p := by simpa using hp
        clear hp
        have hu0 := hu
        obtain ⟨ua, uc, rfl, -, -⟩ := hu
        have hk3 : k < 3 := by omega
        have hkt : k < tss.length := by omega
        have HC := hid_of (fun w' (hb : Below wr.heap.size wr w') => implTreeSum_any _ (treeAt tss k) w' (hu0.on hb) (HT.out k))
        have hsm := sumT_small (treeAt tss k)
        have hsw := sumW_small tss k
        have HN : Hid (∀ x, x = sumW Re.a tss k + sumT Re.a (treeAt tss k) → x = sumW Re.a tss (k + 1)) := fun x e => e
        have HNb : Hid (∀ x, x = sumW Re.b tss k + sumT Re.b (treeAt tss k) → x = sumW Re.b tss (k + 1)) := fun x e => e
        have HNc : Hid (∀ x, x = sumW Re.c tss k + sumT Re.c (treeAt tss k) → x = sumW Re.c tss (k + 1)) := fun x e => e
        generalize sumW Re.a tss k = x at hs hsw HN
        generalize sumW Re.b tss k = y at hs hsw HNb
        generalize sumW Re.c tss k = z at hs hsw HNc
        generalize sumT Re.a (treeAt tss k) = x1 at hsm HC HN
        generalize sumT Re.b (treeAt tss k) = y1 at hsm HC HNb
        generalize sumT Re.c (treeAt tss k) = z1 at hsm HC HNc
        obtain ⟨⟨sa0, sa1⟩, ⟨sb0, sb1⟩, ⟨sc0, sc1⟩⟩ := hsm
        obtain ⟨⟨ta0, ta1⟩, ⟨tb0, tb1⟩, ⟨tc0, tc1⟩⟩ := hsw
        have wa : wrap64 (x + x1) = x + x1 := by unfold wrap64; omega
        have wb : wrap64 (y + y1) = y + y1 := by unfold wrap64; omega
        have wc : wrap64 (z + z1) = z + z1 := by unfold wrap64; omega
        clear sa0 sa1 sb0 sb1 sc0 sc1 ta0 ta1 tb0 tb1 tc0 tc1
        go_wp2_with fail
        refine (HC.out _ (below_alloc _ _)).mono ?_
        rintro e w1 ⟨rfl, hb⟩
        have HS1 := hid_of ((hs.out.on (below_alloc _ _)).on hb)
        have C1 := fun w => numbersOf_in x1 y1 z1 w
        clear HC hb hs hc hu0 hq
        go_wp2_with fail
        refine (C1 _).mono ?_
        rintro e w2 ⟨rfl, rfl⟩
        have HH := hid_of (half2_start (d := x1) (e := y1) (f := z1) ((HS1.out.on (below_alloc w1 (boxA x1 y1 z1))).on (below_alloc _ (boxN x1 y1 z1))))
        have hgm : ((w1.alloc (boxA x1 y1 z1)).alloc (boxN x1 y1 z1)).heap.size = w1.heap.size + 1 + 1 := by simp
        rw [hgm] at HH
        clear C1 HS1 hgm
        go_wp2
        obtain ⟨w4, hw⟩ : ∃ W, W = ((w1.alloc (boxA x1 y1 z1)).alloc (boxN x1 y1 z1)).alloc (boxN x1 y1 z1) := ⟨_, rfl⟩
        rw [← hw] at HH ⊢
        obtain ⟨gm, hg⟩ : ∃ g, g = w1.heap.size + 1 + 1 := ⟨_, rfl⟩
        rw [← hg] at HH ⊢
        clear hw hg
        refine wp_loop_rounds 4 ?_
        rw [rounds_succ]
        go_wp2
        have k0 := HH.out.o.s.c0
        have l0 := HH.out.bn.c0
        have f0 := HH.out.o.s.f0 0
        go_region
        obtain ⟨w5, hw⟩ : ∃ X, X = (w4.setCell ⟨w.heap.size + 1, 0, none⟩ (.int .i64 (x + x1))).drew := ⟨_, rfl⟩
        rw [← hw]
        replace HH := hid_of (HH.out.set0 (x + x1))
        rw [← hw] at HH
        clear hw k0 l0 f0
        go_wp2
        rw [rounds_succ]
        go_wp2
        have k0 := HH.out.o.s.c1
        have l0 := HH.out.bn.c1
        have f0 := HH.out.o.s.f0 1
        go_region
        obtain ⟨w6, hw⟩ : ∃ X, X = (w5.setCell ⟨w.heap.size + 1, 1, none⟩ (.int .i64 (y + y1))).drew := ⟨_, rfl⟩
        rw [← hw]
        replace HH := hid_of (HH.out.set1 (y + y1))
        rw [← hw] at HH
        clear hw k0 l0 f0
        go_wp2
        rw [rounds_succ]
        go_wp2
        have k0 := HH.out.o.s.c2
        have l0 := HH.out.bn.c2
        have f0 := HH.out.o.s.f0 2
        go_region
        obtain ⟨w7, hw⟩ : ∃ X, X = (w6.setCell ⟨w.heap.size + 1, 2, none⟩ (.int .i64 (z + z1))).drew := ⟨_, rfl⟩
        rw [← hw]
        replace HH := hid_of (HH.out.set2 (z + z1))
        rw [← hw] at HH
        clear hw k0 l0 f0
        go_wp2
        rw [rounds_succ]
        go_wp2
        have HS3 : Hid (Sum2 w 60 (sumW Re.a tss (k + 1)) (sumW Re.b tss (k + 1)) (sumW Re.c tss (k + 1)) w7) := by
          have e := HH.out.o
          rw [HN.out _ rfl, HNb.out _ rfl, HNc.out _ rfl] at e
          exact e
        exact ⟨⟨k + 1, by omega, by go_num, HS3⟩, by simp [intOf]; omega⟩
      · obtain rfl : k = 3 := by omega
        have HR := hs
        have C3 := fun w => amtOf_in (sumW Re.a tss 3) (sumW Re.b tss 3) (sumW Re.c tss 3) w
        obtain ⟨x, hx⟩ : ∃ x, x = sumW Re.a tss 3 := ⟨_, rfl⟩
        have HEx : Hid (x = sumW Re.a tss 3) := hx
        rw [← hx] at HR C3
        clear hx
        obtain ⟨y, hy⟩ : ∃ x, x = sumW Re.b tss 3 := ⟨_, rfl⟩
        have HEy : Hid (y = sumW Re.b tss 3) := hy
        rw [← hy] at HR C3
        clear hy
        obtain ⟨z, hz⟩ : ∃ x, x = sumW Re.c tss 3 := ⟨_, rfl⟩
        have HEz : Hid (z = sumW Re.c tss 3) := hz
        rw [← hz] at HR C3
        clear hz
        have k0 := HR.out.s.c0
        have k1 := HR.out.s.c1
        have k2 := HR.out.s.c2
        clear hs
        go_wp2_with fail
        refine (C3 _).mono ?_
        rintro e w2 ⟨rfl, rfl⟩
        have HR1 := hid_of ((HR.out.on (below_alloc wr (boxN x y z))).on (below_alloc _ (boxA x y z)))
        clear C3 HR k0 k1 k2
        obtain ⟨w9, hw⟩ : ∃ W, W = (wr.alloc (boxN x y z)).alloc (boxA x y z) := ⟨_, rfl⟩
        rw [← hw] at HR1 ⊢
        clear hw
        have r0 := HR1.out.r.c0
        have r1 := HR1.out.r.c1
        have r2 := HR1.out.r.c2
        have f0 := HR1.out.r.f0 0
        have f1 := HR1.out.r.f0 1
        have f2 := HR1.out.r.f0 2
        have HP := hid_of (HR1.out.r.put (.int .i64 x) (.int .i64 y) (.int .i64 z))
        go_wp2
        obtain ⟨p0, p1, p2⟩ := HP.out
        refine bodyPost_ret (v := amt x y z) (by simp [results, go_sem, p0, p1, p2]) rfl ⟨by rw [HEx.out, HEy.out, HEz.out], below_put HR1.out.below (Nat.le_refl _) _ _ _⟩
theorem implTreesSum_any (v : Value) (tss : List (List Re)) (w : World) (hx : IsWood w v tss) (hn : tss.length ≤ 1048576) (ht : ∀ i, (treeAt tss i).length ≤ 1048576) :
    Calls Tryd.prog 11 #[v] w fun e w' => e = .returned (amt (sumW Re.a tss (min tss.length 3)) (sumW Re.b tss (min tss.length 3)) (sumW Re.c tss (min tss.length 3))) ∧ Below w.heap.size w w' := by
  have hx1 := hx.trees
  obtain ⟨p, cap, rfl, hcap, _⟩ := hx
  exact implTreesSum_n p cap tss (min tss.length 3) w hx1 hcap hn ht rfl (by omega)
end Go.Proofs.YtfcenombphodbaaDoor
