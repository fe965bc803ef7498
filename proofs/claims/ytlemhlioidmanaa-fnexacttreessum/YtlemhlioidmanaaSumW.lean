/-
  The sum of the first three trees, both sides.
-/
import Derived.Test.YtlemhlioidmanaaWood3
namespace Go.Proofs.Ytlemhlioidmanaa
open Go.RowKit
set_option linter.unusedVariables false

theorem treeOk_sum {ts : List Re} (h : treeOk ts = true) : amtOk (sumN Re.a ts 5) (sumN Re.b ts 5) (sumN Re.c ts 5) = true := by
  unfold treeOk at h
  simp only [Bool.and_eq_true] at h
  exact h.2
theorem sumT_small (ts : List Re) : (0 ≤ sumT Re.a ts ∧ sumT Re.a ts ≤ 1000000) ∧ (0 ≤ sumT Re.b ts ∧ sumT Re.b ts ≤ 1000000) ∧ (0 ≤ sumT Re.c ts ∧ sumT Re.c ts ≤ 1000000) := by
  cases h : treeOk ts with
  | false => simp [sumT, h]
  | true =>
    have e := treeOk_sum h
    unfold amtOk at e
    simp only [Bool.and_eq_true] at e
    simp only [sumT, h, if_true]
    exact ⟨numOk_true e.1.1, numOk_true e.1.2, numOk_true e.2⟩
/-- The sum of the first k trees. -/
def sumW (f : Re → Int) (tss : List (List Re)) : Nat → Int
  | 0 => 0
  | k + 1 => sumW f tss k + sumT f (treeAt tss k)
theorem sumW_small (tss : List (List Re)) : ∀ k : Nat, (0 ≤ sumW Re.a tss k ∧ sumW Re.a tss k ≤ 1000000 * (k : Int)) ∧ (0 ≤ sumW Re.b tss k ∧ sumW Re.b tss k ≤ 1000000 * (k : Int)) ∧ (0 ≤ sumW Re.c tss k ∧ sumW Re.c tss k ≤ 1000000 * (k : Int))
  | 0 => by simp [sumW]
  | k + 1 => by
    have h := sumT_small (treeAt tss k)
    have ih := sumW_small tss k
    simp only [sumW]
    omega
/-- Two amounts of the call's own at its head: what is answered, and what is summed. -/
structure Sum2 (w : World) (t : TypeId) (x y z : Int) (wr : World) : Prop where
  below : Below w.heap.size w wr
  r : Box3 wr w.heap.size 31 0 0 0
  s : Box3 wr (w.heap.size + 1) t x y z
theorem Sum2.on {w : World} {t : TypeId} {x y z : Int} {wr w' : World} (h : Sum2 w t x y z wr) (hb : Below wr.heap.size wr w') : Sum2 w t x y z w' :=
  ⟨below_more h.below hb, box_on h.r hb, box_on h.s hb⟩
theorem sum2_start (w : World) : Sum2 w 31 0 0 0 ((w.alloc (boxA 0 0 0)).alloc (boxA 0 0 0)) := by
  have e : Box3 (w.alloc (boxA 0 0 0)) w.heap.size 31 0 0 0 := ⟨heap_alloc_new w _⟩
  exact ⟨by go_grown, box_on e (below_alloc _ _), ⟨by have h := heap_alloc_new (w.alloc (boxA 0 0 0)) (boxA 0 0 0); rw [World.size_alloc] at h; exact h⟩⟩
theorem sum2_startN (w : World) : Sum2 w 60 0 0 0 ((w.alloc (boxA 0 0 0)).alloc (boxN 0 0 0)) := by
  have e : Box3 (w.alloc (boxA 0 0 0)) w.heap.size 31 0 0 0 := ⟨heap_alloc_new w _⟩
  exact ⟨by go_grown, box_on e (below_alloc _ _), ⟨by have h := heap_alloc_new (w.alloc (boxA 0 0 0)) (boxN 0 0 0); rw [World.size_alloc] at h; exact h⟩⟩
/-- All three are added to. -/
theorem Sum2.add {w : World} {t : TypeId} {x y z : Int} {wr : World} (h : Sum2 w t x y z wr) (x' y' z' : Int) : Sum2 w t x' y' z' (((wr.setCell ⟨w.heap.size + 1, 0, none⟩ (.int .i64 x')).setCell ⟨w.heap.size + 1, 1, none⟩ (.int .i64 y')).setCell ⟨w.heap.size + 1, 2, none⟩ (.int .i64 z')) := by
  have hr := h.r.at'
  refine ⟨((h.below.setCell (p := ⟨_, 0, none⟩) (by show _ ≤ _; simp) _).setCell (p := ⟨_, 1, none⟩) (by show _ ≤ _; simp) _).setCell (p := ⟨_, 2, none⟩) (by show _ ≤ _; simp) _, ⟨?_⟩, ⟨?_⟩⟩
  · exact setCell_keep (setCell_keep (setCell_keep hr (by omega)) (by omega)) (by omega)
  · have h1 := heap_setCell_same wr (w.heap.size + 1) 0 _ t (.int .i64 x') h.s.at'
    have h2 := heap_setCell_same _ (w.heap.size + 1) 1 _ t (.int .i64 y') h1
    have h3 := heap_setCell_same _ (w.heap.size + 1) 2 _ t (.int .i64 z') h2
    exact h3
set_option maxHeartbeats 2000000 in
theorem specTreesSum_any (v : Value) (tss : List (List Re)) (w : World) (hx : IsTrees w v tss) (hn : tss.length ≤ 1048576) (ht : ∀ i, (treeAt tss i).length ≤ 1048576) :
    Calls Try.prog 13 #[v] w fun e w' => e = .returned (amt (sumW Re.a tss (min tss.length 3)) (sumW Re.b tss (min tss.length 3)) (sumW Re.c tss (min tss.length 3))) ∧ Below w.heap.size w w' := by
  have hx0 := hx
  obtain ⟨a, cap, rfl, hcap, _⟩ := hx
  have HX : Hid (∀ wr, Below w.heap.size w wr → IsTrees wr (.slice a tss.length cap) tss) := fun wr hb => hx0.on hb
  have HT : Hid (∀ i, (treeAt tss i).length ≤ 1048576) := ht
  have H0 : Hid (Sum2 w 31 0 0 0 ((w.alloc (boxA 0 0 0)).alloc (boxA 0 0 0))) := sum2_start w
  clear hx0 ht
  go_enter Try.func13, Try.ntmps13
  go_wp2
  obtain ⟨V, hV⟩ : ∃ V, V = ((w.alloc (boxA 0 0 0)).alloc (boxA 0 0 0)) := ⟨_, rfl⟩
  rw [← hV] at H0 ⊢
  clear hV
  go_loopw [4] (fun i wr => ∃ k : Nat, k ≤ tss.length ∧ k ≤ 3 ∧ i = .int .i64 k ∧ Hid (Sum2 w 31 (sumW Re.a tss k) (sumW Re.b tss k) (sumW Re.c tss k) wr)) (fun i _ => 3 - (intOf i).toNat)
  case atStart => exact ⟨0, Nat.zero_le _, by omega, rfl, H0⟩
  case round =>
    obtain ⟨k, hk, hk3, rfl, hs⟩ := hrel
    clear H0
    by_cases hlt : k < tss.length
    · by_cases h3 : k < 3
      · obtain ⟨p, q, u, rfl, hq, hc, hu⟩ := (HX.out wr hs.out.below).at hlt
        have C := specTreeSum_any u (treeAt tss k) wr hu (HT.out k)
        have hsm := sumT_small (treeAt tss k)
        have hsw := sumW_small tss k
        have HN : Hid (sumW Re.a tss (k + 1) = sumW Re.a tss k + sumT Re.a (treeAt tss k) ∧ sumW Re.b tss (k + 1) = sumW Re.b tss k + sumT Re.b (treeAt tss k) ∧ sumW Re.c tss (k + 1) = sumW Re.c tss k + sumT Re.c (treeAt tss k)) := ⟨rfl, rfl, rfl⟩
        generalize sumW Re.a tss k = x at hs hsw HN
        generalize sumW Re.b tss k = y at hs hsw HN
        generalize sumW Re.c tss k = z at hs hsw HN
        generalize sumT Re.a (treeAt tss k) = x1 at hsm C HN
        generalize sumT Re.b (treeAt tss k) = y1 at hsm C HN
        generalize sumT Re.c (treeAt tss k) = z1 at hsm C HN
        obtain ⟨⟨sa0, sa1⟩, ⟨sb0, sb1⟩, ⟨sc0, sc1⟩⟩ := hsm
        obtain ⟨⟨ta0, ta1⟩, ⟨tb0, tb1⟩, ⟨tc0, tc1⟩⟩ := hsw
        have wa : wrap64 (x + x1) = x + x1 := by unfold wrap64; omega
        have wb : wrap64 (y + y1) = y + y1 := by unfold wrap64; omega
        have wc : wrap64 (z + z1) = z + z1 := by unfold wrap64; omega
        go_wp2_with fail
        refine C.mono ?_
        rintro e w1 ⟨rfl, hb⟩
        have HS1 := hid_of (hs.out.on hb)
        have hz : w.heap.size + 1 < w1.heap.size := lt_of_block HS1.out.s.at'
        have k0 := HS1.out.s.c0
        have k1 := HS1.out.s.c1
        have k2 := HS1.out.s.c2
        have f0 := HS1.out.s.f0 0
        have f1 := HS1.out.s.f0 1
        have f2 := HS1.out.s.f0 2
        have HS2 := hid_of ((HS1.out.add (x + x1) (y + y1) (z + z1)).on (below_alloc _ (boxA x1 y1 z1)))
        rw [← HN.out.1, ← HN.out.2.1, ← HN.out.2.2] at HS2
        have HS3 : Hid (Sum2 w 31 (sumW Re.a tss (k + 1)) (sumW Re.b tss (k + 1)) (sumW Re.c tss (k + 1)) ((((w1.setCell ⟨w.heap.size + 1, 0, none⟩ (.int .i64 (x + x1))).setCell ⟨w.heap.size + 1, 1, none⟩ (.int .i64 (y + y1))).setCell ⟨w.heap.size + 1, 2, none⟩ (.int .i64 (z + z1))).alloc (boxA x1 y1 z1))) := by
          have e := HS2.out
          rw [HN.out.1, HN.out.2.1, HN.out.2.2] at e ⊢
          exact e
        clear C hb hs hc hu hq HS1 HS2 HN
        go_wp2
        go_roundw
        case rel => exact ⟨k + 1, by omega, by omega, by go_num, HS3⟩
        case measure => simp [intOf]; omega
      · obtain rfl : k = 3 := by omega
        have e : min tss.length 3 = 3 := by omega
        have HE : Hid (min tss.length 3 = 3) := e
        have HR := hs
        have k0 := HR.out.s.c0
        have k1 := HR.out.s.c1
        have k2 := HR.out.s.c2
        have r0 := HR.out.r.c0
        have r1 := HR.out.r.c1
        have r2 := HR.out.r.c2
        have f0 := HR.out.r.f0 0
        have f1 := HR.out.r.f0 1
        have f2 := HR.out.r.f0 2
        have HP := hid_of (HR.out.r.put (.int .i64 (sumW Re.a tss 3)) (.int .i64 (sumW Re.b tss 3)) (.int .i64 (sumW Re.c tss 3)))
        clear hs e
        go_wp2
        obtain ⟨p0, p1, p2⟩ := HP.out
        refine bodyPost_ret (v := amt (sumW Re.a tss 3) (sumW Re.b tss 3) (sumW Re.c tss 3)) (by simp [results, go_sem, p0, p1, p2]) rfl ⟨by rw [HE.out], below_put HR.out.below (Nat.le_refl _) _ _ _⟩
    · obtain rfl : k = tss.length := by omega
      have e : min tss.length 3 = tss.length := by omega
      have HE : Hid (min tss.length 3 = tss.length) := e
      have HR := hs
      have k0 := HR.out.s.c0
      have k1 := HR.out.s.c1
      have k2 := HR.out.s.c2
      have r0 := HR.out.r.c0
      have r1 := HR.out.r.c1
      have r2 := HR.out.r.c2
      have f0 := HR.out.r.f0 0
      have f1 := HR.out.r.f0 1
      have f2 := HR.out.r.f0 2
      have HP := hid_of (HR.out.r.put (.int .i64 (sumW Re.a tss tss.length)) (.int .i64 (sumW Re.b tss tss.length)) (.int .i64 (sumW Re.c tss tss.length)))
      clear hs e
      go_wp2
      obtain ⟨p0, p1, p2⟩ := HP.out
      refine bodyPost_ret (v := amt (sumW Re.a tss tss.length) (sumW Re.b tss tss.length) (sumW Re.c tss tss.length)) (by simp [results, go_sem, p0, p1, p2]) rfl ⟨by rw [HE.out], below_put HR.out.below (Nat.le_refl _) _ _ _⟩
end Go.Proofs.Ytlemhlioidmanaa
