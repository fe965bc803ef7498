/-
  DrawFlowsFor: an owner and two labels out of a code.
-/
import Derived.Test.YtbahokkofidmeaaDrawO
import Derived.Test.YtbahokkofidmeaaInv2
namespace Go.Proofs.Ytbahokkofidmeaa
open Go.RowKit
set_option linter.unusedVariables false

/-- What was drawn, its boxes, and the answer's places. -/
structure ForW (w : World) (b7 b8 : Nat) (v r1 r2 : Value) (own xs ys : List Int) (wz : World) : Prop where
  o : wz.ownsRow (w.heap.size + 1 + 1) 3 1 v own.length (icells own)
  x : wz.ownsRow (w.heap.size + 1 + 1) 3 1 r1 xs.length (icells xs)
  y : wz.ownsRow (w.heap.size + 1 + 1) 3 1 r2 ys.length (icells ys)
  c7 : wz.heap[b7]? = some (.cells #[r1] 26 (0, 0))
  c8 : wz.heap[b8]? = some (.cells #[r2] 26 (0, 0))
  z0 : ∃ u, wz.heap[w.heap.size]? = some (.cells #[u] 26 (0, 0))
  z1 : ∃ u, wz.heap[w.heap.size + 1]? = some (.cells #[u] 26 (0, 0))
  below : Below w.heap.size w wz
theorem ForW.set0 {w : World} {b7 b8 : Nat} {v r1 r2 : Value} {own xs ys : List Int} {wz : World} (h : ForW w b7 b8 v r1 r2 own xs ys wz) (h7 : w.heap.size + 1 + 1 ≤ b7) (h8 : w.heap.size + 1 + 1 ≤ b8) (u : Value) : ForW w b7 b8 v r1 r2 own xs ys (wz.setCell ⟨w.heap.size, 0, none⟩ u) := by
  obtain ⟨p0, hp0⟩ := h.z0
  obtain ⟨p1, hp1⟩ := h.z1
  exact ⟨ownsRow_setCell_below h.o (by simp; omega) _, ownsRow_setCell_below h.x (by simp; omega) _, ownsRow_setCell_below h.y (by simp; omega) _, by rw [heap_setCell_other _ _ _ _ (by simp; omega)]; exact h.c7, by rw [heap_setCell_other _ _ _ _ (by simp; omega)]; exact h.c8, ⟨u, one_setCell hp0⟩, ⟨p1, by rw [heap_setCell_other _ _ _ _ (by simp)]; exact hp1⟩, h.below.setCell (by simp) _⟩
theorem ForW.set1 {w : World} {b7 b8 : Nat} {v r1 r2 : Value} {own xs ys : List Int} {wz : World} (h : ForW w b7 b8 v r1 r2 own xs ys wz) (h7 : w.heap.size + 1 + 1 ≤ b7) (h8 : w.heap.size + 1 + 1 ≤ b8) (u : Value) : ForW w b7 b8 v r1 r2 own xs ys (wz.setCell ⟨w.heap.size + 1, 0, none⟩ u) := by
  obtain ⟨p0, hp0⟩ := h.z0
  obtain ⟨p1, hp1⟩ := h.z1
  exact ⟨ownsRow_setCell_below h.o (by simp) _, ownsRow_setCell_below h.x (by simp) _, ownsRow_setCell_below h.y (by simp) _, by rw [heap_setCell_other _ _ _ _ (by simp; omega)]; exact h.c7, by rw [heap_setCell_other _ _ _ _ (by simp; omega)]; exact h.c8, ⟨p0, by rw [heap_setCell_other _ _ _ _ (by simp)]; exact hp0⟩, ⟨u, one_setCell hp1⟩, h.below.setCell (by simp) _⟩
theorem ForW.drew {w : World} {b7 b8 : Nat} {v r1 r2 : Value} {own xs ys : List Int} {wz : World} (h : ForW w b7 b8 v r1 r2 own xs ys wz) : ForW w b7 b8 v r1 r2 own xs ys wz.drew :=
  ⟨h.o, h.x, h.y, h.c7, h.c8, h.z0, h.z1, h.below.trans ((below_draw wz).mono h.below.size)⟩
def gFor (s : Nat) (v r1 r2 : Value) : Nat → Value → World → Prop
  | 0, u, _ => u = v
  | 1, u, _ => u = .agg #[r1]
  | 2, u, _ => u = .agg #[r2]
  | 3, u, _ => u = v
  | 4, _, w => w.heap[s]? = some (.cells #[r1] 26 (0, 0))
  | _, _, w => w.heap[s + 1]? = some (.cells #[r2] 26 (0, 0))
theorem gFor_set0 {s : Nat} {v r1 r2 : Value} {w : World} : ∀ j u, gFor s v r1 r2 j u w → gFor s v r1 r2 j u (w.setCell ⟨s, 0, none⟩ r1)
  | 0, _, h => h
  | 1, _, h => h
  | 2, _, h => h
  | 3, _, h => h
  | 4, _, h => one_setCell h
  | _ + 5, _, h => by
    show (w.setCell ⟨s, 0, none⟩ r1).heap[s + 1]? = _
    rw [heap_setCell_other _ _ _ _ (by simp)]; exact h
theorem gFor_set1 {s : Nat} {v r1 r2 : Value} {w : World} : ∀ j u, gFor s v r1 r2 j u w → gFor s v r1 r2 j u (w.setCell ⟨s + 1, 0, none⟩ r2)
  | 0, _, h => h
  | 1, _, h => h
  | 2, _, h => h
  | 3, _, h => h
  | 4, _, h => by
    show (w.setCell ⟨s + 1, 0, none⟩ r2).heap[s]? = _
    rw [heap_setCell_other _ _ _ _ (by simp)]; exact h
  | _ + 5, _, h => one_setCell h

/-- What DrawFlowsFor answers. -/
def ForDrawn (w : World) (e : Ending) (w' : World) : Prop :=
  ∃ v r1 r2 own xs ys, e = .returned (.tuple #[v, .agg #[r1], .agg #[r2]]) ∧ own.length ≤ 5 ∧ xs.length ≤ 5 ∧ ys.length ≤ 5 ∧ w'.ownsRow w.heap.size 3 1 v own.length (icells own) ∧ w'.ownsRow w.heap.size 3 1 r1 xs.length (icells xs) ∧ w'.ownsRow w.heap.size 3 1 r2 ys.length (icells ys) ∧ Below w.heap.size w w'

set_option maxRecDepth 100000 in
set_option maxHeartbeats 2000000 in
theorem drawFlowsFor_any (w : World) (a : Option Addr) (len cap : Nat) (cb : Nat → Nat) (hc : Code0 w a len cb) :
    Calls Try.prog 10 #[.slice a len cap] w fun e w' => ForDrawn w e w' := by
  have hb0 : Below w.heap.size w ((w.alloc ZL).alloc ZL) := ((Below.refl _ _).alloc (Nat.le_refl _) _).alloc (by simp) _
  have C1 := newE ((w.alloc ZL).alloc ZL) a len cap cb (hc.on hb0)
  have hss : ((w.alloc ZL).alloc ZL).heap.size = w.heap.size + 1 + 1 := by simp
  rw [hss] at C1
  have HZ0 : Hid (((w.alloc ZL).alloc ZL).heap[w.heap.size]? = some ZL) := by show _ = _; rw [heap_alloc_old _ _ (by simp)]; exact heap_alloc_new w _
  have HZ1 : Hid (((w.alloc ZL).alloc ZL).heap[w.heap.size + 1]? = some ZL) := by
    have h := heap_alloc_new (w.alloc ZL) ZL
    rw [show (w.alloc ZL).heap.size = w.heap.size + 1 by simp] at h
    exact h
  have HB0 : Hid (Below w.heap.size w ((w.alloc ZL).alloc ZL)) := hb0
  clear hc hb0 hss
  go_enter Try.func10, Try.ntmps10
  go_wp2_with fail
  refine C1.mono ?_
  rintro e w1 ⟨rfl, hcur, hb⟩
  clear C1
  have C2 := l4Own_any w1 (w.heap.size + 1 + 1) w1.heap.size hcur (Nat.le_refl _)
  have HS1 : Hid (w.heap.size + 1 + 1 < w1.heap.size) := hcur.lt
  have HB1 : Hid (Below w.heap.size w w1) := HB0.out.trans (hb.mono (by omega))
  have HY0 : Hid (w1.heap[w.heap.size]? = some ZL) := by show _ = _; rw [hb.block _ (by omega)]; exact HZ0.out
  have HY1 : Hid (w1.heap[w.heap.size + 1]? = some ZL) := by show _ = _; rw [hb.block _ (by omega)]; exact HZ1.out
  clear hcur hb HZ0 HZ1 HB0
  go_wp2_with fail
  refine C2.mono ?_
  rintro e w2 ⟨v, own, rfl, hl0, hg⟩
  clear C2
  have HG : Hid (GrowI w1 (w.heap.size + 1 + 1) w1.heap.size v own w2) := hg
  have C3 := l3Two_any w2 (w.heap.size + 1 + 1) w1.heap.size hg.cur hg.size
  clear hg
  go_wp2_with fail
  refine C3.mono ?_
  rintro e w3 ⟨r1, r2, rfl, xs, ys, hl1, hl2, o1, o2, hc3, hgr3⟩
  clear C3
  have HL : Hid (own.length ≤ 5 ∧ xs.length ≤ 5 ∧ ys.length ≤ 5) := ⟨hl0, hl1, hl2⟩
  have HB3 : Hid (Below w.heap.size w w3) := (HB1.out.grown HG.out.grown HB1.out.size (fun k e => by have := Option.some.inj e; omega)).grown hgr3 (Nat.le_trans HB1.out.size HG.out.size) (fun k e => by have := Option.some.inj e; omega)
  have S3 : Hid (w1.heap.size ≤ w2.heap.size ∧ w2.heap.size ≤ w3.heap.size) := ⟨HG.out.size, hgr3.size⟩
  have HF : Hid (ForW w w3.heap.size (w3.heap.size + 1) v r1 r2 own xs ys ((w3.alloc (.cells #[r1] 26 (0, 0))).alloc (.cells #[r2] 26 (0, 0)))) := by
    have hs1 := HS1.out
    have hs2 := HG.out.size
    have hs3 := hgr3.size
    have hba : Below w3.heap.size w3 ((w3.alloc (.cells #[r1] 26 (0, 0))).alloc (.cells #[r2] 26 (0, 0))) := ((Below.refl _ _).alloc (Nat.le_refl _) _).alloc (by simp) _
    have hk : ∀ k o, w3.heap[k]? = some o → ((w3.alloc (.cells #[r1] 26 (0, 0))).alloc (.cells #[r2] 26 (0, 0))).heap[k]? = some o := fun k o ho => by rw [hba.block k (lt_of_block ho)]; exact ho
    refine ⟨?_, ?_, ?_, ?_, ?_, ⟨_, hk _ _ (grown_kept hgr3 (grown_kept HG.out.grown HY0.out (by simp; omega)) (by simp; omega))⟩, ⟨_, hk _ _ (grown_kept hgr3 (grown_kept HG.out.grown HY1.out (by simp)) (by simp))⟩, HB3.out.trans (hba.mono HB3.out.size)⟩
    · exact own_from (own_kept (own_kept HG.out.own fun k o _ _ _ hl ho => grown_kept hgr3 ho (by simp; omega)) fun k o _ _ _ _ ho => hk k o ho) (by omega)
    · exact own_from (own_kept o1 fun k o _ _ _ _ ho => hk k o ho) (by omega)
    · exact own_from (own_kept o2 fun k o _ _ _ _ ho => hk k o ho) (by omega)
    · rw [heap_alloc_old _ _ (by simp)]; exact heap_alloc_new w3 _
    · have h := heap_alloc_new (w3.alloc (.cells #[r1] 26 (0, 0))) (.cells #[r2] 26 (0, 0))
      rw [show (w3.alloc (.cells #[r1] 26 (0, 0))).heap.size = w3.heap.size + 1 by simp] at h
      exact h
  obtain ⟨a1, n1, c1, rfl⟩ := own_shape o1
  obtain ⟨a2, n2, c2, rfl⟩ := own_shape o2
  clear o1 o2 hc3 hgr3 hl0 hl1 hl2 HG HY0 HY1 HB1 HB3
  have S7 : Hid (w.heap.size + 1 + 1 ≤ w3.heap.size) := by have := S3.out; have := HS1.out; show _ ≤ _; omega
  clear S3 HS1
  go_wp2_with fail
  refine wp_region_all2 (by kernel_rfl) (by kernel_rfl) (by kernel_rfl) (ForW w w3.heap.size (w3.heap.size + 1) v (.slice a1 n1 c1) (.slice a2 n2 c2) own xs ys) (gFor w.heap.size v (.slice a1 n1 c1) (.slice a2 n2 c2)) HF.out.drew ?_ ?_
  · refine ⟨?_, ?_, ?_, ?_, ?_, ?_, trivial⟩
    · intro us wz hB hdeps K hK
      clear hdeps
      simp only [putAll]
      go_simp
      exact hK _ _ hB (fun _ _ h => h) rfl _ (by simp only [putAll]; go_simp)
    · intro us wz hB hdeps K hK
      clear hdeps
      have k7 := cell_of_one hB.c7
      simp only [putAll]
      go_simp
      exact hK _ _ hB (fun _ _ h => h) rfl _ (by simp only [putAll]; go_simp)
    · intro us wz hB hdeps K hK
      clear hdeps
      have k8 := cell_of_one hB.c8
      simp only [putAll]
      go_simp
      exact hK _ _ hB (fun _ _ h => h) rfl _ (by simp only [putAll]; go_simp)
    · intro us wz hB hdeps K hK
      have g0 : us 0 = v := deps_at hdeps 0 (by rfl)
      clear hdeps
      simp only [putAll]
      go_simp
      exact hK _ _ hB (fun _ _ h => h) rfl _ (by simp only [putAll]; go_simp)
    · intro us wz hB hdeps K hK
      have g1 : us 1 = .agg #[.slice a1 n1 c1] := deps_at hdeps 1 (by rfl)
      obtain ⟨p0, hp0⟩ := hB.z0
      have k0 := cell_of_one hp0
      have f0 := free_of_one hp0
      clear hdeps
      simp only [putAll]
      go_simp
      exact hK undef _ (hB.set0 S7.out (by have := S7.out; omega) _) gFor_set0 (one_setCell hp0) _ (by simp only [putAll]; go_simp)
    · intro us wz hB hdeps K hK
      have g2 : us 2 = .agg #[.slice a2 n2 c2] := deps_at hdeps 2 (by rfl)
      obtain ⟨p0, hp0⟩ := hB.z1
      have k0 := cell_of_one hp0
      have f0 := free_of_one hp0
      clear hdeps
      simp only [putAll]
      go_simp
      exact hK undef _ (hB.set1 S7.out (by have := S7.out; omega) _) gFor_set1 (one_setCell hp0) _ (by simp only [putAll]; go_simp)
  · intro us w4 hB hG a' ha'
    have g3 : us 3 = v := hG 3 (by decide)
    have q0 := cell_of_one (show w4.heap[w.heap.size]? = some (.cells #[.slice a1 n1 c1] 26 (0, 0)) from hG 4 (by decide))
    have q1 := cell_of_one (show w4.heap[w.heap.size + 1]? = some (.cells #[.slice a2 n2 c2] 26 (0, 0)) from hG 5 (by decide))
    clear hG
    simp only [putAll, g3] at ha'
    subst ha'
    go_frame
    go_wp2
    refine bodyPost_ret (v := .tuple #[v, .agg #[.slice a1 n1 c1], .agg #[.slice a2 n2 c2]]) (by simp [results, go_sem, q0, q1]) rfl ⟨v, _, _, own, xs, ys, rfl, HL.out.1, HL.out.2.1, HL.out.2.2, own_from hB.o (by omega), own_from hB.x (by omega), own_from hB.y (by omega), hB.below⟩
end Go.Proofs.Ytbahokkofidmeaa
