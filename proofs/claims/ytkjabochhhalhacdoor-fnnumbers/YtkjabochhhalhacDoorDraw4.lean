/-
  The draws of chapter 1's law, fourth part: a text that is spoilt.
-/
import Derived.Test.YtkjabochhhalhacDoorDraw3
import Derived.Deep.RegionWith
namespace Go.Proofs.YtkjabochhhalhacDoor
open Go.RowKit
set_option linter.unusedVariables false

theorem Cur.drew {w : World} {g len cap : Nat} {a : Option Addr} {cb : Nat → Nat} {p : Pos} (h : Cur w g a len cap cb p) : Cur w.drew g a len cap cb p :=
  ⟨⟨h.code.small, h.code.byte, fun i hi => by simpa using h.code.cell i hi⟩, h.le, h.obj⟩
/-- 'string([]byte{b})'. -/
theorem conv_one (wr : World) (b : UInt8) (v : Int) (hv : v = (b.toNat : Int)) :
    (convert 22 9 (.slice (some ⟨wr.heap.size, 0, none⟩) 1 1)).run Tryd.prog (wr.alloc (.cells #[.int .u8 v] 5)) = .ok (.string ⟨#[b]⟩) (wr.alloc (.cells #[.int .u8 v] 5)) :=
  conv_row (wr.alloc (.cells #[.int .u8 v] 5)) wr.heap.size [b] 0 1 (by rw [heap_alloc_new, hv]; rfl)

/-- The same of whatever number stands there. -/
theorem conv_u8 (wr : World) (v : Int) :
    (convert 22 9 (.slice (some ⟨wr.heap.size, 0, none⟩) 1 1)).run Tryd.prog (wr.alloc (.cells #[.int .u8 v] 5)) = .ok (.string ⟨#[UInt8.ofNat v.toNat]⟩) (wr.alloc (.cells #[.int .u8 v] 5)) := by
  rw [run_convert_bytes_string _ 22 9 5 (some ⟨wr.heap.size, 0, none⟩) 1 1 Tryd.underlying22 Tryd.underlying5 Tryd.underlying9]
  have hl := run_loadCells_list (P := Tryd.prog) (wr.alloc (.cells #[.int .u8 v] 5)) ⟨wr.heap.size, 0, none⟩ [.int .u8 v] (fun j u hj => by
    have h0 : j = 0 := by
      have := (List.getElem?_eq_some_iff.1 hj).1
      simpa using this
    subst h0
    simp at hj
    subst hj
    have hnew : (wr.alloc (.cells #[.int .u8 v] 5)).heap[wr.heap.size]? = some (.cells #[.int .u8 v] 5 (0, 0)) := heap_alloc_new wr _
    show World.cell? _ ⟨wr.heap.size, 0, none⟩ = _
    simp only [World.cell?, hnew]
    rfl)
  have := run_bytesToString (P := Tryd.prog) (wr.alloc (.cells #[.int .u8 v] 5)) ⟨wr.heap.size, 0, none⟩ 1 1 [v] hl
  rw [this]
  rfl

def xorV (x y : Nat) : Int := bits BinOp.xor IntKind.i64 (x : Int) (1 + (y : Int)) % 256
def spoilV (len : Nat) (cb : Nat → Nat) (s : ByteArray) (p : Pos) : ByteArray :=
  if s.size = 0 then ⟨(textV len cb 3 p).toArray⟩ else
  if belowV len cb 4 (belowP len s.size p) = 0 then s.extract 0 (belowV len cb s.size p) ++ s.extract (belowV len cb s.size p + 1) s.size
  else if belowV len cb 4 (belowP len s.size p) = 1 then (s.extract 0 (belowV len cb s.size p) ++ ⟨#[UInt8.ofNat (byteV len cb (belowP len 4 (belowP len s.size p)))]⟩) ++ s.extract (belowV len cb s.size p) s.size
  else if belowV len cb 4 (belowP len s.size p) = 2 then s.extract 0 (belowV len cb s.size p)
  else (s.extract 0 (belowV len cb s.size p) ++ ⟨#[UInt8.ofNat (xorV (s.data.toList.getD (belowV len cb s.size p) 0).toNat (belowV len cb 255 (belowP len 4 (belowP len s.size p)))).toNat]⟩) ++ s.extract (belowV len cb s.size p + 1) s.size

set_option maxRecDepth 100000 in
set_option maxHeartbeats 1000000 in
theorem spoil_any (w : World) (g len cap : Nat) (a : Option Addr) (cb : Nat → Nat) (p : Pos) (hc : Cur w g a len cap cb p) (s : ByteArray) (hs : s.size ≤ 200) :
    Calls Tryd.prog 26 #[.pointer (some ⟨g, 0, none⟩), .string s] w fun e w' => e = .returned (.string (spoilV len cb s p)) ∧ w.grownBy w' (some g) := by
  by_cases h0 : s.size = 0
  · have e1 : spoilV len cb s p = ⟨(textV len cb 3 p).toArray⟩ := if_pos h0
    rw [e1]
    have c := text_any w g len cap 3 a cb p hc (by omega)
    generalize (⟨(textV len cb 3 p).toArray⟩ : ByteArray) = r at *
    generalize textP len cb 3 p = q at *
    have hz : ((s.size : Int) == 0) = true := by simp [h0]
    clear e1 hc h0
    go_enter Tryd.func26, Tryd.ntmps26
    go_wp2_with fail
    refine c.mono ?_
    rintro e w1 ⟨rfl, hc1, hg1⟩
    clear hc1 c
    go_wp2
    go_ret
    exact ⟨rfl, hg1⟩
  · have hz : ((s.size : Int) == 0) = false := by rw [beq_eq_false_iff_ne]; omega
    have c := below_any w g len cap s.size a cb p hc (by omega) (by omega)
    have c1 := fun w h1 => below_any w g len cap 4 a cb (belowP len s.size p) h1 (by omega) (by omega)
    have hk := belowV_lt len cb s.size p (by omega)
    have hki : ((belowV len cb s.size p : Nat) : Int) < (s.size : Int) := by omega
    have hkl : ((belowV len cb s.size p : Nat) : Int) ≤ (s.size : Int) := by omega
    have hkm : ((belowV len cb s.size p : Nat) : Int) + 1 ≤ (s.size : Int) := by omega
    have hk0 : (0 : Int) ≤ ((belowV len cb s.size p : Nat) : Int) := by omega
    have hwk : IntKind.i64.wrap (((belowV len cb s.size p : Nat) : Int) + 1) = ((belowV len cb s.size p : Nat) : Int) + 1 := wraps_i64 _ (by omega) (by omega)
    have hv4 := belowV_lt len cb 4 (belowP len s.size p) (by omega)
    have c2 := fun w h1 => byte_any w g len cap a cb (belowP len 4 (belowP len s.size p)) h1
    have c3 := fun w h1 => below_any w g len cap 255 a cb (belowP len 4 (belowP len s.size p)) h1 (by omega) (by omega)
    have hb := byteV_lt len cb (belowP len 4 (belowP len s.size p))
    have hy := belowV_lt len cb 255 (belowP len 4 (belowP len s.size p)) (by omega)
    unfold spoilV
    rw [if_neg h0]
    generalize byteP len (belowP len 4 (belowP len s.size p)) = q3 at *
    generalize belowP len 255 (belowP len 4 (belowP len s.size p)) = q4 at *
    generalize byteV len cb (belowP len 4 (belowP len s.size p)) = x at *
    generalize belowV len cb 255 (belowP len 4 (belowP len s.size p)) = y at *
    generalize belowP len 4 (belowP len s.size p) = q2 at *
    generalize belowV len cb 4 (belowP len s.size p) = v at *
    generalize belowP len s.size p = q1 at *
    generalize belowV len cb s.size p = k at *
    clear hc h0
    rcases (show v = 0 ∨ v = 1 ∨ v = 2 ∨ v = 3 by omega) with rfl | rfl | rfl | rfl
    · rw [if_pos rfl]
      have C1 : Hid (∀ w, Cur w g a len cap cb q1 → _) := c1
      clear c1 c2 c3
      go_enter Tryd.func26, Tryd.ntmps26
      go_wp2_with fail
      refine c.mono ?_
      rintro e w1 ⟨rfl, hc1, hg1⟩
      have HC : Hid (Cur w1 g a len cap cb q1) := hc1
      clear c hc1
      go_wp2_with fail
      refine (C1.out w1 HC.out).mono ?_
      rintro e w2 ⟨rfl, hc2, hg2⟩
      clear C1 HC hc2
      go_wp2
      go_quiet (fail)
      go_wp2
      go_ret
      exact ⟨rfl, grownBy_drewN (grownBy_trans hg1 hg2) _⟩
    · rw [if_neg (by omega), if_pos rfl]
      have C1 : Hid (∀ w, Cur w g a len cap cb q1 → _) := c1
      have C2 : Hid (∀ w, Cur w g a len cap cb q2 → _) := c2
      obtain ⟨b, hbb⟩ : ∃ b, b = UInt8.ofNat x := ⟨_, rfl⟩
      have hconv : ∀ wr : World, (convert 22 9 (.slice (some ⟨wr.heap.size, 0, none⟩) 1 1)).run Tryd.prog (wr.alloc (.cells #[.int .u8 (IntKind.u8.wrap (x : Int))] 5)) = .ok (.string ⟨#[b]⟩) (wr.alloc (.cells #[.int .u8 (IntKind.u8.wrap (x : Int))] 5)) := fun wr => conv_one wr b _ (by rw [hbb, wraps_u8 _ (by omega) (by omega)]; simp; omega)
      have hconv2 : ∀ wr : World, (convert 22 9 (.slice (some ⟨wr.heap.size, 0, none⟩) 1 1)).run Tryd.prog (wr.alloc (.cells #[.int .u8 (x : Int)] 5)) = .ok (.string ⟨#[b]⟩) (wr.alloc (.cells #[.int .u8 (x : Int)] 5)) := fun wr => conv_one wr b _ (by rw [hbb]; simp; omega)
      rw [← hbb]
      clear c1 c2 c3 hbb
      go_enter Tryd.func26, Tryd.ntmps26
      go_wp2_with fail
      refine c.mono ?_
      rintro e w1 ⟨rfl, hc1, hg1⟩
      have HC : Hid (Cur w1 g a len cap cb q1) := hc1
      clear c hc1
      go_wp2_with fail
      refine (C1.out w1 HC.out).mono ?_
      rintro e w2 ⟨rfl, hc2, hg2⟩
      have HC2 : Hid (Cur w2.drew g a len cap cb q2) := hc2.drew
      clear C1 HC hc2
      go_wp2
      go_region_with (go_at_call 29; refine (C2.out _ HC2.out).mono ?_; rintro e w3 ⟨rfl, hc3, hg3⟩; clear hc3)
      all_goals go_wp2
      all_goals go_ret
      all_goals exact ⟨rfl, grownBy_trans (grownBy_trans hg1 hg2) (grownBy_trans ⟨hg3.os, hg3.tape, hg3.output, hg3.size, hg3.block⟩ (World.grownBy_alloc _ _ _))⟩
    · rw [if_neg (by omega), if_neg (by omega), if_pos rfl]
      have C1 : Hid (∀ w, Cur w g a len cap cb q1 → _) := c1
      clear c1 c2 c3
      go_enter Tryd.func26, Tryd.ntmps26
      go_wp2_with fail
      refine c.mono ?_
      rintro e w1 ⟨rfl, hc1, hg1⟩
      have HC : Hid (Cur w1 g a len cap cb q1) := hc1
      clear c hc1
      go_wp2_with fail
      refine (C1.out w1 HC.out).mono ?_
      rintro e w2 ⟨rfl, hc2, hg2⟩
      clear C1 HC hc2
      go_wp2
      go_ret
      exact ⟨rfl, grownBy_trans hg1 hg2⟩
    · rw [if_neg (by omega), if_neg (by omega), if_neg (by omega)]
      have C1 : Hid (∀ w, Cur w g a len cap cb q1 → _) := c1
      have C2 : Hid (∀ w, Cur w g a len cap cb q2 → _) := c3
      have hsk : (s.data.toList.getD k 0) = s[k] := by
        rw [List.getD_eq_getElem?_getD, List.getElem?_eq_getElem (by simpa using hk)]; rfl
      rw [hsk]
      obtain ⟨b, hbb⟩ : ∃ b, b = UInt8.ofNat (xorV s[k].toNat y).toNat := ⟨_, rfl⟩
      rw [← hbb]
      have hbt : (b.toNat : Int) = xorV s[k].toNat y := by
        rw [hbb]
        have h1 : 0 ≤ xorV s[k].toNat y := by unfold xorV; omega
        have h2 : xorV s[k].toNat y < 256 := by unfold xorV; omega
        rw [ofNat_toNat _ (by omega)]
        omega
      have hsk2 := s[k].toNat_lt
      have hw1 : IntKind.i64.wrap ((s[k].toNat : Nat) : Int) = ((s[k].toNat : Nat) : Int) := wraps_i64 _ (by omega) (by omega)
      have hw2 : IntKind.i64.wrap (1 + (y : Int)) = 1 + (y : Int) := wraps_i64 _ (by omega) (by omega)
      have hw3 : wrap64 ((s[k].toNat : Nat) : Int) = ((s[k].toNat : Nat) : Int) := wrap64_id _ (by omega) (by omega)
      have HF : Hid (∀ E : Int, E = bits BinOp.xor IntKind.i64 ((s[k].toNat : Nat) : Int) (1 + (y : Int)) % 256 → UInt8.ofNat E.toNat = b) := by
        intro E hE
        rw [hE, hbb]; rfl
      have HW1 : Hid (IntKind.i64.wrap ((s[k].toNat : Nat) : Int) = ((s[k].toNat : Nat) : Int)) := hw1
      have HW2 : Hid (IntKind.i64.wrap (1 + (y : Int)) = 1 + (y : Int)) := hw2
      have HW3 : Hid (wrap64 ((s[k].toNat : Nat) : Int) = ((s[k].toNat : Nat) : Int)) := hw3
      have hconv := conv_u8
      clear c1 c2 c3 hbb hsk hbt hw1 hw2 hw3 hsk2
      go_enter Tryd.func26, Tryd.ntmps26
      go_wp2_with fail
      refine c.mono ?_
      rintro e w1 ⟨rfl, hc1, hg1⟩
      have HC : Hid (Cur w1 g a len cap cb q1) := hc1
      clear c hc1
      go_wp2_with fail
      refine (C1.out w1 HC.out).mono ?_
      rintro e w2 ⟨rfl, hc2, hg2⟩
      have HC2 : Hid (Cur w2.drew g a len cap cb q2) := hc2.drew
      clear C1 HC hc2
      go_wp2
      go_region_with (go_at_call 27; refine (C2.out _ HC2.out).mono ?_; rintro e w3 ⟨rfl, hc3, hg3⟩; clear hc3)
      all_goals go_wp2
      all_goals go_ret
      all_goals
        refine ⟨?_, grownBy_trans (grownBy_trans hg1 hg2) (grownBy_trans ⟨hg3.os, hg3.tape, hg3.output, hg3.size, hg3.block⟩ (World.grownBy_alloc _ _ _))⟩
        show Ending.returned (Value.string ((s.extract 0 k ++ ⟨#[UInt8.ofNat (bits BinOp.xor IntKind.i64 (wrap64 ((s[k].toNat : Nat) : Int)) (1 + (y : Int)) % 256).toNat]⟩) ++ s.extract (k + 1) s.size)) = _
        rw [HF.out _ (by rw [HW3.out])]
end Go.Proofs.YtkjabochhhalhacDoor
