/-
  ShowLabel: the program's.
-/
import Derived.Test.YtpdhlnnepgkmkabLvl
import Derived.Test.YtpdhlnnepgkmkabPut
import Derived.Test.YtpdhlnnepgkmkabTwo
import Derived.Test.YtpdhlnnepgkmkabJoin
namespace Go.Proofs.Ytpdhlnnepgkmkab
open Go.RowKit
set_option linter.unusedVariables false

/-- A level's digit. -/
def digit (x : Int) : UInt8 := UInt8.ofNat (48 + x.toNat)
theorem digit_toNat {x : Int} (h : 0 ≤ x ∧ x ≤ 3) : ((digit x).toNat : Int) = 48 + x := by
  have hc : x = 0 ∨ x = 1 ∨ x = 2 ∨ x = 3 := by omega
  rcases hc with rfl | rfl | rfl | rfl <;> rfl
/-- The text of a label; none where it isn't right. -/
def showOf (xs : List Int) : ByteArray := if labelOk xs then ⟨(xs.map digit).toArray⟩ else ⟨#[]⟩
theorem showOf_yes {xs : List Int} (h : labelOk xs = true) : showOf xs = ⟨(xs.map digit).toArray⟩ := by simp [showOf, h]
theorem showOf_no {xs : List Int} (h : labelOk xs = false) : showOf xs = ⟨#[]⟩ := by simp [showOf, h]
theorem labelOk_each {xs : List Int} (h : labelOk xs = true) (i : Nat) (hi : i < 4) : 0 ≤ xs.getD i 0 ∧ xs.getD i 0 ≤ 3 := by
  have hl := labelOk_four h
  unfold labelOk at h
  simp only [Bool.and_eq_true, List.all_eq_true] at h
  have := h.2 (xs.getD i 0) (by rw [List.getD_eq_getElem?_getD, List.getElem?_eq_getElem (by omega)]; simp)
  unfold lvlOk at this
  simpa using this

theorem vs_digit {x : Int} (h : 0 ≤ x ∧ x ≤ 3) : (#[.int .u8 (48 + x)] : Array Value) = (bcells [digit x]).toArray := by
  simp [bcells, digit_toNat h]

set_option maxHeartbeats 1000000 in
theorem implShow_four (v : Value) (a b c d : Int) (w : World) (hx : IsInts w v [a, b, c, d]) (h : labelOk [a, b, c, d] = true) :
    Calls Try.prog 14 #[.agg #[v]] w fun e w' => e = .returned (.string ⟨#[digit a, digit b, digit c, digit d]⟩) ∧ Below w.heap.size w w' := by
  have ha := labelOk_each h 0 (by omega)
  have hb := labelOk_each h 1 (by omega)
  have hc := labelOk_each h 2 (by omega)
  have hd := labelOk_each h 3 (by omega)
  simp only [List.getD_cons_zero, List.getD_cons_succ] at ha hb hc hd
  have HB0 : Hid (Below w.heap.size w (w.alloc (.cells #[v] 24 (0, 0)))) := below_alloc w _
  have C1 := levelsOf_any v [a, b, c, d] _ (hx.on HB0.out)
  rw [h, pad4_yes rfl] at C1
  simp only [List.getD_cons_zero, List.getD_cons_succ] at C1
  have i0 := index4_0 a b c d
  have i1 := index4_1 a b c d
  have i2 := index4_2 a b c d
  have i3 := index4_3 a b c d
  clear hx h
  go_enter Try.func14, Try.ntmps14
  go_wp2_with fail
  refine C1.mono ?_
  rintro e w1 ⟨rfl, hb1⟩
  clear C1
  have hm : (Instr.makeSlice 47 (.int .i64 4) (.int .i64 4)).run Try.prog (w1.alloc (.cells #[.int .i64 a, .int .i64 b, .int .i64 c, .int .i64 d] 38 (0, 0))) = .ok (.slice (some ⟨w1.heap.size + 1, 0, none⟩) 4 4) ((w1.alloc (.cells #[.int .i64 a, .int .i64 b, .int .i64 c, .int .i64 d] 38 (0, 0))).alloc (.cells (rowOf [] 4).toArray 5 (0, 0))) := by
    have := make_bytes 4 (by omega) (w1.alloc (.cells #[.int .i64 a, .int .i64 b, .int .i64 c, .int .i64 d] 38 (0, 0)))
    rw [show (w1.alloc (.cells #[.int .i64 a, .int .i64 b, .int .i64 c, .int .i64 d] 38 (0, 0))).heap.size = w1.heap.size + 1 by simp] at this
    exact this
  have HB2 : Hid (Below w.heap.size w ((w1.alloc (.cells #[.int .i64 a, .int .i64 b, .int .i64 c, .int .i64 d] 38 (0, 0))).alloc (.cells (rowOf [] 4).toArray 5 (0, 0)))) := by
    have h0 : w.heap.size ≤ w1.heap.size := Nat.le_trans HB0.out.size hb1.size
    exact ((HB0.out.trans (hb1.mono HB0.out.size)).alloc h0 _).alloc (by simp; omega) _
  have HR2 : Hid (((w1.alloc (.cells #[.int .i64 a, .int .i64 b, .int .i64 c, .int .i64 d] 38 (0, 0))).alloc (.cells (rowOf [] 4).toArray 5 (0, 0))).heap[w1.heap.size + 1]? = some (.cells (rowOf ([digit a, digit b, digit c, digit d].take 0) (4 - 0)).toArray 5 (0, 0))) := by
    have := heap_alloc_new (w1.alloc (.cells #[.int .i64 a, .int .i64 b, .int .i64 c, .int .i64 d] 38 (0, 0))) (.cells (rowOf [] 4).toArray 5 (0, 0))
    rw [show (w1.alloc (.cells #[.int .i64 a, .int .i64 b, .int .i64 c, .int .i64 d] 38 (0, 0))).heap.size = w1.heap.size + 1 by simp] at this
    exact this
  have HS : Hid (w.heap.size ≤ w1.heap.size + 1) := by have : w.heap.size ≤ w1.heap.size := Nat.le_trans HB0.out.size hb1.size; exact Nat.le_succ_of_le this
  have HB1 : Hid (Below w.heap.size w w1) := HB0.out.trans (hb1.mono HB0.out.size)
  clear hb1 HB0
  go_wp2
  go_loopw [6, 8, 18] (fun t _ i wr => ∃ k : Nat, k ≤ 4 ∧ i = .int .i64 k ∧ t = .int .i64 k ∧ Hid (wr.heap[w1.heap.size + 1]? = some (.cells (rowOf ([digit a, digit b, digit c, digit d].take k) (4 - k)).toArray 5 (0, 0))) ∧ Hid (Below w.heap.size w wr)) (fun _ _ i _ => 4 - (intOf i).toNat)
  case atStart => exact ⟨0, by omega, rfl, rfl, HR2, HB2⟩
  case round =>
    obtain ⟨k, hk, rfl, rfl, hrow, hbel⟩ := hrel
    clear HR2 HB2 hm
    have hcase : k = 0 ∨ k = 1 ∨ k = 2 ∨ k = 3 ∨ k = 4 := by omega
    rcases hcase with rfl | rfl | rfl | rfl | rfl
    · have hw1 : IntKind.u8.wrap a = a := by unfold IntKind.wrap; simp [IntKind.bits, IntKind.signed]; omega
      have hw2 : IntKind.u8.wrap (48 + a) = 48 + a := by unfold IntKind.wrap; simp [IntKind.bits, IntKind.signed]; omega
      have C := put_row wr (w1.heap.size + 1) 4 ([digit a, digit b, digit c, digit d].take 0) [digit a] 3 #[.int .u8 (48 + a)] (vs_digit ha) 1 rfl hrow.out rfl (by omega) (by omega)
      go_wp2_with fail
      refine C.mono ?_
      rintro e w3 ⟨rfl, hr3, hb3⟩
      clear C
      have HR3 : Hid (w3.heap[w1.heap.size + 1]? = some (.cells (rowOf ([digit a, digit b, digit c, digit d].take 1) (4 - 1)).toArray 5 (0, 0))) := hr3
      have HB3 : Hid (Below w.heap.size w w3) := hbel.out.trans (hb3.mono HS.out)
      clear hr3 hb3 hrow hbel
      go_wp2
      exact ⟨⟨1, by omega, rfl, rfl, HR3, HB3⟩, by simp [intOf]⟩
    · have hw1 : IntKind.u8.wrap b = b := by unfold IntKind.wrap; simp [IntKind.bits, IntKind.signed]; omega
      have hw2 : IntKind.u8.wrap (48 + b) = 48 + b := by unfold IntKind.wrap; simp [IntKind.bits, IntKind.signed]; omega
      have C := put_row wr (w1.heap.size + 1) 4 ([digit a, digit b, digit c, digit d].take 1) [digit b] 2 #[.int .u8 (48 + b)] (vs_digit hb) 1 rfl hrow.out rfl (by omega) (by omega)
      go_wp2_with fail
      refine C.mono ?_
      rintro e w3 ⟨rfl, hr3, hb3⟩
      clear C
      have HR3 : Hid (w3.heap[w1.heap.size + 1]? = some (.cells (rowOf ([digit a, digit b, digit c, digit d].take 2) (4 - 2)).toArray 5 (0, 0))) := hr3
      have HB3 : Hid (Below w.heap.size w w3) := hbel.out.trans (hb3.mono HS.out)
      clear hr3 hb3 hrow hbel
      go_wp2
      exact ⟨⟨2, by omega, rfl, rfl, HR3, HB3⟩, by simp [intOf]⟩
    · have hw1 : IntKind.u8.wrap c = c := by unfold IntKind.wrap; simp [IntKind.bits, IntKind.signed]; omega
      have hw2 : IntKind.u8.wrap (48 + c) = 48 + c := by unfold IntKind.wrap; simp [IntKind.bits, IntKind.signed]; omega
      have C := put_row wr (w1.heap.size + 1) 4 ([digit a, digit b, digit c, digit d].take 2) [digit c] 1 #[.int .u8 (48 + c)] (vs_digit hc) 1 rfl hrow.out rfl (by omega) (by omega)
      go_wp2_with fail
      refine C.mono ?_
      rintro e w3 ⟨rfl, hr3, hb3⟩
      clear C
      have HR3 : Hid (w3.heap[w1.heap.size + 1]? = some (.cells (rowOf ([digit a, digit b, digit c, digit d].take 3) (4 - 3)).toArray 5 (0, 0))) := hr3
      have HB3 : Hid (Below w.heap.size w w3) := hbel.out.trans (hb3.mono HS.out)
      clear hr3 hb3 hrow hbel
      go_wp2
      exact ⟨⟨3, by omega, rfl, rfl, HR3, HB3⟩, by simp [intOf]⟩
    · have hw1 : IntKind.u8.wrap d = d := by unfold IntKind.wrap; simp [IntKind.bits, IntKind.signed]; omega
      have hw2 : IntKind.u8.wrap (48 + d) = 48 + d := by unfold IntKind.wrap; simp [IntKind.bits, IntKind.signed]; omega
      have C := put_row wr (w1.heap.size + 1) 4 ([digit a, digit b, digit c, digit d].take 3) [digit d] 0 #[.int .u8 (48 + d)] (vs_digit hd) 1 rfl hrow.out rfl (by omega) (by omega)
      go_wp2_with fail
      refine C.mono ?_
      rintro e w3 ⟨rfl, hr3, hb3⟩
      clear C
      have HR3 : Hid (w3.heap[w1.heap.size + 1]? = some (.cells (rowOf ([digit a, digit b, digit c, digit d].take 4) (4 - 4)).toArray 5 (0, 0))) := hr3
      have HB3 : Hid (Below w.heap.size w w3) := hbel.out.trans (hb3.mono HS.out)
      clear hr3 hb3 hrow hbel
      go_wp2
      exact ⟨⟨4, by omega, rfl, rfl, HR3, HB3⟩, by simp [intOf]⟩
    · have hcv : (convert 47 9 (.slice (some ⟨w1.heap.size + 1, 0, none⟩) 4 4)).run Try.prog wr = .ok (.string ⟨#[digit a, digit b, digit c, digit d]⟩) wr := conv_row wr (w1.heap.size + 1) [digit a, digit b, digit c, digit d] 0 4 hrow.out
      clear hrow
      go_wp2
      go_ret
      exact ⟨rfl, hbel.out⟩

set_option maxHeartbeats 1000000 in
theorem implShow_no (v : Value) (xs : List Int) (w : World) (hx : IsInts w v xs) (h : labelOk xs = false) :
    Calls Try.prog 14 #[.agg #[v]] w fun e w' => e = .returned (.string ⟨#[]⟩) ∧ Below w.heap.size w w' := by
  have HB0 : Hid (Below w.heap.size w (w.alloc (.cells #[v] 24 (0, 0)))) := below_alloc w _
  have C1 := levelsOf_any v xs _ (hx.on HB0.out)
  obtain ⟨a, b, c, d, hp⟩ : ∃ a b c d, pad4 xs = arr4 a b c d := by
    unfold pad4; split <;> exact ⟨_, _, _, _, rfl⟩
  rw [h, hp] at C1
  clear hx h hp
  go_enter Try.func14, Try.ntmps14
  go_wp2_with fail
  refine C1.mono ?_
  rintro e w1 ⟨rfl, hb1⟩
  clear C1
  have HB1 : Hid (Below w.heap.size w w1) := HB0.out.trans (hb1.mono HB0.out.size)
  clear hb1 HB0
  go_wp2
  go_ret
  exact ⟨rfl, HB1.out.alloc HB1.out.size _⟩

theorem implShow_any (v : Value) (xs : List Int) (w : World) (hx : IsInts w v xs) :
    Calls Try.prog 14 #[.agg #[v]] w fun e w' => e = .returned (.string (showOf xs)) ∧ Below w.heap.size w w' := by
  by_cases h : labelOk xs = true
  · rw [showOf_yes h]
    have h4 := four_eq (labelOk_four h)
    rw [h4] at hx h ⊢
    exact implShow_four v _ _ _ _ w hx h
  · have h' : labelOk xs = false := by simpa using h
    rw [showOf_no h']
    exact implShow_no v xs w hx h'

theorem rem10 (x : Int) (h : 0 ≤ x ∧ x ≤ 3) : x.tmod 10 = x := by
  have hc : x = 0 ∨ x = 1 ∨ x = 2 ∨ x = 3 := by omega
  rcases hc with rfl | rfl | rfl | rfl <;> rfl

set_option maxHeartbeats 1000000 in
theorem specDec_zero (w : World) : Calls Try.prog 24 #[.int .i64 0] w fun e w' => e = .returned (.string ⟨#[digit 0]⟩) ∧ Below w.heap.size w w' := by
  go_enter Try.func24, Try.ntmps24
  go_wp2
  go_ret
  exact ⟨rfl, Below.refl _ _⟩

set_option maxHeartbeats 1000000 in
theorem specDec_1 (w : World) : Calls Try.prog 24 #[.int .i64 1] w fun e w' => e = .returned (.string ⟨#[digit 1]⟩) ∧ Below w.heap.size w w' := by
  have hcv : (convert 47 9 (.slice (some ⟨w.heap.size, 0, none⟩) 1 1)).run Try.prog (w.alloc (.cells #[.int .u8 49] 5 (0, 0))) = .ok (.string ⟨#[49]⟩) (w.alloc (.cells #[.int .u8 49] 5 (0, 0))) :=
    conv_row (w.alloc (.cells #[.int .u8 49] 5 (0, 0))) w.heap.size [49] 0 1 (heap_alloc_new w _)
  go_enter Try.func24, Try.ntmps24
  go_wp2
  go_loopw [0, 3, 5] (fun n s _ wr => (n = .int .i64 1 ∧ s = .string ⟨#[]⟩ ∧ wr = w) ∨ (n = .int .i64 0 ∧ s = .string ⟨#[digit 1]⟩ ∧ Hid (Below w.heap.size w wr))) (fun n _ _ _ => (intOf n).toNat)
  case atStart => exact .inl ⟨rfl, rfl, rfl⟩
  case round =>
    rcases hrel with ⟨rfl, rfl, rfl⟩ | ⟨rfl, rfl, hbel⟩
    · go_wp2
      exact ⟨.inr ⟨rfl, rfl, below_alloc _ _⟩, by simp [intOf]⟩
    · go_wp2
      go_ret
      exact ⟨rfl, hbel.out⟩

set_option maxHeartbeats 1000000 in
theorem specDec_2 (w : World) : Calls Try.prog 24 #[.int .i64 2] w fun e w' => e = .returned (.string ⟨#[digit 2]⟩) ∧ Below w.heap.size w w' := by
  have hcv : (convert 47 9 (.slice (some ⟨w.heap.size, 0, none⟩) 1 1)).run Try.prog (w.alloc (.cells #[.int .u8 50] 5 (0, 0))) = .ok (.string ⟨#[50]⟩) (w.alloc (.cells #[.int .u8 50] 5 (0, 0))) :=
    conv_row (w.alloc (.cells #[.int .u8 50] 5 (0, 0))) w.heap.size [50] 0 1 (heap_alloc_new w _)
  go_enter Try.func24, Try.ntmps24
  go_wp2
  go_loopw [0, 3, 5] (fun n s _ wr => (n = .int .i64 2 ∧ s = .string ⟨#[]⟩ ∧ wr = w) ∨ (n = .int .i64 0 ∧ s = .string ⟨#[digit 2]⟩ ∧ Hid (Below w.heap.size w wr))) (fun n _ _ _ => (intOf n).toNat)
  case atStart => exact .inl ⟨rfl, rfl, rfl⟩
  case round =>
    rcases hrel with ⟨rfl, rfl, rfl⟩ | ⟨rfl, rfl, hbel⟩
    · go_wp2
      exact ⟨.inr ⟨rfl, rfl, below_alloc _ _⟩, by simp [intOf]⟩
    · go_wp2
      go_ret
      exact ⟨rfl, hbel.out⟩

set_option maxHeartbeats 1000000 in
theorem specDec_3 (w : World) : Calls Try.prog 24 #[.int .i64 3] w fun e w' => e = .returned (.string ⟨#[digit 3]⟩) ∧ Below w.heap.size w w' := by
  have hcv : (convert 47 9 (.slice (some ⟨w.heap.size, 0, none⟩) 1 1)).run Try.prog (w.alloc (.cells #[.int .u8 51] 5 (0, 0))) = .ok (.string ⟨#[51]⟩) (w.alloc (.cells #[.int .u8 51] 5 (0, 0))) :=
    conv_row (w.alloc (.cells #[.int .u8 51] 5 (0, 0))) w.heap.size [51] 0 1 (heap_alloc_new w _)
  go_enter Try.func24, Try.ntmps24
  go_wp2
  go_loopw [0, 3, 5] (fun n s _ wr => (n = .int .i64 3 ∧ s = .string ⟨#[]⟩ ∧ wr = w) ∨ (n = .int .i64 0 ∧ s = .string ⟨#[digit 3]⟩ ∧ Hid (Below w.heap.size w wr))) (fun n _ _ _ => (intOf n).toNat)
  case atStart => exact .inl ⟨rfl, rfl, rfl⟩
  case round =>
    rcases hrel with ⟨rfl, rfl, rfl⟩ | ⟨rfl, rfl, hbel⟩
    · go_wp2
      exact ⟨.inr ⟨rfl, rfl, below_alloc _ _⟩, by simp [intOf]⟩
    · go_wp2
      go_ret
      exact ⟨rfl, hbel.out⟩

theorem specDec_small (x : Int) (h : 0 ≤ x ∧ x ≤ 3) (w : World) : Calls Try.prog 24 #[.int .i64 x] w fun e w' => e = .returned (.string ⟨#[digit x]⟩) ∧ Below w.heap.size w w' := by
  have hc : x = 0 ∨ x = 1 ∨ x = 2 ∨ x = 3 := by omega
  rcases hc with rfl | rfl | rfl | rfl
  · exact specDec_zero w
  · exact specDec_1 w
  · exact specDec_2 w
  · exact specDec_3 w

/-- The text as far as 'k'. -/
def showTo (a b c d : Int) : Nat → ByteArray
  | 0 => ⟨#[]⟩
  | 1 => ⟨#[digit a]⟩
  | 2 => ⟨#[digit a, digit b]⟩
  | 3 => ⟨#[digit a, digit b, digit c]⟩
  | _ => ⟨#[digit a, digit b, digit c, digit d]⟩

set_option maxHeartbeats 1000000 in
theorem specShow_four (v : Value) (a b c d : Int) (w : World) (hx : IsInts w v [a, b, c, d]) (h : labelOk [a, b, c, d] = true) :
    Calls Try.prog 12 #[.agg #[v]] w fun e w' => e = .returned (.string ⟨#[digit a, digit b, digit c, digit d]⟩) ∧ Below w.heap.size w w' := by
  have ha := labelOk_each h 0 (by omega)
  have hb := labelOk_each h 1 (by omega)
  have hc := labelOk_each h 2 (by omega)
  have hd := labelOk_each h 3 (by omega)
  simp only [List.getD_cons_zero, List.getD_cons_succ] at ha hb hc hd
  have HB0 : Hid (Below w.heap.size w (w.alloc (.cells #[v] 24 (0, 0)))) := below_alloc w _
  have HK0 : Hid ((w.alloc (.cells #[v] 24 (0, 0))).heap[w.heap.size]? = some (.cells #[v] 24 (0, 0))) := heap_alloc_new w _
  have C1 := specLabelOk_any v [a, b, c, d] _ (hx.on HB0.out) (by simp)
  rw [h] at C1
  obtain ⟨p, cap, rfl, hcap, hx⟩ := hx
  have HX : Hid (∀ i, i < 4 → ∃ q, p = some q ∧ w.cell? (q.add i) = some (.int .i64 ([a, b, c, d].getD i 0))) := hx
  simp only [List.length_cons, List.length_nil] at C1 HB0 HK0 hcap ⊢
  clear hx h
  go_enter Try.func12, Try.ntmps12
  go_wp2_with fail
  refine C1.mono ?_
  rintro e w1 ⟨rfl, hb1⟩
  clear C1
  have HB1 : Hid (Below w.heap.size w w1) := HB0.out.trans (hb1.mono HB0.out.size)
  have HK1 : Hid (w1.heap[w.heap.size]? = some (.cells #[.slice p 4 cap] 24 (0, 0))) := keep2 HK0.out hb1
  clear hb1 HB0 HK0
  go_wp2
  go_loopw [3, 4] (fun s i wr => ∃ k : Nat, k ≤ 4 ∧ i = .int .i64 k ∧ s = .string (showTo a b c d k) ∧ Hid (wr.heap[w.heap.size]? = some (.cells #[.slice p 4 cap] 24 (0, 0))) ∧ Hid (Below w.heap.size w wr)) (fun _ i _ => 4 - (intOf i).toNat)
  case atStart => exact ⟨0, by omega, rfl, rfl, HK1, HB1⟩
  case round =>
    obtain ⟨k, hk, rfl, rfl, hkp, hbel⟩ := hrel
    clear HK1 HB1
    have hcase : k = 0 ∨ k = 1 ∨ k = 2 ∨ k = 3 ∨ k = 4 := by omega
    rcases hcase with rfl | rfl | rfl | rfl | rfl
    · obtain ⟨q, rfl, hc1⟩ := HX.out 0 (by omega)
      have d1 : wr.cell? q = some (.int .i64 a) := (hbel.out.cell (World.block_lt_of_cell? w _ hc1)).trans hc1
      have o1 := cell_of_one hkp.out
      have C := specDec_small a ha wr
      clear hc1
      go_wp2_with fail
      refine C.mono ?_
      rintro e w3 ⟨rfl, hb3⟩
      clear C
      have HK3 : Hid (w3.heap[w.heap.size]? = some (.cells #[.slice (some q) 4 cap] 24 (0, 0))) := keep2 hkp.out hb3
      have HB3 : Hid (Below w.heap.size w w3) := hbel.out.trans (hb3.mono hbel.out.size)
      clear hb3 hkp hbel
      go_wp2
      exact ⟨⟨1, by omega, rfl, rfl, HK3, HB3⟩, by simp [intOf]⟩
    · obtain ⟨q, rfl, hc1⟩ := HX.out 1 (by omega)
      have d1 : wr.cell? ⟨q.block, q.off + 1, none⟩ = some (.int .i64 b) := (hbel.out.cell (World.block_lt_of_cell? w _ hc1)).trans hc1
      have o1 := cell_of_one hkp.out
      have C := specDec_small b hb wr
      clear hc1
      go_wp2_with fail
      refine C.mono ?_
      rintro e w3 ⟨rfl, hb3⟩
      clear C
      have HK3 : Hid (w3.heap[w.heap.size]? = some (.cells #[.slice (some q) 4 cap] 24 (0, 0))) := keep2 hkp.out hb3
      have HB3 : Hid (Below w.heap.size w w3) := hbel.out.trans (hb3.mono hbel.out.size)
      clear hb3 hkp hbel
      go_wp2
      exact ⟨⟨2, by omega, rfl, rfl, HK3, HB3⟩, by simp [intOf]⟩
    · obtain ⟨q, rfl, hc1⟩ := HX.out 2 (by omega)
      have d1 : wr.cell? ⟨q.block, q.off + 2, none⟩ = some (.int .i64 c) := (hbel.out.cell (World.block_lt_of_cell? w _ hc1)).trans hc1
      have o1 := cell_of_one hkp.out
      have C := specDec_small c hc wr
      clear hc1
      go_wp2_with fail
      refine C.mono ?_
      rintro e w3 ⟨rfl, hb3⟩
      clear C
      have HK3 : Hid (w3.heap[w.heap.size]? = some (.cells #[.slice (some q) 4 cap] 24 (0, 0))) := keep2 hkp.out hb3
      have HB3 : Hid (Below w.heap.size w w3) := hbel.out.trans (hb3.mono hbel.out.size)
      clear hb3 hkp hbel
      go_wp2
      exact ⟨⟨3, by omega, rfl, rfl, HK3, HB3⟩, by simp [intOf]⟩
    · obtain ⟨q, rfl, hc1⟩ := HX.out 3 (by omega)
      have d1 : wr.cell? ⟨q.block, q.off + 3, none⟩ = some (.int .i64 d) := (hbel.out.cell (World.block_lt_of_cell? w _ hc1)).trans hc1
      have o1 := cell_of_one hkp.out
      have C := specDec_small d hd wr
      clear hc1
      go_wp2_with fail
      refine C.mono ?_
      rintro e w3 ⟨rfl, hb3⟩
      clear C
      have HK3 : Hid (w3.heap[w.heap.size]? = some (.cells #[.slice (some q) 4 cap] 24 (0, 0))) := keep2 hkp.out hb3
      have HB3 : Hid (Below w.heap.size w w3) := hbel.out.trans (hb3.mono hbel.out.size)
      clear hb3 hkp hbel
      go_wp2
      exact ⟨⟨4, by omega, rfl, rfl, HK3, HB3⟩, by simp [intOf]⟩
    · go_wp2
      go_ret
      exact ⟨rfl, hbel.out⟩

set_option maxHeartbeats 1000000 in
theorem specShow_no (v : Value) (xs : List Int) (w : World) (hx : IsInts w v xs) (hn : xs.length ≤ 1048576) (h : labelOk xs = false) :
    Calls Try.prog 12 #[.agg #[v]] w fun e w' => e = .returned (.string ⟨#[]⟩) ∧ Below w.heap.size w w' := by
  have HB0 : Hid (Below w.heap.size w (w.alloc (.cells #[v] 24 (0, 0)))) := below_alloc w _
  have C1 := specLabelOk_any v xs _ (hx.on HB0.out) hn
  rw [h] at C1
  clear hx h
  go_enter Try.func12, Try.ntmps12
  go_wp2_with fail
  refine C1.mono ?_
  rintro e w1 ⟨rfl, hb1⟩
  clear C1
  have HB1 : Hid (Below w.heap.size w w1) := HB0.out.trans (hb1.mono HB0.out.size)
  clear hb1 HB0
  go_wp2
  go_ret
  exact ⟨rfl, HB1.out⟩

theorem specShow_any (v : Value) (xs : List Int) (w : World) (hx : IsInts w v xs) (hn : xs.length ≤ 1048576) :
    Calls Try.prog 12 #[.agg #[v]] w fun e w' => e = .returned (.string (showOf xs)) ∧ Below w.heap.size w w' := by
  by_cases h : labelOk xs = true
  · rw [showOf_yes h]
    have h4 := four_eq (labelOk_four h)
    rw [h4] at hx h ⊢
    exact specShow_four v _ _ _ _ w hx h
  · have h' : labelOk xs = false := by simpa using h
    rw [showOf_no h']
    exact specShow_no v xs w hx hn h'
end Go.Proofs.Ytpdhlnnepgkmkab
