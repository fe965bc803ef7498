/-
  The program's Flat, ShowLabel and ReadLabel.
-/
import Derived.Test.YtpdhlnnepgkmkaaIJoin
import Derived.Test.YtpdhlnnepgkmkaaOwnR
import Derived.Test.YtpdhlnnepgkmkaaPut
namespace Go.Proofs.Ytpdhlnnepgkmkaa
open Go.RowKit
set_option linter.unusedVariables false

/-- What Flat makes. -/
def flatOf (l : Int) : List Int := rightOf [l, l, l, l]
def flatTo (l : Int) : Nat → Array Value
  | 0 => #[.int .i64 0, .int .i64 0, .int .i64 0, .int .i64 0]
  | 1 => #[.int .i64 l, .int .i64 0, .int .i64 0, .int .i64 0]
  | 2 => #[.int .i64 l, .int .i64 l, .int .i64 0, .int .i64 0]
  | 3 => #[.int .i64 l, .int .i64 l, .int .i64 l, .int .i64 0]
  | _ => #[.int .i64 l, .int .i64 l, .int .i64 l, .int .i64 l]
def flatW (w : World) (l : Int) (k : Nat) : World := (w.alloc (.cells #[.slice none 0 0] 26 (0, 0))).alloc (.cells (flatTo l k) 49 (0, 0))
theorem flatW_zero (w : World) (l : Int) (k : Nat) : (flatW w l k).heap[w.heap.size]? = some (.cells #[.slice none 0 0] 26 (0, 0)) := by
  unfold flatW
  rw [heap_alloc_old _ _ (by simp)]
  exact heap_alloc_new w _
theorem flatW_below (w : World) (l : Int) (k : Nat) : Below w.heap.size w (flatW w l k) := ((Below.refl _ _).alloc (Nat.le_refl _) _).alloc (by simp) _

set_option maxHeartbeats 1000000 in
theorem implFlat_any (l : Int) (w : World) :
    Calls Try.prog 20 #[.int .i64 l] w fun e w' => ∃ r, e = .returned (.agg #[r]) ∧ w'.ownsRow w.heap.size 3 1 r (flatOf l).length (icells (flatOf l)) ∧ Below w.heap.size w w' := by
  have C := rightOrZero_any l l l l (flatW w l 4)
  rw [show rightOf [l, l, l, l] = flatOf l from rfl] at C
  generalize flatOf l = js at C ⊢
  have HZ : Hid ((flatW w l 4).heap[w.heap.size]? = some (.cells #[.slice none 0 0] 26 (0, 0))) := flatW_zero w l 4
  have HB : Hid (Below w.heap.size w (flatW w l 4)) := flatW_below w l 4
  go_enter Try.func20, Try.ntmps20
  go_wp2
  go_loopw [4, 5] (fun _ i wr => ∃ (k : Nat), k ≤ 4 ∧ i = .int .i64 k ∧ wr = flatW w l k) (fun _ i _ => 4 - (intOf i).toNat)
  case atStart => exact ⟨0, Nat.zero_le _, rfl, rfl⟩
  case round =>
    obtain ⟨k, hk, rfl, rfl⟩ := hrel
    have hcase : k = 0 ∨ k = 1 ∨ k = 2 ∨ k = 3 ∨ k = 4 := by omega
    rcases hcase with rfl | rfl | rfl | rfl | rfl
    · unfold flatW flatTo
      go_wp2
      exact ⟨⟨1, by omega, rfl, rfl⟩, by simp [intOf]⟩
    · unfold flatW flatTo
      go_wp2
      exact ⟨⟨2, by omega, rfl, rfl⟩, by simp [intOf]⟩
    · unfold flatW flatTo
      go_wp2
      exact ⟨⟨3, by omega, rfl, rfl⟩, by simp [intOf]⟩
    · unfold flatW flatTo
      go_wp2
      exact ⟨⟨4, by omega, rfl, rfl⟩, by simp [intOf]⟩
    · unfold flatW flatTo at C HZ HB ⊢
      go_wp2_with fail
      refine C.mono ?_
      rintro e w4 ⟨r, rfl, hown, hb4⟩
      have hz := keep2 HZ.out hb4
      have z1 := cell_of_one hz
      have z2 := free_of_one hz
      have HB4 : Hid (Below w.heap.size w w4) := HB.out.trans (hb4.mono HB.out.size)
      have HW : Hid (w4.ownsRow (w.heap.size + 1) 3 1 r js.length (icells js)) := own_from hown (lt_of_block HZ.out)
      obtain ⟨a1, n1, c1, rfl⟩ := own_shape hown
      clear hown hb4 hz HZ HB C
      go_wp2
      have q0 : (w4.setCell ⟨w.heap.size, 0, none⟩ (.slice a1 n1 c1)).cell? ⟨w.heap.size, 0, none⟩ = some (.slice a1 n1 c1) := World.cell?_setCell_same _ _ _ z1
      refine bodyPost_ret (v := .agg #[.slice a1 n1 c1]) (by simp [results, go_sem, q0]) rfl ⟨_, rfl, ?_, ?_⟩
      · exact own_from (ownsRow_setCell_below HW.out (by first | (simp; done) | (simp; omega)) _) (by omega)
      · exact HB4.out.setCell (by first | (simp; done) | (simp; omega)) _


/-- A level's digit. -/
def digit (x : Int) : UInt8 := UInt8.ofNat (48 + x.toNat)
theorem digit_toNat {x : Int} (h : 0 ≤ x ∧ x ≤ 3) : ((digit x).toNat : Int) = 48 + x := by
  have hc : x = 0 ∨ x = 1 ∨ x = 2 ∨ x = 3 := by omega
  rcases hc with rfl | rfl | rfl | rfl <;> rfl
/-- The text of a label; none where it isn't right. -/
def showOf (xs : List Int) : ByteArray := if labelOk xs then ⟨(xs.map digit).toArray⟩ else ⟨#[]⟩
theorem showOf_yes {xs : List Int} (h : labelOk xs = true) : showOf xs = ⟨(xs.map digit).toArray⟩ := by simp [showOf, h]
theorem showOf_no {xs : List Int} (h : labelOk xs = false) : showOf xs = ⟨#[]⟩ := by simp [showOf, h]
theorem vs_digit {x : Int} (h : 0 ≤ x ∧ x ≤ 3) : (#[.int .u8 (48 + x)] : Array Value) = (bcells [digit x]).toArray := by
  simp [bcells, digit_toNat h]

set_option maxHeartbeats 1000000 in
theorem implShow_four (v : Value) (a b c d : Int) (w : World) (hx : IsInts w v [a, b, c, d]) (h : labelOk [a, b, c, d] = true) :
    Calls Try.prog 19 #[.agg #[v]] w fun e w' => e = .returned (.string ⟨#[digit a, digit b, digit c, digit d]⟩) ∧ Below w.heap.size w w' := by
  have ha := labelOk_each h 0 (by omega)
  have hb := labelOk_each h 1 (by omega)
  have hc := labelOk_each h 2 (by omega)
  have hd := labelOk_each h 3 (by omega)
  simp only [List.getD_cons_zero, List.getD_cons_succ] at ha hb hc hd
  have HB0 : Hid (Below w.heap.size w (w.alloc (.cells #[v] 26 (0, 0)))) := below_alloc w _
  have C1 := levelsOf_any v [a, b, c, d] _ (hx.on HB0.out)
  rw [h, pad4_yes rfl] at C1
  simp only [List.getD_cons_zero, List.getD_cons_succ] at C1
  have i0 := index4_0 a b c d
  have i1 := index4_1 a b c d
  have i2 := index4_2 a b c d
  have i3 := index4_3 a b c d
  clear hx h
  go_enter Try.func19, Try.ntmps19
  go_wp2_with fail
  refine C1.mono ?_
  rintro e w1 ⟨rfl, hb1⟩
  clear C1
  have hm : (Instr.makeSlice 22 (.int .i64 4) (.int .i64 4)).run Try.prog (w1.alloc (.cells #[.int .i64 a, .int .i64 b, .int .i64 c, .int .i64 d] 49 (0, 0))) = .ok (.slice (some ⟨w1.heap.size + 1, 0, none⟩) 4 4) ((w1.alloc (.cells #[.int .i64 a, .int .i64 b, .int .i64 c, .int .i64 d] 49 (0, 0))).alloc (.cells (rowOf [] 4).toArray 5 (0, 0))) := by
    have := make_bytes 4 (by omega) (w1.alloc (.cells #[.int .i64 a, .int .i64 b, .int .i64 c, .int .i64 d] 49 (0, 0)))
    rw [show (w1.alloc (.cells #[.int .i64 a, .int .i64 b, .int .i64 c, .int .i64 d] 49 (0, 0))).heap.size = w1.heap.size + 1 by simp] at this
    exact this
  have HB2 : Hid (Below w.heap.size w ((w1.alloc (.cells #[.int .i64 a, .int .i64 b, .int .i64 c, .int .i64 d] 49 (0, 0))).alloc (.cells (rowOf [] 4).toArray 5 (0, 0)))) := by
    have h0 : w.heap.size ≤ w1.heap.size := Nat.le_trans HB0.out.size hb1.size
    exact ((HB0.out.trans (hb1.mono HB0.out.size)).alloc h0 _).alloc (by simp; omega) _
  have HR2 : Hid (((w1.alloc (.cells #[.int .i64 a, .int .i64 b, .int .i64 c, .int .i64 d] 49 (0, 0))).alloc (.cells (rowOf [] 4).toArray 5 (0, 0))).heap[w1.heap.size + 1]? = some (.cells (rowOf ([digit a, digit b, digit c, digit d].take 0) (4 - 0)).toArray 5 (0, 0))) := by
    have := heap_alloc_new (w1.alloc (.cells #[.int .i64 a, .int .i64 b, .int .i64 c, .int .i64 d] 49 (0, 0))) (.cells (rowOf [] 4).toArray 5 (0, 0))
    rw [show (w1.alloc (.cells #[.int .i64 a, .int .i64 b, .int .i64 c, .int .i64 d] 49 (0, 0))).heap.size = w1.heap.size + 1 by simp] at this
    exact this
  have HS : Hid (w.heap.size ≤ w1.heap.size + 1) := by have : w.heap.size ≤ w1.heap.size := Nat.le_trans HB0.out.size hb1.size; exact Nat.le_succ_of_le this
  have HB1 : Hid (Below w.heap.size w w1) := HB0.out.trans (hb1.mono HB0.out.size)
  clear hb1 HB0
  go_wp2
  go_loopw [6, 8, 18] (fun t _ i wr => ∃ k : Nat, k ≤ 4 ∧ i = .int .i64 k ∧ t = .int .i64 k ∧ Hid (wr.heap[w1.heap.size + 1]? = some (.cells (rowOf ([digit a, digit b, digit c, digit d].take k) (4 - k)).toArray 5 (0, 0))) ∧ Hid (Below w.heap.size w wr)) (fun _ _ i _ => 4 - (intOf i).toNat)
  case atStart => exact ⟨0, by omega, rfl, rfl, HR2, HB2⟩
  case round =>
    obtain ⟨k, hk, rfl, rfl, hrow, hbel⟩ := hrel
    clear HR2 HB2 hm
    have hcase : k = 0 ∨ k = 1 ∨ k = 2 ∨ k = 3 ∨ k = 4 := by omega
    rcases hcase with rfl | rfl | rfl | rfl | rfl
    · have hw1 : IntKind.u8.wrap a = a := by unfold IntKind.wrap; simp [IntKind.bits, IntKind.signed]; omega
      have hw2 : IntKind.u8.wrap (48 + a) = 48 + a := by unfold IntKind.wrap; simp [IntKind.bits, IntKind.signed]; omega
      have C := put_row wr (w1.heap.size + 1) 4 ([digit a, digit b, digit c, digit d].take 0) [digit a] 3 #[.int .u8 (48 + a)] (vs_digit ha) 1 rfl hrow.out rfl (by omega) (by omega)
      go_wp2_with fail
      refine C.mono ?_
      rintro e w3 ⟨rfl, hr3, hb3⟩
      clear C
      have HR3 : Hid (w3.heap[w1.heap.size + 1]? = some (.cells (rowOf ([digit a, digit b, digit c, digit d].take 1) (4 - 1)).toArray 5 (0, 0))) := hr3
      have HB3 : Hid (Below w.heap.size w w3) := hbel.out.trans (hb3.mono HS.out)
      clear hr3 hb3 hrow hbel
      go_wp2
      exact ⟨⟨1, by omega, rfl, rfl, HR3, HB3⟩, by simp [intOf]⟩
    · have hw1 : IntKind.u8.wrap b = b := by unfold IntKind.wrap; simp [IntKind.bits, IntKind.signed]; omega
      have hw2 : IntKind.u8.wrap (48 + b) = 48 + b := by unfold IntKind.wrap; simp [IntKind.bits, IntKind.signed]; omega
      have C := put_row wr (w1.heap.size + 1) 4 ([digit a, digit b, digit c, digit d].take 1) [digit b] 2 #[.int .u8 (48 + b)] (vs_digit hb) 1 rfl hrow.out rfl (by omega) (by omega)
      go_wp2_with fail
      refine C.mono ?_
      rintro e w3 ⟨rfl, hr3, hb3⟩
      clear C
      have HR3 : Hid (w3.heap[w1.heap.size + 1]? = some (.cells (rowOf ([digit a, digit b, digit c, digit d].take 2) (4 - 2)).toArray 5 (0, 0))) := hr3
      have HB3 : Hid (Below w.heap.size w w3) := hbel.out.trans (hb3.mono HS.out)
      clear hr3 hb3 hrow hbel
      go_wp2
      exact ⟨⟨2, by omega, rfl, rfl, HR3, HB3⟩, by simp [intOf]⟩
    · have hw1 : IntKind.u8.wrap c = c := by unfold IntKind.wrap; simp [IntKind.bits, IntKind.signed]; omega
      have hw2 : IntKind.u8.wrap (48 + c) = 48 + c := by unfold IntKind.wrap; simp [IntKind.bits, IntKind.signed]; omega
      have C := put_row wr (w1.heap.size + 1) 4 ([digit a, digit b, digit c, digit d].take 2) [digit c] 1 #[.int .u8 (48 + c)] (vs_digit hc) 1 rfl hrow.out rfl (by omega) (by omega)
      go_wp2_with fail
      refine C.mono ?_
      rintro e w3 ⟨rfl, hr3, hb3⟩
      clear C
      have HR3 : Hid (w3.heap[w1.heap.size + 1]? = some (.cells (rowOf ([digit a, digit b, digit c, digit d].take 3) (4 - 3)).toArray 5 (0, 0))) := hr3
      have HB3 : Hid (Below w.heap.size w w3) := hbel.out.trans (hb3.mono HS.out)
      clear hr3 hb3 hrow hbel
      go_wp2
      exact ⟨⟨3, by omega, rfl, rfl, HR3, HB3⟩, by simp [intOf]⟩
    · have hw1 : IntKind.u8.wrap d = d := by unfold IntKind.wrap; simp [IntKind.bits, IntKind.signed]; omega
      have hw2 : IntKind.u8.wrap (48 + d) = 48 + d := by unfold IntKind.wrap; simp [IntKind.bits, IntKind.signed]; omega
      have C := put_row wr (w1.heap.size + 1) 4 ([digit a, digit b, digit c, digit d].take 3) [digit d] 0 #[.int .u8 (48 + d)] (vs_digit hd) 1 rfl hrow.out rfl (by omega) (by omega)
      go_wp2_with fail
      refine C.mono ?_
      rintro e w3 ⟨rfl, hr3, hb3⟩
      clear C
      have HR3 : Hid (w3.heap[w1.heap.size + 1]? = some (.cells (rowOf ([digit a, digit b, digit c, digit d].take 4) (4 - 4)).toArray 5 (0, 0))) := hr3
      have HB3 : Hid (Below w.heap.size w w3) := hbel.out.trans (hb3.mono HS.out)
      clear hr3 hb3 hrow hbel
      go_wp2
      exact ⟨⟨4, by omega, rfl, rfl, HR3, HB3⟩, by simp [intOf]⟩
    · have hcv : (convert 22 9 (.slice (some ⟨w1.heap.size + 1, 0, none⟩) 4 4)).run Try.prog wr = .ok (.string ⟨#[digit a, digit b, digit c, digit d]⟩) wr := conv_row wr (w1.heap.size + 1) [digit a, digit b, digit c, digit d] 0 4 hrow.out
      clear hrow
      go_wp2
      go_ret
      exact ⟨rfl, hbel.out⟩

set_option maxHeartbeats 1000000 in
theorem implShow_no (v : Value) (xs : List Int) (w : World) (hx : IsInts w v xs) (h : labelOk xs = false) :
    Calls Try.prog 19 #[.agg #[v]] w fun e w' => e = .returned (.string ⟨#[]⟩) ∧ Below w.heap.size w w' := by
  have HB0 : Hid (Below w.heap.size w (w.alloc (.cells #[v] 26 (0, 0)))) := below_alloc w _
  have C1 := levelsOf_any v xs _ (hx.on HB0.out)
  obtain ⟨a, b, c, d, hp⟩ : ∃ a b c d, pad4 xs = arr4 a b c d := by
    unfold pad4; split <;> exact ⟨_, _, _, _, rfl⟩
  rw [h, hp] at C1
  clear hx h hp
  go_enter Try.func19, Try.ntmps19
  go_wp2_with fail
  refine C1.mono ?_
  rintro e w1 ⟨rfl, hb1⟩
  clear C1
  have HB1 : Hid (Below w.heap.size w w1) := HB0.out.trans (hb1.mono HB0.out.size)
  clear hb1 HB0
  go_wp2
  go_ret
  exact ⟨rfl, HB1.out.alloc HB1.out.size _⟩

theorem implShow_any (v : Value) (xs : List Int) (w : World) (hx : IsInts w v xs) :
    Calls Try.prog 19 #[.agg #[v]] w fun e w' => e = .returned (.string (showOf xs)) ∧ Below w.heap.size w w' := by
  by_cases h : labelOk xs = true
  · rw [showOf_yes h]
    have h4 := four_eq (labelOk_four h)
    rw [h4] at hx h ⊢
    exact implShow_four v _ _ _ _ w hx h
  · have h' : labelOk xs = false := by simpa using h
    rw [showOf_no h']
    exact implShow_no v xs w hx h'


/-- A sign's value. -/
def val (b : UInt8) : Int := (b.toNat : Int) - 48
/-- The values of the first signs, as far as 'k'. -/
def valsTo (s : ByteArray) (k : Nat) : List Int := (s.data.toList.take k).map val
theorem valsTo_length (s : ByteArray) (k : Nat) (h : k ≤ s.size) : (valsTo s k).length = k := by
  unfold valsTo; simp; omega
theorem valsTo_succ (s : ByteArray) (k : Nat) (h : k < s.size) : valsTo s (k + 1) = valsTo s k ++ [val (s.data.toList.getD k 0)] := by
  unfold valsTo
  have hl : k < s.data.toList.length := by simpa using h
  rw [List.take_add_one, List.getElem?_eq_getElem hl]
  simp [List.getD, Array.getElem?_eq_getElem (show k < s.data.size from h)]
theorem right_same (xs : List Int) : labelOk (rightOf xs) = labelOk xs := by
  by_cases h : labelOk xs = true
  · rw [rightOf_yes h]
  · have h' : labelOk xs = false := by simpa using h
    rw [rightOf_no h', h']
    exact labelOk_len (by simp)
theorem sign_lt (b : UInt8) : (0 : Int) ≤ (b.toNat : Int) ∧ (b.toNat : Int) < 256 := ⟨by omega, by have := b.toNat_lt; omega⟩

def fourTo (a b c d : Int) : Nat → Array Value
  | 0 => #[.int .i64 0, .int .i64 0, .int .i64 0, .int .i64 0]
  | 1 => #[.int .i64 a, .int .i64 0, .int .i64 0, .int .i64 0]
  | 2 => #[.int .i64 a, .int .i64 b, .int .i64 0, .int .i64 0]
  | 3 => #[.int .i64 a, .int .i64 b, .int .i64 c, .int .i64 0]
  | _ => #[.int .i64 a, .int .i64 b, .int .i64 c, .int .i64 d]
def fourW (w : World) (a b c d : Int) (k : Nat) : World := (w.alloc (.cells #[.slice none 0 0] 26 (0, 0))).alloc (.cells (fourTo a b c d k) 49 (0, 0))
theorem fourW_zero (w : World) (a b c d : Int) (k : Nat) : (fourW w a b c d k).heap[w.heap.size]? = some (.cells #[.slice none 0 0] 26 (0, 0)) := by
  unfold fourW
  rw [heap_alloc_old _ _ (by simp)]
  exact heap_alloc_new w _
theorem fourW_below (w : World) (a b c d : Int) (k : Nat) : Below w.heap.size w (fourW w a b c d k) := ((Below.refl _ _).alloc (Nat.le_refl _) _).alloc (by simp) _

set_option maxHeartbeats 1000000 in
theorem implRead_four (b0 b1 b2 b3 : UInt8) (w : World) :
    Calls Try.prog 18 #[.string ⟨#[b0, b1, b2, b3]⟩] w fun e w' => ∃ r, e = .returned (.tuple #[.agg #[r], .bool (labelOk [val b0, val b1, val b2, val b3])]) ∧ w'.ownsRow w.heap.size 3 1 r (rightOf [val b0, val b1, val b2, val b3]).length (icells (rightOf [val b0, val b1, val b2, val b3])) ∧ Below w.heap.size w w' := by
  have x0 : ∀ w, (Instr.index 9 (.string ⟨#[b0, b1, b2, b3]⟩) (.int .i64 0)).run Try.prog w = .ok (.int .u8 (b0.toNat : Int)) w := fun w => by kernel_rfl
  have x1 : ∀ w, (Instr.index 9 (.string ⟨#[b0, b1, b2, b3]⟩) (.int .i64 1)).run Try.prog w = .ok (.int .u8 (b1.toNat : Int)) w := fun w => by kernel_rfl
  have x2 : ∀ w, (Instr.index 9 (.string ⟨#[b0, b1, b2, b3]⟩) (.int .i64 2)).run Try.prog w = .ok (.int .u8 (b2.toNat : Int)) w := fun w => by kernel_rfl
  have x3 : ∀ w, (Instr.index 9 (.string ⟨#[b0, b1, b2, b3]⟩) (.int .i64 3)).run Try.prog w = .ok (.int .u8 (b3.toNat : Int)) w := fun w => by kernel_rfl
  obtain ⟨s, hs⟩ : ∃ s : ByteArray, s = ⟨#[b0, b1, b2, b3]⟩ := ⟨_, rfl⟩
  have hsz : (s.size : Int) = 4 := by rw [hs]; rfl
  rw [← hs] at x0 x1 x2 x3 ⊢
  clear hs
  have l0 := sign_lt b0
  have l1 := sign_lt b1
  have l2 := sign_lt b2
  have l3 := sign_lt b3
  have w0 : wrap64 ((b0.toNat : Int) - 48) = (b0.toNat : Int) - 48 := by unfold wrap64; omega
  have w1 : wrap64 ((b1.toNat : Int) - 48) = (b1.toNat : Int) - 48 := by unfold wrap64; omega
  have w2 : wrap64 ((b2.toNat : Int) - 48) = (b2.toNat : Int) - 48 := by unfold wrap64; omega
  have w3 : wrap64 ((b3.toNat : Int) - 48) = (b3.toNat : Int) - 48 := by unfold wrap64; omega
  have v0 : wrap64 (b0.toNat : Int) = (b0.toNat : Int) := by unfold wrap64; omega
  have v1 : wrap64 (b1.toNat : Int) = (b1.toNat : Int) := by unfold wrap64; omega
  have v2 : wrap64 (b2.toNat : Int) = (b2.toNat : Int) := by unfold wrap64; omega
  have v3 : wrap64 (b3.toNat : Int) = (b3.toNat : Int) := by unfold wrap64; omega
  simp only [val]
  generalize (b0.toNat : Int) = y0 at *
  generalize (b1.toNat : Int) = y1 at *
  generalize (b2.toNat : Int) = y2 at *
  generalize (b3.toNat : Int) = y3 at *
  have C := rightOrZero_any (y0 - 48) (y1 - 48) (y2 - 48) (y3 - 48) (fourW w (y0 - 48) (y1 - 48) (y2 - 48) (y3 - 48) 4)
  have cl := fun v w' (hi : IsInts w' v (rightOf [y0 - 48, y1 - 48, y2 - 48, y3 - 48])) => implLabelOk_any v _ w' hi
  rw [right_same] at cl
  generalize labelOk [y0 - 48, y1 - 48, y2 - 48, y3 - 48] = o at cl ⊢
  generalize rightOf [y0 - 48, y1 - 48, y2 - 48, y3 - 48] = js at C cl ⊢
  have CL : Hid (∀ v w', IsInts w' v js → _) := cl
  have HZ : Hid ((fourW w (y0 - 48) (y1 - 48) (y2 - 48) (y3 - 48) 4).heap[w.heap.size]? = some (.cells #[.slice none 0 0] 26 (0, 0))) := fourW_zero w (y0 - 48) (y1 - 48) (y2 - 48) (y3 - 48) 4
  have HB : Hid (Below w.heap.size w (fourW w (y0 - 48) (y1 - 48) (y2 - 48) (y3 - 48) 4)) := fourW_below w (y0 - 48) (y1 - 48) (y2 - 48) (y3 - 48) 4
  clear cl
  go_enter Try.func18, Try.ntmps18
  go_wp2
  go_loopw [5, 11] (fun _ i wr => ∃ (k : Nat), k ≤ 4 ∧ i = .int .i64 k ∧ wr = fourW w (y0 - 48) (y1 - 48) (y2 - 48) (y3 - 48) k) (fun _ i _ => 4 - (intOf i).toNat)
  case atStart => exact ⟨0, Nat.zero_le _, rfl, rfl⟩
  case round =>
    obtain ⟨k, hk, rfl, rfl⟩ := hrel
    have hcase : k = 0 ∨ k = 1 ∨ k = 2 ∨ k = 3 ∨ k = 4 := by omega
    rcases hcase with rfl | rfl | rfl | rfl | rfl
    · unfold fourW fourTo
      go_wp2
      exact ⟨⟨1, by omega, rfl, rfl⟩, by simp [intOf]⟩
    · unfold fourW fourTo
      go_wp2
      exact ⟨⟨2, by omega, rfl, rfl⟩, by simp [intOf]⟩
    · unfold fourW fourTo
      go_wp2
      exact ⟨⟨3, by omega, rfl, rfl⟩, by simp [intOf]⟩
    · unfold fourW fourTo
      go_wp2
      exact ⟨⟨4, by omega, rfl, rfl⟩, by simp [intOf]⟩
    · unfold fourW fourTo at C HZ HB ⊢
      clear x0 x1 x2 x3
      go_wp2_with fail
      refine C.mono ?_
      rintro e w4 ⟨r, rfl, hown, hb4⟩
      clear C
      have HZ4 : Hid ((w4.alloc (.cells #[r] 26 (0, 0))).heap[w.heap.size]? = some (.cells #[.slice none 0 0] 26 (0, 0))) := keep2 (keep2 HZ.out hb4) (below_alloc w4 _)
      have HB4 : Hid (Below w.heap.size w (w4.alloc (.cells #[r] 26 (0, 0)))) := (HB.out.trans (hb4.mono HB.out.size)).trans ((below_alloc w4 _).mono (HB.out.trans (hb4.mono HB.out.size)).size)
      have HO4 : Hid (OwnR w4.heap.size r js (w.heap.size + 1) w4.heap.size (w4.alloc (.cells #[r] 26 (0, 0)))) := ownR_new hown (lt_of_block HZ.out)
      have z4 : w4.cell? ⟨w.heap.size, 0, none⟩ = some (.slice none 0 0) := cell_of_one (keep2 HZ.out hb4)
      have f4 : w4.frozen? ⟨w.heap.size, 0, none⟩ = false := free_of_one (keep2 HZ.out hb4)
      have t4 : w.heap.size < w4.heap.size := World.block_lt_of_cell? w4 _ z4
      obtain ⟨a1, n1, c1, rfl⟩ := own_shape hown
      clear hown hb4 HZ HB
      go_wp2_with fail
      go_region_with (go_at_call 23; refine (CL.out _ _ ?_).mono ?_; (first | exact HO4.out.drew.ints | exact HO4.out.ints); rintro e w5 ⟨rfl, hb5⟩; have HO5 : Hid (OwnR w4.heap.size (.slice a1 n1 c1) js (w.heap.size + 1) w4.heap.size w5) := HO4.out.drew.on hb5; have HZ5 : Hid (w5.heap[w.heap.size]? = some (.cells #[.slice none 0 0] 26 (0, 0))) := keep2 (show (w4.alloc (.cells #[.slice a1 n1 c1] 26 (0, 0))).drew.heap[w.heap.size]? = _ from HZ4.out) hb5; have HB5 : Hid (Below w.heap.size w w5) := HB4.out.drew.trans (hb5.mono HB4.out.drew.size); have z5 := cell_of_one HZ5.out; have f5 := free_of_one HZ5.out; have y5 := HO5.out.cell; clear hb5)
      all_goals go_wp2
      all_goals have q0 : (w5.setCell ⟨w.heap.size, 0, none⟩ (.slice a1 n1 c1)).cell? ⟨w.heap.size, 0, none⟩ = some (.slice a1 n1 c1) := World.cell?_setCell_same _ _ _ z5
      all_goals refine bodyPost_ret (v := .tuple #[.agg #[.slice a1 n1 c1], .bool o]) (by simp [results, go_sem, q0]) rfl ⟨_, rfl, ?_, ?_⟩
      all_goals first
        | exact own_from (ownsRow_setCell_below HO5.out.own (by first | (simp; done) | (simp; omega)) _) (by omega)
        | exact HB5.out.setCell (by first | (simp; done) | (simp; omega)) _

set_option maxHeartbeats 1000000 in
theorem implRead_len (s : ByteArray) (w : World) (h : s.size ≠ 4) :
    Calls Try.prog 18 #[.string s] w fun e w' => e = .returned (.tuple #[.agg #[.slice none 0 0], .bool false]) ∧ Below w.heap.size w w' := by
  have hne : ((s.size : Int) != 4) = true := by simp; omega
  have HB : Hid (Below w.heap.size w (w.alloc (.cells #[.slice none 0 0] 26 (0, 0)))) := below_alloc w _
  go_enter Try.func18, Try.ntmps18
  go_wp2
  refine bodyPost_ret (v := .tuple #[.agg #[.slice none 0 0], .bool false]) ?_ rfl ⟨rfl, HB.out⟩
  have hres : Try.f18.results = #[.cell 2 26, .tmp 3] := by kernel_rfl
  simp only [results, hres]
  go_simp

/-- What is read of a text: at most five signs. -/
def readVals (s : ByteArray) : List Int := valsTo s (min s.size 5)
theorem readVals_len (s : ByteArray) : (readVals s).length = min s.size 5 := valsTo_length s _ (Nat.min_le_left _ _)
theorem implRead_any (s : ByteArray) (w : World) :
    Calls Try.prog 18 #[.string s] w fun e w' => ∃ r, e = .returned (.tuple #[.agg #[r], .bool (labelOk (readVals s))]) ∧ w'.ownsRow w.heap.size 3 1 r (rightOf (readVals s)).length (icells (rightOf (readVals s))) ∧ Below w.heap.size w w' := by
  by_cases h : s.size = 4
  · obtain ⟨⟨l⟩⟩ := s
    match l, h with
    | [b0, b1, b2, b3], _ => exact implRead_four b0 b1 b2 b3 w
  · have hl : labelOk (readVals s) = false := labelOk_len (by rw [readVals_len]; omega)
    rw [hl, rightOf_no hl]
    refine (implRead_len s w h).mono ?_
    rintro e w' ⟨rfl, hb⟩
    exact ⟨_, rfl, World.ownsRow_nil _ _ _ _, hb⟩


end Go.Proofs.Ytpdhlnnepgkmkaa
