/-
  Dec answers as its model at every number.
-/
import Derived.Test.YtkjabochhhalhaiDoorRows
import Derived.Test.YtkjabochhhalhaiDoorShelf
import Derived.Test.YtkjabochhhalhaiDoorMathDec
import Derived.WalkKit
import Derived.WalkSpells
import Derived.WalkLawsBesides
import Derived.Laws.IdiomStrings
import Derived.Laws.IdiomRangeMap
import Derived.Outline
import Derived.ProofKit
import Derived.OpenShut
import Derived.ShutString
import Derived.Lib.AppendIntMem
import Derived.Lib.LaidTab
import Derived.Stop.LaidErr
import Derived.Deep.DeepHandedRow
import Derived.Test.YtkjabochhhalhaiDoorCards
import Derived.Test.YtkjabochhhalhaiDoorTie
namespace Go.Proofs.YtkjabochhhalhaiDoor
open Go.ChangeShapes Go.WideShapes Go.ChangeAt Go.RowKit Go.Lib
set_option linter.unusedVariables false

/-- 'string([]byte{b})'. -/
theorem conv_one (wr : World) (b : UInt8) (v : Int) (hv : v = (b.toNat : Int)) :
    (convert 27 9 (.slice (some ⟨wr.heap.size, 0, none⟩) 1 1)).run Tryd.prog (wr.alloc (.cells #[.int .u8 v] 5)) = .ok (.string ⟨#[b]⟩) (wr.alloc (.cells #[.int .u8 v] 5)) := by
  refine run_convert_bytes_back (wr.alloc (.cells #[.int .u8 v] 5)) 27 9 5 ⟨wr.heap.size, 0, none⟩ 1 [b] Tryd.underlying27 Tryd.underlying5 Tryd.underlying9 ?_
  intro j hj
  obtain rfl : j = 0 := by simp at hj; omega
  have hnew : (wr.alloc (.cells #[.int .u8 v] 5)).heap[wr.heap.size]? = some (.cells #[.int .u8 v] 5 (0, 0)) := heap_alloc_new wr _
  have hc : (wr.alloc (.cells #[.int .u8 v] 5)).cell? ⟨wr.heap.size, 0, none⟩ = some (.int .u8 v) := by simp only [World.cell?, hnew]; rfl
  subst hv
  exact hc

set_option maxRecDepth 100000 in
set_option maxHeartbeats 400000 in
theorem specDec_pos (M : Nat) (w : World) (h0 : 0 < M) (h1 : M ≤ 9223372036854775807) :
    Calls Tryd.prog 5 #[.int .i64 M] w fun e w' => e = .returned (.string ⟨(itoa M).toArray⟩) ∧ Below w.heap.size w w' := by
  have hz : ((M : Int) == 0) = false := by simp; omega
  have hD := dd_20 M (by omega)
  obtain ⟨D, hD'⟩ : ∃ D, D = (decDigits M).length := ⟨_, rfl⟩
  rw [← hD'] at hD
  have HD : Hid (D = (decDigits M).length) := hD'
  clear hD'
  rw [itoa_pos]
  go_enter Tryd.func5, Tryd.ntmps5
  go_wp2
  go_loopw [0, 3, 5] (fun n v _ wr => ∃ (m : Nat) (out : List UInt8) (E : ByteArray), n = .int .i64 m ∧ v = .string E ∧ m ≤ 9223372036854775807 ∧ E.size ≤ D ∧ Hid (E = ⟨out.toArray⟩) ∧ Hid (Left10 M m out) ∧ Below w.heap.size w wr) (fun n _ _ _ => (RowKit.intOf n).natAbs)
  case atStart => exact ⟨M, [], ⟨#[]⟩, rfl, rfl, h1, Nat.zero_le _, rfl, left10_start M h0, Below.refl _ _⟩
  case round =>
    obtain ⟨m, out, E, rfl, rfl, hmb, hEs, hE, hL, hnx⟩ := hrel
    have hsz := hnx.size
    by_cases hm : 0 < m
    · have hq : ((m : Int) != 0) = true := by rw [bne_iff_ne]; omega
      obtain ⟨b, hb⟩ : ∃ b, b = UInt8.ofNat (48 + m % 10) := ⟨_, rfl⟩
      have hconv : ∀ wr : World, (convert 27 9 (.slice (some ⟨wr.heap.size, 0, none⟩) 1 1)).run Tryd.prog (wr.alloc (.cells #[.int .u8 (48 + (m : Int) % 10)] 5)) = .ok (.string ⟨#[b]⟩) (wr.alloc (.cells #[.int .u8 (48 + (m : Int) % 10)] 5)) := fun wr => conv_one wr b _ (by rw [hb]; simp; omega)
      have HL : Hid (Left10 M (m / 10) (b :: out)) := by rw [hb]; exact left10_step M m out hL.out hm
      clear hb hL
      go_wp2
      refine ⟨⟨m / 10, b :: out, ⟨#[b]⟩ ++ E, by go_num, rfl, by omega, ?_, ?_, HL.out, hnx.alloc hsz _⟩, by simp [RowKit.intOf]; omega⟩
      · have hl := left10_len _ _ _ HL.out
        rw [ByteArray.size_append, hE.out, HD.out]
        have e1 : (⟨#[b]⟩ : ByteArray).size = 1 := rfl
        have e2 : (⟨out.toArray⟩ : ByteArray).size = out.length := by simp [ByteArray.size]
        rw [e1, e2]
        simp at hl
        omega
      · rw [hE.out]; exact cat_bytes [b] out
    · obtain rfl : m = 0 := by omega
      have H : Hid (out = decDigits M) := left10_end M out hL.out
      clear hL
      go_wp2
      go_ret
      rw [← H.out, ← hE.out]
      exact ⟨rfl, hnx⟩

set_option maxRecDepth 100000 in
set_option maxHeartbeats 400000 in
theorem specDec_neg (M : Nat) (w : World) (h0 : 0 < M) (h1 : M ≤ 9223372036854775808) :
    Calls Tryd.prog 5 #[.int .i64 (-(M : Int))] w fun e w' => e = .returned (.string ⟨(itoa (-(M : Int))).toArray⟩) ∧ Below w.heap.size w w' := by
  have hz : ((-(M : Int)) == 0) = false := by simp; omega
  have hD := dd_20 M (by omega)
  obtain ⟨D, hD'⟩ : ∃ D, D = (decDigits M).length := ⟨_, rfl⟩
  rw [← hD'] at hD
  have HD : Hid (D = (decDigits M).length) := hD'
  clear hD'
  rw [itoa_neg M h0]
  have hneg : -(M : Int) < 0 := by omega
  go_enter Tryd.func5, Tryd.ntmps5
  go_wp2
  go_loopw [0, 3, 5] (fun n v _ wr => ∃ (m : Nat) (out : List UInt8) (E : ByteArray), n = .int .i64 (-(m : Int)) ∧ v = .string E ∧ m ≤ 9223372036854775808 ∧ E.size ≤ D ∧ Hid (E = ⟨out.toArray⟩) ∧ Hid (Left10 M m out) ∧ Below w.heap.size w wr) (fun n _ _ _ => (RowKit.intOf n).natAbs)
  case atStart => exact ⟨M, [], ⟨#[]⟩, rfl, rfl, h1, Nat.zero_le _, rfl, left10_start M h0, Below.refl _ _⟩
  case round =>
    obtain ⟨m, out, E, rfl, rfl, hmb, hEs, hE, hL, hnx⟩ := hrel
    have hsz := hnx.size
    by_cases hm : 0 < m
    · have hq : ((-(m : Int)) != 0) = true := by rw [bne_iff_ne]; omega
      have htd := tdiv_neg10 m
      have htm := tmod_neg10 m
      by_cases hd : 0 < m % 10
      · obtain ⟨b, hb⟩ : ∃ b, b = UInt8.ofNat (48 + m % 10) := ⟨_, rfl⟩
        have hd' : (0 : Int) < (m : Int) % 10 := by omega
        have hconv : ∀ wr : World, (convert 27 9 (.slice (some ⟨wr.heap.size, 0, none⟩) 1 1)).run Tryd.prog (wr.alloc (.cells #[.int .u8 (48 + (m : Int) % 10)] 5)) = .ok (.string ⟨#[b]⟩) (wr.alloc (.cells #[.int .u8 (48 + (m : Int) % 10)] 5)) := fun wr => conv_one wr b _ (by rw [hb]; simp; omega)
        have HL : Hid (Left10 M (m / 10) (b :: out)) := by rw [hb]; exact left10_step M m out hL.out hm
        clear hb hL hd
        go_wp2
        refine ⟨⟨m / 10, b :: out, ⟨#[b]⟩ ++ E, by go_num, rfl, by omega, ?_, ?_, HL.out, hnx.alloc hsz _⟩, by simp [RowKit.intOf]; omega⟩
        · have hl := left10_len _ _ _ HL.out
          rw [ByteArray.size_append, hE.out, HD.out]
          have e1 : (⟨#[b]⟩ : ByteArray).size = 1 := rfl
          have e2 : (⟨out.toArray⟩ : ByteArray).size = out.length := by simp [ByteArray.size]
          rw [e1, e2]
          simp at hl
          omega
        · rw [hE.out]; exact cat_bytes [b] out
      · obtain ⟨b, hb⟩ : ∃ b, b = UInt8.ofNat (48 + m % 10) := ⟨_, rfl⟩
        have hd' : (m : Int) % 10 ≤ 0 := by omega
        have hconv : ∀ wr : World, (convert 27 9 (.slice (some ⟨wr.heap.size, 0, none⟩) 1 1)).run Tryd.prog (wr.alloc (.cells #[.int .u8 (48 + -((m : Int) % 10))] 5)) = .ok (.string ⟨#[b]⟩) (wr.alloc (.cells #[.int .u8 (48 + -((m : Int) % 10))] 5)) := fun wr => conv_one wr b _ (by rw [hb]; simp; omega)
        have HL : Hid (Left10 M (m / 10) (b :: out)) := by rw [hb]; exact left10_step M m out hL.out hm
        clear hb hL hd
        go_wp2
        refine ⟨⟨m / 10, b :: out, ⟨#[b]⟩ ++ E, by go_num, rfl, by omega, ?_, ?_, HL.out, hnx.alloc hsz _⟩, by simp [RowKit.intOf]; omega⟩
        · have hl := left10_len _ _ _ HL.out
          rw [ByteArray.size_append, hE.out, HD.out]
          have e1 : (⟨#[b]⟩ : ByteArray).size = 1 := rfl
          have e2 : (⟨out.toArray⟩ : ByteArray).size = out.length := by simp [ByteArray.size]
          rw [e1, e2]
          simp at hl
          omega
        · rw [hE.out]; exact cat_bytes [b] out
    · obtain rfl : m = 0 := by omega
      have H : Hid (out = decDigits M) := left10_end M out hL.out
      clear hL
      go_wp2
      go_ret
      rw [← H.out]
      refine ⟨?_, hnx⟩
      rw [hE.out]
      exact congrArg (fun s => Ending.returned (Value.string s)) (cat_bytes [45] out)

set_option maxHeartbeats 400000 in
theorem specDec_zero (w : World) :
    Calls Tryd.prog 5 #[.int .i64 0] w fun e w' => e = .returned (.string ⟨(itoa 0).toArray⟩) ∧ Below w.heap.size w w' := by
  have H : Hid (itoa 0 = [48]) := by show _ = _; unfold itoa; rw [if_neg (by omega), decDigits, dif_pos (by decide)]; rfl
  go_enter Tryd.func5, Tryd.ntmps5
  go_wp2
  go_ret
  rw [H.out]
  exact ⟨rfl, Below.refl _ _⟩

theorem specDec_any (n : Int) (w : World) (h0 : -9223372036854775808 ≤ n) (h1 : n ≤ 9223372036854775807) :
    Calls Tryd.prog 5 #[.int .i64 n] w fun e w' => e = .returned (.string ⟨(itoa n).toArray⟩) ∧ Below w.heap.size w w' := by
  rcases Int.lt_trichotomy n 0 with h | rfl | h
  · obtain ⟨M, hM⟩ := Int.eq_ofNat_of_zero_le (show 0 ≤ -n by omega)
    obtain rfl : n = -(M : Int) := by omega
    exact specDec_neg M w (by omega) (by omega)
  · exact specDec_zero w
  · obtain ⟨M, rfl⟩ := Int.eq_ofNat_of_zero_le (show 0 ≤ n by omega)
    exact specDec_pos M w (by omega) (by omega)

theorem grow_below (w : World) (k : Nat) (os : Array Obj) : Below w.heap.size w (Sort.grow (w.drewN k) os) :=
  ⟨rfl, rfl, rfl, by show w.heap.size ≤ (w.heap ++ os).size; simp, fun j hj => by show (w.heap ++ os)[j]? = _; rw [Array.getElem?_append_left hj]⟩

/-- The table of powers of ten, as the library reads it. -/
def Pow (w : World) : Prop := Lib.TabIs Tryd.prog w "internal/strconv.uint64pow10" .u64 Lib.pow10Tab
theorem Pow.on {w w' : World} (h : Pow w) (hb : Below w.heap.size w w') : Pow w' := tabBelow_of_tabIs h w' hb

set_option maxHeartbeats 400000 in
theorem implDec_any (n : Int) (w : World) (h0 : -9223372036854775808 ≤ n) (h1 : n ≤ 9223372036854775807) (hp : Pow w) :
    Calls Tryd.prog 6 #[.int .i64 n] w fun e w' => e = .returned (.string ⟨(itoa n).toArray⟩) ∧ Below w.heap.size w w' := by
  obtain ⟨s, hs⟩ : ∃ s : ByteArray, s = ⟨(itoa n).toArray⟩ := ⟨_, rfl⟩
  have c := Tryd.strconv_Itoa n h0 h1 w hp
  rw [← hs] at c ⊢
  clear hs hp
  go_enter Tryd.func6, Tryd.ntmps6
  go_wp2_with fail
  refine c.mono ?_
  rintro e w' ⟨rfl, k, os, rfl⟩
  generalize hW : Sort.grow (w.drewN k) os = W
  have hb : Below w.heap.size w W := by rw [← hW]; exact grow_below w k os
  clear hW c
  go_wp2
  go_ret
  exact ⟨rfl, hb⟩

set_option maxHeartbeats 400000 in
theorem walkDec (a0 : Int) (w0 : (Lit.int .i64 a0).wf = true) (w : World) (hp : Pow w) :
    Calls Tryd.prog 3 #[.int .i64 a0] w fun e w' => e = .returned (.bool true) ∧ Below w.heap.size w w' := by
  have hb := bounds_i64 w0
  obtain ⟨s, hs⟩ : ∃ s : ByteArray, s = ⟨(itoa a0).toArray⟩ := ⟨_, rfl⟩
  have C1 := specDec_any a0 w (by omega) (by omega)
  have c2 := fun w hp => implDec_any a0 w (by omega) (by omega) hp
  rw [← hs] at C1
  simp only [← hs] at c2
  have C2 : Hid (∀ w, Pow w → _) := c2
  have HP : Hid (Pow w) := hp
  clear hs c2 hp hb
  go_enter Tryd.func3, Tryd.ntmps3
  go_wp2_with fail
  refine C1.mono ?_
  rintro e w1 ⟨rfl, hb1⟩
  clear C1
  go_wp2_with fail
  refine (C2.out w1 (HP.out.on hb1)).mono ?_
  rintro e w2 ⟨rfl, hb2⟩
  clear C2 HP
  go_wp2
  go_ret
  exact ⟨rfl, hb1.trans (hb2.mono hb1.size)⟩

namespace Dec
theorem own : ownKnob Tryd.prog.godebug = none := by kernel_rfl
theorem gTab : Tryd.prog.globalNamed "internal/strconv.uint64pow10" = some 2 := by kernel_rfl
theorem gTabType : (Tryd.prog.globals[2]?).map (·.type) = some 55 := by kernel_rfl
theorem cells55 : Tryd.prog.cellsOf 55 = 20 := by kernel_rfl
theorem cells49 : Tryd.prog.cellsOf 49 = 1 := by kernel_rfl
theorem pow_of {W : World} {rest : List (String × DataW Unit)} (h : laidMet Tryd.prog (("internal/strconv.uint64pow10", Rows.laid_internal_strconv_uint64pow10) :: rest) W) : Pow W :=
  Lib.tabIs_of_head (zs := Lib.pow10Tab) gTab gTabType Tryd.underlying55 Tryd.underlying49 cells49 cells55 h

theorem contract (H : Type) (enc : TypeId × Value → H) (W : World) (base : Nat) (args : Array Value) (ds gs : List (DataW H)) (before : List MemPlace)
    (hval : ∀ (j : Nat) t v, Tryd.f3.params[j]? = some t → args[j]? = some v → Value.okWide Tryd.prog W .any base t v)
    (hW : DataW.Whole enc Tryd.prog Tryd.f3.params.toList Rows.fnExactDecSpec.vars false W args.toList ds gs before) (hL : laidMetH Tryd.prog Rows.fnExactDecRow.laid W) :
    Calls Tryd.prog 3 args W fun e W' => ∃ v, e = .returned v ∧ Rows.fnExactDecSpec.post enc Tryd.prog Tryd.f3 false true false false W args v W' := by
  have hW' := hW
  obtain ⟨p, q, hA0, hV, rfl, hfz, hnd⟩ := hW
  have hA : DataW.TrodAll enc Tryd.prog W 0 (fun _ => true) true Tryd.f3.params.toList args.toList ds p := hA0
  rw [Tryd.params3] at hA hval
  obtain ⟨v0, vs0, d0, ds0, p0, q0, hargs, rfl, rfl, h0, r0⟩ := trodAll_cons hA
  obtain ⟨rfl, rfl, rfl⟩ := trodAll_nil r0
  obtain rfl : args = #[v0] := by cases args; simp_all
  obtain ⟨rfl, rfl⟩ := trodVars_none hV
  obtain ⟨a0, rfl, rfl, rfl, w0⟩ := open_int Tryd.underlying3 (hval 0 3 v0 rfl rfl) h0
  clear hA0
  simp only [List.append_nil] at hW'
  have hL' : laidMet Tryd.prog Rows.fnExactDecRow.laid W := hL
  refine (walkDec a0 w0 W (pow_of (laidMet.tail (laidMet.tail hL')))).mono fun e W' ⟨he, bel⟩ => ?_
  subst he
  exact ⟨_, rfl, _, _, _, [], _, [], hW', (trodAll_cons_mk (shut_bool Tryd.underlying4 _) trodAll_mk0), (trodAll_cons_mk (shut_int Tryd.underlying3 w0) trodAll_mk0), rfl, bel.frame _, fun h => by cases h⟩

def setTab (cs : Array Value) : Obj → Obj
  | .cells _ t frozen => .cells cs t frozen
  | o => o
def tabPow : Array Value := #[.int .u64 1, .int .u64 10, .int .u64 100, .int .u64 1000, .int .u64 10000, .int .u64 100000, .int .u64 1000000, .int .u64 10000000, .int .u64 100000000, .int .u64 1000000000, .int .u64 10000000000, .int .u64 100000000000, .int .u64 1000000000000, .int .u64 10000000000000, .int .u64 100000000000000, .int .u64 1000000000000000, .int .u64 10000000000000000, .int .u64 100000000000000000, .int .u64 1000000000000000000, .int .u64 10000000000000000000]
def tab32 : Array Value := #[.int .u8 0, .int .u8 1, .int .u8 28, .int .u8 2, .int .u8 29, .int .u8 14, .int .u8 24, .int .u8 3, .int .u8 30, .int .u8 22, .int .u8 20, .int .u8 15, .int .u8 25, .int .u8 17, .int .u8 4, .int .u8 8, .int .u8 31, .int .u8 27, .int .u8 13, .int .u8 23, .int .u8 21, .int .u8 19, .int .u8 16, .int .u8 7, .int .u8 26, .int .u8 12, .int .u8 18, .int .u8 6, .int .u8 11, .int .u8 5, .int .u8 10, .int .u8 9]
def tab64 : Array Value := #[.int .u8 0, .int .u8 1, .int .u8 56, .int .u8 2, .int .u8 57, .int .u8 49, .int .u8 28, .int .u8 3, .int .u8 61, .int .u8 58, .int .u8 42, .int .u8 50, .int .u8 38, .int .u8 29, .int .u8 17, .int .u8 4, .int .u8 62, .int .u8 47, .int .u8 59, .int .u8 36, .int .u8 45, .int .u8 43, .int .u8 51, .int .u8 22, .int .u8 53, .int .u8 39, .int .u8 33, .int .u8 30, .int .u8 24, .int .u8 18, .int .u8 12, .int .u8 5, .int .u8 63, .int .u8 55, .int .u8 48, .int .u8 27, .int .u8 60, .int .u8 41, .int .u8 37, .int .u8 16, .int .u8 46, .int .u8 35, .int .u8 44, .int .u8 21, .int .u8 52, .int .u8 32, .int .u8 23, .int .u8 11, .int .u8 54, .int .u8 26, .int .u8 40, .int .u8 15, .int .u8 34, .int .u8 20, .int .u8 31, .int .u8 10, .int .u8 25, .int .u8 14, .int .u8 19, .int .u8 9, .int .u8 13, .int .u8 8, .int .u8 7, .int .u8 6]
/-- What the witness's world is made of: a world, each listed table holding what its initialiser lays. -/
def laidIn (h : World) : World := { h with heap := ((h.heap.modify 2 (setTab tabPow)).modify 3 (setTab tab32)).modify 4 (setTab tab64) }
theorem laid_met (os : Os) : laidMet Tryd.prog Rows.fnExactDecRow.laid ((laidIn (World.holding Tryd.prog os ⟨#[], #[], []⟩)).forCall (fun _ _ => 0) ⟨#[], #[.int .i64 0], []⟩).memory :=
  laidMet_of_run' 8 (by kernel_rfl) (by kernel_rfl)
theorem reads (os : Os) {H : Type} (enc : TypeId × Value → H) : ∃ places, DataW.whole enc Tryd.prog ((laidIn (World.holding Tryd.prog os ⟨#[], #[], []⟩)).forCall (fun _ _ => 0) ⟨#[], #[.int .i64 0], []⟩).memory Tryd.f3.params.toList Rows.fnExactDecSpec.vars false #[Value.int .i64 0].toList 8 = some ([.lit (.int .i64 0)], [], places) :=
  ⟨[], by kernel_rfl⟩

set_option maxRecDepth 100000 in
theorem lifted (os : Os) (started : os.Started) (H : Type) (enc : TypeId × Value → H) (F : Stop.Interp) :
    ReturnsInHanded {} Tryd.checked os 3 .any ((OpenSpec.ofChange Rows.fnExactDecSpec).preRow enc Tryd.prog Tryd.f3 Rows.fnExactDecRow.domain false Rows.fnExactDecRow.laid) (((OpenSpec.ofChange Rows.fnExactDecSpec).at F).post enc Tryd.prog Tryd.f3 false true false false) := by
  obtain ⟨places, hx⟩ := reads os enc
  refine returnsInHanded_of_row (C := Tryd.checked) (s := OpenSpec.ofChange Rows.fnExactDecSpec) own started (by kernel_rfl) Tryd.func3
    (witness_row_at (enc := enc) (C := Tryd.checked) false (laidIn (World.holding Tryd.prog os ⟨#[], #[], []⟩)) #[.int .i64 0] rfl (by kernel_rfl) (by kernel_rfl) (by kernel_rfl)
      (OpenSpec.preRow_of_cond 8 hx (by kernel_rfl) (fun k hk => by cases hk) (by kernel_rfl) (laid_met os))) ?_
  intro W base args ds gs before hval hW _ _ _ hL _ _
  exact contract H enc W base args ds gs before hval hW hL

theorem said : Rows.FnExactDecSaid :=
  OpenClaim.holds_of_cond 3 Tryd.f3 rfl rfl rfl rfl rfl rfl rfl ⟨rfl, rfl, rfl, rfl, rfl⟩ rfl rfl rfl rfl rfl (by kernel_rfl) Tryd.func3 (by kernel_rfl)
    (of_decide_eq_true (by kernel_rfl)) (by unfold Func.isWrapper; first | (rw [if_pos (by decide +kernel)]; kernel_rfl) | (rw [if_neg (by decide +kernel)]; exact ⟨rfl, rfl⟩))
    (fun os started H enc _ F => by rw [OpenClaim.pre_eq_preRow]; exact lifted os started H enc F)

/-- No parameter wants a stand-in; the program's own looks are off. -/
theorem plain (f : FuncId) (fn : Func) (hf : Tryd.pinned.checked.prog.funcNamed "loop.example/g01287/laws.FnExactDec" = some f) (hfn : Tryd.pinned.checked.prog.funcs[f]? = some fn) :
    true = Tryd.pinned.checked.prog.looks [] ∧ ∀ (j : Nat) t, fn.params[j]? = some t → Tryd.pinned.checked.prog.wantsStandIn t = false := by
  obtain rfl : f = 3 := Option.some.inj ((show Tryd.prog.funcNamed "loop.example/g01287/laws.FnExactDec" = some 3 by kernel_rfl).symm.trans hf) |>.symm
  obtain rfl : fn = Tryd.f3 := (Option.some.inj (Tryd.func3.symm.trans hfn)).symm
  refine ⟨by kernel_rfl, fun j t ht => ?_⟩
  rw [Tryd.params3] at ht
  obtain rfl : t = 3 := by simpa using Array.mem_of_getElem? ht
  exact (show Tryd.prog.wantsStandIn 3 = false by kernel_rfl)
end Dec
theorem dec_card : Rows.FnExactDecCardSaid :=
  Claim7.holds_tied_plain_at .later [] _ _ _ _ Dec.said (fun _ h => by cases h) (by kernel_rfl) (fun _ h => by cases h) fnExactDec_row_tie rfl ⟨rfl, rfl⟩ (by kernel_rfl) rfl Dec.plain (by kernel_rfl)
#print axioms dec_card
end Go.Proofs.YtkjabochhhalhaiDoor
