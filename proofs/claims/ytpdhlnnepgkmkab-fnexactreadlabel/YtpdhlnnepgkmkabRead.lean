/-
  ReadLabel: the program's and the model's.
-/
import Derived.Test.YtpdhlnnepgkmkabFlat
import Derived.Deep.RegionLaw
namespace Go.Proofs.Ytpdhlnnepgkmkab
open Go.RowKit
set_option linter.unusedVariables false

/-- A sign's value. -/
def val (b : UInt8) : Int := (b.toNat : Int) - 48
/-- The values of the first signs, as far as 'k'. -/
def valsTo (s : ByteArray) (k : Nat) : List Int := (s.data.toList.take k).map val
theorem valsTo_length (s : ByteArray) (k : Nat) (h : k ≤ s.size) : (valsTo s k).length = k := by
  unfold valsTo; simp; omega
theorem valsTo_succ (s : ByteArray) (k : Nat) (h : k < s.size) : valsTo s (k + 1) = valsTo s k ++ [val (s.data.toList.getD k 0)] := by
  unfold valsTo
  have hl : k < s.data.toList.length := by simpa using h
  rw [List.take_add_one, List.getElem?_eq_getElem hl]
  simp [List.getD, Array.getElem?_eq_getElem (show k < s.data.size from h)]
theorem right_same (xs : List Int) : labelOk (rightOf xs) = labelOk xs := by
  by_cases h : labelOk xs = true
  · rw [rightOf_yes h]
  · have h' : labelOk xs = false := by simpa using h
    rw [rightOf_no h', h']
    exact labelOk_len (by simp)
theorem sign_lt (b : UInt8) : (0 : Int) ≤ (b.toNat : Int) ∧ (b.toNat : Int) < 256 := ⟨by omega, by have := b.toNat_lt; omega⟩

def fourTo (a b c d : Int) : Nat → Array Value
  | 0 => #[.int .i64 0, .int .i64 0, .int .i64 0, .int .i64 0]
  | 1 => #[.int .i64 a, .int .i64 0, .int .i64 0, .int .i64 0]
  | 2 => #[.int .i64 a, .int .i64 b, .int .i64 0, .int .i64 0]
  | 3 => #[.int .i64 a, .int .i64 b, .int .i64 c, .int .i64 0]
  | _ => #[.int .i64 a, .int .i64 b, .int .i64 c, .int .i64 d]
def fourW (w : World) (a b c d : Int) (k : Nat) : World := (w.alloc (.cells #[.slice none 0 0] 24 (0, 0))).alloc (.cells (fourTo a b c d k) 38 (0, 0))
theorem fourW_zero (w : World) (a b c d : Int) (k : Nat) : (fourW w a b c d k).heap[w.heap.size]? = some (.cells #[.slice none 0 0] 24 (0, 0)) := by
  unfold fourW
  rw [heap_alloc_old _ _ (by simp)]
  exact heap_alloc_new w _
theorem fourW_below (w : World) (a b c d : Int) (k : Nat) : Below w.heap.size w (fourW w a b c d k) := ((Below.refl _ _).alloc (Nat.le_refl _) _).alloc (by simp) _

set_option maxHeartbeats 1000000 in
theorem implRead_four (b0 b1 b2 b3 : UInt8) (w : World) :
    Calls Try.prog 16 #[.string ⟨#[b0, b1, b2, b3]⟩] w fun e w' => ∃ r, e = .returned (.tuple #[.agg #[r], .bool (labelOk [val b0, val b1, val b2, val b3])]) ∧ w'.ownsRow w.heap.size 3 1 r (rightOf [val b0, val b1, val b2, val b3]).length (icells (rightOf [val b0, val b1, val b2, val b3])) ∧ Below w.heap.size w w' := by
  have x0 : ∀ w, (Instr.index 9 (.string ⟨#[b0, b1, b2, b3]⟩) (.int .i64 0)).run Try.prog w = .ok (.int .u8 (b0.toNat : Int)) w := fun w => by kernel_rfl
  have x1 : ∀ w, (Instr.index 9 (.string ⟨#[b0, b1, b2, b3]⟩) (.int .i64 1)).run Try.prog w = .ok (.int .u8 (b1.toNat : Int)) w := fun w => by kernel_rfl
  have x2 : ∀ w, (Instr.index 9 (.string ⟨#[b0, b1, b2, b3]⟩) (.int .i64 2)).run Try.prog w = .ok (.int .u8 (b2.toNat : Int)) w := fun w => by kernel_rfl
  have x3 : ∀ w, (Instr.index 9 (.string ⟨#[b0, b1, b2, b3]⟩) (.int .i64 3)).run Try.prog w = .ok (.int .u8 (b3.toNat : Int)) w := fun w => by kernel_rfl
  obtain ⟨s, hs⟩ : ∃ s : ByteArray, s = ⟨#[b0, b1, b2, b3]⟩ := ⟨_, rfl⟩
  have hsz : (s.size : Int) = 4 := by rw [hs]; rfl
  rw [← hs] at x0 x1 x2 x3 ⊢
  clear hs
  have l0 := sign_lt b0
  have l1 := sign_lt b1
  have l2 := sign_lt b2
  have l3 := sign_lt b3
  have w0 : wrap64 ((b0.toNat : Int) - 48) = (b0.toNat : Int) - 48 := by unfold wrap64; omega
  have w1 : wrap64 ((b1.toNat : Int) - 48) = (b1.toNat : Int) - 48 := by unfold wrap64; omega
  have w2 : wrap64 ((b2.toNat : Int) - 48) = (b2.toNat : Int) - 48 := by unfold wrap64; omega
  have w3 : wrap64 ((b3.toNat : Int) - 48) = (b3.toNat : Int) - 48 := by unfold wrap64; omega
  have v0 : wrap64 (b0.toNat : Int) = (b0.toNat : Int) := by unfold wrap64; omega
  have v1 : wrap64 (b1.toNat : Int) = (b1.toNat : Int) := by unfold wrap64; omega
  have v2 : wrap64 (b2.toNat : Int) = (b2.toNat : Int) := by unfold wrap64; omega
  have v3 : wrap64 (b3.toNat : Int) = (b3.toNat : Int) := by unfold wrap64; omega
  simp only [val]
  generalize (b0.toNat : Int) = y0 at *
  generalize (b1.toNat : Int) = y1 at *
  generalize (b2.toNat : Int) = y2 at *
  generalize (b3.toNat : Int) = y3 at *
  have C := rightOrZero_any (y0 - 48) (y1 - 48) (y2 - 48) (y3 - 48) (fourW w (y0 - 48) (y1 - 48) (y2 - 48) (y3 - 48) 4)
  have cl := fun v w' (hi : IsInts w' v (rightOf [y0 - 48, y1 - 48, y2 - 48, y3 - 48])) => implLabelOk_any v _ w' hi
  rw [right_same] at cl
  generalize labelOk [y0 - 48, y1 - 48, y2 - 48, y3 - 48] = o at cl ⊢
  generalize rightOf [y0 - 48, y1 - 48, y2 - 48, y3 - 48] = js at C cl ⊢
  have CL : Hid (∀ v w', IsInts w' v js → _) := cl
  have HZ : Hid ((fourW w (y0 - 48) (y1 - 48) (y2 - 48) (y3 - 48) 4).heap[w.heap.size]? = some (.cells #[.slice none 0 0] 24 (0, 0))) := fourW_zero w (y0 - 48) (y1 - 48) (y2 - 48) (y3 - 48) 4
  have HB : Hid (Below w.heap.size w (fourW w (y0 - 48) (y1 - 48) (y2 - 48) (y3 - 48) 4)) := fourW_below w (y0 - 48) (y1 - 48) (y2 - 48) (y3 - 48) 4
  clear cl
  go_enter Try.func16, Try.ntmps16
  go_wp2
  go_loopw [5, 11] (fun _ i wr => ∃ (k : Nat), k ≤ 4 ∧ i = .int .i64 k ∧ wr = fourW w (y0 - 48) (y1 - 48) (y2 - 48) (y3 - 48) k) (fun _ i _ => 4 - (intOf i).toNat)
  case atStart => exact ⟨0, Nat.zero_le _, rfl, rfl⟩
  case round =>
    obtain ⟨k, hk, rfl, rfl⟩ := hrel
    have hcase : k = 0 ∨ k = 1 ∨ k = 2 ∨ k = 3 ∨ k = 4 := by omega
    rcases hcase with rfl | rfl | rfl | rfl | rfl
    · unfold fourW fourTo
      go_wp2
      exact ⟨⟨1, by omega, rfl, rfl⟩, by simp [intOf]⟩
    · unfold fourW fourTo
      go_wp2
      exact ⟨⟨2, by omega, rfl, rfl⟩, by simp [intOf]⟩
    · unfold fourW fourTo
      go_wp2
      exact ⟨⟨3, by omega, rfl, rfl⟩, by simp [intOf]⟩
    · unfold fourW fourTo
      go_wp2
      exact ⟨⟨4, by omega, rfl, rfl⟩, by simp [intOf]⟩
    · unfold fourW fourTo at C HZ HB ⊢
      clear x0 x1 x2 x3
      go_wp2_with fail
      refine C.mono ?_
      rintro e w4 ⟨r, rfl, hown, hb4⟩
      clear C
      have HZ4 : Hid ((w4.alloc (.cells #[r] 24 (0, 0))).heap[w.heap.size]? = some (.cells #[.slice none 0 0] 24 (0, 0))) := keep2 (keep2 HZ.out hb4) (below_alloc w4 _)
      have HB4 : Hid (Below w.heap.size w (w4.alloc (.cells #[r] 24 (0, 0)))) := (HB.out.trans (hb4.mono HB.out.size)).trans ((below_alloc w4 _).mono (HB.out.trans (hb4.mono HB.out.size)).size)
      have HO4 : Hid (OwnR w4.heap.size r js (w.heap.size + 1) w4.heap.size (w4.alloc (.cells #[r] 24 (0, 0)))) := ownR_new hown (lt_of_block HZ.out)
      have z4 : w4.cell? ⟨w.heap.size, 0, none⟩ = some (.slice none 0 0) := cell_of_one (keep2 HZ.out hb4)
      have f4 : w4.frozen? ⟨w.heap.size, 0, none⟩ = false := free_of_one (keep2 HZ.out hb4)
      have t4 : w.heap.size < w4.heap.size := World.block_lt_of_cell? w4 _ z4
      obtain ⟨a1, n1, c1, rfl⟩ := own_shape hown
      clear hown hb4 HZ HB
      go_wp2_with fail
      go_region_with (go_at_call 28; refine (CL.out _ _ ?_).mono ?_; (first | exact HO4.out.drew.ints | exact HO4.out.ints); rintro e w5 ⟨rfl, hb5⟩; have HO5 : Hid (OwnR w4.heap.size (.slice a1 n1 c1) js (w.heap.size + 1) w4.heap.size w5) := HO4.out.drew.on hb5; have HZ5 : Hid (w5.heap[w.heap.size]? = some (.cells #[.slice none 0 0] 24 (0, 0))) := keep2 (show (w4.alloc (.cells #[.slice a1 n1 c1] 24 (0, 0))).drew.heap[w.heap.size]? = _ from HZ4.out) hb5; have HB5 : Hid (Below w.heap.size w w5) := HB4.out.drew.trans (hb5.mono HB4.out.drew.size); have z5 := cell_of_one HZ5.out; have f5 := free_of_one HZ5.out; have y5 := HO5.out.cell; clear hb5)
      all_goals go_wp2
      all_goals have q0 : (w5.setCell ⟨w.heap.size, 0, none⟩ (.slice a1 n1 c1)).cell? ⟨w.heap.size, 0, none⟩ = some (.slice a1 n1 c1) := World.cell?_setCell_same _ _ _ z5
      all_goals refine bodyPost_ret (v := .tuple #[.agg #[.slice a1 n1 c1], .bool o]) (by simp [results, go_sem, q0]) rfl ⟨_, rfl, ?_, ?_⟩
      all_goals first
        | exact own_from (ownsRow_setCell_below HO5.out.own (by first | (simp; done) | (simp; omega)) _) (by omega)
        | exact HB5.out.setCell (by first | (simp; done) | (simp; omega)) _

set_option maxHeartbeats 1000000 in
theorem implRead_len (s : ByteArray) (w : World) (h : s.size ≠ 4) :
    Calls Try.prog 16 #[.string s] w fun e w' => e = .returned (.tuple #[.agg #[.slice none 0 0], .bool false]) ∧ Below w.heap.size w w' := by
  have hne : ((s.size : Int) != 4) = true := by simp; omega
  have HB : Hid (Below w.heap.size w (w.alloc (.cells #[.slice none 0 0] 24 (0, 0)))) := below_alloc w _
  go_enter Try.func16, Try.ntmps16
  go_wp2
  refine bodyPost_ret (v := .tuple #[.agg #[.slice none 0 0], .bool false]) ?_ rfl ⟨rfl, HB.out⟩
  have hres : Try.f16.results = #[.cell 2 24, .tmp 3] := by kernel_rfl
  simp only [results, hres]
  go_simp

/-- What is read of a text: at most five signs. -/
def readVals (s : ByteArray) : List Int := valsTo s (min s.size 5)
theorem readVals_len (s : ByteArray) : (readVals s).length = min s.size 5 := valsTo_length s _ (Nat.min_le_left _ _)
theorem implRead_any (s : ByteArray) (w : World) :
    Calls Try.prog 16 #[.string s] w fun e w' => ∃ r, e = .returned (.tuple #[.agg #[r], .bool (labelOk (readVals s))]) ∧ w'.ownsRow w.heap.size 3 1 r (rightOf (readVals s)).length (icells (rightOf (readVals s))) ∧ Below w.heap.size w w' := by
  by_cases h : s.size = 4
  · obtain ⟨⟨l⟩⟩ := s
    match l, h with
    | [b0, b1, b2, b3], _ => exact implRead_four b0 b1 b2 b3 w
  · have hl : labelOk (readVals s) = false := labelOk_len (by rw [readVals_len]; omega)
    rw [hl, rightOf_no hl]
    refine (implRead_len s w h).mono ?_
    rintro e w' ⟨rfl, hb⟩
    exact ⟨_, rfl, World.ownsRow_nil _ _ _ _, hb⟩

theorem step_appR {ops : Array Oper} {o : Oper} {a : Act} {K : Act → World → Prop} {Q : Exit → Act → World → Prop} {E : Prop} (hgd : o.guard = none) (s x : Operand)
    (ho : o.op = .call { callee := .builtin .append, args := #[s, x], argTypes := #[22, 22] }) (w0 W : World) (base g : Nat) (v : Value) (acc new : List Int) (vs : Array Value) (k : Nat)
    (hs : a.eval s = v) (hx : a.eval x = .slice (some ⟨g, 0, none⟩) k k) (hown : W.ownsRow base 3 1 v acc.length (icells acc)) (hg : W.heap[g]? = some (.cells vs 3 (0, 0))) (hvs : vs = (icells new).toArray) (hk : new.length = k)
    (hb : acc.length + k ≤ 17592186044416) (hbase : base ≤ W.heap.size) (hnx : Below base w0 W)
    (h : ∀ v' w', Hid (w'.ownsRow base 3 1 v' (acc ++ new).length (icells (acc ++ new))) → Below base w0 w' → K (a.put o.dst v') w') :
    if Region.wanted o (yielded ops a.tmps) = true then Oper.wp Try.prog o a W K Q else E :=
  step_appI hgd s x ho w0 W base g v acc new vs k hs hx hown hg hvs hk hb hbase hnx h

theorem own_nextR {w w3 : World} {s : ByteArray} {k : Nat} {m : Int} {v : Value} (hlt : k < s.size) (hj : valsTo s (k + 1) = valsTo s k ++ [m])
    (h : w3.ownsRow (w.heap.size + 1 + 1) 3 1 v (valsTo s k ++ [m]).length (icells (valsTo s k ++ [m]))) :
    (w3.setCell ⟨w.heap.size + 1, 0, none⟩ v).ownsRow (w.heap.size + 1 + 1) 3 1 v (k + 1) (icells (valsTo s (k + 1))) := by
  rw [← hj, valsTo_length s (k + 1) hlt] at h
  exact ownsRow_setCell_below h (by simp) v
theorem index_sign (s : ByteArray) (k : Nat) (h : k < s.size) (w : World) : (Instr.index 9 (.string s) (.int .i64 (k : Int))).run Try.prog w = .ok (.int .u8 ((s.data.toList.getD k 0).toNat : Int)) w := by
  rw [run_index_string _ 9 s .i64 k Try.underlying9, dif_pos ⟨by omega, by omega⟩]
  have e : (s[(k : Int).toNat]'(by simpa using h)) = s.data.toList.getD k 0 := by
    have : (k : Int).toNat = k := by simp
    simp only [this]
    simp [List.getD, Array.getElem?_eq_getElem (show k < s.data.size from h)]
    rfl
  rw [e]

set_option maxRecDepth 100000 in
set_option maxHeartbeats 4000000 in
theorem specRead_any (s : ByteArray) (w : World) (hs : s.size ≤ 1048576) :
    Calls Try.prog 15 #[.string s] w fun e w' => ∃ r, e = .returned (.tuple #[.agg #[r], .bool (labelOk (readVals s))]) ∧ w'.ownsRow w.heap.size 3 1 r (rightOf (readVals s)).length (icells (rightOf (readVals s))) ∧ Below w.heap.size w w' := by
  have HG0 : Hid (Grow w (.slice none 0 0) (growW w)) := growW_grow w
  have cl := fun v w' (hi : IsInts w' v (readVals s)) => specLabelOk_any v (readVals s) w' hi (by rw [readVals_len]; omega)
  have CL : Hid (∀ v w', IsInts w' v (readVals s) → _) := cl
  clear cl
  go_enter Try.func15, Try.ntmps15
  go_wp2
  go_loopw [5] (fun i wr => ∃ (k : Nat) (out : Value), k ≤ min s.size 5 ∧ i = .int .i64 k ∧ Hid (Grow w out wr) ∧ Hid (wr.ownsRow (w.heap.size + 1 + 1) 3 1 out k (icells (valsTo s k)))) (fun i _ => 5 - (intOf i).toNat)
  case atStart => exact ⟨0, _, Nat.zero_le _, rfl, HG0, World.ownsRow_nil _ _ _ _⟩
  case round =>
    obtain ⟨k, out, hk, rfl, hg, hown⟩ := hrel
    clear HG0
    by_cases hlt : k < min s.size 5
    · have hl1 : k < s.size := by omega
      have i0 : (0 : Int) ≤ (k : Int) := by omega
      have i1 : (k : Int) < (s.size : Int) := by omega
      have i2 : (k : Int) ≤ 4 := by omega
      have hix := index_sign s k hl1
      have HJ := valsTo_succ s k hl1
      have hlt256 := sign_lt (s.data.toList.getD k 0)
      have hjl : (valsTo s k).length + 1 ≤ 17592186044416 := by rw [valsTo_length s k (by omega)]; omega
      have hown1 : Hid (wr.ownsRow (w.heap.size + 1 + 1) 3 1 out (valsTo s k).length (icells (valsTo s k))) := by rw [valsTo_length s k (by omega)]; exact hown
      simp only [val] at HJ
      obtain ⟨y, hy⟩ : ∃ y, y = ((s.data.toList.getD k 0).toNat : Int) := ⟨_, rfl⟩
      rw [← hy] at hix HJ hlt256
      have hw1 : wrap64 y = y := by unfold wrap64; omega
      have hw2 : wrap64 (y - 48) = y - 48 := by unfold wrap64; omega
      have hr1 : IntKind.i64.wrap y = y := by unfold IntKind.wrap; simp [IntKind.bits, IntKind.signed]; omega
      have hr2 : IntKind.i64.wrap (y - 48) = y - 48 := by unfold IntKind.wrap; simp [IntKind.bits, IntKind.signed]; omega
      have HJ' : Hid (valsTo s (k + 1) = valsTo s k ++ [y - 48]) := HJ
      have o1 := cell_of_one hg.out.b1
      have hsz := hg.out.size
      have o1' : ∀ o : Obj, (wr.alloc o).cell? ⟨w.heap.size + 1, 0, none⟩ = some out := fun o => (World.cell?_alloc_lt _ _ _ (by simp; omega)).trans o1
      clear hown HJ hy
      go_wp2
      go_region_law (refine step_appR rfl (.tmp 18) (.tmp 24) rfl wr _ (w.heap.size + 1 + 1) wr.heap.size out (valsTo s k) [y - 48] _ 1 rfl rfl (hown1.out.alloc _) (heap_alloc_new wr _) (by first | rfl | (simp only [hr1, hr2]; rfl)) rfl hjl (by simp; omega) (((Below.refl _ _).alloc hsz _).drew) ?_; intro v' w3 hown' hnx'; obtain ⟨a1, n1, c1, rfl⟩ := own_shape hown'.out; have g1 := cell_of_one (hg.out.on hnx').b1; have g2 := free_of_one (hg.out.on hnx').b1)
      all_goals clear o1 o1' g1 g2 hown1 hix
      all_goals go_wp2
      all_goals exact ⟨⟨k + 1, _, by omega, by go_num, (hg.out.on hnx').put _, own_nextR hl1 HJ'.out hown'.out⟩, by simp [intOf]; omega⟩
    · obtain rfl : k = min s.size 5 := by omega
      have hown1 : Hid (wr.ownsRow (w.heap.size + 1 + 1) 3 1 out (readVals s).length (icells (readVals s))) := by rw [readVals_len]; exact hown
      have C := CL.out out wr (isInts_own hown1.out)
      obtain ⟨a1, n1, c1, rfl⟩ := own_shape hown.out
      have o1 := cell_of_one hg.out.b1
      clear hown CL
      obtain ⟨j, hj⟩ : ∃ j, j = min s.size 5 := ⟨_, rfl⟩
      have hcond : ¬ (j < s.size) ∨ (j < s.size ∧ ¬ (j ≤ 4)) := by omega
      rw [← hj]
      clear hj hlt hk
      by_cases ho : labelOk (readVals s) = true
      · rw [ho] at C
        have HO : Hid (labelOk (readVals s) = true) := ho
        clear ho
        rcases hcond with h1 | ⟨h1, h2⟩
        all_goals
          first
            | (have q1 : ¬ ((j : Int) < (s.size : Int)) := by omega)
            | (have q1 : (j : Int) < (s.size : Int) := (by omega); have q2 : ¬ ((j : Int) ≤ 4) := (by omega))
          go_wp2_with fail
          refine C.mono ?_
          rintro e w3 ⟨rfl, hb3⟩
          clear C
          have hg3 := hg.out.on (hb3.mono hg.out.size)
          have z0 := cell_of_one hg3.b0
          have z1 := cell_of_one hg3.b1
          have z2 := free_of_one hg3.b0
          have HG3 : Hid (Grow w (.slice a1 n1 c1) w3) := hg3
          have HW3 : Hid (w3.ownsRow (w.heap.size + 1 + 1) 3 1 (.slice a1 n1 c1) (readVals s).length (icells (readVals s))) := own_kept hown1.out fun k o n c _ _ ho => keep2 ho hb3
          clear hg3 hb3 hg hown1
          go_wp2
          have q0 : (w3.setCell ⟨w.heap.size, 0, none⟩ (.slice a1 n1 c1)).cell? ⟨w.heap.size, 0, none⟩ = some (.slice a1 n1 c1) := World.cell?_setCell_same _ _ _ z0
          refine bodyPost_ret (v := .tuple #[.agg #[.slice a1 n1 c1], .bool true]) (by simp [results, go_sem, q0]) rfl ⟨_, by rw [HO.out], ?_, ?_⟩
          · rw [rightOf_yes HO.out]
            exact own_from (ownsRow_setCell_below HW3.out (by first | (simp; done) | (simp; omega)) _) (by omega)
          · exact HG3.out.below.setCell (by first | (simp; done) | (simp; omega)) _
      · have ho' : labelOk (readVals s) = false := by simpa using ho
        rw [ho'] at C
        have HO : Hid (labelOk (readVals s) = false) := ho'
        clear ho ho'
        rcases hcond with h1 | ⟨h1, h2⟩
        all_goals
          first
            | (have q1 : ¬ ((j : Int) < (s.size : Int)) := by omega)
            | (have q1 : (j : Int) < (s.size : Int) := (by omega); have q2 : ¬ ((j : Int) ≤ 4) := (by omega))
          go_wp2_with fail
          refine C.mono ?_
          rintro e w3 ⟨rfl, hb3⟩
          clear C
          have hg3 := hg.out.on (hb3.mono hg.out.size)
          have z0 := cell_of_one hg3.b0
          have z2 := free_of_one hg3.b0
          have HG3 : Hid (Grow w (.slice a1 n1 c1) w3) := hg3
          clear hg3 hb3 hg hown1
          go_wp2
          have q0 : (w3.setCell ⟨w.heap.size, 0, none⟩ (.slice none 0 0)).cell? ⟨w.heap.size, 0, none⟩ = some (.slice none 0 0) := World.cell?_setCell_same _ _ _ z0
          refine bodyPost_ret (v := .tuple #[.agg #[.slice none 0 0], .bool false]) (by simp [results, go_sem, q0]) rfl ⟨_, by rw [HO.out], by rw [rightOf_no HO.out]; exact World.ownsRow_nil _ _ _ _, ?_⟩
          exact HG3.out.below.setCell (by first | (simp; done) | (simp; omega)) _
end Go.Proofs.Ytpdhlnnepgkmkab
