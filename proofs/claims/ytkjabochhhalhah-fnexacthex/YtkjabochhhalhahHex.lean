/-
  Hex answers as its model at every text of at most 1048576 bytes, which is all that the law asks. No condition.
-/
import Derived.Test.YtkjabochhhalhahVar
import Derived.Deep.RegionLaw
namespace Go.Proofs.Ytkjabochhhalhah
open Go.ChangeShapes Go.WideShapes Go.ChangeAt Go.RowKit
open Go.ChangeMaps (open_string shut_string)
set_option linter.unusedVariables false

/-- The digit of a number below 16, as a byte. -/
def hexd (k : Nat) : UInt8 := if k < 10 then UInt8.ofNat (48 + k) else UInt8.ofNat (87 + k)
def hexs : List UInt8 → List UInt8
  | [] => []
  | b :: l => hexd (b.toNat / 16) :: hexd (b.toNat % 16) :: hexs l

theorem hexlit (x : Nat) (hx : x < 16) (i : Nat) (hi : i = x) (h : i < (ByteArray.mk #[48, 49, 50, 51, 52, 53, 54, 55, 56, 57, 97, 98, 99, 100, 101, 102]).size) :
    (ByteArray.mk #[48, 49, 50, 51, 52, 53, 54, 55, 56, 57, 97, 98, 99, 100, 101, 102])[i] = hexd x := by
  subst hi
  obtain rfl | rfl | rfl | rfl | rfl | rfl | rfl | rfl | rfl | rfl | rfl | rfl | rfl | rfl | rfl | rfl : i = 0 ∨ i = 1 ∨ i = 2 ∨ i = 3 ∨ i = 4 ∨ i = 5 ∨ i = 6 ∨ i = 7 ∨ i = 8 ∨ i = 9 ∨ i = 10 ∨ i = 11 ∨ i = 12 ∨ i = 13 ∨ i = 14 ∨ i = 15 := by omega
  all_goals rfl
theorem hexvs (B : Nat) (hB : B < 256) (p1 : ((B : Int) / 16).toNat < (ByteArray.mk #[48, 49, 50, 51, 52, 53, 54, 55, 56, 57, 97, 98, 99, 100, 101, 102]).size) (p2 : ((B : Int) % 16).toNat < (ByteArray.mk #[48, 49, 50, 51, 52, 53, 54, 55, 56, 57, 97, 98, 99, 100, 101, 102]).size) :
    #[Value.int IntKind.u8 ((ByteArray.mk #[48, 49, 50, 51, 52, 53, 54, 55, 56, 57, 97, 98, 99, 100, 101, 102])[((B : Int) / 16).toNat].toNat : Nat), Value.int IntKind.u8 ((ByteArray.mk #[48, 49, 50, 51, 52, 53, 54, 55, 56, 57, 97, 98, 99, 100, 101, 102])[((B : Int) % 16).toNat].toNat : Nat)] = (bcells [hexd (B / 16), hexd (B % 16)]).toArray := by
  rw [hexlit (B / 16) (by omega) _ (by omega) p1, hexlit (B % 16) (by omega) _ (by omega) p2]
  rfl
theorem hexs_append (a b : List UInt8) : hexs (a ++ b) = hexs a ++ hexs b := by
  induction a with
  | nil => rfl
  | cons c a ih => simp [hexs, ih]
theorem hexs_length (a : List UInt8) : (hexs a).length = 2 * a.length := by
  induction a with
  | nil => rfl
  | cons c a ih => simp [hexs, ih]; omega

theorem hexs_step (s : ByteArray) (k : Nat) (hk : k < s.size) (B : Nat) (hB : B = s[k].toNat) (acc : List UInt8) (h : acc = hexs (s.data.toList.take k)) : acc ++ [hexd (B / 16), hexd (B % 16)] = hexs (s.data.toList.take (k + 1)) := by
  rw [take_snoc s k hk, hexs_append, ← h, hB]; rfl

/-- 'put_row' behind a draw. -/
theorem put_row_drew (wr : World) (g n : Nat) (acc new : List UInt8) (f : Nat) (vs : Array Value) (hvs : vs = (bcells new).toArray) (k : Nat) (hk : new.length = k) (hg : wr.heap[g]? = some (.cells (rowOf acc (f + k)).toArray 5 (0, 0)))
    (hn : acc.length + (f + k) = n) (hk0 : 0 < k) (hb : n ≤ 140737488355328) :
    Calls Try.prog 19 #[.slice (some ⟨g, 0, none⟩) n n, .int .i64 acc.length, .slice (some ⟨wr.heap.size, 0, none⟩) k k] (wr.alloc (.cells vs 5)).drew fun e w' =>
      e = .returned (.int .i64 (acc.length + k : Nat)) ∧ w'.heap[g]? = some (.cells (rowOf (acc ++ new) f).toArray 5 (0, 0)) ∧ Below g wr w' := by
  refine (put_row wr.drew g n acc new f vs hvs k hk hg hn hk0 hb).mono ?_
  rintro e w' ⟨h1, h2, h3⟩
  exact ⟨h1, h2, ((Below.refl g wr).drew).trans h3⟩

set_option maxHeartbeats 400000 in
theorem l1Digit_any (k : Nat) (w : World) (hk : k < 16) :
    Calls Try.prog 20 #[.int .i64 k] w fun e w' => e = .returned (.int .u8 ((hexd k).toNat : Nat)) ∧ w = w' := by
  go_enter Try.func20, Try.ntmps20
  go_wp2
  go_ret
  refine ⟨?_, rfl⟩
  show Ending.returned (Value.int _ _) = _
  rw [hexlit k hk _ rfl]

theorem l1Digit_hi (B : Nat) (w : World) (hB : B < 256) :
    Calls Try.prog 20 #[.int .i64 ((B : Int) / 16)] w fun e w' => e = .returned (.int .u8 ((hexd (B / 16)).toNat : Nat)) ∧ w = w' := l1Digit_any (B / 16) w (by omega)
theorem l1Digit_lo (B : Nat) (w : World) (hB : B < 256) :
    Calls Try.prog 20 #[.int .i64 ((B : Int) % 16)] w fun e w' => e = .returned (.int .u8 ((hexd (B % 16)).toNat : Nat)) ∧ w = w' := l1Digit_any (B % 16) w (by omega)

set_option maxRecDepth 100000 in
set_option maxHeartbeats 400000 in
theorem implHex_any (s : ByteArray) (w : World) (hs : s.size ≤ 1048576) :
    Calls Try.prog 17 #[.string s] w fun e w' => e = .returned (.string ⟨(hexs s.data.toList).toArray⟩) ∧ Below w.heap.size w w' := by
  have hmk := make_bytes (2 * s.size) (by omega)
  rw [show ((2 * s.size : Nat) : Int) = 2 * (s.size : Int) by omega] at hmk
  go_enter Try.func17, Try.ntmps17
  go_wp2
  clear hmk
  go_loopw [4, 5, 12] (fun a _ i wr => ∃ (acc : List UInt8) (k : Nat), k ≤ s.size ∧ acc.length ≤ 2097152 ∧ Hid (acc.length = 2 * k) ∧ a = .int .i64 acc.length ∧ i = .int .i64 k ∧ Hid (acc = hexs (s.data.toList.take k)) ∧ wr.heap[w.heap.size]? = some (.cells (rowOf acc (2 * (s.size - k))).toArray 5 (0, 0)) ∧ Below w.heap.size w wr) (fun _ _ i _ => s.size - (intOf i).toNat)
  case atStart => exact ⟨[], 0, by omega, by simp, rfl, rfl, rfl, rfl, heap_alloc_new w _, (Below.refl _ _).alloc (Nat.le_refl _) _⟩
  case round =>
    obtain ⟨acc, k, hk, hal, hal2, rfl, rfl, hacc, hrow, hnx⟩ := hrel
    have hsz := hnx.size
    by_cases hlt : k < s.size
    · obtain ⟨B, hB⟩ : ∃ B : Nat, B = s[k].toNat := ⟨_, rfl⟩
      have hB2 : B < 256 := by rw [hB]; exact s[k].toNat_lt
      have hB0 : ((s[k].toNat : Nat) : Int) = (B : Int) := by rw [hB]
      have HB : Hid (B = s[k].toNat) := hB
      have hB15 : bits BinOp.and IntKind.u8 (B : Int) 15 = ((B % 16 : Nat) : Int) := by rw [u8_and15 _ (by omega) (by omega)]; simp
      clear hB
      go_wp2
      have hrow' : wr.heap[w.heap.size]? = some (.cells (rowOf acc (2 * (s.size - (k + 1)) + 2)).toArray 5 (0, 0)) := by
        rw [show 2 * (s.size - (k + 1)) + 2 = 2 * (s.size - k) by omega]; exact hrow
      have Hn : Hid (acc.length + (2 * (s.size - (k + 1)) + 2) = 2 * s.size) := by have := hal2.out; show _ = _; omega
      clear hrow
      go_region_with (go_at_call 19; refine (put_row_drew wr w.heap.size (2 * s.size) acc [hexd (B / 16), hexd (B % 16)] (2 * (s.size - (k + 1))) _ (hexvs B hB2 _ _) 2 rfl hrow' Hn.out (by omega) (by omega)).mono ?_; rintro e w2 ⟨rfl, hrow2, hb2⟩)
      all_goals go_wp2
      all_goals
        refine ⟨⟨acc ++ [hexd (B / 16), hexd (B % 16)], k + 1, by omega, ?_, ?_, by simp, by go_num, ?_, hrow2, hnx.trans hb2⟩, by simp [intOf]; omega⟩
        · have := hal2.out; simp; omega
        · have := hal2.out; show _ = _; simp; omega
        · exact hexs_step s k hlt B HB.out acc hacc.out
    · obtain rfl : k = s.size := by omega
      have hconv := conv_row wr w.heap.size acc _ (2 * s.size) hrow
      rw [hal2.out] at hconv
      have H : Hid (acc = hexs s.data.toList) := by have := hacc.out; rwa [List.take_of_length_le (by simp)] at this
      clear hrow hacc
      go_wp2
      go_ret
      rw [← H.out]
      exact ⟨rfl, hnx⟩

/-- append to the call's own row of bytes, as one step of a region that draws. -/
theorem step_app {ops : Array Oper} {o : Oper} {a : Act} {K : Act → World → Prop} {Q : Exit → Act → World → Prop} {E : Prop} (hgd : o.guard = none) (s x : Operand)
    (ho : o.op = .call { callee := .builtin .append, args := #[s, x], argTypes := #[34, 34] }) (w0 W : World) (base g : Nat) (v : Value) (acc new : List UInt8) (vs : Array Value) (k : Nat)
    (hs : a.eval s = v) (hx : a.eval x = .slice (some ⟨g, 0, none⟩) k k) (hown : W.ownsRow base 5 1 v acc.length (bcells acc)) (hg : W.heap[g]? = some (.cells vs 5 (0, 0))) (hvs : vs = (bcells new).toArray) (hk : new.length = k)
    (hb : acc.length + k ≤ 140737488355328) (hbase : base ≤ W.heap.size) (hnx : Below base w0 W)
    (h : ∀ v' w', Hid (w'.ownsRow base 5 1 v' (acc ++ new).length (bcells (acc ++ new))) → Below base w0 w' → K (a.put o.dst v') w') :
    if Region.wanted o (yielded ops a.tmps) = true then Oper.wp Try.prog o a W K Q else E := by
  have hw : Region.wanted o (yielded ops a.tmps) = true := by simp [Region.wanted, hgd]
  rw [if_pos hw]
  subst hvs hk
  obtain ⟨i0, hi, hz0, hz1, hz2⟩ := info_parts info5
  refine wp_append_own W s x 34 ho base 5 i0 (.int .u8 0) 1 1 Try.underlying34 hi hz0 hz1 hz2 rfl (by decide) v acc.length (bcells acc) hs hown ⟨g, 0, none⟩ new.length new.length (bcells new) hx (by rw [bcells_length]; omega) ?_ (bcells_one _) (by simp only [maxLen]; omega) (by omega) hbase ?_
  · intro j u hj
    have : (⟨g, 0, none⟩ : Addr).add j = ⟨g, j, none⟩ := by unfold Addr.add; split <;> simp_all
    rw [this]
    simp only [World.cell?, hg]
    simpa using hj
  · intro v' w' h1 h2 _
    refine h v' w' ?_ ?_
    · rw [bcells_append, List.length_append]; exact h1
    · exact hnx.grown h2 hbase (fun k hk => (hown.lt k hk).1)

/-- The call of 'l1Digit' as one step of a region that draws. -/
theorem step_digit {ops : Array Oper} {o : Oper} {a : Act} {w : World} {K : Act → World → Prop} {Q : Exit → Act → World → Prop} {E : Prop} (hgd : o.guard = none) (x : Operand) (ty : TypeId)
    (ho : o.op = .call { callee := .value (.func 20), args := #[x], argTypes := #[ty] }) (n : Int) (hx : a.eval x = .int .i64 n) (k : Nat) (hn : n = (k : Int)) (hk : k < 16)
    (hK : K (a.put o.dst (.int .u8 ((hexd k).toNat : Nat))) w) : if Region.wanted o (yielded ops a.tmps) = true then Oper.wp Try.prog o a w K Q else E := by
  have hw : Region.wanted o (yielded ops a.tmps) = true := by simp [Region.wanted, hgd]
  rw [if_pos hw]
  subst hn
  have h := l1Digit_any k w hk
  unfold Oper.wp
  simp [execOp, ho, resolve, hx, Result.andThen]
  go_simp
  refine h.mono ?_
  rintro e w' ⟨rfl, rfl⟩
  exact hK

set_option maxRecDepth 100000 in
set_option maxHeartbeats 1000000 in
theorem specHex_any (s : ByteArray) (w : World) (hs : s.size ≤ 1048576) :
    Calls Try.prog 16 #[.string s] w fun e w' => e = .returned (.string ⟨(hexs s.data.toList).toArray⟩) ∧ Below w.heap.size w w' := by
  go_enter Try.func16, Try.ntmps16
  go_wp2
  go_loopw [3, 4] (fun v i wr => ∃ (acc : List UInt8) (k : Nat), k ≤ s.size ∧ acc.length ≤ 2097152 ∧ Hid (acc.length = 2 * k) ∧ i = .int .i64 k ∧ Hid (acc = hexs (s.data.toList.take k)) ∧ Hid (wr.ownsRow w.heap.size 5 1 v acc.length (bcells acc)) ∧ Below w.heap.size w wr) (fun _ i _ => s.size - (intOf i).toNat)
  case atStart => exact ⟨[], 0, by omega, by simp, rfl, rfl, rfl, World.ownsRow_made w #[] 0 (Nat.le_refl _) (by simp [maxLen]) rfl, (Below.refl _ _).alloc (Nat.le_refl _) _⟩
  case round =>
    obtain ⟨acc, k, hk, hal, hal2, rfl, hacc, hown, hnx⟩ := hrel
    have hsz := hnx.size
    by_cases hlt : k < s.size
    · obtain ⟨B, hB⟩ : ∃ B : Nat, B = s[k].toNat := ⟨_, rfl⟩
      have hB2 : B < 256 := by rw [hB]; exact s[k].toNat_lt
      have hB0 : wrap64 ((s[k].toNat : Nat) : Int) = (B : Int) := by rw [← hB]; exact wrap64_id _ (by omega) (by omega)
      have HB : Hid (B = s[k].toNat) := hB
      clear hB
      have Hhi : Hid (IntKind.i64.wrap ((IntKind.i64.wrap ((s[k].toNat : Nat) : Int)).tdiv 16) = ((B / 16 : Nat) : Int)) := by
        rw [Hid, ← HB.out, wraps_i64 (B : Int) (by omega) (by omega), show ((B : Int).tdiv 16) = ((B / 16 : Nat) : Int) from rfl, wraps_i64 _ (by omega) (by omega)]
      have Hlo : Hid ((IntKind.i64.wrap ((s[k].toNat : Nat) : Int)).tmod 16 = ((B % 16 : Nat) : Int)) := by
        rw [Hid, ← HB.out, wraps_i64 (B : Int) (by omega) (by omega)]; rfl
      have c1 : B / 16 < 16 := by omega
      have c2 : B % 16 < 16 := by omega
      go_wp2
      go_region_law (first
        | (refine step_digit rfl (.tmp 17) 3 rfl (IntKind.i64.wrap ((IntKind.i64.wrap ((s[k].toNat : Nat) : Int)).tdiv 16)) rfl (B / 16) Hhi.out c1 ?_)
        | (refine step_digit rfl (.tmp 23) 3 rfl ((IntKind.i64.wrap ((s[k].toNat : Nat) : Int)).tmod 16) rfl (B % 16) Hlo.out c2 ?_)
        | (refine step_app rfl (.tmp 12) (.tmp 25) rfl w _ w.heap.size wr.heap.size u3 acc [hexd (B / 16), hexd (B % 16)] _ 2 rfl rfl (hown.out.alloc _) (heap_alloc_new wr _) rfl rfl (by omega) (by simp; omega) ((hnx.alloc hsz _).drew) ?_; intro v' w1 hown' hnx'))
      all_goals clear Hhi Hlo hB0 hown hnx
      all_goals go_wp2
      all_goals
        refine ⟨⟨acc ++ [hexd (B / 16), hexd (B % 16)], k + 1, by omega, ?_, ?_, by go_num, ?_, ?_, hnx'⟩, by simp [intOf]; omega⟩
        · have := hal2.out; simp; omega
        · have := hal2.out; show _ = _; simp; omega
        · exact hexs_step s k hlt B HB.out acc hacc.out
        · have h := hown'.out; simpa [Hid] using h
    · obtain rfl : k = s.size := by omega
      have hconv := conv_own wr _ _ _ _ hown.out
      have H : Hid (acc = hexs s.data.toList) := by have := hacc.out; rwa [List.take_of_length_le (by simp)] at this
      clear hown hacc
      go_wp2
      go_ret
      rw [← H.out]
      exact ⟨rfl, hnx⟩

set_option maxHeartbeats 400000 in
theorem walkHex (a0 : ByteArray) (w0 : a0.size ≤ maxLen) (w : World) :
    Calls Try.prog 7 #[.string a0] w fun e w' => e = .returned (.bool true) ∧ Below w.heap.size w w' := by
  unfold maxLen at w0
  by_cases hbig : 1048576 < a0.size
  · go_enter Try.func7, Try.ntmps7
    go_wp2_with fail
    go_ret
    exact ⟨rfl, Below.refl _ _⟩
  · have hs : a0.size ≤ 1048576 := by omega
    obtain ⟨s, hs'⟩ : ∃ s : ByteArray, s = ⟨(hexs a0.data.toList).toArray⟩ := ⟨_, rfl⟩
    have c1 := fun w => specHex_any a0 w hs
    have c2 := fun w => implHex_any a0 w hs
    rw [← hs'] at c1 c2
    have C1 := c1 w
    have C2 : Hid (∀ w, _) := c2
    clear hs' c1 c2
    go_enter Try.func7, Try.ntmps7
    go_wp2_with fail
    refine C1.mono ?_
    rintro e w1 ⟨rfl, hb1⟩
    clear C1
    go_wp2_with fail
    refine (C2.out w1).mono ?_
    rintro e w2 ⟨rfl, hb2⟩
    clear C2
    go_wp2
    go_ret
    exact ⟨rfl, hb1.trans (hb2.mono hb1.size)⟩

namespace Hex
theorem own : ownKnob Try.prog.godebug = none := by kernel_rfl

set_option maxRecDepth 100000 in
theorem lifted (os : Os) (started : os.Started) (H : Type) (enc : TypeId × Value → H) :
    ReturnsInHanded {} Try.checked os 7 .any (Rows.fnExactHexSpec.pre6 enc Try.prog Try.f7 Rows.fnExactHexRow.domain false) (Rows.fnExactHexSpec.post enc Try.prog Try.f7 false true false false) := by
  refine returnsInHanded_of_change (C := Try.checked) own started (by kernel_rfl) Try.func7
    (ChangeSpec.witness6 (enc := enc) (C := Try.checked) false ⟨#[], #[.string ByteArray.empty], []⟩ 8 (by kernel_rfl) (by kernel_rfl) (by kernel_rfl) (by kernel_rfl)) ?_
  intro W base args ds gs before hval0 hW hcnd _
  have hval : ∀ (j : Nat) t v, Try.f7.params[j]? = some t → args[j]? = some v → Value.okWide Try.prog W .any base t v := hval0
  have hW' := hW
  obtain ⟨p, q, hA0, hV, rfl, hfz, hnd⟩ := hW
  have hA : DataW.TrodAll enc Try.prog W 0 (fun _ => true) true Try.f7.params.toList args.toList ds p := hA0
  rw [Try.params7] at hA hval
  obtain ⟨v0, vs0, d0, ds0, p0, q0, hargs, rfl, rfl, h0, r0⟩ := trodAll_cons hA
  obtain ⟨rfl, rfl, rfl⟩ := trodAll_nil r0
  obtain rfl : args = #[v0] := by cases args; simp_all
  obtain ⟨rfl, rfl⟩ := trodVars_none hV
  obtain ⟨a0, rfl, rfl, rfl, w0⟩ := open_string Try.underlying9 (hval 0 9 v0 rfl rfl) h0
  clear hA0 hval0
  simp only [List.append_nil] at hW'
  refine (walkHex a0 w0 W).mono fun e W' ⟨he, bel⟩ => ?_
  subst he
  exact ⟨_, rfl, _, _, _, [], _, [], hW', (trodAll_cons_mk (shut_bool Try.underlying4 _) trodAll_mk0), (trodAll_cons_mk (shut_string Try.underlying9 w0) trodAll_mk0), rfl, bel.frame _, fun h => by cases h⟩

theorem over : Rows.fnExactHexRow.holds Try.pinned (OpenSpec.ofChange Rows.fnExactHexSpec) :=
  OpenClaim.holds_of_wide 7 Try.f7 rfl rfl rfl rfl rfl rfl rfl ⟨rfl, rfl, rfl, rfl, rfl⟩ rfl rfl rfl rfl rfl (by kernel_rfl) Try.func7 (by kernel_rfl)
    (of_decide_eq_true (by kernel_rfl)) (by unfold Func.isWrapper; first | (rw [if_pos (by decide +kernel)]; kernel_rfl) | (rw [if_neg (by decide +kernel)]; exact ⟨rfl, rfl⟩))
    (fun os started H enc _ => lifted os started H enc)


end Hex
theorem hex_holds : Rows.FnExactHexSaid := Hex.over
#print axioms hex_holds
end Go.Proofs.Ytkjabochhhalhah
