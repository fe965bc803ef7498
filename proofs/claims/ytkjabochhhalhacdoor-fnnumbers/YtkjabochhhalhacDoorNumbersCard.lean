/-
  FnNumbers holds at every code: what is made of a number is read as it, whatever stands behind; no other text is read. The card: its listed variables start as the program's text lays them.
-/
import Derived.Test.YtkjabochhhalhacDoorWalkA
import Derived.Test.YtkjabochhhalhacDoorWalkB
import Derived.Test.YtkjabochhhalhacDoorWalkC
import Derived.Test.YtkjabochhhalhacDoorWalkD
import Derived.Test.YtkjabochhhalhacDoorCards
import Derived.Test.YtkjabochhhalhacDoorTie
import Derived.ProofKit
import Derived.OpenShut
import Derived.ChangeOld
import Derived.Below
import Derived.Deep.DeepHandedRow
import Derived.Deep.DeepWitnessRowRef
import Derived.Stop.LaidErr
namespace Go.Proofs.YtkjabochhhalhacDoor
open Go.ChangeShapes Go.WideShapes Go.ChangeAt Go.RowKit
set_option linter.unusedVariables false

theorem setting_of (a : Option Addr) (len cap : Nat) (cb : Nat → Nat) (hl : len ≤ 1048576) :
    ∃ (n : Int) (T R S F Dn Hx : ByteArray), Setting a len cap cb n T R S F Dn Hx ∧ (-9223372036854775808 ≤ n ∧ n ≤ 9223372036854775807) ∧ S = varS n ∧ F = fixS n ∧ Dn = ⟨(Lib.itoa n).toArray⟩ := by
  have hn := numV_fits len cb (start cb len)
  have hts := textV_length len cb 40 (start cb len)
  generalize hN : numV len cb (start cb len) = n at *
  obtain ⟨T, hT⟩ : ∃ T : ByteArray, T = ⟨(textV len cb 40 (start cb len)).toArray⟩ := ⟨_, rfl⟩
  have hTs : T.size ≤ 40 := by rw [hT]; simpa [ByteArray.size] using hts
  refine ⟨n, T, drv len cb, varS n, fixS n, ⟨(Lib.itoa n).toArray⟩, ⟨(hexs T.data.toList).toArray⟩, ?_, hn, rfl, rfl, rfl⟩
  have hF : (fixS n).size ≤ 7 := by
    unfold fixS
    split
    · unfold fixedOf
      split
      · simp [ByteArray.size]
      · have := fx_length 7 n.toNat
        simp [ByteArray.size, this]
    · simp [ByteArray.size]
  refine ⟨hl, hTs, drv_size len cb, varS_size n, hF, ?_, ?_, ?_, ?_, ?_, ?_, ?_, ?_⟩
  · intro w h; rw [← hN]; exact drawVar_any w a len cap cb h
  · intro w h; rw [hT]; exact drawHex_any w a len cap cb h
  · intro w h; exact drawReadVar_any w a len cap cb h
  · intro w; exact implVar_any n w
  · intro w; exact implFixed7_any n w hn.2
  · intro w h; exact implDec_any n w hn.1 hn.2 h
  · intro w; exact implHex_any T w (by omega)
  · intro w
    have hs : (⟨(hexs T.data.toList).toArray⟩ : ByteArray).size ≤ 1048576 := by
      have := hexs_length T.data.toList
      have h2 : T.data.toList.length = T.size := by simp
      simp only [ByteArray.size, List.size_toArray]
      omega
    refine (implUnhex_any ⟨(hexs T.data.toList).toArray⟩ w hs).mono ?_
    rintro e w' ⟨rfl, hb⟩
    have h1 := unhex_some (unhex_hexs T.data.toList)
    have h2 : (⟨(hexs T.data.toList).toArray⟩ : ByteArray).data.toList = hexs T.data.toList := by simp
    rw [h2, h1.1, h1.2, Lib.mk_data]
    exact ⟨rfl, hb⟩

theorem walkNumbers (w : World) (a : Option Addr) (len cap : Nat) (cb : Nat → Nat) (hc : Code0 w a len cb) (hp : Pow w) (he : ErrVar w) :
    Calls Tryd.prog 3 #[.slice a len cap] w fun e w' => e = .returned (.bool true) ∧ Below w.heap.size w w' := by
  obtain ⟨n, T, R, S, F, Dn, Hx, st, hn, hS, hF, hD⟩ := setting_of a len cap cb hc.small
  have hsz : (S ++ T).size ≤ 1048576 := by rw [ByteArray.size_append]; have := st.sizeS; have := st.sizeT; omega
  have hsz2 : (F ++ T).size ≤ 1048576 := by rw [ByteArray.size_append]; have := st.sizeF; have := st.sizeT; omega
  have rvYes : 0 ≤ n → n ≤ 562949953421311 → (∀ w, Calls Tryd.prog 8 #[.string (S ++ T)] w fun e w' => e = .returned (.tuple #[.int .i64 n, .int .i64 S.size]) ∧ w' = w) ∧ S.toList.isEmpty = false := by
    intro h0 h1
    constructor
    · intro w
      refine (implReadVar_any (S ++ T) w hsz).mono ?_
      rintro e w' ⟨x, k, rfl, ht, rfl⟩
      rw [hS] at ht ⊢
      obtain ⟨e1, e2⟩ := told_var n T x k ht h0 h1
      rw [e1, e2]
      exact ⟨rfl, rfl⟩
    · have e : varS n = ⟨(enc 7 n.toNat).toArray⟩ := if_pos ⟨h0, h1⟩
      rw [hS, e, Lib.toList_data]
      have : (enc 7 n.toNat) ≠ [] := by
        rcases Nat.lt_or_ge n.toNat 128 with h | h
        · rw [enc_small 7 _ h]; simp
        · rw [enc_great 6 _ (by omega)]; simp
      simpa using this
  have rvNo : ¬ (0 ≤ n ∧ n ≤ 562949953421311) → (∀ w, Calls Tryd.prog 8 #[.string (S ++ T)] w fun e w' => ∃ x k : Nat, e = .returned (.tuple #[.int .i64 x, .int .i64 k]) ∧ w' = w) ∧ S.toList.isEmpty = true := by
    intro h
    constructor
    · intro w
      refine (implReadVar_any (S ++ T) w hsz).mono ?_
      rintro e w' ⟨x, k, rfl, _, rfl⟩
      exact ⟨x, k, rfl, rfl⟩
    · have e : varS n = ⟨#[]⟩ := if_neg h
      rw [hS, e, Lib.toList_data]; rfl
  have rfYes : 0 ≤ n → n < 72057594037927936 → (∀ w, Calls Tryd.prog 10 #[.string (F ++ T), .int .i64 7] w fun e w' => e = .returned (.tuple #[.int .i64 n, .bool true]) ∧ w' = w) ∧ F.toList.isEmpty = false ∧ (F.size : Int) = 7 := by
    intro h0 h1
    have h7 : (256 : Nat) ^ 7 = 72057594037927936 := by decide
    have e0 : n.toNat / 256 ^ 7 = 0 := Nat.div_eq_of_lt (by omega)
    have e : F = ⟨(fx 7 n.toNat).toArray⟩ := by
      rw [hF]; unfold fixS
      rw [if_pos h0, fixedOf_yes (by rw [e0]; omega)]
    have hl := fx_length 7 n.toNat
    have hfs : F.size = 7 := by rw [e]; simp [ByteArray.size, hl]
    refine ⟨?_, ?_, by omega⟩
    · intro w
      refine (readFixed7_any (F ++ T) w hsz2).mono ?_
      rintro e w' ⟨y, b, rfl, hy, rfl⟩
      obtain ⟨rfl, hy2⟩ := hy (by rw [ByteArray.size_append]; omega)
      have ht : (F ++ T).data.toList.take 7 = fx 7 n.toNat := by
        rw [ByteArray.data_append, e]
        simp [hl]
      rw [ht, rd_fx 7 n.toNat (by omega)] at hy2
      rw [hy2]
      exact ⟨by rw [show ((n.toNat : Nat) : Int) = n by omega], rfl⟩
    · rw [e, Lib.toList_data]
      have : fx 7 n.toNat ≠ [] := by intro h; rw [h] at hl; simp at hl
      simpa using this
  have rfNo : (n < 0 ∨ 72057594037927936 ≤ n) → (∀ w, Calls Tryd.prog 10 #[.string (F ++ T), .int .i64 7] w fun e w' => ∃ (y : Int) (b : Bool), e = .returned (.tuple #[.int .i64 y, .bool b]) ∧ w' = w) ∧ F.toList.isEmpty = true := by
    intro h
    constructor
    · intro w
      refine (readFixed7_any (F ++ T) w hsz2).mono ?_
      rintro e w' ⟨y, b, rfl, _, rfl⟩
      exact ⟨y, b, rfl, rfl⟩
    · have h7 : (256 : Nat) ^ 7 = 72057594037927936 := by decide
      have e : F = ⟨#[]⟩ := by
        rw [hF]; unfold fixS
        rcases h with h | h
        · rw [if_neg (by omega)]
        · rw [if_pos (by omega), fixedOf_no (Nat.div_pos (by omega) (by omega))]
      rw [e, Lib.toList_data]; rfl
  have rdYes : n.natAbs < 1000000000 → ∀ w, Pow w → ErrVar w → Calls Tryd.prog 11 #[.string Dn] w fun e w' => e = .returned (.tuple #[.int .i64 n, .bool true]) ∧ Below w.heap.size w w' := by
    intro h w hp he
    refine (readDecN n Dn hD hn w hp he).mono ?_
    rintro e w' ⟨d, b, rfl, hd, hb⟩
    rcases hd with ⟨_, rfl, rfl⟩ | ⟨h2, _⟩
    · exact ⟨rfl, hb⟩
    · omega
  have rdNo : 1000000000 ≤ n.natAbs → ∀ w, Pow w → ErrVar w → Calls Tryd.prog 11 #[.string Dn] w fun e w' => ∃ d : Int, e = .returned (.tuple #[.int .i64 d, .bool false]) ∧ Below w.heap.size w w' := by
    intro h w hp he
    refine (readDecN n Dn hD hn w hp he).mono ?_
    rintro e w' ⟨d, b, rfl, hd, hb⟩
    rcases hd with ⟨h2, _, _⟩ | ⟨_, rfl⟩
    · omega
    · exact ⟨d, rfl, hb⟩
  rcases (show (0 ≤ n ∧ n < 1000000000) ∨ (1000000000 ≤ n ∧ n ≤ 562949953421311) ∨ (562949953421311 < n ∧ n < 72057594037927936) ∨ (72057594037927936 ≤ n ∧ n ≤ 9223372036854775807) ∨ (-1000000000 < n ∧ n < 0) ∨ (-9223372036854775808 ≤ n ∧ n ≤ -1000000000) by omega) with ⟨h1, h2⟩ | ⟨h1, h2⟩ | ⟨h1, h2⟩ | ⟨h1, h2⟩ | ⟨h1, h2⟩ | ⟨h1, h2⟩
  · obtain ⟨v1, v2⟩ := rvYes (by omega) (by omega)
    obtain ⟨f1, f2, f3⟩ := rfYes (by omega) (by omega)
    exact numbers_c1 w a len cap cb n T R S F Dn Hx st hc hp he h1 h2 v1 v2 f1 f2 f3 (rdYes (by omega))
  · obtain ⟨v1, v2⟩ := rvYes (by omega) (by omega)
    obtain ⟨f1, f2, f3⟩ := rfYes (by omega) (by omega)
    exact numbers_c2 w a len cap cb n T R S F Dn Hx st hc hp he h1 h2 v1 v2 f1 f2 f3 (rdNo (by omega))
  · obtain ⟨v1, v2⟩ := rvNo (by omega)
    obtain ⟨f1, f2, f3⟩ := rfYes (by omega) (by omega)
    exact numbers_c3 w a len cap cb n T R S F Dn Hx st hc hp he h1 h2 v1 v2 f1 f2 f3 (rdNo (by omega))
  · obtain ⟨v1, v2⟩ := rvNo (by omega)
    obtain ⟨f1, f2⟩ := rfNo (by omega)
    exact numbers_c4 w a len cap cb n T R S F Dn Hx st hc hp he h1 h2 v1 v2 f1 f2 (rdNo (by omega))
  · obtain ⟨v1, v2⟩ := rvNo (by omega)
    obtain ⟨f1, f2⟩ := rfNo (by omega)
    exact numbers_c5 w a len cap cb n T R S F Dn Hx st hc hp he h1 h2 v1 v2 f1 f2 (rdYes (by omega))
  · obtain ⟨v1, v2⟩ := rvNo (by omega)
    obtain ⟨f1, f2⟩ := rfNo (by omega)
    exact numbers_c6 w a len cap cb n T R S F Dn Hx st hc hp he h1 h2 v1 v2 f1 f2 (rdNo (by omega))

set_option maxRecDepth 100000 in
set_option maxHeartbeats 400000 in
theorem walkBig (w : World) (a : Option Addr) (len cap : Nat) (h : 1048576 < len) :
    Calls Tryd.prog 3 #[.slice a len cap] w fun e w' => e = .returned (.bool true) ∧ Below w.heap.size w w' := by
  go_enter Tryd.func3, Tryd.ntmps3
  go_wp2_with (go_at_call 4; go_in)
  go_ret
  exact ⟨rfl, Below.refl _ _⟩

namespace Numbers
theorem own : ownKnob Tryd.prog.godebug = none := by kernel_rfl
theorem laidOut : laidOutB Tryd.prog = true := by kernel_rfl
theorem gTab : Tryd.prog.globalNamed "internal/strconv.uint64pow10" = some 2 := by kernel_rfl
theorem gTabType : (Tryd.prog.globals[2]?).map (·.type) = some 82 := by kernel_rfl
theorem cells82 : Tryd.prog.cellsOf 82 = 20 := by kernel_rfl
theorem cells64 : Tryd.prog.cellsOf 64 = 1 := by kernel_rfl
theorem pow_of {W : World} {rest : List (String × DataW Unit)} (h : laidMet Tryd.prog (("internal/strconv.uint64pow10", Rows.laid_internal_strconv_uint64pow10) :: rest) W) : Pow W :=
  Lib.tabIs_of_head (zs := Lib.pow10Tab) gTab gTabType Tryd.underlying82 Tryd.underlying64 cells64 cells82 h
theorem gES : Tryd.prog.globalNamed "strconv.ErrSyntax" = some 0 := by kernel_rfl
theorem gESType : (Tryd.prog.globals[0]?).map (·.type) = some 43 := by kernel_rfl
theorem cells80 : Tryd.prog.cellsOf 80 = 1 := by kernel_rfl
theorem cells9 : Tryd.prog.cellsOf 9 = 1 := by kernel_rfl
theorem star : "*" ++ "errors.errorString" = "*errors.errorString" := by decide
theorem row78 (u : TypeId) (h : Tryd.prog.typeName? 3 u = some "*errors.errorString") : u = 78 :=
  typeName_ptr_named (nm := "errors.errorString") (by rw [star]; kernel_rfl) (by kernel_rfl) (by decide) u (by rw [star]; exact h)
theorem err_of {W : World} {rest : List (String × DataW Unit)} (h : laidMet Tryd.prog (("strconv.ErrSyntax", Rows.laid_strconv_ErrSyntax) :: rest) W) : ErrVar W := by
  obtain ⟨a0, s0, hv0, -, -, -⟩ := laid_sentinel h gES gESType Tryd.underlying43 row78 Tryd.underlying78 Tryd.underlying80 rfl rfl Tryd.underlying9 cells80 cells9
  exact ⟨_, by have h0 := World.var?_cell gES hv0 0; simpa using h0, .inr ⟨_, _, rfl⟩⟩

/-- The code as the row reads it: a nil slice, or a row of bytes. -/
def IsRow (w : World) (a : Option Addr) (len cap : Nat) (zs : List Int) : Prop :=
  (a = none ∧ len = 0 ∧ cap = 0 ∧ zs = []) ∨
  ∃ x, a = some x ∧ len ≤ cap ∧ cap ≤ maxLen ∧ zs.length = cap ∧ (∀ i, i < zs.length → w.cell? (x.add i) = some (.int .u8 (zs.getD i 0))) ∧ ∀ n ∈ zs, (Lit.int .u8 n).wf = true
theorem code_of {w : World} {a : Option Addr} {len cap : Nat} {zs : List Int} (h : IsRow w a len cap zs) (hl : len ≤ 1048576) : Code0 w a len (fun i => (zs.getD i 0).toNat) := by
  have hb : ∀ i, 0 ≤ zs.getD i 0 ∧ zs.getD i 0 ≤ 255 := by
    intro i
    rcases h with ⟨_, _, _, rfl⟩ | ⟨x, _, _, _, _, _, hwf⟩
    · simp
    · by_cases hi : i < zs.length
      · have := hwf (zs.getD i 0) (by rw [List.getD_eq_getElem?_getD, List.getElem?_eq_getElem hi]; simp)
        have := bounds_u8 this
        omega
      · rw [List.getD_eq_getElem?_getD, List.getElem?_eq_none (by omega)]; simp
  refine ⟨hl, fun i => by have := hb i; omega, fun i hi => ?_⟩
  rcases h with ⟨_, rfl, _, _⟩ | ⟨x, rfl, hlc, _, hz, hc, _⟩
  · omega
  · have h1 := hc i (by omega)
    obtain ⟨b, off, spot⟩ := x
    have hs : spot = none := by
      have h0 := hc 0 (by omega)
      simpa [Addr.add] using World.cell?_spot h0
    subst hs
    have e : (⟨b, off, none⟩ : Addr).add i = ⟨b, off + i, none⟩ := by unfold Addr.add; split <;> simp_all
    rw [e] at h1
    refine ⟨b, off, rfl, World.block_lt_of_cell? w _ h1, ?_⟩
    rw [h1]
    have := hb i
    simp only [Option.some.injEq, Value.int.injEq, true_and]
    omega

theorem contract (H : Type) (enc : TypeId × Value → H) (W : World) (base : Nat) (args : Array Value) (ds gs : List (DataW H)) (before : List MemPlace)
    (hval : ∀ (j : Nat) t v, Tryd.f3.params[j]? = some t → args[j]? = some v → Value.okWide Tryd.prog W .any base t v)
    (hW : DataW.Whole enc Tryd.prog Tryd.f3.params.toList Rows.fnNumbersSpec.vars false W args.toList ds gs before) (hL : laidMetH Tryd.prog Rows.fnNumbersRow.laid W) :
    Calls Tryd.prog 3 args W fun e W' => ∃ v, e = .returned v ∧ Rows.fnNumbersSpec.post enc Tryd.prog Tryd.f3 false true false false W args v W' := by
  have hW' := hW
  obtain ⟨p, q, hA0, hV, rfl, hfz, hnd⟩ := hW
  have hA : DataW.TrodAll enc Tryd.prog W 0 (fun _ => true) true Tryd.f3.params.toList args.toList ds p := hA0
  rw [Tryd.params3] at hA hval
  obtain ⟨v0, vs0, d0, ds0, p0, q0, hargs, rfl, rfl, h0, r0⟩ := trodAll_cons hA
  obtain ⟨rfl, rfl, rfl⟩ := trodAll_nil r0
  obtain rfl : args = #[v0] := by cases args; simp_all
  obtain ⟨rfl, rfl⟩ := trodVars_none hV
  obtain ⟨a0, len0, cap0, rfl⟩ := okWide_slice Tryd.underlying22 (hval 0 22 v0 rfl rfl)
  have k0 := h0
  have lt0 : ∀ x ∈ p0, x.block < W.heap.size := by obtain ⟨m, hm⟩ := k0; exact DataW.trod_lt m _ _ _ hm
  obtain ⟨z0, w0⟩ : ∃ zs, IsRow W a0 len0 cap0 zs := by
    obtain ⟨fuel, hf⟩ := h0
    rcases open_ints Tryd.underlying22 Tryd.underlying5 (by kernel_rfl) hf with ⟨hcs, _⟩ | ⟨x, l, c, zs, hcs, _, hl, hm, hz, _, hcell, hwz⟩
    · simp [Value.cells] at hcs
      obtain ⟨rfl, rfl, rfl⟩ := hcs
      exact ⟨[], .inl ⟨rfl, rfl, rfl, rfl⟩⟩
    · simp [Value.cells] at hcs
      obtain ⟨rfl, rfl, rfl⟩ := hcs
      exact ⟨zs, .inr ⟨_, rfl, hl, hm, by simpa using hz, hcell, hwz⟩⟩
  clear hA0
  have hL' : laidMet Tryd.prog Rows.fnNumbersRow.laid W := hL
  have hL2 := laidMet.tail (laidMet.tail hL')
  have walk : Calls Tryd.prog 3 #[.slice a0 len0 cap0] W fun e w' => e = .returned (.bool true) ∧ Below W.heap.size W w' := by
    by_cases hbig : 1048576 < len0
    · exact walkBig W a0 len0 cap0 hbig
    · exact walkNumbers W a0 len0 cap0 _ (code_of w0 (by omega)) (pow_of hL2) (err_of (laidMet.tail (laidMet.tail hL2)))
  refine walk.mono fun e W' ⟨he, bel⟩ => ?_
  subst he
  exact ⟨_, rfl, _, _, _, [], _, [], hW', trodAll_mk1 (shut_bool Tryd.underlying4 _), (trodAll_cons_mk (Below.trod laidOut (by kernel_rfl) (of_decide_eq_true (by kernel_rfl)) k0 bel lt0) trodAll_mk0), rfl, bel.frame _, fun h => by cases h⟩

def setTab (cs : Array Value) : Obj → Obj
  | .cells _ t frozen => .cells cs t frozen
  | o => o
def tabPow : Array Value := #[.int .u64 1, .int .u64 10, .int .u64 100, .int .u64 1000, .int .u64 10000, .int .u64 100000, .int .u64 1000000, .int .u64 10000000, .int .u64 100000000, .int .u64 1000000000, .int .u64 10000000000, .int .u64 100000000000, .int .u64 1000000000000, .int .u64 10000000000000, .int .u64 100000000000000, .int .u64 1000000000000000, .int .u64 10000000000000000, .int .u64 100000000000000000, .int .u64 1000000000000000000, .int .u64 10000000000000000000]
def tab32 : Array Value := #[.int .u8 0, .int .u8 1, .int .u8 28, .int .u8 2, .int .u8 29, .int .u8 14, .int .u8 24, .int .u8 3, .int .u8 30, .int .u8 22, .int .u8 20, .int .u8 15, .int .u8 25, .int .u8 17, .int .u8 4, .int .u8 8, .int .u8 31, .int .u8 27, .int .u8 13, .int .u8 23, .int .u8 21, .int .u8 19, .int .u8 16, .int .u8 7, .int .u8 26, .int .u8 12, .int .u8 18, .int .u8 6, .int .u8 11, .int .u8 5, .int .u8 10, .int .u8 9]
def tab64 : Array Value := #[.int .u8 0, .int .u8 1, .int .u8 56, .int .u8 2, .int .u8 57, .int .u8 49, .int .u8 28, .int .u8 3, .int .u8 61, .int .u8 58, .int .u8 42, .int .u8 50, .int .u8 38, .int .u8 29, .int .u8 17, .int .u8 4, .int .u8 62, .int .u8 47, .int .u8 59, .int .u8 36, .int .u8 45, .int .u8 43, .int .u8 51, .int .u8 22, .int .u8 53, .int .u8 39, .int .u8 33, .int .u8 30, .int .u8 24, .int .u8 18, .int .u8 12, .int .u8 5, .int .u8 63, .int .u8 55, .int .u8 48, .int .u8 27, .int .u8 60, .int .u8 41, .int .u8 37, .int .u8 16, .int .u8 46, .int .u8 35, .int .u8 44, .int .u8 21, .int .u8 52, .int .u8 32, .int .u8 23, .int .u8 11, .int .u8 54, .int .u8 26, .int .u8 40, .int .u8 15, .int .u8 34, .int .u8 20, .int .u8 31, .int .u8 10, .int .u8 25, .int .u8 14, .int .u8 19, .int .u8 9, .int .u8 13, .int .u8 8, .int .u8 7, .int .u8 6]
/-- What the witness's world is made of: a world, two errors' texts behind it at n, each listed variable holding what its initialiser lays. -/
def laidIn (h : World) (n : Nat) : World :=
  { h with heap := ((((h.heap.modify 2 (setTab tabPow)).modify 3 (setTab tab32)).modify 4 (setTab tab64)).modify 0 (setTab #[.iface 78 (.pointer (some ⟨n, 0, none⟩))])).modify 1 (setTab #[.iface 78 (.pointer (some ⟨n + 1, 0, none⟩))]) }
theorem laid_met (os : Os) : laidMet Tryd.prog Rows.fnNumbersRow.laid ((laidIn (World.holding Tryd.prog os ⟨#[.cells #[.string ⟨#[105, 110, 118, 97, 108, 105, 100, 32, 115, 121, 110, 116, 97, 120]⟩] 80, .cells #[.string ⟨#[118, 97, 108, 117, 101, 32, 111, 117, 116, 32, 111, 102, 32, 114, 97, 110, 103, 101]⟩] 80], #[], []⟩) (World.settled Tryd.prog os).heap.size).forCall (fun _ _ => 0) ⟨#[], #[.slice none 0 0], []⟩).memory :=
  laidMet_of_run' 8 (by kernel_rfl) (by kernel_rfl)
theorem reads (os : Os) {H : Type} (enc : TypeId × Value → H) : ∃ d places, DataW.whole enc Tryd.prog ((laidIn (World.holding Tryd.prog os ⟨#[.cells #[.string ⟨#[105, 110, 118, 97, 108, 105, 100, 32, 115, 121, 110, 116, 97, 120]⟩] 80, .cells #[.string ⟨#[118, 97, 108, 117, 101, 32, 111, 117, 116, 32, 111, 102, 32, 114, 97, 110, 103, 101]⟩] 80], #[], []⟩) (World.settled Tryd.prog os).heap.size).forCall (fun _ _ => 0) ⟨#[], #[.slice none 0 0], []⟩).memory Tryd.f3.params.toList Rows.fnNumbersSpec.vars false #[Value.slice none 0 0].toList 8 = some ([d], [], places) :=
  ⟨.nil, [], by kernel_rfl⟩

set_option maxRecDepth 100000 in
theorem lifted (os : Os) (started : os.Started) (H : Type) (enc : TypeId × Value → H) (F : Stop.Interp) :
    ReturnsInHanded {} Tryd.checked os 3 .any ((OpenSpec.ofChange Rows.fnNumbersSpec).preRow enc Tryd.prog Tryd.f3 Rows.fnNumbersRow.domain false Rows.fnNumbersRow.laid) (((OpenSpec.ofChange Rows.fnNumbersSpec).at F).post enc Tryd.prog Tryd.f3 false true false false) := by
  obtain ⟨d, places, hx⟩ := reads os enc
  refine returnsInHanded_of_row (C := Tryd.checked) (s := OpenSpec.ofChange Rows.fnNumbersSpec) own started (by kernel_rfl) Tryd.func3
    (witness_row_atRef (enc := enc) (C := Tryd.checked) false (laidIn (World.holding Tryd.prog os ⟨#[.cells #[.string ⟨#[105, 110, 118, 97, 108, 105, 100, 32, 115, 121, 110, 116, 97, 120]⟩] 80, .cells #[.string ⟨#[118, 97, 108, 117, 101, 32, 111, 117, 116, 32, 111, 102, 32, 114, 97, 110, 103, 101]⟩] 80], #[], []⟩) (World.settled Tryd.prog os).heap.size) #[.slice none 0 0] rfl (by kernel_rfl) (by kernel_rfl) (by kernel_rfl)
      (OpenSpec.preRow_of_cond 8 hx (by kernel_rfl) (fun k hk => by cases hk) (by kernel_rfl) (laid_met os))) ?_
  intro W base args ds gs before hval hW _ _ _ hL _ _
  exact contract H enc W base args ds gs before hval hW hL

theorem said : Rows.FnNumbersSaid :=
  OpenClaim.holds_of_cond 3 Tryd.f3 rfl rfl rfl rfl rfl rfl rfl ⟨rfl, rfl, rfl, rfl, rfl⟩ rfl rfl rfl rfl rfl (by kernel_rfl) Tryd.func3 (by kernel_rfl)
    (of_decide_eq_true (by kernel_rfl)) (by unfold Func.isWrapper; first | (rw [if_pos (by decide +kernel)]; kernel_rfl) | (rw [if_neg (by decide +kernel)]; exact ⟨rfl, rfl⟩))
    (fun os started H enc _ F => by rw [OpenClaim.pre_eq_preRow]; exact lifted os started H enc F)

/-- No parameter wants a stand-in; the program's own looks are off. -/
theorem plain (f : FuncId) (fn : Func) (hf : Tryd.pinned.checked.prog.funcNamed "loop.example/g01287/laws.FnNumbers" = some f) (hfn : Tryd.pinned.checked.prog.funcs[f]? = some fn) :
    true = Tryd.pinned.checked.prog.looks [] ∧ ∀ (j : Nat) t, fn.params[j]? = some t → Tryd.pinned.checked.prog.wantsStandIn t = false := by
  obtain rfl : f = 3 := Option.some.inj ((show Tryd.prog.funcNamed "loop.example/g01287/laws.FnNumbers" = some 3 by kernel_rfl).symm.trans hf) |>.symm
  obtain rfl : fn = Tryd.f3 := (Option.some.inj (Tryd.func3.symm.trans hfn)).symm
  refine ⟨by kernel_rfl, fun j t ht => ?_⟩
  rw [Tryd.params3] at ht
  obtain rfl : t = 22 := by simpa using Array.mem_of_getElem? ht
  exact (show Tryd.prog.wantsStandIn 22 = false by kernel_rfl)
end Numbers
theorem numbers_card : Rows.FnNumbersCardSaid :=
  Claim7.holds_tied_plain_at .later [] _ _ _ _ Numbers.said (fun _ h => by cases h) (by kernel_rfl) (fun _ h => by cases h) fnNumbers_row_tie rfl ⟨rfl, rfl⟩ (by kernel_rfl) rfl Numbers.plain (by kernel_rfl)
#print axioms numbers_card
end Go.Proofs.YtkjabochhhalhacDoor
