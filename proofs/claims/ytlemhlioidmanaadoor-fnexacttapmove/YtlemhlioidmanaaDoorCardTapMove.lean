/-
  The card of TapMove: what the program answers is what the model answers, at every argument, where the variable errUnpaid holds what the text of the program lays.
-/
import Derived.Test.YtlemhlioidmanaaDoorLawTapMove
import Derived.Test.YtlemhlioidmanaaDoorTie
import Derived.Test.YtlemhlioidmanaaDoorCards
import Derived.Stop.LaidErr
import Derived.SevenTiedAt
import Derived.Deep.DeepHandedRow
import Derived.Deep.DeepWitnessRowRef
namespace Go.Proofs.YtlemhlioidmanaaDoor
open Go.ChangeShapes Go.WideShapes Go.ChangeAt Go.RowKit
set_option linter.unusedVariables false
set_option maxRecDepth 100000

namespace CardTapMove
theorem gE : Tryd.prog.globalNamed "loop.example/g01287/impl.errUnpaid" = some 0 := by kernel_rfl
theorem gEType : (Tryd.prog.globals[0]?).map (·.type) = some 78 := by kernel_rfl
theorem cellsE : Tryd.prog.cellsOf 140 = 1 := by kernel_rfl
theorem cells9 : Tryd.prog.cellsOf 9 = 1 := by kernel_rfl
theorem star : "*" ++ "errors.errorString" = "*errors.errorString" := by decide
theorem rowE (u : TypeId) (h : Tryd.prog.typeName? 3 u = some "*errors.errorString") : u = 114 :=
  typeName_ptr_named (nm := "errors.errorString") (by rw [star]; kernel_rfl) (by kernel_rfl) (by decide) u (by rw [star]; exact h)
theorem var_on {W W' : World} {cs : Array Value} (h : W.var? Tryd.prog "loop.example/g01287/impl.errUnpaid" = some cs) (hb : Below W.heap.size W W') : W'.var? Tryd.prog "loop.example/g01287/impl.errUnpaid" = some cs := by
  unfold World.var? at h ⊢
  rw [gE] at h ⊢
  simp only [Option.bind_some] at h ⊢
  have hlt : 0 < W.heap.size := by
    rcases Nat.lt_or_ge 0 W.heap.size with h' | h'
    · exact h'
    · simp [Array.getElem?_eq_none h'] at h
  rw [hb.block 0 hlt]
  exact h
theorem contract (H : Type) (enc : TypeId × Value → H) (W : World) (base : Nat) (args : Array Value) (ds gs : List (DataW H)) (before : List MemPlace)
    (hval : ∀ (j : Nat) t v, Tryd.f3.params[j]? = some t → args[j]? = some v → Value.okWide Tryd.prog W .any base t v)
    (hW : DataW.Whole enc Tryd.prog Tryd.f3.params.toList Rows.fnExactTapMoveSpec.vars false W args.toList ds gs before) (hL : laidMetH Tryd.prog Rows.fnExactTapMoveRow.laid W) :
    Calls Tryd.prog 3 args W fun e W' => ∃ v, e = .returned v ∧ Rows.fnExactTapMoveSpec.post enc Tryd.prog Tryd.f3 false true false false W args v W' := by
  have hW' := hW
  obtain ⟨p, q, hA0, hV0, rfl, hfz, hnd⟩ := hW
  have hA : DataW.TrodAll enc Tryd.prog W 0 (fun _ => true) true Tryd.f3.params.toList args.toList ds p := hA0
  have hV : DataW.TrodVars enc Tryd.prog W (fun _ => true) ["loop.example/g01287/impl.errUnpaid"] gs q := hV0
  rw [Tryd.params3] at hA hval
  obtain ⟨v0, vs0, d0, ds0, p0, q0, hargs, rfl, rfl, h0, r0⟩ := trodAll_cons hA
  obtain ⟨v1, vs1, d1, ds1, p1, q1, hargs1, rfl, rfl, h1, r1⟩ := trodAll_cons r0
  obtain ⟨v2, vs2, d2, ds2, p2, q2, hargs2, rfl, rfl, h2, r2⟩ := trodAll_cons r1
  obtain ⟨rfl, rfl, rfl⟩ := trodAll_nil r2
  obtain rfl : args = #[v0, v1, v2] := by cases args; simp_all
  have hL' : laidMet Tryd.prog Rows.fnExactTapMoveRow.laid W := hL
  obtain ⟨sa, s0, hv0, -, -, -⟩ := laid_sentinel hL' gE gEType Tryd.underlying78 rowE Tryd.underlying114 Tryd.underlying140 rfl rfl Tryd.underlying9 cellsE cells9
  have vr : ∀ {X : World}, X.var? Tryd.prog "loop.example/g01287/impl.errUnpaid" = some #[.iface 114 (.pointer (some sa))] → ∀ sp : Nat → Bool, DataW.TrodVars enc Tryd.prog X sp ["loop.example/g01287/impl.errUnpaid"] [tok enc (.iface 114 (.pointer (some sa)))] [.cell 0 0] :=
    fun x0 sp => vars_read1 enc gE gEType Tryd.underlying78 x0 trivial sp
  obtain ⟨rfl, rfl⟩ := hV.unique (vr hv0 _)
  have hse : Sent W := ⟨⟨sa, by simpa using World.var?_cell gE hv0 0⟩⟩
  obtain ⟨a0, n0, c0, xs0, rfl, i0, e0, m0, g0⟩ := open_trees (hval 0 22 v0 rfl rfl) h0
  have k0 := h0
  have lt0 : ∀ x ∈ p0, x.block < W.heap.size := by obtain ⟨m, hm⟩ := k0; exact DataW.trod_lt m _ _ _ hm
  obtain ⟨z1, rfl, f1⟩ := open_int64 (hval 1 3 v1 rfl rfl) h1
  have k1 := h1
  have lt1 : ∀ x ∈ p1, x.block < W.heap.size := by obtain ⟨m, hm⟩ := k1; exact DataW.trod_lt m _ _ _ hm
  obtain ⟨r2, u2, q2, w2, y2, x2, rfl⟩ := open_tap (hval 2 24 v2 rfl rfl) h2
  have k2 := h2
  have lt2 : ∀ x ∈ p2, x.block < W.heap.size := by obtain ⟨m, hm⟩ := k2; exact DataW.trod_lt m _ _ _ hm
  clear hA0 hV0
  refine (walkTapMove a0 n0 c0 xs0 z1 r2 u2 q2 w2 y2 x2 W i0 e0 m0 g0 hse).mono fun e W' ⟨he, bel⟩ => ?_
  subst he
  exact ⟨_, rfl, _, _, _, [], _, [.cell 0 0], hW', trodAll_mk1 (shut_bool Tryd.underlying4 _), (trodAll_cons_mk (Below.trod laidOut (by kernel_rfl) (of_decide_eq_true (by kernel_rfl)) k0 bel lt0) (trodAll_cons_mk (Below.trod laidOut (by kernel_rfl) (of_decide_eq_true (by kernel_rfl)) k1 bel lt1) (trodAll_cons_mk (Below.trod laidOut (by kernel_rfl) (of_decide_eq_true (by kernel_rfl)) k2 bel lt2) trodAll_mk0))), vr (var_on hv0 bel) _, bel.frame _, fun h => by cases h⟩

/-- What the witness's world is made of: a world, the error's text behind it at n, the listed variable holding what its initialiser lays. -/
def setE (x : Value) : Obj → Obj
  | .cells _ t frozen => .cells #[x] t frozen
  | o => o
def laidIn (h : World) (n : Nat) : World :=
  { h with heap := h.heap.modify 0 (setE (.iface 114 (.pointer (some ⟨n, 0, none⟩)))) }
theorem laid_met (os : Os) : laidMet Tryd.prog Rows.fnExactTapMoveRow.laid ((laidIn (World.holding Tryd.prog os ⟨#[.cells #[.string ⟨#[116, 104, 101, 32, 114, 101, 115, 101, 114, 118, 101, 32, 99, 97, 110, 110, 111, 116, 32, 112, 97, 121, 32, 116, 104, 97, 116]⟩] 140], #[], []⟩) (World.settled Tryd.prog os).heap.size).forCall (fun _ _ => 0) ⟨#[], #[.slice none 0 0, .int .i64 0, .agg #[.int .i64 0, .int .i64 0, .int .i64 0, .int .i64 0, .int .i64 0, .int .i64 0]], []⟩).memory :=
  laidMet_of_run' 8 (by kernel_rfl) (by kernel_rfl)
theorem reads (os : Os) {H : Type} (enc : TypeId × Value → H) : ∃ places, DataW.whole enc Tryd.prog ((laidIn (World.holding Tryd.prog os ⟨#[.cells #[.string ⟨#[116, 104, 101, 32, 114, 101, 115, 101, 114, 118, 101, 32, 99, 97, 110, 110, 111, 116, 32, 112, 97, 121, 32, 116, 104, 97, 116]⟩] 140], #[], []⟩) (World.settled Tryd.prog os).heap.size).forCall (fun _ _ => 0) ⟨#[], #[.slice none 0 0, .int .i64 0, .agg #[.int .i64 0, .int .i64 0, .int .i64 0, .int .i64 0, .int .i64 0, .int .i64 0]], []⟩).memory Tryd.f3.params.toList Rows.fnExactTapMoveSpec.vars false #[.slice none 0 0, .int .i64 0, .agg #[.int .i64 0, .int .i64 0, .int .i64 0, .int .i64 0, .int .i64 0, .int .i64 0]].toList 8 = some ([.nil, .lit (.int .i64 0), .agg [.lit (.int .i64 0), .lit (.int .i64 0), .lit (.int .i64 0), .lit (.int .i64 0), .lit (.int .i64 0), .lit (.int .i64 0)]], [tok enc (.iface 114 (.pointer (some ⟨(World.settled Tryd.prog os).heap.size, 0, none⟩)))], places) :=
  ⟨[.cell 0 0], by kernel_rfl⟩

set_option maxRecDepth 100000 in
theorem lifted (os : Os) (started : os.Started) (H : Type) (enc : TypeId × Value → H) (F : Stop.Interp) :
    ReturnsInHanded {} Tryd.checked os 3 .any ((OpenSpec.ofChange Rows.fnExactTapMoveSpec).preRow enc Tryd.prog Tryd.f3 Rows.fnExactTapMoveRow.domain false Rows.fnExactTapMoveRow.laid) (((OpenSpec.ofChange Rows.fnExactTapMoveSpec).at F).post enc Tryd.prog Tryd.f3 false true false false) := by
  obtain ⟨places, hx⟩ := reads os enc
  refine returnsInHanded_of_row (C := Tryd.checked) (s := OpenSpec.ofChange Rows.fnExactTapMoveSpec) own started (by kernel_rfl) Tryd.func3
    (witness_row_atRef (enc := enc) (C := Tryd.checked) false (laidIn (World.holding Tryd.prog os ⟨#[.cells #[.string ⟨#[116, 104, 101, 32, 114, 101, 115, 101, 114, 118, 101, 32, 99, 97, 110, 110, 111, 116, 32, 112, 97, 121, 32, 116, 104, 97, 116]⟩] 140], #[], []⟩) (World.settled Tryd.prog os).heap.size) #[.slice none 0 0, .int .i64 0, .agg #[.int .i64 0, .int .i64 0, .int .i64 0, .int .i64 0, .int .i64 0, .int .i64 0]] rfl (by kernel_rfl) (by kernel_rfl) (by kernel_rfl)
      (OpenSpec.preRow_of_cond 8 hx (by kernel_rfl) (fun k hk => by cases hk) (by kernel_rfl) (laid_met os))) ?_
  intro W base args ds gs before hval hW _ _ _ hL _ _
  exact contract H enc W base args ds gs before hval hW hL

theorem said : Rows.FnExactTapMoveSaid :=
  OpenClaim.holds_of_cond 3 Tryd.f3 rfl rfl rfl rfl rfl rfl rfl ⟨rfl, rfl, rfl, rfl, rfl⟩ rfl rfl rfl rfl rfl (by kernel_rfl) Tryd.func3 (by kernel_rfl)
    (of_decide_eq_true (by kernel_rfl)) (by unfold Func.isWrapper; first | (rw [if_pos (by decide +kernel)]; kernel_rfl) | (rw [if_neg (by decide +kernel)]; exact ⟨rfl, rfl⟩))
    (fun os started H enc _ F => by rw [OpenClaim.pre_eq_preRow]; exact lifted os started H enc F)

/-- No parameter wants a stand-in; the program's own looks are off. -/
theorem plain (f : FuncId) (fn : Func) (hf : Tryd.pinned.checked.prog.funcNamed "loop.example/g01287/laws.FnExactTapMove" = some f) (hfn : Tryd.pinned.checked.prog.funcs[f]? = some fn) :
    true = Tryd.pinned.checked.prog.looks [] ∧ ∀ (j : Nat) t, fn.params[j]? = some t → Tryd.pinned.checked.prog.wantsStandIn t = false := by
  obtain rfl : f = 3 := Option.some.inj ((show Tryd.prog.funcNamed "loop.example/g01287/laws.FnExactTapMove" = some 3 by kernel_rfl).symm.trans hf) |>.symm
  obtain rfl : fn = Tryd.f3 := (Option.some.inj (Tryd.func3.symm.trans hfn)).symm
  refine ⟨by kernel_rfl, fun j t ht => ?_⟩
  rw [Tryd.params3] at ht
  have hc : t = 22 ∨ t = 3 ∨ t = 24 := by simpa using Array.mem_of_getElem? ht
  rcases hc with rfl | rfl | rfl
  · exact (show Tryd.prog.wantsStandIn 22 = false by kernel_rfl)
  · exact (show Tryd.prog.wantsStandIn 3 = false by kernel_rfl)
  · exact (show Tryd.prog.wantsStandIn 24 = false by kernel_rfl)
end CardTapMove
theorem tapMove_card : Rows.FnExactTapMoveCardSaid :=
  Claim7.holds_tied_plain_at .later [] _ _ _ _ CardTapMove.said (fun _ h => by cases h) (by kernel_rfl) (fun _ h => by cases h) fnExactTapMove_row_tie rfl ⟨rfl, rfl⟩ (by kernel_rfl) rfl CardTapMove.plain (by kernel_rfl)
#print axioms tapMove_card
end Go.Proofs.YtlemhlioidmanaaDoor
