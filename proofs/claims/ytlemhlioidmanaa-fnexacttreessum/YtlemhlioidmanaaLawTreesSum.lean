/-
  The law of TreesSum: at every list of trees the program answers as the model; it writes into none of them.
-/
import Derived.Test.YtlemhlioidmanaaReadW
import Derived.Test.YtlemhlioidmanaaISumW
namespace Go.Proofs.Ytlemhlioidmanaa
open Go.ChangeShapes Go.WideShapes Go.ChangeAt Go.RowKit
set_option linter.unusedVariables false

theorem eqAmt_any (a b c : Int) (w : World) : Calls Try.prog 16 #[amt a b c, amt a b c] w fun e w' => e = .returned (.bool true) ∧ Below w.heap.size w w' :=
  (eqAmt_in a b c w).mono fun e w' h => ⟨h.1, by rw [h.2]; go_grown⟩
set_option maxHeartbeats 2000000 in
theorem small (a : Option Addr) (n cap : Nat) (tss : List (List Re)) (w : World) (hx : IsTrees w (.slice a n cap) tss) (hn : n = tss.length) (hf : ((tss.length : Int) + woodN tss) ≤ 1048576) :
    Calls Try.prog 5 #[.slice a n cap] w fun e w' => e = .returned (.bool true) ∧ Below w.heap.size w w' := by
  have hm : ∀ i, (treeAt tss i).length ≤ 1048576 := fun i => by have := treeAt_le tss i; omega
  have hl : tss.length ≤ 1048576 := by omega
  have C := szTreeS_any _ tss w hx (by omega) (fun i => by have := hm i; omega)
  rw [szA_yes hf] at C
  have HX : Hid (∀ w', Below w.heap.size w w' → IsTrees w' (.slice a n cap) tss) := fun w' hb => hx.on hb
  have HL : Hid (tss.length ≤ 1048576 ∧ ∀ i, (treeAt tss i).length ≤ 1048576) := ⟨hl, hm⟩
  have hnn : ¬ (1048576 - (tss.length : Int) - woodN tss < 0) := by omega
  obtain ⟨A, hA⟩ : ∃ x, x = sumW Re.a tss (min tss.length 3) := ⟨_, rfl⟩
  obtain ⟨B, hB⟩ : ∃ x, x = sumW Re.b tss (min tss.length 3) := ⟨_, rfl⟩
  obtain ⟨D, hD⟩ : ∃ x, x = sumW Re.c tss (min tss.length 3) := ⟨_, rfl⟩
  have HA : Hid (∀ v w', IsWood w' v tss → Calls Try.prog 13 #[v] w' fun e w'' => e = .returned (amt A B D) ∧ Below w'.heap.size w' w'') := fun v w' h => by rw [hA, hB, hD]; exact specTreesSum_any v tss w' h.trees hl hm
  have HI : Hid (∀ v w', IsWood w' v tss → Calls Try.prog 15 #[v] w' fun e w'' => e = .returned (amt A B D) ∧ Below w'.heap.size w' w'') := fun v w' h => by rw [hA, hB, hD]; exact implTreesSum_any v tss w' h hl hm
  have HT : Hid (∀ w', Below w.heap.size w w' → Calls Try.prog 14 #[.slice a n cap] w' fun e w'' => ∃ g, e = .returned (.slice (some ⟨g, 0, none⟩) n n) ∧ IsWood w'' (.slice (some ⟨g, 0, none⟩) n n) tss ∧ Below w'.heap.size w' w'') := fun w' hb => by
    refine (toTreeS_any _ tss w' (HX.out w' hb) hl hm).mono ?_
    rintro e w'' ⟨rfl, ⟨fs, h1, h2⟩, h3⟩
    have e : fs.length = n := by rw [hn, ← h1, leafTs_length]
    refine ⟨_, by rw [hn], ?_, h3⟩
    have h4 := h2.wood
    rw [h1, e, ← hn] at h4
    exact h4
  have HQ : Hid (∀ v u w', IsWood w' v tss → IsWood w' u tss → Calls Try.prog 17 #[v, u] w' fun e w'' => e = .returned (.bool true) ∧ Below w'.heap.size w' w'') := fun v u w' h1 h2 => eqTreeS_same v u tss w' h1.trees h2.trees hl hm
  clear hx hn hf hm hl hA hB hD HX HL
  go_enter Try.func5, Try.ntmps5
  go_wp2_with fail
  refine C.mono ?_
  rintro e w1 ⟨rfl, hb⟩
  have HB1 : Hid (Below w.heap.size w w1) := hb
  clear C hb
  go_wp2_with fail
  refine (HT.out _ HB1.out).mono ?_
  rintro e w2 ⟨g2, rfl, hi, hb⟩
  have HB2 := hid_of (below_more HB1.out hb)
  have HI2 := hid_of hi
  clear HB1 hb hi
  go_wp2_with fail
  refine (HA.out _ _ HI2.out).mono ?_
  rintro e w3 ⟨rfl, hb⟩
  have HB3 : Hid (Below w.heap.size w (w3.alloc (boxA A B D))) := below_more (below_more HB2.out hb) (below_alloc w3 _)
  have HX3 : Hid (Box3 (w3.alloc (boxA A B D)) w3.heap.size 31 A B D) := ⟨heap_alloc_new w3 _⟩
  clear HB2 HI2 hb HA
  go_wp2_with fail
  obtain ⟨V3, hV⟩ : ∃ V, V = w3.alloc (boxA A B D) := ⟨_, rfl⟩
  obtain ⟨g3, hg⟩ : ∃ g, g = w3.heap.size := ⟨_, rfl⟩
  rw [← hV] at HB3 HX3 ⊢
  rw [← hg] at HX3 ⊢
  clear hV hg
  refine (HT.out _ HB3.out).mono ?_
  rintro e w4 ⟨g4, rfl, hi, hb⟩
  have HB4 := hid_of (below_more HB3.out hb)
  have HX4 := hid_of (box_on HX3.out hb)
  have HI4 := hid_of hi
  clear HB3 HX3 hb hi
  go_wp2_with fail
  refine (HI.out _ _ HI4.out).mono ?_
  rintro e w5 ⟨rfl, hb⟩
  have HB5 : Hid (Below w.heap.size w (w5.alloc (boxA A B D))) := below_more (below_more HB4.out hb) (below_alloc w5 _)
  have HX5 := hid_of (box_on (box_on HX4.out hb) (below_alloc w5 (boxA A B D)))
  have HI5 := hid_of ((HI4.out.on hb).on (below_alloc w5 (boxA A B D)))
  have HY5 : Hid (Box3 (w5.alloc (boxA A B D)) w5.heap.size 31 A B D) := ⟨heap_alloc_new w5 _⟩
  have hx0 := HX5.out.c0
  have hx1 := HX5.out.c1
  have hx2 := HX5.out.c2
  have CQ := fun w => eqAmt_any A B D w
  clear HB4 HX4 HI4 hb HI
  have hy0 := HY5.out.c0
  have hy1 := HY5.out.c1
  have hy2 := HY5.out.c2
  go_wp2_with fail
  refine (CQ _).mono ?_
  rintro e w6 ⟨rfl, hb⟩
  have HB6 := hid_of (below_more HB5.out hb)
  have HI6 := hid_of (HI5.out.on hb)
  clear HB5 HX5 HI5 HY5 hb CQ hx0 hx1 hx2 hy0 hy1 hy2
  go_wp2_with fail
  refine (HT.out _ HB6.out).mono ?_
  rintro e w7 ⟨g7, rfl, hi, hb⟩
  have HB7 := hid_of (below_more HB6.out hb)
  have HI7 := hid_of (HI6.out.on hb)
  have HJ7 := hid_of hi
  clear HB6 HI6 hb hi
  go_wp2_with fail
  refine (HQ.out _ _ _ HI7.out HJ7.out).mono ?_
  rintro e w8 ⟨rfl, hb⟩
  have HB8 := hid_of (below_more HB7.out hb)
  clear HB7 hb
  go_wp2
  go_ret
  exact ⟨rfl, HB8.out⟩
set_option maxHeartbeats 1000000 in
theorem big (a : Option Addr) (n cap : Nat) (tss : List (List Re)) (w : World) (hx : IsTrees w (.slice a n cap) tss) (hn : n = tss.length) (hm : n ≤ 9223372036854775807) (hmm : ∀ i, (treeAt tss i).length ≤ 9223372036854775807) (h : ¬ ((tss.length : Int) + woodN tss) ≤ 1048576) :
    Calls Try.prog 5 #[.slice a n cap] w fun e w' => e = .returned (.bool true) ∧ Below w.heap.size w w' := by
  have C := szTreeS_any _ tss w hx (by omega) hmm
  rw [szA_no h] at C
  clear hx hn hm hmm h
  go_enter Try.func5, Try.ntmps5
  go_wp2_with fail
  refine C.mono ?_
  rintro e w0 ⟨rfl, hb⟩
  clear C
  go_wp2
  go_ret
  exact ⟨rfl, hb⟩
theorem walkTreesSum (a : Option Addr) (n cap : Nat) (tss : List (List Re)) (w : World) (hx : IsTrees w (.slice a n cap) tss) (hn : n = tss.length) (hm : n ≤ maxLen) (hmm : ∀ i, (treeAt tss i).length ≤ maxLen) :
    Calls Try.prog 5 #[.slice a n cap] w fun e w' => e = .returned (.bool true) ∧ Below w.heap.size w w' := by
  unfold maxLen at hm hmm
  by_cases h : ((tss.length : Int) + woodN tss) ≤ 1048576
  · exact small a n cap tss w hx hn h
  · exact big a n cap tss w hx hn (by omega) (fun i => by have := hmm i; omega) h
namespace TreesSum
set_option maxRecDepth 100000 in
theorem lifted (os : Os) (started : os.Started) (H : Type) (enc : TypeId × Value → H) :
    ReturnsInHanded {} Try.checked os 5 .any (Rows.fnExactTreesSumSpec.pre6 enc Try.prog Try.f5 Rows.fnExactTreesSumRow.domain false) (Rows.fnExactTreesSumSpec.post enc Try.prog Try.f5 false true false false) := by
  refine returnsInHanded_of_change (C := Try.checked) own started (by kernel_rfl) Try.func5
    (ChangeSpec.witness6 (enc := enc) (C := Try.checked) false ⟨#[], #[.slice none 0 0], []⟩ 8 (by kernel_rfl) (by kernel_rfl) (by kernel_rfl) (by kernel_rfl)) ?_
  intro W base args ds gs before hval0 hW hcnd _
  have hval : ∀ (j : Nat) t v, Try.f5.params[j]? = some t → args[j]? = some v → Value.okWide Try.prog W .any base t v := hval0
  have hW' := hW
  obtain ⟨p, q, hA0, hV, rfl, hfz, hnd⟩ := hW
  have hA : DataW.TrodAll enc Try.prog W 0 (fun _ => true) true Try.f5.params.toList args.toList ds p := hA0
  rw [Try.params5] at hA hval
  obtain ⟨v0, vs0, d0, ds0, p0, q0, hargs, rfl, rfl, h0, r0⟩ := trodAll_cons hA
  obtain ⟨rfl, rfl, rfl⟩ := trodAll_nil r0
  obtain rfl : args = #[v0] := by cases args; simp_all
  obtain ⟨rfl, rfl⟩ := trodVars_none hV
  obtain ⟨a0, n0, c0, xs0, rfl, i0, e0, m0, g0⟩ := open_trees (hval 0 34 v0 rfl rfl) h0
  have k0 := h0
  have lt0 : ∀ x ∈ p0, x.block < W.heap.size := by obtain ⟨m, hm⟩ := k0; exact DataW.trod_lt m _ _ _ hm
  clear hA0 hval0
  refine (walkTreesSum a0 n0 c0 xs0 W i0 e0 m0 g0).mono fun e W' ⟨he, bel⟩ => ?_
  subst he
  exact ⟨_, rfl, _, _, _, [], _, [], hW', trodAll_mk1 (shut_bool Try.underlying4 _), (trodAll_cons_mk (Below.trod laidOut (by kernel_rfl) (of_decide_eq_true (by kernel_rfl)) k0 bel lt0) trodAll_mk0), rfl, bel.frame _, fun h => by cases h⟩

theorem over : Rows.fnExactTreesSumRow.holds Try.pinned (OpenSpec.ofChange Rows.fnExactTreesSumSpec) :=
  OpenClaim.holds_of_wide 5 Try.f5 rfl rfl rfl rfl rfl rfl rfl ⟨rfl, rfl, rfl, rfl, rfl⟩ rfl rfl rfl rfl rfl (by kernel_rfl) Try.func5 (by kernel_rfl)
    (of_decide_eq_true (by kernel_rfl)) (by unfold Func.isWrapper; first | (rw [if_pos (by decide +kernel)]; kernel_rfl) | (rw [if_neg (by decide +kernel)]; exact ⟨rfl, rfl⟩))
    (fun os started H enc _ => lifted os started H enc)
end TreesSum
theorem treesSum_holds : Rows.FnExactTreesSumSaid := TreesSum.over
#print axioms treesSum_holds
end Go.Proofs.Ytlemhlioidmanaa
