/-
  The law of CatDrop: what the program answers is what the model answers, at every table; no memory is shared.
-/
import Derived.Test.YtjceffhogoedaaaSNew
import Derived.Test.YtjceffhogoedaaaMarkC
import Derived.Test.YtjceffhogoedaaaReadC
namespace Go.Proofs.Ytjceffhogoedaaa
open Go.ChangeShapes Go.WideShapes Go.ChangeAt Go.RowKit
set_option linter.unusedVariables false

namespace LCatDrop
/-- What the law keeps: the model's answer, its own copy. -/
structure CN (w : World) (gS cS : Nat) (ns : List (Int × Bool)) (rS : List Value) (h1 n0 : Nat) (cs : List (Int × Bool)) (h2 : Nat) (wr : World) : Prop where
  s : OwnC gS cS ns rS w.heap.size h1 wr
  x : OwnC h1 n0 cs [] h1 h2 wr
  below : Below w.heap.size w wr
  r1 : w.heap.size ≤ h1
theorem CN.on {w : World} {gS cS : Nat} {ns : List (Int × Bool)} {rS : List Value} {h1 n0 : Nat} {cs : List (Int × Bool)} {h2 : Nat} {wr w' : World} (h : CN w gS cS ns rS h1 n0 cs h2 wr) (hb : Below wr.heap.size wr w') : CN w gS cS ns rS h1 n0 cs h2 w' := ⟨h.s.on hb, h.x.on hb, h.below.more hb h.below.size, h.r1⟩
theorem CN.behind {w : World} {gS cS : Nat} {ns : List (Int × Bool)} {rS : List Value} {h1 n0 : Nat} {cs : List (Int × Bool)} {h2 g : Nat} {wr w' : World} (h : CN w gS cS ns rS h1 n0 cs h2 wr) (hg : wr.grownBy w' (some g)) (h2g : h2 ≤ g) : CN w gS cS ns rS h1 n0 cs h2 w' := by
  have r1 := h.r1
  have xh := h.x.hi
  exact ⟨h.s.by' hg fun k e => by cases e; omega, h.x.by' hg fun k e => by cases e; omega, h.below.grown hg h.below.size fun k e => by cases e; omega, r1⟩
theorem CN.mark {w : World} {gS cS : Nat} {ns : List (Int × Bool)} {rS : List Value} {h1 n0 : Nat} {cs cs' : List (Int × Bool)} {h2 : Nat} {wr w' : World} (h : CN w gS cS ns rS h1 n0 cs h2 wr) (hg : wr.grownBy w' (some h1)) (hx : OwnC h1 n0 cs' [] h1 h2 w') : CN w gS cS ns rS h1 n0 cs' h2 w' := by
  have r1 := h.r1
  exact ⟨h.s.by' hg fun k e => by cases e; omega, hx, h.below.grown hg h.below.size fun k e => by cases e; exact r1, r1⟩
theorem held {w : World} {g c : Nat} {n : Nat} {rs : List Value} {lo hi : Nat} (h : OwnC g c (upCats 1 n) rs lo hi w) : IsCats w (.slice (some ⟨g, 0, none⟩) n c) (upCats 1 n) := by
  have := h.cats
  rw [upCats_length] at this
  exact this
theorem dropCats_length (cs : List (Int × Bool)) (z : Int) : (dropCats cs z).length = cs.length := by
  unfold dropCats; split <;> simp
theorem dropForm {f : FuncId} {args : Array Value} {cs : List (Int × Bool)} {z : Int} {w : World} (h : Calls Try.prog f args w fun e w' => DropAns cs z w e w') : Calls Try.prog f args w fun e w' => ∃ g c rs, e = .returned (.tuple #[.slice (some ⟨g, 0, none⟩) (dropCats cs z).length c, .bool (decide (0 ≤ catOf cs z))]) ∧ OwnC g c (dropCats cs z) rs w.heap.size w'.heap.size w' ∧ Below w.heap.size w w' :=
  h.mono fun e w' ⟨g, c, rs, he, ho, hb⟩ => ⟨g, c, rs, by rw [dropCats_length]; exact he, ho, hb⟩

set_option maxHeartbeats 2000000 in
theorem small (a : Option Addr) (n cap : Nat) (cs : List (Int × Bool)) (z : Int) (w : World) (hx : IsCats w (.slice a n cap) cs) (hn : n = cs.length) (hz : Fits64 z) (h : (n : Int) ≤ 1048576) :
    Calls Try.prog 6 #[.slice a n cap, .int .i64 z] w fun e w' => e = .returned (.bool true) ∧ Below w.heap.size w w' := by
  have C := szCatS_any a n cap 1048576 w (by omega) (by omega) (by omega)
  rw [szOf_yes h] at C
  have hl : ¬ ((1048576 : Int) - n < 0) := by omega
  have ct := fun w' (hb : Below w.heap.size w w') => toCatS_any (.slice a n cap) cs w' (hx.on hb) (by omega)
  have cS := fun p cap w' (hi : IsCats w' (.slice (some p) cs.length cap) cs) => dropForm <| specCatDrop_any p cap cs z w' hi (by omega) hz
  have cI := fun p cap w' (hi : IsCats w' (.slice (some p) cs.length cap) cs) => dropForm <| implCatDrop_any p cap cs z w' hi (by omega) hz
  have hns : (dropCats cs z).length ≤ 1048576 := by rw [dropCats_length]; omega
  generalize dropCats cs z = ns at cS cI hns
  generalize decide (0 ≤ catOf cs z) = b1 at cS cI
  have ce := fun v u w' (hi : IsCats w' v cs) (hj : IsCats w' u cs) => eqCatS_same v u cs w' hi hj (by omega)
  have cn := fun v u w' (hi : IsCats w' v ns) (hj : IsCats w' u ns) => eqCatS_same v u ns w' hi hj hns
  have CT : Hid (∀ w', Below w.heap.size w w' → _) := ct
  have CS : Hid (∀ p cap w', IsCats w' (.slice (some p) cs.length cap) cs → _) := cS
  have CI : Hid (∀ p cap w', IsCats w' (.slice (some p) cs.length cap) cs → _) := cI
  have CE : Hid (∀ v u w', IsCats w' v cs → IsCats w' u cs → _) := ce
  have CQ : Hid (∀ v u w', IsCats w' v ns → IsCats w' u ns → _) := cn
  have HN : Hid (cs.length ≤ 1048576 ∧ ns.length ≤ 1048576) := ⟨by omega, hns⟩
  have hb1 : (b1 != b1) = false := by simp
  clear ct cS cI ce cn hx hn h hns hz
  go_enter Try.func6, Try.ntmps6
  go_wp2_with fail
  refine C.mono ?_
  rintro e w0 ⟨rfl, rfl⟩
  clear C
  go_wp2_with fail
  refine (CT.out _ (Below.refl _ _)).mono ?_
  rintro e w1 ⟨rfl, hr, hb1⟩
  have HB1 : Hid (Below w.heap.size w w1) := hb1
  have HI : Hid (IsCats w1 (.slice (some ⟨w.heap.size, 0, none⟩) cs.length cs.length) cs) := hr.cats
  clear hr hb1
  go_wp2_with fail
  refine (CS.out _ _ _ HI.out).mono ?_
  rintro e w2 ⟨gS, cS, rS, rfl, hS, hb2⟩
  have HS : Hid (OwnC gS cS ns rS w.heap.size w2.heap.size w2) := ⟨hS.at', hS.cap, Nat.le_trans HB1.out.size hS.lo, hS.hi⟩
  have HB2 : Hid (Below w.heap.size w w2) := HB1.out.more hb2 HB1.out.size
  clear hS hb2 HB1 HI CS
  go_wp2_with fail
  refine (CT.out _ HB2.out).mono ?_
  rintro e w3 ⟨rfl, hr, hb3⟩
  have HK3 : Hid (CN w gS cS ns rS w2.heap.size cs.length cs w3.heap.size w3) := ⟨HS.out.on hb3, hr.own (Nat.le_refl _) (lt_of_block hr), HB2.out.more hb3 HB2.out.size, HB2.out.size⟩
  clear hr hb3 HS HB2
  go_wp2_with fail
  refine (CI.out _ _ _ HK3.out.x.cats).mono ?_
  rintro e w4 ⟨gR, cR, rR, rfl, hR, hb4⟩
  have HR4 : Hid (OwnC gR cR ns rR w3.heap.size w4.heap.size w4) := hR
  have HK4 : Hid (CN w gS cS ns rS w2.heap.size cs.length cs w3.heap.size w4) := HK3.out.on hb4
  clear hR hb4 HK3
  go_wp2_with fail
  refine (CQ.out _ _ _ HR4.out.cats HK4.out.s.cats).mono ?_
  rintro e w5 ⟨rfl, hb5⟩
  have HR5 : Hid (OwnC gR cR ns rR w3.heap.size w4.heap.size w5) := HR4.out.on hb5
  have HK5 : Hid (CN w gS cS ns rS w2.heap.size cs.length cs w3.heap.size w5) := HK4.out.on hb5
  clear hb5 HR4 HK4
  go_wp2_with fail
  refine (CT.out _ HK5.out.below).mono ?_
  rintro e w6 ⟨rfl, hr, hb6⟩
  have HR6 : Hid (OwnC gR cR ns rR w3.heap.size w4.heap.size w6) := HR5.out.on hb6
  have HK6 : Hid (CN w gS cS ns rS w2.heap.size cs.length cs w3.heap.size w6) := HK5.out.on hb6
  have HI6 : Hid (IsCats w6 (.slice (some ⟨w5.heap.size, 0, none⟩) cs.length cs.length) cs) := hr.cats
  clear hr hb6 HR5 HK5
  go_wp2_with fail
  refine (CE.out _ _ _ HK6.out.x.cats HI6.out).mono ?_
  rintro e w7 ⟨rfl, hb7⟩
  have HR7 : Hid (OwnC gR cR ns rR w3.heap.size w4.heap.size w7) := HR6.out.on hb7
  have HK7 : Hid (CN w gS cS ns rS w2.heap.size cs.length cs w3.heap.size w7) := HK6.out.on hb7
  clear hb7 HR6 HK6 HI6 CE
  go_wp2_with fail
  refine (markC_own _ _ _ _ _ _ 1 _ HK7.out.x HN.out.1 (by omega) (by omega)).mono ?_
  rintro e w8 ⟨rfl, hx8, hg8⟩
  have HR8 : Hid (OwnC gR cR ns rR w3.heap.size w4.heap.size w8) := HR7.out.by' hg8 fun k e => by cases e; left; exact HK7.out.x.hi
  have HK8 : Hid (CN w gS cS ns rS w2.heap.size cs.length (upCats 1 cs.length) w3.heap.size w8) := HK7.out.mark hg8 hx8
  have hp1 : ¬ ((1 : Int) + 2 * (cs.length : Int) < 0) := by omega
  clear hx8 hg8 HR7 HK7
  go_wp2_with fail
  refine (CQ.out _ _ _ HR8.out.cats HK8.out.s.cats).mono ?_
  rintro e w9 ⟨rfl, hb9⟩
  have HR9 : Hid (OwnC gR cR ns rR w3.heap.size w4.heap.size w9) := HR8.out.on hb9
  have HK9 : Hid (CN w gS cS ns rS w2.heap.size cs.length (upCats 1 cs.length) w3.heap.size w9) := HK8.out.on hb9
  clear hb9 HR8 HK8
  go_wp2_with fail
  refine (markC_own _ _ _ _ _ _ 1 _ HR9.out HN.out.2 (by omega) (by omega)).mono ?_
  rintro e wA ⟨rfl, hxA, hgA⟩
  have HRA : Hid (OwnC gR cR (upCats 1 ns.length) rR w3.heap.size w4.heap.size wA) := hxA
  have HKA : Hid (CN w gS cS ns rS w2.heap.size cs.length (upCats 1 cs.length) w3.heap.size wA) := HK9.out.behind hgA HR9.out.lo
  have hp2 : ¬ ((1 : Int) + 2 * (ns.length : Int) < 0) := by omega
  have hne9 : (((1 : Int) + 2 * (ns.length : Int)) != (1 + 2 * (ns.length : Int))) = false := by simp
  have CH : Hid (∀ w', IsCats w' (.slice (some ⟨gR, 0, none⟩) ns.length cR) (upCats 1 ns.length) → _) := fun w' h => heldC_up (.slice (some ⟨gR, 0, none⟩) ns.length cR) ns.length 1 w' h HN.out.2 (by omega) (by omega)
  clear hxA hgA HR9 HK9
  go_wp2_with fail
  refine (CH.out _ (held HRA.out)).mono ?_
  rintro e wB ⟨rfl, hwB⟩
  subst hwB
  go_wp2_with fail
  refine (CT.out _ HKA.out.below).mono ?_
  rintro e wC ⟨rfl, hr, hbC⟩
  have HRC : Hid (OwnC gR cR (upCats 1 ns.length) rR w3.heap.size w4.heap.size wC) := HRA.out.on hbC
  have HKC : Hid (CN w gS cS ns rS w2.heap.size cs.length (upCats 1 cs.length) w3.heap.size wC) := HKA.out.on hbC
  have HIC := hr.cats
  clear hr hbC HRA HKA
  go_wp2_with fail
  refine (CI.out _ _ _ HIC).mono ?_
  rintro e wD ⟨gH, cH, rH, rfl, hH, hbD⟩
  have HRD : Hid (OwnC gR cR (upCats 1 ns.length) rR w3.heap.size w4.heap.size wD) := HRC.out.on hbD
  have HKD : Hid (CN w gS cS ns rS w2.heap.size cs.length (upCats 1 cs.length) w3.heap.size wD) := HKC.out.on hbD
  have HHD : Hid (IsCats wD (.slice (some ⟨gH, 0, none⟩) ns.length cH) ns) := hH.cats
  clear hH hbD HRC HKC HIC
  go_wp2_with fail
  refine (CQ.out _ _ _ HHD.out HKD.out.s.cats).mono ?_
  rintro e wE ⟨rfl, hbE⟩
  have HRE : Hid (OwnC gR cR (upCats 1 ns.length) rR w3.heap.size w4.heap.size wE) := HRD.out.on hbE
  have HKE : Hid (CN w gS cS ns rS w2.heap.size cs.length (upCats 1 cs.length) w3.heap.size wE) := HKD.out.on hbE
  clear hbE HRD HKD HHD
  go_wp2_with fail
  refine (CH.out _ (held HRE.out)).mono ?_
  rintro e wF ⟨rfl, hwF⟩
  subst hwF
  go_wp2
  go_ret
  exact ⟨rfl, HKE.out.below⟩

set_option maxHeartbeats 400000 in
theorem big (a : Option Addr) (n cap : Nat) (z : Int) (w : World) (hm : n ≤ 9223372036854775807) (h : ¬ (n : Int) ≤ 1048576) :
    Calls Try.prog 6 #[.slice a n cap, .int .i64 z] w fun e w' => e = .returned (.bool true) ∧ Below w.heap.size w w' := by
  have C := szCatS_any a n cap 1048576 w (by omega) (by omega) hm
  rw [szOf_no h] at C
  go_enter Try.func6, Try.ntmps6
  go_wp2_with fail
  refine C.mono ?_
  rintro e w0 ⟨rfl, rfl⟩
  clear C
  go_wp2
  go_ret
  exact ⟨rfl, Below.refl _ _⟩
end LCatDrop
theorem walkCatDrop (a : Option Addr) (n cap : Nat) (cs : List (Int × Bool)) (z : Int) (w : World) (hx : IsCats w (.slice a n cap) cs) (hn : n = cs.length) (hm : n ≤ maxLen) (hz : Fits64 z) :
    Calls Try.prog 6 #[.slice a n cap, .int .i64 z] w fun e w' => e = .returned (.bool true) ∧ Below w.heap.size w w' := by
  unfold maxLen at hm
  by_cases h : (n : Int) ≤ 1048576
  · exact LCatDrop.small a n cap cs z w hx hn hz h
  · exact LCatDrop.big a n cap z w (by omega) h

namespace CatDrop
set_option maxRecDepth 100000 in
theorem lifted (os : Os) (started : os.Started) (H : Type) (enc : TypeId × Value → H) :
    ReturnsInHanded {} Try.checked os 6 .any (Rows.fnExactCatDropSpec.pre6 enc Try.prog Try.f6 Rows.fnExactCatDropRow.domain false) (Rows.fnExactCatDropSpec.post enc Try.prog Try.f6 false true false false) := by
  refine returnsInHanded_of_change (C := Try.checked) own started (by kernel_rfl) Try.func6
    (ChangeSpec.witness6 (enc := enc) (C := Try.checked) false ⟨#[], #[.slice none 0 0, .int .i64 0], []⟩ 8 (by kernel_rfl) (by kernel_rfl) (by kernel_rfl) (by kernel_rfl)) ?_
  intro W base args ds gs before hval0 hW hcnd _
  have hval : ∀ (j : Nat) t v, Try.f6.params[j]? = some t → args[j]? = some v → Value.okWide Try.prog W .any base t v := hval0
  have hW' := hW
  obtain ⟨p, q, hA0, hV, rfl, hfz, hnd⟩ := hW
  have hA : DataW.TrodAll enc Try.prog W 0 (fun _ => true) true Try.f6.params.toList args.toList ds p := hA0
  rw [Try.params6] at hA hval
  obtain ⟨v0, vs0, d0, ds0, p0, q0, hargs, rfl, rfl, h0, r0⟩ := trodAll_cons hA
  obtain ⟨v1, vs1, d1, ds1, p1, q1, hargs1, rfl, rfl, h1, r1⟩ := trodAll_cons r0
  obtain ⟨rfl, rfl, rfl⟩ := trodAll_nil r1
  obtain rfl : args = #[v0, v1] := by cases args; simp_all
  obtain ⟨rfl, rfl⟩ := trodVars_none hV
  obtain ⟨a0, n0, c0, xs0, rfl, i0, e0, m0⟩ := open_cats (hval 0 32 v0 rfl rfl) h0
  obtain ⟨z1, rfl, f1⟩ := open_int64 (hval 1 3 v1 rfl rfl) h1
  have k0 := h0
  have lt0 : ∀ x ∈ p0, x.block < W.heap.size := by obtain ⟨m, hm⟩ := k0; exact DataW.trod_lt m _ _ _ hm
  have k1 := h1
  have lt1 : ∀ x ∈ p1, x.block < W.heap.size := by obtain ⟨m, hm⟩ := k1; exact DataW.trod_lt m _ _ _ hm
  clear hA0 hval0
  refine (walkCatDrop a0 n0 c0 xs0 z1 W i0 e0 m0 f1).mono fun e W' ⟨he, bel⟩ => ?_
  subst he
  exact ⟨_, rfl, _, _, _, [], _, [], hW', trodAll_mk1 (shut_bool Try.underlying4 _), (trodAll_cons_mk (Below.trod laidOut (by kernel_rfl) (of_decide_eq_true (by kernel_rfl)) k0 bel lt0) (trodAll_cons_mk (Below.trod laidOut (by kernel_rfl) (of_decide_eq_true (by kernel_rfl)) k1 bel lt1) trodAll_mk0)), rfl, bel.frame _, fun h => by cases h⟩

theorem over : Rows.fnExactCatDropRow.holds Try.pinned (OpenSpec.ofChange Rows.fnExactCatDropSpec) :=
  OpenClaim.holds_of_wide 6 Try.f6 rfl rfl rfl rfl rfl rfl rfl ⟨rfl, rfl, rfl, rfl, rfl⟩ rfl rfl rfl rfl rfl (by kernel_rfl) Try.func6 (by kernel_rfl)
    (of_decide_eq_true (by kernel_rfl)) (by unfold Func.isWrapper; first | (rw [if_pos (by decide +kernel)]; kernel_rfl) | (rw [if_neg (by decide +kernel)]; exact ⟨rfl, rfl⟩))
    (fun os started H enc _ => lifted os started H enc)
end CatDrop
theorem catDrop_holds : Rows.FnExactCatDropSaid := CatDrop.over
#print axioms catDrop_holds
end Go.Proofs.Ytjceffhogoedaaa
