/-
  The law of TreeSplit: what the program answers is what the model answers, at every argument; it writes into none, and its answer owns its memory.
-/
import Derived.Test.YtfgcokcmmcpajaaDoorCallR
import Derived.Test.YtfgcokcmmcpajaaDoorISplit
namespace Go.Proofs.YtfgcokcmmcpajaaDoor
open Go.ChangeShapes Go.WideShapes Go.ChangeAt Go.RowKit
set_option linter.unusedVariables false
set_option maxRecDepth 100000

namespace LTreeSplit
set_option maxRecDepth 100000 in
set_option maxHeartbeats 4000000 in
theorem small (a : Option Addr) (n cap : Nat) (ts : List Re) (z0 x y u : Int) (w : World) (hx : IsTree w (.slice a n cap) ts) (hn : n = ts.length) (h : (n : Int) ≤ 1048576) (hse : Sent w) :
    Calls Tryd.prog 4 #[.slice a n cap, .int .i64 z0, amt x y u] w fun e w' => e = .returned (.bool true) ∧ Below w.heap.size w w' := by
  have C := fun w => szResS_any a n cap 1048576 w (by omega) (by omega) (by omega)
  rw [szOf_yes h] at C
  have hl : ¬ ((1048576 : Int) - n < 0) := by omega
  have ct := fun w' (hb : Below w.heap.size w w') => toResS_any (.slice a n cap) ts w' (hx.on hb) (by omega)
  have cS := fun p cap w' (hi : IsTree w' (.slice (some p) ts.length cap) ts) => (specSplit_any p cap ts z0 x y u w' hi (by omega)).mono fun e w'' h => h.form (by rw [splitOf_length])
  have cI := fun p cap w' (hi : IsTree w' (.slice (some p) ts.length cap) ts) (hb : Below w.heap.size w w') => (implSplit_any p cap ts z0 x y u w' hi (by omega) (hse.on hb)).mono fun e w'' h => h.form (by rw [splitOf_length])
  have hns : (splitOf ts z0 x y u).length ≤ 1048576 := by rw [splitOf_length]; omega
  generalize splitOf ts z0 x y u = ns at cS cI hns
  generalize splitK ts z0 x y u = kk at cS cI
  generalize splitOk ts z0 x y u = o at cS cI
  have ce := fun v u w' (hi : IsTree w' v ts) (hj : IsTree w' u ts) => eqResS_same v u ts w' hi hj (by omega)
  have cn := fun v u w' (hi : IsTree w' v ns) (hj : IsTree w' u ns) => eqResS_same v u ns w' hi hj hns
  have CT : Hid (∀ w', Below w.heap.size w w' → _) := ct
  have CS : Hid (∀ p cap w', IsTree w' (.slice (some p) ts.length cap) ts → _) := cS
  have CI : Hid (∀ p cap w', IsTree w' (.slice (some p) ts.length cap) ts → Below w.heap.size w w' → _) := cI
  have CE : Hid (∀ v u w', IsTree w' v ts → IsTree w' u ts → _) := ce
  have CQ : Hid (∀ v u w', IsTree w' v ns → IsTree w' u ns → _) := cn
  have CA := fun w => toAmt_any x y u w
  have HNL : Hid (ts.length ≤ 1048576 ∧ ns.length ≤ 1048576) := ⟨by omega, hns⟩
  have hb1 : (o != o) = false := by simp
  have hb2 : (kk != kk) = false := by simp
  clear ct cS cI ce cn hx hn h hns hse
  have HB0 : Hid (Below w.heap.size w (w.alloc (boxL x y u))) := below_alloc w _
  have HL0 : Hid (Box3 (w.alloc (boxL x y u)) w.heap.size 44 x y u) := ⟨heap_alloc_new w _⟩
  have HLO : Hid (w.heap.size < (w.alloc (boxL x y u)).heap.size) := by show _ < _; simp
  go_enter Tryd.func4, Tryd.ntmps4
  go_wp2_with fail
  refine (C _).mono ?_
  rintro e w0 ⟨rfl, rfl⟩
  clear C
  go_wp2_with fail
  obtain ⟨V0, hV0⟩ : ∃ v, v = w.alloc (boxL x y u) := ⟨_, rfl⟩
  rw [← hV0] at HB0 HL0 HLO ⊢
  clear hV0
  refine wp_region_whole (by kernel_rfl) (by kernel_rfl) (by kernel_rfl) (by kernel_rfl) (CallR V0 ts ns 13 1 5 [.slice a n cap, undef, .int .i64 z0, amt x y u, amt x y u] (fun s => [.tuple #[s, .int .i64 kk, .bool o], .tuple #[s, .int .i64 kk, .bool o], s, .int .i64 kk, .bool o, s, .int .i64 kk, .bool o])) (callR_start V0 ts ns 13 1 5 _ _) ?_ ?_
  · refine ⟨?_, ?_, ?_, ?_, ?_, ?_, ?_, ?_, ?_, ?_, ?_, ?_, ?_, trivial⟩
    · intro b0 us wz L hslot hoth hLi hR hcl hdo K hK
      have s0 : b0.tmps.getD 0 undef = .slice a n cap := hoth 0 (by rfl)
      clear hslot hoth hdo hcl hLi
      refine guard_none (by rfl) ?_
      go_simp
      exact hK _ _ (hR.mark (by decide) (by decide) (Below.refl _ _) rfl)
    · intro b0 us wz L hslot hoth hLi hR hcl hdo K hK
      have s27 : b0.tmps.getD 27 undef = .slice a n cap := (hslot 0 27 (by rfl)).trans (hR.vals 0 (by decide) (by decide) (done_at hdo 0 (by rfl)))
      clear hslot hoth hdo hcl hLi
      refine guard_none (by rfl) ?_
      go_simp
      refine (CT.out wz (below_more HB0.out hR.below)).mono ?_
      rintro e w' ⟨rfl, hr_, hb⟩
      exact hK _ _ (hR.copy (by decide) hb hr_.tree)
    · intro b0 us wz L hslot hoth hLi hR hcl hdo K hK
      have s1 : b0.tmps.getD 1 undef = .int .i64 z0 := hoth 1 (by rfl)
      clear hslot hoth hdo hcl hLi
      refine guard_none (by rfl) ?_
      go_simp
      exact hK _ _ (hR.mark (by decide) (by decide) (Below.refl _ _) rfl)
    · intro b0 us wz L hslot hoth hLi hR hcl hdo K hK
      have s5 : b0.tmps.getD 5 undef = .pointer (some ⟨w.heap.size, 0, none⟩) := hoth 5 (by rfl)
      have bb := box_on HL0.out hR.below
      have k0 := bb.c0
      have k1 := bb.c1
      have k2 := bb.c2
      clear bb
      clear hslot hoth hdo hcl hLi
      refine guard_none (by rfl) ?_
      go_simp
      exact hK _ _ (hR.mark (by decide) (by decide) (Below.refl _ _) rfl)
    · intro b0 us wz L hslot hoth hLi hR hcl hdo K hK
      have s30 : b0.tmps.getD 30 undef = amt x y u := (hslot 3 30 (by rfl)).trans (hR.vals 3 (by decide) (by decide) (done_at hdo 3 (by rfl)))
      clear hslot hoth hdo hcl hLi
      refine guard_none (by rfl) ?_
      go_simp
      refine (CA wz).mono ?_
      rintro e w' ⟨rfl, hb⟩
      exact hK _ _ (hR.mark (by decide) (by decide) hb rfl)
    · intro b0 us wz L hslot hoth hLi hR hcl hdo K hK
      obtain ⟨gt, hut, htt⟩ := hR.tree (done_at hdo 1 (by rfl))
      have s28 : b0.tmps.getD 28 undef = .slice (some ⟨gt, 0, none⟩) ts.length ts.length := (hslot 1 28 (by rfl)).trans hut
      have s29 : b0.tmps.getD 29 undef = .int .i64 z0 := (hslot 2 29 (by rfl)).trans (hR.vals 2 (by decide) (by decide) (done_at hdo 2 (by rfl)))
      have s31 : b0.tmps.getD 31 undef = amt x y u := (hslot 4 31 (by rfl)).trans (hR.vals 4 (by decide) (by decide) (done_at hdo 4 (by rfl)))
      have n6 : L 6 = false := by
        cases h : L 6 with
        | false => rfl
        | true => rw [done_at (hcl 6 _ rfl h) 5 (by rfl)] at hLi; cases hLi
      have n7 : L 7 = false := by
        cases h : L 7 with
        | false => rfl
        | true => rw [done_at (hcl 7 _ rfl h) 6 (by rfl)] at n6; cases n6
      have n8 : L 8 = false := by
        cases h : L 8 with
        | false => rfl
        | true => rw [done_at (hcl 8 _ rfl h) 6 (by rfl)] at n6; cases n6
      have n9 : L 9 = false := by
        cases h : L 9 with
        | false => rfl
        | true => rw [done_at (hcl 9 _ rfl h) 6 (by rfl)] at n6; cases n6
      have n10 : L 10 = false := by
        cases h : L 10 with
        | false => rfl
        | true => rw [done_at (hcl 10 _ rfl h) 7 (by rfl)] at n7; cases n7
      have n11 : L 11 = false := by
        cases h : L 11 with
        | false => rfl
        | true => rw [done_at (hcl 11 _ rfl h) 8 (by rfl)] at n8; cases n8
      have n12 : L 12 = false := by
        cases h : L 12 with
        | false => rfl
        | true => rw [done_at (hcl 12 _ rfl h) 9 (by rfl)] at n9; cases n9
      have hL0 : ∀ j, 5 < j → j < 13 → L j = false := fun j hj hj2 => by
        have hc : j = 6 ∨ j = 7 ∨ j = 8 ∨ j = 9 ∨ j = 10 ∨ j = 11 ∨ j = 12 := by omega
        rcases hc with rfl | rfl | rfl | rfl | rfl | rfl | rfl
        · exact n6
        · exact n7
        · exact n8
        · exact n9
        · exact n10
        · exact n11
        · exact n12
      clear hslot hoth hdo hcl hLi
      refine guard_none (by rfl) ?_
      go_simp
      refine (CS.out _ _ _ htt).mono ?_
      rintro e w' ⟨gq, cq, rq, rfl, hoq, hb⟩
      exact hK _ _ (hR.call (by decide) hL0 hb hoq rfl)
    · intro b0 us wz L hslot hoth hLi hR hcl hdo K hK
      obtain ⟨gq, cq, rq, hoq, huq⟩ := hR.ans 5 (by decide) (done_at hdo 5 (by rfl))
      have s32 : b0.tmps.getD 32 undef = .tuple #[(.slice (some ⟨gq, 0, none⟩) ns.length cq), .int .i64 kk, .bool o] := (hslot 5 32 (by rfl)).trans (huq 5 (by decide) (by decide) (done_at hdo 5 (by rfl)))
      clear hslot hoth hdo hcl hLi
      refine guard_none (by rfl) ?_
      go_simp
      exact hK _ _ (hR.after (by decide) (by decide) hoq huq rfl)
    · intro b0 us wz L hslot hoth hLi hR hcl hdo K hK
      obtain ⟨gq, cq, rq, hoq, huq⟩ := hR.ans 6 (by decide) (done_at hdo 6 (by rfl))
      have s26 : b0.tmps.getD 26 undef = .tuple #[(.slice (some ⟨gq, 0, none⟩) ns.length cq), .int .i64 kk, .bool o] := (hslot 6 26 (by rfl)).trans (huq 6 (by decide) (by decide) (done_at hdo 6 (by rfl)))
      clear hslot hoth hdo hcl hLi
      refine guard_none (by rfl) ?_
      go_simp
      exact hK _ _ (hR.after (by decide) (by decide) hoq huq rfl)
    · intro b0 us wz L hslot hoth hLi hR hcl hdo K hK
      obtain ⟨gq, cq, rq, hoq, huq⟩ := hR.ans 6 (by decide) (done_at hdo 6 (by rfl))
      have s26 : b0.tmps.getD 26 undef = .tuple #[(.slice (some ⟨gq, 0, none⟩) ns.length cq), .int .i64 kk, .bool o] := (hslot 6 26 (by rfl)).trans (huq 6 (by decide) (by decide) (done_at hdo 6 (by rfl)))
      clear hslot hoth hdo hcl hLi
      refine guard_none (by rfl) ?_
      go_simp
      exact hK _ _ (hR.after (by decide) (by decide) hoq huq rfl)
    · intro b0 us wz L hslot hoth hLi hR hcl hdo K hK
      obtain ⟨gq, cq, rq, hoq, huq⟩ := hR.ans 6 (by decide) (done_at hdo 6 (by rfl))
      have s26 : b0.tmps.getD 26 undef = .tuple #[(.slice (some ⟨gq, 0, none⟩) ns.length cq), .int .i64 kk, .bool o] := (hslot 6 26 (by rfl)).trans (huq 6 (by decide) (by decide) (done_at hdo 6 (by rfl)))
      clear hslot hoth hdo hcl hLi
      refine guard_none (by rfl) ?_
      go_simp
      exact hK _ _ (hR.after (by decide) (by decide) hoq huq rfl)
    · intro b0 us wz L hslot hoth hLi hR hcl hdo K hK
      obtain ⟨gq, cq, rq, hoq, huq⟩ := hR.ans 7 (by decide) (done_at hdo 7 (by rfl))
      have s33 : b0.tmps.getD 33 undef = (.slice (some ⟨gq, 0, none⟩) ns.length cq) := (hslot 7 33 (by rfl)).trans (huq 7 (by decide) (by decide) (done_at hdo 7 (by rfl)))
      clear hslot hoth hdo hcl hLi
      refine guard_none (by rfl) ?_
      go_simp
      exact hK _ _ (hR.after (by decide) (by decide) hoq huq rfl)
    · intro b0 us wz L hslot hoth hLi hR hcl hdo K hK
      obtain ⟨gq, cq, rq, hoq, huq⟩ := hR.ans 8 (by decide) (done_at hdo 8 (by rfl))
      have s34 : b0.tmps.getD 34 undef = .int .i64 kk := (hslot 8 34 (by rfl)).trans (huq 8 (by decide) (by decide) (done_at hdo 8 (by rfl)))
      clear hslot hoth hdo hcl hLi
      refine guard_none (by rfl) ?_
      go_simp
      exact hK _ _ (hR.after (by decide) (by decide) hoq huq rfl)
    · intro b0 us wz L hslot hoth hLi hR hcl hdo K hK
      obtain ⟨gq, cq, rq, hoq, huq⟩ := hR.ans 9 (by decide) (done_at hdo 9 (by rfl))
      have s35 : b0.tmps.getD 35 undef = .bool o := (hslot 9 35 (by rfl)).trans (huq 9 (by decide) (by decide) (done_at hdo 9 (by rfl)))
      clear hslot hoth hdo hcl hLi
      refine guard_none (by rfl) ?_
      go_simp
      exact hK _ _ (hR.after (by decide) (by decide) hoq huq rfl)
  · intro us w2 L hall hR a' ha'
    have g0 : us 0 = .slice a n cap := hR.vals 0 (by decide) (by decide) (hall 0 (by decide))
    have g2 : us 2 = .int .i64 z0 := hR.vals 2 (by decide) (by decide) (hall 2 (by decide))
    have g3 : us 3 = amt x y u := hR.vals 3 (by decide) (by decide) (hall 3 (by decide))
    have g4 : us 4 = amt x y u := hR.vals 4 (by decide) (by decide) (hall 4 (by decide))
    obtain ⟨gt, g1, htt⟩ := hR.tree (hall 1 (by decide))
    obtain ⟨gS, cS, rS, hoq, huq⟩ := hR.ans 5 (by decide) (hall 5 (by decide))
    have g5 : us 5 = .tuple #[(.slice (some ⟨gS, 0, none⟩) ns.length cS), .int .i64 kk, .bool o] := huq 5 (by decide) (by decide) (hall 5 (by decide))
    have g6 : us 6 = .tuple #[(.slice (some ⟨gS, 0, none⟩) ns.length cS), .int .i64 kk, .bool o] := huq 6 (by decide) (by decide) (hall 6 (by decide))
    have g7 : us 7 = (.slice (some ⟨gS, 0, none⟩) ns.length cS) := huq 7 (by decide) (by decide) (hall 7 (by decide))
    have g8 : us 8 = .int .i64 kk := huq 8 (by decide) (by decide) (hall 8 (by decide))
    have g9 : us 9 = .bool o := huq 9 (by decide) (by decide) (hall 9 (by decide))
    have g10 : us 10 = (.slice (some ⟨gS, 0, none⟩) ns.length cS) := huq 10 (by decide) (by decide) (hall 10 (by decide))
    have g11 : us 11 = .int .i64 kk := huq 11 (by decide) (by decide) (hall 11 (by decide))
    have g12 : us 12 = .bool o := huq 12 (by decide) (by decide) (hall 12 (by decide))
    have hbW := hR.below
    clear htt huq hR hall
    simp only [putAll, g0, g1, g2, g3, g4, g5, g6, g7, g8, g9, g10, g11, g12] at ha'
    subst ha'
    go_frame
    have HN2 : Hid (NN true w V0.heap.size gS cS ns rS w2.heap.size x y u w2) := ⟨hoq, fun _ => box_on HL0.out hbW, below_more HB0.out hbW, HB0.out.size, fun _ => HLO.out⟩
    clear hoq hbW HB0 HL0 CS
    go_wp2_with fail
    refine (CT.out _ HN2.out.below).mono ?_
    rintro e w3 ⟨rfl, hr, hb⟩
    have HN3 := hid_of (HN2.out.on hb)
    have HX3 : Hid (OwnT w2.heap.size ts.length ts [] w2.heap.size w3.heap.size w3) := hr.own (Nat.le_refl _) (lt_of_block hr)
    clear hr hb HN2
    have k0 := (HN3.out.l rfl).c0
    have k1 := (HN3.out.l rfl).c1
    have k2 := (HN3.out.l rfl).c2
    go_wp2_with fail
    refine (CA _).mono ?_
    rintro e w3a ⟨rfl, hb⟩
    have HN3a := hid_of (HN3.out.on hb)
    have HX3a := hid_of (HX3.out.on hb)
    have HSZ : Hid (w3.heap.size ≤ w3a.heap.size) := hb.size
    clear hb HN3 HX3 k0 k1 k2
    go_wp2_with fail
    refine (CI.out _ _ _ HX3a.out.tree HN3a.out.below).mono ?_
    rintro e w4 ⟨gR, cR, rR, rfl, hR, hb⟩
    have HR4 : Hid (OwnT gR cR ns rR w3.heap.size w4.heap.size w4) := hR.lower HSZ.out
    have HN4 := hid_of (HN3a.out.on hb)
    have HX4 := hid_of (HX3a.out.on hb)
    clear hR hb HN3a HX3a
    go_wp2_with fail
    refine (CQ.out _ _ _ HR4.out.tree HN4.out.s.tree).mono ?_
    rintro e w5 ⟨rfl, hb⟩
    have HR5 := hid_of (HR4.out.on hb)
    have HN5 := hid_of (HN4.out.on hb)
    have HX5 := hid_of (HX4.out.on hb)
    clear hb HR4 HN4 HX4
    go_wp2_with fail
    refine (CT.out _ HN5.out.below).mono ?_
    rintro e w6 ⟨rfl, hr, hb⟩
    have HI6 := hid_of hr.tree
    clear hr
    have HR6 := hid_of (HR5.out.on hb)
    have HN6 := hid_of (HN5.out.on hb)
    have HX6 := hid_of (HX5.out.on hb)
    clear hb HR5 HN5 HX5
    go_wp2_with fail
    refine (CE.out _ _ _ HX6.out.tree HI6.out).mono ?_
    rintro e w7 ⟨rfl, hb⟩
    have HR7 := hid_of (HR6.out.on hb)
    have HN7 := hid_of (HN6.out.on hb)
    have HX7 := hid_of (HX6.out.on hb)
    clear hb HR6 HN6 HX6
    clear HI6 CE
    go_wp2_with fail
    refine (markT_own _ _ _ _ _ _ 1 _ HX7.out HNL.out.1 (by omega) (by omega)).mono ?_
    rintro e w8 ⟨rfl, hx8, hg8⟩
    have HR8 : Hid (OwnT gR cR ns rR w3.heap.size w4.heap.size w8) := HR7.out.by' hg8 fun k e => by cases e; left; exact HX7.out.hi
    have HN8 := hid_of (HN7.out.behind hg8 (Nat.le_refl _))
    have hp1 : ¬ ((1 : Int) + 5 * (ts.length : Int) < 0) := by omega
    have HX87 : Hid (w2.heap.size < w3.heap.size) := HX7.out.hi
    clear hx8 hg8 HR7 HN7 HX7
    go_wp2_with fail
    refine (CQ.out _ _ _ HR8.out.tree HN8.out.s.tree).mono ?_
    rintro e w9 ⟨rfl, hb⟩
    have HR9 := hid_of (HR8.out.on hb)
    have HN9 := hid_of (HN8.out.on hb)
    clear hb HR8 HN8
    go_wp2_with fail
    refine (markT_own _ _ _ _ _ _ 1 _ HR9.out HNL.out.2 (by omega) (by omega)).mono ?_
    rintro e wA ⟨rfl, hxA, hgA⟩
    have HRA : Hid (OwnT gR cR (upTree 1 ns.length) rR w3.heap.size w4.heap.size wA) := hxA
    have HNA := hid_of (HN9.out.behind hgA (by have := HR9.out.lo; have := HX87.out; omega))
    have hp2 : ¬ ((1 : Int) + 5 * (ns.length : Int) < 0) := by omega
    have hne9 : (((1 : Int) + 5 * (ns.length : Int)) != (1 + 5 * (ns.length : Int))) = false := by simp
    have CH : Hid (∀ w', IsTree w' (.slice (some ⟨gR, 0, none⟩) ns.length cR) (upTree 1 ns.length) → _) := fun w' h => heldT_up (.slice (some ⟨gR, 0, none⟩) ns.length cR) ns.length 1 w' h HNL.out.2 (by omega) (by omega)
    clear hxA hgA HR9 HN9
    go_wp2_with fail
    refine (CH.out _ (heldOwn HRA.out)).mono ?_
    rintro e wB ⟨rfl, hwB⟩
    subst hwB
    go_wp2_with fail
    refine wp_region_whole (by kernel_rfl) (by kernel_rfl) (by kernel_rfl) (by kernel_rfl) (CallR wB ts ns 13 1 5 [.slice a n cap, undef, .int .i64 z0, amt x y u, amt x y u] (fun s => [.tuple #[s, .int .i64 kk, .bool o], .tuple #[s, .int .i64 kk, .bool o], s, .int .i64 kk, .bool o, s, .int .i64 kk, .bool o])) (callR_start wB ts ns 13 1 5 _ _) ?_ ?_
    · refine ⟨?_, ?_, ?_, ?_, ?_, ?_, ?_, ?_, ?_, ?_, ?_, ?_, ?_, trivial⟩
      · intro b0 us wz L hslot hoth hLi hR hcl hdo K hK
        have s0 : b0.tmps.getD 0 undef = .slice a n cap := hoth 0 (by rfl)
        clear hslot hoth hdo hcl hLi
        refine guard_none (by rfl) ?_
        go_simp
        exact hK _ _ (hR.mark (by decide) (by decide) (Below.refl _ _) rfl)
      · intro b0 us wz L hslot hoth hLi hR hcl hdo K hK
        have s99 : b0.tmps.getD 99 undef = .slice a n cap := (hslot 0 99 (by rfl)).trans (hR.vals 0 (by decide) (by decide) (done_at hdo 0 (by rfl)))
        clear hslot hoth hdo hcl hLi
        refine guard_none (by rfl) ?_
        go_simp
        refine (CT.out wz (below_more HNA.out.below hR.below)).mono ?_
        rintro e w' ⟨rfl, hr_, hb⟩
        exact hK _ _ (hR.copy (by decide) hb hr_.tree)
      · intro b0 us wz L hslot hoth hLi hR hcl hdo K hK
        have s1 : b0.tmps.getD 1 undef = .int .i64 z0 := hoth 1 (by rfl)
        clear hslot hoth hdo hcl hLi
        refine guard_none (by rfl) ?_
        go_simp
        exact hK _ _ (hR.mark (by decide) (by decide) (Below.refl _ _) rfl)
      · intro b0 us wz L hslot hoth hLi hR hcl hdo K hK
        have s5 : b0.tmps.getD 5 undef = .pointer (some ⟨w.heap.size, 0, none⟩) := hoth 5 (by rfl)
        have bb := box_on (HNA.out.l rfl) hR.below
        have k0 := bb.c0
        have k1 := bb.c1
        have k2 := bb.c2
        clear bb
        clear hslot hoth hdo hcl hLi
        refine guard_none (by rfl) ?_
        go_simp
        exact hK _ _ (hR.mark (by decide) (by decide) (Below.refl _ _) rfl)
      · intro b0 us wz L hslot hoth hLi hR hcl hdo K hK
        have s102 : b0.tmps.getD 102 undef = amt x y u := (hslot 3 102 (by rfl)).trans (hR.vals 3 (by decide) (by decide) (done_at hdo 3 (by rfl)))
        clear hslot hoth hdo hcl hLi
        refine guard_none (by rfl) ?_
        go_simp
        refine (CA wz).mono ?_
        rintro e w' ⟨rfl, hb⟩
        exact hK _ _ (hR.mark (by decide) (by decide) hb rfl)
      · intro b0 us wz L hslot hoth hLi hR hcl hdo K hK
        obtain ⟨gt, hut, htt⟩ := hR.tree (done_at hdo 1 (by rfl))
        have s100 : b0.tmps.getD 100 undef = .slice (some ⟨gt, 0, none⟩) ts.length ts.length := (hslot 1 100 (by rfl)).trans hut
        have s101 : b0.tmps.getD 101 undef = .int .i64 z0 := (hslot 2 101 (by rfl)).trans (hR.vals 2 (by decide) (by decide) (done_at hdo 2 (by rfl)))
        have s103 : b0.tmps.getD 103 undef = amt x y u := (hslot 4 103 (by rfl)).trans (hR.vals 4 (by decide) (by decide) (done_at hdo 4 (by rfl)))
        have n6 : L 6 = false := by
          cases h : L 6 with
          | false => rfl
          | true => rw [done_at (hcl 6 _ rfl h) 5 (by rfl)] at hLi; cases hLi
        have n7 : L 7 = false := by
          cases h : L 7 with
          | false => rfl
          | true => rw [done_at (hcl 7 _ rfl h) 6 (by rfl)] at n6; cases n6
        have n8 : L 8 = false := by
          cases h : L 8 with
          | false => rfl
          | true => rw [done_at (hcl 8 _ rfl h) 6 (by rfl)] at n6; cases n6
        have n9 : L 9 = false := by
          cases h : L 9 with
          | false => rfl
          | true => rw [done_at (hcl 9 _ rfl h) 6 (by rfl)] at n6; cases n6
        have n10 : L 10 = false := by
          cases h : L 10 with
          | false => rfl
          | true => rw [done_at (hcl 10 _ rfl h) 7 (by rfl)] at n7; cases n7
        have n11 : L 11 = false := by
          cases h : L 11 with
          | false => rfl
          | true => rw [done_at (hcl 11 _ rfl h) 8 (by rfl)] at n8; cases n8
        have n12 : L 12 = false := by
          cases h : L 12 with
          | false => rfl
          | true => rw [done_at (hcl 12 _ rfl h) 9 (by rfl)] at n9; cases n9
        have hL0 : ∀ j, 5 < j → j < 13 → L j = false := fun j hj hj2 => by
          have hc : j = 6 ∨ j = 7 ∨ j = 8 ∨ j = 9 ∨ j = 10 ∨ j = 11 ∨ j = 12 := by omega
          rcases hc with rfl | rfl | rfl | rfl | rfl | rfl | rfl
          · exact n6
          · exact n7
          · exact n8
          · exact n9
          · exact n10
          · exact n11
          · exact n12
        clear hslot hoth hdo hcl hLi
        refine guard_none (by rfl) ?_
        go_simp
        refine (CI.out _ _ _ htt (below_more HNA.out.below hR.below)).mono ?_
        rintro e w' ⟨gq, cq, rq, rfl, hoq, hb⟩
        exact hK _ _ (hR.call (by decide) hL0 hb hoq rfl)
      · intro b0 us wz L hslot hoth hLi hR hcl hdo K hK
        obtain ⟨gq, cq, rq, hoq, huq⟩ := hR.ans 5 (by decide) (done_at hdo 5 (by rfl))
        have s104 : b0.tmps.getD 104 undef = .tuple #[(.slice (some ⟨gq, 0, none⟩) ns.length cq), .int .i64 kk, .bool o] := (hslot 5 104 (by rfl)).trans (huq 5 (by decide) (by decide) (done_at hdo 5 (by rfl)))
        clear hslot hoth hdo hcl hLi
        refine guard_none (by rfl) ?_
        go_simp
        exact hK _ _ (hR.after (by decide) (by decide) hoq huq rfl)
      · intro b0 us wz L hslot hoth hLi hR hcl hdo K hK
        obtain ⟨gq, cq, rq, hoq, huq⟩ := hR.ans 6 (by decide) (done_at hdo 6 (by rfl))
        have s98 : b0.tmps.getD 98 undef = .tuple #[(.slice (some ⟨gq, 0, none⟩) ns.length cq), .int .i64 kk, .bool o] := (hslot 6 98 (by rfl)).trans (huq 6 (by decide) (by decide) (done_at hdo 6 (by rfl)))
        clear hslot hoth hdo hcl hLi
        refine guard_none (by rfl) ?_
        go_simp
        exact hK _ _ (hR.after (by decide) (by decide) hoq huq rfl)
      · intro b0 us wz L hslot hoth hLi hR hcl hdo K hK
        obtain ⟨gq, cq, rq, hoq, huq⟩ := hR.ans 6 (by decide) (done_at hdo 6 (by rfl))
        have s98 : b0.tmps.getD 98 undef = .tuple #[(.slice (some ⟨gq, 0, none⟩) ns.length cq), .int .i64 kk, .bool o] := (hslot 6 98 (by rfl)).trans (huq 6 (by decide) (by decide) (done_at hdo 6 (by rfl)))
        clear hslot hoth hdo hcl hLi
        refine guard_none (by rfl) ?_
        go_simp
        exact hK _ _ (hR.after (by decide) (by decide) hoq huq rfl)
      · intro b0 us wz L hslot hoth hLi hR hcl hdo K hK
        obtain ⟨gq, cq, rq, hoq, huq⟩ := hR.ans 6 (by decide) (done_at hdo 6 (by rfl))
        have s98 : b0.tmps.getD 98 undef = .tuple #[(.slice (some ⟨gq, 0, none⟩) ns.length cq), .int .i64 kk, .bool o] := (hslot 6 98 (by rfl)).trans (huq 6 (by decide) (by decide) (done_at hdo 6 (by rfl)))
        clear hslot hoth hdo hcl hLi
        refine guard_none (by rfl) ?_
        go_simp
        exact hK _ _ (hR.after (by decide) (by decide) hoq huq rfl)
      · intro b0 us wz L hslot hoth hLi hR hcl hdo K hK
        obtain ⟨gq, cq, rq, hoq, huq⟩ := hR.ans 7 (by decide) (done_at hdo 7 (by rfl))
        have s105 : b0.tmps.getD 105 undef = (.slice (some ⟨gq, 0, none⟩) ns.length cq) := (hslot 7 105 (by rfl)).trans (huq 7 (by decide) (by decide) (done_at hdo 7 (by rfl)))
        clear hslot hoth hdo hcl hLi
        refine guard_none (by rfl) ?_
        go_simp
        exact hK _ _ (hR.after (by decide) (by decide) hoq huq rfl)
      · intro b0 us wz L hslot hoth hLi hR hcl hdo K hK
        obtain ⟨gq, cq, rq, hoq, huq⟩ := hR.ans 8 (by decide) (done_at hdo 8 (by rfl))
        have s106 : b0.tmps.getD 106 undef = .int .i64 kk := (hslot 8 106 (by rfl)).trans (huq 8 (by decide) (by decide) (done_at hdo 8 (by rfl)))
        clear hslot hoth hdo hcl hLi
        refine guard_none (by rfl) ?_
        go_simp
        exact hK _ _ (hR.after (by decide) (by decide) hoq huq rfl)
      · intro b0 us wz L hslot hoth hLi hR hcl hdo K hK
        obtain ⟨gq, cq, rq, hoq, huq⟩ := hR.ans 9 (by decide) (done_at hdo 9 (by rfl))
        have s107 : b0.tmps.getD 107 undef = .bool o := (hslot 9 107 (by rfl)).trans (huq 9 (by decide) (by decide) (done_at hdo 9 (by rfl)))
        clear hslot hoth hdo hcl hLi
        refine guard_none (by rfl) ?_
        go_simp
        exact hK _ _ (hR.after (by decide) (by decide) hoq huq rfl)
    · intro us wD L hall hR a' ha'
      have g0 : us 0 = .slice a n cap := hR.vals 0 (by decide) (by decide) (hall 0 (by decide))
      have g2 : us 2 = .int .i64 z0 := hR.vals 2 (by decide) (by decide) (hall 2 (by decide))
      have g3 : us 3 = amt x y u := hR.vals 3 (by decide) (by decide) (hall 3 (by decide))
      have g4 : us 4 = amt x y u := hR.vals 4 (by decide) (by decide) (hall 4 (by decide))
      obtain ⟨gt, g1, htt⟩ := hR.tree (hall 1 (by decide))
      obtain ⟨gH, cH, rH, hoq, huq⟩ := hR.ans 5 (by decide) (hall 5 (by decide))
      have g5 : us 5 = .tuple #[(.slice (some ⟨gH, 0, none⟩) ns.length cH), .int .i64 kk, .bool o] := huq 5 (by decide) (by decide) (hall 5 (by decide))
      have g6 : us 6 = .tuple #[(.slice (some ⟨gH, 0, none⟩) ns.length cH), .int .i64 kk, .bool o] := huq 6 (by decide) (by decide) (hall 6 (by decide))
      have g7 : us 7 = (.slice (some ⟨gH, 0, none⟩) ns.length cH) := huq 7 (by decide) (by decide) (hall 7 (by decide))
      have g8 : us 8 = .int .i64 kk := huq 8 (by decide) (by decide) (hall 8 (by decide))
      have g9 : us 9 = .bool o := huq 9 (by decide) (by decide) (hall 9 (by decide))
      have g10 : us 10 = (.slice (some ⟨gH, 0, none⟩) ns.length cH) := huq 10 (by decide) (by decide) (hall 10 (by decide))
      have g11 : us 11 = .int .i64 kk := huq 11 (by decide) (by decide) (hall 11 (by decide))
      have g12 : us 12 = .bool o := huq 12 (by decide) (by decide) (hall 12 (by decide))
      have hbW := hR.below
      clear htt huq hR hall
      simp only [putAll, g0, g1, g2, g3, g4, g5, g6, g7, g8, g9, g10, g11, g12] at ha'
      subst ha'
      go_frame
      have HRD := hid_of (HRA.out.on hbW)
      have HND := hid_of (HNA.out.on hbW)
      have HHD := hid_of hoq.tree
      clear hoq hbW HRA HNA
      go_wp2_with fail
      refine (CQ.out _ _ _ HHD.out HND.out.s.tree).mono ?_
      rintro e wE ⟨rfl, hb⟩
      have HRE := hid_of (HRD.out.on hb)
      have HNE := hid_of (HND.out.on hb)
      clear hb HRD HND HHD
      go_wp2_with fail
      refine (CH.out _ (heldOwn HRE.out)).mono ?_
      rintro e wF ⟨rfl, hwF⟩
      subst hwF
      go_wp2
      go_ret
      exact ⟨rfl, HNE.out.below⟩
theorem big (a : Option Addr) (n cap : Nat) (z0 x y u : Int) (w : World) (hm : n ≤ 9223372036854775807) (h : ¬ (n : Int) ≤ 1048576) :
    Calls Tryd.prog 4 #[.slice a n cap, .int .i64 z0, amt x y u] w fun e w' => e = .returned (.bool true) ∧ Below w.heap.size w w' := by
  have C := fun w => szResS_any a n cap 1048576 w (by omega) (by omega) hm
  rw [szOf_no h] at C
  go_enter Tryd.func4, Tryd.ntmps4
  go_wp2_with fail
  refine (C _).mono ?_
  rintro e w0 ⟨rfl, rfl⟩
  clear C
  go_wp2
  go_ret
  exact ⟨rfl, by go_grown⟩
end LTreeSplit
theorem walkTreeSplit (a : Option Addr) (n cap : Nat) (ts : List Re) (z0 x y u : Int) (w : World) (hx : IsTree w (.slice a n cap) ts) (hn : n = ts.length) (hm : n ≤ maxLen) (hse : Sent w) :
    Calls Tryd.prog 4 #[.slice a n cap, .int .i64 z0, amt x y u] w fun e w' => e = .returned (.bool true) ∧ Below w.heap.size w w' := by
  unfold maxLen at hm
  by_cases h : (n : Int) ≤ 1048576
  · exact LTreeSplit.small a n cap ts z0 x y u w hx hn h hse
  · exact LTreeSplit.big a n cap z0 x y u w (by omega) h
end Go.Proofs.YtfgcokcmmcpajaaDoor
