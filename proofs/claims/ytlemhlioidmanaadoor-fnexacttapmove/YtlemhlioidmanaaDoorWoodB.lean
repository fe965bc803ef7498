/-
  Lists of trees: their size, two alike, marks. Marks on lists of trees of the call's own.
-/
import Derived.Test.YtlemhlioidmanaaDoorWoodA
namespace Go.Proofs.YtlemhlioidmanaaDoor
open Go.RowKit
set_option linter.unusedVariables false
set_option maxRecDepth 100000

theorem IsTrees.at {w : World} {a : Option Addr} {n cap : Nat} {tss : List (List Re)} (h : IsTrees w (.slice a n cap) tss) {i : Nat} (hi : i < tss.length) : ∃ p q u, a = some p ∧ p.add i = q ∧ w.cell? q = some u ∧ IsTree w u (treeAt tss i) := by
  obtain ⟨a', cap', hv, _, hx⟩ := h
  cases hv
  obtain ⟨p, u, hp, h1, h2⟩ := hx i hi
  exact ⟨p, _, u, hp, rfl, h1, h2⟩
/-- What is left of the room behind all of them. -/
def szA (tss : List (List Re)) : Int := if ((tss.length : Int) + woodN tss) ≤ 1048576 then 1048576 - tss.length - woodN tss else -1
theorem szA_yes {tss : List (List Re)} (h : ((tss.length : Int) + woodN tss) ≤ 1048576) : szA tss = 1048576 - tss.length - woodN tss := if_pos h
theorem szA_no {tss : List (List Re)} (h : ¬ ((tss.length : Int) + woodN tss) ≤ 1048576) : szA tss = -1 := if_neg h
set_option maxHeartbeats 1000000 in
theorem szTreeS_any (v : Value) (tss : List (List Re)) (w : World) (hx : IsTrees w v tss) (hl : tss.length ≤ 9223372036854775807) (hm : ∀ i, (treeAt tss i).length ≤ 9223372036854775807) :
    Calls Tryd.prog 4 #[v, .int .i64 1048576] w fun e w' => e = .returned (.int .i64 (szA tss)) ∧ Below w.heap.size w w' := by
  have hx0 := hx
  obtain ⟨a, cap, rfl, hcap, _⟩ := hx
  by_cases h1 : (tss.length : Int) ≤ 1048576
  · have HX : Hid (∀ wr, Below w.heap.size w wr → IsTrees wr (.slice a tss.length cap) tss) := fun wr hb => hx0.on hb
    have HM : Hid (∀ i, (treeAt tss i).length ≤ 9223372036854775807) := hm
    have hw : wrap64 (1048576 - (tss.length : Int)) = 1048576 - tss.length := by unfold wrap64; omega
    have hn0 : ¬ (1048576 - (tss.length : Int) < 0) := by omega
    clear hx0 hm
    go_enter Tryd.func4, Tryd.ntmps4
    go_wp2
    go_loopw [1, 5] (fun q i wr => ∃ (k : Nat) (left : Int), k ≤ tss.length ∧ i = .int .i64 k ∧ q = .int .i64 left ∧ Hid (left = 1048576 - tss.length - woodN (tss.take k)) ∧ 0 ≤ left ∧ left ≤ 1048576 ∧ Below w.heap.size w wr) (fun _ i _ => tss.length - (intOf i).toNat)
    case atStart => exact ⟨0, _, Nat.zero_le _, rfl, rfl, by show _ = _; simp [woodN], by omega, by omega, Below.refl _ _⟩
    case round =>
      obtain ⟨k, left, hk, rfl, rfl, hleft, h0, h2, hnx⟩ := hrel
      clear hw hn0
      by_cases hlt : k < tss.length
      · obtain ⟨p, q, u, rfl, hq, hc, hu⟩ := (HX.out wr hnx).at hlt
        have C := szTree_any u (treeAt tss k) left wr hu h0 h2 (HM.out k)
        have HT : Hid ((woodN (tss.take (k + 1)) : Int) = woodN (tss.take k) + (treeAt tss k).length) := by have := woodN_take hlt; show _ = _; omega
        by_cases hfit : ((treeAt tss k).length : Int) ≤ left
        · rw [szOf_yes hfit] at C
          have HL : Hid (left - ((treeAt tss k).length : Int) = 1048576 - tss.length - woodN (tss.take (k + 1))) := by have e1 := HT.out; have e2 := hleft.out; show _ = _; omega
          generalize (treeAt tss k).length = m at C hfit HL HT
          have hnn : ¬ (left - (m : Int) < 0) := by omega
          go_wp2_with fail
          refine C.mono ?_
          rintro e w1 ⟨rfl, hb⟩
          have HN1 := hid_of (hnx.trans (hb.mono hnx.size))
          clear C hb hnx hq hc HT hleft
          go_wp2
          go_roundw
          case rel => exact ⟨k + 1, _, by omega, by go_num, rfl, HL.out, by omega, by omega, HN1.out⟩
          case measure => simp [intOf]; omega
        · rw [szOf_no hfit] at C
          have HS : Hid (szA tss = -1) := by
            show szA tss = -1
            refine szA_no ?_
            have e1 := HT.out
            have e2 := hleft.out
            have e3 := woodN_take_le tss (k + 1)
            omega
          go_wp2_with fail
          refine C.mono ?_
          rintro e w1 ⟨rfl, hb⟩
          have HN1 := hid_of (hnx.trans (hb.mono hnx.size))
          clear C hb hnx hq hc HT hleft
          go_wp2
          go_ret
          exact ⟨by rw [HS.out]; rfl, HN1.out⟩
      · obtain rfl : k = tss.length := by omega
        have HS : Hid (left = szA tss) := by
          have e := hleft.out
          rw [List.take_length] at e
          show left = szA tss
          rw [szA_yes (by omega)]
          exact e
        clear hleft
        go_wp2
        go_ret
        exact ⟨by rw [HS.out]; rfl, hnx⟩
  · have hw : wrap64 (1048576 - (tss.length : Int)) = 1048576 - tss.length := by unfold wrap64; omega
    rw [szA_no (by omega)]
    clear hx0 hm
    go_enter Tryd.func4, Tryd.ntmps4
    go_wp2
    go_ret
    exact ⟨rfl, Below.refl _ _⟩
set_option maxHeartbeats 1000000 in
theorem eqTree_same (u u' : Value) (ts : List Re) (w : World) (hx : IsTree w u ts) (hy : IsTree w u' ts) (hn : ts.length ≤ 1048576) :
    Calls Tryd.prog 29 #[.agg #[u], .agg #[u']] w fun e w' => e = .returned (.bool true) ∧ Below w.heap.size w w' := by
  have CT := fun w' (hb : Below w.heap.size w w') => eqResS_same u u' ts w' (hx.on hb) (hy.on hb) hn
  have HC : Hid (∀ w', Below w.heap.size w w' → _) := CT
  clear CT
  obtain ⟨a, cap, rfl, _, _⟩ := hx
  obtain ⟨a', cap', rfl, _, _⟩ := hy
  have hb0 : Below w.heap.size w ((w.alloc (.cells #[.slice a ts.length cap] 46 (0, 0))).alloc (.cells #[.slice a' ts.length cap'] 46 (0, 0))) := by go_grown
  have HB0 : Hid (Below w.heap.size w _) := hb0
  clear hb0
  go_enter Tryd.func29, Tryd.ntmps29
  go_wp2_with fail
  refine (HC.out _ HB0.out).mono ?_
  rintro e w1 ⟨rfl, hb⟩
  have HB1 := hid_of (below_more HB0.out hb)
  clear HC HB0 hb
  go_wp2
  go_ret
  exact ⟨rfl, HB1.out⟩
set_option maxHeartbeats 2000000 in
theorem eqTreeS_same (v u : Value) (tss : List (List Re)) (w : World) (hx : IsTrees w v tss) (hy : IsTrees w u tss) (hn : tss.length ≤ 1048576) (ht : ∀ i, (treeAt tss i).length ≤ 1048576) :
    Calls Tryd.prog 9 #[v, u] w fun e w' => e = .returned (.bool true) ∧ Below w.heap.size w w' := by
  have hx0 := hx
  have hy0 := hy
  obtain ⟨a, cap, rfl, hcap, _⟩ := hx
  obtain ⟨b, cap', rfl, hcap', _⟩ := hy
  have HX : Hid (∀ wr, Below w.heap.size w wr → IsTrees wr (.slice a tss.length cap) tss) := fun wr hb => hx0.on hb
  have HY : Hid (∀ wr, Below w.heap.size w wr → IsTrees wr (.slice b tss.length cap') tss) := fun wr hb => hy0.on hb
  have HT : Hid (∀ i, (treeAt tss i).length ≤ 1048576) := ht
  have hne : ((tss.length : Int) != tss.length) = false := by simp
  clear hx0 hy0 ht
  go_enter Tryd.func9, Tryd.ntmps9
  go_wp2
  go_loopw [5] (fun i wr => ∃ k : Nat, k ≤ tss.length ∧ i = .int .i64 k ∧ Below w.heap.size w wr) (fun i _ => tss.length - (intOf i).toNat)
  case atStart => exact ⟨0, Nat.zero_le _, rfl, Below.refl _ _⟩
  case round =>
    obtain ⟨k, hk, rfl, hnx⟩ := hrel
    by_cases hlt : k < tss.length
    · obtain ⟨p, q, u1, rfl, hq, hc, hu⟩ := (HX.out wr hnx).at hlt
      obtain ⟨p', q', u2, rfl, hq', hc', hu'⟩ := (HY.out wr hnx).at hlt
      have HQ : Hid (∀ w', Below wr.heap.size wr w' → w'.cell? q = some u1 ∧ w'.cell? q' = some u2 ∧ IsTree w' u1 (treeAt tss k) ∧ IsTree w' u2 (treeAt tss k)) := fun w' hb => ⟨(hb.cell (World.block_lt_of_cell? wr _ hc)).trans hc, (hb.cell (World.block_lt_of_cell? wr _ hc')).trans hc', hu.on hb, hu'.on hb⟩
      have C : Hid (∀ w', Below wr.heap.size wr w' → _) := fun w' hb => eqTree_same u1 u2 (treeAt tss k) w' (HQ.out w' hb).2.2.1 (HQ.out w' hb).2.2.2 (HT.out k)
      clear hc hu hc' hu'
      go_wp2_with fail
      refine wp_region_whole (by kernel_rfl) (by kernel_rfl) (by kernel_rfl) (by kernel_rfl) (Flat (fun wz => Below w.heap.size w wz ∧ Below wr.heap.size wr wz) (gVals [.slice (some p) tss.length cap, .int .i64 k, .pointer (some q), .agg #[u1], .slice (some p') tss.length cap', .int .i64 k, .pointer (some q'), .agg #[u2], .bool true, .bool false])) (flat_start ⟨hnx.drew, below_draw wr⟩) ?_ ?_
      · refine ⟨?_, ?_, ?_, ?_, ?_, ?_, ?_, ?_, ?_, ?_, trivial⟩
        · intro b0 us wz L hslot hoth hLi hR hcl hdo K hK
          have s0 : b0.tmps.getD 0 undef = .slice (some p) tss.length cap := hoth 0 (by rfl)
          clear hslot hoth hdo hcl hLi
          refine guard_none (by rfl) ?_
          go_simp
          exact hK _ _ (flat_mark (hR.1) (fun _ _ h => h) hR.2 rfl)
        · intro b0 us wz L hslot hoth hLi hR hcl hdo K hK
          have s5 : b0.tmps.getD 5 undef = .int .i64 k := hoth 5 (by rfl)
          clear hslot hoth hdo hcl hLi
          refine guard_none (by rfl) ?_
          go_simp
          exact hK _ _ (flat_mark (hR.1) (fun _ _ h => h) hR.2 rfl)
        · intro b0 us wz L hslot hoth hLi hR hcl hdo K hK
          have s17 : b0.tmps.getD 17 undef = .slice (some p) tss.length cap := (hslot 0 17 (by rfl)).trans (hR.2 0 (done_at hdo 0 (by rfl)))
          have s18 : b0.tmps.getD 18 undef = .int .i64 k := (hslot 1 18 (by rfl)).trans (hR.2 1 (done_at hdo 1 (by rfl)))
          clear hslot hoth hdo hcl hLi
          refine guard_none (by rfl) ?_
          go_simp
          exact hK _ _ (flat_mark (hR.1) (fun _ _ h => h) hR.2 rfl)
        · intro b0 us wz L hslot hoth hLi hR hcl hdo K hK
          have s19 : b0.tmps.getD 19 undef = .pointer (some q) := (hslot 2 19 (by rfl)).trans (hR.2 2 (done_at hdo 2 (by rfl)))
          have c1 := (HQ.out _ hR.1.2).1
          clear hslot hoth hdo hcl hLi
          refine guard_none (by rfl) ?_
          go_simp
          exact hK _ _ (flat_mark (hR.1) (fun _ _ h => h) hR.2 rfl)
        · intro b0 us wz L hslot hoth hLi hR hcl hdo K hK
          have s1 : b0.tmps.getD 1 undef = .slice (some p') tss.length cap' := hoth 1 (by rfl)
          clear hslot hoth hdo hcl hLi
          refine guard_none (by rfl) ?_
          go_simp
          exact hK _ _ (flat_mark (hR.1) (fun _ _ h => h) hR.2 rfl)
        · intro b0 us wz L hslot hoth hLi hR hcl hdo K hK
          have s5 : b0.tmps.getD 5 undef = .int .i64 k := hoth 5 (by rfl)
          clear hslot hoth hdo hcl hLi
          refine guard_none (by rfl) ?_
          go_simp
          exact hK _ _ (flat_mark (hR.1) (fun _ _ h => h) hR.2 rfl)
        · intro b0 us wz L hslot hoth hLi hR hcl hdo K hK
          have s21 : b0.tmps.getD 21 undef = .slice (some p') tss.length cap' := (hslot 4 21 (by rfl)).trans (hR.2 4 (done_at hdo 4 (by rfl)))
          have s22 : b0.tmps.getD 22 undef = .int .i64 k := (hslot 5 22 (by rfl)).trans (hR.2 5 (done_at hdo 5 (by rfl)))
          clear hslot hoth hdo hcl hLi
          refine guard_none (by rfl) ?_
          go_simp
          exact hK _ _ (flat_mark (hR.1) (fun _ _ h => h) hR.2 rfl)
        · intro b0 us wz L hslot hoth hLi hR hcl hdo K hK
          have s23 : b0.tmps.getD 23 undef = .pointer (some q') := (hslot 6 23 (by rfl)).trans (hR.2 6 (done_at hdo 6 (by rfl)))
          have c2 := (HQ.out _ hR.1.2).2.1
          clear hslot hoth hdo hcl hLi
          refine guard_none (by rfl) ?_
          go_simp
          exact hK _ _ (flat_mark (hR.1) (fun _ _ h => h) hR.2 rfl)
        · intro b0 us wz L hslot hoth hLi hR hcl hdo K hK
          have s20 : b0.tmps.getD 20 undef = .agg #[u1] := (hslot 3 20 (by rfl)).trans (hR.2 3 (done_at hdo 3 (by rfl)))
          have s24 : b0.tmps.getD 24 undef = .agg #[u2] := (hslot 7 24 (by rfl)).trans (hR.2 7 (done_at hdo 7 (by rfl)))
          clear hslot hoth hdo hcl hLi
          refine guard_none (by rfl) ?_
          go_simp
          refine (C.out wz hR.1.2).mono ?_
          rintro e w' ⟨rfl, hb⟩
          exact hK _ _ (flat_mark ⟨below_more hR.1.1 hb, below_more hR.1.2 hb⟩ (fun _ _ h => h) hR.2 rfl)
        · intro b0 us wz L hslot hoth hLi hR hcl hdo K hK
          have s25 : b0.tmps.getD 25 undef = .bool true := (hslot 8 25 (by rfl)).trans (hR.2 8 (done_at hdo 8 (by rfl)))
          clear hslot hoth hdo hcl hLi
          refine guard_none (by rfl) ?_
          go_simp
          exact hK _ _ (flat_mark (hR.1) (fun _ _ h => h) hR.2 rfl)
      · intro us wn L hall hR a' ha'
        have g0 : us 0 = .slice (some p) tss.length cap := hR.2 0 (hall 0 (by decide))
        have g1 : us 1 = .int .i64 k := hR.2 1 (hall 1 (by decide))
        have g2 : us 2 = .pointer (some q) := hR.2 2 (hall 2 (by decide))
        have g3 : us 3 = .agg #[u1] := hR.2 3 (hall 3 (by decide))
        have g4 : us 4 = .slice (some p') tss.length cap' := hR.2 4 (hall 4 (by decide))
        have g5 : us 5 = .int .i64 k := hR.2 5 (hall 5 (by decide))
        have g6 : us 6 = .pointer (some q') := hR.2 6 (hall 6 (by decide))
        have g7 : us 7 = .agg #[u2] := hR.2 7 (hall 7 (by decide))
        have g8 : us 8 = .bool true := hR.2 8 (hall 8 (by decide))
        have g9 : us 9 = .bool false := hR.2 9 (hall 9 (by decide))
        have HB1 : Hid (Below w.heap.size w wn) := hR.1.1
        clear hR hall
        simp only [putAll, g0, g1, g2, g3, g4, g5, g6, g7, g8, g9] at ha'
        subst ha'
        go_frame
        clear hq hq' HQ C
        go_wp2
        exact ⟨⟨k + 1, by omega, by go_num, HB1.out⟩, by simp [intOf]; omega⟩
    · obtain rfl : k = tss.length := by omega
      go_wp2
      go_ret
      exact ⟨rfl, hnx⟩
/-- The trees as they are marked from k on. -/
def upWood : Int → List (List Re) → List (List Re)
  | _, [] => []
  | k, ts :: tss => upTree k ts.length :: upWood (k + 5 * (ts.length : Int)) tss
theorem upWood_length : ∀ (k : Int) (tss : List (List Re)), (upWood k tss).length = tss.length
  | _, [] => rfl
  | k, ts :: tss => by simp [upWood, upWood_length]
theorem upWood_at : ∀ (tss : List (List Re)) (k : Int) (i : Nat), i < tss.length → treeAt (upWood k tss) i = upTree (k + 5 * (woodN (tss.take i) : Int)) (treeAt tss i).length
  | [], _, i, h => by simp at h
  | ts :: tss, k, 0, _ => by simp [upWood, treeAt, woodN]
  | ts :: tss, k, i + 1, h => by
    have ih := upWood_at tss (k + 5 * (ts.length : Int)) i (by simpa using h)
    have e1 : treeAt (upWood k (ts :: tss)) (i + 1) = treeAt (upWood (k + 5 * (ts.length : Int)) tss) i := by simp [treeAt, upWood]
    have e2 : treeAt (ts :: tss) (i + 1) = treeAt tss i := by simp [treeAt]
    rw [e1, e2, ih, List.take_succ_cons, woodN_cons]
    congr 1
    omega
/-- The first i are marked. -/
def markW (fs : List Leaf) (k0 : Int) (i : Nat) : List Leaf := (fs.take i).zipIdx.map (fun x => { x.1 with ts := upTree (k0 + 5 * (woodN ((leafTs fs).take x.2) : Int)) x.1.ts.length }) ++ fs.drop i
theorem markW_start (fs : List Leaf) (k0 : Int) : markW fs k0 0 = fs := by simp [markW]
theorem markW_length (fs : List Leaf) (k0 : Int) (i : Nat) (h : i ≤ fs.length) : (markW fs k0 i).length = fs.length := by simp [markW]; omega
theorem markW_low {fs : List Leaf} {k0 : Int} {i j : Nat} (h : i ≤ fs.length) (hj : j < i) : leafAt (markW fs k0 i) j = { leafAt fs j with ts := upTree (k0 + 5 * (woodN ((leafTs fs).take j) : Int)) (leafAt fs j).ts.length } := by
  unfold leafAt List.getD markW
  rw [List.getElem?_append_left (by simp; omega)]
  simp [hj, List.getElem?_eq_getElem (by omega : j < fs.length)]
theorem markW_high {fs : List Leaf} {k0 : Int} {i j : Nat} (h : i ≤ fs.length) (hj : i ≤ j) : leafAt (markW fs k0 i) j = leafAt fs j := by
  unfold leafAt List.getD markW
  rw [List.getElem?_append_right (by simp; omega)]
  simp
  rw [show i + (j - min i fs.length) = j by omega]
theorem leaf_get {fs : List Leaf} {j : Nat} (h : j < fs.length) : fs[j]? = some (leafAt fs j) := by rw [leafAt_in h]; simp [h]
theorem tree_get {tss : List (List Re)} {j : Nat} (h : j < tss.length) : tss[j]? = some (treeAt tss j) := by rw [treeAt_in h]; simp [h]
theorem markW_next {fs : List Leaf} {k0 : Int} {i : Nat} (h : i < fs.length) : markW fs k0 (i + 1) = (markW fs k0 i).set i { leafAt fs i with ts := upTree (k0 + 5 * (woodN ((leafTs fs).take i) : Int)) (leafAt fs i).ts.length } := by
  refine List.ext_getElem? fun j => ?_
  have hl := markW_length fs k0 (i + 1) h
  have hl' := markW_length fs k0 i (by omega)
  by_cases hj : j < fs.length
  · rw [leaf_get (by omega), leaf_get (by rw [List.length_set]; omega)]
    by_cases hij : i = j
    · subst hij
      rw [leafAt_set_same (by omega), markW_low h (by omega)]
    · rw [leafAt_set_other _ _ hij]
      by_cases hlt : j < i
      · rw [markW_low h (by omega), markW_low (by omega) hlt]
      · rw [markW_high h (by omega), markW_high (by omega) (by omega)]
  · rw [List.getElem?_eq_none (by omega), List.getElem?_eq_none (by rw [List.length_set]; omega)]
theorem markW_end (fs : List Leaf) (k0 : Int) : leafTs (markW fs k0 fs.length) = upWood k0 (leafTs fs) := by
  refine List.ext_getElem? fun j => ?_
  have hl := markW_length fs k0 fs.length (Nat.le_refl _)
  by_cases hj : j < fs.length
  · rw [tree_get (by rw [leafTs_length]; omega), tree_get (by rw [upWood_length, leafTs_length]; omega), leafTs_at, markW_low (Nat.le_refl _) hj, upWood_at _ _ _ (by rw [leafTs_length]; exact hj), leafTs_at]
  · rw [List.getElem?_eq_none (by rw [leafTs_length]; omega), List.getElem?_eq_none (by rw [upWood_length, leafTs_length]; omega)]
/-- One of the trees is turned. -/
theorem OwnW.turn {g cap : Nat} {fs : List Leaf} {rest : List Value} {lo hi : Nat} {w w' : World} (h : OwnW g cap fs rest lo hi w) {k : Nat} (hk : k < fs.length) {ts' : List Re} (hg : w.grownBy w' (some (leafAt fs k).g)) (hl : ts'.length = (leafAt fs k).ts.length)
    (ho : OwnT (leafAt fs k).g (leafAt fs k).c ts' (leafAt fs k).rs lo hi w') : OwnW g cap (fs.set k { leafAt fs k with ts := ts' }) rest lo hi w' := by
  have hv : (fs.set k { leafAt fs k with ts := ts' }).map leafV = fs.map leafV := by
    rw [List.map_set]
    refine List.ext_getElem? fun j => ?_
    rw [List.getElem?_set]
    split
    · rename_i e
      subst e
      rw [if_pos (by simpa using hk)]
      rw [List.getElem?_map, List.getElem?_eq_getElem hk]
      simp [leafV, hl, leafAt_in hk]
    · rfl
  refine ⟨by rw [hv]; exact grown_kept hg h.at' (fun e => h.ne k hk (by cases e; rfl)), by rw [List.length_set]; exact h.cap, h.lo, h.hi, fun i hi' => ?_, fun i hi' => ?_, fun i j hij hj => ?_⟩
  · rw [List.length_set] at hi'
    by_cases he : k = i
    · subst he
      rw [leafAt_set_same hk]; exact ho
    · rw [leafAt_set_other _ _ he]
      have h1 := h.own i hi'
      refine ⟨grown_kept hg h1.at' (fun e => ?_), h1.cap, h1.lo, h1.hi⟩
      have e' : (leafAt fs k).g = (leafAt fs i).g := by simpa using e
      rcases Nat.lt_or_gt_of_ne he with hlt | hgt
      · exact h.apart k i hlt hi' e'
      · exact h.apart i k hgt hk e'.symm
  · rw [List.length_set] at hi'
    by_cases he : k = i
    · subst he
      rw [leafAt_set_same hk]; exact h.ne k hk
    · rw [leafAt_set_other _ _ he]; exact h.ne i hi'
  · rw [List.length_set] at hj
    have e1 : ∀ m, (leafAt (fs.set k { leafAt fs k with ts := ts' }) m).g = (leafAt fs m).g := fun m => by
      by_cases he : k = m
      · subst he
        rw [leafAt_set_same hk]
      · rw [leafAt_set_other _ _ he]
    rw [e1, e1]
    exact h.apart i j hij hj
end Go.Proofs.YtlemhlioidmanaaDoor
namespace Go.Proofs.YtlemhlioidmanaaDoor
open Go.RowKit
set_option linter.unusedVariables false
set_option maxRecDepth 100000

/-- Nothing is turned but between two blocks. -/
structure Turned (lo hi : Nat) (w w' : World) : Prop where
  block : ∀ k o, w.heap[k]? = some o → (k < lo ∨ hi ≤ k) → w'.heap[k]? = some o
  below : ∀ B w0, B ≤ lo → Below B w0 w → Below B w0 w'
theorem Turned.refl (lo hi : Nat) (w : World) : Turned lo hi w w := ⟨fun _ _ h _ => h, fun _ _ _ h => h⟩
theorem Turned.step {lo hi : Nat} {w w1 w2 : World} (h : Turned lo hi w w1) {g : Nat} (hg : w1.grownBy w2 (some g)) (h1 : lo ≤ g) (h2 : g < hi) (h3 : g < w1.heap.size) : Turned lo hi w w2 :=
  ⟨fun k o hk hc => grown_kept hg (h.block k o hk hc) (fun e => by cases e; omega), fun B w0 hB hb => (h.below B w0 hB hb).grown hg (by omega) (fun k e => by cases e; omega)⟩
theorem OwnT.turned {g cap : Nat} {ts : List Re} {rs : List Value} {lo hi l0 h0 : Nat} {w w' : World} (h : OwnT g cap ts rs lo hi w) (ht : Turned l0 h0 w w') (hd : hi ≤ l0 ∨ h0 ≤ lo) : OwnT g cap ts rs lo hi w' :=
  ⟨ht.block _ _ h.at' (by have := h.lo; have := h.hi; omega), h.cap, h.lo, h.hi⟩
theorem OwnW.turned {g cap : Nat} {fs : List Leaf} {rest : List Value} {lo hi l0 h0 : Nat} {w w' : World} (h : OwnW g cap fs rest lo hi w) (ht : Turned l0 h0 w w') (hd : hi ≤ l0 ∨ h0 ≤ lo) : OwnW g cap fs rest lo hi w' :=
  ⟨ht.block _ _ h.at' (by have := h.lo; have := h.hi; omega), h.cap, h.lo, h.hi, fun i hi' => (h.own i hi').turned ht hd, h.ne, h.apart⟩
theorem leafTs_len (fs : List Leaf) (i : Nat) : (leafAt fs i).ts.length = (treeAt (leafTs fs) i).length := by rw [leafTs_at]
set_option maxHeartbeats 1000000 in
theorem markTreeS_own (g cap n : Nat) (fs : List Leaf) (rest : List Value) (lo hi : Nat) (w : World) (h : OwnW g cap fs rest lo hi w) (hn : n = fs.length) (hl : ((n : Int) + woodN (leafTs fs)) ≤ 1048576) :
    Calls Tryd.prog 10 #[.slice (some ⟨g, 0, none⟩) n cap, .int .i64 1] w fun e w' => e = .returned (.int .i64 (1 + 5 * (woodN (leafTs fs) : Int))) ∧ OwnW g cap (markW fs 1 fs.length) rest lo hi w' ∧ Turned lo hi w w' := by
  have H0 : Hid (OwnW g cap (markW fs 1 0) rest lo hi w) := by show OwnW _ _ _ _ _ _ _; rw [markW_start]; exact h
  have hcap : n ≤ cap := by rw [hn]; exact h.cap
  have HNL : Hid (n = fs.length ∧ ((n : Int) + woodN (leafTs fs)) ≤ 1048576) := ⟨hn, hl⟩
  have hn6 : n ≤ 1048576 := by omega
  clear h hn hl
  go_enter Tryd.func10, Tryd.ntmps10
  go_wp2
  go_loopw [1, 5] (fun q i wr => ∃ (k : Nat) (m : Int), k ≤ n ∧ i = .int .i64 k ∧ q = .int .i64 m ∧ Hid (m = 1 + 5 * (woodN ((leafTs fs).take k) : Int)) ∧ Hid (OwnW g cap (markW fs 1 k) rest lo hi wr ∧ Turned lo hi w wr)) (fun _ i _ => n - (intOf i).toNat)
  case atStart => exact ⟨0, _, Nat.zero_le _, rfl, rfl, by show _ = _; simp [woodN], H0.out, Turned.refl _ _ _⟩
  case round =>
    obtain ⟨k, m, hk, rfl, rfl, hm, hs⟩ := hrel
    clear H0
    by_cases hlt : k < n
    · have hkf : k < fs.length := by have := HNL.out.1; omega
      have hkm : k < (markW fs 1 k).length := by rw [markW_length _ _ _ (by omega)]; exact hkf
      have hc := hs.out.1.cell hkm
      have hown := hs.out.1.own k hkm
      have ha : leafAt (markW fs 1 k) k = leafAt fs k := markW_high (by omega) (Nat.le_refl _)
      rw [ha] at hc hown
      have htl := treeAt_le (leafTs fs) k
      rw [leafTs_at] at htl
      have hwt := woodN_take_le (leafTs fs) k
      have hmb : 0 ≤ m ∧ m ≤ 1099511627776 := by have h1 := hm.out; have h2 := HNL.out.2; omega
      have C := markT_own (leafAt fs k).g (leafAt fs k).c (leafAt fs k).ts (leafAt fs k).rs lo hi m wr hown (by have := HNL.out.2; omega) hmb.1 hmb.2
      have HM : Hid (m + 5 * ((leafAt fs k).ts.length : Int) = 1 + 5 * (woodN ((leafTs fs).take (k + 1)) : Int)) := by
        have e := woodN_take (tss := leafTs fs) (k := k) (by rw [leafTs_length]; exact hkf)
        rw [leafTs_at] at e
        have h1 := hm.out
        show _ = _
        omega
      have HW : Hid (∀ w', OwnT (leafAt fs k).g (leafAt fs k).c (upTree m (leafAt fs k).ts.length) (leafAt fs k).rs lo hi w' → wr.grownBy w' (some (leafAt fs k).g) → OwnW g cap (markW fs 1 (k + 1)) rest lo hi w' ∧ Turned lo hi w w') := fun w' ho hg => by
        refine ⟨?_, hs.out.2.step hg hown.lo hown.hi (lt_of_block hown.at')⟩
        have e := hs.out.1.turn hkm (ts' := upTree m (leafAt fs k).ts.length) (by rw [ha]; exact hg) (by rw [ha, upTree_length]) (by rw [ha]; exact ho)
        rw [ha] at e
        rw [markW_next hkf, ← hm.out]
        exact e
      unfold leafV at hc
      generalize leafAt fs k = f at hc C HM HW
      obtain ⟨fg, fc, fts, frs⟩ := f
      simp only at hc C HM HW
      clear hown ha htl hwt hm hs hkm
      go_wp2_with fail
      refine C.mono ?_
      rintro e w1 ⟨rfl, ho, hg⟩
      have HS := hid_of (HW.out w1 ho hg)
      clear C HW ho hg hc
      go_wp2
      go_roundw
      case rel => exact ⟨k + 1, _, by omega, by go_num, rfl, HM, HS⟩
      case measure => simp [intOf]; omega
    · obtain rfl : k = n := by omega
      have HE : Hid (m = 1 + 5 * (woodN (leafTs fs) : Int)) := by
        have e := hm.out
        rw [List.take_of_length_le (by rw [leafTs_length]; have := HNL.out.1; omega)] at e
        exact e
      have HS : Hid (OwnW g cap (markW fs 1 fs.length) rest lo hi wr ∧ Turned lo hi w wr) := by have e := hs.out; rw [HNL.out.1] at e; exact e
      clear hm hs
      go_wp2
      go_ret
      exact ⟨by rw [HE.out]; rfl, HS.out⟩
set_option maxHeartbeats 1000000 in
theorem heldTreeS_up (v : Value) (tss : List (List Re)) (w : World) (hx : IsTrees w v (upWood 1 tss)) (hl : ((tss.length : Int) + woodN tss) ≤ 1048576) :
    Calls Tryd.prog 11 #[v, .int .i64 1] w fun e w' => e = .returned (.int .i64 (1 + 5 * (woodN tss : Int))) ∧ w' = w := by
  obtain ⟨a, cap, rfl, hcap, _⟩ := id hx
  rw [upWood_length] at hcap hx ⊢
  have HX : Hid (∀ i, i < tss.length → ∃ p q u, a = some p ∧ p.add i = q ∧ w.cell? q = some u ∧ IsTree w u (upTree (1 + 5 * (woodN (tss.take i) : Int)) (treeAt tss i).length)) := fun i hi => by
    obtain ⟨p, q, u, h1, h2, h3, h4⟩ := hx.at (i := i) (by rw [upWood_length]; exact hi)
    rw [upWood_at tss 1 i hi] at h4
    exact ⟨p, q, u, h1, h2, h3, h4⟩
  have hn6 : tss.length ≤ 1048576 := by omega
  have HNL : Hid (((tss.length : Int) + woodN tss) ≤ 1048576) := hl
  clear hx hl
  go_enter Tryd.func11, Tryd.ntmps11
  go_wp2
  go_loop [1, 5] (fun q i => ∃ (k : Nat) (m : Int), k ≤ tss.length ∧ i = .int .i64 k ∧ q = .int .i64 m ∧ Hid (m = 1 + 5 * (woodN (tss.take k) : Int))) (fun _ i => tss.length - (intOf i).toNat)
  case atStart => exact ⟨0, _, Nat.zero_le _, rfl, rfl, by show _ = _; simp [woodN]⟩
  case round =>
    obtain ⟨k, m, hk, rfl, rfl, hm⟩ := hrel
    by_cases hlt : k < tss.length
    · obtain ⟨p, q, u, rfl, hq, hc, hu⟩ := HX.out k hlt
      have htl := treeAt_le tss k
      have hwt := woodN_take_le tss k
      have hmb : 0 ≤ m ∧ m ≤ 1099511627776 := by have h1 := hm.out; have h2 := HNL.out; omega
      rw [← hm.out] at hu
      have C := heldT_up u (treeAt tss k).length m w hu (by have := HNL.out; omega) hmb.1 hmb.2
      have HM : Hid (m + 5 * ((treeAt tss k).length : Int) = 1 + 5 * (woodN (tss.take (k + 1)) : Int)) := by
        have e := woodN_take hlt
        have h1 := hm.out
        show _ = _
        omega
      have hnn : ¬ (m + 5 * ((treeAt tss k).length : Int) < 0) := by omega
      generalize (treeAt tss k).length = n at C HM hnn
      clear hu htl hwt hm
      go_wp2_with fail
      refine C.mono ?_
      rintro e w1 ⟨rfl, rfl⟩
      clear C
      go_wp2
      exact ⟨⟨k + 1, _, by omega, by go_num, rfl, HM⟩, by simp [intOf]; omega⟩
    · obtain rfl : k = tss.length := by omega
      have HE : Hid (m = 1 + 5 * (woodN tss : Int)) := by
        have e := hm.out
        rw [List.take_length] at e
        exact e
      clear hm
      go_wp2
      go_ret
      exact ⟨by rw [HE.out]; rfl, rfl⟩
end Go.Proofs.YtlemhlioidmanaaDoor
