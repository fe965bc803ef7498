/-
  Edges: the program's and the model's.
-/
import Derived.Test.YtbdljoldblpffaaGreatEdge9
import Derived.Test.YtbdljoldblpffaaGreatHandI
import Derived.Test.YtbdljoldblpffaaGreatHand
import Derived.Test.YtbdljoldblpffaaGreatArOkI
import Derived.Test.YtbdljoldblpffaaGreatArOkS
namespace Go.Proofs.YtbdljoldblpffaaGreat
open Go.RowKit
set_option linter.unusedVariables false
set_option maxRecDepth 100000

def edgesAns (os : List Ob) (i : Int) : List Int := if arenaOk os && inB i 0 9 then edgesTo os i.toNat os.length else []
theorem edgesTo_none {os : List Ob} {i : Nat} (h : ∀ k, edgeB os i k = false) : ∀ n, edgesTo os i n = []
  | 0 => rfl
  | n + 1 => by rw [edgesTo_no (h n), edgesTo_none h n]
theorem edge_dead {os : List Ob} {i : Nat} (hok : obOk (obAt os i) = true) (hz : (obAt os i).kind = 0) (k : Nat) : edgeB os i k = false := by
  unfold edgeB holdsB
  rw [hz, (zero_into hok hz).2]
  rfl
theorem arenaOk_parts {os : List Ob} (h : arenaOk os = true) : os.length = 10 ∧ os.all obOk = true ∧ rootB (obAt os 0) = true ∧ os.all (leadsB os) = true := by
  unfold arenaOk at h
  simp only [Bool.and_eq_true, decide_eq_true_eq] at h
  exact h
theorem holds_zero {os : List Ob} (h : arenaOk os = true) (i : Nat) : holdsB os i 0 = false := by
  unfold holdsB
  rw [root_into (arenaOk_parts h).2.2.1, show ((-1 : Int) == (i : Int)) = false from beq_eq_false_iff_ne.2 (by omega)]
  simp
theorem edgesAns_len (os : List Ob) (i : Int) (h : os.length ≤ 1048576) : (edgesAns os i).length ≤ 1048576 := by
  unfold edgesAns
  split
  · exact Nat.le_trans (edgesTo_len _ _ _) h
  · simp
set_option maxHeartbeats 4000000 in
theorem specEdges_go (p : Addr) (cap : Nat) (os : List Ob) (i : Nat) (w : World) (hx : IsArena w (.slice (some p) 10 cap) os) (hok : arenaOk os = true) (hi : i < 10) (hs : Small8 os) (hf : AllFit os) :
    Calls Tryz.prog 44 #[.slice (some p) 10 cap, .int .i64 i] w fun e w' => IntsAns (edgesTo os i 10) w e w' := by
  have hb0 : Below w.heap.size w (w.alloc (.cells #[] 3 (0, 0))) := below_alloc w _
  obtain ⟨hlen, hall, hroot, _⟩ := arenaOk_parts hok
  have CA := specArenaOk_any _ os (w.alloc (.cells #[] 3 (0, 0))) (hx.on hb0) (by omega) hs hf
  rw [hok] at CA
  have CS := specSlot_b (i : Int)
  rw [inB_yes (by omega) (by omega)] at CS
  have HC : Hid (∀ k w' l, IsInts w' l (obAt os i).ls → Calls Tryz.prog 43 #[l, .int .i64 (k : Nat)] w' fun e w'' => e = .returned (.bool (hasI (obAt os i).ls (k : Int))) ∧ w' = w'') := fun k w' l h => specHas_any l _ _ w' h (by have := hs i; unfold obN at this; omega)
  have HX : Hid (∀ w', Below w.heap.size w w' → IsArena w' (.slice (some p) 10 cap) os) := fun w' hb => hx.on hb
  have HO0 : Hid ((w.alloc (.cells #[] 3 (0, 0))).ownsRow w.heap.size 3 1 (.slice (some ⟨w.heap.size, 0, none⟩) 0 0) 0 []) := owns_empty w
  have HB0 := hid_of hb0
  have HL : Hid (os.length = 10) := hlen
  have hcap : 10 ≤ cap := by obtain ⟨_, _, hv, h, _⟩ := hx; have e := (Value.slice.inj hv).2.2; omega
  have HZ : Hid (holdsB os i 0 = false) := holds_zero hok i
  by_cases hz : (obAt os i).kind = 0
  · have e1 : edgesTo os i 10 = [] := edgesTo_none (edge_dead (obOk_at hall (by rw [hlen]; exact hi)) hz) 10
    rw [e1]
    have HKZ : Hid ((obAt os i).kind = 0) := hz
    clear e1 hz hok hall hroot hlen hb0 hx hs hf HC HZ
    go_enter Tryz.func44, Tryz.ntmps44
    go_wp2_with fail
    refine CA.mono ?_
    rintro e w1 ⟨rfl, hb⟩
    have HB1 := hid_of (below_more HB0.out hb)
    have HO1 : Hid (w1.ownsRow w.heap.size 3 1 (.slice (some ⟨w.heap.size, 0, none⟩) 0 0) 0 []) := own_below HO0.out hb
    obtain ⟨p', q, l, d, m, hp, hq, hcs, -⟩ := (HX.out w1 HB1.out).at (i := i) (by rw [HL.out]; exact hi)
    obtain rfl : p = p' := by simpa using hp
    have c1 := hcs.c1
    rw [HKZ.out] at c1
    clear CA hb hcs hp HO0 HB0
    go_wp2_with fail
    refine (CS _).mono ?_
    rintro e w2 ⟨rfl, rfl⟩
    go_wp2
    go_ret
    exact ⟨_, rfl, HO1.out, HB1.out⟩
  · obtain ⟨x, hx1⟩ : ∃ x, x = (obAt os i).kind := ⟨_, rfl⟩
    have hx0 : (x == 0) = false := by rw [hx1]; exact beq_eq_false_iff_ne.2 hz
    have HKX : Hid (x = (obAt os i).kind) := hx1
    clear hx1 hz hok hall hroot hlen hb0 hx hs hf
    go_enter Tryz.func44, Tryz.ntmps44
    go_wp2_with fail
    refine CA.mono ?_
    rintro e w1 ⟨rfl, hb⟩
    have HB1 := hid_of (below_more HB0.out hb)
    have HO1 : Hid (w1.ownsRow w.heap.size 3 1 (.slice (some ⟨w.heap.size, 0, none⟩) 0 0) 0 []) := own_below HO0.out hb
    obtain ⟨p', q, l, d, m, hp, hq, hcs, -⟩ := (HX.out w1 HB1.out).at (i := i) (by rw [HL.out]; exact hi)
    obtain rfl : p = p' := by simpa using hp
    have c1 := hcs.c1
    rw [← HKX.out] at c1
    clear CA hb hcs hp HO0 HB0
    go_wp2_with fail
    refine (CS _).mono ?_
    rintro e w2 ⟨rfl, rfl⟩
    clear CS
    go_wp2
    clear c1 hq
    go_loopw [6, 5] (fun s9 s5 wr => ∃ (k : Nat) (xs : List Int), s9 = .int .i64 k ∧ k ≤ 10 ∧ xs.length ≤ k ∧ Hid (xs = edgesTo os i k) ∧ Hid (wr.ownsRow w.heap.size 3 1 s5 xs.length (icells xs)) ∧ Hid (Below w.heap.size w wr)) (fun s9 _ _ => 10 - (intOf s9).toNat)
    case atStart => exact ⟨0, [], rfl, Nat.zero_le _, Nat.le_refl _, rfl, HO1, HB1⟩
    case round =>
      obtain ⟨k, xs, rfl, hk, hxk, HXS, HO, HB⟩ := hrel
      clear HO1 HB1
      by_cases hlt : k < 10
      · obtain ⟨p', q, l, d, m, hp, hq, hcs, hu⟩ := (HX.out wr HB.out).at (i := i) (by rw [HL.out]; exact hi)
        obtain rfl : p = p' := by simpa using hp
        clear hp
        obtain ⟨p', q2, l2, d2, m2, hp, hq2, hck, -⟩ := (HX.out wr HB.out).at (i := k) (by rw [HL.out]; exact hlt)
        obtain rfl : p = p' := by simpa using hp
        clear hp
        have c1 := hcs.c1
        have c10 := hcs.c10
        have e1 := hck.c1
        have e2 := hck.c2
        have C := HC.out k wr l hu.ls
        rw [← HKX.out] at c1
        have HY0 : Hid (edgeB os i k = true → xs ++ [(k : Int)] = edgesTo os i (k + 1)) := fun e => by rw [HXS.out, edgesTo_yes e]
        have HN0 : Hid (edgeB os i k = false → xs = edgesTo os i (k + 1)) := fun e => by rw [HXS.out, edgesTo_no e]
        have HH : Hid (holdsB os i k = ((x == 1) && (!((obAt os k).kind == 0) && ((obAt os k).into == (i : Int))))) := by show _ = _; unfold holdsB; rw [← HKX.out]
        have HZ2 : Hid (k = 0 → holdsB os i k = false) := fun e => by rw [e]; exact HZ.out
        clear hcs hck hu HXS
        generalize (obAt os k).kind = y at *
        generalize (obAt os k).into = z at *
        by_cases h0 : k = 0
        · have hb : holdsB os i k = false := HZ2.out h0
          have hk0 : ¬ (0 : Int) < (k : Int) := by omega
          have hk1 : ¬ 0 < k := by omega
          clear HH HZ2 h0
          cases hd : hasI (obAt os i).ls (k : Int) with
          | true =>
            have HY : Hid (xs ++ [(k : Int)] = edgesTo os i (k + 1)) := HY0.out (by unfold edgeB; rw [hb, hd]; rfl)
            rw [hd] at C
            clear HY0 HN0 hb hd
            have H1 : Hid ((wr.alloc (.cells #[.int .i64 (k : Int)] 3 (0, 0))).ownsRow w.heap.size 3 1 u5 xs.length (icells xs)) := HO.out.alloc _
            have H2 := hid_of (one_new wr (k : Int))
            have H3 : Hid (Below w.heap.size w (wr.alloc (.cells #[.int .i64 (k : Int)] 3 (0, 0)))) := HB.out.alloc HB.out.size _
            have H4 : Hid (w.heap.size ≤ (wr.alloc (.cells #[.int .i64 (k : Int)] 3 (0, 0))).heap.size) := H3.out.size
            have HE2 : Hid (xs ++ [(k : Int)] = edgesTo os i (k + 1)) := HY.out
            clear HO HB HY
            go_wp2_with fail
            refine C.mono ?_
            rintro e w1 ⟨rfl, rfl⟩
            clear C
            go_wp2_with (at_builtin; refine wpList_appI rfl (.tmp 67) (.tmp 69) rfl w _ w.heap.size wr.heap.size _ xs [(k : Int)] 1 1 rfl rfl H1.out H2.out rfl (by omega) H4.out H3.out ?_; intro v' w3 hown' hnx')
            go_roundw
            case rel => exact ⟨k + 1, xs ++ [(k : Int)], by go_num, by omega, by simp; omega, HE2, hown', hnx'⟩
            case measure => simp [intOf]; omega
          | false =>
            have HN : Hid (xs = edgesTo os i (k + 1)) := HN0.out (by unfold edgeB; rw [hb, hd]; rfl)
            rw [hd] at C
            clear HY0 HN0 hb hd
            go_wp2_with fail
            refine C.mono ?_
            rintro e w1 ⟨rfl, rfl⟩
            clear C
            go_wp2
            go_roundw
            case rel => exact ⟨k + 1, xs, by go_num, by omega, by omega, HN, HO, HB⟩
            case measure => simp [intOf]; omega
        · have hk0 : (0 : Int) < (k : Int) := by omega
          have hk1 : 0 < k := by omega
          by_cases hy : y = 0
          · have hb : holdsB os i k = false := by rw [HH.out, hy]; simp
            have e3 : (y != 0) = false := by rw [hy]; rfl
            clear HH HZ2 h0 hy
            cases hd : hasI (obAt os i).ls (k : Int) with
            | true =>
              have HY : Hid (xs ++ [(k : Int)] = edgesTo os i (k + 1)) := HY0.out (by unfold edgeB; rw [hb, hd]; rfl)
              rw [hd] at C
              clear HY0 HN0 hb hd
              have H1 : Hid ((wr.alloc (.cells #[.int .i64 (k : Int)] 3 (0, 0))).ownsRow w.heap.size 3 1 u5 xs.length (icells xs)) := HO.out.alloc _
              have H2 := hid_of (one_new wr (k : Int))
              have H3 : Hid (Below w.heap.size w (wr.alloc (.cells #[.int .i64 (k : Int)] 3 (0, 0)))) := HB.out.alloc HB.out.size _
              have H4 : Hid (w.heap.size ≤ (wr.alloc (.cells #[.int .i64 (k : Int)] 3 (0, 0))).heap.size) := H3.out.size
              have HE2 : Hid (xs ++ [(k : Int)] = edgesTo os i (k + 1)) := HY.out
              clear HO HB HY
              go_wp2_with fail
              refine C.mono ?_
              rintro e w1 ⟨rfl, rfl⟩
              clear C
              go_wp2_with (at_builtin; refine wpList_appI rfl (.tmp 67) (.tmp 69) rfl w _ w.heap.size wr.heap.size _ xs [(k : Int)] 1 1 rfl rfl H1.out H2.out rfl (by omega) H4.out H3.out ?_; intro v' w3 hown' hnx')
              go_roundw
              case rel => exact ⟨k + 1, xs ++ [(k : Int)], by go_num, by omega, by simp; omega, HE2, hown', hnx'⟩
              case measure => simp [intOf]; omega
            | false =>
              have HN : Hid (xs = edgesTo os i (k + 1)) := HN0.out (by unfold edgeB; rw [hb, hd]; rfl)
              rw [hd] at C
              clear HY0 HN0 hb hd
              go_wp2_with fail
              refine C.mono ?_
              rintro e w1 ⟨rfl, rfl⟩
              clear C
              go_wp2
              go_roundw
              case rel => exact ⟨k + 1, xs, by go_num, by omega, by omega, HN, HO, HB⟩
              case measure => simp [intOf]; omega
          · have e3 : (y != 0) = true := by simp [hy]
            by_cases hz : z = (i : Int)
            · by_cases h1 : x = 1
              · have hb : holdsB os i k = true := by rw [HH.out, h1, hz]; simp [hy]
                have HY : Hid (xs ++ [(k : Int)] = edgesTo os i (k + 1)) := HY0.out (by unfold edgeB; rw [hb]; rfl)
                have e4 : (x == 1) = true := by rw [h1]; rfl
                have e5 : (z == (i : Int)) = true := by rw [hz]; simp
                clear HH HZ2 h0 hy hz h1 HY0 HN0 hb C
                have H1 : Hid ((wr.alloc (.cells #[.int .i64 (k : Int)] 3 (0, 0))).ownsRow w.heap.size 3 1 u5 xs.length (icells xs)) := HO.out.alloc _
                have H2 := hid_of (one_new wr (k : Int))
                have H3 : Hid (Below w.heap.size w (wr.alloc (.cells #[.int .i64 (k : Int)] 3 (0, 0)))) := HB.out.alloc HB.out.size _
                have H4 : Hid (w.heap.size ≤ (wr.alloc (.cells #[.int .i64 (k : Int)] 3 (0, 0))).heap.size) := H3.out.size
                have HE2 : Hid (xs ++ [(k : Int)] = edgesTo os i (k + 1)) := HY.out
                clear HO HB HY
                go_wp2_with (at_builtin; refine wpList_appI rfl (.tmp 67) (.tmp 69) rfl w _ w.heap.size wr.heap.size _ xs [(k : Int)] 1 1 rfl rfl H1.out H2.out rfl (by omega) H4.out H3.out ?_; intro v' w3 hown' hnx')
                go_roundw
                case rel => exact ⟨k + 1, xs ++ [(k : Int)], by go_num, by omega, by simp; omega, HE2, hown', hnx'⟩
                case measure => simp [intOf]; omega
              · have hb : holdsB os i k = false := by rw [HH.out, beq_eq_false_iff_ne.2 h1]; rfl
                have e4 : (x == 1) = false := beq_eq_false_iff_ne.2 h1
                have e5 : (z == (i : Int)) = true := by rw [hz]; simp
                clear HH HZ2 h0 hy hz h1
                cases hd : hasI (obAt os i).ls (k : Int) with
                | true =>
                  have HY : Hid (xs ++ [(k : Int)] = edgesTo os i (k + 1)) := HY0.out (by unfold edgeB; rw [hb, hd]; rfl)
                  rw [hd] at C
                  clear HY0 HN0 hb hd
                  have H1 : Hid ((wr.alloc (.cells #[.int .i64 (k : Int)] 3 (0, 0))).ownsRow w.heap.size 3 1 u5 xs.length (icells xs)) := HO.out.alloc _
                  have H2 := hid_of (one_new wr (k : Int))
                  have H3 : Hid (Below w.heap.size w (wr.alloc (.cells #[.int .i64 (k : Int)] 3 (0, 0)))) := HB.out.alloc HB.out.size _
                  have H4 : Hid (w.heap.size ≤ (wr.alloc (.cells #[.int .i64 (k : Int)] 3 (0, 0))).heap.size) := H3.out.size
                  have HE2 : Hid (xs ++ [(k : Int)] = edgesTo os i (k + 1)) := HY.out
                  clear HO HB HY
                  go_wp2_with fail
                  refine C.mono ?_
                  rintro e w1 ⟨rfl, rfl⟩
                  clear C
                  go_wp2_with (at_builtin; refine wpList_appI rfl (.tmp 67) (.tmp 69) rfl w _ w.heap.size wr.heap.size _ xs [(k : Int)] 1 1 rfl rfl H1.out H2.out rfl (by omega) H4.out H3.out ?_; intro v' w3 hown' hnx')
                  go_roundw
                  case rel => exact ⟨k + 1, xs ++ [(k : Int)], by go_num, by omega, by simp; omega, HE2, hown', hnx'⟩
                  case measure => simp [intOf]; omega
                | false =>
                  have HN : Hid (xs = edgesTo os i (k + 1)) := HN0.out (by unfold edgeB; rw [hb, hd]; rfl)
                  rw [hd] at C
                  clear HY0 HN0 hb hd
                  go_wp2_with fail
                  refine C.mono ?_
                  rintro e w1 ⟨rfl, rfl⟩
                  clear C
                  go_wp2
                  go_roundw
                  case rel => exact ⟨k + 1, xs, by go_num, by omega, by omega, HN, HO, HB⟩
                  case measure => simp [intOf]; omega
            · have hb : holdsB os i k = false := by rw [HH.out, beq_eq_false_iff_ne.2 hz]; simp
              have e5 : (z == (i : Int)) = false := beq_eq_false_iff_ne.2 hz
              clear HH HZ2 h0 hy hz
              cases hd : hasI (obAt os i).ls (k : Int) with
              | true =>
                have HY : Hid (xs ++ [(k : Int)] = edgesTo os i (k + 1)) := HY0.out (by unfold edgeB; rw [hb, hd]; rfl)
                rw [hd] at C
                clear HY0 HN0 hb hd
                have H1 : Hid ((wr.alloc (.cells #[.int .i64 (k : Int)] 3 (0, 0))).ownsRow w.heap.size 3 1 u5 xs.length (icells xs)) := HO.out.alloc _
                have H2 := hid_of (one_new wr (k : Int))
                have H3 : Hid (Below w.heap.size w (wr.alloc (.cells #[.int .i64 (k : Int)] 3 (0, 0)))) := HB.out.alloc HB.out.size _
                have H4 : Hid (w.heap.size ≤ (wr.alloc (.cells #[.int .i64 (k : Int)] 3 (0, 0))).heap.size) := H3.out.size
                have HE2 : Hid (xs ++ [(k : Int)] = edgesTo os i (k + 1)) := HY.out
                clear HO HB HY
                go_wp2_with fail
                refine C.mono ?_
                rintro e w1 ⟨rfl, rfl⟩
                clear C
                go_wp2_with (at_builtin; refine wpList_appI rfl (.tmp 67) (.tmp 69) rfl w _ w.heap.size wr.heap.size _ xs [(k : Int)] 1 1 rfl rfl H1.out H2.out rfl (by omega) H4.out H3.out ?_; intro v' w3 hown' hnx')
                go_roundw
                case rel => exact ⟨k + 1, xs ++ [(k : Int)], by go_num, by omega, by simp; omega, HE2, hown', hnx'⟩
                case measure => simp [intOf]; omega
              | false =>
                have HN : Hid (xs = edgesTo os i (k + 1)) := HN0.out (by unfold edgeB; rw [hb, hd]; rfl)
                rw [hd] at C
                clear HY0 HN0 hb hd
                go_wp2_with fail
                refine C.mono ?_
                rintro e w1 ⟨rfl, rfl⟩
                clear C
                go_wp2
                go_roundw
                case rel => exact ⟨k + 1, xs, by go_num, by omega, by omega, HN, HO, HB⟩
                case measure => simp [intOf]; omega
      · obtain rfl : 10 = k := by omega
        have HE : Hid (wr.ownsRow w.heap.size 3 1 u5 (edgesTo os i 10).length (icells (edgesTo os i 10))) := by rw [← HXS.out]; exact HO
        clear HO HXS
        go_wp2
        go_ret
        exact ⟨_, rfl, HE.out, HB.out⟩
set_option maxHeartbeats 1000000 in
theorem specEdges_any (v : Value) (os : List Ob) (i : Int) (w : World) (hx : IsArena w v os) (hn : os.length ≤ 1048576) (hs : Small8 os) (hf : AllFit os) :
    Calls Tryz.prog 44 #[v, .int .i64 i] w fun e w' => IntsAns (edgesAns os i) w e w' := by
  have hb0 : Below w.heap.size w (w.alloc (.cells #[] 3 (0, 0))) := below_alloc w _
  have C := specArenaOk_any v os (w.alloc (.cells #[] 3 (0, 0))) (hx.on hb0) hn hs hf
  have CI := specSlot_b i
  have HO0 : Hid ((w.alloc (.cells #[] 3 (0, 0))).ownsRow w.heap.size 3 1 (.slice (some ⟨w.heap.size, 0, none⟩) 0 0) 0 []) := owns_empty w
  have HB0 := hid_of hb0
  cases hok : arenaOk os with
  | false =>
    have e1 : edgesAns os i = [] := by unfold edgesAns; rw [hok]; rfl
    rw [e1]
    rw [hok] at C
    clear hok e1 hx CI hb0
    go_enter Tryz.func44, Tryz.ntmps44
    go_wp2_with fail
    refine C.mono ?_
    rintro e w1 ⟨rfl, hb⟩
    have HO1 := hid_of (own_below HO0.out hb)
    have HB1 := hid_of (below_more HB0.out hb)
    clear C hb HO0 HB0
    go_wp2
    go_ret
    exact ⟨_, rfl, HO1.out, HB1.out⟩
  | true =>
    have hlen : os.length = 10 := (arenaOk_parts hok).1
    cases hi : inB i 0 9 with
    | false =>
      have e1 : edgesAns os i = [] := by unfold edgesAns; rw [hok, hi]; rfl
      rw [e1]
      simp only [hi] at CI
      rw [hok] at C
      clear hok e1 hx hi hb0 hlen
      go_enter Tryz.func44, Tryz.ntmps44
      go_wp2_with fail
      refine C.mono ?_
      rintro e w1 ⟨rfl, hb⟩
      have HO1 := hid_of (own_below HO0.out hb)
      have HB1 := hid_of (below_more HB0.out hb)
      clear C hb HO0 HB0
      go_wp2_with fail
      refine (CI _).mono ?_
      rintro e w2 ⟨rfl, rfl⟩
      clear CI
      go_wp2
      go_ret
      exact ⟨_, rfl, HO1.out, HB1.out⟩
    | true =>
      have hib := inB_true hi
      obtain ⟨k, rfl⟩ : ∃ k : Nat, i = k := ⟨i.toNat, by omega⟩
      have e1 : edgesAns os k = edgesTo os k 10 := by unfold edgesAns; rw [hok, hi, hlen]; rfl
      rw [e1]
      obtain ⟨a, cap, rfl, _, hel⟩ := id hx
      obtain ⟨p, _, _, _, rfl, _⟩ := hel 0 (by omega)
      rw [hlen] at hx ⊢
      exact specEdges_go p cap os k w hx hok (by omega) hs hf
end Go.Proofs.YtbdljoldblpffaaGreat
