/-
  What is reached, and what is not: the program.
-/
import Derived.Test.YtglpfgachcoheaaReachI9
import Derived.Test.YtglpfgachcoheaaEdgeS9
namespace Go.Proofs.Ytglpfgachcoheaa
open Go.RowKit
set_option linter.unusedVariables false
set_option maxRecDepth 100000

def reachAns (os : List Ob) (now : Int) : List Bool := if arenaOk os then reached (ledB os now) else []
theorem reached_len (os : List Ob) (now : Int) : (reached (ledB os now)).length = 10 := (reached_right ledB_lt).len
theorem boolsAns_nil (w w' : World) (h : Below w.heap.size w w') : BoolsAns [] w (.returned (.slice none 0 0)) w' := ⟨none, 0, 0, rfl, rfl, Nat.le_refl _, fun h => absurd rfl h, h⟩
theorem BoolsAns.from {xs : List Bool} {w w1 : World} {e : Ending} {w' : World} (hb : Below w.heap.size w w1) (h : BoolsAns xs w1 e w') : BoolsAns xs w e w' := by
  obtain ⟨a, n, c, he, hn, hc, hg, hb2⟩ := h
  exact ⟨a, n, c, he, hn, hc, fun h0 => by obtain ⟨g, h1, h2, h3⟩ := hg h0; exact ⟨g, h1, Nat.le_trans hb.size h2, h3⟩, below_more hb hb2⟩
theorem ls_small {os : List Ob} (hs : Small8 os) (i : Nat) : (obAt os i).ls.length ≤ 9223372036854775807 := by have := hs i; unfold obN at this; omega
set_option maxHeartbeats 1000000 in
theorem implReach_any (v : Value) (os : List Ob) (now : Int) (w : World) (hx : IsArena w v os) (hn : os.length ≤ 1048576) (hs : Small8 os) :
    Calls Try.prog 30 #[v, .int .i64 now] w fun e w' => BoolsAns (reachAns os now) w e w' := by
  have C := implArenaOk_any v os w hx hn hs
  cases hok : arenaOk os with
  | false =>
    have e1 : reachAns os now = [] := by unfold reachAns; rw [hok]; rfl
    rw [e1]
    rw [hok] at C
    clear hok e1 hx
    go_enter Try.func30, Try.ntmps30
    go_wp2_with fail
    refine C.mono ?_
    rintro e w1 ⟨rfl, hb⟩
    have HB := hid_of hb
    clear C hb
    go_wp2
    go_ret
    exact boolsAns_nil w _ HB.out
  | true =>
    have hlen : os.length = 10 := (arenaOk_parts hok).1
    have e1 : reachAns os now = reached (ledB os now) := by unfold reachAns; rw [hok]; rfl
    rw [e1]
    rw [hok] at C
    obtain ⟨a, cap, rfl, _, hel⟩ := id hx
    obtain ⟨p, _, _, _, rfl, _⟩ := hel 0 (by omega)
    rw [hlen] at hx C ⊢
    have HR : Hid (∀ w', Below w.heap.size w w' → Calls Try.prog 57 #[.slice (some p) 10 cap, .int .i64 now] w' fun e w'' => BoolsAns (reached (ledB os now)) w' e w'') := fun w' hb => implReachOf_any p cap os now w' (hx.on hb) hlen (ls_small hs)
    generalize reached (ledB os now) = r at HR ⊢
    clear hok e1 hx hel hlen hn hs
    go_enter Try.func30, Try.ntmps30
    go_wp2_with fail
    refine C.mono ?_
    rintro e w1 ⟨rfl, hb⟩
    have HB := hid_of hb
    clear C hb
    go_wp2_with fail
    refine (HR.out _ HB.out).mono ?_
    rintro e w2 h2
    have H2 := BoolsAns.from HB.out h2
    obtain ⟨a, n, c, rfl, hrest⟩ := H2
    have HREST := hid_of hrest
    clear HR HB h2 hrest
    go_wp2
    go_ret
    exact ⟨a, n, c, rfl, HREST.out⟩
def lostB (os : List Ob) (r : List Bool) (k : Nat) : Bool := !((obAt os k).kind == 0) && !(gAt r k)
def lostTo (os : List Ob) (r : List Bool) (n : Nat) : List Int := ((List.range n).filter (lostB os r)).map fun (k : Nat) => (k : Int)
theorem lostTo_next (os : List Ob) (r : List Bool) (n : Nat) : lostTo os r (n + 1) = if lostB os r n = true then lostTo os r n ++ [(n : Int)] else lostTo os r n := by
  unfold lostTo
  rw [List.range_succ, List.filter_append, List.map_append]
  cases h : lostB os r n <;> simp [h]
theorem lostTo_yes {os : List Ob} {r : List Bool} {n : Nat} (h : lostB os r n = true) : lostTo os r (n + 1) = lostTo os r n ++ [(n : Int)] := by rw [lostTo_next, if_pos h]
theorem lostTo_no {os : List Ob} {r : List Bool} {n : Nat} (h : lostB os r n = false) : lostTo os r (n + 1) = lostTo os r n := by rw [lostTo_next, if_neg (by rw [h]; simp)]
theorem lostTo_len (os : List Ob) (r : List Bool) (n : Nat) : (lostTo os r n).length ≤ n := by
  have := List.length_filter_le (lostB os r) (List.range n)
  rw [List.length_range] at this
  unfold lostTo
  rw [List.length_map]; exact this
def garbAns (os : List Ob) (now : Int) : List Int := if arenaOk os then lostTo os (reached (ledB os now)) 10 else []
theorem garbAns_len (os : List Ob) (now : Int) : (garbAns os now).length ≤ 1048576 := by
  unfold garbAns
  split
  · exact Nat.le_trans (lostTo_len _ _ _) (by decide)
  · simp
set_option maxRecDepth 100000 in
set_option maxHeartbeats 8000000 in
theorem implGarb_any (v : Value) (os : List Ob) (now : Int) (w : World) (hx : IsArena w v os) (hn : os.length ≤ 1048576) (hs : Small8 os) :
    Calls Try.prog 35 #[v, .int .i64 now] w fun e w' => IntsAns (garbAns os now) w e w' := by
  have C := implArenaOk_any v os w hx hn hs
  cases hok : arenaOk os with
  | false =>
    have e1 : garbAns os now = [] := by unfold garbAns; rw [hok]; rfl
    rw [e1]
    rw [hok] at C
    clear hok e1 hx
    go_enter Try.func35, Try.ntmps35
    go_wp2_with fail
    refine C.mono ?_
    rintro e w1 ⟨rfl, hb⟩
    have HB := hid_of hb
    clear C hb
    go_wp2
    go_ret
    exact ⟨_, rfl, World.ownsRow_nil _ _ _ _, HB.out⟩
  | true =>
    have hlen : os.length = 10 := (arenaOk_parts hok).1
    have e1 : garbAns os now = lostTo os (reached (ledB os now)) 10 := by unfold garbAns; rw [hok]; rfl
    rw [e1]
    rw [hok] at C
    obtain ⟨a, cap, rfl, hcap0, hel⟩ := id hx
    obtain ⟨p, _, _, _, rfl, _⟩ := hel 0 (by omega)
    rw [hlen] at hx C ⊢
    have hcap : 10 ≤ cap := by omega
    have HR : Hid (∀ w', Below w.heap.size w w' → Calls Try.prog 57 #[.slice (some p) 10 cap, .int .i64 now] w' fun e w'' => BoolsAns (reached (ledB os now)) w' e w'') := fun w' hb => implReachOf_any p cap os now w' (hx.on hb) hlen (ls_small hs)
    have HX : Hid (∀ w', Below w.heap.size w w' → IsArena w' (.slice (some p) 10 cap) os) := fun w' hb => hx.on hb
    have HL : Hid (os.length = 10) := hlen
    have HRL : Hid ((reached (ledB os now)).length = 10) := reached_len os now
    generalize reached (ledB os now) = r at HR HRL ⊢
    clear hok e1 hx hel hlen hn hs hcap0
    go_enter Try.func35, Try.ntmps35
    go_wp2_with fail
    refine C.mono ?_
    rintro e w1 ⟨rfl, hb⟩
    have HB := hid_of hb
    clear C hb
    go_wp2_with fail
    refine (HR.out _ HB.out).mono ?_
    rintro e w2 ⟨a, n, c, rfl, hnr, hnc, hg, hb⟩
    obtain rfl : n = 10 := by rw [hnr]; exact HRL.out
    obtain ⟨g, rfl, hgl, hrow⟩ := hg (by omega)
    have HRW := hid_of hrow
    have HB2 := hid_of (below_more HB.out hb)
    clear HR HB hnr hg hgl hrow hb
    go_wp2
    go_loopw [6, 17] (fun s5 s9 wr => ∃ (k : Nat) (xs : List Int), s9 = .int .i64 k ∧ k ≤ 10 ∧ xs.length ≤ k ∧ Hid (xs = lostTo os r k) ∧ Hid (wr.ownsRow w2.heap.size 3 1 s5 xs.length (icells xs)) ∧ Hid (Below w2.heap.size w2 wr)) (fun _ s9 _ => 10 - (intOf s9).toNat)
    case atStart => exact ⟨0, [], rfl, Nat.zero_le _, Nat.le_refl _, rfl, hid_of (World.ownsRow_nil _ _ _ _), hid_of (Below.refl _ _)⟩
    case round =>
      obtain ⟨k, xs, rfl, hk, hxk, HXS, HO, HB⟩ := hrel
      by_cases hlt : k < 10
      · obtain ⟨p', q, l, d, m, hp, hq, hcs, hu⟩ := (HX.out wr (below_more HB2.out HB.out)).at (i := k) (by rw [HL.out]; exact hlt)
        obtain rfl : p = p' := by simpa using hp
        clear hp
        obtain ⟨x1, y1, rfl, -⟩ := hu.ls
        obtain ⟨x2, y2, rfl, -⟩ := hu.ds
        obtain ⟨x3, y3, rfl, -⟩ := hu.qs
        have HY0 : Hid (lostB os r k = true → xs ++ [(k : Int)] = lostTo os r (k + 1)) := fun e => by rw [HXS.out, lostTo_yes e]
        have HN0 : Hid (lostB os r k = false → xs = lostTo os r (k + 1)) := fun e => by rw [HXS.out, lostTo_no e]
        have HLB : Hid (lostB os r k = (!((obAt os k).kind == 0) && !(gAt r k))) := rfl
        clear hu HXS
        generalize obAt os k = o at hcs HLB
        obtain ⟨c0, c1, c2, c3, c4, c5, c6, c7, c8, c9, c10, c11, c12⟩ := hcs
        have HBW : Hid (Below w2.heap.size w2 (wr.alloc (.cells #[.int .i64 o.gen, .int .i64 o.kind, .int .i64 o.into, .int .i64 o.res, .int .i64 o.unt, .int .i64 o.pages, .int .i64 o.wait, .int .i64 o.got, .int .i64 o.ran, .bool o.mark, .slice x1 o.ls.length y1, .slice x2 o.ds.length y2, .slice x3 o.qs.length y3] 35 (0, 0)))) := below_more HB.out (below_alloc wr _)
        have hrw : BolIn (wr.alloc (.cells #[.int .i64 o.gen, .int .i64 o.kind, .int .i64 o.into, .int .i64 o.res, .int .i64 o.unt, .int .i64 o.pages, .int .i64 o.wait, .int .i64 o.got, .int .i64 o.ran, .bool o.mark, .slice x1 o.ls.length y1, .slice x2 o.ds.length y2, .slice x3 o.qs.length y3] 35 (0, 0))) g r := HRW.out.on HBW.out
        have HOW : Hid ((wr.alloc (.cells #[.int .i64 o.gen, .int .i64 o.kind, .int .i64 o.into, .int .i64 o.res, .int .i64 o.unt, .int .i64 o.pages, .int .i64 o.wait, .int .i64 o.got, .int .i64 o.ran, .bool o.mark, .slice x1 o.ls.length y1, .slice x2 o.ds.length y2, .slice x3 o.qs.length y3] 35 (0, 0))).ownsRow w2.heap.size 3 1 u6 xs.length (icells xs)) := HO.out.alloc _
        have kR : (wr.alloc (.cells #[.int .i64 o.gen, .int .i64 o.kind, .int .i64 o.into, .int .i64 o.res, .int .i64 o.unt, .int .i64 o.pages, .int .i64 o.wait, .int .i64 o.got, .int .i64 o.ran, .bool o.mark, .slice x1 o.ls.length y1, .slice x2 o.ds.length y2, .slice x3 o.qs.length y3] 35 (0, 0))).cell? ⟨g, k, none⟩ = some (.bool (gAt r k)) := hrw.cell k (by rw [HRL.out]; exact hlt)
        clear HO HB hrw
        cases hkz : (o.kind != 0) with
        | false =>
          have HN : Hid (xs = lostTo os r (k + 1)) := HN0.out (by rw [HLB.out]; have e : (o.kind == 0) = true := by simpa using hkz
                                                                  rw [e]; rfl)
          clear HN0 HY0 kR HLB
          go_wp2
          go_roundw
          case rel => exact ⟨k + 1, xs, by go_num, by omega, by omega, HN, HOW, HBW⟩
          case measure => simp [intOf]; omega
        | true =>
          have HKE : Hid ((o.kind == 0) = false) := by show _ = _; simpa using hkz
          cases hgr : gAt r k with
          | true =>
            rw [hgr] at kR
            have HN : Hid (xs = lostTo os r (k + 1)) := HN0.out (by rw [HLB.out, hgr]; simp)
            clear HN0 HY0 HLB hgr
            go_wp2
            go_roundw
            case rel => exact ⟨k + 1, xs, by go_num, by omega, by omega, HN, HOW, HBW⟩
            case measure => simp [intOf]; omega
          | false =>
            rw [hgr] at kR
            have HY : Hid (xs ++ [(k : Int)] = lostTo os r (k + 1)) := HY0.out (by rw [HLB.out, hgr, HKE.out]; rfl)
            clear HN0 HY0 HLB hgr
            have H1 : Hid (((wr.alloc (.cells #[.int .i64 o.gen, .int .i64 o.kind, .int .i64 o.into, .int .i64 o.res, .int .i64 o.unt, .int .i64 o.pages, .int .i64 o.wait, .int .i64 o.got, .int .i64 o.ran, .bool o.mark, .slice x1 o.ls.length y1, .slice x2 o.ds.length y2, .slice x3 o.qs.length y3] 35 (0, 0))).alloc (.cells #[.int .i64 (k : Int)] 3 (0, 0))).ownsRow w2.heap.size 3 1 u6 xs.length (icells xs)) := HOW.out.alloc _
            have H2 : Hid (∀ (j : Nat) u, (icells [(k : Int)])[j]? = some u → ((wr.alloc (.cells #[.int .i64 o.gen, .int .i64 o.kind, .int .i64 o.into, .int .i64 o.res, .int .i64 o.unt, .int .i64 o.pages, .int .i64 o.wait, .int .i64 o.got, .int .i64 o.ran, .bool o.mark, .slice x1 o.ls.length y1, .slice x2 o.ds.length y2, .slice x3 o.qs.length y3] 35 (0, 0))).alloc (.cells #[.int .i64 (k : Int)] 3 (0, 0))).cell? ⟨wr.heap.size + 1, j, none⟩ = some u) := fun j u hj => by
              have e := one_new (wr.alloc (.cells #[.int .i64 o.gen, .int .i64 o.kind, .int .i64 o.into, .int .i64 o.res, .int .i64 o.unt, .int .i64 o.pages, .int .i64 o.wait, .int .i64 o.got, .int .i64 o.ran, .bool o.mark, .slice x1 o.ls.length y1, .slice x2 o.ds.length y2, .slice x3 o.qs.length y3] 35 (0, 0))) (k : Int) j u hj
              rwa [show (wr.alloc (.cells #[.int .i64 o.gen, .int .i64 o.kind, .int .i64 o.into, .int .i64 o.res, .int .i64 o.unt, .int .i64 o.pages, .int .i64 o.wait, .int .i64 o.got, .int .i64 o.ran, .bool o.mark, .slice x1 o.ls.length y1, .slice x2 o.ds.length y2, .slice x3 o.qs.length y3] 35 (0, 0))).heap.size = wr.heap.size + 1 by simp] at e
            have H3 : Hid (Below w2.heap.size w2 ((wr.alloc (.cells #[.int .i64 o.gen, .int .i64 o.kind, .int .i64 o.into, .int .i64 o.res, .int .i64 o.unt, .int .i64 o.pages, .int .i64 o.wait, .int .i64 o.got, .int .i64 o.ran, .bool o.mark, .slice x1 o.ls.length y1, .slice x2 o.ds.length y2, .slice x3 o.qs.length y3] 35 (0, 0))).alloc (.cells #[.int .i64 (k : Int)] 3 (0, 0)))) := HBW.out.alloc HBW.out.size _
            have H4 : Hid (w2.heap.size ≤ ((wr.alloc (.cells #[.int .i64 o.gen, .int .i64 o.kind, .int .i64 o.into, .int .i64 o.res, .int .i64 o.unt, .int .i64 o.pages, .int .i64 o.wait, .int .i64 o.got, .int .i64 o.ran, .bool o.mark, .slice x1 o.ls.length y1, .slice x2 o.ds.length y2, .slice x3 o.qs.length y3] 35 (0, 0))).alloc (.cells #[.int .i64 (k : Int)] 3 (0, 0))).heap.size) := H3.out.size
            clear HOW HBW
            go_wp2_with (at_builtin; refine wpList_appI rfl (.tmp 32) (.tmp 34) rfl w2 _ w2.heap.size (wr.heap.size + 1) _ xs [(k : Int)] 1 1 rfl rfl H1.out H2.out rfl (by omega) H4.out H3.out ?_; intro v' w3 hown' hnx')
            go_roundw
            case rel => exact ⟨k + 1, xs ++ [(k : Int)], by go_num, by omega, by simp; omega, HY, hown', hnx'⟩
            case measure => simp [intOf]; omega
      · obtain rfl : 10 = k := by omega
        have HE : Hid (wr.ownsRow w2.heap.size 3 1 u6 (lostTo os r 10).length (icells (lostTo os r 10))) := by rw [← HXS.out]; exact HO
        have HB9 := hid_of (below_more HB2.out HB.out)
        have HZ : Hid (w.heap.size ≤ w2.heap.size) := HB2.out.size
        clear HO HXS HB
        go_wp2
        go_ret
        exact ⟨_, rfl, owns_down HE.out HZ.out, HB9.out⟩
end Go.Proofs.Ytglpfgachcoheaa
