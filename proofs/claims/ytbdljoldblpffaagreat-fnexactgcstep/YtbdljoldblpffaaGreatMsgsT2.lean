/-
  Slices of messages: the laws' own copies, two alike.
-/
import Derived.Test.YtbdljoldblpffaaGreatMsgsT
namespace Go.Proofs.YtbdljoldblpffaaGreat
open Go.RowKit
set_option linter.unusedVariables false
set_option maxRecDepth 100000

theorem infoMsg : (Tryz.prog.info? 96).map (fun i => (i.zero, i.size, i.bytes)) = some (some (msV 0 0), 2, 16) := by kernel_rfl
theorem made_msgs (n : Nat) : (madeCells #[Value.int .i64 0, .int .i64 0] (n * 2)).toList = mcells (List.replicate n noMs) := by
  induction n with
  | zero => simp [madeCells, mcells]
  | succ n ih =>
    have h1 : (madeCells #[Value.int .i64 0, .int .i64 0] ((n + 1) * 2)).toList = (madeCells #[Value.int .i64 0, .int .i64 0] (n * 2)).toList ++ [.int .i64 0, .int .i64 0] := by
      rw [show (n + 1) * 2 = n * 2 + 1 + 1 by omega]
      unfold madeCells
      simp [Array.range_succ, show (n * 2 + 1) % 2 = 1 by omega]
    rw [h1, ih, List.replicate_succ', mcells_append]
    rfl
theorem make_msgs (n : Nat) (h : n ≤ 4398046511104) (w : World) :
    (Instr.makeSlice 53 (.int .i64 (n : Int)) (.int .i64 (n : Int))).run Tryz.prog w = .ok (.slice (some ⟨w.heap.size, 0, none⟩) n n) (w.alloc (.cells (mcells (List.replicate n noMs)).toArray 96 (0, 0))) := by
  obtain ⟨i, hi, hzz⟩ := Option.map_eq_some_iff.1 infoMsg
  simp only [Prod.mk.injEq] at hzz
  obtain ⟨hz, hs, hb⟩ := hzz
  have hr := run_make (P := Tryz.prog) w 53 96 i _ Tryz.underlying53 hi hz .i64 .i64 n n (by omega) (Int.le_refl _) (by rw [hb]; omega) (by omega)
  simp only [Int.toNat_natCast, hs] at hr
  have h2 : madeCells (msV 0 0).cells (n * 2) = (mcells (List.replicate n noMs)).toArray := by
    apply Array.toList_inj.1
    exact made_msgs n
  rw [h2] at hr
  exact hr
/-- Messages that are filled from the head on. -/
def fillM (ms : List Ms) (k : Nat) : List Ms := ms.take k ++ List.replicate (ms.length - k) noMs
theorem fillM_start (ms : List Ms) : fillM ms 0 = List.replicate ms.length noMs := by simp [fillM]
theorem fillM_end (ms : List Ms) : fillM ms ms.length = ms := by simp [fillM]
theorem fillM_length (ms : List Ms) (k : Nat) (h : k ≤ ms.length) : (fillM ms k).length = ms.length := by simp [fillM]; omega
theorem fillM_set (ms : List Ms) (k : Nat) (h : k < ms.length) : (fillM ms k).set k (msAt ms k) = fillM ms (k + 1) := by
  unfold fillM
  rw [show ms.length - k = (ms.length - (k + 1)) + 1 by omega, List.replicate_succ, List.set_append_right _ _ (by simp; omega)]
  rw [show k - (ms.take k).length = 0 by simp; omega, List.set_cons_zero]
  rw [show ms.take (k + 1) = ms.take k ++ [msAt ms k] by rw [List.take_add_one, List.getElem?_eq_getElem h]; simp [msAt, List.getD, h]]
  rw [List.append_assoc]
  rfl
theorem MsgIn.on {w w' : World} {g : Nat} {ms : List Ms} {rest : List Value} (h : MsgIn w g ms rest) (hb : Below w.heap.size w w') : MsgIn w' g ms rest := keep h hb
/-- Both cells of a message. -/
structure Cells2 (w : World) (q : Addr) (m : Ms) : Prop where
  c0 : w.cell? q = some (.int .i64 m.f)
  c1 : w.cell? ⟨q.block, q.off + 1, none⟩ = some (.int .i64 m.n)
theorem Cells2.on {w w' : World} {q : Addr} {m : Ms} (h : Cells2 w q m) (hb : Below w.heap.size w w') : Cells2 w' q m :=
  have hq := World.block_lt_of_cell? w _ h.c0
  ⟨(hb.cell hq).trans h.c0, (hb.cell (p := ⟨q.block, q.off + 1, none⟩) hq).trans h.c1⟩
theorem IsMsgs.at {w : World} {a : Option Addr} {n cap : Nat} {ms : List Ms} (h : IsMsgs w (.slice a n cap) ms) {i : Nat} (hi : i < ms.length) : ∃ p q, a = some p ∧ p.add (i * 2) = q ∧ Cells2 w q (msAt ms i) := by
  obtain ⟨a', cap', hv, _, hx⟩ := h
  cases hv
  obtain ⟨p, hp, h1, h2⟩ := hx i hi
  exact ⟨p, _, hp, rfl, h1, h2⟩
set_option maxHeartbeats 2000000 in
theorem toMsgS_any (v : Value) (ms : List Ms) (w : World) (hx : IsMsgs w v ms) (hn : ms.length ≤ 1048576) :
    Calls Tryz.prog 77 #[v] w fun e w' => e = .returned (.slice (some ⟨w.heap.size, 0, none⟩) ms.length ms.length) ∧ MsgIn w' w.heap.size ms [] ∧ Below w.heap.size w w' := by
  have hx0 := hx
  obtain ⟨a, cap, rfl, hcap, _⟩ := hx
  have hm := make_msgs ms.length (by omega) w
  have hs0 : MsgIn (w.alloc (.cells (mcells (List.replicate ms.length noMs)).toArray 96 (0, 0))) w.heap.size (fillM ms 0) [] := by rw [fillM_start]; unfold MsgIn; rw [List.append_nil]; exact heap_alloc_new w _
  have hb0 : Below w.heap.size w (w.alloc (.cells (mcells (List.replicate ms.length noMs)).toArray 96 (0, 0))) := below_alloc w _
  obtain ⟨W, hW⟩ : ∃ W, W = w.alloc (.cells (mcells (List.replicate ms.length noMs)).toArray 96 (0, 0)) := ⟨_, rfl⟩
  rw [← hW] at hm hs0 hb0
  have HX : Hid (∀ wr, Below w.heap.size w wr → IsMsgs wr (.slice a ms.length cap) ms) := fun wr hb => hx0.on hb
  have HS : Hid (MsgIn W w.heap.size (fillM ms 0) []) := hs0
  obtain ⟨g, hg⟩ : ∃ g, g = w.heap.size := ⟨_, rfl⟩
  have HG : Hid (g = w.heap.size) := hg
  rw [← hg] at hm HS hb0 HX ⊢
  clear hx0 hs0 hW hg
  go_enter Tryz.func77, Tryz.ntmps77
  go_wp2
  go_loopw [4] (fun i wr => ∃ k : Nat, k ≤ ms.length ∧ i = .int .i64 k ∧ Hid (MsgIn wr g (fillM ms k) []) ∧ Below g w wr) (fun i _ => ms.length - (intOf i).toNat)
  case atStart => exact ⟨0, Nat.zero_le _, rfl, HS, hb0⟩
  case round =>
    obtain ⟨k, hk, rfl, hrow, hnx⟩ := hrel
    clear HS hb0 hm
    by_cases hlt : k < ms.length
    · obtain ⟨p, q, rfl, hq, hc⟩ := (HX.out wr hnx).at hlt
      have hkl : k < (fillM ms k).length := by rw [fillM_length _ _ hk]; exact hlt
      have H1 : Hid (∀ w', Below wr.heap.size wr w' → MsgIn ((w'.setCell ⟨g, k * 2, none⟩ (.int .i64 (msAt ms k).f)).setCell ⟨g, k * 2 + 1, none⟩ (.int .i64 (msAt ms k).n)) g (fillM ms (k + 1)) [] ∧ ((∃ u, w'.cell? ⟨g, k * 2, none⟩ = some u) ∧ (∃ u, w'.cell? ⟨g, k * 2 + 1, none⟩ = some u)) ∧ ∀ i, w'.frozen? ⟨g, i, none⟩ = false) := fun w' hb => by
        have h := hrow.out.on hb
        rw [← fillM_set ms k hlt]
        exact ⟨h.set k hkl _, ⟨⟨_, (h.cell k hkl).1⟩, ⟨_, (h.cell k hkl).2⟩⟩, h.free⟩
      have C := toMsg_in (msAt ms k).f (msAt ms k).n wr
      obtain ⟨c0, c1⟩ := hc
      generalize msAt ms k = r at c0 c1 H1 C
      obtain ⟨f, n⟩ := r
      simp only at c0 c1 C
      go_wp2_with fail
      refine C.mono ?_
      rintro e w1 ⟨rfl, hb1⟩
      obtain ⟨hset, ⟨⟨u0, d0⟩, ⟨u1, d1⟩⟩, hf⟩ := H1.out w1 hb1
      have f0 := hf (k * 2)
      have f1 := hf (k * 2 + 1)
      have H2 : Hid (MsgIn ((w1.setCell ⟨g, k * 2, none⟩ (.int .i64 f)).setCell ⟨g, k * 2 + 1, none⟩ (.int .i64 n)) g (fillM ms (k + 1)) []) := hset
      have hgs : g ≤ wr.heap.size := by rw [HG.out]; exact hnx.size
      have hnx' : Below g w ((w1.setCell ⟨g, k * 2, none⟩ (.int .i64 f)).setCell ⟨g, k * 2 + 1, none⟩ (.int .i64 n)) := ((hnx.trans (hb1.mono hgs)).setCell (p := ⟨g, k * 2, none⟩) (Nat.le_refl _) _).setCell (p := ⟨g, k * 2 + 1, none⟩) (Nat.le_refl _) _
      clear C H1 hb1 hrow hnx c0 c1 hq hset hf
      go_wp2
      go_roundw
      case rel => exact ⟨k + 1, by omega, by go_num, H2, hnx'⟩
      case measure => simp [intOf]; omega
    · obtain rfl : k = ms.length := by omega
      have hend : Hid (MsgIn wr g ms []) := by have := hrow.out; rw [fillM_end] at this; exact this
      clear hrow
      go_wp2
      go_ret
      exact ⟨rfl, hend.out, hnx⟩
set_option maxHeartbeats 2000000 in
theorem eqMsgS_same (v u : Value) (ms : List Ms) (w : World) (hx : IsMsgs w v ms) (hy : IsMsgs w u ms) (hn : ms.length ≤ 1048576) :
    Calls Tryz.prog 85 #[v, u] w fun e w' => e = .returned (.bool true) ∧ Below w.heap.size w w' := by
  have hx0 := hx
  have hy0 := hy
  obtain ⟨a, cap, rfl, hcap, _⟩ := hx
  obtain ⟨b, cap', rfl, hcap', _⟩ := hy
  have HX : Hid (∀ wr, Below w.heap.size w wr → IsMsgs wr (.slice a ms.length cap) ms) := fun wr hb => hx0.on hb
  have HY : Hid (∀ wr, Below w.heap.size w wr → IsMsgs wr (.slice b ms.length cap') ms) := fun wr hb => hy0.on hb
  have hne : ((ms.length : Int) != ms.length) = false := by simp
  clear hx0 hy0
  go_enter Tryz.func85, Tryz.ntmps85
  go_wp2
  go_loopw [5] (fun i wr => ∃ k : Nat, k ≤ ms.length ∧ i = .int .i64 k ∧ Below w.heap.size w wr) (fun i _ => ms.length - (intOf i).toNat)
  case atStart => exact ⟨0, Nat.zero_le _, rfl, Below.refl _ _⟩
  case round =>
    obtain ⟨k, hk, rfl, hnx⟩ := hrel
    by_cases hlt : k < ms.length
    · obtain ⟨p, q, rfl, hq, hc⟩ := (HX.out wr hnx).at hlt
      obtain ⟨p', q', rfl, hq', hc'⟩ := (HY.out wr hnx).at hlt
      have C : Hid (∀ w, _) := eqMsg_in (msAt ms k).f (msAt ms k).n
      generalize msAt ms k = r at hc hc' C
      obtain ⟨f, n⟩ := r
      simp only at C
      have HQ : Hid (Cells2 wr q ⟨f, n⟩) := hc
      have HQ' : Hid (Cells2 wr q' ⟨f, n⟩) := hc'
      clear hc hc'
      go_wp2_with fail
      refine wp_region_whole (by kernel_rfl) (by kernel_rfl) (by kernel_rfl) (by kernel_rfl) (Flat (fun wz => Below w.heap.size w wz ∧ Below wr.heap.size wr wz) (gVals [.slice (some p) ms.length cap, .int .i64 k, .pointer (some q), msV f n, .slice (some p') ms.length cap', .int .i64 k, .pointer (some q'), msV f n, .bool true, .bool false])) (flat_start ⟨hnx.drew, (below_draw wr)⟩) ?_ ?_
      · refine ⟨?_, ?_, ?_, ?_, ?_, ?_, ?_, ?_, ?_, ?_, trivial⟩
        · intro b0 us wz L hslot hoth hLi hR hcl hdo K hK
          have s0 : b0.tmps.getD 0 undef = .slice (some p) ms.length cap := hoth 0 (by rfl)
          clear hslot hoth hdo hcl hLi
          refine guard_none (by rfl) ?_
          go_simp
          exact hK _ _ (flat_mark (hR.1) (fun _ _ h => h) hR.2 rfl)
        · intro b0 us wz L hslot hoth hLi hR hcl hdo K hK
          have s5 : b0.tmps.getD 5 undef = .int .i64 k := hoth 5 (by rfl)
          clear hslot hoth hdo hcl hLi
          refine guard_none (by rfl) ?_
          go_simp
          exact hK _ _ (flat_mark (hR.1) (fun _ _ h => h) hR.2 rfl)
        · intro b0 us wz L hslot hoth hLi hR hcl hdo K hK
          have s17 : b0.tmps.getD 17 undef = .slice (some p) ms.length cap := (hslot 0 17 (by rfl)).trans (hR.2 0 (done_at hdo 0 (by rfl)))
          have s18 : b0.tmps.getD 18 undef = .int .i64 k := (hslot 1 18 (by rfl)).trans (hR.2 1 (done_at hdo 1 (by rfl)))
          clear hslot hoth hdo hcl hLi
          refine guard_none (by rfl) ?_
          go_simp
          exact hK _ _ (flat_mark (hR.1) (fun _ _ h => h) hR.2 rfl)
        · intro b0 us wz L hslot hoth hLi hR hcl hdo K hK
          have s19 : b0.tmps.getD 19 undef = .pointer (some q) := (hslot 2 19 (by rfl)).trans (hR.2 2 (done_at hdo 2 (by rfl)))
          have c := (HQ.out.on hR.1.2)
          have k0 := c.c0
          have k1 := c.c1
          simp only at k0 k1
          clear c
          clear hslot hoth hdo hcl hLi
          refine guard_none (by rfl) ?_
          go_simp
          exact hK _ _ (flat_mark (hR.1) (fun _ _ h => h) hR.2 rfl)
        · intro b0 us wz L hslot hoth hLi hR hcl hdo K hK
          have s1 : b0.tmps.getD 1 undef = .slice (some p') ms.length cap' := hoth 1 (by rfl)
          clear hslot hoth hdo hcl hLi
          refine guard_none (by rfl) ?_
          go_simp
          exact hK _ _ (flat_mark (hR.1) (fun _ _ h => h) hR.2 rfl)
        · intro b0 us wz L hslot hoth hLi hR hcl hdo K hK
          have s5 : b0.tmps.getD 5 undef = .int .i64 k := hoth 5 (by rfl)
          clear hslot hoth hdo hcl hLi
          refine guard_none (by rfl) ?_
          go_simp
          exact hK _ _ (flat_mark (hR.1) (fun _ _ h => h) hR.2 rfl)
        · intro b0 us wz L hslot hoth hLi hR hcl hdo K hK
          have s21 : b0.tmps.getD 21 undef = .slice (some p') ms.length cap' := (hslot 4 21 (by rfl)).trans (hR.2 4 (done_at hdo 4 (by rfl)))
          have s22 : b0.tmps.getD 22 undef = .int .i64 k := (hslot 5 22 (by rfl)).trans (hR.2 5 (done_at hdo 5 (by rfl)))
          clear hslot hoth hdo hcl hLi
          refine guard_none (by rfl) ?_
          go_simp
          exact hK _ _ (flat_mark (hR.1) (fun _ _ h => h) hR.2 rfl)
        · intro b0 us wz L hslot hoth hLi hR hcl hdo K hK
          have s23 : b0.tmps.getD 23 undef = .pointer (some q') := (hslot 6 23 (by rfl)).trans (hR.2 6 (done_at hdo 6 (by rfl)))
          have c := (HQ'.out.on hR.1.2)
          have k0 := c.c0
          have k1 := c.c1
          simp only at k0 k1
          clear c
          clear hslot hoth hdo hcl hLi
          refine guard_none (by rfl) ?_
          go_simp
          exact hK _ _ (flat_mark (hR.1) (fun _ _ h => h) hR.2 rfl)
        · intro b0 us wz L hslot hoth hLi hR hcl hdo K hK
          have s20 : b0.tmps.getD 20 undef = msV f n := (hslot 3 20 (by rfl)).trans (hR.2 3 (done_at hdo 3 (by rfl)))
          have s24 : b0.tmps.getD 24 undef = msV f n := (hslot 7 24 (by rfl)).trans (hR.2 7 (done_at hdo 7 (by rfl)))
          clear hslot hoth hdo hcl hLi
          refine guard_none (by rfl) ?_
          go_simp
          refine (C.out _).mono ?_
          rintro e w' ⟨rfl, hb⟩
          exact hK _ _ (flat_mark ⟨below_more hR.1.1 hb, below_more hR.1.2 hb⟩ (fun _ _ h => h) hR.2 rfl)
        · intro b0 us wz L hslot hoth hLi hR hcl hdo K hK
          have s25 : b0.tmps.getD 25 undef = .bool true := (hslot 8 25 (by rfl)).trans (hR.2 8 (done_at hdo 8 (by rfl)))
          clear hslot hoth hdo hcl hLi
          refine guard_none (by rfl) ?_
          go_simp
          exact hK _ _ (flat_mark (hR.1) (fun _ _ h => h) hR.2 rfl)
      · intro us wn L hall hR a' ha'
        have g0 : us 0 = .slice (some p) ms.length cap := hR.2 0 (hall 0 (by decide))
        have g1 : us 1 = .int .i64 k := hR.2 1 (hall 1 (by decide))
        have g2 : us 2 = .pointer (some q) := hR.2 2 (hall 2 (by decide))
        have g3 : us 3 = msV f n := hR.2 3 (hall 3 (by decide))
        have g4 : us 4 = .slice (some p') ms.length cap' := hR.2 4 (hall 4 (by decide))
        have g5 : us 5 = .int .i64 k := hR.2 5 (hall 5 (by decide))
        have g6 : us 6 = .pointer (some q') := hR.2 6 (hall 6 (by decide))
        have g7 : us 7 = msV f n := hR.2 7 (hall 7 (by decide))
        have g8 : us 8 = .bool true := hR.2 8 (hall 8 (by decide))
        have g9 : us 9 = .bool false := hR.2 9 (hall 9 (by decide))
        have HB1 : Hid (Below w.heap.size w wn) := hR.1.1
        clear hR hall
        simp only [putAll, g0, g1, g2, g3, g4, g5, g6, g7, g8, g9] at ha'
        subst ha'
        go_frame
        clear hq hq' HQ HQ' C
        go_wp2
        exact ⟨⟨k + 1, by omega, by go_num, HB1.out⟩, by simp [intOf]; omega⟩
    · obtain rfl : k = ms.length := by omega
      go_wp2
      go_ret
      exact ⟨rfl, hnx⟩
end Go.Proofs.YtbdljoldblpffaaGreat
