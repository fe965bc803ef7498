/-
  What a visit marks: the program's function that calls itself. What is reached: the program.
-/
import Derived.Test.YtbdljoldblpffaaGreatEdgeT9
import Derived.Test.YtbdljoldblpffaaGreatCap9
import Derived.Test.YtbdljoldblpffaaGreatLead
import Derived.Test.YtbdljoldblpffaaGreatArOkI
namespace Go.Proofs.YtbdljoldblpffaaGreat
open Go.RowKit
set_option linter.unusedVariables false
set_option maxRecDepth 100000

/-- Thing i leads to thing m, which is there. -/
def ledB (os : List Ob) (now : Int) (i m : Nat) : Bool := decide (m < 10) && (edgeB os i m && !(expB (obAt os m) now))
theorem ledB_lt {os : List Ob} {now : Int} (i m : Nat) (h : ledB os now i m = true) : m < 10 := by
  unfold ledB at h
  simp only [Bool.and_eq_true, decide_eq_true_eq] at h
  exact h.1
theorem edges_mem {os : List Ob} {i n m : Nat} : (m : Int) ∈ edgesTo os i n ↔ m < n ∧ edgeB os i m = true := by
  unfold edgesTo
  rw [List.mem_map]
  constructor
  · rintro ⟨k, hk, he⟩
    obtain rfl : k = m := by omega
    rw [List.mem_filter, List.mem_range] at hk
    exact hk
  · rintro ⟨h1, h2⟩
    exact ⟨m, by rw [List.mem_filter, List.mem_range]; exact ⟨h1, h2⟩, rfl⟩
theorem edges_at {os : List Ob} {i n k : Nat} (h : k < (edgesTo os i n).length) : ∃ m : Nat, (edgesTo os i n).getD k 0 = (m : Int) ∧ m < n ∧ edgeB os i m = true := by
  have hm : (edgesTo os i n).getD k 0 ∈ edgesTo os i n := all_memI h
  obtain ⟨m, hm2, he⟩ : ∃ m : Nat, (edgesTo os i n).getD k 0 = (m : Int) ∧ (m : Int) ∈ edgesTo os i n := by
    unfold edgesTo at hm
    obtain ⟨m, h1, h2⟩ := List.mem_map.1 hm
    refine ⟨m, h2.symm, ?_⟩
    unfold edgesTo
    exact List.mem_map.2 ⟨m, h1, rfl⟩
  exact ⟨m, hm2, edges_mem.1 he⟩
theorem Visit.less {S : Nat → Nat → Bool} {i : Nat} {D D' : Nat → Prop} {r r1 : List Bool} (h : Visit S i D r r1) (hd : ∀ m, D' m → D m) : Visit S i D' r r1 :=
  ⟨h.len, h.here, h.sub, h.leads, h.closed, fun m hm => h.asked m (hd m hm)⟩
theorem Visit.many {S : Nat → Nat → Bool} {i : Nat} {D : Nat → Prop} {r r1 : List Bool} (h : Visit S i D r r1) (hl : r.length = 10) (h0 : gAt r i = false) : cnt r < cnt r1 :=
  cnt_lt r r1 (hl.trans h.len.symm) h.sub fun e => by have := h.here; rw [← e, h0] at this; exact absurd this (by simp)
abbrev fnV (a b c d : Nat) : Value := .func (.func 71) #[] #[.pointer (some ⟨a, 0, none⟩), .pointer (some ⟨b, 0, none⟩), .pointer (some ⟨c, 0, none⟩), .pointer (some ⟨d, 0, none⟩)]
/-- What the visits share: the arena, the marks in block R, and the boxes of what is captured. -/
structure Vst (w0 : World) (p : Addr) (cap : Nat) (now : Int) (R a b c d : Nat) (r : List Bool) (w : World) : Prop where
  base : Below w0.heap.size w0 w
  low : w0.heap.size ≤ R
  row : BolIn w R r
  ha : w.heap[a]? = some (.cells #[.slice (some ⟨R, 0, none⟩) 10 10] 66 (0, 0))
  hb : w.heap[b]? = some (.cells #[.slice (some p) 10 cap] 29 (0, 0))
  hc : w.heap[c]? = some (.cells #[.int .i64 now] 3 (0, 0))
  hd : w.heap[d]? = some (.cells #[fnV a b c d] 48 (0, 0))
  na : a ≠ R
  nb : b ≠ R
  nc : c ≠ R
  nd : d ≠ R
theorem cell_one {w : World} {b : Nat} {x : Value} {t : TypeId} (h : w.heap[b]? = some (.cells #[x] t (0, 0))) : w.cell? ⟨b, 0, none⟩ = some x := by simp [World.cell?, h]
theorem Vst.on {w0 : World} {p : Addr} {cap : Nat} {now : Int} {R a b c d : Nat} {r : List Bool} {w w' : World} (h : Vst w0 p cap now R a b c d r w) (hb : Below w.heap.size w w') : Vst w0 p cap now R a b c d r w' :=
  ⟨below_more h.base hb, h.low, h.row.on hb, keep h.ha hb, keep h.hb hb, keep h.hc hb, keep h.hd hb, h.na, h.nb, h.nc, h.nd⟩
theorem Vst.mark {w0 : World} {p : Addr} {cap : Nat} {now : Int} {R a b c d : Nat} {r : List Bool} {w : World} (h : Vst w0 p cap now R a b c d r w) (i : Nat) : Vst w0 p cap now R a b c d (r.set i true) (w.setCell ⟨R, i, none⟩ (.bool true)) ∧ Touch [R] w (w.setCell ⟨R, i, none⟩ (.bool true)) :=
  have ht : Touch [R] w (w.setCell ⟨R, i, none⟩ (.bool true)) := touch_one (grownBy_set w R i _) (lt_of_block h.row)
  ⟨⟨ht.below _ _ (by simpa using h.low) h.base, h.low, h.row.set i true, ht.block _ _ (by simpa using h.na) h.ha, ht.block _ _ (by simpa using h.nb) h.hb, ht.block _ _ (by simpa using h.nc) h.hc, ht.block _ _ (by simpa using h.nd) h.hd, h.na, h.nb, h.nc, h.nd⟩, ht⟩
theorem touch_below {R : Nat} {w w' : World} (h : Below w.heap.size w w') (hR : R < w.heap.size) : Touch [R] w w' := ⟨fun k x _ hx => keep hx h, fun B w0 hB hb => hb.trans (h.mono (by have := hB R (by simp); omega))⟩
def Holds8 (x y : Bool) : Prop := x = y
theorem enterV (x : Int) (a b c d : Nat) (w : World) : Sem.run Tryz.prog (callFunc 71 #[.int .i64 x, .pointer (some ⟨a, 0, none⟩), .pointer (some ⟨b, 0, none⟩), .pointer (some ⟨c, 0, none⟩), .pointer (some ⟨d, 0, none⟩)]) w = .ok (.enter 71 #[.int .i64 x, .pointer (some ⟨a, 0, none⟩), .pointer (some ⟨b, 0, none⟩), .pointer (some ⟨c, 0, none⟩), .pointer (some ⟨d, 0, none⟩)]) w := by rfl
/-- A visit's contract, for n places at most that are not marked yet. -/
def VisitOk (w0 : World) (p : Addr) (cap : Nat) (os : List Ob) (now : Int) (R a b c d n : Nat) : Prop := ∀ (r : List Bool) (i : Nat) (w : World), Vst w0 p cap now R a b c d r w → r.length = 10 → i < 10 → gAt r i = false → Leads (ledB os now) i → 10 ≤ cnt r + n →
  Calls Tryz.prog 71 #[.int .i64 i, .pointer (some ⟨a, 0, none⟩), .pointer (some ⟨b, 0, none⟩), .pointer (some ⟨c, 0, none⟩), .pointer (some ⟨d, 0, none⟩)] w fun e w' => (∃ u, e = .returned u) ∧ ∃ r', Visited (ledB os now) i r r' ∧ Vst w0 p cap now R a b c d r' w' ∧ Touch [R] w w'
set_option maxRecDepth 100000 in
set_option maxHeartbeats 8000000 in
theorem visit_next (w0 : World) (p : Addr) (cap : Nat) (os : List Ob) (now : Int) (R a b c d n : Nat) (hx : IsArena w0 (.slice (some p) 10 cap) os) (hl : os.length = 10) (hs : ∀ i, (obAt os i).ls.length ≤ 9223372036854775807) (IH : VisitOk w0 p cap os now R a b c d n) : VisitOk w0 p cap os now R a b c d (n + 1) := by
  intro r i w hv hr hi h0 hL hn
  have HX : Hid (∀ w', Below w0.heap.size w0 w' → IsArena w' (.slice (some p) 10 cap) os) := fun w' hb => hx.on hb
  have HIH : Hid (VisitOk w0 p cap os now R a b c d n) := IH
  have HLEN : Hid (os.length = 10) := hl
  have HN : Hid (r.length = 10 ∧ gAt r i = false ∧ 10 ≤ cnt r + (n + 1) ∧ Leads (ledB os now) i) := ⟨hr, h0, hn, hL⟩
  have HE : Hid (∀ w', Below w0.heap.size w0 w' → Calls Tryz.prog 72 #[.slice (some p) 10 cap, .int .i64 i] w' fun e w'' => IntsAns (edgesTo os i 10) w' e w'') := fun w' hb => by
    have e := implEdgesOf_any _ os i w' (hx.on hb) (by omega) (by omega) (hs i)
    rw [hl] at e
    exact e
  have HCAP : Hid (10 ≤ cap) := by obtain ⟨_, _, hv, h, _⟩ := hx; have e := (Value.slice.inj hv).2.2; show 10 ≤ cap; omega
  have HV0 := hid_of hv
  have HV1 := hid_of (hv.mark i)
  have HS1 : Hid (Visit (ledB os now) i (fun _ => False) r (r.set i true)) := visit_start hr hi hL
  have kA := cell_one hv.ha
  have kR := hv.row.cell i (by rw [hr]; exact hi)
  have fR := hv.row.free i
  have kA2 := cell_one HV1.out.1.ha
  have kB2 := cell_one HV1.out.1.hb
  have HENT : Hid (∀ (x : Int) w', Sem.run Tryz.prog (callFunc 71 #[.int .i64 x, .pointer (some ⟨a, 0, none⟩), .pointer (some ⟨b, 0, none⟩), .pointer (some ⟨c, 0, none⟩), .pointer (some ⟨d, 0, none⟩)]) w' = .ok (.enter 71 #[.int .i64 x, .pointer (some ⟨a, 0, none⟩), .pointer (some ⟨b, 0, none⟩), .pointer (some ⟨c, 0, none⟩), .pointer (some ⟨d, 0, none⟩)]) w') := fun x w' => enterV x a b c d w'
  have hcap := HCAP.out
  clear hx hl hs IH hv hr h0 hL hn
  go_enter Tryz.func71, Tryz.ntmps71
  go_wp2_with fail
  refine (HE.out _ HV1.out.1.base).mono ?_
  rintro e w1 ⟨v1, rfl, ho, hb⟩
  obtain ⟨es, hes⟩ : ∃ es, es = edgesTo os i 10 := ⟨_, rfl⟩
  rw [← hes] at ho
  have HES := hid_of hes
  have HV2 := hid_of (HV1.out.1.on hb)
  have HT2 : Hid (Touch [R] w w1) := HV1.out.2.trans (touch_below hb (lt_of_block HV1.out.1.row))
  have HO := hid_of (show w1.ownsRow w.heap.size 3 1 v1 es.length (icells es) from owns_down ho (by simp))
  have hels : es.length ≤ 10 := by rw [hes]; exact edgesTo_len _ _ _
  obtain ⟨av, cv, rfl⟩ := owns_len ho
  obtain ⟨nl, hnl⟩ : ∃ nl, nl = es.length := ⟨_, rfl⟩
  rw [← hnl] at HO hels ⊢
  have HNL := hid_of hnl
  clear HE kA kR fR kA2 kB2 hes ho hb hnl
  go_wp2
  go_loopw [15] (fun s15 wr => ∃ (k : Nat) (r2 : List Bool), k ≤ nl ∧ s15 = .int .i64 k ∧ Hid (Visit (ledB os now) i (fun m => (m : Int) ∈ es.take k) r r2 ∧ Vst w0 p cap now R a b c d r2 wr ∧ Touch [R] w1 wr)) (fun s15 _ => nl - (intOf s15).toNat)
  case atStart => exact ⟨0, _, Nat.zero_le _, rfl, HS1.out.less (fun m hm => by simp at hm), HV2.out, touch_any _ _⟩
  case round =>
    obtain ⟨k, r2, hk, rfl, hin⟩ := hrel
    clear HS1 HV2
    by_cases hlt : k < nl
    · obtain ⟨m, hm, hm10, hedge⟩ := edges_at (os := os) (i := i) (n := 10) (k := k) (by rw [← HES.out, ← HNL.out]; exact hlt)
      rw [← HES.out] at hm
      obtain ⟨g, cg, rest, hav, hgb, _, _, _, hrow⟩ := rowIn_own (xs := es) (by rw [← HNL.out]; exact HO.out) (by rw [← HNL.out]; omega)
      obtain rfl : av = some ⟨g, 0, none⟩ := by simpa using (Value.slice.inj hav).1
      have hgR : g ≠ R := by have := lt_of_block HV0.out.row; omega
      have hrow2 : RowIn wr g es rest := hin.out.2.2.block _ _ (by simpa using hgR) hrow
      have kE := hrow2.cell k (by rw [← HNL.out]; exact hlt)
      rw [hm] at kE
      obtain ⟨p', q, l, dd, mm, hp, hq, hcs, hu⟩ := (HX.out wr hin.out.2.1.base).at (i := m) (by rw [HLEN.out]; exact hm10)
      obtain rfl : p = p' := by simpa using hp
      have HQ := hid_of hq
      have HA : Hid (∀ wz, Below wr.heap.size wr wz → wz.cell? ⟨a, 0, none⟩ = some (.slice (some ⟨R, 0, none⟩) 10 10)) := fun wz hb => cell_one (keep hin.out.2.1.ha hb)
      have HBX : Hid (∀ wz, Below wr.heap.size wr wz → wz.cell? ⟨b, 0, none⟩ = some (.slice (some p) 10 cap)) := fun wz hb => cell_one (keep hin.out.2.1.hb hb)
      have HCX : Hid (∀ wz, Below wr.heap.size wr wz → wz.cell? ⟨c, 0, none⟩ = some (.int .i64 now)) := fun wz hb => cell_one (keep hin.out.2.1.hc hb)
      have HM : Hid (∀ wz, Below wr.heap.size wr wz → wz.cell? ⟨R, m, none⟩ = some (.bool (gAt r2 m))) := fun wz hb => (hin.out.2.1.row.on hb).cell m (by rw [hin.out.1.len]; exact hm10)
      have HEX : Hid (∀ wz, Calls Tryz.prog 73 #[obV (obAt os m) l dd mm, .int .i64 now] wz fun e w' => e = .returned (.bool (expB (obAt os m) now)) ∧ Below wz.heap.size wz w') := fun wz => implExp_any _ l dd mm now wz
      have HTK : Hid (es.take (k + 1) = es.take k ++ [(m : Int)]) := by show _ = _; rw [take_oneI (by rw [← HNL.out]; exact hlt), hm]
      have HCS : Hid (ObCells wr q (obAt os m) l dd mm) := hcs
      have HST : Hid (ledB os now i m = !(expB (obAt os m) now)) := by show _ = _; unfold ledB; rw [decide_eq_true hm10, hedge]; rfl
      generalize obAt os m = ob at HEX HCS HST
      generalize expB ob now = x at HEX HST
      have HG := hid_of hin
      have HENTC := HENT.out (m : Int)
      have hmi : (m : Int) < 10 := by omega
      clear hm hedge hav hgb hrow hrow2 hp hq hcs hu hin hgR
      cases hy : (!gAt r2 m && !x) with
      | false =>
        have HL : Hid (∃ (l0 : List Value), (l0 = [.slice (some ⟨R, 0, none⟩) 10 10, .int .i64 m, .pointer (some ⟨R, m, none⟩), .bool true, .bool false, .bool false, undef, undef, undef, undef, undef, undef, undef, .bool false] ∧ Holds8 (gAt r2 m) true) ∨ (l0 = [.slice (some ⟨R, 0, none⟩) 10 10, .int .i64 m, .pointer (some ⟨R, m, none⟩), .bool false, .bool true, .bool true, .slice (some p) 10 cap, .int .i64 m, .pointer (some q), obV ob l dd mm, .int .i64 now, .bool true, .bool false, .bool false] ∧ Holds8 (gAt r2 m) false ∧ Holds8 x true)) := by
          cases hg : gAt r2 m with
          | true => exact ⟨_, .inl ⟨rfl, rfl⟩⟩
          | false =>
            have hxx : x = true := by rw [hg] at hy; simpa using hy
            exact ⟨_, .inr ⟨rfl, rfl, hxx⟩⟩
        have HNX : Hid (ledB os now i m = true → gAt r2 m = true) := fun e => by
          rw [HST.out] at e
          cases hg : gAt r2 m with
          | true => rfl
          | false => rw [hg, e] at hy; exact absurd hy (by simp)
        obtain ⟨l0, HL1⟩ := HL.out
        have HL : Hid ((l0 = [.slice (some ⟨R, 0, none⟩) 10 10, .int .i64 m, .pointer (some ⟨R, m, none⟩), .bool true, .bool false, .bool false, undef, undef, undef, undef, undef, undef, undef, .bool false] ∧ Holds8 (gAt r2 m) true) ∨ (l0 = [.slice (some ⟨R, 0, none⟩) 10 10, .int .i64 m, .pointer (some ⟨R, m, none⟩), .bool false, .bool true, .bool true, .slice (some p) 10 cap, .int .i64 m, .pointer (some q), obV ob l dd mm, .int .i64 now, .bool true, .bool false, .bool false] ∧ Holds8 (gAt r2 m) false ∧ Holds8 x true)) := HL1
        clear HL1 hy
        go_wp2_with fail
        refine wp_region_whole (by kernel_rfl) (by kernel_rfl) (by kernel_rfl) (by kernel_rfl) (Flat (fun wz => Below wr.heap.size wr wz) (gVals l0)) (flat_start (below_draw _)) ?_ ?_
        · refine ⟨?_, ?_, ?_, ?_, ?_, ?_, ?_, ?_, ?_, ?_, ?_, ?_, ?_, ?_, trivial⟩
          · intro b0 us wz L hslot hoth hLi hR hcl hdo K hK
            rcases HL.out with ⟨rfl, HT⟩ | ⟨rfl, HT, HX1⟩
            · have s1 : b0.tmps.getD 1 undef = .pointer (some ⟨a, 0, none⟩) := hoth 1 (by rfl)
              have kA := HA.out wz hR.1
              clear hslot hoth hdo hcl hLi
              refine guard_none (by rfl) ?_
              go_simp
              exact hK _ _ (flat_mark (hR.1) (fun _ _ h => h) hR.2 rfl)
            · have s1 : b0.tmps.getD 1 undef = .pointer (some ⟨a, 0, none⟩) := hoth 1 (by rfl)
              have kA := HA.out wz hR.1
              clear hslot hoth hdo hcl hLi
              refine guard_none (by rfl) ?_
              go_simp
              exact hK _ _ (flat_mark (hR.1) (fun _ _ h => h) hR.2 rfl)
          · intro b0 us wz L hslot hoth hLi hR hcl hdo K hK
            rcases HL.out with ⟨rfl, HT⟩ | ⟨rfl, HT, HX1⟩
            · have s7 : b0.tmps.getD 7 undef = .int .i64 m := hoth 7 (by rfl)
              clear hslot hoth hdo hcl hLi
              refine guard_none (by rfl) ?_
              go_simp
              exact hK _ _ (flat_mark (hR.1) (fun _ _ h => h) hR.2 rfl)
            · have s7 : b0.tmps.getD 7 undef = .int .i64 m := hoth 7 (by rfl)
              clear hslot hoth hdo hcl hLi
              refine guard_none (by rfl) ?_
              go_simp
              exact hK _ _ (flat_mark (hR.1) (fun _ _ h => h) hR.2 rfl)
          · intro b0 us wz L hslot hoth hLi hR hcl hdo K hK
            rcases HL.out with ⟨rfl, HT⟩ | ⟨rfl, HT, HX1⟩
            · have s19 : b0.tmps.getD 19 undef = .slice (some ⟨R, 0, none⟩) 10 10 := (hslot 0 19 (by rfl)).trans (hR.2 0 (done_at hdo 0 (by rfl)))
              have s20 : b0.tmps.getD 20 undef = .int .i64 m := (hslot 1 20 (by rfl)).trans (hR.2 1 (done_at hdo 1 (by rfl)))
              clear hslot hoth hdo hcl hLi
              refine guard_none (by rfl) ?_
              go_simp
              exact hK _ _ (flat_mark (hR.1) (fun _ _ h => h) hR.2 rfl)
            · have s19 : b0.tmps.getD 19 undef = .slice (some ⟨R, 0, none⟩) 10 10 := (hslot 0 19 (by rfl)).trans (hR.2 0 (done_at hdo 0 (by rfl)))
              have s20 : b0.tmps.getD 20 undef = .int .i64 m := (hslot 1 20 (by rfl)).trans (hR.2 1 (done_at hdo 1 (by rfl)))
              clear hslot hoth hdo hcl hLi
              refine guard_none (by rfl) ?_
              go_simp
              exact hK _ _ (flat_mark (hR.1) (fun _ _ h => h) hR.2 rfl)
          · intro b0 us wz L hslot hoth hLi hR hcl hdo K hK
            rcases HL.out with ⟨rfl, HT⟩ | ⟨rfl, HT, HX1⟩
            · have s21 : b0.tmps.getD 21 undef = .pointer (some ⟨R, m, none⟩) := (hslot 2 21 (by rfl)).trans (hR.2 2 (done_at hdo 2 (by rfl)))
              have kM := (HM.out wz hR.1).trans (congrArg (fun b => some (Value.bool b)) HT)
              clear hslot hoth hdo hcl hLi
              refine guard_none (by rfl) ?_
              go_simp
              exact hK _ _ (flat_mark (hR.1) (fun _ _ h => h) hR.2 rfl)
            · have s21 : b0.tmps.getD 21 undef = .pointer (some ⟨R, m, none⟩) := (hslot 2 21 (by rfl)).trans (hR.2 2 (done_at hdo 2 (by rfl)))
              have kM := (HM.out wz hR.1).trans (congrArg (fun b => some (Value.bool b)) HT)
              clear hslot hoth hdo hcl hLi
              refine guard_none (by rfl) ?_
              go_simp
              exact hK _ _ (flat_mark (hR.1) (fun _ _ h => h) hR.2 rfl)
          · intro b0 us wz L hslot hoth hLi hR hcl hdo K hK
            rcases HL.out with ⟨rfl, HT⟩ | ⟨rfl, HT, HX1⟩
            · have s22 : b0.tmps.getD 22 undef = .bool true := (hslot 3 22 (by rfl)).trans (hR.2 3 (done_at hdo 3 (by rfl)))
              clear hslot hoth hdo hcl hLi
              refine guard_none (by rfl) ?_
              go_simp
              exact hK _ _ (flat_mark (hR.1) (fun _ _ h => h) hR.2 rfl)
            · have s22 : b0.tmps.getD 22 undef = .bool false := (hslot 3 22 (by rfl)).trans (hR.2 3 (done_at hdo 3 (by rfl)))
              clear hslot hoth hdo hcl hLi
              refine guard_none (by rfl) ?_
              go_simp
              exact hK _ _ (flat_mark (hR.1) (fun _ _ h => h) hR.2 rfl)
          · intro b0 us wz L hslot hoth hLi hR hcl hdo K hK
            rcases HL.out with ⟨rfl, HT⟩ | ⟨rfl, HT, HX1⟩
            · have s23 : b0.tmps.getD 23 undef = .bool false := (hslot 4 23 (by rfl)).trans (hR.2 4 (done_at hdo 4 (by rfl)))
              clear hslot hoth hdo hcl hLi
              refine guard_none (by rfl) ?_
              go_simp
              exact hK _ _ (flat_mark (hR.1) (fun _ _ h => h) hR.2 rfl)
            · have s23 : b0.tmps.getD 23 undef = .bool true := (hslot 4 23 (by rfl)).trans (hR.2 4 (done_at hdo 4 (by rfl)))
              clear hslot hoth hdo hcl hLi
              refine guard_none (by rfl) ?_
              go_simp
              exact hK _ _ (flat_mark (hR.1) (fun _ _ h => h) hR.2 rfl)
          · intro b0 us wz L hslot hoth hLi hR hcl hdo K hK
            rcases HL.out with ⟨rfl, HT⟩ | ⟨rfl, HT, HX1⟩
            · have gg : us 5 = .bool false := hR.2 5 (done_at hdo 5 (by rfl))
              refine guard_off (j := 5) (want := true) (d := 24) (by rfl) (by rfl) gg (by rfl) ?_
              exact hK undef _ (flat_mark (hR.1) (fun _ _ h => h) hR.2 rfl)
            · have gg : us 5 = .bool true := hR.2 5 (done_at hdo 5 (by rfl))
              have s2 : b0.tmps.getD 2 undef = .pointer (some ⟨b, 0, none⟩) := hoth 2 (by rfl)
              have kB := HBX.out wz hR.1
              clear hslot hoth hdo hcl hLi
              refine guard_on (j := 5) (want := true) (d := 24) (by rfl) (by rfl) gg ?_
              go_simp
              exact hK _ _ (flat_mark (hR.1) (fun _ _ h => h) hR.2 rfl)
          · intro b0 us wz L hslot hoth hLi hR hcl hdo K hK
            rcases HL.out with ⟨rfl, HT⟩ | ⟨rfl, HT, HX1⟩
            · have gg : us 5 = .bool false := hR.2 5 (done_at hdo 5 (by rfl))
              refine guard_off (j := 5) (want := true) (d := 24) (by rfl) (by rfl) gg (by rfl) ?_
              exact hK undef _ (flat_mark (hR.1) (fun _ _ h => h) hR.2 rfl)
            · have gg : us 5 = .bool true := hR.2 5 (done_at hdo 5 (by rfl))
              have s7 : b0.tmps.getD 7 undef = .int .i64 m := hoth 7 (by rfl)
              clear hslot hoth hdo hcl hLi
              refine guard_on (j := 5) (want := true) (d := 24) (by rfl) (by rfl) gg ?_
              go_simp
              exact hK _ _ (flat_mark (hR.1) (fun _ _ h => h) hR.2 rfl)
          · intro b0 us wz L hslot hoth hLi hR hcl hdo K hK
            rcases HL.out with ⟨rfl, HT⟩ | ⟨rfl, HT, HX1⟩
            · have gg : us 5 = .bool false := hR.2 5 (done_at hdo 5 (by rfl))
              refine guard_off (j := 5) (want := true) (d := 24) (by rfl) (by rfl) gg (by rfl) ?_
              exact hK undef _ (flat_mark (hR.1) (fun _ _ h => h) hR.2 rfl)
            · have gg : us 5 = .bool true := hR.2 5 (done_at hdo 5 (by rfl))
              have s25 : b0.tmps.getD 25 undef = .slice (some p) 10 cap := (hslot 6 25 (by rfl)).trans (hR.2 6 (done_at hdo 6 (by rfl)))
              have s26 : b0.tmps.getD 26 undef = .int .i64 m := (hslot 7 26 (by rfl)).trans (hR.2 7 (done_at hdo 7 (by rfl)))
              have hq := HQ.out
              clear hslot hoth hdo hcl hLi
              refine guard_on (j := 5) (want := true) (d := 24) (by rfl) (by rfl) gg ?_
              go_simp
              exact hK _ _ (flat_mark (hR.1) (fun _ _ h => h) hR.2 rfl)
          · intro b0 us wz L hslot hoth hLi hR hcl hdo K hK
            rcases HL.out with ⟨rfl, HT⟩ | ⟨rfl, HT, HX1⟩
            · have gg : us 5 = .bool false := hR.2 5 (done_at hdo 5 (by rfl))
              refine guard_off (j := 5) (want := true) (d := 24) (by rfl) (by rfl) gg (by rfl) ?_
              exact hK undef _ (flat_mark (hR.1) (fun _ _ h => h) hR.2 rfl)
            · have gg : us 5 = .bool true := hR.2 5 (done_at hdo 5 (by rfl))
              have s27 : b0.tmps.getD 27 undef = .pointer (some q) := (hslot 8 27 (by rfl)).trans (hR.2 8 (done_at hdo 8 (by rfl)))
              obtain ⟨c0, c1, c2, c3, c4, c5, c6, c7, c8, c9, c10, c11, c12⟩ := HCS.out.on hR.1
              clear hslot hoth hdo hcl hLi
              refine guard_on (j := 5) (want := true) (d := 24) (by rfl) (by rfl) gg ?_
              go_simp
              exact hK _ _ (flat_mark (hR.1) (fun _ _ h => h) hR.2 rfl)
          · intro b0 us wz L hslot hoth hLi hR hcl hdo K hK
            rcases HL.out with ⟨rfl, HT⟩ | ⟨rfl, HT, HX1⟩
            · have gg : us 5 = .bool false := hR.2 5 (done_at hdo 5 (by rfl))
              refine guard_off (j := 5) (want := true) (d := 24) (by rfl) (by rfl) gg (by rfl) ?_
              exact hK undef _ (flat_mark (hR.1) (fun _ _ h => h) hR.2 rfl)
            · have gg : us 5 = .bool true := hR.2 5 (done_at hdo 5 (by rfl))
              have s3 : b0.tmps.getD 3 undef = .pointer (some ⟨c, 0, none⟩) := hoth 3 (by rfl)
              have kC := HCX.out wz hR.1
              clear hslot hoth hdo hcl hLi
              refine guard_on (j := 5) (want := true) (d := 24) (by rfl) (by rfl) gg ?_
              go_simp
              exact hK _ _ (flat_mark (hR.1) (fun _ _ h => h) hR.2 rfl)
          · intro b0 us wz L hslot hoth hLi hR hcl hdo K hK
            rcases HL.out with ⟨rfl, HT⟩ | ⟨rfl, HT, HX1⟩
            · have gg : us 5 = .bool false := hR.2 5 (done_at hdo 5 (by rfl))
              refine guard_off (j := 5) (want := true) (d := 24) (by rfl) (by rfl) gg (by rfl) ?_
              exact hK undef _ (flat_mark (hR.1) (fun _ _ h => h) hR.2 rfl)
            · have gg : us 5 = .bool true := hR.2 5 (done_at hdo 5 (by rfl))
              have s28 : b0.tmps.getD 28 undef = obV ob l dd mm := (hslot 9 28 (by rfl)).trans (hR.2 9 (done_at hdo 9 (by rfl)))
              have s29 : b0.tmps.getD 29 undef = .int .i64 now := (hslot 10 29 (by rfl)).trans (hR.2 10 (done_at hdo 10 (by rfl)))
              clear hslot hoth hdo hcl hLi
              refine guard_on (j := 5) (want := true) (d := 24) (by rfl) (by rfl) gg ?_
              go_simp
              refine (HEX.out wz).mono ?_
              rintro e w' ⟨rfl, hb⟩
              exact hK _ _ (flat_mark (below_more hR.1 hb) (fun _ _ h => h) hR.2 (show Value.bool x = Value.bool true from congrArg Value.bool HX1))
          · intro b0 us wz L hslot hoth hLi hR hcl hdo K hK
            rcases HL.out with ⟨rfl, HT⟩ | ⟨rfl, HT, HX1⟩
            · have gg : us 5 = .bool false := hR.2 5 (done_at hdo 5 (by rfl))
              refine guard_off (j := 5) (want := true) (d := 24) (by rfl) (by rfl) gg (by rfl) ?_
              exact hK undef _ (flat_mark (hR.1) (fun _ _ h => h) hR.2 rfl)
            · have gg : us 5 = .bool true := hR.2 5 (done_at hdo 5 (by rfl))
              have s30 : b0.tmps.getD 30 undef = .bool true := (hslot 11 30 (by rfl)).trans (hR.2 11 (done_at hdo 11 (by rfl)))
              clear hslot hoth hdo hcl hLi
              refine guard_on (j := 5) (want := true) (d := 24) (by rfl) (by rfl) gg ?_
              go_simp
              exact hK _ _ (flat_mark (hR.1) (fun _ _ h => h) hR.2 rfl)
          · intro b0 us wz L hslot hoth hLi hR hcl hdo K hK
            rcases HL.out with ⟨rfl, HT⟩ | ⟨rfl, HT, HX1⟩
            · have s24 : b0.tmps.getD 24 undef = .bool false := (hslot 5 24 (by rfl)).trans (hR.2 5 (done_at hdo 5 (by rfl)))
              have s31 : b0.tmps.getD 31 undef = undef := (hslot 12 31 (by rfl)).trans (hR.2 12 (done_at hdo 12 (by rfl)))
              clear hslot hoth hdo hcl hLi
              refine guard_none (by rfl) ?_
              go_simp
              exact hK _ _ (flat_mark (hR.1) (fun _ _ h => h) hR.2 rfl)
            · have s24 : b0.tmps.getD 24 undef = .bool true := (hslot 5 24 (by rfl)).trans (hR.2 5 (done_at hdo 5 (by rfl)))
              have s31 : b0.tmps.getD 31 undef = .bool false := (hslot 12 31 (by rfl)).trans (hR.2 12 (done_at hdo 12 (by rfl)))
              clear hslot hoth hdo hcl hLi
              refine guard_none (by rfl) ?_
              go_simp
              exact hK _ _ (flat_mark (hR.1) (fun _ _ h => h) hR.2 rfl)
        · intro us wn L hall hR a' ha'
          have g13 : us 13 = .bool false := by
            have := hR.2 13 (hall 13 (by decide))
            rcases HL.out with ⟨rfl, HT⟩ | ⟨rfl, HT, HX1⟩
            all_goals exact this
          have HB := hid_of hR.1
          clear hR hall
          simp only [putAll, g13] at ha'
          subst ha'
          go_frame
          clear HL HA HBX HCX HM HEX
          go_wp2
          go_roundw
          case rel => exact ⟨k + 1, r2, by omega, by go_num, (HG.out.1.pass HNX.out).less (fun m hm => by rw [HTK.out, List.mem_append, List.mem_singleton] at hm; rcases hm with h | h; exact .inl h; exact .inr (by omega)), HG.out.2.1.on HB.out, HG.out.2.2.trans (touch_below HB.out (lt_of_block HG.out.2.1.row))⟩
          case measure => simp [intOf]; omega
      | true =>
        have hg : gAt r2 m = false := by cases h : gAt r2 m with | false => rfl | true => rw [h] at hy; simp at hy
        have hxx : x = false := by cases h : x with | false => rfl | true => rw [h] at hy; simp at hy
        have HGF := hid_of hg
        have HL : Hid (∃ (l0 : List Value), l0 = [.slice (some ⟨R, 0, none⟩) 10 10, .int .i64 m, .pointer (some ⟨R, m, none⟩), .bool false, .bool true, .bool true, .slice (some p) 10 cap, .int .i64 m, .pointer (some q), obV ob l dd mm, .int .i64 now, .bool false, .bool true, .bool true] ∧ Holds8 (gAt r2 m) false ∧ Holds8 x false) := ⟨_, rfl, hg, hxx⟩
        have HLD : Hid (ledB os now i m = true) := by show _ = _; rw [HST.out, hxx]; rfl
        obtain ⟨l0, HL1⟩ := HL.out
        have HL : Hid (l0 = [.slice (some ⟨R, 0, none⟩) 10 10, .int .i64 m, .pointer (some ⟨R, m, none⟩), .bool false, .bool true, .bool true, .slice (some p) 10 cap, .int .i64 m, .pointer (some q), obV ob l dd mm, .int .i64 now, .bool false, .bool true, .bool true] ∧ Holds8 (gAt r2 m) false ∧ Holds8 x false) := HL1
        clear HL1 hy hg hxx
        go_wp2_with fail
        refine wp_region_whole (by kernel_rfl) (by kernel_rfl) (by kernel_rfl) (by kernel_rfl) (Flat (fun wz => Below wr.heap.size wr wz) (gVals l0)) (flat_start (below_draw _)) ?_ ?_
        · refine ⟨?_, ?_, ?_, ?_, ?_, ?_, ?_, ?_, ?_, ?_, ?_, ?_, ?_, ?_, trivial⟩
          · intro b0 us wz L hslot hoth hLi hR hcl hdo K hK
            rcases HL.out with ⟨rfl, HT, HX1⟩
            · have s1 : b0.tmps.getD 1 undef = .pointer (some ⟨a, 0, none⟩) := hoth 1 (by rfl)
              have kA := HA.out wz hR.1
              clear hslot hoth hdo hcl hLi
              refine guard_none (by rfl) ?_
              go_simp
              exact hK _ _ (flat_mark (hR.1) (fun _ _ h => h) hR.2 rfl)
          · intro b0 us wz L hslot hoth hLi hR hcl hdo K hK
            rcases HL.out with ⟨rfl, HT, HX1⟩
            · have s7 : b0.tmps.getD 7 undef = .int .i64 m := hoth 7 (by rfl)
              clear hslot hoth hdo hcl hLi
              refine guard_none (by rfl) ?_
              go_simp
              exact hK _ _ (flat_mark (hR.1) (fun _ _ h => h) hR.2 rfl)
          · intro b0 us wz L hslot hoth hLi hR hcl hdo K hK
            rcases HL.out with ⟨rfl, HT, HX1⟩
            · have s19 : b0.tmps.getD 19 undef = .slice (some ⟨R, 0, none⟩) 10 10 := (hslot 0 19 (by rfl)).trans (hR.2 0 (done_at hdo 0 (by rfl)))
              have s20 : b0.tmps.getD 20 undef = .int .i64 m := (hslot 1 20 (by rfl)).trans (hR.2 1 (done_at hdo 1 (by rfl)))
              clear hslot hoth hdo hcl hLi
              refine guard_none (by rfl) ?_
              go_simp
              exact hK _ _ (flat_mark (hR.1) (fun _ _ h => h) hR.2 rfl)
          · intro b0 us wz L hslot hoth hLi hR hcl hdo K hK
            rcases HL.out with ⟨rfl, HT, HX1⟩
            · have s21 : b0.tmps.getD 21 undef = .pointer (some ⟨R, m, none⟩) := (hslot 2 21 (by rfl)).trans (hR.2 2 (done_at hdo 2 (by rfl)))
              have kM := (HM.out wz hR.1).trans (congrArg (fun b => some (Value.bool b)) HT)
              clear hslot hoth hdo hcl hLi
              refine guard_none (by rfl) ?_
              go_simp
              exact hK _ _ (flat_mark (hR.1) (fun _ _ h => h) hR.2 rfl)
          · intro b0 us wz L hslot hoth hLi hR hcl hdo K hK
            rcases HL.out with ⟨rfl, HT, HX1⟩
            · have s22 : b0.tmps.getD 22 undef = .bool false := (hslot 3 22 (by rfl)).trans (hR.2 3 (done_at hdo 3 (by rfl)))
              clear hslot hoth hdo hcl hLi
              refine guard_none (by rfl) ?_
              go_simp
              exact hK _ _ (flat_mark (hR.1) (fun _ _ h => h) hR.2 rfl)
          · intro b0 us wz L hslot hoth hLi hR hcl hdo K hK
            rcases HL.out with ⟨rfl, HT, HX1⟩
            · have s23 : b0.tmps.getD 23 undef = .bool true := (hslot 4 23 (by rfl)).trans (hR.2 4 (done_at hdo 4 (by rfl)))
              clear hslot hoth hdo hcl hLi
              refine guard_none (by rfl) ?_
              go_simp
              exact hK _ _ (flat_mark (hR.1) (fun _ _ h => h) hR.2 rfl)
          · intro b0 us wz L hslot hoth hLi hR hcl hdo K hK
            rcases HL.out with ⟨rfl, HT, HX1⟩
            · have gg : us 5 = .bool true := hR.2 5 (done_at hdo 5 (by rfl))
              have s2 : b0.tmps.getD 2 undef = .pointer (some ⟨b, 0, none⟩) := hoth 2 (by rfl)
              have kB := HBX.out wz hR.1
              clear hslot hoth hdo hcl hLi
              refine guard_on (j := 5) (want := true) (d := 24) (by rfl) (by rfl) gg ?_
              go_simp
              exact hK _ _ (flat_mark (hR.1) (fun _ _ h => h) hR.2 rfl)
          · intro b0 us wz L hslot hoth hLi hR hcl hdo K hK
            rcases HL.out with ⟨rfl, HT, HX1⟩
            · have gg : us 5 = .bool true := hR.2 5 (done_at hdo 5 (by rfl))
              have s7 : b0.tmps.getD 7 undef = .int .i64 m := hoth 7 (by rfl)
              clear hslot hoth hdo hcl hLi
              refine guard_on (j := 5) (want := true) (d := 24) (by rfl) (by rfl) gg ?_
              go_simp
              exact hK _ _ (flat_mark (hR.1) (fun _ _ h => h) hR.2 rfl)
          · intro b0 us wz L hslot hoth hLi hR hcl hdo K hK
            rcases HL.out with ⟨rfl, HT, HX1⟩
            · have gg : us 5 = .bool true := hR.2 5 (done_at hdo 5 (by rfl))
              have s25 : b0.tmps.getD 25 undef = .slice (some p) 10 cap := (hslot 6 25 (by rfl)).trans (hR.2 6 (done_at hdo 6 (by rfl)))
              have s26 : b0.tmps.getD 26 undef = .int .i64 m := (hslot 7 26 (by rfl)).trans (hR.2 7 (done_at hdo 7 (by rfl)))
              have hq := HQ.out
              clear hslot hoth hdo hcl hLi
              refine guard_on (j := 5) (want := true) (d := 24) (by rfl) (by rfl) gg ?_
              go_simp
              exact hK _ _ (flat_mark (hR.1) (fun _ _ h => h) hR.2 rfl)
          · intro b0 us wz L hslot hoth hLi hR hcl hdo K hK
            rcases HL.out with ⟨rfl, HT, HX1⟩
            · have gg : us 5 = .bool true := hR.2 5 (done_at hdo 5 (by rfl))
              have s27 : b0.tmps.getD 27 undef = .pointer (some q) := (hslot 8 27 (by rfl)).trans (hR.2 8 (done_at hdo 8 (by rfl)))
              obtain ⟨c0, c1, c2, c3, c4, c5, c6, c7, c8, c9, c10, c11, c12⟩ := HCS.out.on hR.1
              clear hslot hoth hdo hcl hLi
              refine guard_on (j := 5) (want := true) (d := 24) (by rfl) (by rfl) gg ?_
              go_simp
              exact hK _ _ (flat_mark (hR.1) (fun _ _ h => h) hR.2 rfl)
          · intro b0 us wz L hslot hoth hLi hR hcl hdo K hK
            rcases HL.out with ⟨rfl, HT, HX1⟩
            · have gg : us 5 = .bool true := hR.2 5 (done_at hdo 5 (by rfl))
              have s3 : b0.tmps.getD 3 undef = .pointer (some ⟨c, 0, none⟩) := hoth 3 (by rfl)
              have kC := HCX.out wz hR.1
              clear hslot hoth hdo hcl hLi
              refine guard_on (j := 5) (want := true) (d := 24) (by rfl) (by rfl) gg ?_
              go_simp
              exact hK _ _ (flat_mark (hR.1) (fun _ _ h => h) hR.2 rfl)
          · intro b0 us wz L hslot hoth hLi hR hcl hdo K hK
            rcases HL.out with ⟨rfl, HT, HX1⟩
            · have gg : us 5 = .bool true := hR.2 5 (done_at hdo 5 (by rfl))
              have s28 : b0.tmps.getD 28 undef = obV ob l dd mm := (hslot 9 28 (by rfl)).trans (hR.2 9 (done_at hdo 9 (by rfl)))
              have s29 : b0.tmps.getD 29 undef = .int .i64 now := (hslot 10 29 (by rfl)).trans (hR.2 10 (done_at hdo 10 (by rfl)))
              clear hslot hoth hdo hcl hLi
              refine guard_on (j := 5) (want := true) (d := 24) (by rfl) (by rfl) gg ?_
              go_simp
              refine (HEX.out wz).mono ?_
              rintro e w' ⟨rfl, hb⟩
              exact hK _ _ (flat_mark (below_more hR.1 hb) (fun _ _ h => h) hR.2 (show Value.bool x = Value.bool false from congrArg Value.bool HX1))
          · intro b0 us wz L hslot hoth hLi hR hcl hdo K hK
            rcases HL.out with ⟨rfl, HT, HX1⟩
            · have gg : us 5 = .bool true := hR.2 5 (done_at hdo 5 (by rfl))
              have s30 : b0.tmps.getD 30 undef = .bool false := (hslot 11 30 (by rfl)).trans (hR.2 11 (done_at hdo 11 (by rfl)))
              clear hslot hoth hdo hcl hLi
              refine guard_on (j := 5) (want := true) (d := 24) (by rfl) (by rfl) gg ?_
              go_simp
              exact hK _ _ (flat_mark (hR.1) (fun _ _ h => h) hR.2 rfl)
          · intro b0 us wz L hslot hoth hLi hR hcl hdo K hK
            rcases HL.out with ⟨rfl, HT, HX1⟩
            · have s24 : b0.tmps.getD 24 undef = .bool true := (hslot 5 24 (by rfl)).trans (hR.2 5 (done_at hdo 5 (by rfl)))
              have s31 : b0.tmps.getD 31 undef = .bool true := (hslot 12 31 (by rfl)).trans (hR.2 12 (done_at hdo 12 (by rfl)))
              clear hslot hoth hdo hcl hLi
              refine guard_none (by rfl) ?_
              go_simp
              exact hK _ _ (flat_mark (hR.1) (fun _ _ h => h) hR.2 rfl)
        · intro us wn L hall hR a' ha'
          have g13 : us 13 = .bool true := by
            have := hR.2 13 (hall 13 (by decide))
            rcases HL.out with ⟨rfl, HT, HX1⟩
            all_goals exact this
          have HB := hid_of hR.1
          clear hR hall
          simp only [putAll, g13] at ha'
          subst ha'
          go_frame
          have kD := cell_one (keep HG.out.2.1.hd HB.out)
          have HC : Hid (Calls Tryz.prog 71 #[.int .i64 m, .pointer (some ⟨a, 0, none⟩), .pointer (some ⟨b, 0, none⟩), .pointer (some ⟨c, 0, none⟩), .pointer (some ⟨d, 0, none⟩)] wn fun e w' => (∃ u, e = .returned u) ∧ ∃ r', Visited (ledB os now) m r2 r' ∧ Vst w0 p cap now R a b c d r' w' ∧ Touch [R] wn w') :=
            HIH.out r2 m wn (HG.out.2.1.on HB.out) HG.out.1.len hm10 HGF.out (HN.out.2.2.2.next HLD.out) (by have e1 := HG.out.1.many HN.out.1 HN.out.2.1; have e2 := HN.out.2.2.1; omega)
          clear HL HA HBX HCX HM HEX
          go_wp2_with fail
          refine HC.out.mono ?_
          rintro e w2 ⟨⟨u, rfl⟩, r3, hvis, hvst, htc⟩
          have HZ : Hid (Visit (ledB os now) i (fun m => (m : Int) ∈ es.take (k + 1)) r r3 ∧ Vst w0 p cap now R a b c d r3 w2 ∧ Touch [R] w1 w2) :=
            ⟨(HG.out.1.into hvis).less (fun m hm => by rw [HTK.out, List.mem_append, List.mem_singleton] at hm; rcases hm with h | h; exact .inl h; exact .inr (by omega)), hvst, HG.out.2.2.trans ((touch_below HB.out (lt_of_block HG.out.2.1.row)).trans htc)⟩
          clear hvis hvst htc HC HG HB
          go_wp2
          go_roundw
          case rel => exact ⟨k + 1, r3, by omega, by go_num, HZ⟩
          case measure => simp [intOf]; omega
    · obtain rfl : k = nl := by omega
      have HZ : Hid (Visited (ledB os now) i r r2 ∧ Vst w0 p cap now R a b c d r2 wr ∧ Touch [R] w wr) := ⟨hin.out.1.done (fun m hm => by
        rw [HNL.out, List.take_length, HES.out, edges_mem]
        unfold ledB at hm
        simp only [Bool.and_eq_true, decide_eq_true_eq] at hm
        exact ⟨hm.1, hm.2.1⟩), hin.out.2.1, HT2.out.trans hin.out.2.2⟩
      clear hin
      go_wp2
      go_returns
      exact ⟨⟨_, rfl⟩, _, HZ.out⟩
theorem visit_any (w0 : World) (p : Addr) (cap : Nat) (os : List Ob) (now : Int) (R a b c d : Nat) (hx : IsArena w0 (.slice (some p) 10 cap) os) (hl : os.length = 10) (hs : ∀ i, (obAt os i).ls.length ≤ 9223372036854775807) : ∀ n, VisitOk w0 p cap os now R a b c d n
  | 0 => fun r i w hv hr hi h0 hL hn => by
    have h1 := cnt_le r
    have := cnt_full r (by omega) i (by omega)
    rw [h0] at this
    exact absurd this (by simp)
  | n + 1 => visit_next w0 p cap os now R a b c d n hx hl hs (visit_any w0 p cap os now R a b c d hx hl hs n)
end Go.Proofs.YtbdljoldblpffaaGreat
namespace Go.Proofs.YtbdljoldblpffaaGreat
open Go.RowKit
set_option linter.unusedVariables false
set_option maxRecDepth 100000

/-- Bools that the call owns are handed back. -/
def BoolsAns (xs : List Bool) (w : World) (e : Ending) (w' : World) : Prop := ∃ a n c, e = .returned (.slice a n c) ∧ n = xs.length ∧ n ≤ c ∧ (n ≠ 0 → ∃ g, a = some ⟨g, 0, none⟩ ∧ w.heap.size ≤ g ∧ BolIn w' g xs) ∧ Below w.heap.size w w'
theorem five_new (w : World) (A B C D E : Obj) : (((((w.alloc A).alloc B).alloc C).alloc D).alloc E).heap[w.heap.size]? = some A ∧ (((((w.alloc A).alloc B).alloc C).alloc D).alloc E).heap[w.heap.size + 1]? = some B ∧ (((((w.alloc A).alloc B).alloc C).alloc D).alloc E).heap[w.heap.size + 1 + 1]? = some C ∧ (((((w.alloc A).alloc B).alloc C).alloc D).alloc E).heap[w.heap.size + 1 + 1 + 1]? = some D ∧ (((((w.alloc A).alloc B).alloc C).alloc D).alloc E).heap[w.heap.size + 1 + 1 + 1 + 1]? = some E ∧ Below w.heap.size w (((((w.alloc A).alloc B).alloc C).alloc D).alloc E) := by
  have a := heap_alloc_new w A
  have b := heap_alloc_new (w.alloc A) B
  have c := heap_alloc_new ((w.alloc A).alloc B) C
  have d := heap_alloc_new (((w.alloc A).alloc B).alloc C) D
  have e := heap_alloc_new ((((w.alloc A).alloc B).alloc C).alloc D) E
  have z1 : (w.alloc A).heap.size = w.heap.size + 1 := by simp
  have z2 : ((w.alloc A).alloc B).heap.size = w.heap.size + 1 + 1 := by simp
  have z3 : (((w.alloc A).alloc B).alloc C).heap.size = w.heap.size + 1 + 1 + 1 := by simp
  have z4 : ((((w.alloc A).alloc B).alloc C).alloc D).heap.size = w.heap.size + 1 + 1 + 1 + 1 := by simp
  rw [z1] at b
  rw [z2] at c
  rw [z3] at d
  rw [z4] at e
  exact ⟨keep (keep (keep (keep a (below_alloc _ _)) (below_alloc _ _)) (below_alloc _ _)) (below_alloc _ _), keep (keep (keep b (below_alloc _ _)) (below_alloc _ _)) (below_alloc _ _), keep (keep c (below_alloc _ _)) (below_alloc _ _), keep d (below_alloc _ _), e, below_more (below_more (below_more (below_more (below_alloc w _) (below_alloc _ _)) (below_alloc _ _)) (below_alloc _ _)) (below_alloc _ _)⟩
set_option maxRecDepth 100000 in
set_option maxHeartbeats 4000000 in
theorem implReachOf_any (p : Addr) (cap : Nat) (os : List Ob) (now : Int) (w : World) (hx : IsArena w (.slice (some p) 10 cap) os) (hl : os.length = 10) (hs : ∀ i, (obAt os i).ls.length ≤ 9223372036854775807) :
    Calls Tryz.prog 45 #[.slice (some p) 10 cap, .int .i64 now] w fun e w' => BoolsAns (reached (ledB os now)) w e w' := by
  have hm : (Instr.makeSlice 66 (.int .i64 10) (.int .i64 10)).run Tryz.prog ((w.alloc (.cells #[.slice (some p) 10 cap] 29 (0, 0))).alloc (.cells #[.int .i64 now] 3 (0, 0))) = _ := make_bools 10 (by omega) _
  have hcap : 10 ≤ cap := by obtain ⟨_, _, hv, h, _⟩ := hx; have e := (Value.slice.inj hv).2.2; omega
  have hsf := fun (a : Addr) (fn : Fn) (f c : Array Value) (w : World) => (run_store Tryz.prog w a (.func fn f c) _ rfl : Sem.run Tryz.prog (store a (.func fn f c)) w = _)
  have hfive := five_new w (.cells #[.slice (some p) 10 cap] 29 (0, 0)) (.cells #[.int .i64 now] 3 (0, 0)) (.cells (blcells [false, false, false, false, false, false, false, false, false, false]).toArray 4 (0, 0)) (.cells #[.slice (some ⟨w.heap.size + 1 + 1, 0, none⟩) 10 10] 66 (0, 0)) (.cells #[fnV (w.heap.size + 1 + 1 + 1) w.heap.size (w.heap.size + 1) (w.heap.size + 1 + 1 + 1 + 1)] 48 (0, 0))
  obtain ⟨h1, h2, h3, h4, h5, h6⟩ := hfive
  have C := visit_any w p cap os now (w.heap.size + 1 + 1) (w.heap.size + 1 + 1 + 1) w.heap.size (w.heap.size + 1) (w.heap.size + 1 + 1 + 1 + 1) hx hl hs 10 (List.replicate 10 false) 0 _ ⟨h6, by omega, h3, h4, h1, h2, h5, by omega, by omega, by omega, by omega⟩ rfl (by omega) rfl (leads_zero _) (by decide)
  have HC := hid_of C
  have HSZ : Hid (w.heap.size ≤ w.heap.size + 1 + 1) := by show _ ≤ _; omega
  clear hl C h1 h2 h3 h4 h5 h6 hs hx
  go_enter Tryz.func45, Tryz.ntmps45
  go_wp2_with fail
  refine HC.out.mono ?_
  rintro e w1 ⟨⟨u, rfl⟩, r', hvis, hvst, _⟩
  obtain rfl : r' = reached (ledB os now) := hvis.right.one (reached_right ledB_lt)
  have kA := cell_one hvst.ha
  have HV := hid_of hvst
  have HLN : Hid (10 = (reached (ledB os now)).length) := hvis.len.symm
  clear HC hvis hvst hm
  go_wp2
  go_returns
  exact ⟨_, 10, 10, rfl, HLN.out, Nat.le_refl _, fun _ => ⟨_, rfl, HSZ.out, HV.out.row⟩, HV.out.base⟩
end Go.Proofs.YtbdljoldblpffaaGreat
