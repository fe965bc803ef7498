/-
  What is reached: the model.
-/
import Derived.Test.YtbdljoldblpffaaGreatGarb9
namespace Go.Proofs.YtbdljoldblpffaaGreat
open Go.RowKit
set_option linter.unusedVariables false
set_option maxRecDepth 100000

theorem wpList_appI2 {ops : Array Oper} {rest : List Oper} {o : Oper} {a : Act} {Q : Exit → Act → World → Prop} (hgd : o.guard = none) (s x : Operand)
    (ho : o.op = .call { callee := .builtin .append, args := #[s, x], argTypes := #[23, 23] }) (w0 W : World) (base g : Nat) (gb : Nat) (rb : List Bool) (v : Value) (acc new : List Int) (k c : Nat)
    (hs : a.eval s = v) (hx : a.eval x = .slice (some ⟨g, 0, none⟩) k c) (hown : W.ownsRow base 3 1 v acc.length (icells acc)) (hcell : ∀ (j : Nat) u, (icells new)[j]? = some u → W.cell? ⟨g, j, none⟩ = some u) (hk : new.length = k)
    (hb : acc.length + k ≤ 17592186044416) (hbase : base ≤ W.heap.size) (hnx : Below base w0 W) (hrw : BolIn W gb rb)
    (h : ∀ v' w', Hid (w'.ownsRow base 3 1 v' (acc ++ new).length (icells (acc ++ new))) → Hid (Below base w0 w') → Hid (BolIn w' gb rb) → wpList Tryz.prog ops Q rest (a.put o.dst v') w') : wpList Tryz.prog ops Q (o :: rest) a W := by
  subst hk
  obtain ⟨i0, hi, hz0, hz1, hz2⟩ := info_parts info3
  refine wpList_append_own _ hgd s x 23 ho base 3 i0 (.int .i64 0) 1 8 Tryz.underlying23 hi hz0 hz1 hz2 rfl (by decide) v acc.length (icells acc) hs hown ⟨g, 0, none⟩ new.length c (icells new) hx (by rw [icells_length]; omega) ?_ (icells_one _) (by simp only [maxLen]; omega) (by omega) hbase ?_
  · intro j u hj
    have : (⟨g, 0, none⟩ : Addr).add j = ⟨g, j, none⟩ := by unfold Addr.add; split <;> simp_all
    rw [this]
    exact hcell j u hj
  · intro v' w' h1 h2 _
    refine h v' w' ?_ ?_ ?_
    · show World.ownsRow _ _ _ _ _ _ _
      rw [icells_append, List.length_append]; exact h1
    · exact hnx.grown h2 hbase (fun k hk => (hown.lt k hk).1)
    · refine grown_kept h2 hrw fun e => ?_
      rcases hown.2 with ⟨hv, _⟩ | ⟨g', cap, cur, hv, _, hg', _⟩
      · rw [hv] at e; simp [Value.ownBlock] at e
      · rw [hv] at e
        simp [Value.ownBlock] at e
        subst e
        unfold BolIn at hrw
        rw [hg'] at hrw
        simp at hrw
/-- What the model's rounds share: the marks lie in block R. -/
structure Srs (w : World) (R : Nat) (r : List Bool) (wr : World) : Prop where
  base : Below w.heap.size w wr
  low : w.heap.size ≤ R
  row : BolIn wr R r
theorem Srs.on {w : World} {R : Nat} {r : List Bool} {wr w' : World} (h : Srs w R r wr) (hb : Below wr.heap.size wr w') : Srs w R r w' := ⟨below_more h.base hb, h.low, h.row.on hb⟩
theorem Srs.mark {w : World} {R : Nat} {r : List Bool} {wr : World} (h : Srs w R r wr) (i : Nat) : Srs w R (r.set i true) (wr.setCell ⟨R, i, none⟩ (.bool true)) ∧ Touch [R] wr (wr.setCell ⟨R, i, none⟩ (.bool true)) :=
  have ht : Touch [R] wr (wr.setCell ⟨R, i, none⟩ (.bool true)) := touch_one (grownBy_set wr R i _) (lt_of_block h.row)
  ⟨⟨ht.below _ _ (by simpa using h.low) h.base, h.low, h.row.set i true⟩, ht⟩
theorem leads_there {os : List Ob} {now : Int} {k : Nat} (h : Leads (ledB os now) k) : k = 0 ∨ expB (obAt os k) now = false :=
  h (fun k => k = 0 ∨ expB (obAt os k) now = false) (.inl rfl) fun i m _ hs => .inr (by
    unfold ledB at hs
    simp only [Bool.and_eq_true, Bool.not_eq_true'] at hs
    exact hs.2.2)
set_option maxRecDepth 100000 in
set_option maxHeartbeats 8000000 in
theorem specReach_go (p : Addr) (cap : Nat) (os : List Ob) (now : Int) (w : World) (hx : IsArena w (.slice (some p) 10 cap) os) (hok : arenaOk os = true) (hs : Small8 os) (hf : AllFit os) :
    Calls Tryz.prog 42 #[.slice (some p) 10 cap, .int .i64 now] w fun e w' => BoolsAns (reached (ledB os now)) w e w' := by
  have hb0 : Below w.heap.size w (w.alloc (.cells #[] 4 (0, 0))) := below_alloc w _
  have hlen := (arenaOk_parts hok).1
  have CA := specArenaOk_any _ os (w.alloc (.cells #[] 4 (0, 0))) (hx.on hb0) (by omega) hs hf
  rw [hok] at CA
  have HX : Hid (∀ w', Below w.heap.size w w' → IsArena w' (.slice (some p) 10 cap) os) := fun w' hb => hx.on hb
  have HE : Hid (∀ (i : Nat) w', i < 10 → Below w.heap.size w w' → Calls Tryz.prog 44 #[.slice (some p) 10 cap, .int .i64 i] w' fun e w'' => IntsAns (edgesTo os i 10) w' e w'') := fun i w' hi hb => specEdges_go p cap os i w' (hx.on hb) hok hi hs hf
  have HEX : Hid (∀ x l d m w', Calls Tryz.prog 39 #[obV x l d m, .int .i64 now] w' fun e w'' => e = .returned (.bool (expB x now)) ∧ Below w'.heap.size w' w'') := fun x l d m w' => specExp_any x l d m now w'
  have HB0 := hid_of hb0
  have HL : Hid (os.length = 10) := hlen
  have hcap : 10 ≤ cap := by obtain ⟨_, _, hv, h, _⟩ := hx; have e := (Value.slice.inj hv).2.2; omega
  clear hb0 hlen hx hok hs hf
  go_enter Tryz.func42, Tryz.ntmps42
  go_wp2_with fail
  refine CA.mono ?_
  rintro e w1 ⟨rfl, hb⟩
  have HB1 := hid_of (below_more HB0.out hb)
  have hm : (Instr.makeSlice 66 (.int .i64 10) (.int .i64 10)).run Tryz.prog w1 = .ok (.slice (some ⟨w1.heap.size, 0, none⟩) 10 10) (w1.alloc (.cells (blcells (List.replicate 10 false)).toArray 4 (0, 0))) := make_bools 10 (by omega) w1
  obtain ⟨W, hW⟩ : ∃ W, W = w1.alloc (.cells (blcells (List.replicate 10 false)).toArray 4 (0, 0)) := ⟨_, rfl⟩
  have hrow : BolIn W w1.heap.size (List.replicate 10 false) := by rw [hW]; exact heap_alloc_new w1 _
  rw [← hW] at hm
  have HS0 : Hid (Srs w w1.heap.size (List.replicate 10 false) W) := ⟨by rw [hW]; exact below_more HB1.out (below_alloc w1 _), HB1.out.size, hrow⟩
  have k0 : W.cell? ⟨w1.heap.size, 0, none⟩ = some (.bool false) := hrow.cell 0 (by simp)
  have f0 := hrow.free 0
  have HS1 := hid_of ((HS0.out.mark 0).1)
  obtain ⟨R, hR⟩ : ∃ R, R = w1.heap.size := ⟨_, rfl⟩
  rw [← hR] at HS1 hm k0 f0
  have HR1 : Hid (Round (ledB os now) 0 ((List.replicate 10 false).set 0 true)) := round_start _
  clear CA hb HB0 HB1 hrow HS0 hW hR
  go_wp2
  clear hm k0 f0
  go_loopw [6] (fun s6 wr => ∃ (n : Nat) (r : List Bool), n ≤ 10 ∧ s6 = .int .i64 n ∧ Hid (Round (ledB os now) n r ∧ Srs w R r wr)) (fun s6 _ => 10 - (intOf s6).toNat)
  case atStart => exact ⟨0, _, by omega, rfl, HR1.out, HS1.out⟩
  case round =>
    obtain ⟨n, r0, hn, rfl, hin⟩ := hrel
    clear HR1 HS1
    by_cases hltn : n < 10
    · obtain ⟨W0, hW0⟩ : ∃ W0, W0 = wr := ⟨_, rfl⟩
      subst hW0
      have HIN := hid_of hin
      clear hin
      go_wp2
      have hd : decide ((n : Int) < 10) = true := decide_eq_true (by omega)
      try simp only [hd]
      go_loopw [7] (fun s7 wr => ∃ (i : Nat) (r : List Bool), i ≤ 10 ∧ s7 = .int .i64 i ∧ Hid (Mid (ledB os now) r0 i r ∧ Srs w R r wr)) (fun s7 _ => 10 - (intOf s7).toNat)
      case atStart => exact ⟨0, _, by omega, rfl, HIN.out.1.mid, HIN.out.2⟩
      case round =>
        obtain ⟨i, r, hi, rfl, hin⟩ := hrel
        by_cases hlti : i < 10
        · have kM := hin.out.2.row.cell i (by rw [hin.out.1.len]; exact hlti)
          cases hg : gAt r i with
          | false =>
            rw [show r.getD i false = false from hg] at kM
            have HZ : Hid (Mid (ledB os now) r0 (i + 1) r ∧ Srs w R r wr) := ⟨hin.out.1.over (fun h => by rw [hin.out.1.sub i h] at hg; exact absurd hg (by simp)), hin.out.2⟩
            clear hin hg
            go_wp2
            go_roundw
            case rel => exact ⟨i + 1, r, by omega, by go_num, HZ⟩
            case measure => simp [intOf]; omega
          | true =>
            rw [show r.getD i false = true from hg] at kM
            obtain ⟨p', q, l, d, m, hp, hq, hcs, -⟩ := (HX.out wr hin.out.2.base).at (i := i) (by rw [HL.out]; exact hlti)
            obtain rfl : p = p' := by simpa using hp
            have HTH : Hid (i = 0 ∨ expB (obAt os i) now = false) := leads_there (hin.out.1.leads i hg)
            have C := HEX.out (obAt os i) l d m wr
            have HG := hid_of hg
            have HIN2 := hid_of hin.out
            obtain ⟨c0, c1, c2, c3, c4, c5, c6, c7, c8, c9, c10, c11, c12⟩ := hcs
            clear hp hin hg
            cases hxp : expB (obAt os i) now with
            | false =>
              rw [hxp] at C
              clear hxp HTH
              generalize obAt os i = ob at C c0 c1 c2 c3 c4 c5 c6 c7 c8 c9
              go_wp2_with fail
              refine C.mono ?_
              rintro e w2 ⟨rfl, hb⟩
              have HS2 := hid_of (HIN2.out.2.on hb)
              clear C hb kM c0 c1 c2 c3 c4 c5 c6 c7 c8 c9 c10 c11 c12 hq
              go_wp2_with fail
              refine (HE.out i w2 (by omega) HS2.out.base).mono ?_
              rintro e w3 ⟨v3, rfl, ho, hb⟩
              obtain ⟨es, hes⟩ : ∃ es, es = edgesTo os i 10 := ⟨_, rfl⟩
              rw [← hes] at ho
              have HES := hid_of hes
              have HS3 := hid_of (HS2.out.on hb)
              have HO := hid_of ho
              have HGE : Hid (R < w2.heap.size) := lt_of_block HS2.out.row
              have hels : es.length ≤ 10 := by rw [hes]; exact edgesTo_len _ _ _
              obtain ⟨av, cv, rfl⟩ := owns_len ho
              obtain ⟨nl, hnl⟩ : ∃ nl, nl = es.length := ⟨_, rfl⟩
              rw [← hnl] at HO hels ⊢
              have HNL := hid_of hnl
              obtain ⟨Wi, hWi⟩ : ∃ Wi, Wi = wr := ⟨_, rfl⟩
              subst hWi
              clear HS2 hes ho hb hnl
              go_wp2
              go_loopw [9] (fun s9 wr => ∃ (k : Nat) (r2 : List Bool), k ≤ nl ∧ s9 = .int .i64 k ∧ Hid (Mid (ledB os now) r0 i r2 ∧ Srs w R r2 wr ∧ gAt r2 i = true ∧ (∀ m : Nat, (m : Int) ∈ es.take k → ledB os now i m = true → gAt r2 m = true) ∧ Touch [R] w3 wr)) (fun s9 _ => nl - (intOf s9).toNat)
              case atStart => exact ⟨0, r, Nat.zero_le _, rfl, HIN2.out.1, HS3.out, HG.out, (fun m hm => by simp at hm), touch_any _ _⟩
              case round =>
                obtain ⟨k, r2, hk, rfl, hin⟩ := hrel
                clear HS3
                by_cases hlt : k < nl
                · obtain ⟨m, hm, hm10, hedge⟩ := edges_at (os := os) (i := i) (n := 10) (k := k) (by rw [← HES.out, ← HNL.out]; exact hlt)
                  rw [← HES.out] at hm
                  obtain ⟨g, cg, rest, hav, hgb, _, _, _, hrow⟩ := rowIn_own (xs := es) (by rw [← HNL.out]; exact HO.out) (by rw [← HNL.out]; omega)
                  obtain rfl : av = some ⟨g, 0, none⟩ := by simpa using (Value.slice.inj hav).1
                  have hgR : g ≠ R := by have := HGE.out; omega
                  have hrow2 : RowIn wr g es rest := hin.out.2.2.2.2.block _ _ (by simpa using hgR) hrow
                  have kE := hrow2.cell k (by rw [← HNL.out]; exact hlt)
                  rw [hm] at kE
                  obtain ⟨p', q, l, d, mm, hp, hq, hcs, -⟩ := (HX.out wr hin.out.2.1.base).at (i := m) (by rw [HL.out]; exact hm10)
                  obtain rfl : p = p' := by simpa using hp
                  have HTK : Hid (es.take (k + 1) = es.take k ++ [(m : Int)]) := by show _ = _; rw [take_oneI (by rw [← HNL.out]; exact hlt), hm]
                  have HST : Hid (ledB os now i m = !(expB (obAt os m) now)) := by show _ = _; unfold ledB; rw [decide_eq_true hm10, hedge]; rfl
                  have C := HEX.out (obAt os m) l d mm wr
                  obtain ⟨c0, c1, c2, c3, c4, c5, c6, c7, c8, c9, c10, c11, c12⟩ := hcs
                  have HIN3 := hid_of hin.out
                  have HRW3 := hid_of hrow2
                  have hmi : (m : Int) < 10 := by omega
                  cases hxp : expB (obAt os m) now with
                  | true =>
                    rw [hxp] at C HST
                    have HZ : Hid (∀ w', Below wr.heap.size wr w' → Mid (ledB os now) r0 i r2 ∧ Srs w R r2 w' ∧ gAt r2 i = true ∧ (∀ m : Nat, (m : Int) ∈ es.take (k + 1) → ledB os now i m = true → gAt r2 m = true) ∧ Touch [R] w3 w') := fun w' hb =>
                      ⟨HIN3.out.1, HIN3.out.2.1.on hb, HIN3.out.2.2.1, fun m' hm' hl' => by
                        rw [HTK.out, List.mem_append, List.mem_singleton] at hm'
                        rcases hm' with h | h
                        · exact HIN3.out.2.2.2.1 m' h hl'
                        · obtain rfl : m' = m := by omega
                          rw [HST.out] at hl'; exact absurd hl' (by simp), HIN3.out.2.2.2.2.trans (touch_below hb (lt_of_block HIN3.out.2.1.row))⟩
                    clear hxp hin hedge hav hgb hrow hrow2 hp hm hgR
                    generalize obAt os m = ob2 at C c0 c1 c2 c3 c4 c5 c6 c7 c8 c9
                    go_wp2_with fail
                    refine C.mono ?_
                    rintro e w4 ⟨rfl, hb⟩
                    have HZ4 := hid_of (HZ.out _ hb)
                    clear C hb HZ c0 c1 c2 c3 c4 c5 c6 c7 c8 c9 c10 c11 c12 hq kE
                    go_wp2
                    go_roundw
                    case rel => exact ⟨k + 1, r2, by omega, by go_num, HZ4.out⟩
                    case measure => simp [intOf]; omega
                  | false =>
                    rw [hxp] at C HST
                    have HLD : Hid (ledB os now i m = true) := by show _ = _; rw [HST.out]; rfl
                    have HZ : Hid (∀ w', Below wr.heap.size wr w' → (Mid (ledB os now) r0 i (r2.set m true) ∧ Srs w R (r2.set m true) (w'.setCell ⟨R, m, none⟩ (.bool true)) ∧ gAt (r2.set m true) i = true ∧ (∀ m' : Nat, (m' : Int) ∈ es.take (k + 1) → ledB os now i m' = true → gAt (r2.set m true) m' = true) ∧ Touch [R] w3 (w'.setCell ⟨R, m, none⟩ (.bool true))) ∧ (∃ b, w'.cell? ⟨R, m, none⟩ = some (.bool b)) ∧ w'.frozen? ⟨R, m, none⟩ = false ∧ w'.cell? ⟨g, k, none⟩ = some (.int .i64 m)) := fun w' hb => by
                      have hs' := HIN3.out.2.1.on hb
                      have hl2 : m < r2.length := by rw [HIN3.out.1.len]; exact hm10
                      have hset := fun j => gAt_set r2 m j hl2
                      refine ⟨⟨HIN3.out.1.mark HIN3.out.2.2.1 HLD.out hm10, (hs'.mark m).1, by rw [hset, HIN3.out.2.2.1]; rfl, fun m' hm' hl' => ?_, (HIN3.out.2.2.2.2.trans (touch_below hb (lt_of_block HIN3.out.2.1.row))).trans (hs'.mark m).2⟩, ⟨_, hs'.row.cell m hl2⟩, hs'.row.free m, ?_⟩
                      · rw [HTK.out, List.mem_append, List.mem_singleton] at hm'
                        rw [hset]
                        rcases hm' with h | h
                        · rw [HIN3.out.2.2.2.1 m' h hl']; rfl
                        · obtain rfl : m' = m := by omega
                          simp
                      · have e := (HRW3.out.on hb).cell k (by rw [← HNL.out]; exact hlt)
                        rw [hm] at e
                        exact e
                    clear hxp hin hedge hav hgb hrow hrow2 hp hm hgR HST
                    generalize obAt os m = ob2 at C c0 c1 c2 c3 c4 c5 c6 c7 c8 c9
                    go_wp2_with fail
                    refine C.mono ?_
                    rintro e w4 ⟨rfl, hb⟩
                    obtain ⟨hz4, ⟨b4, kb⟩, fb, ke4⟩ := HZ.out _ hb
                    have HZ4 := hid_of hz4
                    clear C hb HZ c0 c1 c2 c3 c4 c5 c6 c7 c8 c9 c10 c11 c12 hq kE hz4
                    go_wp2
                    go_roundw
                    case rel => exact ⟨k + 1, _, by omega, by go_num, HZ4.out⟩
                    case measure => simp [intOf]; omega
                · obtain rfl : k = nl := by omega
                  have HZ : Hid (Mid (ledB os now) r0 (i + 1) r2 ∧ Srs w R r2 wr) := ⟨hin.out.1.over (fun _ m hm => hin.out.2.2.2.1 m (by
                    rw [HNL.out, List.take_length, HES.out, edges_mem]
                    unfold ledB at hm
                    simp only [Bool.and_eq_true, decide_eq_true_eq] at hm
                    exact ⟨hm.1, hm.2.1⟩) hm), hin.out.2.1⟩
                  clear hin
                  go_wp2
                  go_roundw
                  case rel => exact ⟨i + 1, r2, by omega, by go_num, HZ⟩
                  case measure => simp [intOf]; try omega
            | true =>
              rw [hxp] at C
              obtain rfl : i = 0 := by rcases HTH.out with h | h; exact h; rw [h] at hxp; exact absurd hxp (by simp)
              clear hxp HTH
              generalize obAt os 0 = ob at C c0 c1 c2 c3 c4 c5 c6 c7 c8 c9
              go_wp2_with fail
              refine C.mono ?_
              rintro e w2 ⟨rfl, hb⟩
              have HS2 := hid_of (HIN2.out.2.on hb)
              clear C hb kM c0 c1 c2 c3 c4 c5 c6 c7 c8 c9 c10 c11 c12 hq
              go_wp2_with fail
              refine (HE.out 0 w2 (by omega) HS2.out.base).mono ?_
              rintro e w3 ⟨v3, rfl, ho, hb⟩
              obtain ⟨es, hes⟩ : ∃ es, es = edgesTo os 0 10 := ⟨_, rfl⟩
              rw [← hes] at ho
              have HES := hid_of hes
              have HS3 := hid_of (HS2.out.on hb)
              have HO := hid_of ho
              have HGE : Hid (R < w2.heap.size) := lt_of_block HS2.out.row
              have hels : es.length ≤ 10 := by rw [hes]; exact edgesTo_len _ _ _
              obtain ⟨av, cv, rfl⟩ := owns_len ho
              obtain ⟨nl, hnl⟩ : ∃ nl, nl = es.length := ⟨_, rfl⟩
              rw [← hnl] at HO hels ⊢
              have HNL := hid_of hnl
              obtain ⟨Wi, hWi⟩ : ∃ Wi, Wi = wr := ⟨_, rfl⟩
              subst hWi
              clear HS2 hes ho hb hnl
              go_wp2
              go_loopw [9] (fun s9 wr => ∃ (k : Nat) (r2 : List Bool), k ≤ nl ∧ s9 = .int .i64 k ∧ Hid (Mid (ledB os now) r0 0 r2 ∧ Srs w R r2 wr ∧ gAt r2 0 = true ∧ (∀ m : Nat, (m : Int) ∈ es.take k → ledB os now 0 m = true → gAt r2 m = true) ∧ Touch [R] w3 wr)) (fun s9 _ => nl - (intOf s9).toNat)
              case atStart => exact ⟨0, r, Nat.zero_le _, rfl, HIN2.out.1, HS3.out, HG.out, (fun m hm => by simp at hm), touch_any _ _⟩
              case round =>
                obtain ⟨k, r2, hk, rfl, hin⟩ := hrel
                clear HS3
                by_cases hlt : k < nl
                · obtain ⟨m, hm, hm10, hedge⟩ := edges_at (os := os) (i := 0) (n := 10) (k := k) (by rw [← HES.out, ← HNL.out]; exact hlt)
                  rw [← HES.out] at hm
                  obtain ⟨g, cg, rest, hav, hgb, _, _, _, hrow⟩ := rowIn_own (xs := es) (by rw [← HNL.out]; exact HO.out) (by rw [← HNL.out]; omega)
                  obtain rfl : av = some ⟨g, 0, none⟩ := by simpa using (Value.slice.inj hav).1
                  have hgR : g ≠ R := by have := HGE.out; omega
                  have hrow2 : RowIn wr g es rest := hin.out.2.2.2.2.block _ _ (by simpa using hgR) hrow
                  have kE := hrow2.cell k (by rw [← HNL.out]; exact hlt)
                  rw [hm] at kE
                  obtain ⟨p', q, l, d, mm, hp, hq, hcs, -⟩ := (HX.out wr hin.out.2.1.base).at (i := m) (by rw [HL.out]; exact hm10)
                  obtain rfl : p = p' := by simpa using hp
                  have HTK : Hid (es.take (k + 1) = es.take k ++ [(m : Int)]) := by show _ = _; rw [take_oneI (by rw [← HNL.out]; exact hlt), hm]
                  have HST : Hid (ledB os now 0 m = !(expB (obAt os m) now)) := by show _ = _; unfold ledB; rw [decide_eq_true hm10, hedge]; rfl
                  have C := HEX.out (obAt os m) l d mm wr
                  obtain ⟨c0, c1, c2, c3, c4, c5, c6, c7, c8, c9, c10, c11, c12⟩ := hcs
                  have HIN3 := hid_of hin.out
                  have HRW3 := hid_of hrow2
                  have hmi : (m : Int) < 10 := by omega
                  cases hxp : expB (obAt os m) now with
                  | true =>
                    rw [hxp] at C HST
                    have HZ : Hid (∀ w', Below wr.heap.size wr w' → Mid (ledB os now) r0 0 r2 ∧ Srs w R r2 w' ∧ gAt r2 0 = true ∧ (∀ m : Nat, (m : Int) ∈ es.take (k + 1) → ledB os now 0 m = true → gAt r2 m = true) ∧ Touch [R] w3 w') := fun w' hb =>
                      ⟨HIN3.out.1, HIN3.out.2.1.on hb, HIN3.out.2.2.1, fun m' hm' hl' => by
                        rw [HTK.out, List.mem_append, List.mem_singleton] at hm'
                        rcases hm' with h | h
                        · exact HIN3.out.2.2.2.1 m' h hl'
                        · obtain rfl : m' = m := by omega
                          rw [HST.out] at hl'; exact absurd hl' (by simp), HIN3.out.2.2.2.2.trans (touch_below hb (lt_of_block HIN3.out.2.1.row))⟩
                    clear hxp hin hedge hav hgb hrow hrow2 hp hm hgR
                    generalize obAt os m = ob2 at C c0 c1 c2 c3 c4 c5 c6 c7 c8 c9
                    go_wp2_with fail
                    refine C.mono ?_
                    rintro e w4 ⟨rfl, hb⟩
                    have HZ4 := hid_of (HZ.out _ hb)
                    clear C hb HZ c0 c1 c2 c3 c4 c5 c6 c7 c8 c9 c10 c11 c12 hq kE
                    go_wp2
                    go_roundw
                    case rel => exact ⟨k + 1, r2, by omega, by go_num, HZ4.out⟩
                    case measure => simp [intOf]; omega
                  | false =>
                    rw [hxp] at C HST
                    have HLD : Hid (ledB os now 0 m = true) := by show _ = _; rw [HST.out]; rfl
                    have HZ : Hid (∀ w', Below wr.heap.size wr w' → (Mid (ledB os now) r0 0 (r2.set m true) ∧ Srs w R (r2.set m true) (w'.setCell ⟨R, m, none⟩ (.bool true)) ∧ gAt (r2.set m true) 0 = true ∧ (∀ m' : Nat, (m' : Int) ∈ es.take (k + 1) → ledB os now 0 m' = true → gAt (r2.set m true) m' = true) ∧ Touch [R] w3 (w'.setCell ⟨R, m, none⟩ (.bool true))) ∧ (∃ b, w'.cell? ⟨R, m, none⟩ = some (.bool b)) ∧ w'.frozen? ⟨R, m, none⟩ = false ∧ w'.cell? ⟨g, k, none⟩ = some (.int .i64 m)) := fun w' hb => by
                      have hs' := HIN3.out.2.1.on hb
                      have hl2 : m < r2.length := by rw [HIN3.out.1.len]; exact hm10
                      have hset := fun j => gAt_set r2 m j hl2
                      refine ⟨⟨HIN3.out.1.mark HIN3.out.2.2.1 HLD.out hm10, (hs'.mark m).1, by rw [hset, HIN3.out.2.2.1]; rfl, fun m' hm' hl' => ?_, (HIN3.out.2.2.2.2.trans (touch_below hb (lt_of_block HIN3.out.2.1.row))).trans (hs'.mark m).2⟩, ⟨_, hs'.row.cell m hl2⟩, hs'.row.free m, ?_⟩
                      · rw [HTK.out, List.mem_append, List.mem_singleton] at hm'
                        rw [hset]
                        rcases hm' with h | h
                        · rw [HIN3.out.2.2.2.1 m' h hl']; rfl
                        · obtain rfl : m' = m := by omega
                          simp
                      · have e := (HRW3.out.on hb).cell k (by rw [← HNL.out]; exact hlt)
                        rw [hm] at e
                        exact e
                    clear hxp hin hedge hav hgb hrow hrow2 hp hm hgR HST
                    generalize obAt os m = ob2 at C c0 c1 c2 c3 c4 c5 c6 c7 c8 c9
                    go_wp2_with fail
                    refine C.mono ?_
                    rintro e w4 ⟨rfl, hb⟩
                    obtain ⟨hz4, ⟨b4, kb⟩, fb, ke4⟩ := HZ.out _ hb
                    have HZ4 := hid_of hz4
                    clear C hb HZ c0 c1 c2 c3 c4 c5 c6 c7 c8 c9 c10 c11 c12 hq kE hz4
                    go_wp2
                    go_roundw
                    case rel => exact ⟨k + 1, _, by omega, by go_num, HZ4.out⟩
                    case measure => simp [intOf]; omega
                · obtain rfl : k = nl := by omega
                  have HZ : Hid (Mid (ledB os now) r0 (0 + 1) r2 ∧ Srs w R r2 wr) := ⟨hin.out.1.over (fun _ m hm => hin.out.2.2.2.1 m (by
                    rw [HNL.out, List.take_length, HES.out, edges_mem]
                    unfold ledB at hm
                    simp only [Bool.and_eq_true, decide_eq_true_eq] at hm
                    exact ⟨hm.1, hm.2.1⟩) hm), hin.out.2.1⟩
                  clear hin
                  go_wp2
                  go_roundw
                  case rel => exact ⟨0 + 1, r2, by omega, by go_num, HZ⟩
                  case measure => simp [intOf]; try omega
        · obtain rfl : 10 = i := by omega
          have HZ : Hid (Round (ledB os now) (n + 1) r ∧ Srs w R r wr) := ⟨HIN.out.1.next hin.out.1, hin.out.2⟩
          clear hin
          go_wp2
          go_roundw
          case rel => exact ⟨n + 1, r, by omega, by go_num, HZ⟩
          case measure => simp [intOf]; omega
    · obtain rfl : 10 = n := by omega
      obtain rfl : r0 = reached (ledB os now) := hin.out.1.right.one (reached_right ledB_lt)
      have HZ : Hid (Srs w R (reached (ledB os now)) wr) := hin.out.2
      have HLN : Hid (10 = (reached (ledB os now)).length) := hin.out.1.len.symm
      clear hin
      go_wp2
      go_ret
      exact ⟨_, 10, 10, rfl, HLN.out, Nat.le_refl _, fun _ => ⟨_, rfl, HZ.out.low, HZ.out.row⟩, HZ.out.base⟩
set_option maxHeartbeats 1000000 in
theorem specReach_any (v : Value) (os : List Ob) (now : Int) (w : World) (hx : IsArena w v os) (hn : os.length ≤ 1048576) (hs : Small8 os) (hf : AllFit os) :
    Calls Tryz.prog 42 #[v, .int .i64 now] w fun e w' => BoolsAns (reachAns os now) w e w' := by
  cases hok : arenaOk os with
  | true =>
    have hlen : os.length = 10 := (arenaOk_parts hok).1
    have e1 : reachAns os now = reached (ledB os now) := by unfold reachAns; rw [hok]; rfl
    rw [e1]
    obtain ⟨a, cap, rfl, _, hel⟩ := id hx
    obtain ⟨p, _, _, _, rfl, _⟩ := hel 0 (by omega)
    rw [hlen] at hx ⊢
    exact specReach_go p cap os now w hx hok hs hf
  | false =>
    have hb0 : Below w.heap.size w (w.alloc (.cells #[] 4 (0, 0))) := below_alloc w _
    have C := specArenaOk_any v os (w.alloc (.cells #[] 4 (0, 0))) (hx.on hb0) hn hs hf
    have e1 : reachAns os now = [] := by unfold reachAns; rw [hok]; rfl
    have HB0 := hid_of hb0
    rw [e1]
    rw [hok] at C
    clear hok e1 hx hb0
    go_enter Tryz.func42, Tryz.ntmps42
    go_wp2_with fail
    refine C.mono ?_
    rintro e w1 ⟨rfl, hb⟩
    have HB1 := hid_of (below_more HB0.out hb)
    clear C hb HB0
    go_wp2
    go_ret
    exact ⟨_, 0, 0, rfl, rfl, Nat.le_refl _, fun h => absurd rfl h, HB1.out⟩
end Go.Proofs.YtbdljoldblpffaaGreat
