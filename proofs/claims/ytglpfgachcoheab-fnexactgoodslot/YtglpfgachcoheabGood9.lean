/-
  Is a handle good? The program's and the model's answer.
-/
import Derived.Test.YtglpfgachcoheabReachS9
import Derived.Test.YtglpfgachcoheabHandI
import Derived.Test.YtglpfgachcoheabHand
namespace Go.Proofs.Ytglpfgachcoheab
open Go.RowKit
set_option linter.unusedVariables false
set_option maxRecDepth 100000

def goodOf (os : List Ob) (now part h : Int) : Int := if arenaOk os && (isHandle h && (handlePart h == part)) then (if ((obAt os (handleSlot h).toNat).gen == handleGen h) && gAt (reached (ledB os now)) (handleSlot h).toNat then handleSlot h else -1) else -1
def ansK (b : Bool) (k : Nat) : Int := if b = true then (k : Int) else -1
def Holds9 (x y : Bool) : Prop := x = y
theorem slot_in {h : Int} (hh : isHandle h = true) : 0 ≤ handleSlot h ∧ handleSlot h ≤ 9 := by
  unfold handleSlot
  rw [if_pos hh]
  have := inB_true hh
  omega
theorem reached_live {os : List Ob} {now : Int} {k : Nat} (hok : arenaOk os = true) (h : gAt (reached (ledB os now)) k = true) : (obAt os k).kind ≠ 0 := by
  rcases leads_there ((reached_right ledB_lt).leads k h) with h0 | h0
  · rw [h0]
    have hr := (arenaOk_parts hok).2.2.1
    unfold rootB at hr
    simp only [Bool.and_eq_true, decide_eq_true_eq] at hr
    rw [hr.1]; decide
  · unfold expB at h0
    simp only [Bool.or_eq_false_iff] at h0
    exact fun e => by rw [e] at h0; exact absurd h0.1 (by simp)
theorem slice_at0 {w : World} {a : Option Addr} {n c : Nat} {os : List Ob} (h : IsArena w (.slice a n c) os) (h0 : 0 < os.length) : ∃ p, a = some p := by
  obtain ⟨a', c', hv, _, hx⟩ := h
  obtain ⟨p, _, _, _, hp, _⟩ := hx 0 h0
  have e := (Value.slice.inj hv).1
  exact ⟨p, e.trans hp⟩
/-- What a region leaves that asks what is reached. -/
def gGoodI (r : List Bool) (k : Nat) (vs : List Value) (i : Nat) (u : Value) (w : World) : Prop := match i with
  | 11 => ∃ g c, u = .slice (some ⟨g, 0, none⟩) 10 c ∧ 10 ≤ c ∧ BolIn w g r
  | 13 => ∃ g, u = .pointer (some ⟨g, k, none⟩) ∧ BolIn w g r
  | i => u = vs.getD i undef
theorem gGoodI_on {r : List Bool} {k : Nat} {vs : List Value} {w w' : World} (hb : Below w.heap.size w w') (i : Nat) (u : Value) (h : gGoodI r k vs i u w) : gGoodI r k vs i u w' := by
  unfold gGoodI at h ⊢
  split
  · obtain ⟨g, c, e, e2, h1⟩ := h
    exact ⟨g, c, e, e2, h1.on hb⟩
  · obtain ⟨g, e, h1⟩ := h
    exact ⟨g, e, h1.on hb⟩
  · rename_i hne hne2
    split at h
    · exact absurd rfl hne
    · exact absurd rfl hne2
    · exact h
/-- What a region leaves that asks what is reached. -/
def gGoodS (r : List Bool) (k : Nat) (vs : List Value) (i : Nat) (u : Value) (w : World) : Prop := match i with
  | 19 => ∃ g c, u = .slice (some ⟨g, 0, none⟩) 10 c ∧ 10 ≤ c ∧ BolIn w g r
  | 21 => ∃ g, u = .pointer (some ⟨g, k, none⟩) ∧ BolIn w g r
  | i => u = vs.getD i undef
theorem gGoodS_on {r : List Bool} {k : Nat} {vs : List Value} {w w' : World} (hb : Below w.heap.size w w') (i : Nat) (u : Value) (h : gGoodS r k vs i u w) : gGoodS r k vs i u w' := by
  unfold gGoodS at h ⊢
  split
  · obtain ⟨g, c, e, e2, h1⟩ := h
    exact ⟨g, c, e, e2, h1.on hb⟩
  · obtain ⟨g, e, h1⟩ := h
    exact ⟨g, e, h1.on hb⟩
  · rename_i hne hne2
    split at h
    · exact absurd rfl hne
    · exact absurd rfl hne2
    · exact h
set_option maxRecDepth 100000 in
set_option maxHeartbeats 8000000 in
theorem implGood_go (p : Addr) (cap : Nat) (os : List Ob) (now part h : Int) (k : Nat) (b : Bool) (w : World) (hx : IsArena w (.slice (some p) 10 cap) os) (hok : arenaOk os = true) (hs : Small8 os) (hh : isHandle h = true) (hp : handlePart h = part) (hk : handleSlot h = k) (hk9 : k < 10)
    (hb : b = (((obAt os k).gen == handleGen h) && gAt (reached (ledB os now)) k)) :
    Calls Try.prog 7 #[.slice (some p) 10 cap, .int .i64 now, .int .i64 part, .int .i64 h] w fun e w' => e = .returned (.int .i64 (ansK b k)) ∧ Below w.heap.size w w' := by
  have hlen := (arenaOk_parts hok).1
  have hn : os.length ≤ 1048576 := by omega
  have CA := implArenaOk_any _ os w hx hn hs
  rw [hok] at CA
  have CH : ∀ w, Calls Try.prog 18 #[.int .i64 h] w fun e w' => e = .returned (.bool (isHandle h)) ∧ w = w' := isHandleI_b h
  simp only [hh] at CH
  have HCP := hid_of (implHandlePart_any h)
  have HCS0 := hid_of (implHandleSlot_any h)
  simp only [hp] at HCP
  simp only [hk] at HCS0
  have HHG := hid_of (implHandleGen_any h)
  have HX : Hid (∀ w', Below w.heap.size w w' → IsArena w' (.slice (some p) 10 cap) os) := fun w' hb => hx.on hb
  have HRC0 : Hid (∀ w', Below w.heap.size w w' → Calls Try.prog 22 #[.slice (some p) 10 cap, .int .i64 now] w' fun e w'' => BoolsAns (reached (ledB os now)) w' e w'') := fun w' hb => by
    exact implReachOf_any p cap os now w' (hx.on hb) hlen (ls_small hs)
  have hcap : 10 ≤ cap := by obtain ⟨_, _, hv, h, _⟩ := hx; have e := (Value.slice.inj hv).2.2; omega
  have HL0 : Hid (os.length = 10) := hlen
  have HRL : Hid ((reached (ledB os now)).length = 10) := reached_len os now
  have HLV : Hid (gAt (reached (ledB os now)) k = true → (obAt os k).kind ≠ 0) := reached_live hok
  have HBB : Hid (b = (((obAt os k).gen == handleGen h) && gAt (reached (ledB os now)) k)) := hb
  have HKN := hid_of hk9
  have HK10 : Hid ((k : Int) < 10) := by show (k : Int) < 10; omega
  obtain ⟨z, hz⟩ : ∃ z, z = handleGen h := ⟨_, rfl⟩
  rw [← hz] at HHG HBB
  generalize reached (ledB os now) = r at *
  have hpp : (part != part) = false := by simp
  clear hlen hx hok hs hh hp hk hb hz hn
  go_enter Try.func7, Try.ntmps7
  go_wp2_with fail
  refine CA.mono ?_
  rintro e w1 ⟨rfl, hb⟩
  have HB1 := hid_of hb
  clear CA hb
  go_wp2_with fail
  refine (CH _).mono ?_
  rintro e w2 ⟨rfl, rfl⟩
  clear CH
  go_wp2_with fail
  refine (HCP.out _).mono ?_
  rintro e w2 ⟨rfl, rfl⟩
  clear HCP
  go_wp2_with fail
  refine (HCS0.out _).mono ?_
  rintro e w2 ⟨rfl, rfl⟩
  clear HCS0
  obtain ⟨W, hW⟩ : ∃ W, W = w1 := ⟨_, rfl⟩
  subst hW
  obtain ⟨p', q, l, d, m, hp, hq, hcs, -⟩ := (HX.out W HB1.out).at (i := k) (by rw [HL0.out]; exact hk9)
  obtain rfl : p = p' := by simpa using hp
  have HQ := hid_of hq
  have HCS : Hid (ObCells W q (obAt os k) l d m) := hcs
  have HRC : Hid (∀ w', Below W.heap.size W w' → Calls Try.prog 22 #[.slice (some p) 10 cap, .int .i64 now] w' fun e w'' => BoolsAns r w' e w'') := fun w' hb => HRC0.out w' (below_more HB1.out hb)
  obtain ⟨x, hx1⟩ : ∃ x, x = (obAt os k).kind := ⟨_, rfl⟩
  obtain ⟨y, hy1⟩ : ∃ y, y = (obAt os k).gen := ⟨_, rfl⟩
  have HK1 : Hid ((obAt os k).kind = x) := hx1.symm
  have HK0 : Hid ((obAt os k).gen = y) := hy1.symm
  rw [← hx1] at HLV
  rw [← hy1] at HBB
  clear hp hq hcs hx1 hy1 HX HRC0
  cases hn0 : (y != z) with
  | true =>
    have HBW : b = false := by rw [HBB.out]; have e : (y == z) = false := by simpa [bne] using hn0
                               rw [e]; rfl
    replace hn0 : Holds9 (y != z) true := hn0
    have HBV : Hid (b = false) := HBW
    clear HBW
    have HL : Hid (∃ l0 : List Value, l0 = [.slice (some p) 10 cap, .int .i64 k, .pointer (some q), .pointer (some q), .int .i64 y, .int .i64 h, .int .i64 z, .bool true, .bool true, undef, undef, undef, undef, undef, undef, undef, .bool true] ∧ Holds9 (y != z) true) := ⟨_, rfl, hn0⟩
    obtain ⟨l0, HL1⟩ := HL.out
    have HL : Hid (l0 = [.slice (some p) 10 cap, .int .i64 k, .pointer (some q), .pointer (some q), .int .i64 y, .int .i64 h, .int .i64 z, .bool true, .bool true, undef, undef, undef, undef, undef, undef, undef, .bool true] ∧ Holds9 (y != z) true) := HL1
    clear HL1
    go_wp2_with fail
    refine wp_region_whole (by kernel_rfl) (by kernel_rfl) (by kernel_rfl) (by kernel_rfl) (Flat (fun wz => Below W.heap.size W wz) (gVals l0)) (flat_start (below_draw _)) ?_ ?_
    · refine ⟨?_, ?_, ?_, ?_, ?_, ?_, ?_, ?_, ?_, ?_, ?_, ?_, ?_, ?_, ?_, ?_, ?_, trivial⟩
      · intro b0 us wz L hslot hoth hLi hR hcl hdo K hK
        rcases HL.out with ⟨rfl, HN⟩
        · have s0 : b0.tmps.getD 0 undef = .slice (some p) 10 cap := hoth 0 (by rfl)
          clear hslot hoth hdo hcl hLi
          refine guard_none (by rfl) ?_
          go_simp
          exact hK _ _ (flat_mark (hR.1) (fun _ _ h => h) hR.2 rfl)
      · intro b0 us wz L hslot hoth hLi hR hcl hdo K hK
        rcases HL.out with ⟨rfl, HN⟩
        · have s9 : b0.tmps.getD 9 undef = .int .i64 k := hoth 9 (by rfl)
          clear hslot hoth hdo hcl hLi
          refine guard_none (by rfl) ?_
          go_simp
          exact hK _ _ (flat_mark (hR.1) (fun _ _ h => h) hR.2 rfl)
      · intro b0 us wz L hslot hoth hLi hR hcl hdo K hK
        rcases HL.out with ⟨rfl, HN⟩
        · have s26 : b0.tmps.getD 26 undef = .slice (some p) 10 cap := (hslot 0 26 (by rfl)).trans (hR.2 0 (done_at hdo 0 (by rfl)))
          have s27 : b0.tmps.getD 27 undef = .int .i64 k := (hslot 1 27 (by rfl)).trans (hR.2 1 (done_at hdo 1 (by rfl)))
          have hq := HQ.out
          have hk10 : (k : Int) < 10 := HK10.out
          clear hslot hoth hdo hcl hLi
          refine guard_none (by rfl) ?_
          go_simp
          exact hK _ _ (flat_mark (hR.1) (fun _ _ h => h) hR.2 rfl)
      · intro b0 us wz L hslot hoth hLi hR hcl hdo K hK
        rcases HL.out with ⟨rfl, HN⟩
        · have s28 : b0.tmps.getD 28 undef = .pointer (some q) := (hslot 2 28 (by rfl)).trans (hR.2 2 (done_at hdo 2 (by rfl)))
          clear hslot hoth hdo hcl hLi
          refine guard_none (by rfl) ?_
          go_simp
          exact hK _ _ (flat_mark (hR.1) (fun _ _ h => h) hR.2 rfl)
      · intro b0 us wz L hslot hoth hLi hR hcl hdo K hK
        rcases HL.out with ⟨rfl, HN⟩
        · have s29 : b0.tmps.getD 29 undef = .pointer (some q) := (hslot 3 29 (by rfl)).trans (hR.2 3 (done_at hdo 3 (by rfl)))
          have k0 := (HCS.out.on hR.1).c0
          rw [HK0.out] at k0
          clear hslot hoth hdo hcl hLi
          refine guard_none (by rfl) ?_
          go_simp
          exact hK _ _ (flat_mark (hR.1) (fun _ _ h => h) hR.2 rfl)
      · intro b0 us wz L hslot hoth hLi hR hcl hdo K hK
        rcases HL.out with ⟨rfl, HN⟩
        · have s3 : b0.tmps.getD 3 undef = .int .i64 h := hoth 3 (by rfl)
          clear hslot hoth hdo hcl hLi
          refine guard_none (by rfl) ?_
          go_simp
          exact hK _ _ (flat_mark (hR.1) (fun _ _ h => h) hR.2 rfl)
      · intro b0 us wz L hslot hoth hLi hR hcl hdo K hK
        rcases HL.out with ⟨rfl, HN⟩
        · have s31 : b0.tmps.getD 31 undef = .int .i64 h := (hslot 5 31 (by rfl)).trans (hR.2 5 (done_at hdo 5 (by rfl)))
          clear hslot hoth hdo hcl hLi
          refine guard_none (by rfl) ?_
          go_simp
          refine (HHG.out wz).mono ?_
          rintro e w' ⟨rfl, rfl⟩
          exact hK _ _ (flat_mark (hR.1) (fun _ _ h => h) hR.2 rfl)
      · intro b0 us wz L hslot hoth hLi hR hcl hdo K hK
        rcases HL.out with ⟨rfl, HN⟩
        · have s30 : b0.tmps.getD 30 undef = .int .i64 y := (hslot 4 30 (by rfl)).trans (hR.2 4 (done_at hdo 4 (by rfl)))
          have s32 : b0.tmps.getD 32 undef = .int .i64 z := (hslot 6 32 (by rfl)).trans (hR.2 6 (done_at hdo 6 (by rfl)))
          have e7 : (y != z) = true := HN
          clear hslot hoth hdo hcl hLi
          refine guard_none (by rfl) ?_
          go_simp
          exact hK _ _ (flat_mark (hR.1) (fun _ _ h => h) hR.2 rfl)
      · intro b0 us wz L hslot hoth hLi hR hcl hdo K hK
        rcases HL.out with ⟨rfl, HN⟩
        · have s33 : b0.tmps.getD 33 undef = .bool true := (hslot 7 33 (by rfl)).trans (hR.2 7 (done_at hdo 7 (by rfl)))
          clear hslot hoth hdo hcl hLi
          refine guard_none (by rfl) ?_
          go_simp
          exact hK _ _ (flat_mark (hR.1) (fun _ _ h => h) hR.2 rfl)
      · intro b0 us wz L hslot hoth hLi hR hcl hdo K hK
        rcases HL.out with ⟨rfl, HN⟩
        · have gg : us 8 = .bool true := hR.2 8 (done_at hdo 8 (by rfl))
          refine guard_off (j := 8) (want := false) (d := 34) (by rfl) (by rfl) gg (by rfl) ?_
          exact hK undef _ (flat_mark (hR.1) (fun _ _ h => h) hR.2 rfl)
      · intro b0 us wz L hslot hoth hLi hR hcl hdo K hK
        rcases HL.out with ⟨rfl, HN⟩
        · have gg : us 8 = .bool true := hR.2 8 (done_at hdo 8 (by rfl))
          refine guard_off (j := 8) (want := false) (d := 34) (by rfl) (by rfl) gg (by rfl) ?_
          exact hK undef _ (flat_mark (hR.1) (fun _ _ h => h) hR.2 rfl)
      · intro b0 us wz L hslot hoth hLi hR hcl hdo K hK
        rcases HL.out with ⟨rfl, HN⟩
        · have gg : us 8 = .bool true := hR.2 8 (done_at hdo 8 (by rfl))
          refine guard_off (j := 8) (want := false) (d := 34) (by rfl) (by rfl) gg (by rfl) ?_
          exact hK undef _ (flat_mark (hR.1) (fun _ _ h => h) hR.2 rfl)
      · intro b0 us wz L hslot hoth hLi hR hcl hdo K hK
        rcases HL.out with ⟨rfl, HN⟩
        · have gg : us 8 = .bool true := hR.2 8 (done_at hdo 8 (by rfl))
          refine guard_off (j := 8) (want := false) (d := 34) (by rfl) (by rfl) gg (by rfl) ?_
          exact hK undef _ (flat_mark (hR.1) (fun _ _ h => h) hR.2 rfl)
      · intro b0 us wz L hslot hoth hLi hR hcl hdo K hK
        rcases HL.out with ⟨rfl, HN⟩
        · have gg : us 8 = .bool true := hR.2 8 (done_at hdo 8 (by rfl))
          refine guard_off (j := 8) (want := false) (d := 34) (by rfl) (by rfl) gg (by rfl) ?_
          exact hK undef _ (flat_mark (hR.1) (fun _ _ h => h) hR.2 rfl)
      · intro b0 us wz L hslot hoth hLi hR hcl hdo K hK
        rcases HL.out with ⟨rfl, HN⟩
        · have gg : us 8 = .bool true := hR.2 8 (done_at hdo 8 (by rfl))
          refine guard_off (j := 8) (want := false) (d := 34) (by rfl) (by rfl) gg (by rfl) ?_
          exact hK undef _ (flat_mark (hR.1) (fun _ _ h => h) hR.2 rfl)
      · intro b0 us wz L hslot hoth hLi hR hcl hdo K hK
        rcases HL.out with ⟨rfl, HN⟩
        · have gg : us 8 = .bool true := hR.2 8 (done_at hdo 8 (by rfl))
          refine guard_off (j := 8) (want := false) (d := 34) (by rfl) (by rfl) gg (by rfl) ?_
          exact hK undef _ (flat_mark (hR.1) (fun _ _ h => h) hR.2 rfl)
      · intro b0 us wz L hslot hoth hLi hR hcl hdo K hK
        rcases HL.out with ⟨rfl, HN⟩
        · have s34 : b0.tmps.getD 34 undef = .bool true := (hslot 8 34 (by rfl)).trans (hR.2 8 (done_at hdo 8 (by rfl)))
          have s41 : b0.tmps.getD 41 undef = undef := (hslot 15 41 (by rfl)).trans (hR.2 15 (done_at hdo 15 (by rfl)))
          clear hslot hoth hdo hcl hLi
          refine guard_none (by rfl) ?_
          go_simp
          exact hK _ _ (flat_mark (hR.1) (fun _ _ h => h) hR.2 rfl)
    · intro us wn L hall hR a' ha'
      have g16 : us 16 = .bool true := by
        have := hR.2 16 (hall 16 (by decide))
        rcases HL.out with ⟨rfl, HN⟩
        all_goals exact this
      have HB := hid_of hR.1
      clear hR hall
      simp only [putAll, g16] at ha'
      subst ha'
      go_frame
      have HB9 := hid_of (below_more HB1.out HB.out)
      clear HL HB HRC HHG
      go_wp2
      go_ret
      exact ⟨by rw [HBV.out]; rfl, HB9.out⟩
  | false =>
    have hyz : (y == z) = true := by simpa [bne] using hn0
    replace hn0 : Holds9 (y != z) false := hn0
    cases hg0 : gAt r k with
    | true =>
      have HBW : b = true := by rw [HBB.out, hyz, hg0]; rfl
      replace hg0 : Holds9 (gAt r k) true := hg0
      clear hyz
      have HBV : Hid (b = true) := HBW
      clear HBW
      have HL : Hid (∃ l0 : List Value, l0 = [.slice (some p) 10 cap, .int .i64 k, .pointer (some q), .pointer (some q), .int .i64 y, .int .i64 h, .int .i64 z, .bool false, .bool false, .slice (some p) 10 cap, .int .i64 now, undef, .int .i64 k, undef, .bool true, .bool false, .bool false] ∧ Holds9 (y != z) false ∧ Holds9 (gAt r k) true) := ⟨_, rfl, hn0, hg0⟩
      obtain ⟨l0, HL1⟩ := HL.out
      have HL : Hid (l0 = [.slice (some p) 10 cap, .int .i64 k, .pointer (some q), .pointer (some q), .int .i64 y, .int .i64 h, .int .i64 z, .bool false, .bool false, .slice (some p) 10 cap, .int .i64 now, undef, .int .i64 k, undef, .bool true, .bool false, .bool false] ∧ Holds9 (y != z) false ∧ Holds9 (gAt r k) true) := HL1
      clear HL1
      go_wp2_with fail
      refine wp_region_whole (by kernel_rfl) (by kernel_rfl) (by kernel_rfl) (by kernel_rfl) (Flat (fun wz => Below W.heap.size W wz) (gGoodI r k l0)) (flat_start (below_draw _)) ?_ ?_
      · refine ⟨?_, ?_, ?_, ?_, ?_, ?_, ?_, ?_, ?_, ?_, ?_, ?_, ?_, ?_, ?_, ?_, ?_, trivial⟩
        · intro b0 us wz L hslot hoth hLi hR hcl hdo K hK
          rcases HL.out with ⟨rfl, HN, HB2⟩
          · have s0 : b0.tmps.getD 0 undef = .slice (some p) 10 cap := hoth 0 (by rfl)
            clear hslot hoth hdo hcl hLi
            refine guard_none (by rfl) ?_
            go_simp
            exact hK _ _ (flat_mark (hR.1) (fun _ _ h => h) hR.2 rfl)
        · intro b0 us wz L hslot hoth hLi hR hcl hdo K hK
          rcases HL.out with ⟨rfl, HN, HB2⟩
          · have s9 : b0.tmps.getD 9 undef = .int .i64 k := hoth 9 (by rfl)
            clear hslot hoth hdo hcl hLi
            refine guard_none (by rfl) ?_
            go_simp
            exact hK _ _ (flat_mark (hR.1) (fun _ _ h => h) hR.2 rfl)
        · intro b0 us wz L hslot hoth hLi hR hcl hdo K hK
          rcases HL.out with ⟨rfl, HN, HB2⟩
          · have s26 : b0.tmps.getD 26 undef = .slice (some p) 10 cap := (hslot 0 26 (by rfl)).trans (hR.2 0 (done_at hdo 0 (by rfl)))
            have s27 : b0.tmps.getD 27 undef = .int .i64 k := (hslot 1 27 (by rfl)).trans (hR.2 1 (done_at hdo 1 (by rfl)))
            have hq := HQ.out
            have hk10 : (k : Int) < 10 := HK10.out
            clear hslot hoth hdo hcl hLi
            refine guard_none (by rfl) ?_
            go_simp
            exact hK _ _ (flat_mark (hR.1) (fun _ _ h => h) hR.2 rfl)
        · intro b0 us wz L hslot hoth hLi hR hcl hdo K hK
          rcases HL.out with ⟨rfl, HN, HB2⟩
          · have s28 : b0.tmps.getD 28 undef = .pointer (some q) := (hslot 2 28 (by rfl)).trans (hR.2 2 (done_at hdo 2 (by rfl)))
            clear hslot hoth hdo hcl hLi
            refine guard_none (by rfl) ?_
            go_simp
            exact hK _ _ (flat_mark (hR.1) (fun _ _ h => h) hR.2 rfl)
        · intro b0 us wz L hslot hoth hLi hR hcl hdo K hK
          rcases HL.out with ⟨rfl, HN, HB2⟩
          · have s29 : b0.tmps.getD 29 undef = .pointer (some q) := (hslot 3 29 (by rfl)).trans (hR.2 3 (done_at hdo 3 (by rfl)))
            have k0 := (HCS.out.on hR.1).c0
            rw [HK0.out] at k0
            clear hslot hoth hdo hcl hLi
            refine guard_none (by rfl) ?_
            go_simp
            exact hK _ _ (flat_mark (hR.1) (fun _ _ h => h) hR.2 rfl)
        · intro b0 us wz L hslot hoth hLi hR hcl hdo K hK
          rcases HL.out with ⟨rfl, HN, HB2⟩
          · have s3 : b0.tmps.getD 3 undef = .int .i64 h := hoth 3 (by rfl)
            clear hslot hoth hdo hcl hLi
            refine guard_none (by rfl) ?_
            go_simp
            exact hK _ _ (flat_mark (hR.1) (fun _ _ h => h) hR.2 rfl)
        · intro b0 us wz L hslot hoth hLi hR hcl hdo K hK
          rcases HL.out with ⟨rfl, HN, HB2⟩
          · have s31 : b0.tmps.getD 31 undef = .int .i64 h := (hslot 5 31 (by rfl)).trans (hR.2 5 (done_at hdo 5 (by rfl)))
            clear hslot hoth hdo hcl hLi
            refine guard_none (by rfl) ?_
            go_simp
            refine (HHG.out wz).mono ?_
            rintro e w' ⟨rfl, rfl⟩
            exact hK _ _ (flat_mark (hR.1) (fun _ _ h => h) hR.2 rfl)
        · intro b0 us wz L hslot hoth hLi hR hcl hdo K hK
          rcases HL.out with ⟨rfl, HN, HB2⟩
          · have s30 : b0.tmps.getD 30 undef = .int .i64 y := (hslot 4 30 (by rfl)).trans (hR.2 4 (done_at hdo 4 (by rfl)))
            have s32 : b0.tmps.getD 32 undef = .int .i64 z := (hslot 6 32 (by rfl)).trans (hR.2 6 (done_at hdo 6 (by rfl)))
            have e7 : (y != z) = false := HN
            clear hslot hoth hdo hcl hLi
            refine guard_none (by rfl) ?_
            go_simp
            exact hK _ _ (flat_mark (hR.1) (fun _ _ h => h) hR.2 rfl)
        · intro b0 us wz L hslot hoth hLi hR hcl hdo K hK
          rcases HL.out with ⟨rfl, HN, HB2⟩
          · have s33 : b0.tmps.getD 33 undef = .bool false := (hslot 7 33 (by rfl)).trans (hR.2 7 (done_at hdo 7 (by rfl)))
            clear hslot hoth hdo hcl hLi
            refine guard_none (by rfl) ?_
            go_simp
            exact hK _ _ (flat_mark (hR.1) (fun _ _ h => h) hR.2 rfl)
        · intro b0 us wz L hslot hoth hLi hR hcl hdo K hK
          rcases HL.out with ⟨rfl, HN, HB2⟩
          · have gg : us 8 = .bool false := hR.2 8 (done_at hdo 8 (by rfl))
            have s0 : b0.tmps.getD 0 undef = .slice (some p) 10 cap := hoth 0 (by rfl)
            clear hslot hoth hdo hcl hLi
            refine guard_on (j := 8) (want := false) (d := 34) (by rfl) (by rfl) gg ?_
            go_simp
            exact hK _ _ (flat_mark (hR.1) (fun _ _ h => h) hR.2 rfl)
        · intro b0 us wz L hslot hoth hLi hR hcl hdo K hK
          rcases HL.out with ⟨rfl, HN, HB2⟩
          · have gg : us 8 = .bool false := hR.2 8 (done_at hdo 8 (by rfl))
            have s1 : b0.tmps.getD 1 undef = .int .i64 now := hoth 1 (by rfl)
            clear hslot hoth hdo hcl hLi
            refine guard_on (j := 8) (want := false) (d := 34) (by rfl) (by rfl) gg ?_
            go_simp
            exact hK _ _ (flat_mark (hR.1) (fun _ _ h => h) hR.2 rfl)
        · intro b0 us wz L hslot hoth hLi hR hcl hdo K hK
          rcases HL.out with ⟨rfl, HN, HB2⟩
          · have gg : us 8 = .bool false := hR.2 8 (done_at hdo 8 (by rfl))
            have s35 : b0.tmps.getD 35 undef = .slice (some p) 10 cap := (hslot 9 35 (by rfl)).trans (hR.2 9 (done_at hdo 9 (by rfl)))
            have s36 : b0.tmps.getD 36 undef = .int .i64 now := (hslot 10 36 (by rfl)).trans (hR.2 10 (done_at hdo 10 (by rfl)))
            clear hslot hoth hdo hcl hLi
            refine guard_on (j := 8) (want := false) (d := 34) (by rfl) (by rfl) gg ?_
            go_simp
            refine (HRC.out wz hR.1).mono ?_
            rintro e w' ⟨a9, n9, c9, rfl, hn9, hc9, hg9, hb9⟩
            obtain rfl : n9 = 10 := by rw [hn9]; exact HRL.out
            obtain ⟨g9, rfl, -, hbol9⟩ := hg9 (by omega)
            exact hK _ _ (flat_mark (below_more hR.1 hb9) (gGoodI_on hb9) hR.2 ⟨g9, c9, rfl, hc9, hbol9⟩)
        · intro b0 us wz L hslot hoth hLi hR hcl hdo K hK
          rcases HL.out with ⟨rfl, HN, HB2⟩
          · have gg : us 8 = .bool false := hR.2 8 (done_at hdo 8 (by rfl))
            have s9 : b0.tmps.getD 9 undef = .int .i64 k := hoth 9 (by rfl)
            clear hslot hoth hdo hcl hLi
            refine guard_on (j := 8) (want := false) (d := 34) (by rfl) (by rfl) gg ?_
            go_simp
            exact hK _ _ (flat_mark (hR.1) (fun _ _ h => h) hR.2 rfl)
        · intro b0 us wz L hslot hoth hLi hR hcl hdo K hK
          rcases HL.out with ⟨rfl, HN, HB2⟩
          · have gg : us 8 = .bool false := hR.2 8 (done_at hdo 8 (by rfl))
            obtain ⟨g, cg, hu, hcg, hbol⟩ := hR.2 11 (done_at hdo 11 (by rfl))
            have s37 : b0.tmps.getD 37 undef = .slice (some ⟨g, 0, none⟩) 10 cg := (hslot 11 37 (by rfl)).trans hu
            have s38 : b0.tmps.getD 38 undef = .int .i64 k := (hslot 12 38 (by rfl)).trans (hR.2 12 (done_at hdo 12 (by rfl)))
            have hk10 : (k : Int) < 10 := HK10.out
            clear hslot hoth hdo hcl hLi
            refine guard_on (j := 8) (want := false) (d := 34) (by rfl) (by rfl) gg ?_
            go_simp
            exact hK _ _ (flat_mark (hR.1) (fun _ _ h => h) hR.2 ⟨g, rfl, hbol⟩)
        · intro b0 us wz L hslot hoth hLi hR hcl hdo K hK
          rcases HL.out with ⟨rfl, HN, HB2⟩
          · have gg : us 8 = .bool false := hR.2 8 (done_at hdo 8 (by rfl))
            obtain ⟨g, hu, hbol⟩ := hR.2 13 (done_at hdo 13 (by rfl))
            have s39 : b0.tmps.getD 39 undef = .pointer (some ⟨g, k, none⟩) := (hslot 13 39 (by rfl)).trans hu
            have kR := (hbol.cell k (by rw [HRL.out]; exact HKN.out)).trans (congrArg (fun b => some (Value.bool b)) HB2)
            clear hslot hoth hdo hcl hLi
            refine guard_on (j := 8) (want := false) (d := 34) (by rfl) (by rfl) gg ?_
            go_simp
            exact hK _ _ (flat_mark (hR.1) (fun _ _ h => h) hR.2 rfl)
        · intro b0 us wz L hslot hoth hLi hR hcl hdo K hK
          rcases HL.out with ⟨rfl, HN, HB2⟩
          · have gg : us 8 = .bool false := hR.2 8 (done_at hdo 8 (by rfl))
            have s40 : b0.tmps.getD 40 undef = .bool true := (hslot 14 40 (by rfl)).trans (hR.2 14 (done_at hdo 14 (by rfl)))
            clear hslot hoth hdo hcl hLi
            refine guard_on (j := 8) (want := false) (d := 34) (by rfl) (by rfl) gg ?_
            go_simp
            exact hK _ _ (flat_mark (hR.1) (fun _ _ h => h) hR.2 rfl)
        · intro b0 us wz L hslot hoth hLi hR hcl hdo K hK
          rcases HL.out with ⟨rfl, HN, HB2⟩
          · have s34 : b0.tmps.getD 34 undef = .bool false := (hslot 8 34 (by rfl)).trans (hR.2 8 (done_at hdo 8 (by rfl)))
            have s41 : b0.tmps.getD 41 undef = .bool false := (hslot 15 41 (by rfl)).trans (hR.2 15 (done_at hdo 15 (by rfl)))
            clear hslot hoth hdo hcl hLi
            refine guard_none (by rfl) ?_
            go_simp
            exact hK _ _ (flat_mark (hR.1) (fun _ _ h => h) hR.2 rfl)
      · intro us wn L hall hR a' ha'
        have g16 : us 16 = .bool false := by
          have := hR.2 16 (hall 16 (by decide))
          rcases HL.out with ⟨rfl, HN, HB2⟩
          all_goals exact this
        have HB := hid_of hR.1
        clear hR hall
        simp only [putAll, g16] at ha'
        subst ha'
        go_frame
        have HB9 := hid_of (below_more HB1.out HB.out)
        clear HL HB HRC HHG
        go_wp2
        go_ret
        exact ⟨by rw [HBV.out]; rfl, HB9.out⟩
    | false =>
      have HBW : b = false := by rw [HBB.out, hyz, hg0]; rfl
      replace hg0 : Holds9 (gAt r k) false := hg0
      clear hyz
      have HBV : Hid (b = false) := HBW
      clear HBW
      have HL : Hid (∃ l0 : List Value, l0 = [.slice (some p) 10 cap, .int .i64 k, .pointer (some q), .pointer (some q), .int .i64 y, .int .i64 h, .int .i64 z, .bool false, .bool false, .slice (some p) 10 cap, .int .i64 now, undef, .int .i64 k, undef, .bool false, .bool true, .bool true] ∧ Holds9 (y != z) false ∧ Holds9 (gAt r k) false) := ⟨_, rfl, hn0, hg0⟩
      obtain ⟨l0, HL1⟩ := HL.out
      have HL : Hid (l0 = [.slice (some p) 10 cap, .int .i64 k, .pointer (some q), .pointer (some q), .int .i64 y, .int .i64 h, .int .i64 z, .bool false, .bool false, .slice (some p) 10 cap, .int .i64 now, undef, .int .i64 k, undef, .bool false, .bool true, .bool true] ∧ Holds9 (y != z) false ∧ Holds9 (gAt r k) false) := HL1
      clear HL1
      go_wp2_with fail
      refine wp_region_whole (by kernel_rfl) (by kernel_rfl) (by kernel_rfl) (by kernel_rfl) (Flat (fun wz => Below W.heap.size W wz) (gGoodI r k l0)) (flat_start (below_draw _)) ?_ ?_
      · refine ⟨?_, ?_, ?_, ?_, ?_, ?_, ?_, ?_, ?_, ?_, ?_, ?_, ?_, ?_, ?_, ?_, ?_, trivial⟩
        · intro b0 us wz L hslot hoth hLi hR hcl hdo K hK
          rcases HL.out with ⟨rfl, HN, HB2⟩
          · have s0 : b0.tmps.getD 0 undef = .slice (some p) 10 cap := hoth 0 (by rfl)
            clear hslot hoth hdo hcl hLi
            refine guard_none (by rfl) ?_
            go_simp
            exact hK _ _ (flat_mark (hR.1) (fun _ _ h => h) hR.2 rfl)
        · intro b0 us wz L hslot hoth hLi hR hcl hdo K hK
          rcases HL.out with ⟨rfl, HN, HB2⟩
          · have s9 : b0.tmps.getD 9 undef = .int .i64 k := hoth 9 (by rfl)
            clear hslot hoth hdo hcl hLi
            refine guard_none (by rfl) ?_
            go_simp
            exact hK _ _ (flat_mark (hR.1) (fun _ _ h => h) hR.2 rfl)
        · intro b0 us wz L hslot hoth hLi hR hcl hdo K hK
          rcases HL.out with ⟨rfl, HN, HB2⟩
          · have s26 : b0.tmps.getD 26 undef = .slice (some p) 10 cap := (hslot 0 26 (by rfl)).trans (hR.2 0 (done_at hdo 0 (by rfl)))
            have s27 : b0.tmps.getD 27 undef = .int .i64 k := (hslot 1 27 (by rfl)).trans (hR.2 1 (done_at hdo 1 (by rfl)))
            have hq := HQ.out
            have hk10 : (k : Int) < 10 := HK10.out
            clear hslot hoth hdo hcl hLi
            refine guard_none (by rfl) ?_
            go_simp
            exact hK _ _ (flat_mark (hR.1) (fun _ _ h => h) hR.2 rfl)
        · intro b0 us wz L hslot hoth hLi hR hcl hdo K hK
          rcases HL.out with ⟨rfl, HN, HB2⟩
          · have s28 : b0.tmps.getD 28 undef = .pointer (some q) := (hslot 2 28 (by rfl)).trans (hR.2 2 (done_at hdo 2 (by rfl)))
            clear hslot hoth hdo hcl hLi
            refine guard_none (by rfl) ?_
            go_simp
            exact hK _ _ (flat_mark (hR.1) (fun _ _ h => h) hR.2 rfl)
        · intro b0 us wz L hslot hoth hLi hR hcl hdo K hK
          rcases HL.out with ⟨rfl, HN, HB2⟩
          · have s29 : b0.tmps.getD 29 undef = .pointer (some q) := (hslot 3 29 (by rfl)).trans (hR.2 3 (done_at hdo 3 (by rfl)))
            have k0 := (HCS.out.on hR.1).c0
            rw [HK0.out] at k0
            clear hslot hoth hdo hcl hLi
            refine guard_none (by rfl) ?_
            go_simp
            exact hK _ _ (flat_mark (hR.1) (fun _ _ h => h) hR.2 rfl)
        · intro b0 us wz L hslot hoth hLi hR hcl hdo K hK
          rcases HL.out with ⟨rfl, HN, HB2⟩
          · have s3 : b0.tmps.getD 3 undef = .int .i64 h := hoth 3 (by rfl)
            clear hslot hoth hdo hcl hLi
            refine guard_none (by rfl) ?_
            go_simp
            exact hK _ _ (flat_mark (hR.1) (fun _ _ h => h) hR.2 rfl)
        · intro b0 us wz L hslot hoth hLi hR hcl hdo K hK
          rcases HL.out with ⟨rfl, HN, HB2⟩
          · have s31 : b0.tmps.getD 31 undef = .int .i64 h := (hslot 5 31 (by rfl)).trans (hR.2 5 (done_at hdo 5 (by rfl)))
            clear hslot hoth hdo hcl hLi
            refine guard_none (by rfl) ?_
            go_simp
            refine (HHG.out wz).mono ?_
            rintro e w' ⟨rfl, rfl⟩
            exact hK _ _ (flat_mark (hR.1) (fun _ _ h => h) hR.2 rfl)
        · intro b0 us wz L hslot hoth hLi hR hcl hdo K hK
          rcases HL.out with ⟨rfl, HN, HB2⟩
          · have s30 : b0.tmps.getD 30 undef = .int .i64 y := (hslot 4 30 (by rfl)).trans (hR.2 4 (done_at hdo 4 (by rfl)))
            have s32 : b0.tmps.getD 32 undef = .int .i64 z := (hslot 6 32 (by rfl)).trans (hR.2 6 (done_at hdo 6 (by rfl)))
            have e7 : (y != z) = false := HN
            clear hslot hoth hdo hcl hLi
            refine guard_none (by rfl) ?_
            go_simp
            exact hK _ _ (flat_mark (hR.1) (fun _ _ h => h) hR.2 rfl)
        · intro b0 us wz L hslot hoth hLi hR hcl hdo K hK
          rcases HL.out with ⟨rfl, HN, HB2⟩
          · have s33 : b0.tmps.getD 33 undef = .bool false := (hslot 7 33 (by rfl)).trans (hR.2 7 (done_at hdo 7 (by rfl)))
            clear hslot hoth hdo hcl hLi
            refine guard_none (by rfl) ?_
            go_simp
            exact hK _ _ (flat_mark (hR.1) (fun _ _ h => h) hR.2 rfl)
        · intro b0 us wz L hslot hoth hLi hR hcl hdo K hK
          rcases HL.out with ⟨rfl, HN, HB2⟩
          · have gg : us 8 = .bool false := hR.2 8 (done_at hdo 8 (by rfl))
            have s0 : b0.tmps.getD 0 undef = .slice (some p) 10 cap := hoth 0 (by rfl)
            clear hslot hoth hdo hcl hLi
            refine guard_on (j := 8) (want := false) (d := 34) (by rfl) (by rfl) gg ?_
            go_simp
            exact hK _ _ (flat_mark (hR.1) (fun _ _ h => h) hR.2 rfl)
        · intro b0 us wz L hslot hoth hLi hR hcl hdo K hK
          rcases HL.out with ⟨rfl, HN, HB2⟩
          · have gg : us 8 = .bool false := hR.2 8 (done_at hdo 8 (by rfl))
            have s1 : b0.tmps.getD 1 undef = .int .i64 now := hoth 1 (by rfl)
            clear hslot hoth hdo hcl hLi
            refine guard_on (j := 8) (want := false) (d := 34) (by rfl) (by rfl) gg ?_
            go_simp
            exact hK _ _ (flat_mark (hR.1) (fun _ _ h => h) hR.2 rfl)
        · intro b0 us wz L hslot hoth hLi hR hcl hdo K hK
          rcases HL.out with ⟨rfl, HN, HB2⟩
          · have gg : us 8 = .bool false := hR.2 8 (done_at hdo 8 (by rfl))
            have s35 : b0.tmps.getD 35 undef = .slice (some p) 10 cap := (hslot 9 35 (by rfl)).trans (hR.2 9 (done_at hdo 9 (by rfl)))
            have s36 : b0.tmps.getD 36 undef = .int .i64 now := (hslot 10 36 (by rfl)).trans (hR.2 10 (done_at hdo 10 (by rfl)))
            clear hslot hoth hdo hcl hLi
            refine guard_on (j := 8) (want := false) (d := 34) (by rfl) (by rfl) gg ?_
            go_simp
            refine (HRC.out wz hR.1).mono ?_
            rintro e w' ⟨a9, n9, c9, rfl, hn9, hc9, hg9, hb9⟩
            obtain rfl : n9 = 10 := by rw [hn9]; exact HRL.out
            obtain ⟨g9, rfl, -, hbol9⟩ := hg9 (by omega)
            exact hK _ _ (flat_mark (below_more hR.1 hb9) (gGoodI_on hb9) hR.2 ⟨g9, c9, rfl, hc9, hbol9⟩)
        · intro b0 us wz L hslot hoth hLi hR hcl hdo K hK
          rcases HL.out with ⟨rfl, HN, HB2⟩
          · have gg : us 8 = .bool false := hR.2 8 (done_at hdo 8 (by rfl))
            have s9 : b0.tmps.getD 9 undef = .int .i64 k := hoth 9 (by rfl)
            clear hslot hoth hdo hcl hLi
            refine guard_on (j := 8) (want := false) (d := 34) (by rfl) (by rfl) gg ?_
            go_simp
            exact hK _ _ (flat_mark (hR.1) (fun _ _ h => h) hR.2 rfl)
        · intro b0 us wz L hslot hoth hLi hR hcl hdo K hK
          rcases HL.out with ⟨rfl, HN, HB2⟩
          · have gg : us 8 = .bool false := hR.2 8 (done_at hdo 8 (by rfl))
            obtain ⟨g, cg, hu, hcg, hbol⟩ := hR.2 11 (done_at hdo 11 (by rfl))
            have s37 : b0.tmps.getD 37 undef = .slice (some ⟨g, 0, none⟩) 10 cg := (hslot 11 37 (by rfl)).trans hu
            have s38 : b0.tmps.getD 38 undef = .int .i64 k := (hslot 12 38 (by rfl)).trans (hR.2 12 (done_at hdo 12 (by rfl)))
            have hk10 : (k : Int) < 10 := HK10.out
            clear hslot hoth hdo hcl hLi
            refine guard_on (j := 8) (want := false) (d := 34) (by rfl) (by rfl) gg ?_
            go_simp
            exact hK _ _ (flat_mark (hR.1) (fun _ _ h => h) hR.2 ⟨g, rfl, hbol⟩)
        · intro b0 us wz L hslot hoth hLi hR hcl hdo K hK
          rcases HL.out with ⟨rfl, HN, HB2⟩
          · have gg : us 8 = .bool false := hR.2 8 (done_at hdo 8 (by rfl))
            obtain ⟨g, hu, hbol⟩ := hR.2 13 (done_at hdo 13 (by rfl))
            have s39 : b0.tmps.getD 39 undef = .pointer (some ⟨g, k, none⟩) := (hslot 13 39 (by rfl)).trans hu
            have kR := (hbol.cell k (by rw [HRL.out]; exact HKN.out)).trans (congrArg (fun b => some (Value.bool b)) HB2)
            clear hslot hoth hdo hcl hLi
            refine guard_on (j := 8) (want := false) (d := 34) (by rfl) (by rfl) gg ?_
            go_simp
            exact hK _ _ (flat_mark (hR.1) (fun _ _ h => h) hR.2 rfl)
        · intro b0 us wz L hslot hoth hLi hR hcl hdo K hK
          rcases HL.out with ⟨rfl, HN, HB2⟩
          · have gg : us 8 = .bool false := hR.2 8 (done_at hdo 8 (by rfl))
            have s40 : b0.tmps.getD 40 undef = .bool false := (hslot 14 40 (by rfl)).trans (hR.2 14 (done_at hdo 14 (by rfl)))
            clear hslot hoth hdo hcl hLi
            refine guard_on (j := 8) (want := false) (d := 34) (by rfl) (by rfl) gg ?_
            go_simp
            exact hK _ _ (flat_mark (hR.1) (fun _ _ h => h) hR.2 rfl)
        · intro b0 us wz L hslot hoth hLi hR hcl hdo K hK
          rcases HL.out with ⟨rfl, HN, HB2⟩
          · have s34 : b0.tmps.getD 34 undef = .bool false := (hslot 8 34 (by rfl)).trans (hR.2 8 (done_at hdo 8 (by rfl)))
            have s41 : b0.tmps.getD 41 undef = .bool true := (hslot 15 41 (by rfl)).trans (hR.2 15 (done_at hdo 15 (by rfl)))
            clear hslot hoth hdo hcl hLi
            refine guard_none (by rfl) ?_
            go_simp
            exact hK _ _ (flat_mark (hR.1) (fun _ _ h => h) hR.2 rfl)
      · intro us wn L hall hR a' ha'
        have g16 : us 16 = .bool true := by
          have := hR.2 16 (hall 16 (by decide))
          rcases HL.out with ⟨rfl, HN, HB2⟩
          all_goals exact this
        have HB := hid_of hR.1
        clear hR hall
        simp only [putAll, g16] at ha'
        subst ha'
        go_frame
        have HB9 := hid_of (below_more HB1.out HB.out)
        clear HL HB HRC HHG
        go_wp2
        go_ret
        exact ⟨by rw [HBV.out]; rfl, HB9.out⟩
set_option maxHeartbeats 4000000 in
theorem implGood_any (v : Value) (os : List Ob) (now part h : Int) (w : World) (hx : IsArena w v os) (hn : os.length ≤ 1048576) (hs : Small8 os) :
    Calls Try.prog 7 #[v, .int .i64 now, .int .i64 part, .int .i64 h] w fun e w' => e = .returned (.int .i64 (goodOf os now part h)) ∧ Below w.heap.size w w' := by
  have CA := implArenaOk_any _ os w hx hn hs
  have CH : ∀ w, Calls Try.prog 18 #[.int .i64 h] w fun e w' => e = .returned (.bool (isHandle h)) ∧ w = w' := isHandleI_b h
  have HCP := hid_of (implHandlePart_any h)
  cases hok : arenaOk os with
  | false =>
    have e1 : goodOf os now part h = -1 := by unfold goodOf; rw [hok]; rfl
    rw [e1]
    rw [hok] at CA
    clear hok e1 hx CH HCP
    go_enter Try.func7, Try.ntmps7
    go_wp2_with fail
    refine CA.mono ?_
    rintro e w1 ⟨rfl, hb⟩
    clear CA
    go_wp2
    go_ret
    exact ⟨rfl, hb⟩
  | true =>
    cases hh : isHandle h with
    | false =>
      have e1 : goodOf os now part h = -1 := by unfold goodOf; rw [hok, hh]; rfl
      rw [e1]
      rw [hok] at CA
      simp only [hh] at CH
      clear hok e1 hx HCP hh
      go_enter Try.func7, Try.ntmps7
      go_wp2_with fail
      refine CA.mono ?_
      rintro e w1 ⟨rfl, hb⟩
      clear CA
      go_wp2_with fail
      refine (CH _).mono ?_
      rintro e w2 ⟨rfl, rfl⟩
      clear CH
      go_wp2
      go_ret
      exact ⟨rfl, hb⟩
    | true =>
      by_cases hp : handlePart h = part
      · have hsl := slot_in hh
        obtain ⟨k, hk⟩ : ∃ k : Nat, handleSlot h = k := ⟨(handleSlot h).toNat, by omega⟩
        have hlen := (arenaOk_parts hok).1
        have e1 : goodOf os now part h = ansK (((obAt os k).gen == handleGen h) && gAt (reached (ledB os now)) k) k := by
          unfold goodOf ansK
          rw [hok, hh, hk, hp, Int.toNat_natCast]
          simp
        rw [e1]
        obtain ⟨a, cap, rfl, _, hel⟩ := id hx
        obtain ⟨p, _, _, _, rfl, _⟩ := hel 0 (by omega)
        rw [hlen] at hx ⊢
        exact implGood_go p cap os now part h k _ w hx hok hs hh hp hk (by omega) rfl
      · have e1 : goodOf os now part h = -1 := by unfold goodOf; rw [hok, hh, beq_eq_false_iff_ne.2 hp]; rfl
        rw [e1]
        rw [hok] at CA
        simp only [hh] at CH
        have hpp : (handlePart h != part) = true := by simp [bne, beq_eq_false_iff_ne.2 hp]
        generalize handlePart h = pp at HCP hpp
        clear hok e1 hx hp hh
        go_enter Try.func7, Try.ntmps7
        go_wp2_with fail
        refine CA.mono ?_
        rintro e w1 ⟨rfl, hb⟩
        clear CA
        go_wp2_with fail
        refine (CH _).mono ?_
        rintro e w2 ⟨rfl, rfl⟩
        clear CH
        go_wp2_with fail
        refine (HCP.out _).mono ?_
        rintro e w2 ⟨rfl, rfl⟩
        go_wp2
        go_ret
        exact ⟨rfl, hb⟩
set_option maxRecDepth 100000 in
set_option maxHeartbeats 8000000 in
theorem specGood_go (p : Addr) (cap : Nat) (os : List Ob) (now part h : Int) (k : Nat) (b : Bool) (w : World) (hx : IsArena w (.slice (some p) 10 cap) os) (hok : arenaOk os = true) (hs : Small8 os) (hf : AllFit os) (hh : isHandle h = true) (hp : handlePart h = part) (hk : handleSlot h = k) (hk9 : k < 10)
    (hb : b = (((obAt os k).gen == handleGen h) && gAt (reached (ledB os now)) k)) :
    Calls Try.prog 5 #[.slice (some p) 10 cap, .int .i64 now, .int .i64 part, .int .i64 h] w fun e w' => e = .returned (.int .i64 (ansK b k)) ∧ Below w.heap.size w w' := by
  have hlen := (arenaOk_parts hok).1
  have hn : os.length ≤ 1048576 := by omega
  have CA := specArenaOk_any _ os w hx hn hs hf
  rw [hok] at CA
  have CH : ∀ w, Calls Try.prog 11 #[.int .i64 h] w fun e w' => e = .returned (.bool (isHandle h)) ∧ w = w' := specHandle_b h
  simp only [hh] at CH
  have HCP := hid_of (specHandlePart_any h)
  have HCS0 := hid_of (specHandleSlot_any h)
  simp only [hp] at HCP
  simp only [hk] at HCS0
  have HHG := hid_of (specHandleGen_any h)
  have HX : Hid (∀ w', Below w.heap.size w w' → IsArena w' (.slice (some p) 10 cap) os) := fun w' hb => hx.on hb
  have HRC0 : Hid (∀ w', Below w.heap.size w w' → Calls Try.prog 15 #[.slice (some p) 10 cap, .int .i64 now] w' fun e w'' => BoolsAns (reached (ledB os now)) w' e w'') := fun w' hb => by
    have e := specReach_any _ os now w' (hx.on hb) hn hs hf
    unfold reachAns at e
    rw [hok] at e
    exact e
  have hcap : 10 ≤ cap := by obtain ⟨_, _, hv, h, _⟩ := hx; have e := (Value.slice.inj hv).2.2; omega
  have HL0 : Hid (os.length = 10) := hlen
  have HRL : Hid ((reached (ledB os now)).length = 10) := reached_len os now
  have HLV : Hid (gAt (reached (ledB os now)) k = true → (obAt os k).kind ≠ 0) := reached_live hok
  have HBB : Hid (b = (((obAt os k).gen == handleGen h) && gAt (reached (ledB os now)) k)) := hb
  have HKN := hid_of hk9
  have HK10 : Hid ((k : Int) < 10) := by show (k : Int) < 10; omega
  obtain ⟨z, hz⟩ : ∃ z, z = handleGen h := ⟨_, rfl⟩
  rw [← hz] at HHG HBB
  generalize reached (ledB os now) = r at *
  have hpp : (part != part) = false := by simp
  clear hlen hx hok hs hh hp hk hb hz hn hf
  go_enter Try.func5, Try.ntmps5
  go_wp2_with fail
  refine CA.mono ?_
  rintro e w1 ⟨rfl, hb⟩
  have HB1 := hid_of hb
  clear CA hb
  go_wp2_with fail
  refine (CH _).mono ?_
  rintro e w2 ⟨rfl, rfl⟩
  clear CH
  go_wp2_with fail
  refine (HCP.out _).mono ?_
  rintro e w2 ⟨rfl, rfl⟩
  clear HCP
  go_wp2_with fail
  refine (HCS0.out _).mono ?_
  rintro e w2 ⟨rfl, rfl⟩
  clear HCS0
  obtain ⟨W, hW⟩ : ∃ W, W = w1 := ⟨_, rfl⟩
  subst hW
  obtain ⟨p', q, l, d, m, hp, hq, hcs, -⟩ := (HX.out W HB1.out).at (i := k) (by rw [HL0.out]; exact hk9)
  obtain rfl : p = p' := by simpa using hp
  have HQ := hid_of hq
  have HCS : Hid (ObCells W q (obAt os k) l d m) := hcs
  have HRC : Hid (∀ w', Below W.heap.size W w' → Calls Try.prog 15 #[.slice (some p) 10 cap, .int .i64 now] w' fun e w'' => BoolsAns r w' e w'') := fun w' hb => HRC0.out w' (below_more HB1.out hb)
  obtain ⟨x, hx1⟩ : ∃ x, x = (obAt os k).kind := ⟨_, rfl⟩
  obtain ⟨y, hy1⟩ : ∃ y, y = (obAt os k).gen := ⟨_, rfl⟩
  have HK1 : Hid ((obAt os k).kind = x) := hx1.symm
  have HK0 : Hid ((obAt os k).gen = y) := hy1.symm
  rw [← hx1] at HLV
  rw [← hy1] at HBB
  clear hp hq hcs hx1 hy1 HX HRC0
  cases hz0 : (x == 0) with
  | true =>
    have HBW : b = false := by
      rw [HBB.out]
      cases hg : gAt r k with
      | true => exact absurd (by simpa using hz0) (HLV.out hg)
      | false => simp
    replace hz0 : Holds9 (x == 0) true := hz0
    have HBV : Hid (b = false) := HBW
    clear HBW
    have HL : Hid (∃ l0 : List Value, l0 = [.slice (some p) 10 cap, .int .i64 k, .pointer (some q), .pointer (some ⟨q.block, q.off + 1, none⟩), .int .i64 x, .bool true, .bool true, undef, undef, undef, undef, undef, undef, undef, undef, .bool true, .bool true, undef, undef, undef, undef, undef, undef, undef, .bool true] ∧ Holds9 (x == 0) true) := ⟨_, rfl, hz0⟩
    obtain ⟨l0, HL1⟩ := HL.out
    have HL : Hid (l0 = [.slice (some p) 10 cap, .int .i64 k, .pointer (some q), .pointer (some ⟨q.block, q.off + 1, none⟩), .int .i64 x, .bool true, .bool true, undef, undef, undef, undef, undef, undef, undef, undef, .bool true, .bool true, undef, undef, undef, undef, undef, undef, undef, .bool true] ∧ Holds9 (x == 0) true) := HL1
    clear HL1
    go_wp2_with fail
    refine wp_region_whole (by kernel_rfl) (by kernel_rfl) (by kernel_rfl) (by kernel_rfl) (Flat (fun wz => Below W.heap.size W wz) (gVals l0)) (flat_start (below_draw _)) ?_ ?_
    · refine ⟨?_, ?_, ?_, ?_, ?_, ?_, ?_, ?_, ?_, ?_, ?_, ?_, ?_, ?_, ?_, ?_, ?_, ?_, ?_, ?_, ?_, ?_, ?_, ?_, ?_, trivial⟩
      · intro b0 us wz L hslot hoth hLi hR hcl hdo K hK
        rcases HL.out with ⟨rfl, HZ⟩
        · have s0 : b0.tmps.getD 0 undef = .slice (some p) 10 cap := hoth 0 (by rfl)
          clear hslot hoth hdo hcl hLi
          refine guard_none (by rfl) ?_
          go_simp
          exact hK _ _ (flat_mark (hR.1) (fun _ _ h => h) hR.2 rfl)
      · intro b0 us wz L hslot hoth hLi hR hcl hdo K hK
        rcases HL.out with ⟨rfl, HZ⟩
        · have s9 : b0.tmps.getD 9 undef = .int .i64 k := hoth 9 (by rfl)
          clear hslot hoth hdo hcl hLi
          refine guard_none (by rfl) ?_
          go_simp
          exact hK _ _ (flat_mark (hR.1) (fun _ _ h => h) hR.2 rfl)
      · intro b0 us wz L hslot hoth hLi hR hcl hdo K hK
        rcases HL.out with ⟨rfl, HZ⟩
        · have s26 : b0.tmps.getD 26 undef = .slice (some p) 10 cap := (hslot 0 26 (by rfl)).trans (hR.2 0 (done_at hdo 0 (by rfl)))
          have s27 : b0.tmps.getD 27 undef = .int .i64 k := (hslot 1 27 (by rfl)).trans (hR.2 1 (done_at hdo 1 (by rfl)))
          have hq := HQ.out
          have hk10 : (k : Int) < 10 := HK10.out
          clear hslot hoth hdo hcl hLi
          refine guard_none (by rfl) ?_
          go_simp
          exact hK _ _ (flat_mark (hR.1) (fun _ _ h => h) hR.2 rfl)
      · intro b0 us wz L hslot hoth hLi hR hcl hdo K hK
        rcases HL.out with ⟨rfl, HZ⟩
        · have s28 : b0.tmps.getD 28 undef = .pointer (some q) := (hslot 2 28 (by rfl)).trans (hR.2 2 (done_at hdo 2 (by rfl)))
          clear hslot hoth hdo hcl hLi
          refine guard_none (by rfl) ?_
          go_simp
          exact hK _ _ (flat_mark (hR.1) (fun _ _ h => h) hR.2 rfl)
      · intro b0 us wz L hslot hoth hLi hR hcl hdo K hK
        rcases HL.out with ⟨rfl, HZ⟩
        · have s29 : b0.tmps.getD 29 undef = .pointer (some ⟨q.block, q.off + 1, none⟩) := (hslot 3 29 (by rfl)).trans (hR.2 3 (done_at hdo 3 (by rfl)))
          have k1 := (HCS.out.on hR.1).c1
          rw [HK1.out] at k1
          clear hslot hoth hdo hcl hLi
          refine guard_none (by rfl) ?_
          go_simp
          exact hK _ _ (flat_mark (hR.1) (fun _ _ h => h) hR.2 rfl)
      · intro b0 us wz L hslot hoth hLi hR hcl hdo K hK
        rcases HL.out with ⟨rfl, HZ⟩
        · have s30 : b0.tmps.getD 30 undef = .int .i64 x := (hslot 4 30 (by rfl)).trans (hR.2 4 (done_at hdo 4 (by rfl)))
          have e5 : (x == 0) = true := HZ
          clear hslot hoth hdo hcl hLi
          refine guard_none (by rfl) ?_
          go_simp
          exact hK _ _ (flat_mark (hR.1) (fun _ _ h => h) hR.2 rfl)
      · intro b0 us wz L hslot hoth hLi hR hcl hdo K hK
        rcases HL.out with ⟨rfl, HZ⟩
        · have s31 : b0.tmps.getD 31 undef = .bool true := (hslot 5 31 (by rfl)).trans (hR.2 5 (done_at hdo 5 (by rfl)))
          clear hslot hoth hdo hcl hLi
          refine guard_none (by rfl) ?_
          go_simp
          exact hK _ _ (flat_mark (hR.1) (fun _ _ h => h) hR.2 rfl)
      · intro b0 us wz L hslot hoth hLi hR hcl hdo K hK
        rcases HL.out with ⟨rfl, HZ⟩
        · have gg : us 6 = .bool true := hR.2 6 (done_at hdo 6 (by rfl))
          refine guard_off (j := 6) (want := false) (d := 32) (by rfl) (by rfl) gg (by rfl) ?_
          exact hK undef _ (flat_mark (hR.1) (fun _ _ h => h) hR.2 rfl)
      · intro b0 us wz L hslot hoth hLi hR hcl hdo K hK
        rcases HL.out with ⟨rfl, HZ⟩
        · have gg : us 6 = .bool true := hR.2 6 (done_at hdo 6 (by rfl))
          refine guard_off (j := 6) (want := false) (d := 32) (by rfl) (by rfl) gg (by rfl) ?_
          exact hK undef _ (flat_mark (hR.1) (fun _ _ h => h) hR.2 rfl)
      · intro b0 us wz L hslot hoth hLi hR hcl hdo K hK
        rcases HL.out with ⟨rfl, HZ⟩
        · have gg : us 6 = .bool true := hR.2 6 (done_at hdo 6 (by rfl))
          refine guard_off (j := 6) (want := false) (d := 32) (by rfl) (by rfl) gg (by rfl) ?_
          exact hK undef _ (flat_mark (hR.1) (fun _ _ h => h) hR.2 rfl)
      · intro b0 us wz L hslot hoth hLi hR hcl hdo K hK
        rcases HL.out with ⟨rfl, HZ⟩
        · have gg : us 6 = .bool true := hR.2 6 (done_at hdo 6 (by rfl))
          refine guard_off (j := 6) (want := false) (d := 32) (by rfl) (by rfl) gg (by rfl) ?_
          exact hK undef _ (flat_mark (hR.1) (fun _ _ h => h) hR.2 rfl)
      · intro b0 us wz L hslot hoth hLi hR hcl hdo K hK
        rcases HL.out with ⟨rfl, HZ⟩
        · have gg : us 6 = .bool true := hR.2 6 (done_at hdo 6 (by rfl))
          refine guard_off (j := 6) (want := false) (d := 32) (by rfl) (by rfl) gg (by rfl) ?_
          exact hK undef _ (flat_mark (hR.1) (fun _ _ h => h) hR.2 rfl)
      · intro b0 us wz L hslot hoth hLi hR hcl hdo K hK
        rcases HL.out with ⟨rfl, HZ⟩
        · have gg : us 6 = .bool true := hR.2 6 (done_at hdo 6 (by rfl))
          refine guard_off (j := 6) (want := false) (d := 32) (by rfl) (by rfl) gg (by rfl) ?_
          exact hK undef _ (flat_mark (hR.1) (fun _ _ h => h) hR.2 rfl)
      · intro b0 us wz L hslot hoth hLi hR hcl hdo K hK
        rcases HL.out with ⟨rfl, HZ⟩
        · have gg : us 6 = .bool true := hR.2 6 (done_at hdo 6 (by rfl))
          refine guard_off (j := 6) (want := false) (d := 32) (by rfl) (by rfl) gg (by rfl) ?_
          exact hK undef _ (flat_mark (hR.1) (fun _ _ h => h) hR.2 rfl)
      · intro b0 us wz L hslot hoth hLi hR hcl hdo K hK
        rcases HL.out with ⟨rfl, HZ⟩
        · have gg : us 6 = .bool true := hR.2 6 (done_at hdo 6 (by rfl))
          refine guard_off (j := 6) (want := false) (d := 32) (by rfl) (by rfl) gg (by rfl) ?_
          exact hK undef _ (flat_mark (hR.1) (fun _ _ h => h) hR.2 rfl)
      · intro b0 us wz L hslot hoth hLi hR hcl hdo K hK
        rcases HL.out with ⟨rfl, HZ⟩
        · have s32 : b0.tmps.getD 32 undef = .bool true := (hslot 6 32 (by rfl)).trans (hR.2 6 (done_at hdo 6 (by rfl)))
          have s40 : b0.tmps.getD 40 undef = undef := (hslot 14 40 (by rfl)).trans (hR.2 14 (done_at hdo 14 (by rfl)))
          clear hslot hoth hdo hcl hLi
          refine guard_none (by rfl) ?_
          go_simp
          exact hK _ _ (flat_mark (hR.1) (fun _ _ h => h) hR.2 rfl)
      · intro b0 us wz L hslot hoth hLi hR hcl hdo K hK
        rcases HL.out with ⟨rfl, HZ⟩
        · have s41 : b0.tmps.getD 41 undef = .bool true := (hslot 15 41 (by rfl)).trans (hR.2 15 (done_at hdo 15 (by rfl)))
          clear hslot hoth hdo hcl hLi
          refine guard_none (by rfl) ?_
          go_simp
          exact hK _ _ (flat_mark (hR.1) (fun _ _ h => h) hR.2 rfl)
      · intro b0 us wz L hslot hoth hLi hR hcl hdo K hK
        rcases HL.out with ⟨rfl, HZ⟩
        · have gg : us 16 = .bool true := hR.2 16 (done_at hdo 16 (by rfl))
          refine guard_off (j := 16) (want := false) (d := 42) (by rfl) (by rfl) gg (by rfl) ?_
          exact hK undef _ (flat_mark (hR.1) (fun _ _ h => h) hR.2 rfl)
      · intro b0 us wz L hslot hoth hLi hR hcl hdo K hK
        rcases HL.out with ⟨rfl, HZ⟩
        · have gg : us 16 = .bool true := hR.2 16 (done_at hdo 16 (by rfl))
          refine guard_off (j := 16) (want := false) (d := 42) (by rfl) (by rfl) gg (by rfl) ?_
          exact hK undef _ (flat_mark (hR.1) (fun _ _ h => h) hR.2 rfl)
      · intro b0 us wz L hslot hoth hLi hR hcl hdo K hK
        rcases HL.out with ⟨rfl, HZ⟩
        · have gg : us 16 = .bool true := hR.2 16 (done_at hdo 16 (by rfl))
          refine guard_off (j := 16) (want := false) (d := 42) (by rfl) (by rfl) gg (by rfl) ?_
          exact hK undef _ (flat_mark (hR.1) (fun _ _ h => h) hR.2 rfl)
      · intro b0 us wz L hslot hoth hLi hR hcl hdo K hK
        rcases HL.out with ⟨rfl, HZ⟩
        · have gg : us 16 = .bool true := hR.2 16 (done_at hdo 16 (by rfl))
          refine guard_off (j := 16) (want := false) (d := 42) (by rfl) (by rfl) gg (by rfl) ?_
          exact hK undef _ (flat_mark (hR.1) (fun _ _ h => h) hR.2 rfl)
      · intro b0 us wz L hslot hoth hLi hR hcl hdo K hK
        rcases HL.out with ⟨rfl, HZ⟩
        · have gg : us 16 = .bool true := hR.2 16 (done_at hdo 16 (by rfl))
          refine guard_off (j := 16) (want := false) (d := 42) (by rfl) (by rfl) gg (by rfl) ?_
          exact hK undef _ (flat_mark (hR.1) (fun _ _ h => h) hR.2 rfl)
      · intro b0 us wz L hslot hoth hLi hR hcl hdo K hK
        rcases HL.out with ⟨rfl, HZ⟩
        · have gg : us 16 = .bool true := hR.2 16 (done_at hdo 16 (by rfl))
          refine guard_off (j := 16) (want := false) (d := 42) (by rfl) (by rfl) gg (by rfl) ?_
          exact hK undef _ (flat_mark (hR.1) (fun _ _ h => h) hR.2 rfl)
      · intro b0 us wz L hslot hoth hLi hR hcl hdo K hK
        rcases HL.out with ⟨rfl, HZ⟩
        · have gg : us 16 = .bool true := hR.2 16 (done_at hdo 16 (by rfl))
          refine guard_off (j := 16) (want := false) (d := 42) (by rfl) (by rfl) gg (by rfl) ?_
          exact hK undef _ (flat_mark (hR.1) (fun _ _ h => h) hR.2 rfl)
      · intro b0 us wz L hslot hoth hLi hR hcl hdo K hK
        rcases HL.out with ⟨rfl, HZ⟩
        · have s42 : b0.tmps.getD 42 undef = .bool true := (hslot 16 42 (by rfl)).trans (hR.2 16 (done_at hdo 16 (by rfl)))
          have s49 : b0.tmps.getD 49 undef = undef := (hslot 23 49 (by rfl)).trans (hR.2 23 (done_at hdo 23 (by rfl)))
          clear hslot hoth hdo hcl hLi
          refine guard_none (by rfl) ?_
          go_simp
          exact hK _ _ (flat_mark (hR.1) (fun _ _ h => h) hR.2 rfl)
    · intro us wn L hall hR a' ha'
      have g24 : us 24 = .bool true := by
        have := hR.2 24 (hall 24 (by decide))
        rcases HL.out with ⟨rfl, HZ⟩
        all_goals exact this
      have HB := hid_of hR.1
      clear hR hall
      simp only [putAll, g24] at ha'
      subst ha'
      go_frame
      have HB9 := hid_of (below_more HB1.out HB.out)
      clear HL HB HRC HHG
      go_wp2
      go_ret
      exact ⟨by rw [HBV.out]; rfl, HB9.out⟩
  | false =>
    replace hz0 : Holds9 (x == 0) false := hz0
    cases hn0 : (y != z) with
    | true =>
      have HBW : b = false := by rw [HBB.out]; have e : (y == z) = false := by simpa [bne] using hn0
                                 rw [e]; rfl
      replace hn0 : Holds9 (y != z) true := hn0
      have HBV : Hid (b = false) := HBW
      clear HBW
      have HL : Hid (∃ l0 : List Value, l0 = [.slice (some p) 10 cap, .int .i64 k, .pointer (some q), .pointer (some ⟨q.block, q.off + 1, none⟩), .int .i64 x, .bool false, .bool false, .slice (some p) 10 cap, .int .i64 k, .pointer (some q), .pointer (some q), .int .i64 y, .int .i64 h, .int .i64 z, .bool true, .bool true, .bool true, undef, undef, undef, undef, undef, undef, undef, .bool true] ∧ Holds9 (x == 0) false ∧ Holds9 (y != z) true) := ⟨_, rfl, hz0, hn0⟩
      obtain ⟨l0, HL1⟩ := HL.out
      have HL : Hid (l0 = [.slice (some p) 10 cap, .int .i64 k, .pointer (some q), .pointer (some ⟨q.block, q.off + 1, none⟩), .int .i64 x, .bool false, .bool false, .slice (some p) 10 cap, .int .i64 k, .pointer (some q), .pointer (some q), .int .i64 y, .int .i64 h, .int .i64 z, .bool true, .bool true, .bool true, undef, undef, undef, undef, undef, undef, undef, .bool true] ∧ Holds9 (x == 0) false ∧ Holds9 (y != z) true) := HL1
      clear HL1
      go_wp2_with fail
      refine wp_region_whole (by kernel_rfl) (by kernel_rfl) (by kernel_rfl) (by kernel_rfl) (Flat (fun wz => Below W.heap.size W wz) (gVals l0)) (flat_start (below_draw _)) ?_ ?_
      · refine ⟨?_, ?_, ?_, ?_, ?_, ?_, ?_, ?_, ?_, ?_, ?_, ?_, ?_, ?_, ?_, ?_, ?_, ?_, ?_, ?_, ?_, ?_, ?_, ?_, ?_, trivial⟩
        · intro b0 us wz L hslot hoth hLi hR hcl hdo K hK
          rcases HL.out with ⟨rfl, HZ, HN⟩
          · have s0 : b0.tmps.getD 0 undef = .slice (some p) 10 cap := hoth 0 (by rfl)
            clear hslot hoth hdo hcl hLi
            refine guard_none (by rfl) ?_
            go_simp
            exact hK _ _ (flat_mark (hR.1) (fun _ _ h => h) hR.2 rfl)
        · intro b0 us wz L hslot hoth hLi hR hcl hdo K hK
          rcases HL.out with ⟨rfl, HZ, HN⟩
          · have s9 : b0.tmps.getD 9 undef = .int .i64 k := hoth 9 (by rfl)
            clear hslot hoth hdo hcl hLi
            refine guard_none (by rfl) ?_
            go_simp
            exact hK _ _ (flat_mark (hR.1) (fun _ _ h => h) hR.2 rfl)
        · intro b0 us wz L hslot hoth hLi hR hcl hdo K hK
          rcases HL.out with ⟨rfl, HZ, HN⟩
          · have s26 : b0.tmps.getD 26 undef = .slice (some p) 10 cap := (hslot 0 26 (by rfl)).trans (hR.2 0 (done_at hdo 0 (by rfl)))
            have s27 : b0.tmps.getD 27 undef = .int .i64 k := (hslot 1 27 (by rfl)).trans (hR.2 1 (done_at hdo 1 (by rfl)))
            have hq := HQ.out
            have hk10 : (k : Int) < 10 := HK10.out
            clear hslot hoth hdo hcl hLi
            refine guard_none (by rfl) ?_
            go_simp
            exact hK _ _ (flat_mark (hR.1) (fun _ _ h => h) hR.2 rfl)
        · intro b0 us wz L hslot hoth hLi hR hcl hdo K hK
          rcases HL.out with ⟨rfl, HZ, HN⟩
          · have s28 : b0.tmps.getD 28 undef = .pointer (some q) := (hslot 2 28 (by rfl)).trans (hR.2 2 (done_at hdo 2 (by rfl)))
            clear hslot hoth hdo hcl hLi
            refine guard_none (by rfl) ?_
            go_simp
            exact hK _ _ (flat_mark (hR.1) (fun _ _ h => h) hR.2 rfl)
        · intro b0 us wz L hslot hoth hLi hR hcl hdo K hK
          rcases HL.out with ⟨rfl, HZ, HN⟩
          · have s29 : b0.tmps.getD 29 undef = .pointer (some ⟨q.block, q.off + 1, none⟩) := (hslot 3 29 (by rfl)).trans (hR.2 3 (done_at hdo 3 (by rfl)))
            have k1 := (HCS.out.on hR.1).c1
            rw [HK1.out] at k1
            clear hslot hoth hdo hcl hLi
            refine guard_none (by rfl) ?_
            go_simp
            exact hK _ _ (flat_mark (hR.1) (fun _ _ h => h) hR.2 rfl)
        · intro b0 us wz L hslot hoth hLi hR hcl hdo K hK
          rcases HL.out with ⟨rfl, HZ, HN⟩
          · have s30 : b0.tmps.getD 30 undef = .int .i64 x := (hslot 4 30 (by rfl)).trans (hR.2 4 (done_at hdo 4 (by rfl)))
            have e5 : (x == 0) = false := HZ
            clear hslot hoth hdo hcl hLi
            refine guard_none (by rfl) ?_
            go_simp
            exact hK _ _ (flat_mark (hR.1) (fun _ _ h => h) hR.2 rfl)
        · intro b0 us wz L hslot hoth hLi hR hcl hdo K hK
          rcases HL.out with ⟨rfl, HZ, HN⟩
          · have s31 : b0.tmps.getD 31 undef = .bool false := (hslot 5 31 (by rfl)).trans (hR.2 5 (done_at hdo 5 (by rfl)))
            clear hslot hoth hdo hcl hLi
            refine guard_none (by rfl) ?_
            go_simp
            exact hK _ _ (flat_mark (hR.1) (fun _ _ h => h) hR.2 rfl)
        · intro b0 us wz L hslot hoth hLi hR hcl hdo K hK
          rcases HL.out with ⟨rfl, HZ, HN⟩
          · have gg : us 6 = .bool false := hR.2 6 (done_at hdo 6 (by rfl))
            have s0 : b0.tmps.getD 0 undef = .slice (some p) 10 cap := hoth 0 (by rfl)
            clear hslot hoth hdo hcl hLi
            refine guard_on (j := 6) (want := false) (d := 32) (by rfl) (by rfl) gg ?_
            go_simp
            exact hK _ _ (flat_mark (hR.1) (fun _ _ h => h) hR.2 rfl)
        · intro b0 us wz L hslot hoth hLi hR hcl hdo K hK
          rcases HL.out with ⟨rfl, HZ, HN⟩
          · have gg : us 6 = .bool false := hR.2 6 (done_at hdo 6 (by rfl))
            have s9 : b0.tmps.getD 9 undef = .int .i64 k := hoth 9 (by rfl)
            clear hslot hoth hdo hcl hLi
            refine guard_on (j := 6) (want := false) (d := 32) (by rfl) (by rfl) gg ?_
            go_simp
            exact hK _ _ (flat_mark (hR.1) (fun _ _ h => h) hR.2 rfl)
        · intro b0 us wz L hslot hoth hLi hR hcl hdo K hK
          rcases HL.out with ⟨rfl, HZ, HN⟩
          · have gg : us 6 = .bool false := hR.2 6 (done_at hdo 6 (by rfl))
            have s33 : b0.tmps.getD 33 undef = .slice (some p) 10 cap := (hslot 7 33 (by rfl)).trans (hR.2 7 (done_at hdo 7 (by rfl)))
            have s34 : b0.tmps.getD 34 undef = .int .i64 k := (hslot 8 34 (by rfl)).trans (hR.2 8 (done_at hdo 8 (by rfl)))
            have hq := HQ.out
            have hk10 : (k : Int) < 10 := HK10.out
            clear hslot hoth hdo hcl hLi
            refine guard_on (j := 6) (want := false) (d := 32) (by rfl) (by rfl) gg ?_
            go_simp
            exact hK _ _ (flat_mark (hR.1) (fun _ _ h => h) hR.2 rfl)
        · intro b0 us wz L hslot hoth hLi hR hcl hdo K hK
          rcases HL.out with ⟨rfl, HZ, HN⟩
          · have gg : us 6 = .bool false := hR.2 6 (done_at hdo 6 (by rfl))
            have s35 : b0.tmps.getD 35 undef = .pointer (some q) := (hslot 9 35 (by rfl)).trans (hR.2 9 (done_at hdo 9 (by rfl)))
            clear hslot hoth hdo hcl hLi
            refine guard_on (j := 6) (want := false) (d := 32) (by rfl) (by rfl) gg ?_
            go_simp
            exact hK _ _ (flat_mark (hR.1) (fun _ _ h => h) hR.2 rfl)
        · intro b0 us wz L hslot hoth hLi hR hcl hdo K hK
          rcases HL.out with ⟨rfl, HZ, HN⟩
          · have gg : us 6 = .bool false := hR.2 6 (done_at hdo 6 (by rfl))
            have s36 : b0.tmps.getD 36 undef = .pointer (some q) := (hslot 10 36 (by rfl)).trans (hR.2 10 (done_at hdo 10 (by rfl)))
            have k0 := (HCS.out.on hR.1).c0
            rw [HK0.out] at k0
            clear hslot hoth hdo hcl hLi
            refine guard_on (j := 6) (want := false) (d := 32) (by rfl) (by rfl) gg ?_
            go_simp
            exact hK _ _ (flat_mark (hR.1) (fun _ _ h => h) hR.2 rfl)
        · intro b0 us wz L hslot hoth hLi hR hcl hdo K hK
          rcases HL.out with ⟨rfl, HZ, HN⟩
          · have gg : us 6 = .bool false := hR.2 6 (done_at hdo 6 (by rfl))
            have s3 : b0.tmps.getD 3 undef = .int .i64 h := hoth 3 (by rfl)
            clear hslot hoth hdo hcl hLi
            refine guard_on (j := 6) (want := false) (d := 32) (by rfl) (by rfl) gg ?_
            go_simp
            exact hK _ _ (flat_mark (hR.1) (fun _ _ h => h) hR.2 rfl)
        · intro b0 us wz L hslot hoth hLi hR hcl hdo K hK
          rcases HL.out with ⟨rfl, HZ, HN⟩
          · have gg : us 6 = .bool false := hR.2 6 (done_at hdo 6 (by rfl))
            have s38 : b0.tmps.getD 38 undef = .int .i64 h := (hslot 12 38 (by rfl)).trans (hR.2 12 (done_at hdo 12 (by rfl)))
            clear hslot hoth hdo hcl hLi
            refine guard_on (j := 6) (want := false) (d := 32) (by rfl) (by rfl) gg ?_
            go_simp
            refine (HHG.out wz).mono ?_
            rintro e w' ⟨rfl, rfl⟩
            exact hK _ _ (flat_mark (hR.1) (fun _ _ h => h) hR.2 rfl)
        · intro b0 us wz L hslot hoth hLi hR hcl hdo K hK
          rcases HL.out with ⟨rfl, HZ, HN⟩
          · have gg : us 6 = .bool false := hR.2 6 (done_at hdo 6 (by rfl))
            have s37 : b0.tmps.getD 37 undef = .int .i64 y := (hslot 11 37 (by rfl)).trans (hR.2 11 (done_at hdo 11 (by rfl)))
            have s39 : b0.tmps.getD 39 undef = .int .i64 z := (hslot 13 39 (by rfl)).trans (hR.2 13 (done_at hdo 13 (by rfl)))
            have e7 : (y != z) = true := HN
            clear hslot hoth hdo hcl hLi
            refine guard_on (j := 6) (want := false) (d := 32) (by rfl) (by rfl) gg ?_
            go_simp
            exact hK _ _ (flat_mark (hR.1) (fun _ _ h => h) hR.2 rfl)
        · intro b0 us wz L hslot hoth hLi hR hcl hdo K hK
          rcases HL.out with ⟨rfl, HZ, HN⟩
          · have s32 : b0.tmps.getD 32 undef = .bool false := (hslot 6 32 (by rfl)).trans (hR.2 6 (done_at hdo 6 (by rfl)))
            have s40 : b0.tmps.getD 40 undef = .bool true := (hslot 14 40 (by rfl)).trans (hR.2 14 (done_at hdo 14 (by rfl)))
            clear hslot hoth hdo hcl hLi
            refine guard_none (by rfl) ?_
            go_simp
            exact hK _ _ (flat_mark (hR.1) (fun _ _ h => h) hR.2 rfl)
        · intro b0 us wz L hslot hoth hLi hR hcl hdo K hK
          rcases HL.out with ⟨rfl, HZ, HN⟩
          · have s41 : b0.tmps.getD 41 undef = .bool true := (hslot 15 41 (by rfl)).trans (hR.2 15 (done_at hdo 15 (by rfl)))
            clear hslot hoth hdo hcl hLi
            refine guard_none (by rfl) ?_
            go_simp
            exact hK _ _ (flat_mark (hR.1) (fun _ _ h => h) hR.2 rfl)
        · intro b0 us wz L hslot hoth hLi hR hcl hdo K hK
          rcases HL.out with ⟨rfl, HZ, HN⟩
          · have gg : us 16 = .bool true := hR.2 16 (done_at hdo 16 (by rfl))
            refine guard_off (j := 16) (want := false) (d := 42) (by rfl) (by rfl) gg (by rfl) ?_
            exact hK undef _ (flat_mark (hR.1) (fun _ _ h => h) hR.2 rfl)
        · intro b0 us wz L hslot hoth hLi hR hcl hdo K hK
          rcases HL.out with ⟨rfl, HZ, HN⟩
          · have gg : us 16 = .bool true := hR.2 16 (done_at hdo 16 (by rfl))
            refine guard_off (j := 16) (want := false) (d := 42) (by rfl) (by rfl) gg (by rfl) ?_
            exact hK undef _ (flat_mark (hR.1) (fun _ _ h => h) hR.2 rfl)
        · intro b0 us wz L hslot hoth hLi hR hcl hdo K hK
          rcases HL.out with ⟨rfl, HZ, HN⟩
          · have gg : us 16 = .bool true := hR.2 16 (done_at hdo 16 (by rfl))
            refine guard_off (j := 16) (want := false) (d := 42) (by rfl) (by rfl) gg (by rfl) ?_
            exact hK undef _ (flat_mark (hR.1) (fun _ _ h => h) hR.2 rfl)
        · intro b0 us wz L hslot hoth hLi hR hcl hdo K hK
          rcases HL.out with ⟨rfl, HZ, HN⟩
          · have gg : us 16 = .bool true := hR.2 16 (done_at hdo 16 (by rfl))
            refine guard_off (j := 16) (want := false) (d := 42) (by rfl) (by rfl) gg (by rfl) ?_
            exact hK undef _ (flat_mark (hR.1) (fun _ _ h => h) hR.2 rfl)
        · intro b0 us wz L hslot hoth hLi hR hcl hdo K hK
          rcases HL.out with ⟨rfl, HZ, HN⟩
          · have gg : us 16 = .bool true := hR.2 16 (done_at hdo 16 (by rfl))
            refine guard_off (j := 16) (want := false) (d := 42) (by rfl) (by rfl) gg (by rfl) ?_
            exact hK undef _ (flat_mark (hR.1) (fun _ _ h => h) hR.2 rfl)
        · intro b0 us wz L hslot hoth hLi hR hcl hdo K hK
          rcases HL.out with ⟨rfl, HZ, HN⟩
          · have gg : us 16 = .bool true := hR.2 16 (done_at hdo 16 (by rfl))
            refine guard_off (j := 16) (want := false) (d := 42) (by rfl) (by rfl) gg (by rfl) ?_
            exact hK undef _ (flat_mark (hR.1) (fun _ _ h => h) hR.2 rfl)
        · intro b0 us wz L hslot hoth hLi hR hcl hdo K hK
          rcases HL.out with ⟨rfl, HZ, HN⟩
          · have gg : us 16 = .bool true := hR.2 16 (done_at hdo 16 (by rfl))
            refine guard_off (j := 16) (want := false) (d := 42) (by rfl) (by rfl) gg (by rfl) ?_
            exact hK undef _ (flat_mark (hR.1) (fun _ _ h => h) hR.2 rfl)
        · intro b0 us wz L hslot hoth hLi hR hcl hdo K hK
          rcases HL.out with ⟨rfl, HZ, HN⟩
          · have s42 : b0.tmps.getD 42 undef = .bool true := (hslot 16 42 (by rfl)).trans (hR.2 16 (done_at hdo 16 (by rfl)))
            have s49 : b0.tmps.getD 49 undef = undef := (hslot 23 49 (by rfl)).trans (hR.2 23 (done_at hdo 23 (by rfl)))
            clear hslot hoth hdo hcl hLi
            refine guard_none (by rfl) ?_
            go_simp
            exact hK _ _ (flat_mark (hR.1) (fun _ _ h => h) hR.2 rfl)
      · intro us wn L hall hR a' ha'
        have g24 : us 24 = .bool true := by
          have := hR.2 24 (hall 24 (by decide))
          rcases HL.out with ⟨rfl, HZ, HN⟩
          all_goals exact this
        have HB := hid_of hR.1
        clear hR hall
        simp only [putAll, g24] at ha'
        subst ha'
        go_frame
        have HB9 := hid_of (below_more HB1.out HB.out)
        clear HL HB HRC HHG
        go_wp2
        go_ret
        exact ⟨by rw [HBV.out]; rfl, HB9.out⟩
    | false =>
      have hyz : (y == z) = true := by simpa [bne] using hn0
      replace hn0 : Holds9 (y != z) false := hn0
      cases hg0 : gAt r k with
      | true =>
        have HBW : b = true := by rw [HBB.out, hyz, hg0]; rfl
        replace hg0 : Holds9 (gAt r k) true := hg0
        clear hyz
        have HBV : Hid (b = true) := HBW
        clear HBW
        have HL : Hid (∃ l0 : List Value, l0 = [.slice (some p) 10 cap, .int .i64 k, .pointer (some q), .pointer (some ⟨q.block, q.off + 1, none⟩), .int .i64 x, .bool false, .bool false, .slice (some p) 10 cap, .int .i64 k, .pointer (some q), .pointer (some q), .int .i64 y, .int .i64 h, .int .i64 z, .bool false, .bool false, .bool false, .slice (some p) 10 cap, .int .i64 now, undef, .int .i64 k, undef, .bool true, .bool false, .bool false] ∧ Holds9 (x == 0) false ∧ Holds9 (y != z) false ∧ Holds9 (gAt r k) true) := ⟨_, rfl, hz0, hn0, hg0⟩
        obtain ⟨l0, HL1⟩ := HL.out
        have HL : Hid (l0 = [.slice (some p) 10 cap, .int .i64 k, .pointer (some q), .pointer (some ⟨q.block, q.off + 1, none⟩), .int .i64 x, .bool false, .bool false, .slice (some p) 10 cap, .int .i64 k, .pointer (some q), .pointer (some q), .int .i64 y, .int .i64 h, .int .i64 z, .bool false, .bool false, .bool false, .slice (some p) 10 cap, .int .i64 now, undef, .int .i64 k, undef, .bool true, .bool false, .bool false] ∧ Holds9 (x == 0) false ∧ Holds9 (y != z) false ∧ Holds9 (gAt r k) true) := HL1
        clear HL1
        go_wp2_with fail
        refine wp_region_whole (by kernel_rfl) (by kernel_rfl) (by kernel_rfl) (by kernel_rfl) (Flat (fun wz => Below W.heap.size W wz) (gGoodS r k l0)) (flat_start (below_draw _)) ?_ ?_
        · refine ⟨?_, ?_, ?_, ?_, ?_, ?_, ?_, ?_, ?_, ?_, ?_, ?_, ?_, ?_, ?_, ?_, ?_, ?_, ?_, ?_, ?_, ?_, ?_, ?_, ?_, trivial⟩
          · intro b0 us wz L hslot hoth hLi hR hcl hdo K hK
            rcases HL.out with ⟨rfl, HZ, HN, HB2⟩
            · have s0 : b0.tmps.getD 0 undef = .slice (some p) 10 cap := hoth 0 (by rfl)
              clear hslot hoth hdo hcl hLi
              refine guard_none (by rfl) ?_
              go_simp
              exact hK _ _ (flat_mark (hR.1) (fun _ _ h => h) hR.2 rfl)
          · intro b0 us wz L hslot hoth hLi hR hcl hdo K hK
            rcases HL.out with ⟨rfl, HZ, HN, HB2⟩
            · have s9 : b0.tmps.getD 9 undef = .int .i64 k := hoth 9 (by rfl)
              clear hslot hoth hdo hcl hLi
              refine guard_none (by rfl) ?_
              go_simp
              exact hK _ _ (flat_mark (hR.1) (fun _ _ h => h) hR.2 rfl)
          · intro b0 us wz L hslot hoth hLi hR hcl hdo K hK
            rcases HL.out with ⟨rfl, HZ, HN, HB2⟩
            · have s26 : b0.tmps.getD 26 undef = .slice (some p) 10 cap := (hslot 0 26 (by rfl)).trans (hR.2 0 (done_at hdo 0 (by rfl)))
              have s27 : b0.tmps.getD 27 undef = .int .i64 k := (hslot 1 27 (by rfl)).trans (hR.2 1 (done_at hdo 1 (by rfl)))
              have hq := HQ.out
              have hk10 : (k : Int) < 10 := HK10.out
              clear hslot hoth hdo hcl hLi
              refine guard_none (by rfl) ?_
              go_simp
              exact hK _ _ (flat_mark (hR.1) (fun _ _ h => h) hR.2 rfl)
          · intro b0 us wz L hslot hoth hLi hR hcl hdo K hK
            rcases HL.out with ⟨rfl, HZ, HN, HB2⟩
            · have s28 : b0.tmps.getD 28 undef = .pointer (some q) := (hslot 2 28 (by rfl)).trans (hR.2 2 (done_at hdo 2 (by rfl)))
              clear hslot hoth hdo hcl hLi
              refine guard_none (by rfl) ?_
              go_simp
              exact hK _ _ (flat_mark (hR.1) (fun _ _ h => h) hR.2 rfl)
          · intro b0 us wz L hslot hoth hLi hR hcl hdo K hK
            rcases HL.out with ⟨rfl, HZ, HN, HB2⟩
            · have s29 : b0.tmps.getD 29 undef = .pointer (some ⟨q.block, q.off + 1, none⟩) := (hslot 3 29 (by rfl)).trans (hR.2 3 (done_at hdo 3 (by rfl)))
              have k1 := (HCS.out.on hR.1).c1
              rw [HK1.out] at k1
              clear hslot hoth hdo hcl hLi
              refine guard_none (by rfl) ?_
              go_simp
              exact hK _ _ (flat_mark (hR.1) (fun _ _ h => h) hR.2 rfl)
          · intro b0 us wz L hslot hoth hLi hR hcl hdo K hK
            rcases HL.out with ⟨rfl, HZ, HN, HB2⟩
            · have s30 : b0.tmps.getD 30 undef = .int .i64 x := (hslot 4 30 (by rfl)).trans (hR.2 4 (done_at hdo 4 (by rfl)))
              have e5 : (x == 0) = false := HZ
              clear hslot hoth hdo hcl hLi
              refine guard_none (by rfl) ?_
              go_simp
              exact hK _ _ (flat_mark (hR.1) (fun _ _ h => h) hR.2 rfl)
          · intro b0 us wz L hslot hoth hLi hR hcl hdo K hK
            rcases HL.out with ⟨rfl, HZ, HN, HB2⟩
            · have s31 : b0.tmps.getD 31 undef = .bool false := (hslot 5 31 (by rfl)).trans (hR.2 5 (done_at hdo 5 (by rfl)))
              clear hslot hoth hdo hcl hLi
              refine guard_none (by rfl) ?_
              go_simp
              exact hK _ _ (flat_mark (hR.1) (fun _ _ h => h) hR.2 rfl)
          · intro b0 us wz L hslot hoth hLi hR hcl hdo K hK
            rcases HL.out with ⟨rfl, HZ, HN, HB2⟩
            · have gg : us 6 = .bool false := hR.2 6 (done_at hdo 6 (by rfl))
              have s0 : b0.tmps.getD 0 undef = .slice (some p) 10 cap := hoth 0 (by rfl)
              clear hslot hoth hdo hcl hLi
              refine guard_on (j := 6) (want := false) (d := 32) (by rfl) (by rfl) gg ?_
              go_simp
              exact hK _ _ (flat_mark (hR.1) (fun _ _ h => h) hR.2 rfl)
          · intro b0 us wz L hslot hoth hLi hR hcl hdo K hK
            rcases HL.out with ⟨rfl, HZ, HN, HB2⟩
            · have gg : us 6 = .bool false := hR.2 6 (done_at hdo 6 (by rfl))
              have s9 : b0.tmps.getD 9 undef = .int .i64 k := hoth 9 (by rfl)
              clear hslot hoth hdo hcl hLi
              refine guard_on (j := 6) (want := false) (d := 32) (by rfl) (by rfl) gg ?_
              go_simp
              exact hK _ _ (flat_mark (hR.1) (fun _ _ h => h) hR.2 rfl)
          · intro b0 us wz L hslot hoth hLi hR hcl hdo K hK
            rcases HL.out with ⟨rfl, HZ, HN, HB2⟩
            · have gg : us 6 = .bool false := hR.2 6 (done_at hdo 6 (by rfl))
              have s33 : b0.tmps.getD 33 undef = .slice (some p) 10 cap := (hslot 7 33 (by rfl)).trans (hR.2 7 (done_at hdo 7 (by rfl)))
              have s34 : b0.tmps.getD 34 undef = .int .i64 k := (hslot 8 34 (by rfl)).trans (hR.2 8 (done_at hdo 8 (by rfl)))
              have hq := HQ.out
              have hk10 : (k : Int) < 10 := HK10.out
              clear hslot hoth hdo hcl hLi
              refine guard_on (j := 6) (want := false) (d := 32) (by rfl) (by rfl) gg ?_
              go_simp
              exact hK _ _ (flat_mark (hR.1) (fun _ _ h => h) hR.2 rfl)
          · intro b0 us wz L hslot hoth hLi hR hcl hdo K hK
            rcases HL.out with ⟨rfl, HZ, HN, HB2⟩
            · have gg : us 6 = .bool false := hR.2 6 (done_at hdo 6 (by rfl))
              have s35 : b0.tmps.getD 35 undef = .pointer (some q) := (hslot 9 35 (by rfl)).trans (hR.2 9 (done_at hdo 9 (by rfl)))
              clear hslot hoth hdo hcl hLi
              refine guard_on (j := 6) (want := false) (d := 32) (by rfl) (by rfl) gg ?_
              go_simp
              exact hK _ _ (flat_mark (hR.1) (fun _ _ h => h) hR.2 rfl)
          · intro b0 us wz L hslot hoth hLi hR hcl hdo K hK
            rcases HL.out with ⟨rfl, HZ, HN, HB2⟩
            · have gg : us 6 = .bool false := hR.2 6 (done_at hdo 6 (by rfl))
              have s36 : b0.tmps.getD 36 undef = .pointer (some q) := (hslot 10 36 (by rfl)).trans (hR.2 10 (done_at hdo 10 (by rfl)))
              have k0 := (HCS.out.on hR.1).c0
              rw [HK0.out] at k0
              clear hslot hoth hdo hcl hLi
              refine guard_on (j := 6) (want := false) (d := 32) (by rfl) (by rfl) gg ?_
              go_simp
              exact hK _ _ (flat_mark (hR.1) (fun _ _ h => h) hR.2 rfl)
          · intro b0 us wz L hslot hoth hLi hR hcl hdo K hK
            rcases HL.out with ⟨rfl, HZ, HN, HB2⟩
            · have gg : us 6 = .bool false := hR.2 6 (done_at hdo 6 (by rfl))
              have s3 : b0.tmps.getD 3 undef = .int .i64 h := hoth 3 (by rfl)
              clear hslot hoth hdo hcl hLi
              refine guard_on (j := 6) (want := false) (d := 32) (by rfl) (by rfl) gg ?_
              go_simp
              exact hK _ _ (flat_mark (hR.1) (fun _ _ h => h) hR.2 rfl)
          · intro b0 us wz L hslot hoth hLi hR hcl hdo K hK
            rcases HL.out with ⟨rfl, HZ, HN, HB2⟩
            · have gg : us 6 = .bool false := hR.2 6 (done_at hdo 6 (by rfl))
              have s38 : b0.tmps.getD 38 undef = .int .i64 h := (hslot 12 38 (by rfl)).trans (hR.2 12 (done_at hdo 12 (by rfl)))
              clear hslot hoth hdo hcl hLi
              refine guard_on (j := 6) (want := false) (d := 32) (by rfl) (by rfl) gg ?_
              go_simp
              refine (HHG.out wz).mono ?_
              rintro e w' ⟨rfl, rfl⟩
              exact hK _ _ (flat_mark (hR.1) (fun _ _ h => h) hR.2 rfl)
          · intro b0 us wz L hslot hoth hLi hR hcl hdo K hK
            rcases HL.out with ⟨rfl, HZ, HN, HB2⟩
            · have gg : us 6 = .bool false := hR.2 6 (done_at hdo 6 (by rfl))
              have s37 : b0.tmps.getD 37 undef = .int .i64 y := (hslot 11 37 (by rfl)).trans (hR.2 11 (done_at hdo 11 (by rfl)))
              have s39 : b0.tmps.getD 39 undef = .int .i64 z := (hslot 13 39 (by rfl)).trans (hR.2 13 (done_at hdo 13 (by rfl)))
              have e7 : (y != z) = false := HN
              clear hslot hoth hdo hcl hLi
              refine guard_on (j := 6) (want := false) (d := 32) (by rfl) (by rfl) gg ?_
              go_simp
              exact hK _ _ (flat_mark (hR.1) (fun _ _ h => h) hR.2 rfl)
          · intro b0 us wz L hslot hoth hLi hR hcl hdo K hK
            rcases HL.out with ⟨rfl, HZ, HN, HB2⟩
            · have s32 : b0.tmps.getD 32 undef = .bool false := (hslot 6 32 (by rfl)).trans (hR.2 6 (done_at hdo 6 (by rfl)))
              have s40 : b0.tmps.getD 40 undef = .bool false := (hslot 14 40 (by rfl)).trans (hR.2 14 (done_at hdo 14 (by rfl)))
              clear hslot hoth hdo hcl hLi
              refine guard_none (by rfl) ?_
              go_simp
              exact hK _ _ (flat_mark (hR.1) (fun _ _ h => h) hR.2 rfl)
          · intro b0 us wz L hslot hoth hLi hR hcl hdo K hK
            rcases HL.out with ⟨rfl, HZ, HN, HB2⟩
            · have s41 : b0.tmps.getD 41 undef = .bool false := (hslot 15 41 (by rfl)).trans (hR.2 15 (done_at hdo 15 (by rfl)))
              clear hslot hoth hdo hcl hLi
              refine guard_none (by rfl) ?_
              go_simp
              exact hK _ _ (flat_mark (hR.1) (fun _ _ h => h) hR.2 rfl)
          · intro b0 us wz L hslot hoth hLi hR hcl hdo K hK
            rcases HL.out with ⟨rfl, HZ, HN, HB2⟩
            · have gg : us 16 = .bool false := hR.2 16 (done_at hdo 16 (by rfl))
              have s0 : b0.tmps.getD 0 undef = .slice (some p) 10 cap := hoth 0 (by rfl)
              clear hslot hoth hdo hcl hLi
              refine guard_on (j := 16) (want := false) (d := 42) (by rfl) (by rfl) gg ?_
              go_simp
              exact hK _ _ (flat_mark (hR.1) (fun _ _ h => h) hR.2 rfl)
          · intro b0 us wz L hslot hoth hLi hR hcl hdo K hK
            rcases HL.out with ⟨rfl, HZ, HN, HB2⟩
            · have gg : us 16 = .bool false := hR.2 16 (done_at hdo 16 (by rfl))
              have s1 : b0.tmps.getD 1 undef = .int .i64 now := hoth 1 (by rfl)
              clear hslot hoth hdo hcl hLi
              refine guard_on (j := 16) (want := false) (d := 42) (by rfl) (by rfl) gg ?_
              go_simp
              exact hK _ _ (flat_mark (hR.1) (fun _ _ h => h) hR.2 rfl)
          · intro b0 us wz L hslot hoth hLi hR hcl hdo K hK
            rcases HL.out with ⟨rfl, HZ, HN, HB2⟩
            · have gg : us 16 = .bool false := hR.2 16 (done_at hdo 16 (by rfl))
              have s43 : b0.tmps.getD 43 undef = .slice (some p) 10 cap := (hslot 17 43 (by rfl)).trans (hR.2 17 (done_at hdo 17 (by rfl)))
              have s44 : b0.tmps.getD 44 undef = .int .i64 now := (hslot 18 44 (by rfl)).trans (hR.2 18 (done_at hdo 18 (by rfl)))
              clear hslot hoth hdo hcl hLi
              refine guard_on (j := 16) (want := false) (d := 42) (by rfl) (by rfl) gg ?_
              go_simp
              refine (HRC.out wz hR.1).mono ?_
              rintro e w' ⟨a9, n9, c9, rfl, hn9, hc9, hg9, hb9⟩
              obtain rfl : n9 = 10 := by rw [hn9]; exact HRL.out
              obtain ⟨g9, rfl, -, hbol9⟩ := hg9 (by omega)
              exact hK _ _ (flat_mark (below_more hR.1 hb9) (gGoodS_on hb9) hR.2 ⟨g9, c9, rfl, hc9, hbol9⟩)
          · intro b0 us wz L hslot hoth hLi hR hcl hdo K hK
            rcases HL.out with ⟨rfl, HZ, HN, HB2⟩
            · have gg : us 16 = .bool false := hR.2 16 (done_at hdo 16 (by rfl))
              have s9 : b0.tmps.getD 9 undef = .int .i64 k := hoth 9 (by rfl)
              clear hslot hoth hdo hcl hLi
              refine guard_on (j := 16) (want := false) (d := 42) (by rfl) (by rfl) gg ?_
              go_simp
              exact hK _ _ (flat_mark (hR.1) (fun _ _ h => h) hR.2 rfl)
          · intro b0 us wz L hslot hoth hLi hR hcl hdo K hK
            rcases HL.out with ⟨rfl, HZ, HN, HB2⟩
            · have gg : us 16 = .bool false := hR.2 16 (done_at hdo 16 (by rfl))
              obtain ⟨g, cg, hu, hcg, hbol⟩ := hR.2 19 (done_at hdo 19 (by rfl))
              have s45 : b0.tmps.getD 45 undef = .slice (some ⟨g, 0, none⟩) 10 cg := (hslot 19 45 (by rfl)).trans hu
              have s46 : b0.tmps.getD 46 undef = .int .i64 k := (hslot 20 46 (by rfl)).trans (hR.2 20 (done_at hdo 20 (by rfl)))
              have hk10 : (k : Int) < 10 := HK10.out
              clear hslot hoth hdo hcl hLi
              refine guard_on (j := 16) (want := false) (d := 42) (by rfl) (by rfl) gg ?_
              go_simp
              exact hK _ _ (flat_mark (hR.1) (fun _ _ h => h) hR.2 ⟨g, rfl, hbol⟩)
          · intro b0 us wz L hslot hoth hLi hR hcl hdo K hK
            rcases HL.out with ⟨rfl, HZ, HN, HB2⟩
            · have gg : us 16 = .bool false := hR.2 16 (done_at hdo 16 (by rfl))
              obtain ⟨g, hu, hbol⟩ := hR.2 21 (done_at hdo 21 (by rfl))
              have s47 : b0.tmps.getD 47 undef = .pointer (some ⟨g, k, none⟩) := (hslot 21 47 (by rfl)).trans hu
              have kR := (hbol.cell k (by rw [HRL.out]; exact HKN.out)).trans (congrArg (fun b => some (Value.bool b)) HB2)
              clear hslot hoth hdo hcl hLi
              refine guard_on (j := 16) (want := false) (d := 42) (by rfl) (by rfl) gg ?_
              go_simp
              exact hK _ _ (flat_mark (hR.1) (fun _ _ h => h) hR.2 rfl)
          · intro b0 us wz L hslot hoth hLi hR hcl hdo K hK
            rcases HL.out with ⟨rfl, HZ, HN, HB2⟩
            · have gg : us 16 = .bool false := hR.2 16 (done_at hdo 16 (by rfl))
              have s48 : b0.tmps.getD 48 undef = .bool true := (hslot 22 48 (by rfl)).trans (hR.2 22 (done_at hdo 22 (by rfl)))
              clear hslot hoth hdo hcl hLi
              refine guard_on (j := 16) (want := false) (d := 42) (by rfl) (by rfl) gg ?_
              go_simp
              exact hK _ _ (flat_mark (hR.1) (fun _ _ h => h) hR.2 rfl)
          · intro b0 us wz L hslot hoth hLi hR hcl hdo K hK
            rcases HL.out with ⟨rfl, HZ, HN, HB2⟩
            · have s42 : b0.tmps.getD 42 undef = .bool false := (hslot 16 42 (by rfl)).trans (hR.2 16 (done_at hdo 16 (by rfl)))
              have s49 : b0.tmps.getD 49 undef = .bool false := (hslot 23 49 (by rfl)).trans (hR.2 23 (done_at hdo 23 (by rfl)))
              clear hslot hoth hdo hcl hLi
              refine guard_none (by rfl) ?_
              go_simp
              exact hK _ _ (flat_mark (hR.1) (fun _ _ h => h) hR.2 rfl)
        · intro us wn L hall hR a' ha'
          have g24 : us 24 = .bool false := by
            have := hR.2 24 (hall 24 (by decide))
            rcases HL.out with ⟨rfl, HZ, HN, HB2⟩
            all_goals exact this
          have HB := hid_of hR.1
          clear hR hall
          simp only [putAll, g24] at ha'
          subst ha'
          go_frame
          have HB9 := hid_of (below_more HB1.out HB.out)
          clear HL HB HRC HHG
          go_wp2
          go_ret
          exact ⟨by rw [HBV.out]; rfl, HB9.out⟩
      | false =>
        have HBW : b = false := by rw [HBB.out, hyz, hg0]; rfl
        replace hg0 : Holds9 (gAt r k) false := hg0
        clear hyz
        have HBV : Hid (b = false) := HBW
        clear HBW
        have HL : Hid (∃ l0 : List Value, l0 = [.slice (some p) 10 cap, .int .i64 k, .pointer (some q), .pointer (some ⟨q.block, q.off + 1, none⟩), .int .i64 x, .bool false, .bool false, .slice (some p) 10 cap, .int .i64 k, .pointer (some q), .pointer (some q), .int .i64 y, .int .i64 h, .int .i64 z, .bool false, .bool false, .bool false, .slice (some p) 10 cap, .int .i64 now, undef, .int .i64 k, undef, .bool false, .bool true, .bool true] ∧ Holds9 (x == 0) false ∧ Holds9 (y != z) false ∧ Holds9 (gAt r k) false) := ⟨_, rfl, hz0, hn0, hg0⟩
        obtain ⟨l0, HL1⟩ := HL.out
        have HL : Hid (l0 = [.slice (some p) 10 cap, .int .i64 k, .pointer (some q), .pointer (some ⟨q.block, q.off + 1, none⟩), .int .i64 x, .bool false, .bool false, .slice (some p) 10 cap, .int .i64 k, .pointer (some q), .pointer (some q), .int .i64 y, .int .i64 h, .int .i64 z, .bool false, .bool false, .bool false, .slice (some p) 10 cap, .int .i64 now, undef, .int .i64 k, undef, .bool false, .bool true, .bool true] ∧ Holds9 (x == 0) false ∧ Holds9 (y != z) false ∧ Holds9 (gAt r k) false) := HL1
        clear HL1
        go_wp2_with fail
        refine wp_region_whole (by kernel_rfl) (by kernel_rfl) (by kernel_rfl) (by kernel_rfl) (Flat (fun wz => Below W.heap.size W wz) (gGoodS r k l0)) (flat_start (below_draw _)) ?_ ?_
        · refine ⟨?_, ?_, ?_, ?_, ?_, ?_, ?_, ?_, ?_, ?_, ?_, ?_, ?_, ?_, ?_, ?_, ?_, ?_, ?_, ?_, ?_, ?_, ?_, ?_, ?_, trivial⟩
          · intro b0 us wz L hslot hoth hLi hR hcl hdo K hK
            rcases HL.out with ⟨rfl, HZ, HN, HB2⟩
            · have s0 : b0.tmps.getD 0 undef = .slice (some p) 10 cap := hoth 0 (by rfl)
              clear hslot hoth hdo hcl hLi
              refine guard_none (by rfl) ?_
              go_simp
              exact hK _ _ (flat_mark (hR.1) (fun _ _ h => h) hR.2 rfl)
          · intro b0 us wz L hslot hoth hLi hR hcl hdo K hK
            rcases HL.out with ⟨rfl, HZ, HN, HB2⟩
            · have s9 : b0.tmps.getD 9 undef = .int .i64 k := hoth 9 (by rfl)
              clear hslot hoth hdo hcl hLi
              refine guard_none (by rfl) ?_
              go_simp
              exact hK _ _ (flat_mark (hR.1) (fun _ _ h => h) hR.2 rfl)
          · intro b0 us wz L hslot hoth hLi hR hcl hdo K hK
            rcases HL.out with ⟨rfl, HZ, HN, HB2⟩
            · have s26 : b0.tmps.getD 26 undef = .slice (some p) 10 cap := (hslot 0 26 (by rfl)).trans (hR.2 0 (done_at hdo 0 (by rfl)))
              have s27 : b0.tmps.getD 27 undef = .int .i64 k := (hslot 1 27 (by rfl)).trans (hR.2 1 (done_at hdo 1 (by rfl)))
              have hq := HQ.out
              have hk10 : (k : Int) < 10 := HK10.out
              clear hslot hoth hdo hcl hLi
              refine guard_none (by rfl) ?_
              go_simp
              exact hK _ _ (flat_mark (hR.1) (fun _ _ h => h) hR.2 rfl)
          · intro b0 us wz L hslot hoth hLi hR hcl hdo K hK
            rcases HL.out with ⟨rfl, HZ, HN, HB2⟩
            · have s28 : b0.tmps.getD 28 undef = .pointer (some q) := (hslot 2 28 (by rfl)).trans (hR.2 2 (done_at hdo 2 (by rfl)))
              clear hslot hoth hdo hcl hLi
              refine guard_none (by rfl) ?_
              go_simp
              exact hK _ _ (flat_mark (hR.1) (fun _ _ h => h) hR.2 rfl)
          · intro b0 us wz L hslot hoth hLi hR hcl hdo K hK
            rcases HL.out with ⟨rfl, HZ, HN, HB2⟩
            · have s29 : b0.tmps.getD 29 undef = .pointer (some ⟨q.block, q.off + 1, none⟩) := (hslot 3 29 (by rfl)).trans (hR.2 3 (done_at hdo 3 (by rfl)))
              have k1 := (HCS.out.on hR.1).c1
              rw [HK1.out] at k1
              clear hslot hoth hdo hcl hLi
              refine guard_none (by rfl) ?_
              go_simp
              exact hK _ _ (flat_mark (hR.1) (fun _ _ h => h) hR.2 rfl)
          · intro b0 us wz L hslot hoth hLi hR hcl hdo K hK
            rcases HL.out with ⟨rfl, HZ, HN, HB2⟩
            · have s30 : b0.tmps.getD 30 undef = .int .i64 x := (hslot 4 30 (by rfl)).trans (hR.2 4 (done_at hdo 4 (by rfl)))
              have e5 : (x == 0) = false := HZ
              clear hslot hoth hdo hcl hLi
              refine guard_none (by rfl) ?_
              go_simp
              exact hK _ _ (flat_mark (hR.1) (fun _ _ h => h) hR.2 rfl)
          · intro b0 us wz L hslot hoth hLi hR hcl hdo K hK
            rcases HL.out with ⟨rfl, HZ, HN, HB2⟩
            · have s31 : b0.tmps.getD 31 undef = .bool false := (hslot 5 31 (by rfl)).trans (hR.2 5 (done_at hdo 5 (by rfl)))
              clear hslot hoth hdo hcl hLi
              refine guard_none (by rfl) ?_
              go_simp
              exact hK _ _ (flat_mark (hR.1) (fun _ _ h => h) hR.2 rfl)
          · intro b0 us wz L hslot hoth hLi hR hcl hdo K hK
            rcases HL.out with ⟨rfl, HZ, HN, HB2⟩
            · have gg : us 6 = .bool false := hR.2 6 (done_at hdo 6 (by rfl))
              have s0 : b0.tmps.getD 0 undef = .slice (some p) 10 cap := hoth 0 (by rfl)
              clear hslot hoth hdo hcl hLi
              refine guard_on (j := 6) (want := false) (d := 32) (by rfl) (by rfl) gg ?_
              go_simp
              exact hK _ _ (flat_mark (hR.1) (fun _ _ h => h) hR.2 rfl)
          · intro b0 us wz L hslot hoth hLi hR hcl hdo K hK
            rcases HL.out with ⟨rfl, HZ, HN, HB2⟩
            · have gg : us 6 = .bool false := hR.2 6 (done_at hdo 6 (by rfl))
              have s9 : b0.tmps.getD 9 undef = .int .i64 k := hoth 9 (by rfl)
              clear hslot hoth hdo hcl hLi
              refine guard_on (j := 6) (want := false) (d := 32) (by rfl) (by rfl) gg ?_
              go_simp
              exact hK _ _ (flat_mark (hR.1) (fun _ _ h => h) hR.2 rfl)
          · intro b0 us wz L hslot hoth hLi hR hcl hdo K hK
            rcases HL.out with ⟨rfl, HZ, HN, HB2⟩
            · have gg : us 6 = .bool false := hR.2 6 (done_at hdo 6 (by rfl))
              have s33 : b0.tmps.getD 33 undef = .slice (some p) 10 cap := (hslot 7 33 (by rfl)).trans (hR.2 7 (done_at hdo 7 (by rfl)))
              have s34 : b0.tmps.getD 34 undef = .int .i64 k := (hslot 8 34 (by rfl)).trans (hR.2 8 (done_at hdo 8 (by rfl)))
              have hq := HQ.out
              have hk10 : (k : Int) < 10 := HK10.out
              clear hslot hoth hdo hcl hLi
              refine guard_on (j := 6) (want := false) (d := 32) (by rfl) (by rfl) gg ?_
              go_simp
              exact hK _ _ (flat_mark (hR.1) (fun _ _ h => h) hR.2 rfl)
          · intro b0 us wz L hslot hoth hLi hR hcl hdo K hK
            rcases HL.out with ⟨rfl, HZ, HN, HB2⟩
            · have gg : us 6 = .bool false := hR.2 6 (done_at hdo 6 (by rfl))
              have s35 : b0.tmps.getD 35 undef = .pointer (some q) := (hslot 9 35 (by rfl)).trans (hR.2 9 (done_at hdo 9 (by rfl)))
              clear hslot hoth hdo hcl hLi
              refine guard_on (j := 6) (want := false) (d := 32) (by rfl) (by rfl) gg ?_
              go_simp
              exact hK _ _ (flat_mark (hR.1) (fun _ _ h => h) hR.2 rfl)
          · intro b0 us wz L hslot hoth hLi hR hcl hdo K hK
            rcases HL.out with ⟨rfl, HZ, HN, HB2⟩
            · have gg : us 6 = .bool false := hR.2 6 (done_at hdo 6 (by rfl))
              have s36 : b0.tmps.getD 36 undef = .pointer (some q) := (hslot 10 36 (by rfl)).trans (hR.2 10 (done_at hdo 10 (by rfl)))
              have k0 := (HCS.out.on hR.1).c0
              rw [HK0.out] at k0
              clear hslot hoth hdo hcl hLi
              refine guard_on (j := 6) (want := false) (d := 32) (by rfl) (by rfl) gg ?_
              go_simp
              exact hK _ _ (flat_mark (hR.1) (fun _ _ h => h) hR.2 rfl)
          · intro b0 us wz L hslot hoth hLi hR hcl hdo K hK
            rcases HL.out with ⟨rfl, HZ, HN, HB2⟩
            · have gg : us 6 = .bool false := hR.2 6 (done_at hdo 6 (by rfl))
              have s3 : b0.tmps.getD 3 undef = .int .i64 h := hoth 3 (by rfl)
              clear hslot hoth hdo hcl hLi
              refine guard_on (j := 6) (want := false) (d := 32) (by rfl) (by rfl) gg ?_
              go_simp
              exact hK _ _ (flat_mark (hR.1) (fun _ _ h => h) hR.2 rfl)
          · intro b0 us wz L hslot hoth hLi hR hcl hdo K hK
            rcases HL.out with ⟨rfl, HZ, HN, HB2⟩
            · have gg : us 6 = .bool false := hR.2 6 (done_at hdo 6 (by rfl))
              have s38 : b0.tmps.getD 38 undef = .int .i64 h := (hslot 12 38 (by rfl)).trans (hR.2 12 (done_at hdo 12 (by rfl)))
              clear hslot hoth hdo hcl hLi
              refine guard_on (j := 6) (want := false) (d := 32) (by rfl) (by rfl) gg ?_
              go_simp
              refine (HHG.out wz).mono ?_
              rintro e w' ⟨rfl, rfl⟩
              exact hK _ _ (flat_mark (hR.1) (fun _ _ h => h) hR.2 rfl)
          · intro b0 us wz L hslot hoth hLi hR hcl hdo K hK
            rcases HL.out with ⟨rfl, HZ, HN, HB2⟩
            · have gg : us 6 = .bool false := hR.2 6 (done_at hdo 6 (by rfl))
              have s37 : b0.tmps.getD 37 undef = .int .i64 y := (hslot 11 37 (by rfl)).trans (hR.2 11 (done_at hdo 11 (by rfl)))
              have s39 : b0.tmps.getD 39 undef = .int .i64 z := (hslot 13 39 (by rfl)).trans (hR.2 13 (done_at hdo 13 (by rfl)))
              have e7 : (y != z) = false := HN
              clear hslot hoth hdo hcl hLi
              refine guard_on (j := 6) (want := false) (d := 32) (by rfl) (by rfl) gg ?_
              go_simp
              exact hK _ _ (flat_mark (hR.1) (fun _ _ h => h) hR.2 rfl)
          · intro b0 us wz L hslot hoth hLi hR hcl hdo K hK
            rcases HL.out with ⟨rfl, HZ, HN, HB2⟩
            · have s32 : b0.tmps.getD 32 undef = .bool false := (hslot 6 32 (by rfl)).trans (hR.2 6 (done_at hdo 6 (by rfl)))
              have s40 : b0.tmps.getD 40 undef = .bool false := (hslot 14 40 (by rfl)).trans (hR.2 14 (done_at hdo 14 (by rfl)))
              clear hslot hoth hdo hcl hLi
              refine guard_none (by rfl) ?_
              go_simp
              exact hK _ _ (flat_mark (hR.1) (fun _ _ h => h) hR.2 rfl)
          · intro b0 us wz L hslot hoth hLi hR hcl hdo K hK
            rcases HL.out with ⟨rfl, HZ, HN, HB2⟩
            · have s41 : b0.tmps.getD 41 undef = .bool false := (hslot 15 41 (by rfl)).trans (hR.2 15 (done_at hdo 15 (by rfl)))
              clear hslot hoth hdo hcl hLi
              refine guard_none (by rfl) ?_
              go_simp
              exact hK _ _ (flat_mark (hR.1) (fun _ _ h => h) hR.2 rfl)
          · intro b0 us wz L hslot hoth hLi hR hcl hdo K hK
            rcases HL.out with ⟨rfl, HZ, HN, HB2⟩
            · have gg : us 16 = .bool false := hR.2 16 (done_at hdo 16 (by rfl))
              have s0 : b0.tmps.getD 0 undef = .slice (some p) 10 cap := hoth 0 (by rfl)
              clear hslot hoth hdo hcl hLi
              refine guard_on (j := 16) (want := false) (d := 42) (by rfl) (by rfl) gg ?_
              go_simp
              exact hK _ _ (flat_mark (hR.1) (fun _ _ h => h) hR.2 rfl)
          · intro b0 us wz L hslot hoth hLi hR hcl hdo K hK
            rcases HL.out with ⟨rfl, HZ, HN, HB2⟩
            · have gg : us 16 = .bool false := hR.2 16 (done_at hdo 16 (by rfl))
              have s1 : b0.tmps.getD 1 undef = .int .i64 now := hoth 1 (by rfl)
              clear hslot hoth hdo hcl hLi
              refine guard_on (j := 16) (want := false) (d := 42) (by rfl) (by rfl) gg ?_
              go_simp
              exact hK _ _ (flat_mark (hR.1) (fun _ _ h => h) hR.2 rfl)
          · intro b0 us wz L hslot hoth hLi hR hcl hdo K hK
            rcases HL.out with ⟨rfl, HZ, HN, HB2⟩
            · have gg : us 16 = .bool false := hR.2 16 (done_at hdo 16 (by rfl))
              have s43 : b0.tmps.getD 43 undef = .slice (some p) 10 cap := (hslot 17 43 (by rfl)).trans (hR.2 17 (done_at hdo 17 (by rfl)))
              have s44 : b0.tmps.getD 44 undef = .int .i64 now := (hslot 18 44 (by rfl)).trans (hR.2 18 (done_at hdo 18 (by rfl)))
              clear hslot hoth hdo hcl hLi
              refine guard_on (j := 16) (want := false) (d := 42) (by rfl) (by rfl) gg ?_
              go_simp
              refine (HRC.out wz hR.1).mono ?_
              rintro e w' ⟨a9, n9, c9, rfl, hn9, hc9, hg9, hb9⟩
              obtain rfl : n9 = 10 := by rw [hn9]; exact HRL.out
              obtain ⟨g9, rfl, -, hbol9⟩ := hg9 (by omega)
              exact hK _ _ (flat_mark (below_more hR.1 hb9) (gGoodS_on hb9) hR.2 ⟨g9, c9, rfl, hc9, hbol9⟩)
          · intro b0 us wz L hslot hoth hLi hR hcl hdo K hK
            rcases HL.out with ⟨rfl, HZ, HN, HB2⟩
            · have gg : us 16 = .bool false := hR.2 16 (done_at hdo 16 (by rfl))
              have s9 : b0.tmps.getD 9 undef = .int .i64 k := hoth 9 (by rfl)
              clear hslot hoth hdo hcl hLi
              refine guard_on (j := 16) (want := false) (d := 42) (by rfl) (by rfl) gg ?_
              go_simp
              exact hK _ _ (flat_mark (hR.1) (fun _ _ h => h) hR.2 rfl)
          · intro b0 us wz L hslot hoth hLi hR hcl hdo K hK
            rcases HL.out with ⟨rfl, HZ, HN, HB2⟩
            · have gg : us 16 = .bool false := hR.2 16 (done_at hdo 16 (by rfl))
              obtain ⟨g, cg, hu, hcg, hbol⟩ := hR.2 19 (done_at hdo 19 (by rfl))
              have s45 : b0.tmps.getD 45 undef = .slice (some ⟨g, 0, none⟩) 10 cg := (hslot 19 45 (by rfl)).trans hu
              have s46 : b0.tmps.getD 46 undef = .int .i64 k := (hslot 20 46 (by rfl)).trans (hR.2 20 (done_at hdo 20 (by rfl)))
              have hk10 : (k : Int) < 10 := HK10.out
              clear hslot hoth hdo hcl hLi
              refine guard_on (j := 16) (want := false) (d := 42) (by rfl) (by rfl) gg ?_
              go_simp
              exact hK _ _ (flat_mark (hR.1) (fun _ _ h => h) hR.2 ⟨g, rfl, hbol⟩)
          · intro b0 us wz L hslot hoth hLi hR hcl hdo K hK
            rcases HL.out with ⟨rfl, HZ, HN, HB2⟩
            · have gg : us 16 = .bool false := hR.2 16 (done_at hdo 16 (by rfl))
              obtain ⟨g, hu, hbol⟩ := hR.2 21 (done_at hdo 21 (by rfl))
              have s47 : b0.tmps.getD 47 undef = .pointer (some ⟨g, k, none⟩) := (hslot 21 47 (by rfl)).trans hu
              have kR := (hbol.cell k (by rw [HRL.out]; exact HKN.out)).trans (congrArg (fun b => some (Value.bool b)) HB2)
              clear hslot hoth hdo hcl hLi
              refine guard_on (j := 16) (want := false) (d := 42) (by rfl) (by rfl) gg ?_
              go_simp
              exact hK _ _ (flat_mark (hR.1) (fun _ _ h => h) hR.2 rfl)
          · intro b0 us wz L hslot hoth hLi hR hcl hdo K hK
            rcases HL.out with ⟨rfl, HZ, HN, HB2⟩
            · have gg : us 16 = .bool false := hR.2 16 (done_at hdo 16 (by rfl))
              have s48 : b0.tmps.getD 48 undef = .bool false := (hslot 22 48 (by rfl)).trans (hR.2 22 (done_at hdo 22 (by rfl)))
              clear hslot hoth hdo hcl hLi
              refine guard_on (j := 16) (want := false) (d := 42) (by rfl) (by rfl) gg ?_
              go_simp
              exact hK _ _ (flat_mark (hR.1) (fun _ _ h => h) hR.2 rfl)
          · intro b0 us wz L hslot hoth hLi hR hcl hdo K hK
            rcases HL.out with ⟨rfl, HZ, HN, HB2⟩
            · have s42 : b0.tmps.getD 42 undef = .bool false := (hslot 16 42 (by rfl)).trans (hR.2 16 (done_at hdo 16 (by rfl)))
              have s49 : b0.tmps.getD 49 undef = .bool true := (hslot 23 49 (by rfl)).trans (hR.2 23 (done_at hdo 23 (by rfl)))
              clear hslot hoth hdo hcl hLi
              refine guard_none (by rfl) ?_
              go_simp
              exact hK _ _ (flat_mark (hR.1) (fun _ _ h => h) hR.2 rfl)
        · intro us wn L hall hR a' ha'
          have g24 : us 24 = .bool true := by
            have := hR.2 24 (hall 24 (by decide))
            rcases HL.out with ⟨rfl, HZ, HN, HB2⟩
            all_goals exact this
          have HB := hid_of hR.1
          clear hR hall
          simp only [putAll, g24] at ha'
          subst ha'
          go_frame
          have HB9 := hid_of (below_more HB1.out HB.out)
          clear HL HB HRC HHG
          go_wp2
          go_ret
          exact ⟨by rw [HBV.out]; rfl, HB9.out⟩
set_option maxHeartbeats 4000000 in
theorem specGood_any (v : Value) (os : List Ob) (now part h : Int) (w : World) (hx : IsArena w v os) (hn : os.length ≤ 1048576) (hs : Small8 os) (hf : AllFit os) :
    Calls Try.prog 5 #[v, .int .i64 now, .int .i64 part, .int .i64 h] w fun e w' => e = .returned (.int .i64 (goodOf os now part h)) ∧ Below w.heap.size w w' := by
  have CA := specArenaOk_any _ os w hx hn hs hf
  have CH : ∀ w, Calls Try.prog 11 #[.int .i64 h] w fun e w' => e = .returned (.bool (isHandle h)) ∧ w = w' := specHandle_b h
  have HCP := hid_of (specHandlePart_any h)
  cases hok : arenaOk os with
  | false =>
    have e1 : goodOf os now part h = -1 := by unfold goodOf; rw [hok]; rfl
    rw [e1]
    rw [hok] at CA
    clear hok e1 hx CH HCP
    go_enter Try.func5, Try.ntmps5
    go_wp2_with fail
    refine CA.mono ?_
    rintro e w1 ⟨rfl, hb⟩
    clear CA
    go_wp2
    go_ret
    exact ⟨rfl, hb⟩
  | true =>
    cases hh : isHandle h with
    | false =>
      have e1 : goodOf os now part h = -1 := by unfold goodOf; rw [hok, hh]; rfl
      rw [e1]
      rw [hok] at CA
      simp only [hh] at CH
      clear hok e1 hx HCP hh
      go_enter Try.func5, Try.ntmps5
      go_wp2_with fail
      refine CA.mono ?_
      rintro e w1 ⟨rfl, hb⟩
      clear CA
      go_wp2_with fail
      refine (CH _).mono ?_
      rintro e w2 ⟨rfl, rfl⟩
      clear CH
      go_wp2
      go_ret
      exact ⟨rfl, hb⟩
    | true =>
      by_cases hp : handlePart h = part
      · have hsl := slot_in hh
        obtain ⟨k, hk⟩ : ∃ k : Nat, handleSlot h = k := ⟨(handleSlot h).toNat, by omega⟩
        have hlen := (arenaOk_parts hok).1
        have e1 : goodOf os now part h = ansK (((obAt os k).gen == handleGen h) && gAt (reached (ledB os now)) k) k := by
          unfold goodOf ansK
          rw [hok, hh, hk, hp, Int.toNat_natCast]
          simp
        rw [e1]
        obtain ⟨a, cap, rfl, _, hel⟩ := id hx
        obtain ⟨p, _, _, _, rfl, _⟩ := hel 0 (by omega)
        rw [hlen] at hx ⊢
        exact specGood_go p cap os now part h k _ w hx hok hs hf hh hp hk (by omega) rfl
      · have e1 : goodOf os now part h = -1 := by unfold goodOf; rw [hok, hh, beq_eq_false_iff_ne.2 hp]; rfl
        rw [e1]
        rw [hok] at CA
        simp only [hh] at CH
        have hpp : (handlePart h != part) = true := by simp [bne, beq_eq_false_iff_ne.2 hp]
        generalize handlePart h = pp at HCP hpp
        clear hok e1 hx hp hh
        go_enter Try.func5, Try.ntmps5
        go_wp2_with fail
        refine CA.mono ?_
        rintro e w1 ⟨rfl, hb⟩
        clear CA
        go_wp2_with fail
        refine (CH _).mono ?_
        rintro e w2 ⟨rfl, rfl⟩
        clear CH
        go_wp2_with fail
        refine (HCP.out _).mono ?_
        rintro e w2 ⟨rfl, rfl⟩
        go_wp2
        go_ret
        exact ⟨rfl, hb⟩
end Go.Proofs.Ytglpfgachcoheab
