/-
  The law of promise 4 on owners: the walk.
-/
import Derived.Test.YtbahokkofidmeaaMathOwns
import Derived.Test.YtbahokkofidmeaaDrawF
import Derived.Test.YtbahokkofidmeaaHas
import Derived.Test.YtbahokkofidmeaaPhase
import Derived.Test.YtbahokkofidmeaaBig
namespace Go.Proofs.Ytbahokkofidmeaa
open Go.RowKit
set_option linter.unusedVariables false

theorem lab_two {w1 : World} {r1 r2 : Value} {xs ys : List Int} (h1 : IsInts w1 r1 xs) (h2 : IsInts w1 r2 ys) :
    Lab w1.heap.size r1 xs ((w1.alloc (.cells #[r1] 26 (0, 0))).alloc (.cells #[r2] 26 (0, 0))) ∧ Lab (w1.heap.size + 1) r2 ys ((w1.alloc (.cells #[r1] 26 (0, 0))).alloc (.cells #[r2] 26 (0, 0))) := by
  refine ⟨(lab_new h1).on (below_alloc _ _), ?_⟩
  have h := lab_new (wr := w1.alloc (.cells #[r1] 26 (0, 0))) (h2.on (below_alloc _ _))
  rw [show (w1.alloc (.cells #[r1] 26 (0, 0))).heap.size = w1.heap.size + 1 by simp] at h
  exact h
/-- What is owned, the two labels in boxes, what is needed. -/
structure OwnsW (w : World) (bA bB : Nat) (vo va vb vn : Value) (own xs ys ns : List Int) (wr : World) : Prop where
  o : IsInts wr vo own
  A : Lab bA va xs wr
  B : Lab bB vb ys wr
  n : wr.ownsRow w.heap.size 3 1 vn ns.length (icells ns)
  below : Below w.heap.size w wr
theorem OwnsW.on {w : World} {bA bB : Nat} {vo va vb vn : Value} {own xs ys ns : List Int} {wr w' : World} (h : OwnsW w bA bB vo va vb vn own xs ys ns wr) (hb : Below wr.heap.size wr w') : OwnsW w bA bB vo va vb vn own xs ys ns w' :=
  ⟨h.o.on hb, h.A.on hb, h.B.on hb, own_on h.n hb, h.below.trans (hb.mono h.below.size)⟩
theorem OwnsW.drew {w : World} {bA bB : Nat} {vo va vb vn : Value} {own xs ys ns : List Int} {wr : World} (h : OwnsW w bA bB vo va vb vn own xs ys ns wr) : OwnsW w bA bB vo va vb vn own xs ys ns wr.drew := h.on (below_draw wr)
/-- What an operation leaves: a value, or a label's new row; nothing where it was not wanted. -/
structure Pr where
  on : Bool
  v : Value
  xs : Option (List Int)
def Pr.val (on : Bool) (v : Value) : Pr := ⟨on, v, none⟩
def Pr.lab (on : Bool) (xs : List Int) : Pr := ⟨on, undef, some xs⟩
def gOne (p : Pr) (u : Value) (w : World) : Prop :=
  match p.xs with
  | none => u = cond p.on p.v undef
  | some xs => cond p.on (∃ r, u = .agg #[r] ∧ IsInts w r xs) (u = undef)
def gPr (l : List Pr) (j : Nat) (u : Value) (w : World) : Prop :=
  match l[j]? with
  | some p => gOne p u w
  | none => True
theorem gPr_on {l : List Pr} {w w' : World} (hb : Below w.heap.size w w') : ∀ j u, gPr l j u w → gPr l j u w' := by
  intro j u h
  unfold gPr at h ⊢
  cases hl : l[j]? with
  | none => trivial
  | some p =>
    rw [hl] at h
    obtain ⟨on, v, xs⟩ := p
    cases xs with
    | none => exact h
    | some xs =>
      cases on with
      | false => exact h
      | true =>
        obtain ⟨r, h1, h2⟩ := h
        exact ⟨r, h1, h2.on hb⟩
/-- 'append(s, x...)' of ints that lie anywhere, as one operation. -/
theorem wp_app_at {o : Oper} {b : Act} {w : World} {K : Act → World → Prop} {Q : Exit → Act → World → Prop} (s x : Operand)
    (ho : o.op = .call { callee := .builtin .append, args := #[s, x], argTypes := #[24, 24] }) (base : Nat) (v : Value) (acc new : List Int) (hs : b.eval s = v) (hown : w.ownsRow base 3 1 v acc.length (icells acc)) (p : Addr) (m c : Nat) (hm : new.length = m)
    (hx : b.eval x = .slice (some p) m c) (hcell : ∀ (j : Nat) u, (icells new)[j]? = some u → w.cell? (p.add j) = some u) (hb : acc.length + m ≤ 1000) (hbase : base ≤ w.heap.size)
    (h : ∀ v' w', w'.ownsRow base 3 1 v' (acc ++ new).length (icells (acc ++ new)) → Below base w w' → K (b.put o.dst v') w') : Oper.wp Try.prog o b w K Q := by
  subst hm
  obtain ⟨i0, hi, hz0, hz1, hz2⟩ := info_parts info3
  obtain ⟨v', w', hr, h2, h3, h4⟩ := run_append_own (P := Try.prog) w base 24 o.type 3 i0 (.int .i64 0) 1 8 Try.underlying24 hi hz0 hz1 hz2 rfl (by decide) v acc.length (icells acc) hown p new.length c (icells new) (by rw [icells_length]; omega) hcell (icells_one _) (by simp only [maxLen]; omega) (by omega) hbase
  unfold Oper.wp execOp
  simp only [ho, resolve, invoke, builtin, Sem.run_bind, Sem.run_pure, Result.andThen_ok, List.map_toArray, List.map_cons, List.map_nil, hs, hx, hr]
  refine h v' w' ?_ ?_
  · rw [List.length_append]
    unfold icells at h2 ⊢
    rw [List.map_append]
    exact h2
  · refine (Below.refl base w).grown h3 hbase ?_
    intro k hk
    rcases hown.2 with ⟨rfl, _⟩ | ⟨g, cap, cur, rfl, hbg, _⟩
    · simp [Value.ownBlock] at hk
    · simp [Value.ownBlock] at hk; omega
/-- A part of what lay there. -/
def PartOf (wr : World) (xs : List Int) (n : Nat) (u : Value) : Prop := ∃ p c, u = .slice (some p) n c ∧ ∀ (j : Nat) v, (icells xs)[j]? = some v → wr.cell? (p.add j) = some v
def gLess (wr : World) (vn : Value) (k : Nat) (ns : List Int) (L : Nat → Bool) : Nat → Value → World → Prop
  | 0, u, w => L 4 = false → w.ownsRow wr.heap.size 3 1 u ([] : List Int).length (icells [])
  | 1, u, _ => u = vn
  | 2, u, _ => u = .int .i64 k
  | 3, u, _ => PartOf wr (ns.take k) k u
  | 4, u, w => L 9 = false → w.ownsRow wr.heap.size 3 1 u ([] ++ ns.take k).length (icells ([] ++ ns.take k))
  | 5, u, _ => u = vn
  | 6, u, _ => u = .int .i64 k
  | 7, u, _ => u = .int .i64 ((k : Int) + 1)
  | 8, u, _ => PartOf wr (ns.drop (k + 1)) (ns.length - (k + 1)) u
  | 9, u, w => w.ownsRow wr.heap.size 3 1 u ([] ++ ns.take k ++ ns.drop (k + 1)).length (icells ([] ++ ns.take k ++ ns.drop (k + 1)))
  | 10, u, w => w.ownsRow wr.heap.size 3 1 u ([] ++ ns.take k ++ ns.drop (k + 1)).length (icells ([] ++ ns.take k ++ ns.drop (k + 1)))
  | _, _, _ => True
/-- Where nothing was written, all of it stays. -/
theorem gLess_same {wr : World} {vn : Value} {k : Nat} {ns : List Int} {L : Nat → Bool} {i : Nat} {w w' : World} (hb : Below w.heap.size w w') : ∀ j u, gLess wr vn k ns L j u w → gLess wr vn k ns (markd L i) j u w'
  | 0, u, h => fun h4 => own_on (h (by unfold markd at h4; split at h4 <;> first | cases h4 | exact h4)) hb
  | 1, u, h => h
  | 2, u, h => h
  | 3, u, h => h
  | 4, u, h => fun h4 => own_on (h (by unfold markd at h4; split at h4 <;> first | cases h4 | exact h4)) hb
  | 5, u, h => h
  | 6, u, h => h
  | 7, u, h => h
  | 8, u, h => h
  | 9, u, h => own_on h hb
  | 10, u, h => own_on h hb
  | _ + 11, u, h => trivial
theorem ownI_at (w0 : World) {s : Nat} (hs : s ≤ w0.heap.size) : (w0.alloc (.cells #[] 3 (0, 0))).ownsRow s 3 1 (.slice (some ⟨w0.heap.size, 0, none⟩) 0 0) ([] : List Int).length (icells []) := own_from (ownsI_empty w0) hs
theorem part_on {wr w0 : World} (hB : Below wr.heap.size wr w0) {p : Addr} {u : Value} (h : wr.cell? p = some u) : w0.cell? p = some u := by
  rw [hB.cell (World.block_lt_of_cell? wr _ h)]; exact h
theorem part_take {wr : World} {gn cn : Nat} {ns : List Int} (HC : ∀ i, i < ns.length → wr.cell? ⟨gn, i, none⟩ = some (.int .i64 (ns.getD i 0))) {k : Nat} (hk : k < ns.length) : PartOf wr (ns.take k) k (.slice (some ⟨gn, 0, none⟩) k cn) := by
  refine ⟨_, _, rfl, fun j v hj => ?_⟩
  have hl : j < (icells (ns.take k)).length := by
    cases h : (icells (ns.take k))[j]? with
    | none => rw [h] at hj; cases hj
    | some _ => exact (List.getElem?_eq_some_iff.1 h).1
  rw [icells_length, List.length_take] at hl
  rw [add_head]
  have hj2 : j < ns.length := by omega
  have hj3 : j < k := by omega
  have e : v = .int .i64 (ns.getD j 0) := by
    simp [icells, hj3, hj2] at hj
    simp [List.getD, hj2, hj]
  rw [e]
  simpa using HC j hj2
theorem part_drop {wr : World} {gn cn c : Nat} {ns : List Int} (HC : ∀ i, i < ns.length → wr.cell? ⟨gn, i, none⟩ = some (.int .i64 (ns.getD i 0))) {k : Nat} (hk : k < ns.length) (hcn : ns.length ≤ cn) : PartOf wr (ns.drop (k + 1)) (ns.length - (k + 1)) (.slice (if cn = k + 1 then some ⟨gn, 0, none⟩ else some ⟨gn, k + 1, none⟩) (ns.length - (k + 1)) c) := by
  by_cases h : cn = k + 1
  · rw [if_pos h]
    refine ⟨_, _, rfl, fun j v hj => ?_⟩
    rw [List.drop_eq_nil_of_le (by omega)] at hj
    simp [icells] at hj
  · rw [if_neg h]
    refine ⟨_, _, rfl, fun j v hj => ?_⟩
    have hl : j < (icells (ns.drop (k + 1))).length := by
      cases h : (icells (ns.drop (k + 1)))[j]? with
      | none => rw [h] at hj; cases hj
      | some _ => exact (List.getElem?_eq_some_iff.1 h).1
    rw [icells_length, List.length_drop] at hl
    have hj2 : k + 1 + j < ns.length := by omega
    have e : v = .int .i64 (ns.getD (k + 1 + j) 0) := by
      simp [icells, List.getElem?_drop, hj2] at hj
      simp [List.getD, hj2, hj]
    have ea : (⟨gn, k + 1, none⟩ : Addr).add j = ⟨gn, k + 1 + j, none⟩ := by unfold Addr.add; split <;> simp_all
    rw [ea, e]
    exact HC _ hj2

set_option maxRecDepth 100000 in
set_option maxHeartbeats 8000000 in
theorem lawOwns_small (w : World) (a : Option Addr) (len cap : Nat) (cb : Nat → Nat) (hc : Code0 w a len cb) :
    Calls Try.prog 3 #[.slice a len cap] w fun e w' => e = .returned (.bool true) ∧ Below w.heap.size w w' := by
  have C0 := big_no w a len cap (by have := hc.small; omega)
  have C1 := drawFlowsFor_any w a len cap cb hc
  clear hc
  go_enter Try.func3, Try.ntmps3
  go_wp2_with fail
  refine C0.mono ?_
  rintro e w0 ⟨rfl, rfl⟩
  clear C0
  go_wp2_with fail
  refine C1.mono ?_
  rintro e w1 ⟨v, r1, r2, own, xs, ys, rfl, hl0, hl1, hl2, o0, o1, o2, hb1⟩
  clear C1
  have HL : Hid (own.length ≤ 5 ∧ xs.length ≤ 5 ∧ ys.length ≤ 5) := ⟨hl0, hl1, hl2⟩
  obtain ⟨hA, hB⟩ := lab_two (isInts_own o1) (isInts_own o2)
  have HA : Hid (Lab w1.heap.size r1 xs ((w1.alloc (.cells #[r1] 26 (0, 0))).alloc (.cells #[r2] 26 (0, 0)))) := hA
  have HB : Hid (Lab (w1.heap.size + 1) r2 ys ((w1.alloc (.cells #[r1] 26 (0, 0))).alloc (.cells #[r2] 26 (0, 0)))) := hB
  have HO : Hid (IsInts ((w1.alloc (.cells #[r1] 26 (0, 0))).alloc (.cells #[r2] 26 (0, 0))) v own) := ((isInts_own o0).on (below_alloc _ _)).on (below_alloc _ _)
  have HW : Hid (Below w.heap.size w ((w1.alloc (.cells #[r1] 26 (0, 0))).alloc (.cells #[r2] 26 (0, 0)))) := (hb1.trans ((below_alloc w1 _).mono hb1.size)).trans ((below_alloc _ _).mono (by have := hb1.size; simp; omega))
  obtain ⟨a0, n0, c0, rfl⟩ := own_shape o0
  obtain ⟨a1, n1, c1, rfl⟩ := own_shape o1
  obtain ⟨a2, n2, c2, rfl⟩ := own_shape o2
  clear hl0 hl1 hl2 o0 o1 o2 hb1 hA hB
  obtain ⟨f, hf⟩ : ∃ f, flowsFor own xs ys = f := ⟨_, rfl⟩
  obtain ⟨ns, hns⟩ : ∃ ns, needsOf own xs ys = ns := ⟨_, rfl⟩
  have CF := implFlowsFor_any _ _ _ own xs ys _ HO.out HA.out.ints HB.out.ints (by have := HL.out; omega)
  rw [hf] at CF
  go_wp2_with fail
  refine CF.mono ?_
  rintro e w2 ⟨rfl, hb2⟩
  clear CF
  have HA2 : Hid (Lab w1.heap.size (.slice a1 n1 c1) xs w2) := HA.out.on hb2
  have HB2 : Hid (Lab (w1.heap.size + 1) (.slice a2 n2 c2) ys w2) := HB.out.on hb2
  have HO2 : Hid (IsInts w2 (.slice a0 n0 c0) own) := HO.out.on hb2
  have HW2 : Hid (Below w.heap.size w w2) := HW.out.trans (hb2.mono HW.out.size)
  clear hb2 HA HB HO HW
  have CN := implNeeds_any _ _ _ own xs ys _ HO2.out HA2.out.ints HB2.out.ints (by have := HL.out; omega)
  rw [hns] at CN
  have k4 := HA2.out.cell
  have k5 := HB2.out.cell
  go_wp2_with fail
  refine CN.mono ?_
  rintro e w3 ⟨r, rfl, hn, hb3⟩
  clear CN k4 k5
  obtain ⟨pn, cn, rfl, -, -⟩ := isInts_own hn
  have HE : Hid (OwnsW w w1.heap.size (w1.heap.size + 1) (.slice a0 n0 c0) (.slice a1 n1 c1) (.slice a2 n2 c2) (.slice pn ns.length cn) own xs ys ns w3) := ⟨HO2.out.on hb3, HA2.out.on hb3, HB2.out.on hb3, own_from hn HW2.out.size, HW2.out.trans (hb3.mono HW2.out.size)⟩
  clear hn hb3 HA2 HB2 HO2 HW2
  cases f with
  | false =>
    have hns0 : ns = [] := by rw [← hns]; exact needsOf_no hf
    subst hns0
    have CS := fun wz (h : OwnsW w w1.heap.size (w1.heap.size + 1) (.slice a0 n0 c0) (.slice a1 n1 c1) (.slice a2 n2 c2) (.slice pn ([] : List Int).length cn) own xs ys [] wz) => specFlowsFor_any _ _ _ own xs ys wz h.o h.A.ints h.B.ints (by have := HL.out; omega) (by have := HL.out; omega) (by have := HL.out; omega)
    have CO := fun wz (h : OwnsW w w1.heap.size (w1.heap.size + 1) (.slice a0 n0 c0) (.slice a1 n1 c1) (.slice a2 n2 c2) (.slice pn ([] : List Int).length cn) own xs ys [] wz) => implOwnOk_any _ own wz h.o (by have := HL.out; omega)
    have CW := fun wz (h : OwnsW w w1.heap.size (w1.heap.size + 1) (.slice a0 n0 c0) (.slice a1 n1 c1) (.slice a2 n2 c2) (.slice pn ([] : List Int).length cn) own xs ys [] wz) => implFlows_any _ _ xs ys wz h.A.ints h.B.ints
    rw [hf] at CS
    have k4 := HE.out.A.cell
    have k5 := HE.out.B.cell
    go_wp2_with fail
    refine (CS _ HE.out).mono ?_
    rintro e w4 ⟨rfl, hb4⟩
    have HE4 : Hid (OwnsW w w1.heap.size (w1.heap.size + 1) (.slice a0 n0 c0) (.slice a1 n1 c1) (.slice a2 n2 c2) (.slice pn ([] : List Int).length cn) own xs ys [] w4) := HE.out.on hb4
    clear HE hb4 k4 k5 CS
    go_wp2_with fail
    by_cases hok : ownOk own = true
    · rw [hok] at CO
      have hfl : flowsTo xs ys = false := by
        cases h : flowsTo xs ys with
        | false => rfl
        | true => rw [owns_more hok h] at hf; cases hf
      rw [hfl] at CW
      refine (CO _ HE4.out).mono ?_
      rintro e w5 ⟨rfl, hb4⟩
      have HE5 : Hid (OwnsW w w1.heap.size (w1.heap.size + 1) (.slice a0 n0 c0) (.slice a1 n1 c1) (.slice a2 n2 c2) (.slice pn ([] : List Int).length cn) own xs ys [] w5) := HE4.out.on hb4
      clear HE4 hb4 CO
      have k4 := HE5.out.A.cell
      have k5 := HE5.out.B.cell
      go_wp2_with fail
      refine (CW _ HE5.out).mono ?_
      rintro e w6 ⟨rfl, hb4⟩
      have HE6 : Hid (OwnsW w w1.heap.size (w1.heap.size + 1) (.slice a0 n0 c0) (.slice a1 n1 c1) (.slice a2 n2 c2) (.slice pn ([] : List Int).length cn) own xs ys [] w6) := HE5.out.on hb4
      clear HE5 hb4 CW k4 k5
      go_wp2
      go_ret
      exact ⟨rfl, HE6.out.below⟩
    · have hok' : ownOk own = false := by simpa using hok
      rw [hok'] at CO
      refine (CO _ HE4.out).mono ?_
      rintro e w5 ⟨rfl, hb4⟩
      have HE5 : Hid (OwnsW w w1.heap.size (w1.heap.size + 1) (.slice a0 n0 c0) (.slice a1 n1 c1) (.slice a2 n2 c2) (.slice pn ([] : List Int).length cn) own xs ys [] w5) := HE4.out.on hb4
      clear HE4 hb4 CO
      go_wp2
      go_ret
      exact ⟨rfl, HE5.out.below⟩
  | true =>
    obtain ⟨fab, hfl⟩ : ∃ b, flowsTo xs ys = b := ⟨_, rfl⟩
    have hok := (flowsFor_parts hf).1
    have LW := owns_law hf
    rw [hns, hfl] at LW
    have HLW : Hid (_ ∧ _) := LW
    have HN4 : Hid (ns.length ≤ 4) := LW.2.2.2
    clear LW
    dsimp only
    repeat (first | (with_reducible refine halt_region (id := 6) ?_) | go_values | go_skip | go_guarded | go_step | go_upon | go_back)
    unfold Halt0
    refine wp_region_lex (by kernel_rfl) (by kernel_rfl) (OwnsW w w1.heap.size (w1.heap.size + 1) (.slice a0 n0 c0) (.slice a1 n1 c1) (.slice a2 n2 c2) (.slice pn ns.length cn) own xs ys ns) (gPr [.val (true) (.bool true), .val (true) (.slice a0 n0 c0), .val (true) (.agg #[.slice a1 n1 c1]), .val (true) (.agg #[.slice a2 n2 c2]), .val (true) (.bool true), .val (true) (.bool false), .val (true) (.bool false), .val (true) (.slice a0 n0 c0), .val (true) (.bool true), .val (true) (.bool true), .val (true) (.agg #[.slice a1 n1 c1]), .val (true) (.agg #[.slice a2 n2 c2]), .val (true) (.bool fab), .val (true) (.bool fab), .val (true) (.bool fab), .val (fab) (.bool true), .val (fab) (.bool false), .val (true) (.bool false), .val (true) (.bool false)]) HE.out ?_ ?_
    · refine ⟨?_, ?_, ?_, ?_, ?_, ?_, ?_, ?_, ?_, ?_, ?_, ?_, ?_, ?_, ?_, ?_, ?_, ?_, ?_, trivial⟩
      · intro b us w0 hslot hoth hB hdeps K hK
        refine guard_none (by rfl) ?_
        have s6 : b.tmps.getD 6 undef = .bool true := hoth 6 (by rfl)
        clear hdeps hslot hoth
        go_simp
        exact hK _ _ hB (fun _ _ h => h) rfl
      · intro b us w0 hslot hoth hB hdeps K hK
        refine guard_none (by rfl) ?_
        have s3 : b.tmps.getD 3 undef = .slice a0 n0 c0 := hoth 3 (by rfl)
        clear hdeps hslot hoth
        go_simp
        exact hK _ _ hB (fun _ _ h => h) rfl
      · intro b us w0 hslot hoth hB hdeps K hK
        refine guard_none (by rfl) ?_
        have s4 : b.tmps.getD 4 undef = .pointer (some ⟨w1.heap.size, 0, none⟩) := hoth 4 (by rfl)
        have k4 := hB.A.cell
        clear hdeps hslot hoth
        go_simp
        exact hK _ _ hB (fun _ _ h => h) rfl
      · intro b us w0 hslot hoth hB hdeps K hK
        refine guard_none (by rfl) ?_
        have s5 : b.tmps.getD 5 undef = .pointer (some ⟨w1.heap.size + 1, 0, none⟩) := hoth 5 (by rfl)
        have k5 := hB.B.cell
        clear hdeps hslot hoth
        go_simp
        exact hK _ _ hB (fun _ _ h => h) rfl
      · intro b us w0 hslot hoth hB hdeps K hK
        refine guard_none (by rfl) ?_
        have s27 : b.tmps.getD 27 undef = .slice a0 n0 c0 := (hslot 1 27 (by rfl)).trans (hdeps 1 (by decide))
        have s28 : b.tmps.getD 28 undef = .agg #[.slice a1 n1 c1] := (hslot 2 28 (by rfl)).trans (hdeps 2 (by decide))
        have s29 : b.tmps.getD 29 undef = .agg #[.slice a2 n2 c2] := (hslot 3 29 (by rfl)).trans (hdeps 3 (by decide))
        clear hdeps hslot hoth
        go_simp
        refine (specFlowsFor_any _ _ _ own xs ys _ hB.o hB.A.ints hB.B.ints (by have := HL.out; omega) (by have := HL.out; omega) (by have := HL.out; omega)).mono ?_
        rintro e wy ⟨rfl, hb⟩
        exact hK _ _ (hB.on hb) (gPr_on hb) (by show Value.bool (flowsFor own xs ys) = Value.bool true; rw [hf])
      · intro b us w0 hslot hoth hB hdeps K hK
        refine guard_none (by rfl) ?_
        have s26 : b.tmps.getD 26 undef = .bool true := (hslot 0 26 (by rfl)).trans (hdeps 0 (by decide))
        have s30 : b.tmps.getD 30 undef = .bool true := (hslot 4 30 (by rfl)).trans (hdeps 4 (by decide))
        clear hdeps hslot hoth
        go_simp
        exact hK _ _ hB (fun _ _ h => h) rfl
      · intro b us w0 hslot hoth hB hdeps K hK
        refine guard_none (by rfl) ?_
        have s31 : b.tmps.getD 31 undef = .bool false := (hslot 5 31 (by rfl)).trans (hdeps 5 (by decide))
        clear hdeps hslot hoth
        go_simp
        exact hK _ _ hB (fun _ _ h => h) rfl
      · intro b us w0 hslot hoth hB hdeps K hK
        have gg : us 6 = .bool false := hdeps 6 (by decide)
        refine guard_on (j := 6) (want := false) (d := 32) (by rfl) (by rfl) gg ?_
        have s3 : b.tmps.getD 3 undef = .slice a0 n0 c0 := hoth 3 (by rfl)
        clear hdeps hslot hoth
        go_simp
        exact hK _ _ hB (fun _ _ h => h) rfl
      · intro b us w0 hslot hoth hB hdeps K hK
        have gg : us 6 = .bool false := hdeps 6 (by decide)
        refine guard_on (j := 6) (want := false) (d := 32) (by rfl) (by rfl) gg ?_
        have s33 : b.tmps.getD 33 undef = .slice a0 n0 c0 := (hslot 7 33 (by rfl)).trans (hdeps 7 (by decide))
        clear hdeps hslot hoth
        go_simp
        refine (implOwnOk_any _ own _ hB.o (by have := HL.out; omega)).mono ?_
        rintro e wy ⟨rfl, hb⟩
        exact hK _ _ (hB.on hb) (gPr_on hb) (by show Value.bool (ownOk own) = Value.bool true; rw [hok])
      · intro b us w0 hslot hoth hB hdeps K hK
        have gg : us 6 = .bool false := hdeps 6 (by decide)
        refine guard_on (j := 6) (want := false) (d := 32) (by rfl) (by rfl) gg ?_
        have s34 : b.tmps.getD 34 undef = .bool true := (hslot 8 34 (by rfl)).trans (hdeps 8 (by decide))
        clear hdeps hslot hoth
        go_simp
        exact hK _ _ hB (fun _ _ h => h) rfl
      · intro b us w0 hslot hoth hB hdeps K hK
        have gg : us 9 = .bool true := hdeps 9 (by decide)
        refine guard_on (j := 9) (want := true) (d := 35) (by rfl) (by rfl) gg ?_
        have s4 : b.tmps.getD 4 undef = .pointer (some ⟨w1.heap.size, 0, none⟩) := hoth 4 (by rfl)
        have k4 := hB.A.cell
        clear hdeps hslot hoth
        go_simp
        exact hK _ _ hB (fun _ _ h => h) rfl
      · intro b us w0 hslot hoth hB hdeps K hK
        have gg : us 9 = .bool true := hdeps 9 (by decide)
        refine guard_on (j := 9) (want := true) (d := 35) (by rfl) (by rfl) gg ?_
        have s5 : b.tmps.getD 5 undef = .pointer (some ⟨w1.heap.size + 1, 0, none⟩) := hoth 5 (by rfl)
        have k5 := hB.B.cell
        clear hdeps hslot hoth
        go_simp
        exact hK _ _ hB (fun _ _ h => h) rfl
      · intro b us w0 hslot hoth hB hdeps K hK
        have gg : us 9 = .bool true := hdeps 9 (by decide)
        refine guard_on (j := 9) (want := true) (d := 35) (by rfl) (by rfl) gg ?_
        have s36 : b.tmps.getD 36 undef = .agg #[.slice a1 n1 c1] := (hslot 10 36 (by rfl)).trans (hdeps 10 (by decide))
        have s37 : b.tmps.getD 37 undef = .agg #[.slice a2 n2 c2] := (hslot 11 37 (by rfl)).trans (hdeps 11 (by decide))
        clear hdeps hslot hoth
        go_simp
        refine (implFlows_any _ _ xs ys _ hB.A.ints hB.B.ints).mono ?_
        rintro e wy ⟨rfl, hb⟩
        exact hK _ _ (hB.on hb) (gPr_on hb) (by show Value.bool (flowsTo xs ys) = Value.bool fab; rw [hfl])
      · intro b us w0 hslot hoth hB hdeps K hK
        cases fab with
        | false =>
          have gg : us 6 = .bool false := hdeps 6 (by decide)
          refine guard_on (j := 6) (want := false) (d := 32) (by rfl) (by rfl) gg ?_
          have s35 : b.tmps.getD 35 undef = .bool true := (hslot 9 35 (by rfl)).trans (hdeps 9 (by decide))
          have s38 : b.tmps.getD 38 undef = .bool false := (hslot 12 38 (by rfl)).trans (hdeps 12 (by decide))
          clear hdeps hslot hoth
          go_simp
          exact hK _ _ hB (fun _ _ h => h) rfl
        | true =>
          have gg : us 6 = .bool false := hdeps 6 (by decide)
          refine guard_on (j := 6) (want := false) (d := 32) (by rfl) (by rfl) gg ?_
          have s35 : b.tmps.getD 35 undef = .bool true := (hslot 9 35 (by rfl)).trans (hdeps 9 (by decide))
          have s38 : b.tmps.getD 38 undef = .bool true := (hslot 12 38 (by rfl)).trans (hdeps 12 (by decide))
          clear hdeps hslot hoth
          go_simp
          exact hK _ _ hB (fun _ _ h => h) rfl
      · intro b us w0 hslot hoth hB hdeps K hK
        have gg : us 6 = .bool false := hdeps 6 (by decide)
        refine guard_on (j := 6) (want := false) (d := 32) (by rfl) (by rfl) gg ?_
        have s39 : b.tmps.getD 39 undef = .bool fab := (hslot 13 39 (by rfl)).trans (hdeps 13 (by decide))
        clear hdeps hslot hoth
        go_simp
        exact hK _ _ hB (fun _ _ h => h) rfl
      · intro b us w0 hslot hoth hB hdeps K hK
        cases fab with
        | false =>
          have gg : us 14 = .bool false := hdeps 14 (by decide)
          refine guard_off (j := 14) (want := true) (d := 40) (by rfl) (by rfl) gg (by rfl) ?_
          exact hK _ _ hB (fun _ _ h => h) rfl
        | true =>
          have gg : us 14 = .bool true := hdeps 14 (by decide)
          refine guard_on (j := 14) (want := true) (d := 40) (by rfl) (by rfl) gg ?_
          have s6 : b.tmps.getD 6 undef = .bool true := hoth 6 (by rfl)
          clear hdeps hslot hoth
          go_simp
          exact hK _ _ hB (fun _ _ h => h) rfl
      · intro b us w0 hslot hoth hB hdeps K hK
        cases fab with
        | false =>
          have gg : us 14 = .bool false := hdeps 14 (by decide)
          refine guard_off (j := 14) (want := true) (d := 40) (by rfl) (by rfl) gg (by rfl) ?_
          exact hK _ _ hB (fun _ _ h => h) rfl
        | true =>
          have gg : us 14 = .bool true := hdeps 14 (by decide)
          refine guard_on (j := 14) (want := true) (d := 40) (by rfl) (by rfl) gg ?_
          have s41 : b.tmps.getD 41 undef = .bool true := (hslot 15 41 (by rfl)).trans (hdeps 15 (by decide))
          clear hdeps hslot hoth
          go_simp
          exact hK _ _ hB (fun _ _ h => h) rfl
      · intro b us w0 hslot hoth hB hdeps K hK
        cases fab with
        | false =>
          have gg : us 6 = .bool false := hdeps 6 (by decide)
          refine guard_on (j := 6) (want := false) (d := 32) (by rfl) (by rfl) gg ?_
          have s40 : b.tmps.getD 40 undef = .bool false := (hslot 14 40 (by rfl)).trans (hdeps 14 (by decide))
          have s42 : b.tmps.getD 42 undef = undef := (hslot 16 42 (by rfl)).trans (hdeps 16 (by decide))
          clear hdeps hslot hoth
          go_simp
          exact hK _ _ hB (fun _ _ h => h) rfl
        | true =>
          have gg : us 6 = .bool false := hdeps 6 (by decide)
          refine guard_on (j := 6) (want := false) (d := 32) (by rfl) (by rfl) gg ?_
          have s40 : b.tmps.getD 40 undef = .bool true := (hslot 14 40 (by rfl)).trans (hdeps 14 (by decide))
          have s42 : b.tmps.getD 42 undef = .bool false := (hslot 16 42 (by rfl)).trans (hdeps 16 (by decide))
          clear hdeps hslot hoth
          go_simp
          exact hK _ _ hB (fun _ _ h => h) rfl
      · intro b us w0 hslot hoth hB hdeps K hK
        refine guard_none (by rfl) ?_
        have s32 : b.tmps.getD 32 undef = .bool false := (hslot 6 32 (by rfl)).trans (hdeps 6 (by decide))
        have s43 : b.tmps.getD 43 undef = .bool false := (hslot 17 43 (by rfl)).trans (hdeps 17 (by decide))
        clear hdeps hslot hoth
        go_simp
        exact hK _ _ hB (fun _ _ h => h) rfl
    · intro us w4 hB hG' a' ha'
      have g : us 18 = .bool false := hG' 18 (by decide)
      clear hG'
      have HE4 : Hid (OwnsW w w1.heap.size (w1.heap.size + 1) (.slice a0 n0 c0) (.slice a1 n1 c1) (.slice a2 n2 c2) (.slice pn ns.length cn) own xs ys ns w4) := hB
      clear hB HE
      simp only [putAll, g] at ha'
      simp only [Nat.reduceAdd] at ha'
      subst ha'
      go_frame
      go_wp2
      go_loopw [8] (fun i wr => ∃ k : Nat, k ≤ ns.length ∧ i = .int .i64 k ∧ Hid (OwnsW w w1.heap.size (w1.heap.size + 1) (.slice a0 n0 c0) (.slice a1 n1 c1) (.slice a2 n2 c2) (.slice pn ns.length cn) own xs ys ns wr)) (fun i _ => ns.length - (intOf i).toNat)
      case atStart => exact ⟨0, Nat.zero_le _, rfl, HE4⟩
      case round =>
        obtain ⟨k, hk, rfl, HR⟩ := hrel
        clear HE4
        by_cases hlt : k < ns.length
        · obtain ⟨gn, hpn, hcn⟩ : ∃ g, pn = some ⟨g, 0, none⟩ ∧ ns.length ≤ cn := by
            rcases HR.out.n.2 with ⟨h0, h1⟩ | ⟨g, cap, cur, hv, _, _, hc, _⟩
            · omega
            · simp at hv
              exact ⟨g, hv.1, by omega⟩
          subst hpn
          have HC : Hid (∀ i, i < ns.length → wr.cell? ⟨gn, i, none⟩ = some (.int .i64 (ns.getD i 0))) := fun i hi => by
            have := HR.out.n.cells rfl i (.int .i64 (ns.getD i 0)) (by simp [icells, List.getD, hi])
            rw [add_head] at this
            simpa using this
          have hi1 : (k : Int) ≤ (ns.length : Int) := by omega
          have hi2 : (k : Int) + 1 ≤ (ns.length : Int) := by omega
          have hi3 : (ns.length : Int) ≤ (cn : Int) := by omega
          have hkc : k ≤ cn := by omega
          have hk0 : (0 : Int) ≤ (k : Int) + 1 := by omega
          have hi5 : (k : Int) < (ns.length : Int) := by omega
          have hi4 : IntKind.i64.wrap ((k : Int) + 1) = (k : Int) + 1 := by have := HN4.out; rw [IntKind.wrap_i64]; omega
          go_wp2_with fail
          refine wp_region_phase (by kernel_rfl) (by kernel_rfl) (by kernel_rfl) (by kernel_rfl) (Below wr.heap.size wr) (gLess wr (.slice (some ⟨gn, 0, none⟩) ns.length cn) k ns) (below_draw wr) ?_ ?_
          · refine ⟨?_, ?_, ?_, ?_, ?_, ?_, ?_, ?_, ?_, ?_, ?_, trivial⟩
            · intro b us w0 M hslot hoth hB hLi hG hcl hdo K hK
              clear hslot hoth hdo hcl hLi
              refine guard_none (by rfl) ?_
              go_simp
              refine hK _ _ (hB.alloc hB.size _) (fun _ => ownI_at w0 hB.size) (fun j _ hj => gLess_same (below_alloc _ _) _ _ (hG j hj))
            · intro b us w0 M hslot hoth hB hLi hG hcl hdo K hK
              have s7 : b.tmps.getD 7 undef = .slice (some ⟨gn, 0, none⟩) ns.length cn := hoth 7 (by rfl)
              clear hslot hoth hdo hcl hLi
              refine guard_none (by rfl) ?_
              go_simp
              exact hK _ _ hB rfl (fun j _ hj => gLess_same (Below.refl _ _) _ _ (hG j hj))
            · intro b us w0 M hslot hoth hB hLi hG hcl hdo K hK
              have s8 : b.tmps.getD 8 undef = .int .i64 k := hoth 8 (by rfl)
              clear hslot hoth hdo hcl hLi
              refine guard_none (by rfl) ?_
              go_simp
              exact hK _ _ hB rfl (fun j _ hj => gLess_same (Below.refl _ _) _ _ (hG j hj))
            · intro b us w0 M hslot hoth hB hLi hG hcl hdo K hK
              have s57 : b.tmps.getD 57 undef = .slice (some ⟨gn, 0, none⟩) ns.length cn := (hslot 1 57 (by rfl)).trans (hG 1 (done_at hdo 1 (by rfl)))
              have s58 : b.tmps.getD 58 undef = .int .i64 k := (hslot 2 58 (by rfl)).trans (hG 2 (done_at hdo 2 (by rfl)))
              clear hslot hoth hdo hcl hLi
              refine guard_none (by rfl) ?_
              go_simp
              exact hK _ _ hB (part_take HC.out hlt) (fun j _ hj => gLess_same (Below.refl _ _) _ _ (hG j hj))
            · intro b us w0 M hslot hoth hB hLi hG hcl hdo K hK
              have h9 : M 9 = false := by
                cases h : M 9 with
                | false => rfl
                | true => rw [done_at (hcl 9 _ rfl h) 4 (by rfl)] at hLi; cases hLi
              have s56 : b.tmps.getD 56 undef = us 0 := hslot 0 56 (by rfl)
              have s59 : b.tmps.getD 59 undef = us 3 := hslot 3 59 (by rfl)
              have g0 := hG 0 (done_at hdo 0 (by rfl)) hLi
              obtain ⟨p, c, hp, hcell⟩ := hG 3 (done_at hdo 3 (by rfl))
              refine guard_none (by rfl) ?_
              refine wp_app_at (.tmp 56) (.tmp 59) rfl wr.heap.size (us 0) [] (ns.take k) s56 g0 p k c (by rw [List.length_take]; omega) (s59.trans hp) (fun j u hj => part_on hB (hcell j u hj)) (by have := HN4.out; simp; omega) hB.size ?_
              intro v' w' hv' hb'
              refine hK v' w' (hB.trans hb') (fun _ => hv') ?_
              intro j hj hMj
              have := hG j hMj
              match j, hj, hMj, this with
              | 0, _, _, _ => exact fun h4 => by simp [markd] at h4
              | 1, _, _, h => exact h
              | 2, _, _, h => exact h
              | 3, _, _, h => exact h
              | 5, _, _, h => exact h
              | 6, _, _, h => exact h
              | 7, _, _, h => exact h
              | 8, _, _, h => exact h
              | 9, _, h, _ => rw [h9] at h; cases h
              | 10, _, h, _ => rw [done_at (hcl 10 _ rfl h) 9 (by rfl)] at h9; cases h9
              | _ + 11, _, _, _ => trivial
            · intro b us w0 M hslot hoth hB hLi hG hcl hdo K hK
              have s7 : b.tmps.getD 7 undef = .slice (some ⟨gn, 0, none⟩) ns.length cn := hoth 7 (by rfl)
              clear hslot hoth hdo hcl hLi
              refine guard_none (by rfl) ?_
              go_simp
              exact hK _ _ hB rfl (fun j _ hj => gLess_same (Below.refl _ _) _ _ (hG j hj))
            · intro b us w0 M hslot hoth hB hLi hG hcl hdo K hK
              have s8 : b.tmps.getD 8 undef = .int .i64 k := hoth 8 (by rfl)
              clear hslot hoth hdo hcl hLi
              refine guard_none (by rfl) ?_
              go_simp
              exact hK _ _ hB rfl (fun j _ hj => gLess_same (Below.refl _ _) _ _ (hG j hj))
            · intro b us w0 M hslot hoth hB hLi hG hcl hdo K hK
              have s62 : b.tmps.getD 62 undef = .int .i64 k := (hslot 6 62 (by rfl)).trans (hG 6 (done_at hdo 6 (by rfl)))
              clear hslot hoth hdo hcl hLi
              refine guard_none (by rfl) ?_
              go_simp
              exact hK _ _ hB rfl (fun j _ hj => gLess_same (Below.refl _ _) _ _ (hG j hj))
            · intro b us w0 M hslot hoth hB hLi hG hcl hdo K hK
              have s61 : b.tmps.getD 61 undef = .slice (some ⟨gn, 0, none⟩) ns.length cn := (hslot 5 61 (by rfl)).trans (hG 5 (done_at hdo 5 (by rfl)))
              have s63 : b.tmps.getD 63 undef = .int .i64 ((k : Int) + 1) := (hslot 7 63 (by rfl)).trans (hG 7 (done_at hdo 7 (by rfl)))
              clear hslot hoth hdo hcl hLi
              refine guard_none (by rfl) ?_
              go_simp
              exact hK _ _ hB (part_drop HC.out hlt hcn) (fun j _ hj => gLess_same (Below.refl _ _) _ _ (hG j hj))
            · intro b us w0 M hslot hoth hB hLi hG hcl hdo K hK
              have s60 : b.tmps.getD 60 undef = us 4 := hslot 4 60 (by rfl)
              have s64 : b.tmps.getD 64 undef = us 8 := hslot 8 64 (by rfl)
              have g4 := hG 4 (done_at hdo 4 (by rfl)) hLi
              have h4 : M 4 = true := done_at hdo 4 (by rfl)
              obtain ⟨p, c, hp, hcell⟩ := hG 8 (done_at hdo 8 (by rfl))
              refine guard_none (by rfl) ?_
              refine wp_app_at (.tmp 60) (.tmp 64) rfl wr.heap.size (us 4) ([] ++ ns.take k) (ns.drop (k + 1)) s60 g4 p (ns.length - (k + 1)) c (by rw [List.length_drop]) (s64.trans hp) (fun j u hj => part_on hB (hcell j u hj)) (by have := HN4.out; simp; omega) hB.size ?_
              intro v' w' hv' hb'
              refine hK v' w' (hB.trans hb') hv' ?_
              intro j hj hMj
              have := hG j hMj
              match j, hj, hMj, this with
              | 0, _, _, _ => exact fun h => by simp [markd, h4] at h
              | 1, _, _, h => exact h
              | 2, _, _, h => exact h
              | 3, _, _, h => exact h
              | 4, _, _, _ => exact fun h => by simp [markd] at h
              | 5, _, _, h => exact h
              | 6, _, _, h => exact h
              | 7, _, _, h => exact h
              | 8, _, _, h => exact h
              | 10, _, h, _ => rw [done_at (hcl 10 _ rfl h) 9 (by rfl)] at hLi; cases hLi
              | _ + 11, _, _, _ => trivial
            · intro b us w0 M hslot hoth hB hLi hG hcl hdo K hK
              have s65 : b.tmps.getD 65 undef = us 9 := hslot 9 65 (by rfl)
              have g9 := hG 9 (done_at hdo 9 (by rfl))
              clear hslot hoth hdo hcl hLi
              refine guard_none (by rfl) ?_
              go_simp
              exact hK _ _ hB g9 (fun j _ hj => gLess_same (Below.refl _ _) _ _ (hG j hj))
          · intro us9 w9 M hM hB hG a' ha'
            have g10 : w9.ownsRow wr.heap.size 3 1 (us9 10) ([] ++ ns.take k ++ ns.drop (k + 1)).length (icells ([] ++ ns.take k ++ ns.drop (k + 1))) := hG 10 (by decide)
            have HI : Hid (IsInts w9 (us9 10) ([] ++ ns.take k ++ ns.drop (k + 1))) := isInts_own g10
            obtain ⟨al, nl, cl, hl⟩ := own_shape g10
            rw [hl] at HI
            clear hG hM g10
            have HR9 : Hid (OwnsW w w1.heap.size (w1.heap.size + 1) (.slice a0 n0 c0) (.slice a1 n1 c1) (.slice a2 n2 c2) (.slice (some ⟨gn, 0, none⟩) ns.length cn) own xs ys ns w9) := HR.out.on hB
            obtain ⟨y, hy⟩ : ∃ y, ns.getD k 0 = y := ⟨_, rfl⟩
            have ce : w9.cell? ⟨gn, k, none⟩ = some (.int .i64 y) := by rw [← hy]; exact part_on hB (HC.out k hlt)
            have CH := lawHas_any (.slice a0 n0 c0) own y w9 HR9.out.o (by have := HL.out; omega)
            rw [show own.contains y = true by rw [← hy]; exact (HLW.out.1 k hlt).1] at CH
            have CL := fun w' (h : OwnsW w w1.heap.size (w1.heap.size + 1) (.slice a0 n0 c0) (.slice a1 n1 c1) (.slice a2 n2 c2) (.slice (some ⟨gn, 0, none⟩) ns.length cn) own xs ys ns w') (h2 : IsInts w' (.slice al nl cl) ([] ++ ns.take k ++ ns.drop (k + 1))) => implFlowsFor_any _ _ _ ([] ++ ns.take k ++ ns.drop (k + 1)) xs ys w' h2 h.A.ints h.B.ints (by have := HN4.out; simp; omega)
            rw [show flowsFor ([] ++ ns.take k ++ ns.drop (k + 1)) xs ys = false by rw [List.nil_append]; exact (HLW.out.1 k hlt).2] at CL
            clear HR HC hB
            simp only [putAll, hl] at ha'
            clear hl hy
            subst ha'
            go_frame
            go_wp2_with fail
            refine CH.mono ?_
            rintro e w10 ⟨rfl, rfl⟩
            clear CH ce
            have k4 := HR9.out.A.cell
            have k5 := HR9.out.B.cell
            go_wp2_with fail
            refine (CL _ HR9.out HI.out).mono ?_
            rintro e w11 ⟨rfl, hb11⟩
            have HR11 : Hid (OwnsW w w1.heap.size (w1.heap.size + 1) (.slice a0 n0 c0) (.slice a1 n1 c1) (.slice a2 n2 c2) (.slice (some ⟨gn, 0, none⟩) ns.length cn) own xs ys ns w11) := HR9.out.on hb11
            clear CL HR9 HI hb11 k4 k5
            go_wp2
            exact ⟨⟨k + 1, by omega, by go_num, HR11⟩, by simp [intOf]; omega⟩
        · obtain rfl : k = ns.length := by omega
          have CF := implFlowsFor_any _ _ _ ns xs ys _ (isInts_own HR.out.n) HR.out.A.ints HR.out.B.ints (by have := HN4.out; omega)
          rw [HLW.out.2.1] at CF
          have k4 := HR.out.A.cell
          have k5 := HR.out.B.cell
          go_wp2_with fail
          refine CF.mono ?_
          rintro e w5 ⟨rfl, hb5⟩
          have HR5 : Hid (OwnsW w w1.heap.size (w1.heap.size + 1) (.slice a0 n0 c0) (.slice a1 n1 c1) (.slice a2 n2 c2) (.slice pn ns.length cn) own xs ys ns w5) := HR.out.on hb5
          clear CF k4 k5 HR hb5
          have CW := implFlows_any _ _ xs ys w5 HR5.out.A.ints HR5.out.B.ints
          rw [hfl] at CW
          have k4 := HR5.out.A.cell
          have k5 := HR5.out.B.cell
          have hz : (((ns.length : Nat) : Int) == 0) = fab := by
            rw [← HLW.out.2.2.1]
            rw [Bool.eq_iff_iff]
            simp
          have hzz : (fab == fab) = true := by cases fab <;> rfl
          go_wp2_with fail
          refine CW.mono ?_
          rintro e w6 ⟨rfl, hb6⟩
          have HE6 : Hid (Below w.heap.size w w6) := (HR5.out.on hb6).below
          clear CW k4 k5 HR5 hb6
          go_wp2
          go_ret
          exact ⟨rfl, HE6.out⟩
end Go.Proofs.Ytbahokkofidmeaa
