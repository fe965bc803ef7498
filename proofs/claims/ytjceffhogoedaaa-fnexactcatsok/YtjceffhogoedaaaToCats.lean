/-
  The laws' own copies of tables of categories.
-/
import Derived.Test.YtjceffhogoedaaaCats
namespace Go.Proofs.Ytjceffhogoedaaa
open Go.RowKit
set_option linter.unusedVariables false

theorem add_next (p : Addr) (i : Nat) : p.add (i + 1) = ⟨(p.add i).block, (p.add i).off + 1, none⟩ := by
  unfold Addr.add
  by_cases h : i = 0
  · simp [h]
  · simp [h]; omega
theorem IsCats.at {w : World} {a : Option Addr} {n cap : Nat} {cs : List (Int × Bool)} (h : IsCats w (.slice a n cap) cs) {i : Nat} (hi : i < cs.length) : ∃ p q, a = some p ∧ p.add (i * 2) = q ∧ w.cell? q = some (.int .i64 (catAt cs i).1) ∧ w.cell? ⟨q.block, q.off + 1, none⟩ = some (.bool (catAt cs i).2) := by
  obtain ⟨a', cap', hv, _, hx⟩ := h
  cases hv
  obtain ⟨p, hp, h1, h2⟩ := hx i hi
  exact ⟨p, _, hp, rfl, h1, by rw [← add_next]; exact h2⟩

/-- The cells of a table. -/
def ccells (cs : List (Int × Bool)) : List Value := cs.flatMap fun c => [.int .i64 c.1, .bool c.2]
theorem ccells_length (cs : List (Int × Bool)) : (ccells cs).length = cs.length * 2 := by
  induction cs with
  | nil => rfl
  | cons c cs ih => simp [ccells] at ih ⊢; omega
theorem ccells_cons (c : Int × Bool) (cs : List (Int × Bool)) : ccells (c :: cs) = .int .i64 c.1 :: .bool c.2 :: ccells cs := rfl
theorem ccells_append (a b : List (Int × Bool)) : ccells (a ++ b) = ccells a ++ ccells b := by simp [ccells]
theorem ccells_at (cs : List (Int × Bool)) : ∀ i, i < cs.length → (ccells cs)[i * 2]? = some (.int .i64 (catAt cs i).1) ∧ (ccells cs)[i * 2 + 1]? = some (.bool (catAt cs i).2) := by
  induction cs with
  | nil => intro i hi; simp at hi
  | cons c cs ih =>
    intro i hi
    cases i with
    | zero => simp [ccells_cons, catAt]
    | succ i =>
      have := ih i (by simpa using hi)
      rw [ccells_cons, show (i + 1) * 2 = i * 2 + 1 + 1 by omega]
      simpa [catAt] using this
theorem ccells_set (cs : List (Int × Bool)) : ∀ (i : Nat) (x : Int) (b : Bool), i < cs.length → ((ccells cs).set (i * 2) (.int .i64 x)).set (i * 2 + 1) (.bool b) = ccells (cs.set i (x, b)) := by
  induction cs with
  | nil => intro i x b hi; simp at hi
  | cons c cs ih =>
    intro i x b hi
    cases i with
    | zero => simp [ccells_cons]
    | succ i =>
      have := ih i x b (by simpa using hi)
      rw [ccells_cons, show (i + 1) * 2 = i * 2 + 1 + 1 by omega]
      simp only [List.set_cons_succ, ccells_cons]
      rw [this]
/-- A table at a block's head. -/
def CatsAt (w : World) (g : Nat) (cs : List (Int × Bool)) : Prop := w.heap[g]? = some (.cells (ccells cs).toArray 43 (0, 0))
theorem CatsAt.cell {w : World} {g : Nat} {cs : List (Int × Bool)} (h : CatsAt w g cs) (i : Nat) (hi : i < cs.length) : w.cell? ⟨g, i * 2, none⟩ = some (.int .i64 (catAt cs i).1) ∧ w.cell? ⟨g, i * 2 + 1, none⟩ = some (.bool (catAt cs i).2) := by
  unfold CatsAt at h
  have := ccells_at cs i hi
  simp only [World.cell?, h]
  simpa using this
theorem CatsAt.free {w : World} {g : Nat} {cs : List (Int × Bool)} (h : CatsAt w g cs) (i : Nat) : w.frozen? ⟨g, i, none⟩ = false := by
  unfold CatsAt at h
  simp [World.frozen?, h]
theorem CatsAt.cats {w : World} {g : Nat} {cs : List (Int × Bool)} (h : CatsAt w g cs) : IsCats w (.slice (some ⟨g, 0, none⟩) cs.length cs.length) cs :=
  ⟨_, _, rfl, Nat.le_refl _, fun i hi => ⟨_, rfl, by rw [add_head]; exact (h.cell i hi).1, by rw [add_head]; exact (h.cell i hi).2⟩⟩
theorem CatsAt.set {w : World} {g : Nat} {cs : List (Int × Bool)} (h : CatsAt w g cs) (i : Nat) (hi : i < cs.length) (x : Int) (b : Bool) : CatsAt ((w.setCell ⟨g, i * 2, none⟩ (.int .i64 x)).setCell ⟨g, i * 2 + 1, none⟩ (.bool b)) g (cs.set i (x, b)) := by
  have h1 := heap_setCell_same w g (i * 2) _ 43 (.int .i64 x) h
  have h2 := heap_setCell_same _ g (i * 2 + 1) _ 43 (.bool b) h1
  unfold CatsAt
  rw [h2, ← ccells_set cs i x b hi]
  simp
theorem CatsAt.on {w w' : World} {g : Nat} {cs : List (Int × Bool)} (h : CatsAt w g cs) (hb : Below w.heap.size w w') : CatsAt w' g cs := keep h hb
theorem info36 : (Try.prog.info? 43).map (fun i => (i.zero, i.size, i.bytes)) = some (some (.agg #[.int .i64 0, .bool false]), 2, 16) := by kernel_rfl

set_option maxHeartbeats 400000 in
theorem toCat_any (x : Int) (b : Bool) (w : World) :
    Calls Try.prog 31 #[.agg #[.int .i64 x, .bool b]] w fun e w' => e = .returned (.agg #[.int .i64 x, .bool b]) ∧ Below w.heap.size w w' := by
  have HB : Hid (Below w.heap.size w (((w.alloc (.cells #[.int .i64 x, .bool b] 52 (0, 0))).alloc (.cells #[.int .i64 x, .bool b] 43 (0, 0))).alloc (.cells #[.int .i64 x, .bool b] 43 (0, 0)))) := (((Below.refl _ _).alloc (Nat.le_refl _) _).alloc (by simp) _).alloc (by simp; omega) _
  go_enter Try.func31, Try.ntmps31
  go_wp2
  refine bodyPost_ret (v := .agg #[.int .i64 x, .bool b]) ?_ rfl ⟨rfl, HB.out⟩
  have hres : Try.f31.results = #[.cell 2 43] := by kernel_rfl
  simp only [results, hres]
  go_simp

theorem made_cats (n : Nat) : (madeCells #[Value.int .i64 0, .bool false] (n * 2)).toList = ccells (List.replicate n (0, false)) := by
  induction n with
  | zero => simp [madeCells, ccells]
  | succ n ih =>
    have h1 : (madeCells #[Value.int .i64 0, .bool false] ((n + 1) * 2)).toList = (madeCells #[Value.int .i64 0, .bool false] (n * 2)).toList ++ [.int .i64 0, .bool false] := by
      rw [show (n + 1) * 2 = n * 2 + 1 + 1 by omega]
      unfold madeCells
      simp [Array.range_succ, show (n * 2 + 1) % 2 = 1 by omega]
    rw [h1, ih, List.replicate_succ', ccells_append]
    rfl
theorem make_cats (n : Nat) (h : n ≤ 17592186044416) (w : World) :
    (Instr.makeSlice 24 (.int .i64 (n : Int)) (.int .i64 (n : Int))).run Try.prog w = .ok (.slice (some ⟨w.heap.size, 0, none⟩) n n) (w.alloc (.cells (ccells (List.replicate n (0, false))).toArray 43 (0, 0))) := by
  obtain ⟨i, hi, hzz⟩ := Option.map_eq_some_iff.1 info36
  simp only [Prod.mk.injEq] at hzz
  obtain ⟨hz, hs, hb⟩ := hzz
  have hr := run_make (P := Try.prog) w 24 43 i _ Try.underlying24 hi hz .i64 .i64 n n (by omega) (Int.le_refl _) (by rw [hb]; omega) (by omega)
  simp only [Int.toNat_natCast, hs] at hr
  have h2 : madeCells (Value.agg #[.int .i64 0, .bool false]).cells (n * 2) = (ccells (List.replicate n (0, false))).toArray := by
    apply Array.toList_inj.1
    exact made_cats n
  rw [h2] at hr
  exact hr
/-- A table that is filled from its head on. -/
def fillC (cs : List (Int × Bool)) (k : Nat) : List (Int × Bool) := cs.take k ++ List.replicate (cs.length - k) (0, false)
theorem fillC_start (cs : List (Int × Bool)) : fillC cs 0 = List.replicate cs.length (0, false) := by simp [fillC]
theorem fillC_end (cs : List (Int × Bool)) : fillC cs cs.length = cs := by simp [fillC]
theorem fillC_length (cs : List (Int × Bool)) (k : Nat) (h : k ≤ cs.length) : (fillC cs k).length = cs.length := by simp [fillC]; omega
theorem fillC_set (cs : List (Int × Bool)) (k : Nat) (h : k < cs.length) : (fillC cs k).set k (catAt cs k) = fillC cs (k + 1) := by
  unfold fillC
  rw [show cs.length - k = (cs.length - (k + 1)) + 1 by omega, List.replicate_succ, List.set_append_right _ _ (by simp; omega)]
  rw [show k - (cs.take k).length = 0 by simp; omega, List.set_cons_zero]
  rw [show cs.take (k + 1) = cs.take k ++ [catAt cs k] by rw [List.take_add_one, List.getElem?_eq_getElem h]; simp [catAt, h]]
  rw [List.append_assoc]
  rfl

set_option maxHeartbeats 400000 in
theorem toCatS_any (v : Value) (cs : List (Int × Bool)) (w : World) (hx : IsCats w v cs) (hn : cs.length ≤ 1048576) :
    Calls Try.prog 15 #[v] w fun e w' => e = .returned (.slice (some ⟨w.heap.size, 0, none⟩) cs.length cs.length) ∧ CatsAt w' w.heap.size cs ∧ Below w.heap.size w w' := by
  have hx0 := hx
  obtain ⟨a, cap, rfl, hcap, _⟩ := hx
  have hm := make_cats cs.length (by omega) w
  have hs0 : CatsAt (w.alloc (.cells (ccells (List.replicate cs.length (0, false))).toArray 43 (0, 0))) w.heap.size (fillC cs 0) := by rw [fillC_start]; exact heap_alloc_new w _
  have hb0 : Below w.heap.size w (w.alloc (.cells (ccells (List.replicate cs.length (0, false))).toArray 43 (0, 0))) := (Below.refl _ _).alloc (Nat.le_refl _) _
  obtain ⟨W, hW⟩ : ∃ W, W = w.alloc (.cells (ccells (List.replicate cs.length (0, false))).toArray 43 (0, 0)) := ⟨_, rfl⟩
  rw [← hW] at hm hs0 hb0
  have HX : Hid (∀ wr, Below w.heap.size w wr → IsCats wr (.slice a cs.length cap) cs) := fun wr hb => hx0.on hb
  have HS : Hid (CatsAt W w.heap.size (fillC cs 0)) := hs0
  obtain ⟨g, hg⟩ : ∃ g, g = w.heap.size := ⟨_, rfl⟩
  have HG : Hid (g = w.heap.size) := hg
  rw [← hg] at hm HS hb0 HX ⊢
  clear hx0 hs0 hW hg
  go_enter Try.func15, Try.ntmps15
  go_wp2
  go_loopw [4] (fun i wr => ∃ k : Nat, k ≤ cs.length ∧ i = .int .i64 k ∧ Hid (CatsAt wr g (fillC cs k)) ∧ Below g w wr) (fun i _ => cs.length - (intOf i).toNat)
  case atStart => exact ⟨0, Nat.zero_le _, rfl, HS, hb0⟩
  case round =>
    obtain ⟨k, hk, rfl, hrow, hnx⟩ := hrel
    clear HS hb0 hm
    by_cases hlt : k < cs.length
    · obtain ⟨p, q, rfl, hq, hc1, hc2⟩ := (HX.out wr hnx).at hlt
      have H1 : Hid (∀ w', Below wr.heap.size wr w' → CatsAt ((w'.setCell ⟨g, k * 2, none⟩ (.int .i64 (catAt cs k).1)).setCell ⟨g, k * 2 + 1, none⟩ (.bool (catAt cs k).2)) g (fillC cs (k + 1))) := fun w' hb => by
        rw [← fillC_set cs k hlt]
        exact (hrow.out.on hb).set k (by rw [fillC_length _ _ hk]; exact hlt) _ _
      have HC : Hid (∀ w', Below wr.heap.size wr w' → ∃ u1 u2, w'.cell? ⟨g, k * 2, none⟩ = some u1 ∧ w'.cell? ⟨g, k * 2 + 1, none⟩ = some u2 ∧ w'.frozen? ⟨g, k * 2, none⟩ = false ∧ w'.frozen? ⟨g, k * 2 + 1, none⟩ = false) := fun w' hb => by
        have h1 := (hrow.out.on hb).cell k (by rw [fillC_length _ _ hk]; exact hlt)
        exact ⟨_, _, h1.1, h1.2, (hrow.out.on hb).free _, (hrow.out.on hb).free _⟩
      have C := toCat_any (catAt cs k).1 (catAt cs k).2 wr
      generalize (catAt cs k).1 = x at hc1 H1 C
      generalize (catAt cs k).2 = b at hc2 H1 C
      go_wp2_with fail
      refine C.mono ?_
      rintro e w1 ⟨rfl, hb1⟩
      obtain ⟨u1, u2, d1, d2, f1, f2⟩ := HC.out w1 hb1
      have H2 : Hid (CatsAt ((w1.setCell ⟨g, k * 2, none⟩ (.int .i64 x)).setCell ⟨g, k * 2 + 1, none⟩ (.bool b)) g (fillC cs (k + 1))) := H1.out w1 hb1
      have hgs : g ≤ wr.heap.size := by rw [HG.out]; exact hnx.size
      have hnx' : Below g w ((w1.setCell ⟨g, k * 2, none⟩ (.int .i64 x)).setCell ⟨g, k * 2 + 1, none⟩ (.bool b)) := ((hnx.trans (hb1.mono hgs)).setCell (p := ⟨g, k * 2, none⟩) (Nat.le_refl _) _).setCell (p := ⟨g, k * 2 + 1, none⟩) (Nat.le_refl _) _
      clear C HC H1 hb1 hrow hnx hc1 hc2 hq
      go_wp2
      go_roundw
      case rel => exact ⟨k + 1, by omega, by go_num, H2, hnx'⟩
      case measure => simp [intOf]; omega
    · obtain rfl : k = cs.length := by omega
      have hend : Hid (CatsAt wr g cs) := by have := hrow.out; rw [fillC_end] at this; exact this
      go_wp2
      go_ret
      exact ⟨rfl, hend.out, hnx⟩
end Go.Proofs.Ytjceffhogoedaaa
