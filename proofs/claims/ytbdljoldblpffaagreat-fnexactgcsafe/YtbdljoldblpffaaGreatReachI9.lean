/-
  What is reached: the program.
-/
import Derived.Test.YtbdljoldblpffaaGreatVisit9
import Derived.Test.YtbdljoldblpffaaGreatArOkI
namespace Go.Proofs.YtbdljoldblpffaaGreat
open Go.RowKit
set_option linter.unusedVariables false
set_option maxRecDepth 100000

/-- Bools that the call owns are handed back. -/
def BoolsAns (xs : List Bool) (w : World) (e : Ending) (w' : World) : Prop := ∃ a n c, e = .returned (.slice a n c) ∧ n = xs.length ∧ n ≤ c ∧ (n ≠ 0 → ∃ g, a = some ⟨g, 0, none⟩ ∧ w.heap.size ≤ g ∧ BolIn w' g xs) ∧ Below w.heap.size w w'
theorem five_new (w : World) (A B C D E : Obj) : (((((w.alloc A).alloc B).alloc C).alloc D).alloc E).heap[w.heap.size]? = some A ∧ (((((w.alloc A).alloc B).alloc C).alloc D).alloc E).heap[w.heap.size + 1]? = some B ∧ (((((w.alloc A).alloc B).alloc C).alloc D).alloc E).heap[w.heap.size + 1 + 1]? = some C ∧ (((((w.alloc A).alloc B).alloc C).alloc D).alloc E).heap[w.heap.size + 1 + 1 + 1]? = some D ∧ (((((w.alloc A).alloc B).alloc C).alloc D).alloc E).heap[w.heap.size + 1 + 1 + 1 + 1]? = some E ∧ Below w.heap.size w (((((w.alloc A).alloc B).alloc C).alloc D).alloc E) := by
  have a := heap_alloc_new w A
  have b := heap_alloc_new (w.alloc A) B
  have c := heap_alloc_new ((w.alloc A).alloc B) C
  have d := heap_alloc_new (((w.alloc A).alloc B).alloc C) D
  have e := heap_alloc_new ((((w.alloc A).alloc B).alloc C).alloc D) E
  have z1 : (w.alloc A).heap.size = w.heap.size + 1 := by simp
  have z2 : ((w.alloc A).alloc B).heap.size = w.heap.size + 1 + 1 := by simp
  have z3 : (((w.alloc A).alloc B).alloc C).heap.size = w.heap.size + 1 + 1 + 1 := by simp
  have z4 : ((((w.alloc A).alloc B).alloc C).alloc D).heap.size = w.heap.size + 1 + 1 + 1 + 1 := by simp
  rw [z1] at b
  rw [z2] at c
  rw [z3] at d
  rw [z4] at e
  exact ⟨keep (keep (keep (keep a (below_alloc _ _)) (below_alloc _ _)) (below_alloc _ _)) (below_alloc _ _), keep (keep (keep b (below_alloc _ _)) (below_alloc _ _)) (below_alloc _ _), keep (keep c (below_alloc _ _)) (below_alloc _ _), keep d (below_alloc _ _), e, below_more (below_more (below_more (below_more (below_alloc w _) (below_alloc _ _)) (below_alloc _ _)) (below_alloc _ _)) (below_alloc _ _)⟩
set_option maxRecDepth 100000 in
set_option maxHeartbeats 4000000 in
theorem implReachOf_any (p : Addr) (cap : Nat) (os : List Ob) (now : Int) (w : World) (hx : IsArena w (.slice (some p) 10 cap) os) (hl : os.length = 10) (hs : ∀ i, (obAt os i).ls.length ≤ 9223372036854775807) :
    Calls Tryz.prog 45 #[.slice (some p) 10 cap, .int .i64 now] w fun e w' => BoolsAns (reached (ledB os now)) w e w' := by
  have hm : (Instr.makeSlice 66 (.int .i64 10) (.int .i64 10)).run Tryz.prog ((w.alloc (.cells #[.slice (some p) 10 cap] 29 (0, 0))).alloc (.cells #[.int .i64 now] 3 (0, 0))) = _ := make_bools 10 (by omega) _
  have hcap : 10 ≤ cap := by obtain ⟨_, _, hv, h, _⟩ := hx; have e := (Value.slice.inj hv).2.2; omega
  have hsf := fun (a : Addr) (fn : Fn) (f c : Array Value) (w : World) => (run_store Tryz.prog w a (.func fn f c) _ rfl : Sem.run Tryz.prog (store a (.func fn f c)) w = _)
  have hfive := five_new w (.cells #[.slice (some p) 10 cap] 29 (0, 0)) (.cells #[.int .i64 now] 3 (0, 0)) (.cells (blcells [false, false, false, false, false, false, false, false, false, false]).toArray 4 (0, 0)) (.cells #[.slice (some ⟨w.heap.size + 1 + 1, 0, none⟩) 10 10] 66 (0, 0)) (.cells #[fnV (w.heap.size + 1 + 1 + 1) w.heap.size (w.heap.size + 1) (w.heap.size + 1 + 1 + 1 + 1)] 48 (0, 0))
  obtain ⟨h1, h2, h3, h4, h5, h6⟩ := hfive
  have C := visit_any w p cap os now (w.heap.size + 1 + 1) (w.heap.size + 1 + 1 + 1) w.heap.size (w.heap.size + 1) (w.heap.size + 1 + 1 + 1 + 1) hx hl hs 10 (List.replicate 10 false) 0 _ ⟨h6, by omega, h3, h4, h1, h2, h5, by omega, by omega, by omega, by omega⟩ rfl (by omega) rfl (leads_zero _) (by decide)
  have HC := hid_of C
  have HSZ : Hid (w.heap.size ≤ w.heap.size + 1 + 1) := by show _ ≤ _; omega
  clear hl C h1 h2 h3 h4 h5 h6 hs hx
  go_enter Tryz.func45, Tryz.ntmps45
  go_wp2_with fail
  refine HC.out.mono ?_
  rintro e w1 ⟨⟨u, rfl⟩, r', hvis, hvst, _⟩
  obtain rfl : r' = reached (ledB os now) := hvis.right.one (reached_right ledB_lt)
  have kA := cell_one hvst.ha
  have HV := hid_of hvst
  have HLN : Hid (10 = (reached (ledB os now)).length) := hvis.len.symm
  clear HC hvis hvst hm
  go_wp2
  go_returns
  exact ⟨_, 10, 10, rfl, HLN.out, Nat.le_refl _, fun _ => ⟨_, rfl, HSZ.out, HV.out.row⟩, HV.out.base⟩
end Go.Proofs.YtbdljoldblpffaaGreat
