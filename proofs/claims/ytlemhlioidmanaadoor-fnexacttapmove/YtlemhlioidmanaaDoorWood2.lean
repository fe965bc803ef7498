/-
  Lists of trees: the laws' own copies, two alike.
-/
import Derived.Test.YtlemhlioidmanaaDoorWood
namespace Go.Proofs.YtlemhlioidmanaaDoor
open Go.RowKit
set_option linter.unusedVariables false
set_option maxRecDepth 100000

theorem bcell {W w1 : World} (hb : Below W.heap.size W w1) : (∀ b o, b < W.heap.size → w1.cell? ⟨b, o, none⟩ = W.cell? ⟨b, o, none⟩) ∧ (∀ b o, b < W.heap.size → w1.frozen? ⟨b, o, none⟩ = W.frozen? ⟨b, o, none⟩) :=
  ⟨fun b o h => hb.cell (p := ⟨b, o, none⟩) h, fun b o h => hb.frozen (p := ⟨b, o, none⟩) h⟩
theorem setCell_keep {w : World} {g k o : Nat} {v : Value} {x : Obj} (h : w.heap[k]? = some x) (hne : k ≠ g) : (w.setCell ⟨g, o, none⟩ v).heap[k]? = some x := by
  rw [heap_setCell_other _ _ _ _ (by simpa using hne)]; exact h
set_option maxHeartbeats 1000000 in
theorem toTree_any (u : Value) (ts : List Re) (w : World) (hu : IsTree w u ts) (hn : ts.length ≤ 1048576) :
    Calls Tryd.prog 22 #[.agg #[u]] w fun e w' => ∃ g, e = .returned (.agg #[.slice (some ⟨g, 0, none⟩) ts.length ts.length]) ∧ OwnT g ts.length ts [] w.heap.size w'.heap.size w' ∧ Below w.heap.size w w' := by
  have CT := fun w' (hb : Below w.heap.size w w') => toResS_any u ts w' (hu.on hb) hn
  obtain ⟨a, cap, rfl, _, _⟩ := hu
  have HC : Hid (∀ w', Below w.heap.size w w' → _) := CT
  clear CT
  have hb0 : Below w.heap.size w (((w.alloc (.cells #[.slice a ts.length cap] 38 (0, 0))).alloc (.cells #[.slice none 0 0] 46 (0, 0))).alloc (.cells #[.slice none 0 0] 46 (0, 0))) := by go_grown
  have HB0 : Hid (Below w.heap.size w _) := hb0
  clear hb0
  go_enter Tryd.func22, Tryd.ntmps22
  go_wp2_with fail
  refine (HC.out _ HB0.out).mono ?_
  rintro e w1 ⟨rfl, hr, hb⟩
  obtain ⟨hc, hf⟩ := bcell hb
  have hz : w.heap.size + 2 < w1.heap.size := by have := hb.size; simp at this; omega
  have HR : Hid (TreeAt w1 (w.heap.size + 3) ts) := by have e := hr; simp only [World.size_alloc] at e; exact e
  have HB1 : Hid (Below w.heap.size w w1) := below_more HB0.out hb
  clear HB0 hr hb HC
  go_wp2
  refine bodyPost_ret (v := .agg #[.slice (some ⟨w.heap.size + 3, 0, none⟩) ts.length ts.length]) (by simp [results, go_sem, hc]) rfl ⟨_, rfl, ?_, ?_⟩
  · have e := setCell_keep (g := w.heap.size + 1) (o := 0) (v := .slice (some ⟨w.heap.size + 3, 0, none⟩) ts.length ts.length) (setCell_keep (g := w.heap.size + 2) (o := 0) (v := .slice (some ⟨w.heap.size + 3, 0, none⟩) ts.length ts.length) HR.out (by omega)) (by omega)
    exact TreeAt.own e (by omega) (lt_of_block e)
  · exact (HB1.out.setCell (p := ⟨w.heap.size + 2, 0, none⟩) (by show _ ≤ _; simp) _).setCell (p := ⟨w.heap.size + 1, 0, none⟩) (by show _ ≤ _; simp) _
theorem made_wood (n : Nat) : (madeCells #[Value.slice none 0 0] (n * 1)).toList = List.replicate n (Value.slice none 0 0) := by
  induction n with
  | zero => simp [madeCells]
  | succ n ih =>
    have h1 : (madeCells #[Value.slice none 0 0] ((n + 1) * 1)).toList = (madeCells #[Value.slice none 0 0] (n * 1)).toList ++ [.slice none 0 0] := by
      rw [show (n + 1) * 1 = n * 1 + 1 by omega]
      unfold madeCells
      simp [Array.range_succ, Nat.mod_one]
    rw [h1, ih, List.replicate_succ']
theorem make_wood (n : Nat) (h : n ≤ 4398046511104) (w : World) :
    (Instr.makeSlice 26 (.int .i64 (n : Int)) (.int .i64 (n : Int))).run Tryd.prog w = .ok (.slice (some ⟨w.heap.size, 0, none⟩) n n) (w.alloc (.cells (List.replicate n (Value.slice none 0 0)).toArray 46 (0, 0))) := by
  obtain ⟨i, hi, hzz⟩ := Option.map_eq_some_iff.1 infoTree
  simp only [Prod.mk.injEq] at hzz
  obtain ⟨hz, hs, hb⟩ := hzz
  have hr := run_make (P := Tryd.prog) w 26 46 i _ Tryd.underlying26 hi hz .i64 .i64 n n (by omega) (Int.le_refl _) (by rw [hb]; omega) (by omega)
  simp only [Int.toNat_natCast, hs] at hr
  have h2 : madeCells (Value.agg #[.slice none 0 0]).cells (n * 1) = (List.replicate n (Value.slice none 0 0)).toArray := by
    apply Array.toList_inj.1
    exact made_wood n
  rw [h2] at hr
  exact hr
/-- What a call that answers trees of its own leaves. -/
def WoodOf (tss : List (List Re)) (lo g cap : Nat) (w' : World) : Prop := ∃ fs rest, leafTs fs = tss ∧ OwnW g cap fs rest lo w'.heap.size w'
theorem WoodOf.on {tss : List (List Re)} {lo g cap : Nat} {w w' : World} (h : WoodOf tss lo g cap w) (hb : Below w.heap.size w w') : WoodOf tss lo g cap w' := by
  obtain ⟨fs, rest, h1, h2⟩ := h
  exact ⟨fs, rest, h1, (h2.on hb).more⟩
set_option maxHeartbeats 2000000 in
theorem toTreeS_any (v : Value) (tss : List (List Re)) (w : World) (hx : IsTrees w v tss) (hn : tss.length ≤ 1048576) (ht : ∀ i, (treeAt tss i).length ≤ 1048576) :
    Calls Tryd.prog 6 #[v] w fun e w' => e = .returned (.slice (some ⟨w.heap.size, 0, none⟩) tss.length tss.length) ∧ (∃ fs, leafTs fs = tss ∧ OwnW w.heap.size tss.length fs [] w.heap.size w'.heap.size w') ∧ Below w.heap.size w w' := by
  have hx0 := hx
  obtain ⟨a, cap, rfl, hcap, _⟩ := hx
  have hm := make_wood tss.length (by omega) w
  have HX : Hid (∀ wr, Below w.heap.size w wr → ∀ i, i < tss.length → ∃ p u, a = some p ∧ wr.cell? (p.add i) = some u ∧ IsTree wr u (treeAt tss i)) := fun wr hb => by
    obtain ⟨a', cap', hv, _, h⟩ := hx0.on hb
    cases hv
    exact h
  obtain ⟨g, hg⟩ : ∃ g, g = w.heap.size := ⟨_, rfl⟩
  have hs0 : OwnW w.heap.size tss.length [] (List.replicate tss.length (Value.slice none 0 0)) w.heap.size (w.alloc (.cells (List.replicate tss.length (Value.slice none 0 0)).toArray 46 (0, 0))).heap.size (w.alloc (.cells (List.replicate tss.length (Value.slice none 0 0)).toArray 46 (0, 0))) :=
    ⟨heap_alloc_new w _, Nat.zero_le _, Nat.le_refl _, by simp, fun i hi => absurd hi (by simp), fun i hi => absurd hi (by simp), fun i j _ hj => absurd hj (by simp)⟩
  have hb0 : Below w.heap.size w (w.alloc (.cells (List.replicate tss.length (Value.slice none 0 0)).toArray 46 (0, 0))) := below_alloc w _
  obtain ⟨W, hW⟩ : ∃ W, W = w.alloc (.cells (List.replicate tss.length (Value.slice none 0 0)).toArray 46 (0, 0)) := ⟨_, rfl⟩
  rw [← hW] at hm hs0 hb0
  have HS : Hid (OwnW w.heap.size tss.length [] (List.replicate tss.length (Value.slice none 0 0)) w.heap.size W.heap.size W) := hs0
  have HT : Hid (∀ i, (treeAt tss i).length ≤ 1048576) := ht
  rw [← hg] at hm HS hb0 HX ⊢
  have HG : Hid (g = w.heap.size) := hg
  clear hx0 hs0 hW hg ht
  go_enter Tryd.func6, Tryd.ntmps6
  go_wp2
  go_loopw [4] (fun i wr => ∃ k : Nat, k ≤ tss.length ∧ i = .int .i64 k ∧ Hid (∃ fs, leafTs fs = tss.take k ∧ OwnW g tss.length fs (List.replicate (tss.length - k) (Value.slice none 0 0)) g wr.heap.size wr) ∧ Below g w wr) (fun i _ => tss.length - (intOf i).toNat)
  case atStart => exact ⟨0, Nat.zero_le _, rfl, ⟨[], rfl, HS.out⟩, hb0⟩
  case round =>
    obtain ⟨k, hk, rfl, hrow, hnx⟩ := hrel
    clear HS hb0 hm
    by_cases hlt : k < tss.length
    · obtain ⟨p, u, rfl, hq, hu⟩ := HX.out wr hnx k hlt
      have C := toTree_any u (treeAt tss k) wr hu (HT.out k)
      have hgs : g ≤ wr.heap.size := by rw [HG.out]; exact hnx.size
      have HK : Hid (leafTs (hrow.out.choose) = tss.take k ∧ OwnW g tss.length hrow.out.choose (List.replicate (tss.length - k) (Value.slice none 0 0)) g wr.heap.size wr) := hrow.out.choose_spec
      generalize hrow.out.choose = fs at HK
      have hfl : fs.length = k := by have := congrArg List.length HK.out.1; rw [leafTs_length, List.length_take] at this; omega
      have HT1 : Hid (tss.take (k + 1) = tss.take k ++ [treeAt tss k]) := take_tree hlt
      generalize treeAt tss k = ts at C HT1
      clear hrow hu
      go_wp2_with fail
      refine C.mono ?_
      rintro e w1 ⟨g1, rfl, ho, hb1⟩
      have hrep : List.replicate (tss.length - k) (Value.slice none 0 0) = .slice none 0 0 :: List.replicate (tss.length - (k + 1)) (Value.slice none 0 0) := by
        rw [show tss.length - k = (tss.length - (k + 1)) + 1 by omega, List.replicate_succ]
      have hown := HK.out.2.on hb1
      rw [hrep] at hown
      have h3 := hown.push (f := ⟨g1, ts.length, ts, []⟩) ho (by omega)
      have c0 : w1.cell? ⟨g, k, none⟩ = some (.slice none 0 0) := by
        have e := hown.at'
        simp only [World.cell?, e, List.getElem?_toArray]
        rw [List.getElem?_append_right (by simp [hfl])]
        simp [hfl]
      have f0 := hown.free k
      rw [hfl] at h3
      have H2 : Hid (∃ fs, leafTs fs = tss.take (k + 1) ∧ OwnW g tss.length fs (List.replicate (tss.length - (k + 1)) (Value.slice none 0 0)) g (w1.setCell ⟨g, k, none⟩ (.slice (some ⟨g1, 0, none⟩) ts.length ts.length)).heap.size (w1.setCell ⟨g, k, none⟩ (.slice (some ⟨g1, 0, none⟩) ts.length ts.length))) :=
        ⟨fs ++ [⟨g1, ts.length, ts, []⟩], by rw [leafTs_push, HK.out.1, HT1.out], h3.more⟩
      have hnx' : Below g w (w1.setCell ⟨g, k, none⟩ (.slice (some ⟨g1, 0, none⟩) ts.length ts.length)) := (hnx.trans (hb1.mono hgs)).setCell (p := ⟨g, k, none⟩) (Nat.le_refl _) _
      clear C hb1 hnx hq hown h3 ho HK HT1 hrep hfl
      go_wp2
      go_roundw
      case rel => exact ⟨k + 1, by omega, by go_num, H2, hnx'⟩
      case measure => simp [intOf]; omega
    · obtain rfl : k = tss.length := by omega
      have hend : Hid (∃ fs, leafTs fs = tss ∧ OwnW g tss.length fs [] g wr.heap.size wr) := by
        obtain ⟨fs, h1, h2⟩ := hrow.out
        rw [List.take_length] at h1
        rw [Nat.sub_self, List.replicate_zero] at h2
        exact ⟨fs, h1, h2⟩
      clear hrow
      go_wp2
      go_ret
      exact ⟨rfl, hend.out, hnx⟩
end Go.Proofs.YtlemhlioidmanaaDoor
