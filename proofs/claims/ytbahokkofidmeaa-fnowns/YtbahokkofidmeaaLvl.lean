/-
  The program's levelsOk, levelsOf and LabelOk.
-/
import Derived.Test.YtbahokkofidmeaaMarks
import Derived.Laws.Cover3
import Derived.Deep.RegionWith
namespace Go.Proofs.Ytbahokkofidmeaa
open Go.RowKit
set_option linter.unusedVariables false

/-- Four ints as an array. -/
abbrev arr4 (a b c d : Int) : Value := .agg #[.int .i64 a, .int .i64 b, .int .i64 c, .int .i64 d]

theorem ok_no {xs : List Int} {x : Int} (k : Nat) (hk : k < xs.length) (hx : xs.getD k 0 = x) (h : x < 0 ∨ 3 < x) : labelOk xs = false :=
  labelOk_at hk (by rw [hx]; unfold lvlOk; simp; omega)

theorem index4_0 (a b c d : Int) (w : World) : (Instr.index 66 (arr4 a b c d) (.int .i64 0)).run Try.prog w = .ok (.int .i64 a) w := by kernel_rfl
theorem index4_1 (a b c d : Int) (w : World) : (Instr.index 66 (arr4 a b c d) (.int .i64 1)).run Try.prog w = .ok (.int .i64 b) w := by kernel_rfl
theorem index4_2 (a b c d : Int) (w : World) : (Instr.index 66 (arr4 a b c d) (.int .i64 2)).run Try.prog w = .ok (.int .i64 c) w := by kernel_rfl
theorem index4_3 (a b c d : Int) (w : World) : (Instr.index 66 (arr4 a b c d) (.int .i64 3)).run Try.prog w = .ok (.int .i64 d) w := by kernel_rfl

set_option maxHeartbeats 400000 in
theorem levelsOk_any (a b c d : Int) (w : World) :
    Calls Try.prog 61 #[arr4 a b c d] w fun e w' => e = .returned (.bool (labelOk [a, b, c, d])) ∧ w' = w.alloc (.cells #[.int .i64 a, .int .i64 b, .int .i64 c, .int .i64 d] 66 (0, 0)) := by
  have i0 := index4_0 a b c d
  have i1 := index4_1 a b c d
  have i2 := index4_2 a b c d
  have i3 := index4_3 a b c d
  go_enter Try.func61, Try.ntmps61
  go_wp2
  go_loop [4, 6] (fun _ i => ∃ k : Nat, k ≤ 4 ∧ i = .int .i64 k ∧ Hid (([a, b, c, d].take k).all lvlOk = true)) (fun _ i => 4 - (intOf i).toNat)
  case atStart => exact ⟨0, Nat.zero_le _, rfl, rfl⟩
  case round =>
    obtain ⟨k, hk, rfl, hall⟩ := hrel
    by_cases hlt : k < 4
    · have hcase : k = 0 ∨ k = 1 ∨ k = 2 ∨ k = 3 := by omega
      rcases hcase with rfl | rfl | rfl | rfl
      · by_cases ho : a < 0 ∨ 3 < a
        · have H1 : Hid (labelOk [a, b, c, d] = false) := ok_no 0 (by simp) rfl ho
          clear hall
          rcases ho with ho | ho
          · go_wp2
            go_ret
            rw [H1.out]
            exact ⟨rfl, rfl⟩
          · have hn : ¬ a < 0 := by omega
            go_wp2
            go_ret
            rw [H1.out]
            exact ⟨rfl, rfl⟩
        · have h0 : ¬ a < 0 := by omega
          have h1 : ¬ 3 < a := by omega
          have H1 : Hid (([a, b, c, d].take 1).all lvlOk = true) := all_more (k := 0) (by simp) hall.out (by show lvlOk a = true; unfold lvlOk; simp; omega)
          clear hall ho
          go_wp2
          exact ⟨⟨1, by omega, rfl, H1⟩, by simp [intOf]⟩
      · by_cases ho : b < 0 ∨ 3 < b
        · have H1 : Hid (labelOk [a, b, c, d] = false) := ok_no 1 (by simp) rfl ho
          clear hall
          rcases ho with ho | ho
          · go_wp2
            go_ret
            rw [H1.out]
            exact ⟨rfl, rfl⟩
          · have hn : ¬ b < 0 := by omega
            go_wp2
            go_ret
            rw [H1.out]
            exact ⟨rfl, rfl⟩
        · have h0 : ¬ b < 0 := by omega
          have h1 : ¬ 3 < b := by omega
          have H1 : Hid (([a, b, c, d].take 2).all lvlOk = true) := all_more (k := 1) (by simp) hall.out (by show lvlOk b = true; unfold lvlOk; simp; omega)
          clear hall ho
          go_wp2
          exact ⟨⟨2, by omega, rfl, H1⟩, by simp [intOf]⟩
      · by_cases ho : c < 0 ∨ 3 < c
        · have H1 : Hid (labelOk [a, b, c, d] = false) := ok_no 2 (by simp) rfl ho
          clear hall
          rcases ho with ho | ho
          · go_wp2
            go_ret
            rw [H1.out]
            exact ⟨rfl, rfl⟩
          · have hn : ¬ c < 0 := by omega
            go_wp2
            go_ret
            rw [H1.out]
            exact ⟨rfl, rfl⟩
        · have h0 : ¬ c < 0 := by omega
          have h1 : ¬ 3 < c := by omega
          have H1 : Hid (([a, b, c, d].take 3).all lvlOk = true) := all_more (k := 2) (by simp) hall.out (by show lvlOk c = true; unfold lvlOk; simp; omega)
          clear hall ho
          go_wp2
          exact ⟨⟨3, by omega, rfl, H1⟩, by simp [intOf]⟩
      · by_cases ho : d < 0 ∨ 3 < d
        · have H1 : Hid (labelOk [a, b, c, d] = false) := ok_no 3 (by simp) rfl ho
          clear hall
          rcases ho with ho | ho
          · go_wp2
            go_ret
            rw [H1.out]
            exact ⟨rfl, rfl⟩
          · have hn : ¬ d < 0 := by omega
            go_wp2
            go_ret
            rw [H1.out]
            exact ⟨rfl, rfl⟩
        · have h0 : ¬ d < 0 := by omega
          have h1 : ¬ 3 < d := by omega
          have H1 : Hid (([a, b, c, d].take 4).all lvlOk = true) := all_more (k := 3) (by simp) hall.out (by show lvlOk d = true; unfold lvlOk; simp; omega)
          clear hall ho
          go_wp2
          exact ⟨⟨4, by omega, rfl, H1⟩, by simp [intOf]⟩
    · obtain rfl : k = 4 := by omega
      have H1 : Hid (labelOk [a, b, c, d] = true) := labelOk_all rfl hall.out
      clear hall
      go_wp2
      go_ret
      rw [H1.out]
      exact ⟨rfl, rfl⟩

set_option maxHeartbeats 400000 in
theorem levelsOf_four (p : Addr) (cap : Nat) (a b c d : Int) (w : World) (c0 : w.cell? p = some (.int .i64 a)) (c1 : w.cell? ⟨p.block, p.off + 1, none⟩ = some (.int .i64 b)) (c2 : w.cell? ⟨p.block, p.off + 2, none⟩ = some (.int .i64 c)) (c3 : w.cell? ⟨p.block, p.off + 3, none⟩ = some (.int .i64 d)) :
    Calls Try.prog 43 #[.agg #[.slice (some p) 4 cap]] w fun e w' => e = .returned (.tuple #[arr4 a b c d, .bool (labelOk [a, b, c, d])]) ∧ Below w.heap.size w w' := by
  have hat : ∀ w, (Instr.arrayAt 66 (.slice (some p) 4 cap)).run Try.prog w = .ok (.pointer (some p)) w := fun w => run_arrayAt w 66 _ 4 _ 4 cap Try.underlying66 (Nat.le_refl _)
  have l0 := World.block_lt_of_cell? w _ c0
  have C := levelsOk_any a b c d
  obtain ⟨o, ho⟩ : ∃ o, o = labelOk [a, b, c, d] := ⟨_, rfl⟩
  rw [← ho] at C ⊢
  clear ho
  have HB : Hid (Below w.heap.size w ((((w.alloc (.cells #[.slice (some p) 4 cap] 26 (0, 0))).alloc (.cells #[.int .i64 a, .int .i64 b, .int .i64 c, .int .i64 d] 66 (0, 0))).alloc (.cells #[.int .i64 a, .int .i64 b, .int .i64 c, .int .i64 d] 66 (0, 0))).alloc (.cells #[.int .i64 a, .int .i64 b, .int .i64 c, .int .i64 d] 66 (0, 0))).drew) :=
    (((((Below.refl _ _).alloc (Nat.le_refl _) _).alloc (by simp) _).alloc (by simp; omega) _).alloc (by simp; omega) _).drew
  go_enter Try.func43, Try.ntmps43
  go_wp2_with (simp only [hat])
  go_region_with (go_at_call 61; refine (C _).mono ?_; rintro e w' ⟨rfl, rfl⟩)
  all_goals go_wp2
  all_goals refine bodyPost_ret (v := .tuple #[arr4 a b c d, .bool o]) ?_ rfl ⟨rfl, ?_⟩
  all_goals first
    | exact HB.out
    | (have hres : Try.f43.results = #[.cell 2 66, .tmp 3] := by kernel_rfl
       simp only [results, hres]
       go_simp)

set_option maxHeartbeats 400000 in
theorem levelsOf_len (p : Option Addr) (n cap : Nat) (w : World) (hn : n ≠ 4) :
    Calls Try.prog 43 #[.agg #[.slice p n cap]] w fun e w' => e = .returned (.tuple #[arr4 0 0 0 0, .bool false]) ∧ Below w.heap.size w w' := by
  have hne : ((n : Int) != 4) = true := by simp; omega
  have HB : Hid (Below w.heap.size w ((w.alloc (.cells #[.slice p n cap] 26 (0, 0))).alloc (.cells #[.int .i64 0, .int .i64 0, .int .i64 0, .int .i64 0] 66 (0, 0)))) :=
    ((Below.refl _ _).alloc (Nat.le_refl _) _).alloc (by simp) _
  go_enter Try.func43, Try.ntmps43
  go_wp2
  refine bodyPost_ret (v := .tuple #[arr4 0 0 0 0, .bool false]) ?_ rfl ⟨rfl, HB.out⟩
  have hres : Try.f43.results = #[.cell 2 66, .tmp 3] := by kernel_rfl
  simp only [results, hres]
  go_simp

/-- A list of four, or noughts. -/
def pad4 (xs : List Int) : Value := if xs.length = 4 then arr4 (xs.getD 0 0) (xs.getD 1 0) (xs.getD 2 0) (xs.getD 3 0) else arr4 0 0 0 0
theorem pad4_yes {xs : List Int} (h : xs.length = 4) : pad4 xs = arr4 (xs.getD 0 0) (xs.getD 1 0) (xs.getD 2 0) (xs.getD 3 0) := if_pos h
theorem pad4_no {xs : List Int} (h : xs.length ≠ 4) : pad4 xs = arr4 0 0 0 0 := if_neg h
theorem four_eq {xs : List Int} (h : xs.length = 4) : xs = [xs.getD 0 0, xs.getD 1 0, xs.getD 2 0, xs.getD 3 0] := by
  match xs, h with
  | [a, b, c, d], _ => rfl

theorem levelsOf_any (v : Value) (xs : List Int) (w : World) (hx : IsInts w v xs) :
    Calls Try.prog 43 #[.agg #[v]] w fun e w' => e = .returned (.tuple #[pad4 xs, .bool (labelOk xs)]) ∧ Below w.heap.size w w' := by
  obtain ⟨a, cap, rfl, hcap, hx⟩ := hx
  by_cases hl : xs.length = 4
  · obtain ⟨p, rfl, c0⟩ := hx 0 (by omega)
    obtain ⟨p1, e1, c1⟩ := hx 1 (by omega)
    obtain ⟨p2, e2, c2⟩ := hx 2 (by omega)
    obtain ⟨p3, e3, c3⟩ := hx 3 (by omega)
    obtain rfl := Option.some.inj e1
    obtain rfl := Option.some.inj e2
    obtain rfl := Option.some.inj e3
    have C := levelsOf_four p cap _ _ _ _ w c0 c1 c2 c3
    rw [← four_eq hl] at C
    rw [pad4_yes hl, hl]
    exact C
  · rw [pad4_no hl, labelOk_len hl]
    exact levelsOf_len a _ cap w hl

end Go.Proofs.Ytbahokkofidmeaa
