/-
  l4Cats: places are drawn.
-/
import Derived.Test.YtjceffhogoedaaaDrawE
import Derived.Test.YtjceffhogoedaaaOwnC
namespace Go.Proofs.Ytjceffhogoedaaa
open Go.RowKit
set_option linter.unusedVariables false

theorem grownC_then {w wr w' : World} {row : Option Nat} {B : Nat} (h : w.grownBy wr row) (hb : Below B wr w') (hB : w.heap.size ≤ B) : w.grownBy w' row :=
  ⟨hb.os.trans h.os, hb.tape.trans h.tape, hb.output.trans h.output, Nat.le_trans h.size hb.size, fun k hk hne => (hb.block k (by omega)).trans (h.block k hk hne)⟩
theorem own_keptC {w w' : World} {lo : Nat} {v : Value} {n : Nat} {xs : List Value} (h : w.ownsRow lo 43 2 v n xs) (hk : ∀ k o n c, v = .slice (some ⟨k, 0, none⟩) n c → lo ≤ k → w.heap[k]? = some o → w'.heap[k]? = some o) : w'.ownsRow lo 43 2 v n xs := by
  refine ⟨h.1, ?_⟩
  rcases h.2 with hn | ⟨g, cap, cur, hv, hb, hg, rest⟩
  · exact .inl hn
  · exact .inr ⟨g, cap, cur, hv, hb, hk g _ _ _ hv hb hg, rest⟩
/-- 'append(l, x)' of one place. -/
theorem wpList_addC {ops : Array Oper} {rest : List Oper} {o : Oper} {a : Act} {Q : Exit → Act → World → Prop} (hgd : o.guard = none) (s x : Operand)
    (ho : o.op = .call { callee := .builtin .append, args := #[s, x], argTypes := #[24, 24] }) (w : World) (base : Nat) (out : Value) (cs : List (Int × Bool)) (c1 : Int) (c2 : Bool)
    (hs : a.eval s = out) (hown : w.ownsRow base 43 2 out cs.length (ccells cs)) (m : Nat) (hm : w.heap.size = m) (hx : a.eval x = .slice (some ⟨m, 0, none⟩) 1 1) (hb : cs.length ≤ 4) (hbase : base ≤ w.heap.size)
    (h : ∀ v' w', Hid (w'.ownsRow base 43 2 v' (cs ++ [(c1, c2)]).length (ccells (cs ++ [(c1, c2)]))) → v' ≠ .slice none 0 0 → Hid (Below base w w') → wpList Try.prog ops Q rest (a.put o.dst v') w') : wpList Try.prog ops Q (o :: rest) a (w.alloc (.cells #[.int .i64 c1, .bool c2] 43 (0, 0))) := by
  subst hm
  obtain ⟨i0, hi, hz0, hz1, hz2⟩ := info_parts info36
  have hba : Below w.heap.size w (w.alloc (.cells #[.int .i64 c1, .bool c2] 43 (0, 0))) := below_alloc w _
  have hown' : (w.alloc (.cells #[.int .i64 c1, .bool c2] 43 (0, 0))).ownsRow base 43 2 out cs.length (ccells cs) := own_keptC hown fun k o _ _ _ _ ho => by rw [heap_alloc_old _ _ (lt_of_block ho)]; exact ho
  have hcells : ∀ j u, ([.int .i64 c1, .bool c2] : List Value)[j]? = some u → (w.alloc (.cells #[.int .i64 c1, .bool c2] 43 (0, 0))).cell? ((⟨w.heap.size, 0, none⟩ : Addr).add j) = some u := by
    intro j u hj
    match j, hj with
    | 0, hj => simp at hj; subst hj; simp [Addr.add]
    | 1, hj => simp at hj; subst hj; simp [Addr.add]
  refine wpList_append_own _ hgd s x 24 ho base 43 i0 _ 2 16 Try.underlying24 hi hz0 hz1 hz2 rfl (by decide) _ cs.length (ccells cs) hs hown' ⟨w.heap.size, 0, none⟩ 1 1 [.int .i64 c1, .bool c2] hx rfl hcells (by intro u hu; simp at hu; rcases hu with rfl | rfl <;> rfl) (by simp only [maxLen]; omega) (by omega) (by simp; omega) ?_
  intro v' w' h1 h2 h3
  refine h v' w' ?_ (fun e => by have := (h3.1 e).2; omega) ?_
  · show w'.ownsRow base 43 2 v' (cs ++ [(c1, c2)]).length (ccells (cs ++ [(c1, c2)]))
    rw [ccells_append, List.length_append]
    exact h1
  · refine ((Below.refl base w).alloc hbase _).grown h2 (by simp; omega) ?_
    intro k hk
    rcases hown.2 with ⟨rfl, _⟩ | ⟨g, cap, cur, rfl, hbg, _⟩
    · simp [Value.ownBlock] at hk
    · simp [Value.ownBlock] at hk; omega

/-- What lies there while the places are drawn. -/
structure GrowC (w : World) (g s0 : Nat) (out : Value) (cs : List (Int × Bool)) (wr : World) : Prop where
  own : wr.ownsRow w.heap.size 43 2 out cs.length (ccells cs)
  isRow : out ≠ .slice none 0 0
  cur : CurE wr g s0
  grown : w.grownBy wr (some g)
theorem GrowC.size {w wr : World} {g s0 : Nat} {out : Value} {cs : List (Int × Bool)} (h : GrowC w g s0 out cs wr) : w.heap.size ≤ wr.heap.size := h.grown.size
theorem growC_start {w : World} {g s0 : Nat} (h : CurE w g s0) (hs : s0 ≤ w.heap.size) : GrowC w g s0 (.slice (some ⟨w.heap.size, 0, none⟩) 0 0) [] (w.alloc (.cells #[] 43 (0, 0))) :=
  ⟨ownsC_empty w, by simp, h.below ((below_alloc w _).mono hs), grownC_then (World.grownBy.refl _ _) (below_alloc w _) (Nat.le_refl _)⟩
theorem growC_by {w wr w' : World} {g s0 : Nat} {out : Value} {cs : List (Int × Bool)} (h : GrowC w g s0 out cs wr) (hs : s0 ≤ w.heap.size) (hc : CurE w' g s0) (hg : wr.grownBy w' (some g)) : GrowC w g s0 out cs w' := by
  have hlt := hc.lt
  exact ⟨own_keptC h.own fun k o _ _ _ hl ho => grown_kept hg ho (by simp; omega), h.isRow, hc, grownBy_trans h.grown hg⟩
theorem growC_on {w wr w' : World} {g s0 : Nat} {out : Value} {cs : List (Int × Bool)} (h : GrowC w g s0 out cs wr) (hs : s0 ≤ w.heap.size) (hb : Below wr.heap.size wr w') : GrowC w g s0 out cs w' :=
  ⟨own_keptC h.own fun k o _ _ _ hl ho => by rw [hb.block k (lt_of_block ho)]; exact ho, h.isRow, h.cur.below (hb.mono (by have := h.size; omega)), grownC_then h.grown hb h.size⟩
theorem growC_add {w wr w' : World} {g s0 : Nat} {out v' : Value} {cs : List (Int × Bool)} {c : Int × Bool} (h : GrowC w g s0 out cs wr) (hs : s0 ≤ w.heap.size) (ho : w'.ownsRow w.heap.size 43 2 v' (cs ++ [c]).length (ccells (cs ++ [c]))) (hv : v' ≠ .slice none 0 0) (hb : Below w.heap.size wr w') : GrowC w g s0 v' (cs ++ [c]) w' :=
  ⟨ho, hv, h.cur.below (hb.mono hs), grownC_then h.grown hb (Nat.le_refl _)⟩

theorem CatsIn.take {w : World} {g : Nat} {cs : List (Int × Bool)} {rest : List Value} (h : CatsIn w g cs rest) (n : Nat) : CatsIn w g (cs.take n) (ccells (cs.drop n) ++ rest) := by
  unfold CatsIn at h ⊢
  rw [← List.append_assoc, ← ccells_append, List.take_append_drop]
  exact h
/-- What l4Cats answers. -/
def CatsDrawn (w : World) (g : Nat) (e : Ending) (w' : World) : Prop :=
  ∃ p cap cs, e = .returned (.slice (some p) cs.length cap) ∧ cs.length ≤ 4 ∧ IsCats w' (.slice (some p) cs.length cap) cs ∧ w.grownBy w' (some g)

set_option maxRecDepth 100000 in
set_option maxHeartbeats 2000000 in
theorem l4Cats_any (w : World) (g s0 : Nat) (hc : CurE w g s0) (hs : s0 ≤ w.heap.size) :
    Calls Try.prog 24 #[.pointer (some ⟨g, 0, none⟩)] w fun e w' => CatsDrawn w g e w' := by
  have HG0 : Hid (GrowC w g s0 (.slice (some ⟨w.heap.size, 0, none⟩) 0 0) [] (w.alloc (.cells #[] 43 (0, 0)))) := growC_start hc hs
  have Hs : Hid (s0 ≤ w.heap.size) := hs
  clear hc hs
  go_enter Try.func24, Try.ntmps24
  go_wp2
  go_loopw [3, 4] (fun l i wr => ∃ (k : Nat) (cs : List (Int × Bool)), k ≤ 4 ∧ i = .int .i64 k ∧ cs.length = k ∧ Hid (GrowC w g s0 l cs wr)) (fun _ i _ => 4 - (intOf i).toNat)
  case atStart => exact ⟨0, _, Nat.zero_le _, rfl, rfl, HG0⟩
  case round =>
    obtain ⟨k, cs, hk, rfl, hcs, hg⟩ := hrel
    clear HG0
    have HK : Hid (cs.length = k) := hcs
    clear hcs
    by_cases hlt : k < 4
    · go_wp2_with fail
      refine (belowE wr g s0 4 hg.out.cur (by omega) (by omega)).mono ?_
      rintro e w5 ⟨v, rfl, hv, hcE, hgr⟩
      have HG5 : Hid (GrowC w g s0 u3 cs w5) := growC_by hg.out Hs.out hcE hgr
      clear hcE hgr hg hv
      go_wp2_with fail
      refine (onceE w5 g s0 2 HG5.out.cur (by omega) (by omega)).mono ?_
      rintro e w6 ⟨b, rfl, hcE, hgr⟩
      have HG6 : Hid (GrowC w g s0 u3 cs w6) := growC_by HG5.out Hs.out hcE hgr
      have HO6 : Hid (∀ B n c, u3 = .slice (some ⟨B, 0, none⟩) n c → B < w6.heap.size) := fun B n c hu => by
        obtain ⟨B', c', rs, hu', hoc⟩ := ownC_of HG6.out.own rfl HG6.out.isRow
        rw [hu'] at hu
        simp at hu
        have := hoc.hi
        omega
      clear hcE hgr HG5
      have HG7 : Hid (GrowC w g s0 u3 cs (w6.alloc (.cells #[.int .i64 v, .bool b] 43 (0, 0)))) := growC_on HG6.out Hs.out (below_alloc _ _)
      have HB : Hid ((w6.alloc (.cells #[.int .i64 v, .bool b] 43 (0, 0))).heap[w6.heap.size]? = some (.cells #[.int .i64 v, .bool b] 43 (0, 0))) := heap_alloc_new _ _
      go_wp2_with fail
      refine (onceE _ g s0 10 HG7.out.cur (by omega) (by omega)).mono ?_
      rintro e w7 ⟨b2, rfl, hcE, hgr⟩
      have HG8 : Hid (GrowC w g s0 u3 cs w7) := growC_by HG7.out Hs.out hcE hgr
      have HB8 : Hid (w7.heap[w6.heap.size]? = some (.cells #[.int .i64 v, .bool b] 43 (0, 0))) := grown_kept hgr HB.out (by have := hcE.lt; have := HG6.out.size; have := Hs.out; simp; omega)
      have q0 : w7.cell? ⟨w6.heap.size, 0, none⟩ = some (.int .i64 v) := by have := HB8.out; simp [World.cell?, this]
      have q1 : w7.cell? ⟨w6.heap.size, 1, none⟩ = some (.bool b) := by have := HB8.out; simp [World.cell?, this]
      have f0 : w7.frozen? ⟨w6.heap.size, 0, none⟩ = false := by have := HB8.out; simp [World.frozen?, this]
      have S6 : Hid (w.heap.size ≤ w6.heap.size) := HG6.out.size
      clear hcE hgr HG6 HG7 HB
      cases b2 with
      | false =>
        go_wp2_with (first | (refine wpList_addC rfl (.tmp 19) (.tmp 21) rfl w7 w.heap.size u3 cs v b rfl HG8.out.own w7.heap.size rfl rfl (by rw [HK.out]; omega) HG8.out.size ?_; intro v' w9 ho hv' hb) | fail)
        exact ⟨⟨k + 1, _, by omega, by go_num, by rw [List.length_append, HK.out]; rfl, growC_add HG8.out Hs.out ho.out hv' hb.out⟩, by simp [intOf]; omega⟩
      | true =>
        have r0 : (w7.setCell ⟨w6.heap.size, 0, none⟩ (.int .i64 999)).cell? ⟨w6.heap.size, 0, none⟩ = some (.int .i64 999) := World.cell?_setCell_same _ _ _ q0
        have r1 : (w7.setCell ⟨w6.heap.size, 0, none⟩ (.int .i64 999)).cell? ⟨w6.heap.size, 1, none⟩ = some (.bool b) := by rw [World.cell?_setCell_other _ _ _ _ (by simp)]; exact q1
        have HG9 : Hid (GrowC w g s0 u3 cs (w7.setCell ⟨w6.heap.size, 0, none⟩ (.int .i64 999))) :=
          ⟨own_keptC HG8.out.own (fun kk o n c hu hl ho => by rw [heap_setCell_other _ _ _ _ (by have := HO6.out kk n c hu; simp; omega)]; exact ho), HG8.out.isRow, HG8.out.cur.set _ _ _ (by have := S6.out; have := Hs.out; omega), grownC_then HG8.out.grown ((Below.refl w.heap.size w7).setCell S6.out _) (Nat.le_refl _)⟩
        go_wp2_with (first | (refine wpList_addC rfl (.tmp 19) (.tmp 21) rfl (w7.setCell ⟨w6.heap.size, 0, none⟩ (.int .i64 999)) w.heap.size u3 cs 999 b rfl HG9.out.own w7.heap.size (by simp) rfl (by rw [HK.out]; omega) HG9.out.size ?_; intro v' w9 ho hv' hb) | fail)
        exact ⟨⟨k + 1, _, by omega, by go_num, by rw [List.length_append, HK.out]; rfl, growC_add HG9.out Hs.out ho.out hv' hb.out⟩, by simp [intOf]; omega⟩
    · obtain rfl : k = 4 := by omega
      obtain ⟨B, cap, rs, hu, hoc⟩ := ownC_of hg.out.own rfl hg.out.isRow
      rw [HK.out] at hu
      subst hu
      have hcap : 4 ≤ cap := by have := hoc.cap; rw [HK.out] at this; exact this
      have hcap3 : (3 : Int) ≤ (cap : Int) := by omega
      go_wp2_with fail
      refine (belowE wr g s0 20 hg.out.cur (by omega) (by omega)).mono ?_
      rintro e w5 ⟨v, rfl, hv, hcE, hgr⟩
      have HO : Hid (OwnC B cap cs rs w.heap.size wr.heap.size w5) := hoc.by' hgr fun k hk => by have := hcE.lt; have := Hs.out; simp at hk; omega
      have HC : Hid (CurE w5 g s0) := hcE
      have HGr : Hid (w.grownBy w5 (some g)) := grownBy_trans hg.out.grown hgr
      clear hoc hcE hgr hg
      by_cases h0 : v = 0
      · subst h0
        go_wp2
        go_ret
        exact ⟨_, _, cs.take 3, by rw [List.length_take, HK.out]; rfl, by rw [List.length_take, HK.out]; decide, (HO.out.at'.take 3).cats _ (by rw [List.length_take, HK.out]; omega), HGr.out⟩
      · by_cases h1 : v = 1
        · subst h1
          have HL : Hid ((w5.alloc (.cells #[.int .i64 (-1), .int .i64 1000] 3 (0, 0))).heap[w5.heap.size]? = some (.cells (icells [-1, 1000]).toArray 3 (0, 0))) := heap_alloc_new _ _
          have HC2 : Hid (CurE (w5.alloc (.cells #[.int .i64 (-1), .int .i64 1000] 3 (0, 0))) g s0) := HC.out.alloc _ (by have := HGr.out.size; have := Hs.out; omega)
          have S5 : Hid (s0 ≤ w5.heap.size) := by have := HGr.out.size; have := Hs.out; show _ ≤ _; omega
          go_wp2_with fail
          refine (pickE _ g s0 w5.heap.size [-1, 1000] 2 rfl (by omega) (by omega) HC2.out S5.out HL.out).mono ?_
          rintro e w6 ⟨x, rfl, hcE, hgr⟩
          have HO6 : Hid (OwnC B cap cs rs w.heap.size wr.heap.size w6) := (HO.out.on (below_alloc _ _)).by' hgr fun k hk => by have := hcE.lt; have := Hs.out; simp at hk; omega
          have HGr6 : Hid (w.grownBy w6 (some g)) := grownBy_trans (grownC_then HGr.out (below_alloc w5 _) HGr.out.size) hgr
          clear hcE hgr HO HGr HL HC HC2
          have q0 := (HO6.out.at'.cell 0 (by rw [HK.out]; omega)).1
          rw [show (0 * 2 : Nat) = 0 from rfl] at q0
          have f0 : w6.frozen? ⟨B, 0, none⟩ = false := by have := HO6.out.at'; unfold CatsIn at this; simp [World.frozen?, this]
          go_wp2
          go_ret
          have hs := HO6.out.at'.setGen 0 (by rw [HK.out]; omega) x
          exact ⟨_, cap, cs.set 0 (x, (catAt cs 0).2), by rw [List.length_set, HK.out]; rfl, by rw [List.length_set, HK.out]; exact Nat.le_refl _, hs.cats _ (by rw [List.length_set, HK.out]; exact hcap), grownC_then HGr6.out ((Below.refl w.heap.size w6).setCell HO6.out.lo _) (Nat.le_refl _)⟩
        · have h0' : ¬ (v : Int) = 0 := by omega
          have h1' : ¬ (v : Int) = 1 := by omega
          go_wp2
          go_ret
          exact ⟨_, cap, cs, by rw [HK.out]; rfl, by rw [HK.out]; exact Nat.le_refl _, HO.out.cats, HGr.out⟩
set_option maxRecDepth 100000 in
set_option maxHeartbeats 1000000 in
theorem drawCatNew_any (w : World) (a : Option Addr) (len cap : Nat) (cb : Nat → Nat) (hc : Code0 w a len cb) :
    Calls Try.prog 9 #[.slice a len cap] w fun e w' => ∃ p cap cs, e = .returned (.slice (some p) cs.length cap) ∧ cs.length ≤ 4 ∧ IsCats w' (.slice (some p) cs.length cap) cs ∧ Below w.heap.size w w' := by
  have C1 := newE w a len cap cb hc
  clear hc
  go_enter Try.func9, Try.ntmps9
  go_wp2_with fail
  refine C1.mono ?_
  rintro e w1 ⟨rfl, hcur, hb⟩
  clear C1
  have C2 := l4Cats_any w1 w.heap.size w1.heap.size hcur (Nat.le_refl _)
  have HB : Hid (Below w.heap.size w w1) := hb
  clear hcur hb
  go_wp2_with fail
  refine C2.mono ?_
  rintro e w3 ⟨p, c, cs, rfl, hl, hcs, hgr⟩
  have HX : Hid (cs.length ≤ 4 ∧ IsCats w3 (.slice (some p) cs.length c) cs ∧ Below w.heap.size w w3) := ⟨hl, hcs, HB.out.grown hgr HB.out.size (fun k hk => by simp at hk; omega)⟩
  clear C2 hl hcs hgr
  go_wp2
  go_ret
  exact ⟨_, _, cs, rfl, HX.out.1, HX.out.2.1, HX.out.2.2⟩
end Go.Proofs.Ytjceffhogoedaaa
