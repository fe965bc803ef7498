/-
  The draws of chapter 1's law, third part: a text.
-/
import Derived.Test.YtkjabochhhalhacDoorDraw2
namespace Go.Proofs.YtkjabochhhalhacDoor
open Go.RowKit
set_option linter.unusedVariables false

def tb (style x : Nat) : Nat := if style = 1 then x % 2 else if style = 2 then 97 + x % 4 else x
def textL (len : Nat) (cb : Nat → Nat) (style : Nat) : Nat → Pos → List UInt8
  | 0, _ => []
  | n + 1, p => UInt8.ofNat (tb style (byteV len cb p)) :: textL len cb style n (byteP len p)
def posL (len : Nat) : Nat → Pos → Pos
  | 0, p => p
  | n + 1, p => posL len n (byteP len p)
theorem textL_length (len : Nat) (cb : Nat → Nat) (style : Nat) : ∀ n p, (textL len cb style n p).length = n
  | 0, _ => rfl
  | n + 1, p => by simp [textL, textL_length len cb style n]
theorem tb_lt (style x : Nat) (h : x < 256) : tb style x < 256 := by unfold tb; (repeat' split) <;> omega
def textV (len : Nat) (cb : Nat → Nat) (most : Nat) (p : Pos) : List UInt8 :=
  textL len cb (belowV len cb 4 p) (belowV len cb (most + 1) (belowP len 4 p)) (belowP len (most + 1) (belowP len 4 p))
def textP (len : Nat) (cb : Nat → Nat) (most : Nat) (p : Pos) : Pos :=
  posL len (belowV len cb (most + 1) (belowP len 4 p)) (belowP len (most + 1) (belowP len 4 p))
theorem textV_length (len : Nat) (cb : Nat → Nat) (most : Nat) (p : Pos) : (textV len cb most p).length ≤ most := by
  unfold textV
  rw [textL_length]
  have := belowV_lt len cb (most + 1) (belowP len 4 p) (by omega)
  omega

/-- What the loop of the text keeps: the cursor, the bytes so far, nothing old turned but the cursor. -/
structure Texting (w : World) (g : Nat) (a : Option Addr) (len cap : Nat) (cb : Nat → Nat) (v : Value) (acc : List UInt8) (p : Pos) (wr : World) : Prop where
  cur : Cur wr g a len cap cb p
  own : wr.ownsRow w.heap.size 5 1 v acc.length (bcells acc)
  grown : w.grownBy wr (some g)
theorem Texting.moved {w wr w1 : World} {g : Nat} {a : Option Addr} {len cap : Nat} {cb : Nat → Nat} {v : Value} {acc : List UInt8} {p q : Pos} (h : Texting w g a len cap cb v acc p wr) (hgs : g < w.heap.size)
    (hc : Cur w1 g a len cap cb q) (hg : wr.grownBy w1 (some g)) : Texting w g a len cap cb v acc q w1 := by
  refine ⟨hc, h.own.kept hg ?_, grownBy_trans h.grown hg⟩
  cases hv : v.ownBlock with
  | none => exact .inl rfl
  | some k =>
    right
    have := (h.own.lt k hv).1
    intro e
    simp at e
    omega
theorem Texting.more {w wr w1 : World} {g : Nat} {a : Option Addr} {len cap : Nat} {cb : Nat → Nat} {v v' : Value} {acc acc' : List UInt8} {p : Pos} (h : Texting w g a len cap cb v acc p wr) (hgs : g < w.heap.size) (h0 : Code w g a len cb)
    (hown : w1.ownsRow w.heap.size 5 1 v' acc'.length (bcells acc')) (hb : Below w.heap.size wr w1) : Texting w g a len cap cb v' acc' p w1 := by
  have hgr : w.grownBy w1 (some g) := ⟨hb.os.trans h.grown.os, hb.tape.trans h.grown.tape, hb.output.trans h.grown.output, Nat.le_trans h.grown.size hb.size, fun k hk hne => (hb.block k hk).trans (h.grown.block k hk hne)⟩
  exact ⟨⟨h0.on hgr, h.cur.le, by rw [hb.block g hgs]; exact h.cur.obj⟩, hown, hgr⟩

set_option maxRecDepth 100000 in
set_option maxHeartbeats 1000000 in
theorem text_any (w : World) (g len cap most : Nat) (a : Option Addr) (cb : Nat → Nat) (p : Pos) (hc : Cur w g a len cap cb p) (hm : most ≤ 1000) :
    Calls Tryd.prog 18 #[.pointer (some ⟨g, 0, none⟩), .int .i64 most] w fun e w' => e = .returned (.string ⟨(textV len cb most p).toArray⟩) ∧ Cur w' g a len cap cb (textP len cb most p) ∧ w.grownBy w' (some g) := by
  have hgs : g < w.heap.size := lt_of_block hc.obj
  have c0 : ∀ o, Calls Tryd.prog 27 #[.pointer (some ⟨g, 0, none⟩), .int .i64 (4 : Nat)] (w.alloc o) fun e w' => e = .returned (.int .i64 (belowV len cb 4 p : Nat)) ∧ Cur w' g a len cap cb (belowP len 4 p) ∧ (w.alloc o).grownBy w' (some g) := fun o => below_any _ g len cap 4 a cb p (hc.alloc o) (by omega) (by omega)
  have c1 := fun w h1 => below_any w g len cap (most + 1) a cb (belowP len 4 p) h1 (by omega) (by omega)
  have hs4 := belowV_lt len cb 4 p (by omega)
  have hn := belowV_lt len cb (most + 1) (belowP len 4 p) (by omega)
  unfold textV textP
  have HC0 : Hid (Code w g a len cb) := hc.code
  generalize belowV len cb 4 p = style at *
  generalize belowP len 4 p = q at *
  generalize belowV len cb (most + 1) q = n at *
  generalize belowP len (most + 1) q = q1 at *
  obtain ⟨L, hL⟩ : ∃ L, L = textL len cb style n q1 := ⟨_, rfl⟩
  obtain ⟨q2, hq2⟩ : ∃ q2, q2 = posL len n q1 := ⟨_, rfl⟩
  rw [← hL, ← hq2]
  have HL : Hid (L = textL len cb style n q1) := hL
  have HQ : Hid (q2 = posL len n q1) := hq2
  have C1 : Hid (∀ w, Cur w g a len cap cb q → _) := c1
  have C0 : Hid (∀ o, _) := c0
  clear hc hL hq2 c1 c0
  go_enter Tryd.func18, Tryd.ntmps18
  go_wp2_with fail
  refine (C0.out _).mono ?_
  rintro e w1 ⟨rfl, hc1, hg1⟩
  have HC : Hid (Cur w1 g a len cap cb q) := hc1
  have HG : Hid ((w.alloc (.cells #[] 5)).grownBy w1 (some g)) := hg1
  clear hc1 hg1 C0
  go_wp2_with fail
  rw [show ((most : Int) + 1) = ((most + 1 : Nat) : Int) by omega]
  refine (C1.out _ HC.out).mono ?_
  rintro e w2 ⟨rfl, hc2, hg2⟩
  have HT : Hid (Texting w g a len cap cb (.slice (some ⟨w.heap.size, 0, none⟩) 0 0) [] q1 w2) := by
    have hga := grownBy_trans (grownBy_trans (World.grownBy_alloc w (.cells #[] 5) (some g)) HG.out) hg2
    refine ⟨hc2, ?_, hga⟩
    have o1 := World.ownsRow_made (base := w.heap.size) (e := 5) (size := 1) w #[] 0 (Nat.le_refl _) (by simp [maxLen]) rfl
    exact (o1.kept HG.out (.inr (by simp [Value.ownBlock]; omega))).kept hg2 (.inr (by simp [Value.ownBlock]; omega))
  clear hc2 hg2 HC HG C1
  go_wp2
  go_loopw [5, 7, 8] (fun v n _ wr => ∃ (acc : List UInt8) (m : Nat) (r : Pos), m ≤ 1000 ∧ acc.length + m ≤ 1000 ∧ n = .int .i64 m ∧ Hid (acc ++ textL len cb style m r = L) ∧ Hid (q2 = posL len m r) ∧ Hid (Texting w g a len cap cb v acc r wr)) (fun _ n _ _ => (intOf n).toNat)
  case atStart => exact ⟨[], n, q1, by omega, by simp; omega, rfl, HL.out.symm, HQ.out, HT.out⟩
  case round =>
    obtain ⟨acc, m, r, hm1, hm2, rfl, hL, hQ, hT⟩ := hrel
    clear HL HQ HT
    by_cases hm0 : 0 < m
    · obtain ⟨m, rfl⟩ : ∃ k, m = k + 1 := ⟨m - 1, by omega⟩
      have hx := byteV_lt len cb r
      have cB := fun w h1 => byte_any w g len cap a cb r h1
      have HL0 := hL.out
      have HQ0 := hQ.out
      simp only [textL] at HL0
      simp only [posL] at HQ0
      generalize byteV len cb r = x at *
      generalize byteP len r = r1 at *
      obtain ⟨b, hb⟩ : ∃ b, b = UInt8.ofNat (tb style x) := ⟨_, rfl⟩
      have HL' : Hid ((acc ++ [b]) ++ textL len cb style m r1 = L) := by show _ = _; rw [hb, ← HL0]; simp
      have HQ' : Hid (q2 = posL len m r1) := HQ0
      have CB : Hid (∀ w, Cur w g a len cap cb r → _) := cB
      clear hL hQ HL0 HQ0 cB
      rcases (show style = 1 ∨ style = 2 ∨ (style ≠ 1 ∧ style ≠ 2) by omega) with hst | hst | hst
      · have s1 : ((style : Int) == 1) = true := by simp [hst]
        have s2 : ((style : Int) == 2) = false := by simp [hst]
        have Hv : Hid (#[Value.int IntKind.u8 ((x : Int) % 2)] = (bcells [b]).toArray) := by
          rw [Hid, hb]; unfold tb; rw [if_pos hst]; simp [bcells]; omega
        clear hb hst
        go_wp2_with fail
        refine (CB.out _ hT.out.cur).mono ?_
        rintro e w3 ⟨rfl, hc3, hg3⟩
        have HT3 : Hid (Texting w g a len cap cb u5 acc r1 w3) := hT.out.moved hgs hc3 hg3
        have hsz : w.heap.size ≤ w3.heap.size := HT3.out.grown.size
        clear hc3 hg3 hT CB
        go_wp2_with (at_builtin; refine wpList_app rfl (.tmp 31) (.tmp 34) rfl w3 w3 w.heap.size _ acc [b] _ 1 rfl rfl HT3.out.own Hv.out rfl (by omega) hsz (Below.refl _ _) ?_)
        intro v' w4 hown' hb4
        have HT4 : Hid (Texting w g a len cap cb v' (acc ++ [b]) r1 w4) := HT3.out.more hgs HC0.out (by rw [List.length_append]; exact hown'.out) hb4
        clear HT3 hown' hb4
        go_wp2
        exact ⟨⟨acc ++ [b], m, r1, by omega, by simp; omega, by go_num, HL'.out, HQ'.out, HT4.out⟩, by simp [intOf]⟩
      · have s1 : ((style : Int) == 1) = false := by simp [hst]
        have s2 : ((style : Int) == 2) = true := by simp [hst]
        have Hv : Hid (#[Value.int IntKind.u8 (97 + (x : Int) % 4)] = (bcells [b]).toArray) := by
          rw [Hid, hb]; unfold tb; rw [if_neg (by omega), if_pos hst]; simp [bcells]; omega
        clear hb hst
        go_wp2_with fail
        refine (CB.out _ hT.out.cur).mono ?_
        rintro e w3 ⟨rfl, hc3, hg3⟩
        have HT3 : Hid (Texting w g a len cap cb u5 acc r1 w3) := hT.out.moved hgs hc3 hg3
        have hsz : w.heap.size ≤ w3.heap.size := HT3.out.grown.size
        clear hc3 hg3 hT CB
        go_wp2_with (at_builtin; refine wpList_app rfl (.tmp 31) (.tmp 34) rfl w3 w3 w.heap.size _ acc [b] _ 1 rfl rfl HT3.out.own Hv.out rfl (by omega) hsz (Below.refl _ _) ?_)
        intro v' w4 hown' hb4
        have HT4 : Hid (Texting w g a len cap cb v' (acc ++ [b]) r1 w4) := HT3.out.more hgs HC0.out (by rw [List.length_append]; exact hown'.out) hb4
        clear HT3 hown' hb4
        go_wp2
        exact ⟨⟨acc ++ [b], m, r1, by omega, by simp; omega, by go_num, HL'.out, HQ'.out, HT4.out⟩, by simp [intOf]⟩
      · have s1 : ((style : Int) == 1) = false := by rw [beq_eq_false_iff_ne]; omega
        have s2 : ((style : Int) == 2) = false := by rw [beq_eq_false_iff_ne]; omega
        have Hv : Hid (#[Value.int IntKind.u8 ((x : Int))] = (bcells [b]).toArray) := by
          rw [Hid, hb]; unfold tb; rw [if_neg hst.1, if_neg hst.2]; simp [bcells]; omega
        clear hb hst
        go_wp2_with fail
        refine (CB.out _ hT.out.cur).mono ?_
        rintro e w3 ⟨rfl, hc3, hg3⟩
        have HT3 : Hid (Texting w g a len cap cb u5 acc r1 w3) := hT.out.moved hgs hc3 hg3
        have hsz : w.heap.size ≤ w3.heap.size := HT3.out.grown.size
        clear hc3 hg3 hT CB
        go_wp2_with (at_builtin; refine wpList_app rfl (.tmp 31) (.tmp 34) rfl w3 w3 w.heap.size _ acc [b] _ 1 rfl rfl HT3.out.own Hv.out rfl (by omega) hsz (Below.refl _ _) ?_)
        intro v' w4 hown' hb4
        have HT4 : Hid (Texting w g a len cap cb v' (acc ++ [b]) r1 w4) := HT3.out.more hgs HC0.out (by rw [List.length_append]; exact hown'.out) hb4
        clear HT3 hown' hb4
        go_wp2
        exact ⟨⟨acc ++ [b], m, r1, by omega, by simp; omega, by go_num, HL'.out, HQ'.out, HT4.out⟩, by simp [intOf]⟩
    · obtain rfl : m = 0 := by omega
      have hconv := conv_own wr _ _ _ _ hT.out.own
      have HL' : Hid (acc = L) := by have := hL.out; simpa [textL, Hid] using this
      have HQ' : Hid (q2 = r) := hQ.out
      have HF : Hid (Cur wr g a len cap cb q2 ∧ w.grownBy wr (some g)) := by rw [HQ'.out]; exact ⟨hT.out.cur, hT.out.grown⟩
      clear hL hQ hT HQ'
      go_wp2
      go_ret
      rw [HL'.out]
      exact ⟨rfl, HF.out.1, HF.out.2⟩
end Go.Proofs.YtkjabochhhalhacDoor
