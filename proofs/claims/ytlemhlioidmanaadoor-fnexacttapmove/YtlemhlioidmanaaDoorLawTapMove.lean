/-
  The law of TapMove: what the program answers is what the model answers, at every argument; it writes into none, and its answer owns its memory.
-/
import Derived.Test.YtlemhlioidmanaaDoorCallW
import Derived.Test.YtlemhlioidmanaaDoorReads
namespace Go.Proofs.YtlemhlioidmanaaDoor
open Go.RowKit
set_option linter.unusedVariables false
set_option maxRecDepth 100000

namespace LTapMove
set_option maxRecDepth 100000 in
set_option maxHeartbeats 8000000 in
theorem small (a : Option Addr) (n cap : Nat) (tss : List (List Re)) (P r p q h k t : Int) (w : World) (hx : IsTrees w (.slice a n cap) tss) (hn : n = tss.length) (hf : ((tss.length : Int) + woodN tss) ≤ 1048576) (hse : Sent w) :
    Calls Tryd.prog 3 #[.slice a n cap, .int .i64 P, tapV r p q h k t] w fun e w' => e = .returned (.bool true) ∧ Below w.heap.size w w' := by
  have hm := small_lens hf
  have hl : tss.length ≤ 1048576 := by omega
  have hnn : ¬ (1048576 - (tss.length : Int) - woodN tss < 0) := by omega
  have HX : Hid (∀ w', Below w.heap.size w w' → IsTrees w' (.slice a n cap) tss) := fun w' hb => hx.on hb
  have HNT : Hid (tss.length = n) := hn.symm
  have CZ := fun w' (hb : Below w.heap.size w w') => szTreeS_any _ tss w' (HX.out w' hb) (by omega) (fun i => by have := hm i; omega)
  rw [szA_yes hf] at CZ
  have HSE : Hid (Sent w) := hse
  obtain ⟨ns, hns⟩ : ∃ x, x = moveOf tss P r p q h k t := ⟨_, rfl⟩
  obtain ⟨M, hM⟩ : ∃ x, x = moveM tss P r p q h k t := ⟨_, rfl⟩
  have hnl : ns.length = tss.length := by rw [hns]; exact moveOf_length tss P r p q h k t
  have hnw : woodN ns = woodN tss := by rw [hns]; exact moveOf_woodN tss P r p q h k t
  have HNN : Hid (ns.length = n) := by show ns.length = n; rw [hnl, hn]
  have hf2 : ((ns.length : Int) + woodN ns) ≤ 1048576 := by rw [hnl, hnw]; exact hf
  have hm2 := small_lens hf2
  obtain ⟨K1, hK1⟩ : ∃ x : Int, x = 1 + 5 * (woodN tss : Int) := ⟨_, rfl⟩
  obtain ⟨K2, hK2⟩ : ∃ x : Int, x = 1 + 5 * (woodN ns : Int) := ⟨_, rfl⟩
  have hp1 : ¬ (K1 < 0) := by omega
  have hp2 : ¬ (K2 < 0) := by omega
  have hne : (M != M) = false := by simp
  have hne2 : (K2 != K2) = false := by simp
  have CT : Hid (∀ w', Below w.heap.size w w' → Calls Tryd.prog 6 #[.slice a n cap] w' fun e w'' => e = .returned (.slice (some ⟨w'.heap.size, 0, none⟩) n n) ∧ OwnWs w'.heap.size n tss w'.heap.size w''.heap.size w'' ∧ Below w'.heap.size w' w'') := fun w' hb => by
    refine (toTreeS_any _ tss w' (HX.out w' hb) hl hm).mono ?_
    rintro e w'' ⟨rfl, ⟨fs, h1, h2⟩, h3⟩
    rw [← hn] at h2 ⊢
    exact ⟨rfl, ⟨fs, [], h1, h2⟩, h3⟩
  have CA := fun w => toTap_any r p q h k t w
  have CS : Hid (∀ p0 c w', IsWood w' (.slice (some p0) n c) tss → Calls Tryd.prog 5 #[.slice (some p0) n c, .int .i64 P, tapV r p q h k t] w' fun e w'' => ∃ g c, e = .returned (.tuple #[.slice (some ⟨g, 0, none⟩) n c, .int .i64 M]) ∧ OwnWs g c ns w'.heap.size w''.heap.size w'' ∧ Below w'.heap.size w' w'') := fun p0 c w' hi => by
    have hc : n ≤ c := by obtain ⟨p', c', hv, h1, _⟩ := hi; simp only [Value.slice.injEq] at hv; omega
    refine (specMove_any p0 n c tss P r p q h k t w' hi hn hc (by omega) hm).mono ?_
    rintro e w'' ⟨g, c', fs, rest, rfl, h1, h2, h3⟩
    rw [← hns] at h1 ⊢
    rw [← hM, HNN.out]
    exact ⟨g, c', rfl, ⟨fs, rest, h1, h2⟩, h3⟩
  have CI : Hid (∀ p0 c w', IsWood w' (.slice (some p0) n c) tss → Below w.heap.size w w' → Calls Tryd.prog 8 #[.slice (some p0) n c, .int .i64 P, tapV r p q h k t] w' fun e w'' => ∃ g c, e = .returned (.tuple #[.slice (some ⟨g, 0, none⟩) n c, .int .i64 M]) ∧ OwnWs g c ns w'.heap.size w''.heap.size w'' ∧ Below w'.heap.size w' w'') := fun p0 c w' hi hb => by
    have hc : n ≤ c := by obtain ⟨p', c', hv, h1, _⟩ := hi; simp only [Value.slice.injEq] at hv; omega
    refine (implMove_any p0 n c tss P r p q h k t w' hi hn hc (by omega) hm (HSE.out.on hb)).mono ?_
    rintro e w'' ⟨g, c', fs, rest, rfl, h1, h2, h3⟩
    rw [← hns] at h1 ⊢
    rw [← hM, HNN.out]
    exact ⟨g, c', rfl, ⟨fs, rest, h1, h2⟩, h3⟩
  have CE : Hid (∀ v u w', IsWood w' v tss → IsWood w' u tss → Calls Tryd.prog 9 #[v, u] w' fun e w'' => e = .returned (.bool true) ∧ Below w'.heap.size w' w'') := fun v u w' h1 h2 => eqTreeS_same v u tss w' h1.trees h2.trees hl hm
  have CQ : Hid (∀ v u w', IsWood w' v ns → IsWood w' u ns → Calls Tryd.prog 9 #[v, u] w' fun e w'' => e = .returned (.bool true) ∧ Below w'.heap.size w' w'') := fun v u w' h1 h2 => eqTreeS_same v u ns w' h1.trees h2.trees (by omega) hm2
  have CM1 : Hid (∀ g c lo hi w', OwnWs g c tss lo hi w' → Calls Tryd.prog 10 #[.slice (some ⟨g, 0, none⟩) n c, .int .i64 1] w' fun e w'' => e = .returned (.int .i64 K1) ∧ Turned lo hi w' w'') := fun g c lo hi w' ho => by
    obtain ⟨fs, rest, h1, h2⟩ := ho
    have h3 : n = fs.length := by rw [hn, ← h1, leafTs_length]
    refine (markTreeS_own g c n fs rest lo hi w' h2 h3 (by rw [h1, hn]; exact hf)).mono ?_
    rintro e w'' ⟨rfl, h4, h5⟩
    rw [h1, ← hK1]
    exact ⟨rfl, h5⟩
  have CM2 : Hid (∀ g c lo hi w', OwnWs g c ns lo hi w' → Calls Tryd.prog 10 #[.slice (some ⟨g, 0, none⟩) n c, .int .i64 1] w' fun e w'' => e = .returned (.int .i64 K2) ∧ OwnWs g c (upWood 1 ns) lo hi w'' ∧ Turned lo hi w' w'') := fun g c lo hi w' ho => by
    obtain ⟨fs, rest, h1, h2⟩ := ho
    have h3 : n = fs.length := by rw [← HNN.out, ← h1, leafTs_length]
    refine (markTreeS_own g c n fs rest lo hi w' h2 h3 (by rw [h1, ← HNN.out]; exact hf2)).mono ?_
    rintro e w'' ⟨rfl, h4, h5⟩
    rw [h1, ← hK2]
    exact ⟨rfl, ⟨_, rest, by rw [markW_end, h1], h4⟩, h5⟩
  have CH : Hid (∀ g c lo hi w', OwnWs g c (upWood 1 ns) lo hi w' → Calls Tryd.prog 11 #[.slice (some ⟨g, 0, none⟩) n c, .int .i64 1] w' fun e w'' => e = .returned (.int .i64 K2) ∧ w'' = w') := fun g c lo hi w' ho => by
    have e := heldTreeS_up _ ns w' (ho.wood n (by rw [upWood_length]; exact HNN.out)).trees hf2
    rw [← hK2] at e
    exact e
  clear hx hn hf hf2 hm hm2 hl hse hns hM hnl hnw hK1 hK2 HX
  have HB0 : Hid (Below w.heap.size w (w.alloc (boxTL r p q h k t))) := below_alloc w _
  have HL0 : Hid (TapM (w.alloc (boxTL r p q h k t)) w.heap.size r p q h k t) := ⟨heap_alloc_new w _⟩
  have HLO : Hid (w.heap.size < (w.alloc (boxTL r p q h k t)).heap.size) := by show _ < _; simp
  have C' : Hid (∀ w', Below w.heap.size w w' → Calls Tryd.prog 4 #[.slice a n cap, .int .i64 1048576] w' fun e w'' => e = .returned (.int .i64 (1048576 - tss.length - woodN tss)) ∧ Below w'.heap.size w' w'') := CZ
  clear CZ HSE
  go_enter Tryd.func3, Tryd.ntmps3
  go_wp2_with fail
  refine (C'.out _ HB0.out).mono ?_
  rintro e w0 ⟨rfl, hb⟩
  have HB1 := hid_of (below_more HB0.out hb)
  have HL1 := hid_of (HL0.out.on hb)
  have HLO1 : Hid (w.heap.size < w0.heap.size) := Nat.lt_of_lt_of_le HLO.out hb.size
  clear C' hb HB0 HL0 HLO
  go_wp2_with fail
  refine wp_region_whole (by kernel_rfl) (by kernel_rfl) (by kernel_rfl) (by kernel_rfl) (CallW w0 n tss ns 11 1 5 [.slice a n cap, undef, .int .i64 P, tapV r p q h k t, tapV r p q h k t] (fun s => [.tuple #[s, .int .i64 M], .tuple #[s, .int .i64 M], s, .int .i64 M, s, .int .i64 M])) (callW_start w0 n tss ns 11 1 5 _ _) ?_ ?_
  · refine ⟨?_, ?_, ?_, ?_, ?_, ?_, ?_, ?_, ?_, ?_, ?_, trivial⟩
    · intro b0 us wz L hslot hoth hLi hR hcl hdo K hK
      have s0 : b0.tmps.getD 0 undef = .slice a n cap := hoth 0 (by rfl)
      clear hslot hoth hdo hcl hLi
      refine guard_none (by rfl) ?_
      go_simp
      exact hK _ _ (hR.mark (by decide) (by decide) (Below.refl _ _) rfl)
    · intro b0 us wz L hslot hoth hLi hR hcl hdo K hK
      have s24 : b0.tmps.getD 24 undef = .slice a n cap := (hslot 0 24 (by rfl)).trans (hR.vals 0 (by decide) (by decide) (done_at hdo 0 (by rfl)))
      clear hslot hoth hdo hcl hLi
      refine guard_none (by rfl) ?_
      go_simp
      refine (CT.out wz (below_more HB1.out hR.below)).mono ?_
      rintro e w' ⟨rfl, hr_, hb⟩
      exact hK _ _ (hR.copy (by decide) hb (hr_.wood n HNT.out))
    · intro b0 us wz L hslot hoth hLi hR hcl hdo K hK
      have s1 : b0.tmps.getD 1 undef = .int .i64 P := hoth 1 (by rfl)
      clear hslot hoth hdo hcl hLi
      refine guard_none (by rfl) ?_
      go_simp
      exact hK _ _ (hR.mark (by decide) (by decide) (Below.refl _ _) rfl)
    · intro b0 us wz L hslot hoth hLi hR hcl hdo K hK
      have s5 : b0.tmps.getD 5 undef = .pointer (some ⟨w.heap.size, 0, none⟩) := hoth 5 (by rfl)
      have bb := HL1.out.on hR.below
      have k0 := bb.c0
      have k1 := bb.c1
      have k2 := bb.c2
      have k3 := bb.c3
      have k4 := bb.c4
      have k5 := bb.c5
      clear bb
      clear hslot hoth hdo hcl hLi
      refine guard_none (by rfl) ?_
      go_simp
      exact hK _ _ (hR.mark (by decide) (by decide) (Below.refl _ _) rfl)
    · intro b0 us wz L hslot hoth hLi hR hcl hdo K hK
      have s27 : b0.tmps.getD 27 undef = tapV r p q h k t := (hslot 3 27 (by rfl)).trans (hR.vals 3 (by decide) (by decide) (done_at hdo 3 (by rfl)))
      clear hslot hoth hdo hcl hLi
      refine guard_none (by rfl) ?_
      go_simp
      refine (CA wz).mono ?_
      rintro e w' ⟨rfl, hb⟩
      exact hK _ _ (hR.mark (by decide) (by decide) hb rfl)
    · intro b0 us wz L hslot hoth hLi hR hcl hdo K hK
      obtain ⟨gt, hut, htt⟩ := hR.tree (done_at hdo 1 (by rfl))
      have s25 : b0.tmps.getD 25 undef = .slice (some ⟨gt, 0, none⟩) n n := (hslot 1 25 (by rfl)).trans hut
      have s26 : b0.tmps.getD 26 undef = .int .i64 P := (hslot 2 26 (by rfl)).trans (hR.vals 2 (by decide) (by decide) (done_at hdo 2 (by rfl)))
      have s28 : b0.tmps.getD 28 undef = tapV r p q h k t := (hslot 4 28 (by rfl)).trans (hR.vals 4 (by decide) (by decide) (done_at hdo 4 (by rfl)))
      have n6 : L 6 = false := by
        cases h : L 6 with
        | false => rfl
        | true => rw [done_at (hcl 6 _ rfl h) 5 (by rfl)] at hLi; cases hLi
      have n7 : L 7 = false := by
        cases h : L 7 with
        | false => rfl
        | true => rw [done_at (hcl 7 _ rfl h) 6 (by rfl)] at n6; cases n6
      have n8 : L 8 = false := by
        cases h : L 8 with
        | false => rfl
        | true => rw [done_at (hcl 8 _ rfl h) 6 (by rfl)] at n6; cases n6
      have n9 : L 9 = false := by
        cases h : L 9 with
        | false => rfl
        | true => rw [done_at (hcl 9 _ rfl h) 7 (by rfl)] at n7; cases n7
      have n10 : L 10 = false := by
        cases h : L 10 with
        | false => rfl
        | true => rw [done_at (hcl 10 _ rfl h) 8 (by rfl)] at n8; cases n8
      have hL0 : ∀ j, 5 < j → j < 11 → L j = false := fun j hj hj2 => by
        have hc : j = 6 ∨ j = 7 ∨ j = 8 ∨ j = 9 ∨ j = 10 := by omega
        rcases hc with rfl | rfl | rfl | rfl | rfl
        · exact n6
        · exact n7
        · exact n8
        · exact n9
        · exact n10
      clear hslot hoth hdo hcl hLi
      refine guard_none (by rfl) ?_
      go_simp
      refine (CS.out _ _ _ htt).mono ?_
      rintro e w' ⟨gq, cq, rfl, hoq, hb⟩
      exact hK _ _ (hR.call (by decide) hL0 hb hoq rfl)
    · intro b0 us wz L hslot hoth hLi hR hcl hdo K hK
      obtain ⟨gq, cq, hoq, huq⟩ := hR.ans 5 (by decide) (done_at hdo 5 (by rfl))
      have s29 : b0.tmps.getD 29 undef = .tuple #[(.slice (some ⟨gq, 0, none⟩) n cq), .int .i64 M] := (hslot 5 29 (by rfl)).trans (huq 5 (by decide) (by decide) (done_at hdo 5 (by rfl)))
      clear hslot hoth hdo hcl hLi
      refine guard_none (by rfl) ?_
      go_simp
      exact hK _ _ (hR.after (by decide) (by decide) hoq huq rfl)
    · intro b0 us wz L hslot hoth hLi hR hcl hdo K hK
      obtain ⟨gq, cq, hoq, huq⟩ := hR.ans 6 (by decide) (done_at hdo 6 (by rfl))
      have s23 : b0.tmps.getD 23 undef = .tuple #[(.slice (some ⟨gq, 0, none⟩) n cq), .int .i64 M] := (hslot 6 23 (by rfl)).trans (huq 6 (by decide) (by decide) (done_at hdo 6 (by rfl)))
      clear hslot hoth hdo hcl hLi
      refine guard_none (by rfl) ?_
      go_simp
      exact hK _ _ (hR.after (by decide) (by decide) hoq huq rfl)
    · intro b0 us wz L hslot hoth hLi hR hcl hdo K hK
      obtain ⟨gq, cq, hoq, huq⟩ := hR.ans 6 (by decide) (done_at hdo 6 (by rfl))
      have s23 : b0.tmps.getD 23 undef = .tuple #[(.slice (some ⟨gq, 0, none⟩) n cq), .int .i64 M] := (hslot 6 23 (by rfl)).trans (huq 6 (by decide) (by decide) (done_at hdo 6 (by rfl)))
      clear hslot hoth hdo hcl hLi
      refine guard_none (by rfl) ?_
      go_simp
      exact hK _ _ (hR.after (by decide) (by decide) hoq huq rfl)
    · intro b0 us wz L hslot hoth hLi hR hcl hdo K hK
      obtain ⟨gq, cq, hoq, huq⟩ := hR.ans 7 (by decide) (done_at hdo 7 (by rfl))
      have s30 : b0.tmps.getD 30 undef = (.slice (some ⟨gq, 0, none⟩) n cq) := (hslot 7 30 (by rfl)).trans (huq 7 (by decide) (by decide) (done_at hdo 7 (by rfl)))
      clear hslot hoth hdo hcl hLi
      refine guard_none (by rfl) ?_
      go_simp
      exact hK _ _ (hR.after (by decide) (by decide) hoq huq rfl)
    · intro b0 us wz L hslot hoth hLi hR hcl hdo K hK
      obtain ⟨gq, cq, hoq, huq⟩ := hR.ans 8 (by decide) (done_at hdo 8 (by rfl))
      have s31 : b0.tmps.getD 31 undef = .int .i64 M := (hslot 8 31 (by rfl)).trans (huq 8 (by decide) (by decide) (done_at hdo 8 (by rfl)))
      clear hslot hoth hdo hcl hLi
      refine guard_none (by rfl) ?_
      go_simp
      exact hK _ _ (hR.after (by decide) (by decide) hoq huq rfl)
  · intro us w2 L hall hR a' ha'
    obtain ⟨gS, cS, hoq, huq⟩ := hR.ans 5 (by decide) (hall 5 (by decide))
    have g9 : us 9 = (.slice (some ⟨gS, 0, none⟩) n cS) := huq 9 (by decide) (by decide) (hall 9 (by decide))
    have g10 : us 10 = .int .i64 M := huq 10 (by decide) (by decide) (hall 10 (by decide))
    have hbW := hR.below
    have HOQ := hid_of hoq
    clear huq hR hall hoq
    simp only [putAll, g9, g10] at ha'
    subst ha'
    go_frame
    have HN2 : Hid (NW w w0.heap.size gS cS ns w2.heap.size r p q h k t w2) := ⟨HOQ.out, HL1.out.on hbW, below_more HB1.out hbW, HLO1.out⟩
    clear HOQ hbW HB1 HL1 CS HLO1
    go_wp2_with fail
    refine (CT.out _ HN2.out.below).mono ?_
    rintro e w3 ⟨rfl, hr, hb⟩
    have HN3 := hid_of (HN2.out.on hb)
    have HX3 : Hid (OwnWs w2.heap.size n tss w2.heap.size w3.heap.size w3) := hr
    clear hr hb HN2
    have k0 := HN3.out.l.c0
    have k1 := HN3.out.l.c1
    have k2 := HN3.out.l.c2
    have k3 := HN3.out.l.c3
    have k4 := HN3.out.l.c4
    have k5 := HN3.out.l.c5
    go_wp2_with fail
    refine (CA _).mono ?_
    rintro e w3a ⟨rfl, hb⟩
    have HN3a := hid_of (HN3.out.on hb)
    have HX3a := hid_of (HX3.out.on hb)
    have HSZ : Hid (w3.heap.size ≤ w3a.heap.size) := hb.size
    clear hb HN3 HX3 k0 k1 k2 k3 k4 k5
    go_wp2_with fail
    refine (CI.out _ _ _ (HX3a.out.wood n HNT.out) HN3a.out.below).mono ?_
    rintro e w4 ⟨gR, cR, rfl, hR, hb⟩
    have HR4 : Hid (OwnWs gR cR ns w3.heap.size w4.heap.size w4) := hR.wide HSZ.out (Nat.le_refl _)
    have HN4 := hid_of (HN3a.out.on hb)
    have HX4 := hid_of (HX3a.out.on hb)
    clear hR hb HN3a HX3a
    go_wp2_with fail
    refine (CQ.out _ _ _ (HR4.out.wood n HNN.out) (HN4.out.s.wood n HNN.out)).mono ?_
    rintro e w5 ⟨rfl, hb⟩
    have HR5 := hid_of (HR4.out.on hb)
    have HN5 := hid_of (HN4.out.on hb)
    have HX5 := hid_of (HX4.out.on hb)
    clear hb HR4 HN4 HX4
    go_wp2_with fail
    refine (CT.out _ HN5.out.below).mono ?_
    rintro e w6 ⟨rfl, hr, hb⟩
    have HI6 := hid_of (hr.wood n HNT.out)
    clear hr
    have HR6 := hid_of (HR5.out.on hb)
    have HN6 := hid_of (HN5.out.on hb)
    have HX6 := hid_of (HX5.out.on hb)
    clear hb HR5 HN5 HX5
    go_wp2_with fail
    refine (CE.out _ _ _ (HX6.out.wood n HNT.out) HI6.out).mono ?_
    rintro e w7 ⟨rfl, hb⟩
    have HR7 := hid_of (HR6.out.on hb)
    have HN7 := hid_of (HN6.out.on hb)
    have HX7 := hid_of (HX6.out.on hb)
    clear hb HR6 HN6 HX6
    clear HI6 CE
    go_wp2_with fail
    refine (CM1.out _ _ _ _ _ HX7.out).mono ?_
    rintro e w8 ⟨rfl, ht⟩
    have HR8 : Hid (OwnWs gR cR ns w3.heap.size w4.heap.size w8) := HR7.out.turned ht (.inr (Nat.le_refl _))
    have HN8 := hid_of (HN7.out.behind ht (Nat.le_refl _))
    have HX87 : Hid (w2.heap.size < w3.heap.size) := HX7.out.hi
    clear ht HR7 HN7 HX7 CM1
    go_wp2_with fail
    refine (CQ.out _ _ _ (HR8.out.wood n HNN.out) (HN8.out.s.wood n HNN.out)).mono ?_
    rintro e w9 ⟨rfl, hb⟩
    have HR9 := hid_of (HR8.out.on hb)
    have HN9 := hid_of (HN8.out.on hb)
    clear hb HR8 HN8
    go_wp2_with fail
    refine (CM2.out _ _ _ _ _ HR9.out).mono ?_
    rintro e wA ⟨rfl, hu, ht⟩
    have HRA := hid_of hu
    have HNA := hid_of (HN9.out.behind ht (Nat.le_of_lt HX87.out))
    clear hu ht HR9 HN9 CM2 HX87
    go_wp2_with fail
    refine (CH.out _ _ _ _ _ HRA.out).mono ?_
    rintro e wB ⟨rfl, hwB⟩
    subst hwB
    go_wp2_with fail
    refine wp_region_whole (by kernel_rfl) (by kernel_rfl) (by kernel_rfl) (by kernel_rfl) (CallW wB n tss ns 11 1 5 [.slice a n cap, undef, .int .i64 P, tapV r p q h k t, tapV r p q h k t] (fun s => [.tuple #[s, .int .i64 M], .tuple #[s, .int .i64 M], s, .int .i64 M, s, .int .i64 M])) (callW_start wB n tss ns 11 1 5 _ _) ?_ ?_
    · refine ⟨?_, ?_, ?_, ?_, ?_, ?_, ?_, ?_, ?_, ?_, ?_, trivial⟩
      · intro b0 us wz L hslot hoth hLi hR hcl hdo K hK
        have s0 : b0.tmps.getD 0 undef = .slice a n cap := hoth 0 (by rfl)
        clear hslot hoth hdo hcl hLi
        refine guard_none (by rfl) ?_
        go_simp
        exact hK _ _ (hR.mark (by decide) (by decide) (Below.refl _ _) rfl)
      · intro b0 us wz L hslot hoth hLi hR hcl hdo K hK
        have s84 : b0.tmps.getD 84 undef = .slice a n cap := (hslot 0 84 (by rfl)).trans (hR.vals 0 (by decide) (by decide) (done_at hdo 0 (by rfl)))
        clear hslot hoth hdo hcl hLi
        refine guard_none (by rfl) ?_
        go_simp
        refine (CT.out wz (below_more HNA.out.below hR.below)).mono ?_
        rintro e w' ⟨rfl, hr_, hb⟩
        exact hK _ _ (hR.copy (by decide) hb (hr_.wood n HNT.out))
      · intro b0 us wz L hslot hoth hLi hR hcl hdo K hK
        have s1 : b0.tmps.getD 1 undef = .int .i64 P := hoth 1 (by rfl)
        clear hslot hoth hdo hcl hLi
        refine guard_none (by rfl) ?_
        go_simp
        exact hK _ _ (hR.mark (by decide) (by decide) (Below.refl _ _) rfl)
      · intro b0 us wz L hslot hoth hLi hR hcl hdo K hK
        have s5 : b0.tmps.getD 5 undef = .pointer (some ⟨w.heap.size, 0, none⟩) := hoth 5 (by rfl)
        have bb := HNA.out.l.on hR.below
        have k0 := bb.c0
        have k1 := bb.c1
        have k2 := bb.c2
        have k3 := bb.c3
        have k4 := bb.c4
        have k5 := bb.c5
        clear bb
        clear hslot hoth hdo hcl hLi
        refine guard_none (by rfl) ?_
        go_simp
        exact hK _ _ (hR.mark (by decide) (by decide) (Below.refl _ _) rfl)
      · intro b0 us wz L hslot hoth hLi hR hcl hdo K hK
        have s87 : b0.tmps.getD 87 undef = tapV r p q h k t := (hslot 3 87 (by rfl)).trans (hR.vals 3 (by decide) (by decide) (done_at hdo 3 (by rfl)))
        clear hslot hoth hdo hcl hLi
        refine guard_none (by rfl) ?_
        go_simp
        refine (CA wz).mono ?_
        rintro e w' ⟨rfl, hb⟩
        exact hK _ _ (hR.mark (by decide) (by decide) hb rfl)
      · intro b0 us wz L hslot hoth hLi hR hcl hdo K hK
        obtain ⟨gt, hut, htt⟩ := hR.tree (done_at hdo 1 (by rfl))
        have s85 : b0.tmps.getD 85 undef = .slice (some ⟨gt, 0, none⟩) n n := (hslot 1 85 (by rfl)).trans hut
        have s86 : b0.tmps.getD 86 undef = .int .i64 P := (hslot 2 86 (by rfl)).trans (hR.vals 2 (by decide) (by decide) (done_at hdo 2 (by rfl)))
        have s88 : b0.tmps.getD 88 undef = tapV r p q h k t := (hslot 4 88 (by rfl)).trans (hR.vals 4 (by decide) (by decide) (done_at hdo 4 (by rfl)))
        have n6 : L 6 = false := by
          cases h : L 6 with
          | false => rfl
          | true => rw [done_at (hcl 6 _ rfl h) 5 (by rfl)] at hLi; cases hLi
        have n7 : L 7 = false := by
          cases h : L 7 with
          | false => rfl
          | true => rw [done_at (hcl 7 _ rfl h) 6 (by rfl)] at n6; cases n6
        have n8 : L 8 = false := by
          cases h : L 8 with
          | false => rfl
          | true => rw [done_at (hcl 8 _ rfl h) 6 (by rfl)] at n6; cases n6
        have n9 : L 9 = false := by
          cases h : L 9 with
          | false => rfl
          | true => rw [done_at (hcl 9 _ rfl h) 7 (by rfl)] at n7; cases n7
        have n10 : L 10 = false := by
          cases h : L 10 with
          | false => rfl
          | true => rw [done_at (hcl 10 _ rfl h) 8 (by rfl)] at n8; cases n8
        have hL0 : ∀ j, 5 < j → j < 11 → L j = false := fun j hj hj2 => by
          have hc : j = 6 ∨ j = 7 ∨ j = 8 ∨ j = 9 ∨ j = 10 := by omega
          rcases hc with rfl | rfl | rfl | rfl | rfl
          · exact n6
          · exact n7
          · exact n8
          · exact n9
          · exact n10
        clear hslot hoth hdo hcl hLi
        refine guard_none (by rfl) ?_
        go_simp
        refine (CI.out _ _ _ htt (below_more HNA.out.below hR.below)).mono ?_
        rintro e w' ⟨gq, cq, rfl, hoq, hb⟩
        exact hK _ _ (hR.call (by decide) hL0 hb hoq rfl)
      · intro b0 us wz L hslot hoth hLi hR hcl hdo K hK
        obtain ⟨gq, cq, hoq, huq⟩ := hR.ans 5 (by decide) (done_at hdo 5 (by rfl))
        have s89 : b0.tmps.getD 89 undef = .tuple #[(.slice (some ⟨gq, 0, none⟩) n cq), .int .i64 M] := (hslot 5 89 (by rfl)).trans (huq 5 (by decide) (by decide) (done_at hdo 5 (by rfl)))
        clear hslot hoth hdo hcl hLi
        refine guard_none (by rfl) ?_
        go_simp
        exact hK _ _ (hR.after (by decide) (by decide) hoq huq rfl)
      · intro b0 us wz L hslot hoth hLi hR hcl hdo K hK
        obtain ⟨gq, cq, hoq, huq⟩ := hR.ans 6 (by decide) (done_at hdo 6 (by rfl))
        have s83 : b0.tmps.getD 83 undef = .tuple #[(.slice (some ⟨gq, 0, none⟩) n cq), .int .i64 M] := (hslot 6 83 (by rfl)).trans (huq 6 (by decide) (by decide) (done_at hdo 6 (by rfl)))
        clear hslot hoth hdo hcl hLi
        refine guard_none (by rfl) ?_
        go_simp
        exact hK _ _ (hR.after (by decide) (by decide) hoq huq rfl)
      · intro b0 us wz L hslot hoth hLi hR hcl hdo K hK
        obtain ⟨gq, cq, hoq, huq⟩ := hR.ans 6 (by decide) (done_at hdo 6 (by rfl))
        have s83 : b0.tmps.getD 83 undef = .tuple #[(.slice (some ⟨gq, 0, none⟩) n cq), .int .i64 M] := (hslot 6 83 (by rfl)).trans (huq 6 (by decide) (by decide) (done_at hdo 6 (by rfl)))
        clear hslot hoth hdo hcl hLi
        refine guard_none (by rfl) ?_
        go_simp
        exact hK _ _ (hR.after (by decide) (by decide) hoq huq rfl)
      · intro b0 us wz L hslot hoth hLi hR hcl hdo K hK
        obtain ⟨gq, cq, hoq, huq⟩ := hR.ans 7 (by decide) (done_at hdo 7 (by rfl))
        have s90 : b0.tmps.getD 90 undef = (.slice (some ⟨gq, 0, none⟩) n cq) := (hslot 7 90 (by rfl)).trans (huq 7 (by decide) (by decide) (done_at hdo 7 (by rfl)))
        clear hslot hoth hdo hcl hLi
        refine guard_none (by rfl) ?_
        go_simp
        exact hK _ _ (hR.after (by decide) (by decide) hoq huq rfl)
      · intro b0 us wz L hslot hoth hLi hR hcl hdo K hK
        obtain ⟨gq, cq, hoq, huq⟩ := hR.ans 8 (by decide) (done_at hdo 8 (by rfl))
        have s91 : b0.tmps.getD 91 undef = .int .i64 M := (hslot 8 91 (by rfl)).trans (huq 8 (by decide) (by decide) (done_at hdo 8 (by rfl)))
        clear hslot hoth hdo hcl hLi
        refine guard_none (by rfl) ?_
        go_simp
        exact hK _ _ (hR.after (by decide) (by decide) hoq huq rfl)
    · intro us wD L hall hR a' ha'
      obtain ⟨gH, cH, hoq, huq⟩ := hR.ans 5 (by decide) (hall 5 (by decide))
      have g9 : us 9 = (.slice (some ⟨gH, 0, none⟩) n cH) := huq 9 (by decide) (by decide) (hall 9 (by decide))
      have g10 : us 10 = .int .i64 M := huq 10 (by decide) (by decide) (hall 10 (by decide))
      have hbW := hR.below
      have HOQ := hid_of hoq
      clear huq hR hall hoq
      simp only [putAll, g9, g10] at ha'
      subst ha'
      go_frame
      have HRD := hid_of (HRA.out.on hbW)
      have HND := hid_of (HNA.out.on hbW)
      have HHD := hid_of (HOQ.out.wood n HNN.out)
      clear HOQ hbW HRA HNA
      go_wp2_with fail
      refine (CQ.out _ _ _ HHD.out (HND.out.s.wood n HNN.out)).mono ?_
      rintro e wE ⟨rfl, hb⟩
      have HRE := hid_of (HRD.out.on hb)
      have HNE := hid_of (HND.out.on hb)
      clear hb HRD HND HHD
      go_wp2_with fail
      refine (CH.out _ _ _ _ _ HRE.out).mono ?_
      rintro e wF ⟨rfl, hwF⟩
      subst hwF
      go_wp2
      go_ret
      exact ⟨rfl, HNE.out.below⟩
set_option maxHeartbeats 1000000 in
theorem big (a : Option Addr) (n cap : Nat) (tss : List (List Re)) (P r p q h k t : Int) (w : World) (hx : IsTrees w (.slice a n cap) tss) (hn : n = tss.length) (hm : n ≤ 9223372036854775807) (hmm : ∀ i, (treeAt tss i).length ≤ 9223372036854775807) (hf : ¬ ((tss.length : Int) + woodN tss) ≤ 1048576) :
    Calls Tryd.prog 3 #[.slice a n cap, .int .i64 P, tapV r p q h k t] w fun e w' => e = .returned (.bool true) ∧ Below w.heap.size w w' := by
  have C : Hid (∀ w', Below w.heap.size w w' → Calls Tryd.prog 4 #[.slice a n cap, .int .i64 1048576] w' fun e w'' => e = .returned (.int .i64 (-1)) ∧ Below w'.heap.size w' w'') := fun w' hb => by
    have e := szTreeS_any _ tss w' (hx.on hb) (by omega) hmm
    rw [szA_no hf] at e
    exact e
  have HB0 : Hid (Below w.heap.size w (w.alloc (boxTL r p q h k t))) := below_alloc w _
  clear hx hn hm hmm hf
  go_enter Tryd.func3, Tryd.ntmps3
  go_wp2_with fail
  refine (C.out _ HB0.out).mono ?_
  rintro e w0 ⟨rfl, hb⟩
  have HB1 := hid_of (below_more HB0.out hb)
  clear C hb HB0
  go_wp2
  go_ret
  exact ⟨rfl, HB1.out⟩
end LTapMove
theorem walkTapMove (a : Option Addr) (n cap : Nat) (tss : List (List Re)) (P r p q h k t : Int) (w : World) (hx : IsTrees w (.slice a n cap) tss) (hn : n = tss.length) (hm : n ≤ maxLen) (hmm : ∀ i, (treeAt tss i).length ≤ maxLen) (hse : Sent w) :
    Calls Tryd.prog 3 #[.slice a n cap, .int .i64 P, tapV r p q h k t] w fun e w' => e = .returned (.bool true) ∧ Below w.heap.size w w' := by
  unfold maxLen at hm hmm
  by_cases h1 : ((tss.length : Int) + woodN tss) ≤ 1048576
  · exact LTapMove.small a n cap tss P r p q h k t w hx hn h1 hse
  · exact LTapMove.big a n cap tss P r p q h k t w hx hn (by omega) (fun i => by have := hmm i; omega) h1
end Go.Proofs.YtlemhlioidmanaaDoor
