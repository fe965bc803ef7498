/-
  Two things held against each other: the model, all of it.
-/
import Derived.Test.YtfjgbncbcmgjiabSameS0
import Derived.Test.YtfjgbncbcmgjiabSameS1
import Derived.Test.YtfjgbncbcmgjiabSameS2
import Derived.Test.YtfjgbncbcmgjiabSameS3
import Derived.Test.YtfjgbncbcmgjiabSameSP
namespace Go.Proofs.Ytfjgbncbcmgjiab
open Go.RowKit
set_option linter.unusedVariables false
set_option linter.unusedSimpArgs false

theorem specSame_any (a b : Ob) (l d m l' d' m' : Value) (w : World) (hx : Lists w l d m a) (hy : Lists w l' d' m' b) (hn : obN a ≤ 1048576) :
    Calls Try.prog 45 #[obV a l d m, obV b l' d' m'] w fun e w' => e = .returned (.bool (sameO a b)) ∧ Below w.heap.size w w' := by
  cases v0 : (a.gen != b.gen) with
  | true =>
    have e : sameO a b = false := by
      have h : (a.gen == b.gen) = false := by simpa [bne] using v0
      simp [sameO, sameF, h]
    rw [e]
    exact specSame_no0 a b l d m l' d' m' w hx hy hn  v0
  | false =>
  cases v1 : (a.kind != b.kind) with
  | true =>
    have e : sameO a b = false := by
      have h : (a.kind == b.kind) = false := by simpa [bne] using v1
      simp [sameO, sameF, h]
    rw [e]
    exact specSame_no1 a b l d m l' d' m' w hx hy hn v0 v1
  | false =>
  cases v2 : (a.into != b.into) with
  | true =>
    have e : sameO a b = false := by
      have h : (a.into == b.into) = false := by simpa [bne] using v2
      simp [sameO, sameF, h]
    rw [e]
    exact specSame_no2 a b l d m l' d' m' w hx hy hn v0 v1 v2
  | false =>
  cases v3 : (a.res != b.res) with
  | true =>
    have e : sameO a b = false := by
      have h : (a.res == b.res) = false := by simpa [bne] using v3
      simp [sameO, sameF, h]
    rw [e]
    exact specSame_no3 a b l d m l' d' m' w hx hy hn v0 v1 v2 v3
  | false =>
  cases v4 : (a.unt != b.unt) with
  | true =>
    have e : sameO a b = false := by
      have h : (a.unt == b.unt) = false := by simpa [bne] using v4
      simp [sameO, sameF, h]
    rw [e]
    exact specSame_no4 a b l d m l' d' m' w hx hy hn v0 v1 v2 v3 v4
  | false =>
  cases v5 : (a.pages != b.pages) with
  | true =>
    have e : sameO a b = false := by
      have h : (a.pages == b.pages) = false := by simpa [bne] using v5
      simp [sameO, sameF, h]
    rw [e]
    exact specSame_no5 a b l d m l' d' m' w hx hy hn v0 v1 v2 v3 v4 v5
  | false =>
  cases v6 : (a.wait != b.wait) with
  | true =>
    have e : sameO a b = false := by
      have h : (a.wait == b.wait) = false := by simpa [bne] using v6
      simp [sameO, sameF, h]
    rw [e]
    exact specSame_no6 a b l d m l' d' m' w hx hy hn v0 v1 v2 v3 v4 v5 v6
  | false =>
  cases v7 : (a.got != b.got) with
  | true =>
    have e : sameO a b = false := by
      have h : (a.got == b.got) = false := by simpa [bne] using v7
      simp [sameO, sameF, h]
    rw [e]
    exact specSame_no7 a b l d m l' d' m' w hx hy hn v0 v1 v2 v3 v4 v5 v6 v7
  | false =>
  cases v8 : (a.ran != b.ran) with
  | true =>
    have e : sameO a b = false := by
      have h : (a.ran == b.ran) = false := by simpa [bne] using v8
      simp [sameO, sameF, h]
    rw [e]
    exact specSame_no8 a b l d m l' d' m' w hx hy hn v0 v1 v2 v3 v4 v5 v6 v7 v8
  | false =>
  by_cases v9 : a.mark = b.mark
  case neg =>
    have e : sameO a b = false := by simp [sameO, v9]
    rw [e]
    exact specSame_no9 a b l d m l' d' m' w hx hy hn v0 v1 v2 v3 v4 v5 v6 v7 v8 v9
  have f : sameO a b = (sameInts a.ls b.ls && (sameInts a.ds b.ds && sameMsgs a.qs b.qs)) := by
    simp only [bne_eq_false_iff_eq] at v0 v1 v2 v3 v4 v5 v6 v7 v8
    simp [sameO, sameF, v9, v0, v1, v2, v3, v4, v5, v6, v7, v8]
  rw [f]
  by_cases y0 : a.ls.length = b.ls.length
  case neg =>
    have h : sameInts a.ls b.ls = false := sameInts_no (fun e => y0 (by rw [e]))
    have e : (sameInts a.ls b.ls && (sameInts a.ds b.ds && sameMsgs a.qs b.qs)) = false := by simp [h]
    rw [e]
    exact specSame_no10 a b l d m l' d' m' w hx hy hn v0 v1 v2 v3 v4 v5 v6 v7 v8 v9  y0
  by_cases y1 : a.ds.length = b.ds.length
  case neg =>
    have h : sameInts a.ds b.ds = false := sameInts_no (fun e => y1 (by rw [e]))
    have e : (sameInts a.ls b.ls && (sameInts a.ds b.ds && sameMsgs a.qs b.qs)) = false := by simp [h]
    rw [e]
    exact specSame_no11 a b l d m l' d' m' w hx hy hn v0 v1 v2 v3 v4 v5 v6 v7 v8 v9 y0 y1
  by_cases y2 : a.qs.length = b.qs.length
  case neg =>
    have h : sameMsgs a.qs b.qs = false := sameMsgs_no (fun e => y2 (by have e2 := congrArg List.length e; simpa using e2))
    have e : (sameInts a.ls b.ls && (sameInts a.ds b.ds && sameMsgs a.qs b.qs)) = false := by simp [h]
    rw [e]
    exact specSame_no12 a b l d m l' d' m' w hx hy hn v0 v1 v2 v3 v4 v5 v6 v7 v8 v9 y0 y1 y2
  exact specSame_rest a b l d m l' d' m' w hx hy hn v0 v1 v2 v3 v4 v5 v6 v7 v8 v9 y0 y1 y2
end Go.Proofs.Ytfjgbncbcmgjiab
