/-
  key's reader: readNull, readInt, readUint, readBool.
-/
import Derived.Test.YtcedeipmboekaaaGreatDoorKNums
import Derived.Test.YtcedeipmboekaaaGreatDoorKEnc
namespace Go.Proofs.YtcedeipmboekaaaGreatDoor
open Go.RowKit

/-- a value has been read, or it gave up -/
def KBody (w : World) (R m : Nat) (s : ByteArray) (i : Nat) (o : Option (Vl × Nat)) (e : Ending) (w' : World) : Prop :=
  match o with
  | some (v, k) => KGot w R m s (i + k) v.val e w'
  | none => KGone w R e w'
theorem kgrown_set {w w1 : World} {row : Option Nat} {B o : Nat} {x : Value} (h : w.grownBy w1 row) (hB : w.heap.size ≤ B) : w.grownBy (w1.setCell ⟨B, o, none⟩ x) row :=
  ⟨h.os, h.tape, h.output, by simpa using h.size, fun k hk hr => by
    rw [← h.block k hk hr]
    unfold World.setCell
    simp only [Array.getElem?_modify]
    rw [if_neg (by omega)]⟩
theorem RdK.set {w1 : World} {R m B o i : Nat} {s : ByteArray} {x : Value} (h : RdK w1 R m s i) (hne : R ≠ B) (hm : m ≠ B) : RdK (w1.setCell ⟨B, o, none⟩ x) R m s i := by
  obtain ⟨h0, h1, h2, h3, h4, h5⟩ := h
  refine ⟨by rw [World.cell?_setCell_far _ _ _ _ (show B ≠ R from fun e => hne e.symm)]; exact h0, by rw [World.cell?_setCell_far _ _ _ _ (show B ≠ R from fun e => hne e.symm)]; exact h1, by rw [World.cell?_setCell_far _ _ _ _ (show B ≠ R from fun e => hne e.symm)]; exact h2, by simp [go_sem, h3], ?_, h5⟩
  unfold World.setCell
  simp only [Array.getElem?_modify]
  rw [if_neg (fun e => hm e.symm)]
  exact h4
theorem RdK.mlt {w : World} {R m i : Nat} {s : ByteArray} (h : RdK w R m s i) : m < w.heap.size := (Array.getElem?_eq_some_iff.1 h.map).1
theorem RdK.alloc {w : World} {R m i : Nat} {s : ByteArray} (h : RdK w R m s i) (o : Obj) : RdK (w.alloc o) R m s i := h.keep ((Below.refl _ _).alloc (Nat.le_refl _) _)
/-- the result's cells -/
structure ResK (w1 : World) (B : Nat) : Prop where
  c0 : w1.cell? ⟨B, 0, none⟩ = some (.int .i64 0)
  c1 : w1.cell? ⟨B, 1, none⟩ = some (.int .i64 0)
  c2 : w1.cell? ⟨B, 2, none⟩ = some (.int .u64 0)
  c3 : w1.cell? ⟨B, 3, none⟩ = some (.string ⟨#[]⟩)
  f : ∀ o, w1.frozen? ⟨B, o, none⟩ = false
theorem resK {w w1 : World} {R : Nat} (hR : R < w.heap.size) (hg : (w.alloc (.cells #[.int .i64 0, .int .i64 0, .int .u64 0, .string ⟨#[]⟩] 42)).grownBy w1 (some R)) : ResK w1 w.heap.size := by
  have q : ∀ o, w1.cell? ⟨w.heap.size, o, none⟩ = (w.alloc (.cells #[.int .i64 0, .int .i64 0, .int .u64 0, .string ⟨#[]⟩] 42)).cell? ⟨w.heap.size, o, none⟩ := fun o => hg.cell_far _ (by simp) (by simp; omega)
  refine ⟨by rw [q]; simp [go_sem], by rw [q]; simp [go_sem], by rw [q]; simp [go_sem], by rw [q]; simp [go_sem], fun o => ?_⟩
  rw [hg.frozen_far _ (by simp) (by simp; omega)]
  simp [go_sem]
/-- four cells stored into the result -/
theorem kgot_res {w w1 : World} {R m i : Nat} {s : ByteArray} {a b c d : Value} {x : Value} (hR : R < w.heap.size) (hm : m < w.heap.size) (hr : RdK w1 R m s i) (hg : (w.alloc (.cells #[.int .i64 0, .int .i64 0, .int .u64 0, .string ⟨#[]⟩] 42)).grownBy w1 (some R)) :
    KGot w R m s i x (.returned x) ((((w1.setCell ⟨w.heap.size, 0, none⟩ a).setCell ⟨w.heap.size, 1, none⟩ b).setCell ⟨w.heap.size, 2, none⟩ c).setCell ⟨w.heap.size, 3, none⟩ d) :=
  ⟨rfl, (((hr.set (by omega) (by omega)).set (by omega) (by omega)).set (by omega) (by omega)).set (by omega) (by omega), kgrown_set (kgrown_set (kgrown_set (kgrown_set ((World.grownBy_alloc w _ _).trans hg) (Nat.le_refl _)) (Nat.le_refl _)) (Nat.le_refl _)) (Nat.le_refl _)⟩
set_option maxRecDepth 100000 in
set_option maxHeartbeats 1000000 in
theorem qreadNull_any (R m : Nat) (s : ByteArray) (i : Nat) (w : World) (hr : RdK w R m s i) :
    Calls Tryz.prog 42 #[.pointer (some ⟨R, 0, none⟩)] w (KBody w R m s i (some (val0, 0))) := by
  have HR := Lib.hid hr
  clear hr
  go_enter Tryz.func42, Tryz.ntmps42
  go_wp2_with fail
  exact bodyPost_ret (v := .agg #[.int .i64 0, .int .i64 0, .int .u64 0, .string ⟨#[]⟩]) (by simp [results, Tryz.results42, go_sem]) rfl ⟨rfl, HR.out.alloc _, World.grownBy_alloc w _ _⟩
set_option maxRecDepth 100000 in
set_option maxHeartbeats 1000000 in
theorem qreadInt_yes (R m : Nat) (s : ByteArray) (i : Nat) (w : World) (hr : RdK w R m s i) (hs : s.size ≤ 1000000) (hi : i + 8 ≤ s.size) :
    Calls Tryz.prog 44 #[.pointer (some ⟨R, 0, none⟩)] w (KBody w R m s i (some (⟨1, (valOf (cutS s i 8) 0 : Nat) - 9223372036854775808, 0, ⟨#[]⟩⟩, 8))) := by
  have hR := hr.lt
  have hM := hr.mlt
  have HC := Lib.hid (qfixedI_yes R m s i 8 _ (hr.alloc (.cells #[.int .i64 0, .int .i64 0, .int .u64 0, .string ⟨#[]⟩] 42)) hs (by decide) (by decide) hi)
  have hlt : valOf (cutS s i 8) 0 < 18446744073709551616 := valOf8_lt _
  obtain ⟨n, hn⟩ : ∃ n, valOf (cutS s i 8) 0 = n := ⟨_, rfl⟩
  rw [hn] at HC hlt ⊢
  have hw : -9223372036854775808 ≤ wrap64 (n : Int) ∧ wrap64 (n : Int) ≤ 9223372036854775807 := by unfold wrap64; omega
  have hx := bits_turn (wrap64 n) hw.1 hw.2
  have hx2 : turnI (wrap64 n) = (n : Int) - 9223372036854775808 := by unfold turnI wrap64; split <;> omega
  rw [hx2] at hx
  obtain ⟨z, hz⟩ : ∃ z, wrap64 (n : Int) = z := ⟨_, rfl⟩
  rw [hz] at HC hx
  obtain ⟨y, hy⟩ : ∃ y, (n : Int) - 9223372036854775808 = y := ⟨_, rfl⟩
  rw [hy] at hx ⊢
  clear hr hn hlt hw hx2 hz hy
  go_enter Tryz.func44, Tryz.ntmps44
  go_wp2_with fail
  refine HC.out.mono ?_
  rintro e w1 ⟨rfl, hr1, hg1⟩
  obtain ⟨c0, c1, c2, c3, f⟩ := resK hR hg1
  have HP := Lib.hid (fun a b c d => kgot_res (x := (⟨1, y, 0, ⟨#[]⟩⟩ : Vl).val) (a := a) (b := b) (c := c) (d := d) hR hM hr1 hg1)
  clear hr1 hg1
  go_wp2_with fail
  exact bodyPost_ret (v := .agg #[.int .i64 1, .int .i64 y, .int .u64 0, .string ⟨#[]⟩]) (by simp [results, Tryz.results44, go_sem, c0, c1, c2, c3]) rfl (HP.out _ _ _ _)
set_option maxRecDepth 100000 in
set_option maxHeartbeats 1000000 in
theorem qreadInt_no (R m : Nat) (s : ByteArray) (i : Nat) (w : World) (hr : RdK w R m s i) (hs : s.size ≤ 1000000) (hi : i ≤ s.size) (hi8 : s.size < i + 8) :
    Calls Tryz.prog 44 #[.pointer (some ⟨R, 0, none⟩)] w (KBody w R m s i none) := by
  have HC := Lib.hid (qfixedI_no R m s i 8 _ (hr.alloc (.cells #[.int .i64 0, .int .i64 0, .int .u64 0, .string ⟨#[]⟩] 42)) hs (by decide) hi hi8)
  clear hr
  go_enter Tryz.func44, Tryz.ntmps44
  go_wp2_with fail
  refine HC.out.mono ?_
  rintro e w1 ⟨⟨t, rfl⟩, hg⟩
  exact ⟨rfl, ⟨_, rfl⟩, (World.grownBy_alloc w _ _).trans hg⟩
set_option maxRecDepth 100000 in
set_option maxHeartbeats 1000000 in
theorem qreadUint_any (R m : Nat) (s : ByteArray) (i : Nat) (w : World) (hr : RdK w R m s i) (hs : s.size ≤ 1000000) (hi : i ≤ s.size) :
    Calls Tryz.prog 46 #[.pointer (some ⟨R, 0, none⟩)] w (KBody w R m s i (match readN (s.data.toList.drop i) with | some (n, k) => some (⟨2, 0, n, ⟨#[]⟩⟩, k) | none => none)) := by
  have hR := hr.lt
  have hM := hr.mlt
  cases hrd : readN (s.data.toList.drop i) with
  | none =>
    have HC := Lib.hid (qnumber_no R m s i _ (hr.alloc (.cells #[.int .i64 0, .int .i64 0, .int .u64 0, .string ⟨#[]⟩] 42)) hs hi hrd)
    clear hr hrd
    go_enter Tryz.func46, Tryz.ntmps46
    go_wp2_with fail
    refine HC.out.mono ?_
    rintro e w1 ⟨⟨t, rfl⟩, hg⟩
    exact ⟨rfl, ⟨_, rfl⟩, (World.grownBy_alloc w _ _).trans hg⟩
  | some x =>
    obtain ⟨n, k⟩ := x
    have HC := Lib.hid (qnumber_yes R m s i n k _ (hr.alloc (.cells #[.int .i64 0, .int .i64 0, .int .u64 0, .string ⟨#[]⟩] 42)) hs hi hrd)
    clear hr hrd
    go_enter Tryz.func46, Tryz.ntmps46
    go_wp2_with fail
    refine HC.out.mono ?_
    rintro e w1 ⟨rfl, hr1, hg1⟩
    obtain ⟨c0, c1, c2, c3, f⟩ := resK hR hg1
    have HP := Lib.hid (fun a b c d => kgot_res (x := (⟨2, 0, n, ⟨#[]⟩⟩ : Vl).val) (a := a) (b := b) (c := c) (d := d) hR hM hr1 hg1)
    clear hr1 hg1
    go_wp2_with fail
    exact bodyPost_ret (v := .agg #[.int .i64 2, .int .i64 0, .int .u64 n, .string ⟨#[]⟩]) (by simp [results, Tryz.results46, go_sem, c0, c1, c2, c3]) rfl (HP.out _ _ _ _)
set_option maxRecDepth 100000 in
set_option maxHeartbeats 1000000 in
theorem qreadBool_yes (R m : Nat) (s : ByteArray) (i : Nat) (w : World) (hr : RdK w R m s i) (hs : s.size ≤ 1000000) (hi : i + 1 ≤ s.size) (x : Nat) (hv : valOf (cutS s i 1) 0 = x) (hx : x ≤ 1) :
    Calls Tryz.prog 48 #[.pointer (some ⟨R, 0, none⟩)] w (KBody w R m s i (some (⟨3, x, 0, ⟨#[]⟩⟩, 1))) := by
  have hR := hr.lt
  have hM := hr.mlt
  have C := qfixedI_yes R m s i 1 _ (hr.alloc (.cells #[.int .i64 0, .int .i64 0, .int .u64 0, .string ⟨#[]⟩] 42)) hs (by decide) (by decide) hi
  rw [hv, show wrap64 (x : Int) = x by unfold wrap64; omega] at C
  have HC := Lib.hid C
  clear hr hv C
  go_enter Tryz.func48, Tryz.ntmps48
  go_wp2_with fail
  refine HC.out.mono ?_
  rintro e w1 ⟨rfl, hr1, hg1⟩
  obtain ⟨c0, c1, c2, c3, f⟩ := resK hR hg1
  have HP := Lib.hid (fun a b c d => kgot_res (x := (⟨3, x, 0, ⟨#[]⟩⟩ : Vl).val) (a := a) (b := b) (c := c) (d := d) hR hM hr1 hg1)
  clear hr1 hg1
  go_wp2_with fail
  exact bodyPost_ret (v := .agg #[.int .i64 3, .int .i64 x, .int .u64 0, .string ⟨#[]⟩]) (by simp [results, Tryz.results48, go_sem, c0, c1, c2, c3]) rfl (HP.out _ _ _ _)
set_option maxRecDepth 100000 in
set_option maxHeartbeats 1000000 in
theorem qreadBool_big (R m : Nat) (s : ByteArray) (i : Nat) (w : World) (hr : RdK w R m s i) (hs : s.size ≤ 1000000) (hi : i + 1 ≤ s.size) (x : Nat) (hv : valOf (cutS s i 1) 0 = x) (hx : 1 < x) (hx2 : x < 256) :
    Calls Tryz.prog 48 #[.pointer (some ⟨R, 0, none⟩)] w (KBody w R m s i none) := by
  have C := qfixedI_yes R m s i 1 _ (hr.alloc (.cells #[.int .i64 0, .int .i64 0, .int .u64 0, .string ⟨#[]⟩] 42)) hs (by decide) (by decide) hi
  rw [hv, show wrap64 (x : Int) = x by unfold wrap64; omega] at C
  have HC := Lib.hid C
  have hx3 : 1 < (x : Int) := by omega
  clear hr hv C
  go_enter Tryz.func48, Tryz.ntmps48
  go_wp2_with fail
  refine HC.out.mono ?_
  rintro e w1 ⟨rfl, hr1, hg1⟩
  have HG := Lib.hid ((World.grownBy_alloc w _ _).trans hg1)
  clear hr1 hg1
  go_wp2_with fail
  exact ⟨rfl, ⟨_, rfl⟩, HG.out⟩
set_option maxRecDepth 100000 in
set_option maxHeartbeats 1000000 in
theorem qreadBool_no (R m : Nat) (s : ByteArray) (w : World) (hr : RdK w R m s s.size) (hs : s.size ≤ 1000000) :
    Calls Tryz.prog 48 #[.pointer (some ⟨R, 0, none⟩)] w (KBody w R m s s.size none) := by
  have HC := Lib.hid (qfixedI_no R m s s.size 1 _ (hr.alloc (.cells #[.int .i64 0, .int .i64 0, .int .u64 0, .string ⟨#[]⟩] 42)) hs (by decide) (Nat.le_refl _) (by omega))
  clear hr
  go_enter Tryz.func48, Tryz.ntmps48
  go_wp2_with fail
  refine HC.out.mono ?_
  rintro e w1 ⟨⟨t, rfl⟩, hg⟩
  exact ⟨rfl, ⟨_, rfl⟩, (World.grownBy_alloc w _ _).trans hg⟩
end Go.Proofs.YtcedeipmboekaaaGreatDoor
