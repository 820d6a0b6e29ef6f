/-
  value.pieces: the iterator's contract.
-/
import Derived.Test.YtifmfcaaofiboaaGreatDoorPieP
import Derived.Test.YtifmfcaaofiboaaGreatDoorKSqs
import Derived.Test.YtifmfcaaofiboaaGreatDoorShelf
import Derived.OwnWalkIn
import Derived.TacticsInMore
import Derived.LoopNIn
import Derived.LoopIn
import Derived.Scope
import Derived.WalkSmall
namespace Go.Proofs.YtifmfcaaofiboaaGreatDoor
open Go.RowKit Go.Shelf
attribute [local go_sem] Oper.semAt_some

def encP (x : Nat × List UInt8) : Array Value := #[.int .i64 x.1, .string ⟨x.2.toArray⟩]
/-- what strings.Cut tells -/
def CutAt (W : World) (r : List UInt8) : Prop := Calls Tryz.prog 92 #[.string ⟨r.toArray⟩, .string ⟨#[44, 32]⟩] W fun e w' => e = .returned (.tuple #[.string ⟨(Lib.cut r [44, 32]).1.toArray⟩, .string ⟨(Lib.cut r [44, 32]).2.1.toArray⟩, .bool (Lib.cut r [44, 32]).2.2]) ∧ Below W.heap.size W w'
theorem cut_at {W : World} {r : List UInt8} (hr : r.length ≤ 100000) (mx : Int) (h : W.cell? ⟨2, 0, none⟩ = some (.int .i64 mx)) : CutAt W r := by
  have hs : (⟨r.toArray⟩ : ByteArray).size = r.length := by simp [ByteArray.size]
  refine (Tryz.strings_Cut ⟨r.toArray⟩ ⟨#[44, 32]⟩ mx W (by omega) h).mono ?_
  rintro e w' ⟨rfl, q, rfl⟩
  exact ⟨rfl, below_drewN (Below.refl _ W) q⟩
set_option maxRecDepth 100000 in
set_option maxHeartbeats 2000000 in
theorem pie_turns (n : Nat) (hn : 1 ≤ n) (c0 : Nat) (s : List UInt8) (hs : s.length ≤ 100000) (mx : Int) (w : World) (h0 : w.cell? ⟨c0, 0, none⟩ = some (.string ⟨s.toArray⟩)) (h2 : w.cell? ⟨2, 0, none⟩ = some (.int .i64 mx))
    (G : Nat → Prop) (hGl : ∀ k, G k → k < w.heap.size) (hG2 : G 2) :
    SeqTurns Fence.wide n Tryz.prog 91 #[.pointer (some ⟨c0, 0, none⟩)] encP G (fun xs => xs = pieW 0 s) (fun xs => xs <+: pieW 0 s) w := fun ll J Jx W hW hJ hJx hY hJ0 => by
  have HY := Lib.hid hY
  have k0 : W.cell? ⟨c0, 0, none⟩ = some (.string ⟨s.toArray⟩) := (hW.cell (World.block_lt_of_cell? w _ h0)).trans h0
  have HJ0 := Lib.hid hJ0
  have HK0 : Hid (∀ k, G k → W.heap[k]? = w.heap[k]?) := Lib.hid fun k hk => hW.block k (hGl k hk)
  have HGL : Hid (∀ k, G k → k < W.heap.size) := Lib.hid fun k hk => Nat.lt_of_lt_of_le (hGl k hk) hW.size
  have HCT : Hid (∀ (V : World) (r : List UInt8), (∀ k, G k → V.heap[k]? = w.heap[k]?) → r.length ≤ 100000 → CutAt V r) := Lib.hid fun V r hV hr => cut_at hr mx ((World.cell?_of_block (hV _ hG2)).trans h2)
  clear hY hJ0 hGl h0 h2 hW hG2
  refine callsIn_of_wp Tryz.func91 rfl trivial ?_ rfl
  simp only [Tryz.ntmps91, List.size_toArray, List.length_cons, List.length_nil, Nat.reduceAdd, Nat.reduceSub, Array.replicate_succ, Array.replicate_zero, List.push_toArray, List.append_toArray, List.nil_append, List.cons_append]
  gi_wp2
  gi_loopw [3, 4, 5] (fun x y z wr => ∃ (pre : List (Nat × List UInt8)) (r : List UInt8) (m : Bool) (i : Nat), x = .string ⟨r.toArray⟩ ∧ y = .bool m ∧ z = .int .i64 i ∧ Hid (pre ++ pieR m i r = pieW 0 s) ∧ r.length ≤ s.length ∧ i ≤ s.length + 1 ∧ Hid (m = true → i + r.length ≤ s.length) ∧ Hid (∀ k, G k → wr.heap[k]? = w.heap[k]?) ∧ Hid (J pre wr) ∧ W.heap.size ≤ wr.heap.size) (fun x y _ _ => muPie x y)
  case atStart => exact ⟨[], s, true, 0, rfl, rfl, rfl, Lib.hid rfl, Nat.le_refl _, by omega, Lib.hid fun _ => by omega, HK0, HJ0, Nat.le_refl _⟩
  case round =>
    obtain ⟨pre, r, m, i, rfl, rfl, rfl, HP, hr, hi, HI, HK, HJ, hsz⟩ := hrel
    cases m with
    | false =>
      have HE := Lib.hid (show pre = pieW 0 s from (List.append_nil pre).symm.trans HP.out)
      gi_wp2
      go_end0
      exact ⟨⟨_, rfl⟩, .inl ⟨pre, HE.out, HJ.out⟩⟩
    | true =>
      have HN := Lib.hid (pieR_next HP.out)
      have HM := Lib.hid (muPie_less (s := r))
      have hir := HI.out rfl
      have HI2 : Hid ((Lib.cut r [44, 32]).2.2 = true → i + 1 + (Lib.cut r [44, 32]).2.1.length ≤ s.length) := Lib.hid fun h => by have := cut_less h; omega
      have hr2 := Nat.le_trans (cut_rest_le r) hr
      have HC : Hid (CallsIn Fence.wide (n - 1) Tryz.prog 92 #[.string ⟨r.toArray⟩, .string ⟨#[44, 32]⟩] wr fun e w1 => e = .returned (.tuple #[.string ⟨(Lib.cut r [44, 32]).1.toArray⟩, .string ⟨(Lib.cut r [44, 32]).2.1.toArray⟩, .bool (Lib.cut r [44, 32]).2.2]) ∧ Hid (Below wr.heap.size wr w1) ∧ YieldAt Fence.wide (n - 1) Tryz.prog ll #[.int .i64 i, .string ⟨(Lib.cut r [44, 32]).1.toArray⟩] w1 fun e W' =>
        (e = .returned (.bool true) ∧ Hid (J (pre ++ [(i, (Lib.cut r [44, 32]).1)]) W') ∧ Hid (Keep W.heap.size G w1 W')) ∨ (e = .returned (.bool false) ∧ Hid (Jx (pre ++ [(i, (Lib.cut r [44, 32]).1)]) W') ∧ Hid (Keep W.heap.size G w1 W'))) := Lib.hid ((callsIn_wide.2 (HCT.out wr r HK.out (by omega))).mono (by
          rintro e w1 ⟨rfl, hw⟩
          have hs := hw.size
          exact ⟨rfl, Lib.hid hw, HY.out pre (i, (Lib.cut r [44, 32]).1) w1 (hJ _ _ _ HJ.out (hw.mono hsz)) ⟨_, HN.out⟩ (by omega)⟩))
      have hrl : (⟨r.toArray⟩ : ByteArray).size = r.length := by simp [ByteArray.size]
      have HRL := Lib.hid hrl
      clear HY HI HP hrl k0
      generalize hc : Lib.cut r [44, 32] = c at *
      obtain ⟨p, r2, m2⟩ := c
      clear hc
      dsimp only at HN HM HI2 hr2 HC
      gi_wp2
      refine ⟨trivial, HC.out.mono ?_⟩
      rintro e w1 ⟨rfl, HW, fn, tmps, assign, body, hy, hR⟩
      clear HC
      gi_wp2
      refine hR.mono ?_
      rintro e w2 (⟨rfl, HJ2, HK2⟩ | ⟨rfl, HJx2, HK2⟩)
      · have HK3 : Hid (∀ k, G k → w2.heap[k]? = w.heap[k]?) := Lib.hid fun k hk => by
          have hl1 := HGL.out k hk
          rw [HK2.out.same k (by have := HW.out.size; omega) (.inr hk), HW.out.block k (by omega)]
          exact HK.out k hk
        have hs2 := HK2.out.size
        have hs1 := HW.out.size
        gi_wp2
        go_roundw
        case rel => exact ⟨pre ++ [(i, p)], r2, m2, i + 1, rfl, rfl, by go_num, HN, hr2, by omega, HI2, HK3, HJ2, by omega⟩
        case measure => rw [muPie_true, HRL.out]; exact HM.out
      · gi_wp2
        refine bodyPost_ret (results_none rfl _ _ _) rfl ?_
        exact ⟨⟨_, rfl⟩, .inr ⟨pre ++ [(i, p)], ⟨_, HN.out⟩, HJx2.out⟩⟩
end Go.Proofs.YtifmfcaaofiboaaGreatDoor
