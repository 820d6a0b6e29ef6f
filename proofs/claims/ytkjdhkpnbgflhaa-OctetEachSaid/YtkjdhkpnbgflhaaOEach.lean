/-
  octet.Each's function: the iterator's contract.
-/
import Derived.Test.YtkjdhkpnbgflhaaOSeq
import Derived.Test.YtkjdhkpnbgflhaaOEachP
import Derived.Shelf.Abstract
import Derived.Shelf.RegionOpen
import Derived.OwnWalkIn
import Derived.TacticsInMore
import Derived.LoopNIn
import Derived.LoopIn
import Derived.Scope
namespace Go.Proofs.Ytkjdhkpnbgflhaa
open Go.RowKit Go.Shelf
attribute [local go_sem] Oper.semAt_some

def encE (x : Nat × Nat) : Array Value := #[.int .i64 x.1, .int .u64 x.2]
def posAt (w : World) (R : Nat) : Nat := match w.cell? ⟨R, 1, none⟩ with | some v => (intOf v).toNat | none => 0
theorem posAt_rd {w : World} {R i : Nat} {v : Value} (h : Rd w R v i) : posAt w R = i := by
  unfold posAt
  rw [h.pos]
  simp [intOf]
theorem cell_block {W W' : World} {p : Addr} (h : W'.heap[p.block]? = W.heap[p.block]?) : W'.cell? p = W.cell? p := World.cell?_of_block h
theorem BelowAt.kept {W W' : World} {B R : Nat} {oa : Option Addr} {l : List UInt8} (h : BelowAt W R oa l) (hk : Keep B (fun k => ∃ a, oa = some a ∧ k = a.block) W W') : BelowAt W' R oa l := by
  intro j hj
  obtain ⟨a, ha, hR, hc⟩ := h j hj
  have hlt := World.block_lt_of_cell? W _ hc
  refine ⟨a, ha, hR, ?_⟩
  rw [cell_block (hk.same _ hlt (.inr ⟨a, ha, by rw [Addr.add_block]⟩))]
  exact hc
theorem Rd.kept {W W' : World} {B R i : Nat} {G : Nat → Prop} {v : Value} (h : Rd W R v i) (hB : B ≤ R) (hk : Keep B G W W') : Rd W' R v i := by
  have hlt := World.block_lt_of_cell? W _ h.bytes
  have e := hk.same R hlt (.inl hB)
  exact ⟨(cell_block e).trans h.bytes, (cell_block e).trans h.pos, (World.frozen?_of_block e).trans h.free⟩

theorem scope_wide {n : Nat} {P : Program} {c : Code} {Q : Exit → Act → World → Prop} {a : Act} {w : World} (h : c.wpIn Fence.wide n P (Exit.noGoto Q) a w) : (Code.scope c).wpIn Fence.wide n P Q a w :=
  wpIn_wide.2 (wp_scope_straight (wpIn_wide.1 h))

set_option maxRecDepth 100000 in
set_option maxHeartbeats 2000000 in
theorem each1_turns (n : Nat) (hn : 1 ≤ n) (oa : Option Addr) (cap cb : Nat) (l : List UInt8) (w : World) (hcb : w.cell? ⟨cb, 0, none⟩ = some (.slice oa l.length cap)) (hbt : BytesAt w (.slice oa l.length cap) l) (hl : l.length ≤ 1000000) :
    SeqTurns Fence.wide n Try.prog 15 #[.pointer (some ⟨cb, 0, none⟩)] encE (fun k => ∃ a, oa = some a ∧ k = a.block) (fun xs => xs = eachW l 0) (fun xs => xs <+: eachW l 0) w := fun ll J Jx W hW hJ hJx hY h0 => by
  have hcW : W.cell? ⟨cb, 0, none⟩ = some (.slice oa l.length cap) := by
    rw [hW.cell (World.block_lt_of_cell? w _ hcb)]
    exact hcb
  have hcap : l.length ≤ cap := by
    obtain ⟨_, _, he, hc, _⟩ := hbt
    cases he
    exact hc
  have hbW : BytesAt W (.slice oa l.length cap) l := hbt.keep hW (Nat.le_refl _)
  have HBA := Lib.hid (BelowAt.of hbW rfl (((Below.refl W.heap.size W).alloc (Nat.le_refl _) (.cells #[.slice oa l.length cap, .int .i64 0] 48))))
  have HRD := Lib.hid (rd_new W (.slice oa l.length cap))
  have HJ0 := Lib.hid (hJ [] _ _ h0 ((Below.refl W.heap.size W).alloc (Nat.le_refl _) (.cells #[.slice oa l.length cap, .int .i64 0] 48)))
  have HY := Lib.hid hY
  clear hY h0 hbt hbW hW
  refine callsIn_of_wp Try.func15 rfl trivial ?_ rfl
  simp only [Try.ntmps15, List.size_toArray, List.length_cons, List.length_nil, Nat.reduceAdd, Nat.reduceSub, Array.replicate_succ, Array.replicate_zero, List.push_toArray, List.append_toArray, List.nil_append, List.cons_append]
  refine scope_wide ?_
  gi_wp2
  refine wpIn_label ?_
  gi_wp2
  gi_loopw [4, 5, 6] (fun x y z wr => ∃ (pre : List (Nat × Nat)) (i : Nat), Hid (pre ++ eachW l i = eachW l 0) ∧ i ≤ l.length ∧ Hid (Rd wr W.heap.size (.slice oa l.length cap) i) ∧ Hid (BelowAt wr W.heap.size oa l) ∧ Hid (J pre wr) ∧ W.heap.size < wr.heap.size) (fun _ _ _ wr => l.length - posAt wr W.heap.size)
  case atStart => exact ⟨[], 0, Lib.hid rfl, by omega, HRD, HBA, HJ0, by simp⟩
  case round =>
    obtain ⟨pre, i, HP, hi, HR, HB, HJ, hsz⟩ := hrel
    have c1 := HR.out.pos
    cases hrd : readN (l.drop i) with
    | none =>
      have HC := Lib.hid (num_none W.heap.size oa cap i l wr HR.out HB.out hl hcap hi hrd)
      have HE := Lib.hid (HP.out.symm.trans (by rw [eachW_none hrd, List.append_nil]))
      clear hrd hcW hcap hcb
      gi_wp2
      refine ⟨trivial, (callsIn_wide.2 HC.out).mono ?_⟩
      rintro e w1 ⟨rfl, kk, hw⟩
      have HW := Lib.hid hw
      clear hw
      gi_wp2
      simp only [Exit.noGoto]
      go_end0
      exact ⟨⟨_, rfl⟩, .inl ⟨pre, HE.out.symm, hJ _ _ _ HJ.out HW.out.2⟩⟩
    | some x =>
      obtain ⟨m, k⟩ := x
      have hin := readN_in hrd
      have HN := Lib.hid (pre_next hrd HP.out)
      have HC : Hid (CallsIn Fence.wide (n - 1) Try.prog 16 #[.pointer (some ⟨W.heap.size, 0, none⟩)] wr fun e w1 => e = .returned (.tuple #[.int .u64 m, .bool true]) ∧ Hid (RdTo wr W.heap.size (.slice oa l.length cap) (i + k) w1) ∧ YieldAt Fence.wide (n - 1) Try.prog ll #[.int .i64 i, .int .u64 m] w1 fun e W' =>
        (e = .returned (.bool true) ∧ Hid (J (pre ++ [(i, m)]) W') ∧ Hid (Keep W.heap.size (fun k => ∃ a, oa = some a ∧ k = a.block) w1 W')) ∨ (e = .returned (.bool false) ∧ Hid (Jx (pre ++ [(i, m)]) W'))) := Lib.hid ((callsIn_wide.2 (num_some W.heap.size oa cap i l wr m k HR.out HB.out hl hcap hrd)).mono (by
          rintro e w1 ⟨rfl, hw⟩
          have hs := hw.2.size
          exact ⟨rfl, Lib.hid hw, HY.out pre (i, m) w1 (hJ _ _ _ HJ.out hw.2) ⟨_, HN.out⟩ (by omega)⟩))
      clear hrd hcW hcap hcb HY
      gi_wp2
      refine ⟨trivial, HC.out.mono ?_⟩
      rintro e w1 ⟨rfl, HW, fn, tmps, assign, body, hy, hR⟩
      clear HC
      gi_wp2
      refine hR.mono ?_
      rintro e w2 (⟨rfl, HJ2, HK2⟩ | ⟨rfl, HJx2⟩)
      · have HR2 := Lib.hid (HW.out.1.kept (Nat.le_refl _) HK2.out)
        have HB2 := Lib.hid ((HB.out.keep HW.out.2).kept HK2.out)
        have hs2 := HK2.out.size
        have hs1 := HW.out.2.size
        gi_wp2
        go_roundw
        case rel => exact ⟨pre ++ [(i, m)], i + k, HN, by omega, HR2, HB2, HJ2, by omega⟩
        case measure => rw [posAt_rd HR2.out, posAt_rd HR.out]; omega
      · gi_wp2
        simp only [Exit.noGoto]
        go_end0
        exact ⟨⟨_, rfl⟩, .inr ⟨pre ++ [(i, m)], ⟨_, HN.out⟩, HJx2.out⟩⟩
end Go.Proofs.Ytkjdhkpnbgflhaa
