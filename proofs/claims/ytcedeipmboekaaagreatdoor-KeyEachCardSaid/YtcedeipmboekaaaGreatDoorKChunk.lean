/-
  slices.Chunk[[]byte] of eight: the iterator's contract.
-/
import Derived.Test.YtcedeipmboekaaaGreatDoorSeqX
import Derived.Test.YtcedeipmboekaaaGreatDoorKMap
import Derived.Shelf.Abstract
import Derived.Shelf.RegionOpen
import Derived.OwnWalkIn
import Derived.TacticsInMore
import Derived.LoopNIn
import Derived.LoopIn
import Derived.Lib.MinMax
import Derived.IntWalk
namespace Go.Proofs.YtcedeipmboekaaaGreatDoor
open Go.RowKit Go.Shelf
attribute [local go_sem] Oper.semAt_some

/-- chunk k of eight bytes -/
def encC (a : Addr) (L k : Nat) : Array Value := #[.slice (some (a.add (8 * k))) (min 8 (L - 8 * k)) (min 8 (L - 8 * k))]
def SpC (L : Nat) (pre : List Nat) : Prop := ∃ k, pre = List.range k ∧ k ≤ (L + 7) / 8
set_option maxRecDepth 100000 in
set_option maxHeartbeats 2000000 in
theorem chunk1_turns (n : Nat) (hn : 1 ≤ n) (pb pn : Nat) (a : Addr) (L cap : Nat) (w : World) (hb : w.cell? ⟨pb, 0, none⟩ = some (.slice (some a) L cap)) (h8 : w.cell? ⟨pn, 0, none⟩ = some (.int .i64 8)) (hL : L ≤ 1000) (hc : L ≤ cap) :
    SeqTurnsX Fence.wide n Tryz.prog 95 #[] #[.pointer (some ⟨pb, 0, none⟩), .pointer (some ⟨pn, 0, none⟩)] (encC a L) (fun k => k = pb ∨ k = pn) 0 (fun xs => xs = List.range ((L + 7) / 8)) (SpC L) (fun _ _ => True) w := fun ll J Jx W hW hJ hJx hY h0 => by
  have HY := Lib.hid hY
  have HJ0 := Lib.hid h0
  have lb := World.block_lt_of_cell? w _ hb
  have l8 := World.block_lt_of_cell? w _ h8
  have hb0 : W.cell? ⟨pb, 0, none⟩ = some (.slice (some a) L cap) := (hW.cell lb).trans hb
  have h80 : W.cell? ⟨pn, 0, none⟩ = some (.int .i64 8) := (hW.cell l8).trans h8
  have hsW := hW.size
  clear hY h0 hW hb h8
  refine callsIn_of_wp Tryz.func95 rfl trivial ?_ rfl
  simp only [Tryz.ntmps95, List.size_toArray, List.length_cons, List.length_nil, Nat.reduceAdd, Nat.reduceSub, Array.replicate_succ, Array.replicate_zero, List.push_toArray, List.append_toArray, List.nil_append, List.cons_append]
  gi_wp2
  gi_loopw [4] (fun i wr => ∃ k q : Nat, Hid (q = 8 * k) ∧ k ≤ (L + 7) / 8 ∧ i = .int .i64 (q : Int) ∧ Hid (J (List.range k) wr) ∧ W.heap.size ≤ wr.heap.size ∧ wr.cell? ⟨pb, 0, none⟩ = some (.slice (some a) L cap) ∧ wr.cell? ⟨pn, 0, none⟩ = some (.int .i64 8)) (fun i _ => L + 8 - (intOf i).toNat)
  case atStart => exact ⟨0, 0, Lib.hid rfl, by omega, rfl, HJ0, Nat.le_refl _, hb0, h80⟩
  case round =>
    obtain ⟨k, q, HQ, hk, rfl, HJ1, hs1, hb1, h81⟩ := hrel
    clear HJ0 hb0 h80
    by_cases hlt : q < L
    · have hcq : ¬ cap = q := by omega
      obtain ⟨m, hm⟩ : ∃ m : Nat, m = min 8 (L - q) := ⟨_, rfl⟩
      have HM : Hid (min 8 ((L - q : Nat) : Int) = (m : Int)) := Lib.hid (by omega)
      have hm1 : 1 ≤ m := by omega
      have hm2 : q + m ≤ L := by omega
      have hm3 : ¬ q + m = q := by omega
      have hm8 : m ≤ 8 := by omega
      have HQ2 := HQ.out
      have hke : encC a L k = #[.slice (some (a.add q)) m m] := by unfold encC; rw [← HQ2, ← hm]
      have HYk : Hid (∀ nq, YieldAt Fence.wide (n - 1) Tryz.prog ll #[.slice (some (a.add q)) m m] (wr.drewN nq) fun e W' =>
          (e = .returned (.bool true) ∧ Hid (J (List.range (k + 1)) W') ∧ W.heap.size ≤ W'.heap.size ∧ W'.cell? ⟨pb, 0, none⟩ = some (.slice (some a) L cap) ∧ W'.cell? ⟨pn, 0, none⟩ = some (.int .i64 8)) ∨ (e = .returned (.bool false) ∧ Hid (Jx (List.range (k + 1)) W'))) := Lib.hid fun nq => by
        have h := HY.out (List.range k) k (wr.drewN nq) (hJ.ext _ _ _ HJ1.out (below_drewN (Below.refl _ wr) nq)) ⟨k + 1, by rw [List.range_succ], by omega⟩ trivial (by simpa using hs1)
        rw [hke, ← List.range_succ (n := k)] at h
        refine h.mono ?_
        rintro e W' (⟨rfl, hj, hk4⟩ | ⟨rfl, hj, _⟩)
        · refine .inl ⟨rfl, Lib.hid hj, by have := hk4.size; simp at this; omega, ?_, ?_⟩
          · exact (World.cell?_of_block (a := ⟨pb, 0, none⟩) (hk4.same pb (by simp; omega) (.inr (.inl rfl)))).trans (by simpa using hb1)
          · exact (World.cell?_of_block (a := ⟨pn, 0, none⟩) (hk4.same pn (by simp; omega) (.inr (.inr rfl)))).trans (by simpa using h81)
        · exact .inr ⟨rfl, Lib.hid hj⟩
      clear hm HQ2 hke
      gi_wp2
      gi_quiet (fail)
      simp only [HM.out]
      obtain ⟨fn, tmps, assign, body, hy, hR⟩ := HYk.out nq
      gi_wp2
      refine hR.mono ?_
      rintro e w4 (⟨rfl, HJ4, hs4, hb4, h84⟩ | ⟨rfl, HJ4⟩)
      · clear hy hR hb1 h81 HYk
        gi_wp2
        go_roundw
        case rel =>
          have := HQ.out
          exact ⟨k + 1, q + 8, Lib.hid (by omega), by omega, by go_num, HJ4, hs4, hb4, h84⟩
        case measure => simp [intOf]; omega
      · clear hy hR
        gi_wp2
        refine bodyPost_ret (results_none rfl _ _ _) rfl ?_
        have := HQ.out
        exact ⟨⟨_, rfl⟩, .inr ⟨List.range (k + 1), ⟨k + 1, rfl, by omega⟩, HJ4.out⟩⟩
    · gi_wp2
      go_end0
      have := HQ.out
      exact ⟨⟨_, rfl⟩, .inl ⟨_, by rw [show (L + 7) / 8 = k by omega], HJ1.out⟩⟩
end Go.Proofs.YtcedeipmboekaaaGreatDoor
